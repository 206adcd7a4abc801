/- What the document's Cut leans on: each token's kind by its first byte; a text that is too long. -/
import Derived.Test.YtnofibjchhcmeaaLongest
import Derived.Test.YtnofibjchhcmeaaNumR
import Derived.Test.YtnofibjchhcmeaaCut
namespace Go.Proofs.Ytnofibjchhcmeaa
open Go.RowKit
set_option linter.unusedVariables false

/-- what is gathered, and what its text is -/
theorem tok_cases (b : UInt8) (T : List UInt8) : ∃ n, longL (b :: T) = n ∧
    ((isD b = true ∧ areD ((b :: T).take n) = true ∧ tokOf (b :: T) = numTok (b :: T) ∧ ga dgStep () (b :: T) = n ∧ 1 ≤ n) ∨
     (isD b = false ∧ isL b = true ∧ areD ((b :: T).take n) = false ∧ rowC ((b :: T).take n) = true ∧ tokOf (b :: T) = wordTok (b :: T) ∧ ga alStep () (b :: T) = n ∧ 1 ≤ n) ∨
     (isD b = false ∧ isL b = false ∧ (1 ≤ n → areD ((b :: T).take n) = false ∧ rowC ((b :: T).take n) = false ∧ isW ((b :: T).take n) = false) ∧ tokOf (b :: T) = signTok (b :: T) ∧ ga sgStep [] (b :: T) = n)) := by
  refine ⟨_, rfl, ?_⟩
  have e0 : tokOf (b :: T) = if isD b = true then numTok (b :: T) else if isL b = true then wordTok (b :: T) else signTok (b :: T) := rfl
  rw [e0, longL_cons]
  rcases hd : isD b with _ | _
  · rcases hl : isL b with _ | _
    · right; right
      simp only [Bool.false_eq_true, if_false]
      refine ⟨by first | rfl | trivial, by first | rfl | trivial, fun h1 => ?_, by first | rfl | trivial, by first | rfl | trivial⟩
      refine ⟨?_, ?_, ?_⟩
      · unfold areD; rw [head_no b T _ h1 isD hd]; simp
      · unfold rowC; rw [head_no b T _ h1 isA (by unfold isA; rw [hl, hd]; rfl)]; simp
      · rw [Bool.eq_false_iff]
        intro hw
        have hm := List.contains_iff_mem.1 hw
        obtain ⟨n', hn'⟩ : ∃ n', ga sgStep [] (b :: T) = n' + 1 := ⟨_, (Nat.sub_add_cancel h1).symm⟩
        rw [hn', List.take_succ_cons] at hm
        unfold wordsL at hm
        simp only [List.mem_cons, List.not_mem_nil, or_false] at hm
        rcases hm with e | e | e | e | e | e | e | e | e | e | e <;> (injection e with e1 _; subst e1; revert hl; decide)
    · right; left
      simp only [Bool.false_eq_true, if_false, if_true]
      have h1 : 1 ≤ ga alStep () (b :: T) := ga_pos alStep () b T (by show isA b = true; unfold isA; rw [hl]; rfl)
      have hall := ga_unit isA (b :: T) (ga alStep () (b :: T)) (ga alStep () (b :: T)) (Nat.le_refl _) (Nat.le_refl _)
      refine ⟨by first | rfl | trivial, by first | rfl | trivial, ?_, ?_, by first | rfl | trivial, by first | rfl | trivial, h1⟩
      · unfold areD; rw [head_no b T _ h1 isD hd]; simp
      · unfold rowC; rw [hall, ne_take b T _ h1, headD_take b T _ h1, hd]; rfl
  · left
    simp only [if_true]
    have h1 : 1 ≤ ga dgStep () (b :: T) := ga_pos dgStep () b T hd
    have hall := ga_unit isD (b :: T) (ga dgStep () (b :: T)) (ga dgStep () (b :: T)) (Nat.le_refl _) (Nat.le_refl _)
    refine ⟨by first | rfl | trivial, ?_, by first | rfl | trivial, by first | rfl | trivial, h1⟩
    unfold areD; rw [hall, ne_take b T _ h1]; rfl

theorem heap_drewN (w : World) (n : Nat) : (w.drewN n).heap = w.heap := by
  induction n with
  | zero => rfl
  | succ n ih => exact ih
theorem below_drewN {B : Nat} {w w' : World} (h : Below B w w') (n : Nat) : Below B w (w'.drewN n) := by
  induction n with
  | zero => exact h
  | succ n ih => exact ih.drew

/-- what comes of a text, told by the document: the same, without a cutter -/
theorem rcut_long (s : ByteArray) (w : World) (hs : 8192 < s.size) (hm : s.size ≤ maxLen) :
    Calls Try.prog 9 #[.string s] w fun e w' => CutPost w (.err 0 30) e w' := by
  unfold maxLen at hm
  go_enter Try.func9, Try.ntmps9
  go_wp2
  go_returns
  exact ⟨rfl, Below.refl _ _⟩
end Go.Proofs.Ytnofibjchhcmeaa
