/- The document's answers on names and words. -/
import Derived.Test.YtnofibjchhcmeaaName
namespace Go.Proofs.Ytnofibjchhcmeaa
open Go.RowKit
set_option linter.unusedVariables false

theorem rdigit_any (b : UInt8) (w : World) :
    Calls Try.prog 33 #[.int .u8 (b.toNat : Int)] w fun e w' => e = .returned (.bool (isD b)) ∧ w' = w := by
  by_cases h1 : 48 ≤ b.toNat
  · have h : isD b = decide ((b.toNat : Int) ≤ 57) := by
      by_cases h2 : b.toNat ≤ 57
      · rw [show isD b = true by simp [isD]; omega]; symm; exact decide_eq_true (by omega)
      · rw [show isD b = false by simp [isD]; omega]; symm; exact decide_eq_false (by omega)
    rw [h]
    clear h
    go_enter Try.func33, Try.ntmps33
    go_wp2
    go_ret
    exact ⟨rfl, rfl⟩
  · have h : isD b = false := by simp [isD]; omega
    rw [h]
    clear h
    go_enter Try.func33, Try.ntmps33
    go_wp2
    go_ret
    refine ⟨congrArg (fun x => Ending.returned (Value.bool x)) ?_, rfl⟩
    first | rfl | exact decide_eq_true (by omega) | exact decide_eq_false (by omega)

theorem rletter_any (b : UInt8) (w : World) :
    Calls Try.prog 24 #[.int .u8 (b.toNat : Int)] w fun e w' => e = .returned (.bool (isL b)) ∧ w' = w := by
  have key : isL b = true ∨ isL b = false := by cases isL b <;> simp
  by_cases h1 : (97 : Int) ≤ b.toNat
  · by_cases h2 : (b.toNat : Int) ≤ 122
    · have h : isL b = true := by simp [isL]; omega
      rw [h]
      clear h
      go_enter Try.func24, Try.ntmps24
      go_wp2
      go_ret
      refine ⟨congrArg (fun x => Ending.returned (Value.bool x)) ?_, rfl⟩
      first | rfl | exact decide_eq_true (by omega) | exact decide_eq_false (by omega)
    · have h3 : (65 : Int) ≤ b.toNat := by omega
      have h4 : ¬ (b.toNat : Int) ≤ 90 := by omega
      have h5 : ((b.toNat : Int) == 95) = false := by simp; omega
      have h6 : decide ((b.toNat : Int) ≤ 122) = false := decide_eq_false h2
      have h7 : decide ((b.toNat : Int) ≤ 90) = false := decide_eq_false h4
      have h : isL b = false := by simp [isL]; omega
      rw [h]
      clear h
      go_enter Try.func24, Try.ntmps24
      go_wp2
      go_ret
      refine ⟨congrArg (fun x => Ending.returned (Value.bool x)) ?_, rfl⟩
      first | rfl | (simp only [h5, h6, h7]; rfl)
  · by_cases h3 : (65 : Int) ≤ b.toNat
    · by_cases h4 : (b.toNat : Int) ≤ 90
      · have h : isL b = true := by simp [isL]; omega
        rw [h]
        clear h
        go_enter Try.func24, Try.ntmps24
        go_wp2
        go_ret
        refine ⟨congrArg (fun x => Ending.returned (Value.bool x)) ?_, rfl⟩
        first | rfl | exact decide_eq_true (by omega) | exact decide_eq_false (by omega)
      · have h7 : decide ((b.toNat : Int) ≤ 90) = false := decide_eq_false h4
        have h : isL b = ((b.toNat : Int) == 95) := by
          by_cases h5 : b.toNat = 95
          · rw [h5, show isL b = true by simp [isL]; omega]; rfl
          · rw [show isL b = false by simp [isL]; omega]; symm; simp; omega
        rw [h]
        clear h
        go_enter Try.func24, Try.ntmps24
        go_wp2
        go_ret
        refine ⟨congrArg (fun x => Ending.returned (Value.bool x)) ?_, rfl⟩
        first | rfl | (simp only [h7]; rfl)
    · have h5 : ((b.toNat : Int) == 95) = false := by simp; omega
      have h : isL b = false := by simp [isL]; omega
      rw [h]
      clear h
      go_enter Try.func24, Try.ntmps24
      go_wp2
      go_ret
      refine ⟨congrArg (fun x => Ending.returned (Value.bool x)) ?_, rfl⟩
      first | rfl | exact h5


set_option maxHeartbeats 4000000 in
theorem rwords_yes (s : ByteArray) (w : World) (h : isW s.toList = true) :
    Calls Try.prog 15 #[.string s] w fun e w' => e = .returned (.bool true) ∧ Below w.heap.size w w' := by
  have hm : s.toList ∈ wordsL := List.contains_iff_mem.1 h
  unfold wordsL at hm
  simp only [List.mem_cons, List.not_mem_nil, or_false] at hm
  clear h
  rcases hm with e | e | e | e | e | e | e | e | e | e | e
  · have e2 := ba_of _ _ e
    clear e
    subst e2
    go_enter Try.func15, Try.ntmps15
    go_wp2
    go_rounds 3
    go_ret
    exact ⟨rfl, (Below.refl _ _).alloc (Nat.le_refl _) _⟩
  · have e2 := ba_of _ _ e
    clear e
    subst e2
    go_enter Try.func15, Try.ntmps15
    go_wp2
    go_rounds 2
    go_ret
    exact ⟨rfl, (Below.refl _ _).alloc (Nat.le_refl _) _⟩
  · have e2 := ba_of _ _ e
    clear e
    subst e2
    go_enter Try.func15, Try.ntmps15
    go_wp2
    go_rounds 6
    go_ret
    exact ⟨rfl, (Below.refl _ _).alloc (Nat.le_refl _) _⟩
  · have e2 := ba_of _ _ e
    clear e
    subst e2
    go_enter Try.func15, Try.ntmps15
    go_wp2
    go_rounds 11
    go_ret
    exact ⟨rfl, (Below.refl _ _).alloc (Nat.le_refl _) _⟩
  · have e2 := ba_of _ _ e
    clear e
    subst e2
    go_enter Try.func15, Try.ntmps15
    go_wp2
    go_rounds 7
    go_ret
    exact ⟨rfl, (Below.refl _ _).alloc (Nat.le_refl _) _⟩
  · have e2 := ba_of _ _ e
    clear e
    subst e2
    go_enter Try.func15, Try.ntmps15
    go_wp2
    go_rounds 8
    go_ret
    exact ⟨rfl, (Below.refl _ _).alloc (Nat.le_refl _) _⟩
  · have e2 := ba_of _ _ e
    clear e
    subst e2
    go_enter Try.func15, Try.ntmps15
    go_wp2
    go_rounds 9
    go_ret
    exact ⟨rfl, (Below.refl _ _).alloc (Nat.le_refl _) _⟩
  · have e2 := ba_of _ _ e
    clear e
    subst e2
    go_enter Try.func15, Try.ntmps15
    go_wp2
    go_rounds 10
    go_ret
    exact ⟨rfl, (Below.refl _ _).alloc (Nat.le_refl _) _⟩
  · have e2 := ba_of _ _ e
    clear e
    subst e2
    go_enter Try.func15, Try.ntmps15
    go_wp2
    go_rounds 1
    go_ret
    exact ⟨rfl, (Below.refl _ _).alloc (Nat.le_refl _) _⟩
  · have e2 := ba_of _ _ e
    clear e
    subst e2
    go_enter Try.func15, Try.ntmps15
    go_wp2
    go_rounds 4
    go_ret
    exact ⟨rfl, (Below.refl _ _).alloc (Nat.le_refl _) _⟩
  · have e2 := ba_of _ _ e
    clear e
    subst e2
    go_enter Try.func15, Try.ntmps15
    go_wp2
    go_rounds 5
    go_ret
    exact ⟨rfl, (Below.refl _ _).alloc (Nat.le_refl _) _⟩

set_option maxHeartbeats 4000000 in
theorem rwords_no (s : ByteArray) (w : World) (h : isW s.toList = false) :
    Calls Try.prog 15 #[.string s] w fun e w' => e = .returned (.bool false) ∧ Below w.heap.size w w' := by
  have hn : ∀ l, l ∈ wordsL → (l == s.toList) = false := by
    intro l hl
    rw [beq_eq_false_iff_ne]
    intro e
    have : isW s.toList = true := by rw [← e]; exact List.contains_iff_mem.2 hl
    rw [h] at this; cases this
  have t0 := hn [118, 97, 114] (by decide)
  have t1 := hn [105, 102] (by decide)
  have t2 := hn [101, 108, 115, 101] (by decide)
  have t3 := hn [119, 104, 105, 108, 101] (by decide)
  have t4 := hn [101, 109, 105, 116] (by decide)
  have t5 := hn [105, 110, 116, 111] (by decide)
  have t6 := hn [102, 97, 105, 108] (by decide)
  have t7 := hn [115, 116, 111, 112] (by decide)
  have t8 := hn [109] (by decide)
  have t9 := hn [109, 105, 110] (by decide)
  have t10 := hn [109, 97, 120] (by decide)
  clear hn h
  go_enter Try.func15, Try.ntmps15
  go_wp2
  go_rounds 12
  go_ret
  exact ⟨rfl, (Below.refl _ _).alloc (Nat.le_refl _) _⟩

theorem rwords_any (s : ByteArray) (w : World) :
    Calls Try.prog 15 #[.string s] w fun e w' => e = .returned (.bool (isW s.toList)) ∧ Below w.heap.size w w' := by
  rcases h : isW s.toList with _ | _
  · exact rwords_no s w h
  · exact rwords_yes s w h
end Go.Proofs.Ytnofibjchhcmeaa
