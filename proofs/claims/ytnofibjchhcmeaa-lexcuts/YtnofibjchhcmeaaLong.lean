/- The longest text from a place on that is digits, a row, or a sign: the plain facts. -/
import Derived.Test.YtnofibjchhcmeaaRefC
import Derived.Test.YtnofibjchhcmeaaCutQ
namespace Go.Proofs.Ytnofibjchhcmeaa
open Go.RowKit
set_option linter.unusedVariables false

/-- is it a token's text? -/
def anyT (l : List UInt8) : Bool := areD l || (rowC l || isS l)
def longL : List UInt8 → Nat
  | [] => 0
  | b :: T => if isD b = true then ga dgStep () (b :: T) else if isL b = true then ga alStep () (b :: T) else ga sgStep [] (b :: T)

theorem longL_cons (b : UInt8) (T : List UInt8) : longL (b :: T) = if isD b = true then ga dgStep () (b :: T) else if isL b = true then ga alStep () (b :: T) else ga sgStep [] (b :: T) := rfl

theorem ga_unit (P : UInt8 → Bool) (R : List UInt8) : ∀ n, (∀ m, m ≤ n → m ≤ ga (fun (_ : Unit) b => (P b, ())) () R → (R.take m).all P = true) := by
  induction R with
  | nil => intro n m _ _; simp
  | cons b R ih =>
    intro n m hm hg
    cases m with
    | zero => simp
    | succ m =>
      replace hg : m + 1 ≤ if P b = true then ga (fun (_ : Unit) b => (P b, ())) () R + 1 else 0 := hg
      by_cases h : P b = true
      · rw [if_pos h] at hg
        have := ih m m (Nat.le_refl _) (by omega)
        simp only [List.take_succ_cons, List.all_cons, this, h, Bool.and_self]
      · rw [if_neg h] at hg; omega
theorem ga_unit_stop (P : UInt8 → Bool) (R : List UInt8) (h : ga (fun (_ : Unit) b => (P b, ())) () R < R.length) : (R.take (ga (fun (_ : Unit) b => (P b, ())) () R + 1)).all P = false := by
  induction R with
  | nil => simp at h
  | cons b R ih =>
    have e0 : ga (fun (_ : Unit) b => (P b, ())) () (b :: R) = if P b = true then ga (fun (_ : Unit) b => (P b, ())) () R + 1 else 0 := rfl
    by_cases hb : P b = true
    · rw [e0, if_pos hb] at h ⊢
      simp only [List.length_cons] at h
      have := ih (by omega)
      rw [List.take_succ_cons, List.all_cons, this]
      simp
    · rw [e0, if_neg hb]
      simp only [Nat.zero_add, List.take_succ_cons, List.take_zero, List.all_cons, List.all_nil, Bool.and_true]
      simpa using hb

theorem isS_head (b : UInt8) (T : List UInt8) (h : isS (b :: T) = true) : signs1.contains b = true := by
  unfold isS at h
  rw [Bool.or_eq_true] at h
  rcases h with h | h
  · have := List.contains_iff_mem.1 h
    unfold signs2 at this
    simp only [List.mem_cons, List.not_mem_nil, or_false] at this
    rcases this with e | e | e | e | e | e <;> (injection e with e1 _; subst e1; decide)
  · cases T with
    | nil => exact h
    | cons c T => cases h
theorem sign1_no (b : UInt8) (h : signs1.contains b = true) : isD b = false ∧ isL b = false := by
  have := List.contains_iff_mem.1 h
  unfold signs1 at this
  simp only [List.mem_cons, List.not_mem_nil, or_false] at this
  rcases this with e | e | e | e | e | e | e | e | e | e | e | e | e | e | e | e | e | e | e | e | e <;> (subst e; decide)

/-- what is gathered of a sign: each beginning of it is one -/
theorem ga_sign (R : List UInt8) : ∀ (row : List UInt8) (n : Nat), 1 ≤ n → n ≤ ga sgStep row R → isS (row ++ R.take n) = true := by
  induction R with
  | nil => intro row n h1 h2; simp [ga] at h2; omega
  | cons b R ih =>
    intro row n h1 h2
    have e0 : ga sgStep row (b :: R) = if isS (row ++ [b]) = true then ga sgStep (row ++ [b]) R + 1 else 0 := rfl
    rw [e0] at h2
    by_cases hb : isS (row ++ [b]) = true
    · rw [if_pos hb] at h2
      cases n with
      | zero => omega
      | succ n =>
        cases n with
        | zero => simpa using hb
        | succ n =>
          have := ih (row ++ [b]) (n + 1) (by omega) (by omega)
          rw [List.append_assoc] at this
          exact this
    · rw [if_neg hb] at h2; omega
theorem ga_sign_stop (R : List UInt8) : ∀ (row : List UInt8), ga sgStep row R < R.length → isS (row ++ R.take (ga sgStep row R + 1)) = false := by
  induction R with
  | nil => intro row h; simp at h
  | cons b R ih =>
    intro row h
    have e0 : ga sgStep row (b :: R) = if isS (row ++ [b]) = true then ga sgStep (row ++ [b]) R + 1 else 0 := rfl
    by_cases hb : isS (row ++ [b]) = true
    · rw [e0, if_pos hb] at h ⊢
      simp only [List.length_cons] at h
      have := ih (row ++ [b]) (by omega)
      rw [List.append_assoc] at this
      exact this
    · rw [e0, if_neg hb]
      simpa using hb

theorem headD_take (b : UInt8) (T : List UInt8) (n : Nat) (h : 1 ≤ n) : headD ((b :: T).take n) = isD b := by
  cases n with
  | zero => omega
  | succ n => rfl
theorem head_no (b : UInt8) (T : List UInt8) (n : Nat) (h : 1 ≤ n) (P : UInt8 → Bool) (hb : P b = false) : ((b :: T).take n).all P = false := by
  cases n with
  | zero => omega
  | succ n => rw [List.take_succ_cons, List.all_cons, hb]; rfl
theorem isS_take_no (b : UInt8) (T : List UInt8) (n : Nat) (h : 1 ≤ n) (hb : signs1.contains b = false) : isS ((b :: T).take n) = false := by
  rw [Bool.eq_false_iff]
  intro hs
  cases n with
  | zero => omega
  | succ n =>
    rw [List.take_succ_cons] at hs
    rw [isS_head b _ hs] at hb
    cases hb
theorem not_sign (b : UInt8) (h : isD b = true ∨ isL b = true) : signs1.contains b = false := by
  rw [Bool.eq_false_iff]
  intro hs
  have := sign1_no b hs
  rcases h with h | h
  · rw [this.1] at h; cases h
  · rw [this.2] at h; cases h
theorem ne_take (b : UInt8) (T : List UInt8) (n : Nat) (h : 1 ≤ n) : ((b :: T).take n).isEmpty = false := by
  cases n with
  | zero => omega
  | succ n => rfl

theorem anyT_yes (b : UInt8) (T : List UInt8) (n : Nat) (h1 : 1 ≤ n) (h2 : n ≤ longL (b :: T)) : anyT ((b :: T).take n) = true := by
  rw [longL_cons] at h2
  by_cases hd : isD b = true
  · rw [if_pos hd] at h2
    have := ga_unit isD (b :: T) n n (Nat.le_refl _) h2
    unfold anyT areD
    rw [ne_take b T n h1, this]; rfl
  · rw [if_neg hd] at h2
    by_cases hl : isL b = true
    · rw [if_pos hl] at h2
      have := ga_unit isA (b :: T) n n (Nat.le_refl _) h2
      unfold anyT rowC
      rw [ne_take b T n h1, this, headD_take b T n h1]
      have : isD b = false := by simpa using hd
      rw [this]
      simp
    · rw [if_neg hl] at h2
      have := ga_sign (b :: T) [] n h1 h2
      unfold anyT
      rw [List.nil_append] at this
      rw [this]
      simp
theorem anyT_no (b : UInt8) (T : List UInt8) (h : longL (b :: T) < (b :: T).length) : anyT ((b :: T).take (longL (b :: T) + 1)) = false := by
  obtain ⟨n, hn⟩ : ∃ n, longL (b :: T) = n := ⟨_, rfl⟩
  have hn2 := hn
  rw [longL_cons] at hn
  rw [hn2] at h ⊢
  unfold anyT areD rowC
  rw [ne_take b T (n + 1) (by omega), headD_take b T (n + 1) (by omega)]
  by_cases hd : isD b = true
  · rw [if_pos hd] at hn
    have hs := isS_take_no b T (n + 1) (by omega) (not_sign b (Or.inl hd))
    have hst := ga_unit_stop isD (b :: T) (by rw [show ga (fun (_ : Unit) b => (isD b, ())) () (b :: T) = n from hn]; exact h)
    rw [show ga (fun (_ : Unit) b => (isD b, ())) () (b :: T) = n from hn] at hst
    rw [hst, hs, hd]; rfl
  · have hd' : isD b = false := by simpa using hd
    rw [if_neg hd] at hn
    rw [head_no b T (n + 1) (by omega) isD hd', hd']
    by_cases hl : isL b = true
    · rw [if_pos hl] at hn
      have hs := isS_take_no b T (n + 1) (by omega) (not_sign b (Or.inr hl))
      have hst := ga_unit_stop isA (b :: T) (by rw [show ga (fun (_ : Unit) b => (isA b, ())) () (b :: T) = n from hn]; exact h)
      rw [show ga (fun (_ : Unit) b => (isA b, ())) () (b :: T) = n from hn] at hst
      rw [hst, hs]; rfl
    · have hl' : isL b = false := by simpa using hl
      rw [if_neg hl] at hn
      have hst := ga_sign_stop (b :: T) [] (by rw [hn]; exact h)
      rw [hn, List.nil_append] at hst
      rw [hst, head_no b T (n + 1) (by omega) isA (by unfold isA; rw [hl', hd']; rfl)]; rfl
/-- no token begins here: neither one byte nor two are one -/
theorem anyT_none (b : UInt8) (T : List UInt8) (h : longL (b :: T) = 0) (n : Nat) (hn : 1 ≤ n) : anyT ((b :: T).take n) = false := by
  rw [longL_cons] at h
  by_cases hd : isD b = true
  · rw [if_pos hd] at h
    have := ga_pos dgStep () b T hd
    omega
  · have hd' : isD b = false := by simpa using hd
    rw [if_neg hd] at h
    by_cases hl : isL b = true
    · rw [if_pos hl] at h
      have := ga_pos alStep () b T (by show isA b = true; unfold isA; rw [hl]; rfl)
      omega
    · have hl' : isL b = false := by simpa using hl
      rw [if_neg hl] at h
      have hb : signs1.contains b = false := by
        rw [Bool.eq_false_iff]
        intro hs
        have : isS [b] = true := by unfold isS; rw [Bool.or_eq_true]; exact Or.inr hs
        have := ga_pos sgStep [] b T this
        omega
      unfold anyT areD rowC
      rw [isS_take_no b T n hn hb, head_no b T n hn isD hd', head_no b T n hn isA (by unfold isA; rw [hl', hd']; rfl)]
      simp
end Go.Proofs.Ytnofibjchhcmeaa
