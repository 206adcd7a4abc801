/- What num's and the document's operations answer, as one number. -/
import Derived.Test.YtcaefimnhoeimaaNBothB
namespace Go.Proofs.Ytcaefimnhoeimaa
open Go.RowKit
set_option linter.unusedVariables false

theorem and_bd (a b : Int) : R64 (bits .and .i64 a b) := by rw [i64_and]; exact wrap_bd _
theorem or_bd (a b : Int) : R64 (bits .or .i64 a b) := by rw [i64_or]; exact wrap_bd _
theorem xor_bd (a b : Int) : R64 (bits .xor .i64 a b) := by rw [i64_xor]; exact wrap_bd _
theorem tmod_bd (a b : Int) (ha : R64 a) : R64 (a.tmod b) := by
  have h := tmod_abs a b
  have h2 := Nat.mod_le a.natAbs b.natAbs
  unfold R64 at *
  rw [h]
  split
  · omega
  · rename_i h3; simp at h3; omega
theorem dbl_bd (a : Int) (k : Nat) : R64 (dbl a k) := wrap_bd _
theorem one_bd : R64 1 := by unfold R64; omega
theorem zero_bd : R64 0 := by unfold R64; omega

/-- what two numbers give -/
def twoR (op a b : Int) : Int × Bool :=
  if op = 1 then (wrap64 (a + b), true)
  else if op = 2 then (wrap64 (a - b), true)
  else if op = 3 then (wrap64 (a * b), true)
  else if op = 4 then (if b = 0 then (0, false) else (wrap64 (a.tdiv b), true))
  else if op = 5 then (if b = 0 then (0, false) else (a.tmod b, true))
  else if op = 6 then (bits .and .i64 a b, true)
  else if op = 7 then (bits .or .i64 a b, true)
  else if op = 8 then (bits .xor .i64 a b, true)
  else if op = 9 then (dbl a (U b % 64).toNat, true)
  else if op = 10 then (shrN a (U b % 64).toNat, true)
  else if op = 11 then (if a = b then 1 else 0, true)
  else if op = 12 then (if a = b then 0 else 1, true)
  else if op = 13 then (if a < b then 1 else 0, true)
  else if op = 14 then (if b < a then 0 else 1, true)
  else if op = 15 then (if b < a then 1 else 0, true)
  else if op = 16 then (if a < b then 0 else 1, true)
  else if op = 17 then (if b < a then b else a, true)
  else if op = 18 then (if a < b then b else a, true)
  else (0, false)
theorem Both.is {op a b x : Int} {ok : Bool} (h : Both op a b x ok) (hx : R64 x) (e : twoR op a b = (x, ok)) : Both op a b (twoR op a b).1 (twoR op a b).2 ∧ R64 (twoR op a b).1 := by rw [e]; exact ⟨h, hx⟩
theorem twoR_is (op a b : Int) (ha : R64 a) (hb : R64 b) : Both op a b (twoR op a b).1 (twoR op a b).2 ∧ R64 (twoR op a b).1 := by
  by_cases h1 : op = 1
  · subst h1; exact (both_1 a b ha hb).is (wrap_bd _) (by simp [twoR])
  by_cases h2 : op = 2
  · subst h2; exact (both_2 a b ha hb).is (wrap_bd _) (by simp [twoR])
  by_cases h3 : op = 3
  · subst h3; exact (both_3 a b ha hb).is (wrap_bd _) (by simp [twoR])
  by_cases h4 : op = 4
  · subst h4
    by_cases h0 : b = 0
    · subst h0; exact (both_div0 4 a (by omega)).is zero_bd (by simp [twoR])
    · exact (both_4 a b ha hb h0).is (wrap_bd _) (by simp [twoR, h0])
  by_cases h5 : op = 5
  · subst h5
    by_cases h0 : b = 0
    · subst h0; exact (both_div0 5 a (by omega)).is zero_bd (by simp [twoR])
    · exact (both_5 a b ha hb h0).is (tmod_bd _ _ ha) (by simp [twoR, h0])
  by_cases h6 : op = 6
  · subst h6; exact (both_6 a b ha hb).is (and_bd _ _) (by simp [twoR])
  by_cases h7 : op = 7
  · subst h7; exact (both_7 a b ha hb).is (or_bd _ _) (by simp [twoR])
  by_cases h8 : op = 8
  · subst h8; exact (both_8 a b ha hb).is (xor_bd _ _) (by simp [twoR])
  by_cases h9 : op = 9
  · subst h9; exact (both_9 a b ha hb).is (dbl_bd _ _) (by simp [twoR])
  by_cases h10 : op = 10
  · subst h10; exact (both_10 a b ha hb).is (shrN_bd _ _ ha.1 ha.2) (by simp [twoR])
  by_cases h11 : op = 11
  · subst h11
    rcases Int.lt_trichotomy a b with h | h | h
    · exact (both_11_lt a b ha hb h).is zero_bd (by simp [twoR]; omega)
    · subst h; exact (both_11_eq a ha).is one_bd (by simp [twoR])
    · exact (both_11_gt a b ha hb h).is zero_bd (by simp [twoR]; omega)
  by_cases h12 : op = 12
  · subst h12
    rcases Int.lt_trichotomy a b with h | h | h
    · exact (both_12_lt a b ha hb h).is one_bd (by simp [twoR]; omega)
    · subst h; exact (both_12_eq a ha).is zero_bd (by simp [twoR])
    · exact (both_12_gt a b ha hb h).is one_bd (by simp [twoR]; omega)
  by_cases h13 : op = 13
  · subst h13
    rcases Int.lt_trichotomy a b with h | h | h
    · exact (both_13_lt a b ha hb h).is one_bd (by simp [twoR]; omega)
    · subst h; exact (both_13_eq a ha).is zero_bd (by simp [twoR])
    · exact (both_13_gt a b ha hb h).is zero_bd (by simp [twoR]; omega)
  by_cases h14 : op = 14
  · subst h14
    rcases Int.lt_trichotomy a b with h | h | h
    · exact (both_14_lt a b ha hb h).is one_bd (by simp [twoR]; omega)
    · subst h; exact (both_14_eq a ha).is one_bd (by simp [twoR])
    · exact (both_14_gt a b ha hb h).is zero_bd (by simp [twoR]; omega)
  by_cases h15 : op = 15
  · subst h15
    rcases Int.lt_trichotomy a b with h | h | h
    · exact (both_15_lt a b ha hb h).is zero_bd (by simp [twoR]; omega)
    · subst h; exact (both_15_eq a ha).is zero_bd (by simp [twoR])
    · exact (both_15_gt a b ha hb h).is one_bd (by simp [twoR]; omega)
  by_cases h16 : op = 16
  · subst h16
    rcases Int.lt_trichotomy a b with h | h | h
    · exact (both_16_lt a b ha hb h).is zero_bd (by simp [twoR]; omega)
    · subst h; exact (both_16_eq a ha).is one_bd (by simp [twoR])
    · exact (both_16_gt a b ha hb h).is one_bd (by simp [twoR]; omega)
  by_cases h17 : op = 17
  · subst h17
    rcases Int.lt_trichotomy a b with h | h | h
    · exact (both_17_lt a b ha hb h).is ha (by simp [twoR]; omega)
    · subst h; exact (both_17_eq a ha).is ha (by simp [twoR])
    · exact (both_17_gt a b ha hb h).is hb (by simp [twoR]; omega)
  by_cases h18 : op = 18
  · subst h18
    rcases Int.lt_trichotomy a b with h | h | h
    · exact (both_18_lt a b ha hb h).is hb (by simp [twoR]; omega)
    · subst h; exact (both_18_eq a ha).is ha (by simp [twoR])
    · exact (both_18_gt a b ha hb h).is ha (by simp [twoR]; omega)
  refine (both_none op a b ?_).is zero_bd (by simp [twoR, h1, h2, h3, h4, h5, h6, h7, h8, h9, h10, h11, h12, h13, h14, h15, h16, h17, h18])
  intro k hk1 hk2
  have : op ≠ k := by omega
  simpa using this
/-- both answer x and ok of one number -/
def BothO (op a x : Int) (ok : Bool) : Prop :=
  (∀ w, Calls Try.prog 65 #[.int .i64 op, .int .i64 a] w fun e w' => e = .returned (.tuple #[.int .i64 x, .bool ok]) ∧ w' = w) ∧
  (∀ w, Calls Try.prog 30 #[.int .i64 op, .int .i64 a] w fun e w' => e = .returned (.tuple #[.int .i64 x, .bool ok]) ∧ w' = w)

set_option maxHeartbeats 1000000 in
theorem bothO_19 (a : Int) (ha : R64 a) : BothO 19 a (wrap64 (-a)) true := by
  refine ⟨fun w => ?_, fun w => ?_⟩
  · go_enter Try.func65, Try.ntmps65
    go_wp2
    go_ret2
    exact ⟨rfl, rfl⟩
  · go_enter Try.func30, Try.ntmps30
    go_wp2_with (go_at_call 48; refine (neg_any _ ha.1 ha.2 _).mono ?_; rintro e w' ⟨rfl, rfl⟩)
    go_ret2
    exact ⟨rfl, rfl⟩
set_option maxHeartbeats 1000000 in
theorem bothO_20 (a : Int) (ha : R64 a) : BothO 20 a (-1 - a) true := by
  have e20 := i64_not a ha.1 ha.2
  refine ⟨fun w => ?_, fun w => ?_⟩
  · go_enter Try.func65, Try.ntmps65
    go_wp2
    go_ret2
    exact ⟨rfl, rfl⟩
  · go_enter Try.func30, Try.ntmps30
    go_wp2_with (go_at_call 49; refine (com_any _ ha.1 ha.2 _).mono ?_; rintro e w' ⟨rfl, rfl⟩)
    go_ret2
    exact ⟨rfl, rfl⟩
set_option maxHeartbeats 1000000 in
theorem bothO_21 (a : Int) : BothO 21 a (if a = 0 then 1 else 0) true := by
  by_cases h : a = 0
  · subst h
    rw [if_pos rfl]
    refine ⟨fun w => ?_, fun w => ?_⟩
    · go_enter Try.func65, Try.ntmps65
      go_wp2_with (go_in)
      go_ret2
      exact ⟨rfl, rfl⟩
    · go_enter Try.func30, Try.ntmps30
      go_wp2_with (go_in)
      go_ret2
      exact ⟨rfl, rfl⟩
  · have h' : (a == 0) = false := by simp [h]
    rw [if_neg h]
    clear h
    refine ⟨fun w => ?_, fun w => ?_⟩
    · go_enter Try.func65, Try.ntmps65
      go_wp2_with (go_in)
      go_ret2
      exact ⟨rfl, rfl⟩
    · go_enter Try.func30, Try.ntmps30
      go_wp2_with (go_in)
      go_ret2
      exact ⟨rfl, rfl⟩
set_option maxHeartbeats 1000000 in
theorem bothO_none (op a : Int) (h1 : (op == 19) = false) (h2 : (op == 20) = false) (h3 : (op == 21) = false) : BothO op a 0 false := by
  refine ⟨fun w => ?_, fun w => ?_⟩
  · go_enter Try.func65, Try.ntmps65
    go_wp2
    go_ret2
    exact ⟨rfl, rfl⟩
  · go_enter Try.func30, Try.ntmps30
    go_wp2
    go_ret2
    exact ⟨rfl, rfl⟩
/-- what one number gives -/
def oneR (op a : Int) : Int × Bool := if op = 19 then (wrap64 (-a), true) else if op = 20 then (-1 - a, true) else if op = 21 then (if a = 0 then 1 else 0, true) else (0, false)
theorem BothO.is {op a x : Int} {ok : Bool} (h : BothO op a x ok) (hx : R64 x) (e : oneR op a = (x, ok)) : BothO op a (oneR op a).1 (oneR op a).2 ∧ R64 (oneR op a).1 := by rw [e]; exact ⟨h, hx⟩
theorem oneR_is (op a : Int) (ha : R64 a) : BothO op a (oneR op a).1 (oneR op a).2 ∧ R64 (oneR op a).1 := by
  by_cases h1 : op = 19
  · subst h1; exact (bothO_19 a ha).is (wrap_bd _) (by simp [oneR])
  by_cases h2 : op = 20
  · subst h2; exact (bothO_20 a ha).is (by unfold R64 at *; omega) (by simp [oneR])
  by_cases h3 : op = 21
  · subst h3; exact (bothO_21 a).is (by split; exact one_bd; exact zero_bd) (by simp [oneR])
  exact (bothO_none op a (by simp [h1]) (by simp [h2]) (by simp [h3])).is zero_bd (by simp [oneR, h1, h2, h3])
end Go.Proofs.Ytcaefimnhoeimaa
