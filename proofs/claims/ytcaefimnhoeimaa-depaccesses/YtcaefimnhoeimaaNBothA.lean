/- What num.Two and the document's Two answer, operation by operation. -/
import Derived.Test.YtcaefimnhoeimaaNRefD
namespace Go.Proofs.Ytcaefimnhoeimaa
open Go.RowKit
set_option linter.unusedVariables false

def R64 (a : Int) : Prop := -9223372036854775808 ≤ a ∧ a ≤ 9223372036854775807
/-- both answer x and ok -/
def Both (op a b x : Int) (ok : Bool) : Prop :=
  (∀ w, Calls Try.prog 63 #[.int .i64 op, .int .i64 a, .int .i64 b] w fun e w' => e = .returned (.tuple #[.int .i64 x, .bool ok]) ∧ w' = w) ∧
  (∀ w, Calls Try.prog 31 #[.int .i64 op, .int .i64 a, .int .i64 b] w fun e w' => e = .returned (.tuple #[.int .i64 x, .bool ok]) ∧ w' = w)
theorem ret2 {a b : Int} {c : Bool} (h : a = b) : Ending.returned (.tuple #[.int .i64 a, .bool c]) = .returned (.tuple #[.int .i64 b, .bool c]) := by rw [h]

set_option maxHeartbeats 400000 in
theorem both_1 (a b : Int) (ha : R64 a) (hb : R64 b) : Both 1 a b (wrap64 (a + b)) true := by
  refine ⟨fun w => ?_, fun w => ?_⟩
  · go_enter Try.func63, Try.ntmps63
    go_wp2
    go_ret2
    exact ⟨rfl, rfl⟩
  · go_enter Try.func31, Try.ntmps31
    go_wp2_with (go_at_call 51; refine (add_any _ _ ha hb _).mono ?_; rintro e w' ⟨rfl, rfl⟩)
    go_ret2
    exact ⟨rfl, rfl⟩

set_option maxHeartbeats 400000 in
theorem both_2 (a b : Int) (ha : R64 a) (hb : R64 b) : Both 2 a b (wrap64 (a - b)) true := by
  refine ⟨fun w => ?_, fun w => ?_⟩
  · go_enter Try.func63, Try.ntmps63
    go_wp2
    go_ret2
    exact ⟨rfl, rfl⟩
  · have hw : Hid (R64 (wrap64 (-b))) := wrap_bd _
    have E : Hid (wrap64 (a + wrap64 (-b)) = wrap64 (a - b)) := by
      show _ = _
      obtain ⟨k, hk⟩ := wrap_ex (-b)
      rw [hk, show a + (-b + k * 18446744073709551616) = a - b + k * 18446744073709551616 by omega, wrap_add]
    go_enter Try.func31, Try.ntmps31
    go_wp2_with fail
    refine (neg_any b hb.1 hb.2 _).mono ?_
    rintro e w' ⟨rfl, rfl⟩
    go_wp2_with fail
    refine (add_any a _ ha hw.out _).mono ?_
    rintro e w' ⟨rfl, rfl⟩
    go_wp2
    go_ret2
    exact ⟨ret2 E.out, rfl⟩

set_option maxHeartbeats 400000 in
theorem both_3 (a b : Int) (ha : R64 a) (hb : R64 b) : Both 3 a b (wrap64 (a * b)) true := by
  refine ⟨fun w => ?_, fun w => ?_⟩
  · go_enter Try.func63, Try.ntmps63
    go_wp2
    go_ret2
    exact ⟨rfl, rfl⟩
  · go_enter Try.func31, Try.ntmps31
    go_wp2_with (go_at_call 52; refine (mul_any _ _ ha hb _).mono ?_; rintro e w' ⟨rfl, rfl⟩)
    go_ret2
    exact ⟨rfl, rfl⟩

theorem tdiv_abs (a b : Int) : a.tdiv b = if (decide (a < 0) != decide (b < 0)) = true then -((a.natAbs / b.natAbs : Nat) : Int) else ((a.natAbs / b.natAbs : Nat) : Int) := by
  rcases Int.lt_or_le a 0 with h1 | h1 <;> rcases Int.lt_or_le b 0 with h2 | h2
  · rw [if_neg (by simp [h1, h2])]
    rw [show a = -(a.natAbs : Int) by omega, show b = -(b.natAbs : Int) by omega, Int.neg_tdiv_neg]
    simp [Int.natAbs_neg]
  · rw [if_pos (by simp [h1]; omega)]
    rw [show a = -(a.natAbs : Int) by omega, show b = (b.natAbs : Int) by omega, Int.neg_tdiv]
    simp [Int.natAbs_neg]
  · rw [if_pos (by simp [h2]; omega)]
    rw [show a = (a.natAbs : Int) by omega, show b = -(b.natAbs : Int) by omega, Int.tdiv_neg]
    simp [Int.natAbs_neg]
  · rw [if_neg (by simp; omega)]
    rw [show a = (a.natAbs : Int) by omega, show b = (b.natAbs : Int) by omega]
    simp
theorem tmod_abs (a b : Int) : a.tmod b = if decide (a < 0) = true then -((a.natAbs % b.natAbs : Nat) : Int) else ((a.natAbs % b.natAbs : Nat) : Int) := by
  rcases Int.lt_or_le a 0 with h1 | h1
  · rw [if_pos (by simp [h1]), show a = -(a.natAbs : Int) by omega, Int.neg_tmod]
    rcases Int.lt_or_le b 0 with h2 | h2
    · rw [show b = -(b.natAbs : Int) by omega, Int.tmod_neg]; simp [Int.natAbs_neg]; exact Int.tmod_eq_emod_of_nonneg (by omega)
    · rw [show b = (b.natAbs : Int) by omega]; simp [Int.natAbs_neg]; exact Int.tmod_eq_emod_of_nonneg (by omega)
  · rw [if_neg (by simp; omega), show a = (a.natAbs : Int) by omega]
    rcases Int.lt_or_le b 0 with h2 | h2
    · rw [show b = -(b.natAbs : Int) by omega, Int.tmod_neg]; simp [Int.natAbs_neg]; exact Int.tmod_eq_emod_of_nonneg (by omega)
    · rw [show b = (b.natAbs : Int) by omega]; simp; exact Int.tmod_eq_emod_of_nonneg (by omega)

theorem long_is (a b q r : Nat) (ha : a ≤ 18446744073709551615) (hb : b ≤ 18446744073709551615) (hb0 : 0 < b) (hq : Hid (q = a / b)) (hr : Hid (r = a % b)) (w : World) :
    Calls Try.prog 53 #[.int .u64 a, .int .u64 b] w fun e w' => e = .returned (.tuple #[.int .u64 (q : Int), .int .u64 (r : Int)]) ∧ w' = w := by
  rw [hq.out, hr.out]; exact long_any a b ha hb hb0 w

set_option maxHeartbeats 1000000 in
theorem both_4 (a b : Int) (ha : R64 a) (hb : R64 b) (h0 : ¬ b = 0) : Both 4 a b (wrap64 (a.tdiv b)) true := by
  refine ⟨fun w => ?_, fun w => ?_⟩
  · go_enter Try.func63, Try.ntmps63
    go_wp2
    go_ret2
    exact ⟨rfl, rfl⟩
  · have E : Hid _ := tdiv_abs a b
    obtain ⟨ha1, ha2⟩ := ha
    obtain ⟨hb1, hb2⟩ := hb
    obtain ⟨q, hq⟩ : ∃ q, q = a.natAbs / b.natAbs := ⟨_, rfl⟩
    obtain ⟨r, hr⟩ : ∃ r, r = a.natAbs % b.natAbs := ⟨_, rfl⟩
    have q1 : q ≤ a.natAbs := by rw [hq]; exact Nat.div_le_self _ _
    have q2 : q ≤ 9223372036854775808 := by omega
    rw [← hq] at E
    have HQ : Hid _ := hq
    have HR : Hid _ := hr
    clear hq hr q1
    cases hA : decide (a < 0) <;> cases hB : decide (b < 0)
    all_goals
      go_enter Try.func31, Try.ntmps31
      go_wp2_with fail
      refine (rsize_any a ha1 ha2 _).mono ?_
      rintro e w' ⟨rfl, rfl⟩
      go_wp2_with fail
      refine (rsize_any b hb1 hb2 _).mono ?_
      rintro e w' ⟨rfl, rfl⟩
      go_wp2_with fail
      refine (long_is a.natAbs b.natAbs q r (by omega) (by omega) (by omega) HQ HR _).mono ?_
      rintro e w' ⟨rfl, rfl⟩
      go_wp2_with fail
      refine (signed_any _ _ (by omega) (by omega) _).mono ?_
      rintro e w' ⟨rfl, rfl⟩
      go_wp2
      go_ret2
      exact ⟨ret2 (by rw [E.out, hA, hB]; rfl), rfl⟩

set_option maxHeartbeats 1000000 in
theorem both_5 (a b : Int) (ha : R64 a) (hb : R64 b) (h0 : ¬ b = 0) : Both 5 a b (a.tmod b) true := by
  refine ⟨fun w => ?_, fun w => ?_⟩
  · go_enter Try.func63, Try.ntmps63
    go_wp2
    go_ret2
    exact ⟨rfl, rfl⟩
  · have E : Hid _ := tmod_abs a b
    obtain ⟨ha1, ha2⟩ := ha
    obtain ⟨hb1, hb2⟩ := hb
    obtain ⟨q, hq⟩ : ∃ q, q = a.natAbs / b.natAbs := ⟨_, rfl⟩
    obtain ⟨r, hr⟩ : ∃ r, r = a.natAbs % b.natAbs := ⟨_, rfl⟩
    have q2 : r < b.natAbs := by rw [hr]; exact Nat.mod_lt _ (by omega)
    have q3 : r ≤ 9223372036854775807 := by omega
    rw [← hr] at E
    have HQ : Hid _ := hq
    have HR : Hid _ := hr
    clear hq hr q2
    cases hA : decide (a < 0)
    all_goals
      go_enter Try.func31, Try.ntmps31
      go_wp2_with fail
      refine (rsize_any a ha1 ha2 _).mono ?_
      rintro e w' ⟨rfl, rfl⟩
      go_wp2_with fail
      refine (rsize_any b hb1 hb2 _).mono ?_
      rintro e w' ⟨rfl, rfl⟩
      go_wp2_with fail
      refine (long_is a.natAbs b.natAbs q r (by omega) (by omega) (by omega) HQ HR _).mono ?_
      rintro e w' ⟨rfl, rfl⟩
      go_wp2_with fail
      refine (signed_any _ _ (by omega) (by omega) _).mono ?_
      rintro e w' ⟨rfl, rfl⟩
      go_wp2
      go_ret2
      refine ⟨ret2 ?_, rfl⟩
      rw [E.out, hA]
      simp only [if_true, Bool.false_eq_true, if_false]
      unfold wrap64
      omega

set_option maxRecDepth 100000 in
set_option maxHeartbeats 400000 in
theorem both_div0 (op a : Int) (hop : op = 4 ∨ op = 5) : Both op a 0 0 false := by
  rcases hop with rfl | rfl <;> refine ⟨fun w => ?_, fun w => ?_⟩
  · go_enter Try.func63, Try.ntmps63
    go_wp2
    go_ret2
    exact ⟨rfl, rfl⟩
  · go_enter Try.func31, Try.ntmps31
    go_wp2
    go_ret2
    exact ⟨rfl, rfl⟩
  · go_enter Try.func63, Try.ntmps63
    go_wp2
    go_ret2
    exact ⟨rfl, rfl⟩
  · go_enter Try.func31, Try.ntmps31
    go_wp2
    go_ret2
    exact ⟨rfl, rfl⟩

set_option maxHeartbeats 400000 in
theorem both_6 (a b : Int) (ha : R64 a) (hb : R64 b) : Both 6 a b (bits .and .i64 a b) true := by
  refine ⟨fun w => ?_, fun w => ?_⟩
  · go_enter Try.func63, Try.ntmps63
    go_wp2
    go_ret2
    exact ⟨rfl, rfl⟩
  · have E : Hid _ := i64_and a b
    go_enter Try.func31, Try.ntmps31
    go_wp2_with (go_at_call 56; refine (logic_6 _ _ ha hb _).mono ?_; rintro e w' ⟨rfl, rfl⟩)
    go_ret2
    exact ⟨ret2 (by rw [E.out]; rfl), rfl⟩

set_option maxHeartbeats 400000 in
theorem both_7 (a b : Int) (ha : R64 a) (hb : R64 b) : Both 7 a b (bits .or .i64 a b) true := by
  refine ⟨fun w => ?_, fun w => ?_⟩
  · go_enter Try.func63, Try.ntmps63
    go_wp2
    go_ret2
    exact ⟨rfl, rfl⟩
  · have E : Hid _ := i64_or a b
    go_enter Try.func31, Try.ntmps31
    go_wp2_with (go_at_call 56; refine (logic_7 _ _ ha hb _).mono ?_; rintro e w' ⟨rfl, rfl⟩)
    go_ret2
    exact ⟨ret2 (by rw [E.out]; rfl), rfl⟩

set_option maxHeartbeats 400000 in
theorem both_8 (a b : Int) (ha : R64 a) (hb : R64 b) : Both 8 a b (bits .xor .i64 a b) true := by
  refine ⟨fun w => ?_, fun w => ?_⟩
  · go_enter Try.func63, Try.ntmps63
    go_wp2
    go_ret2
    exact ⟨rfl, rfl⟩
  · have E : Hid _ := i64_xor a b
    go_enter Try.func31, Try.ntmps31
    go_wp2_with (go_at_call 56; refine (logic_8 _ _ ha hb _).mono ?_; rintro e w' ⟨rfl, rfl⟩)
    go_ret2
    exact ⟨ret2 (by rw [E.out]; rfl), rfl⟩

theorem and_63 (b : Int) : bits .and .u64 (IntKind.u64.wrap b) 63 = ((U b % 64).toNat : Int) := by
  have h := U_bd b
  rw [U_is, u64_and (U b) 63 h.1 (by omega) (by omega) (by omega)]
  show (((U b).toNat &&& 63 : Nat) : Int) = _
  rw [nat_mask6]
  omega

set_option maxHeartbeats 400000 in
theorem both_9 (a b : Int) (ha : R64 a) (hb : R64 b) : Both 9 a b (dbl a (U b % 64).toNat) true := by
  refine ⟨fun w => ?_, fun w => ?_⟩
  · have e := and_63 b
    have hu := U_bd b
    have hn : (U b % 64).toNat < 64 := by omega
    generalize (U b % 64).toNat = n at *
    clear hu
    go_enter Try.func63, Try.ntmps63
    go_wp2
    go_ret2
    exact ⟨rfl, rfl⟩
  · go_enter Try.func31, Try.ntmps31
    go_wp2_with (go_at_call 57; refine (moved_9 _ _ ha _).mono ?_; rintro e w' ⟨rfl, rfl⟩)
    go_ret2
    exact ⟨rfl, rfl⟩

set_option maxHeartbeats 400000 in
theorem both_10 (a b : Int) (ha : R64 a) (hb : R64 b) : Both 10 a b (shrN a (U b % 64).toNat) true := by
  refine ⟨fun w => ?_, fun w => ?_⟩
  · have e := and_63 b
    have hu := U_bd b
    have hn : (U b % 64).toNat < 64 := by omega
    generalize (U b % 64).toNat = n at *
    clear hu
    go_enter Try.func63, Try.ntmps63
    go_wp2
    go_ret2
    exact ⟨rfl, rfl⟩
  · go_enter Try.func31, Try.ntmps31
    go_wp2_with (go_at_call 57; refine (moved_10 _ _ ha _).mono ?_; rintro e w' ⟨rfl, rfl⟩)
    go_ret2
    exact ⟨rfl, rfl⟩
end Go.Proofs.Ytcaefimnhoeimaa
