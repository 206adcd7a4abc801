/- What the document's long division, order, logic and moves are, as numbers. -/
import Derived.Test.YtongeppdaeekeaaNRefB
namespace Go.Proofs.Ytongeppdaeekeaa
open Go.RowKit
set_option linter.unusedVariables false

theorem or_bit (x t : Nat) (hx : x ≤ 9223372036854775807) (ht : t < 2) : bits .or .u64 ((x : Int) * 2) (t : Int) = (((x * 2 + t : Nat)) : Int) := by
  have e : (x : Int) * 2 = ((x * 2 : Nat) : Int) := by simp
  rw [e, u64_or_nat (x * 2) t (by omega) (by omega), nat_join 1 (x * 2) t (by omega) (by omega)]

theorem and_bit (a m : Nat) (ha : a ≤ 18446744073709551615) : bits .and .u64 ((a : Int) / 2 ^ m) 1 = ((a / 2 ^ m % 2 : Nat) : Int) := by
  have e : (a : Int) / 2 ^ m = ((a / 2 ^ m : Nat) : Int) := by simp
  have h := Nat.div_le_self a (2 ^ m)
  rw [e]
  generalize a / 2 ^ m = X at *
  rw [and_one _ (by omega) (by omega)]
  simp

/-- the facts of a round -/
theorem long_facts (a b m : Nat) (ha : a ≤ 18446744073709551615) (hb : 0 < b) :
    a / 2 ^ (m + 1) / b ≤ 9223372036854775807 ∧ a / 2 ^ (m + 1) % b ≤ 9223372036854775807 ∧
    a / 2 ^ m / b = a / 2 ^ (m + 1) / b * 2 + (if b ≤ a / 2 ^ (m + 1) % b * 2 + a / 2 ^ m % 2 then 1 else 0) ∧
    a / 2 ^ m % b = a / 2 ^ (m + 1) % b * 2 + a / 2 ^ m % 2 - (if b ≤ a / 2 ^ (m + 1) % b * 2 + a / 2 ^ m % 2 then b else 0) := by
  have h1 : a / 2 ^ (m + 1) = a / 2 ^ m / 2 := by rw [Nat.pow_succ, Nat.div_div_eq_div_mul]
  generalize a / 2 ^ (m + 1) = P at *
  have h0 := Nat.div_le_self a (2 ^ m)
  generalize a / 2 ^ m = X at *
  have h2 : P ≤ 9223372036854775807 := by omega
  have h3 := Nat.div_le_self P b
  have h4 := Nat.mod_le P b
  have h5 := Nat.mod_lt P hb
  have h6 := Nat.div_add_mod P b
  generalize P / b = Q at *
  generalize P % b = R at *
  have h7 : X = b * (Q * 2) + (R * 2 + X % 2) := by
    have : b * (Q * 2) = b * Q * 2 := by rw [Nat.mul_assoc]
    omega
  refine ⟨by omega, by omega, ?_, ?_⟩
  · split
    · rename_i h
      rw [h7, show b * (Q * 2) + (R * 2 + X % 2) = (R * 2 + X % 2 - b) + b * (Q * 2 + 1) by rw [Nat.mul_add]; omega, Nat.add_mul_div_left _ _ hb, Nat.div_eq_of_lt (by omega)]
      omega
    · rename_i h
      rw [h7, Nat.add_comm, Nat.add_mul_div_left _ _ hb, Nat.div_eq_of_lt (by omega)]
      omega
  · split
    · rename_i h
      conv => lhs; rw [h7, show b * (Q * 2) + (R * 2 + X % 2) = (R * 2 + X % 2 - b) + b * (Q * 2 + 1) by rw [Nat.mul_add]; omega, Nat.add_mul_mod_self_left, Nat.mod_eq_of_lt (by omega)]
    · rename_i h
      conv => lhs; rw [h7, Nat.add_comm, Nat.add_mul_mod_self_left, Nat.mod_eq_of_lt (by omega)]
      omega

set_option maxHeartbeats 1000000 in
theorem long_any (a b : Nat) (ha : a ≤ 18446744073709551615) (hb : b ≤ 18446744073709551615) (hb0 : 0 < b) (w : World) :
    Calls Try.prog 117 #[.int .u64 a, .int .u64 b] w fun e w' => e = .returned (.tuple #[.int .u64 ((a / b : Nat) : Int), .int .u64 ((a % b : Nat) : Int)]) ∧ w' = w := by
  go_enter Try.func117, Try.ntmps117
  go_wp2
  go_loop [6, 7, 8] (fun q r i => ∃ j : Nat, j ≤ 64 ∧ i = .int .i64 ((j : Int) - 1) ∧ q = .int .u64 ((a / 2 ^ j / b : Nat) : Int) ∧ r = .int .u64 ((a / 2 ^ j % b : Nat) : Int)) (fun _ _ i => (intOf i + 1).toNat)
  case atStart => exact ⟨64, by omega, rfl, by rw [Nat.div_eq_of_lt (a := a) (by omega)]; simp, by rw [Nat.div_eq_of_lt (a := a) (by omega)]; simp⟩
  case round =>
    obtain ⟨j, hj, rfl, rfl, rfl⟩ := hrel
    by_cases hj0 : j = 0
    · subst hj0
      go_wp2
      go_ret2
      exact ⟨by simp, rfl⟩
    · obtain ⟨m, rfl⟩ : ∃ m, j = m + 1 := ⟨j - 1, by omega⟩
      clear hj0
      rw [show (((m + 1 : Nat) : Int) - 1) = (m : Int) by omega]
      obtain ⟨f1, f2, f3, f4⟩ := long_facts a b m ha hb0
      have hA := and_bit a m ha
      have hO : Hid _ := fun t ht => or_bit (a / 2 ^ (m + 1) % b) t f2 ht
      have hQ := or_bit (a / 2 ^ (m + 1) / b) 1 f1 (by omega)
      have F3 : Hid _ := f3
      have F4 : Hid _ := f4
      clear f3 f4
      generalize eR : a / 2 ^ (m + 1) % b = R at *
      generalize eQ : a / 2 ^ (m + 1) / b = Q at *
      have ht : a / 2 ^ m % 2 < 2 := Nat.mod_lt _ (by omega)
      have hR := hO.out _ ht
      generalize eT : a / 2 ^ m % 2 = t at *
      clear hO eR eQ eT
      have ho : ((R : Int) / 9223372036854775808 == 1) = false := by simp; omega
      by_cases hc : b ≤ R * 2 + t
      · go_wp2
        go_round
        case rel => exact ⟨m, by omega, rfl, by rw [F3.out, if_pos hc]; exact congrArg (Value.int .u64) hQ, by rw [F4.out, if_pos hc]; exact congrArg (Value.int .u64) (by omega)⟩
        case measure => first | (simp [intOf]; done) | (simp [intOf]; omega)
      · go_wp2
        go_round
        case rel => exact ⟨m, by omega, rfl, by rw [F3.out, if_neg (by omega)]; exact congrArg (Value.int .u64) (by omega), by rw [F4.out, if_neg (by omega)]; exact congrArg (Value.int .u64) (by omega)⟩
        case measure => first | (simp [intOf]; done) | (simp [intOf]; omega)

/- the order -/
theorem bit_nat (a : Int) (m : Nat) : bitOf a m = decide ((U a).toNat / 2 ^ m % 2 = 1) := by rw [bitOf_test, testBit_div]

theorem low_eq (A B m : Nat) (h : A / 2 ^ (m + 1) = B / 2 ^ (m + 1)) (h2 : A / 2 ^ m % 2 = B / 2 ^ m % 2) : A / 2 ^ m = B / 2 ^ m := by
  rw [Nat.pow_succ, ← Nat.div_div_eq_div_mul, ← Nat.div_div_eq_div_mul] at h
  omega
theorem low_lt (A B m : Nat) (h : A / 2 ^ (m + 1) = B / 2 ^ (m + 1)) (h2 : A / 2 ^ m % 2 = 0) (h3 : B / 2 ^ m % 2 = 1) : A < B := by
  rw [Nat.pow_succ, ← Nat.div_div_eq_div_mul, ← Nat.div_div_eq_div_mul] at h
  have h4 : A / 2 ^ m < B / 2 ^ m := by omega
  rcases Nat.lt_or_ge A B with h5 | h5
  · exact h5
  · have := Nat.div_le_div_right (c := 2 ^ m) h5
    omega
theorem U_lt (a b : Int) (h1 : -9223372036854775808 ≤ a ∧ a ≤ 9223372036854775807) (h2 : -9223372036854775808 ≤ b ∧ b ≤ 9223372036854775807) (hs : a < 0 ↔ b < 0) :
    (U a).toNat < (U b).toNat ↔ a < b := by unfold U; omega

/-- the same bits from place j on -/
def Agree (a b : Int) (j : Nat) : Prop := (U a).toNat / 2 ^ j = (U b).toNat / 2 ^ j

set_option maxHeartbeats 400000 in
theorem below_apart (a b : Int) (x : Bool) (h1 : decide (a < 0) = x) (h2 : decide (b < 0) = !x) (w : World) :
    Calls Try.prog 123 #[.int .i64 a, .int .i64 b] w fun e w' => e = .returned (.bool x) ∧ w' = w := by
  cases x with
  | true =>
    have h2 : decide (b < 0) = false := h2
    go_enter Try.func123, Try.ntmps123
    go_wp2
    go_ret
    exact ⟨rfl, rfl⟩
  | false =>
    have h2 : decide (b < 0) = true := h2
    go_enter Try.func123, Try.ntmps123
    go_wp2
    go_ret
    exact ⟨rfl, rfl⟩

set_option maxHeartbeats 1000000 in
theorem below_same (a b : Int) (x : Bool) (q1 : decide (a < 0) = x) (q2 : decide (b < 0) = x) (h1 : -9223372036854775808 ≤ a ∧ a ≤ 9223372036854775807) (h2 : -9223372036854775808 ≤ b ∧ b ≤ 9223372036854775807) (r : Bool) (hr : Hid (r = decide (a < b))) (w : World) :
    Calls Try.prog 123 #[.int .i64 a, .int .i64 b] w fun e w' => e = .returned (.bool r) ∧ w' = w := by
  have H1 : Hid _ := h1
  have H2 : Hid _ := h2
  clear h1 h2
  have hs2 : a < 0 ↔ b < 0 := by
    cases x <;> simp at q1 q2 <;> omega
  have HU : Hid _ := U_lt a b H1.out H2.out hs2
  have HU2 : Hid _ := U_lt b a H2.out H1.out hs2.symm
  clear hs2
  cases x
  all_goals
    go_enter Try.func123, Try.ntmps123
    go_wp2
    go_loop [5] (fun i => ∃ j : Nat, j ≤ 64 ∧ i = .int .i64 ((j : Int) - 1) ∧ Agree a b j) (fun i => (intOf i + 1).toNat)
    case atStart => exact ⟨64, by omega, rfl, by have := U_bd a; have := U_bd b; unfold Agree; rw [Nat.div_eq_of_lt (by omega), Nat.div_eq_of_lt (by omega)]⟩
    case round =>
      obtain ⟨j, hj, rfl, he⟩ := hrel
      have HE : Hid (Agree a b j) := he
      clear he
      by_cases hj0 : j = 0
      · subst hj0
        have hrr : Hid (r = false) := by
          show _ = _
          rw [hr.out]
          have h3 := HU.out
          have h4 := HE.out
          simp only [Agree, Nat.pow_zero, Nat.div_one] at h4
          have : ¬ a < b := by rw [← h3]; omega
          simp [this]
        go_wp2
        go_ret
        exact ⟨by rw [hrr.out]; rfl, rfl⟩
      · obtain ⟨m, rfl⟩ : ∃ m, j = m + 1 := ⟨j - 1, by omega⟩
        clear hj0
        rw [show (((m + 1 : Nat) : Int) - 1) = (m : Int) by omega]
        have BA : Hid _ := bit_nat a m
        have BB : Hid _ := bit_nat b m
        cases hA : bitOf a m <;> cases hB : bitOf b m
        · have NX : Hid (Agree a b m) := by
            have h5 := BA.out; have h6 := BB.out
            rw [hA] at h5; rw [hB] at h6
            simp at h5 h6
            exact low_eq _ _ _ HE.out (by omega)
          go_wp2_with fail
          refine (bit_any a m (by omega) H1.out.1 H1.out.2 _).mono ?_
          rintro e w' ⟨rfl, rfl⟩
          go_wp2_with fail
          refine (bit_any b m (by omega) H2.out.1 H2.out.2 _).mono ?_
          rintro e w' ⟨rfl, rfl⟩
          go_wp2
          go_round
          case rel => exact ⟨m, by omega, rfl, NX.out⟩
          case measure => first | (simp [intOf]; done) | (simp [intOf]; omega)
        · have hrr : Hid (r = true) := by
            show _ = _
            have h5 := BA.out; have h6 := BB.out
            rw [hA] at h5; rw [hB] at h6
            simp at h5 h6
            rw [hr.out]
            exact decide_eq_true (HU.out.1 (low_lt _ _ _ HE.out (by omega) h6))
          go_wp2_with fail
          refine (bit_any a m (by omega) H1.out.1 H1.out.2 _).mono ?_
          rintro e w' ⟨rfl, rfl⟩
          go_wp2_with fail
          refine (bit_any b m (by omega) H2.out.1 H2.out.2 _).mono ?_
          rintro e w' ⟨rfl, rfl⟩
          go_wp2_with fail
          refine (bit_any b m (by omega) H2.out.1 H2.out.2 _).mono ?_
          rintro e w' ⟨rfl, rfl⟩
          go_wp2
          go_ret
          exact ⟨by rw [hrr.out]; rfl, rfl⟩
        · have hrr : Hid (r = false) := by
            show _ = _
            have h5 := BA.out; have h6 := BB.out
            rw [hA] at h5; rw [hB] at h6
            simp at h5 h6
            have := low_lt (U b).toNat (U a).toNat m HE.out.symm (by omega) h5
            have h7 := HU.out
            rw [hr.out]
            have : ¬ a < b := by rw [← h7]; omega
            simp [this]
          go_wp2_with fail
          refine (bit_any a m (by omega) H1.out.1 H1.out.2 _).mono ?_
          rintro e w' ⟨rfl, rfl⟩
          go_wp2_with fail
          refine (bit_any b m (by omega) H2.out.1 H2.out.2 _).mono ?_
          rintro e w' ⟨rfl, rfl⟩
          go_wp2_with fail
          refine (bit_any b m (by omega) H2.out.1 H2.out.2 _).mono ?_
          rintro e w' ⟨rfl, rfl⟩
          go_wp2
          go_ret
          exact ⟨by rw [hrr.out]; rfl, rfl⟩
        · have NX : Hid (Agree a b m) := by
            have h5 := BA.out; have h6 := BB.out
            rw [hA] at h5; rw [hB] at h6
            simp at h5 h6
            exact low_eq _ _ _ HE.out (by omega)
          go_wp2_with fail
          refine (bit_any a m (by omega) H1.out.1 H1.out.2 _).mono ?_
          rintro e w' ⟨rfl, rfl⟩
          go_wp2_with fail
          refine (bit_any b m (by omega) H2.out.1 H2.out.2 _).mono ?_
          rintro e w' ⟨rfl, rfl⟩
          go_wp2
          go_round
          case rel => exact ⟨m, by omega, rfl, NX.out⟩
          case measure => first | (simp [intOf]; done) | (simp [intOf]; omega)

theorem below_any (a b : Int) (h1 : -9223372036854775808 ≤ a ∧ a ≤ 9223372036854775807) (h2 : -9223372036854775808 ≤ b ∧ b ≤ 9223372036854775807) (r : Bool) (hr : Hid (r = decide (a < b))) (w : World) :
    Calls Try.prog 123 #[.int .i64 a, .int .i64 b] w fun e w' => e = .returned (.bool r) ∧ w' = w := by
  by_cases ha : a < 0 <;> by_cases hb : b < 0
  · exact below_same a b true (by simp [ha]) (by simp [hb]) h1 h2 r hr w
  · rw [hr.out, show decide (a < b) = true by simp; omega]
    exact below_apart a b true (by simp [ha]) (by simpa using hb) w
  · rw [hr.out, show decide (a < b) = false by simp; omega]
    exact below_apart a b false (by simpa using ha) (by simp [hb]) w
  · exact below_same a b false (by simpa using ha) (by simpa using hb) h1 h2 r hr w
end Go.Proofs.Ytongeppdaeekeaa
