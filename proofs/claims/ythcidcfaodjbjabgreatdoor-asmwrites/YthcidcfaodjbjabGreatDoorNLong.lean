/- The document's long division and sizes. -/
import Derived.Test.YthcidcfaodjbjabGreatDoorNRefA
namespace Go.Proofs.YthcidcfaodjbjabGreatDoor
open Go.RowKit
set_option linter.unusedVariables false

set_option maxHeartbeats 400000 in
theorem rsize_any (n : Int) (h1 : -9223372036854775808 ≤ n) (h2 : n ≤ 9223372036854775807) (w : World) :
    Calls Tryz.prog 50 #[.int .i64 n] w fun e w' => e = .returned (.int .u64 (n.natAbs : Int)) ∧ w' = w := by
  by_cases h : n < 0
  · go_enter Tryz.func50, Tryz.ntmps50
    go_wp2_with fail
    refine (neg_any n h1 h2 _).mono ?_
    rintro e w' ⟨rfl, rfl⟩
    go_wp2
    go_ret
    exact ⟨ret_int (by rw [IntKind.wrap_u64]; unfold wrap64; omega), rfl⟩
  · go_enter Tryz.func50, Tryz.ntmps50
    go_wp2
    go_ret
    exact ⟨ret_int (by omega), rfl⟩

theorem or_bit (x t : Nat) (hx : x ≤ 9223372036854775807) (ht : t < 2) : bits .or .u64 ((x : Int) * 2) (t : Int) = (((x * 2 + t : Nat)) : Int) := by
  have e : (x : Int) * 2 = ((x * 2 : Nat) : Int) := by simp
  rw [e, u64_or_nat (x * 2) t (by omega) (by omega), nat_join 1 (x * 2) t (by omega) (by omega)]

theorem and_bit (a m : Nat) (ha : a ≤ 18446744073709551615) : bits .and .u64 ((a : Int) / 2 ^ m) 1 = ((a / 2 ^ m % 2 : Nat) : Int) := by
  have e : (a : Int) / 2 ^ m = ((a / 2 ^ m : Nat) : Int) := by simp
  have h := Nat.div_le_self a (2 ^ m)
  rw [e]
  generalize a / 2 ^ m = X at *
  rw [and_one _ (by omega) (by omega)]
  simp

/-- the facts of a round -/
theorem long_facts (a b m : Nat) (ha : a ≤ 18446744073709551615) (hb : 0 < b) :
    a / 2 ^ (m + 1) / b ≤ 9223372036854775807 ∧ a / 2 ^ (m + 1) % b ≤ 9223372036854775807 ∧
    a / 2 ^ m / b = a / 2 ^ (m + 1) / b * 2 + (if b ≤ a / 2 ^ (m + 1) % b * 2 + a / 2 ^ m % 2 then 1 else 0) ∧
    a / 2 ^ m % b = a / 2 ^ (m + 1) % b * 2 + a / 2 ^ m % 2 - (if b ≤ a / 2 ^ (m + 1) % b * 2 + a / 2 ^ m % 2 then b else 0) := by
  have h1 : a / 2 ^ (m + 1) = a / 2 ^ m / 2 := by rw [Nat.pow_succ, Nat.div_div_eq_div_mul]
  generalize a / 2 ^ (m + 1) = P at *
  have h0 := Nat.div_le_self a (2 ^ m)
  generalize a / 2 ^ m = X at *
  have h2 : P ≤ 9223372036854775807 := by omega
  have h3 := Nat.div_le_self P b
  have h4 := Nat.mod_le P b
  have h5 := Nat.mod_lt P hb
  have h6 := Nat.div_add_mod P b
  generalize P / b = Q at *
  generalize P % b = R at *
  have h7 : X = b * (Q * 2) + (R * 2 + X % 2) := by
    have : b * (Q * 2) = b * Q * 2 := by rw [Nat.mul_assoc]
    omega
  refine ⟨by omega, by omega, ?_, ?_⟩
  · split
    · rename_i h
      rw [h7, show b * (Q * 2) + (R * 2 + X % 2) = (R * 2 + X % 2 - b) + b * (Q * 2 + 1) by rw [Nat.mul_add]; omega, Nat.add_mul_div_left _ _ hb, Nat.div_eq_of_lt (by omega)]
      omega
    · rename_i h
      rw [h7, Nat.add_comm, Nat.add_mul_div_left _ _ hb, Nat.div_eq_of_lt (by omega)]
      omega
  · split
    · rename_i h
      conv => lhs; rw [h7, show b * (Q * 2) + (R * 2 + X % 2) = (R * 2 + X % 2 - b) + b * (Q * 2 + 1) by rw [Nat.mul_add]; omega, Nat.add_mul_mod_self_left, Nat.mod_eq_of_lt (by omega)]
    · rename_i h
      conv => lhs; rw [h7, Nat.add_comm, Nat.add_mul_mod_self_left, Nat.mod_eq_of_lt (by omega)]
      omega

set_option maxHeartbeats 1000000 in
theorem long_any (a b : Nat) (ha : a ≤ 18446744073709551615) (hb : b ≤ 18446744073709551615) (hb0 : 0 < b) (w : World) :
    Calls Tryz.prog 51 #[.int .u64 a, .int .u64 b] w fun e w' => e = .returned (.tuple #[.int .u64 ((a / b : Nat) : Int), .int .u64 ((a % b : Nat) : Int)]) ∧ w' = w := by
  go_enter Tryz.func51, Tryz.ntmps51
  go_wp2
  go_loop [6, 7, 8] (fun q r i => ∃ j : Nat, j ≤ 64 ∧ i = .int .i64 ((j : Int) - 1) ∧ q = .int .u64 ((a / 2 ^ j / b : Nat) : Int) ∧ r = .int .u64 ((a / 2 ^ j % b : Nat) : Int)) (fun _ _ i => (intOf i + 1).toNat)
  case atStart => exact ⟨64, by omega, rfl, by rw [Nat.div_eq_of_lt (a := a) (by omega)]; simp, by rw [Nat.div_eq_of_lt (a := a) (by omega)]; simp⟩
  case round =>
    obtain ⟨j, hj, rfl, rfl, rfl⟩ := hrel
    by_cases hj0 : j = 0
    · subst hj0
      go_wp2
      go_ret2
      exact ⟨by simp, rfl⟩
    · obtain ⟨m, rfl⟩ : ∃ m, j = m + 1 := ⟨j - 1, by omega⟩
      clear hj0
      rw [show (((m + 1 : Nat) : Int) - 1) = (m : Int) by omega]
      obtain ⟨f1, f2, f3, f4⟩ := long_facts a b m ha hb0
      have hA := and_bit a m ha
      have hO : Hid _ := fun t ht => or_bit (a / 2 ^ (m + 1) % b) t f2 ht
      have hQ := or_bit (a / 2 ^ (m + 1) / b) 1 f1 (by omega)
      have F3 : Hid _ := f3
      have F4 : Hid _ := f4
      clear f3 f4
      generalize eR : a / 2 ^ (m + 1) % b = R at *
      generalize eQ : a / 2 ^ (m + 1) / b = Q at *
      have ht : a / 2 ^ m % 2 < 2 := Nat.mod_lt _ (by omega)
      have hR := hO.out _ ht
      generalize eT : a / 2 ^ m % 2 = t at *
      clear hO eR eQ eT
      have ho : ((R : Int) / 9223372036854775808 == 1) = false := by simp; omega
      by_cases hc : b ≤ R * 2 + t
      · go_wp2
        go_round
        case rel => exact ⟨m, by omega, rfl, by rw [F3.out, if_pos hc]; exact congrArg (Value.int .u64) hQ, by rw [F4.out, if_pos hc]; exact congrArg (Value.int .u64) (by omega)⟩
        case measure => first | (simp [intOf]; done) | (simp [intOf]; omega)
      · go_wp2
        go_round
        case rel => exact ⟨m, by omega, rfl, by rw [F3.out, if_neg (by omega)]; exact congrArg (Value.int .u64) (by omega), by rw [F4.out, if_neg (by omega)]; exact congrArg (Value.int .u64) (by omega)⟩
        case measure => first | (simp [intOf]; done) | (simp [intOf]; omega)

/- the order -/
end Go.Proofs.YthcidcfaodjbjabGreatDoor
