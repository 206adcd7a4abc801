/- What the document's product, long division, order, logic and moves are, as numbers. -/
import Derived.Test.YtongeppdaeekeaaNBits
namespace Go.Proofs.Ytongeppdaeekeaa
open Go.RowKit
set_option linter.unusedVariables false

def dbl (a : Int) (k : Nat) : Int := wrap64 (a * 2 ^ k)
def mulN (a b : Int) (k : Nat) : Int := wrap64 (a * (((U b).toNat % 2 ^ k : Nat) : Int))

theorem wrap_two (x y : Int) : wrap64 (wrap64 x + wrap64 y) = wrap64 (x + y) := by
  obtain ⟨k, hk⟩ := wrap_ex x
  obtain ⟨l, hl⟩ := wrap_ex y
  rw [hk, hl, show x + k * 18446744073709551616 + (y + l * 18446744073709551616) = x + y + (k + l) * 18446744073709551616 by omega, wrap_add]
theorem wrap_neg (x : Int) : wrap64 (-(wrap64 x)) = wrap64 (-x) := by
  obtain ⟨k, hk⟩ := wrap_ex x
  rw [hk, show -(x + k * 18446744073709551616) = -x + (-k) * 18446744073709551616 by omega, wrap_add]

theorem dbl_zero (a : Int) (h1 : -9223372036854775808 ≤ a) (h2 : a ≤ 9223372036854775807) : dbl a 0 = a := by
  unfold dbl; rw [Int.pow_zero, Int.mul_one]; exact wrap_in h1 h2
theorem dbl_succ (a : Int) (k : Nat) : wrap64 (dbl a k + dbl a k) = dbl a (k + 1) := by
  unfold dbl
  rw [wrap_two, Int.pow_succ, ← Int.mul_assoc, show a * 2 ^ k + a * 2 ^ k = a * 2 ^ k * 2 by omega]
theorem mulN_zero (a b : Int) : mulN a b 0 = 0 := by
  unfold mulN; rw [Nat.pow_zero, Nat.mod_one]; simp; unfold wrap64; omega
theorem mulN_yes (a b : Int) (k : Nat) (h : bitOf b k = true) : wrap64 (mulN a b k + dbl a k) = mulN a b (k + 1) := by
  unfold mulN dbl
  rw [bitOf_test] at h
  rw [wrap_two, mod_succ, h, if_pos rfl, Int.natCast_add, Int.mul_add]
  simp
theorem mulN_no (a b : Int) (k : Nat) (h : bitOf b k = false) : mulN a b k = mulN a b (k + 1) := by
  unfold mulN
  rw [bitOf_test] at h
  rw [mod_succ, h]
  simp
theorem mulN_all (a b : Int) : mulN a b 64 = wrap64 (a * b) := by
  unfold mulN
  have hu := U_bd b
  rw [Nat.mod_eq_of_lt (by omega), show (((U b).toNat : Nat) : Int) = U b by omega]
  have : ∃ k : Int, U b = b + k * 18446744073709551616 := ⟨-(b / 18446744073709551616), by unfold U; omega⟩
  obtain ⟨k, hk⟩ := this
  rw [hk, Int.mul_add, ← Int.mul_assoc, wrap_add]

set_option maxHeartbeats 1000000 in
theorem mul_any (a b : Int) (h1 : -9223372036854775808 ≤ a ∧ a ≤ 9223372036854775807) (h2 : -9223372036854775808 ≤ b ∧ b ≤ 9223372036854775807) (w : World) :
    Calls Try.prog 116 #[.int .i64 a, .int .i64 b] w fun e w' => e = .returned (.int .i64 (wrap64 (a * b))) ∧ w' = w := by
  have H1 : Hid _ := h1
  have H2 : Hid _ := h2
  clear h1 h2
  go_enter Try.func116, Try.ntmps116
  go_wp2
  go_loop [0, 5, 6] (fun A n i => ∃ k : Nat, k ≤ 64 ∧ A = .int .i64 (dbl a k) ∧ n = .int .i64 (mulN a b k) ∧ i = .int .i64 k) (fun _ _ i => 64 - (intOf i).toNat)
  case atStart => exact ⟨0, by omega, by rw [dbl_zero a H1.out.1 H1.out.2], by rw [mulN_zero], rfl⟩
  case round =>
    obtain ⟨k, hk, rfl, rfl, rfl⟩ := hrel
    have D : Hid _ := wrap_bd (a * 2 ^ k)
    have M : Hid _ := wrap_bd (a * (((U b).toNat % 2 ^ k : Nat) : Int))
    by_cases hlt : k < 64
    · by_cases hb : bitOf b k = true
      · go_wp2_with fail
        refine (bit_any b k hlt H2.out.1 H2.out.2 _).mono ?_
        rintro e w' ⟨rfl, rfl⟩
        have HB : Hid _ := hb
        go_wp2_with fail
        refine (add_any (mulN a b k) (dbl a k) M.out D.out _).mono ?_
        rintro e w' ⟨rfl, rfl⟩
        go_wp2_with fail
        refine (add_any (dbl a k) (dbl a k) D.out D.out _).mono ?_
        rintro e w' ⟨rfl, rfl⟩
        go_wp2
        go_round
        case rel => exact ⟨k + 1, by omega, by rw [dbl_succ], by rw [mulN_yes a b k HB.out], by go_num⟩
        case measure => simp [intOf]; omega
      · have hb : bitOf b k = false := by simpa using hb
        go_wp2_with fail
        refine (bit_any b k hlt H2.out.1 H2.out.2 _).mono ?_
        rintro e w' ⟨rfl, rfl⟩
        have HB : Hid _ := hb
        go_wp2_with fail
        refine (add_any (dbl a k) (dbl a k) D.out D.out _).mono ?_
        rintro e w' ⟨rfl, rfl⟩
        go_wp2
        go_round
        case rel => exact ⟨k + 1, by omega, by rw [dbl_succ], by rw [mulN_no a b k HB.out], by go_num⟩
        case measure => simp [intOf]; omega
    · have hk' : k = 64 := by omega
      subst hk'
      go_wp2
      go_ret
      exact ⟨ret_int (mulN_all a b), rfl⟩

set_option maxHeartbeats 400000 in
theorem rsize_any (n : Int) (h1 : -9223372036854775808 ≤ n) (h2 : n ≤ 9223372036854775807) (w : World) :
    Calls Try.prog 118 #[.int .i64 n] w fun e w' => e = .returned (.int .u64 (n.natAbs : Int)) ∧ w' = w := by
  by_cases h : n < 0
  · go_enter Try.func118, Try.ntmps118
    go_wp2_with fail
    refine (neg_any n h1 h2 _).mono ?_
    rintro e w' ⟨rfl, rfl⟩
    go_wp2
    go_ret
    exact ⟨ret_int (by rw [IntKind.wrap_u64]; unfold wrap64; omega), rfl⟩
  · go_enter Try.func118, Try.ntmps118
    go_wp2
    go_ret
    exact ⟨ret_int (by omega), rfl⟩

set_option maxHeartbeats 400000 in
theorem signed_any (n : Int) (m : Bool) (h1 : 0 ≤ n) (h2 : n ≤ 18446744073709551615) (w : World) :
    Calls Try.prog 119 #[.int .u64 n, .bool m] w fun e w' => e = .returned (.int .i64 (wrap64 (if m = true then -n else n))) ∧ w' = w := by
  cases m with
  | true =>
    have hb : Hid _ := wrap_bd n
    have hn : Hid _ := wrap_neg n
    go_enter Try.func119, Try.ntmps119
    go_wp2_with fail
    refine (neg_any _ hb.out.1 hb.out.2 _).mono ?_
    rintro e w' ⟨rfl, rfl⟩
    go_wp2
    go_ret
    exact ⟨ret_int (by rw [hn.out]), rfl⟩
  | false =>
    go_enter Try.func119, Try.ntmps119
    go_wp2
    go_ret
    exact ⟨ret_int (by simp), rfl⟩
end Go.Proofs.Ytongeppdaeekeaa
