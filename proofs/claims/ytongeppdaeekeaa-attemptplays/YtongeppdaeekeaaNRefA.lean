/- What the document's halves, sums, turned bits and single bits are, as numbers. -/
import Derived.Test.YtongeppdaeekeaaRows
import Derived.Test.YtongeppdaeekeaaNWrap
import Derived.WalkKit
import Derived.WalkSpells
import Derived.WalkLawsBesides
import Derived.Handy
import Derived.Laws.BitsAllLaws
namespace Go.Proofs.Ytongeppdaeekeaa
open Go.RowKit
set_option linter.unusedVariables false

theorem ret_int {k : IntKind} {a b : Int} (h : a = b) : Ending.returned (.int k a) = .returned (.int k b) := by rw [h]

/-- a number's 64 bits, as a number from 0 on -/
def U (a : Int) : Int := a % 18446744073709551616
theorem U_is (a : Int) : IntKind.u64.wrap a = U a := by rw [IntKind.wrap_u64]; rfl
theorem U_bd (a : Int) : 0 ≤ U a ∧ U a ≤ 18446744073709551615 := by unfold U; omega

theorem and_low (x : Int) (h0 : 0 ≤ x) (h1 : x ≤ 18446744073709551615) : bits .and .u64 x 4294967295 = x % 4294967296 := by
  rw [u64_and x 4294967295 h0 (by omega) (by omega) (by omega)]
  show ((x.toNat &&& 2 ^ 32 - 1 : Nat) : Int) = _
  rw [Nat.and_two_pow_sub_one_eq_mod]
  omega
theorem and_one (x : Int) (h0 : 0 ≤ x) (h1 : x ≤ 18446744073709551615) : bits .and .u64 x 1 = x % 2 := by
  rw [u64_and x 1 h0 (by omega) (by omega) (by omega)]
  show ((x.toNat &&& 1 : Nat) : Int) = _
  rw [nat_mask1]
  omega
theorem or_join (h l : Int) (h0 : 0 ≤ h) (h1 : h ≤ 4294967295) (l0 : 0 ≤ l) (l1 : l ≤ 4294967295) : bits .or .u64 (h * 4294967296) l = h * 4294967296 + l := by
  rw [u64_or _ l (by omega) (by omega) l0 (by omega), nat_join 32 (h * 4294967296).toNat l.toNat (by omega) (by omega)]
  omega

set_option maxHeartbeats 400000 in
theorem half_any (a : Int) (h1 : -9223372036854775808 ≤ a) (h2 : a ≤ 9223372036854775807) (w : World) :
    Calls Try.prog 124 #[.int .i64 a] w fun e w' => e = .returned (.tuple #[.int .u64 (U a % 4294967296), .int .u64 (U a / 4294967296)]) ∧ w' = w := by
  have e1 : bits .and .u64 (IntKind.u64.wrap a) 4294967295 = U a % 4294967296 := by rw [U_is]; exact and_low _ (U_bd a).1 (U_bd a).2
  go_enter Try.func124, Try.ntmps124
  go_wp2
  go_ret2
  exact ⟨by rw [← e1, ← U_is]; rfl, rfl⟩

set_option maxHeartbeats 400000 in
theorem whole_any (l h : Int) (h1 : 0 ≤ l) (h2 : l ≤ 18446744073709551615) (h3 : 0 ≤ h) (h4 : h ≤ 18446744073709551615) (w : World) :
    Calls Try.prog 125 #[.int .u64 l, .int .u64 h] w fun e w' => e = .returned (.int .i64 (wrap64 (h % 4294967296 * 4294967296 + l % 4294967296))) ∧ w' = w := by
  have e1 := and_low l h1 h2
  have e2 : IntKind.u64.wrap (h * 4294967296) = h % 4294967296 * 4294967296 := by rw [IntKind.wrap_u64]; omega
  have e3 := or_join (h % 4294967296) (l % 4294967296) (by omega) (by omega) (by omega) (by omega)
  have E : Hid (wrap64 (bits .or .u64 (IntKind.u64.wrap (h * 4294967296)) (bits .and .u64 l 4294967295)) = wrap64 (h % 4294967296 * 4294967296 + l % 4294967296)) := by
    show _ = _
    rw [e1, e2, e3]
  clear e1 e2 e3
  go_enter Try.func125, Try.ntmps125
  go_wp2
  go_ret
  exact ⟨by rw [← E.out]; rfl, rfl⟩

set_option maxHeartbeats 400000 in
theorem add_any (a b : Int) (h1 : -9223372036854775808 ≤ a ∧ a ≤ 9223372036854775807) (h2 : -9223372036854775808 ≤ b ∧ b ≤ 9223372036854775807) (w : World) :
    Calls Try.prog 114 #[.int .i64 a, .int .i64 b] w fun e w' => e = .returned (.int .i64 (wrap64 (a + b))) ∧ w' = w := by
  obtain ⟨u1, u2⟩ := U_bd a
  obtain ⟨v1, v2⟩ := U_bd b
  have H1 : Hid _ := h1
  have H2 : Hid _ := h2
  clear h1 h2
  go_enter Try.func114, Try.ntmps114
  go_wp2_with fail
  refine (half_any _ H1.out.1 H1.out.2 _).mono ?_
  rintro e w' ⟨rfl, rfl⟩
  go_wp2_with fail
  refine (half_any _ H2.out.1 H2.out.2 _).mono ?_
  rintro e w' ⟨rfl, rfl⟩
  go_wp2_with fail
  refine (whole_any _ _ (by omega) (by omega) (by omega) (by omega) _).mono ?_
  rintro e w' ⟨rfl, rfl⟩
  go_wp2
  go_ret
  exact ⟨ret_int (by unfold wrap64 U; omega), rfl⟩

set_option maxHeartbeats 400000 in
theorem com_any (a : Int) (h1 : -9223372036854775808 ≤ a) (h2 : a ≤ 9223372036854775807) (w : World) :
    Calls Try.prog 126 #[.int .i64 a] w fun e w' => e = .returned (.int .i64 (-1 - a)) ∧ w' = w := by
  obtain ⟨u1, u2⟩ := U_bd a
  go_enter Try.func126, Try.ntmps126
  go_wp2_with fail
  refine (half_any _ h1 h2 _).mono ?_
  rintro e w' ⟨rfl, rfl⟩
  go_wp2_with fail
  refine (whole_any _ _ (by omega) (by omega) (by omega) (by omega) _).mono ?_
  rintro e w' ⟨rfl, rfl⟩
  go_wp2
  go_ret
  exact ⟨ret_int (by unfold wrap64 U; omega), rfl⟩

set_option maxHeartbeats 400000 in
theorem neg_any (a : Int) (h1 : -9223372036854775808 ≤ a) (h2 : a ≤ 9223372036854775807) (w : World) :
    Calls Try.prog 115 #[.int .i64 a] w fun e w' => e = .returned (.int .i64 (wrap64 (-a))) ∧ w' = w := by
  have E : Hid (wrap64 (-1 - a + 1) = wrap64 (-a)) := by show _ = _; rw [show -1 - a + 1 = -a by omega]
  go_enter Try.func115, Try.ntmps115
  go_wp2_with fail
  refine (com_any _ h1 h2 _).mono ?_
  rintro e w' ⟨rfl, rfl⟩
  go_wp2_with fail
  refine (add_any _ _ (by omega) (by omega) _).mono ?_
  rintro e w' ⟨rfl, rfl⟩
  go_wp2
  go_ret
  exact ⟨by rw [← E.out]; rfl, rfl⟩

/-- is bit i of a number 1? -/
def bitOf (a : Int) (i : Nat) : Bool := decide (U a / 2 ^ i % 2 = 1)

theorem pow_bd (a : Int) (i : Nat) : 0 ≤ U a / 2 ^ i ∧ U a / 2 ^ i ≤ 18446744073709551615 := by
  obtain ⟨u1, u2⟩ := U_bd a
  have hp : (0 : Int) < 2 ^ i := by
    have := Nat.two_pow_pos i
    have e : ((2 ^ i : Nat) : Int) = (2 : Int) ^ i := by simp
    omega
  refine ⟨Int.ediv_nonneg u1 (by omega), ?_⟩
  have := Int.ediv_le_self (2 ^ i) u1
  omega

set_option maxHeartbeats 400000 in
theorem bit_any (a : Int) (i : Nat) (hi : i < 64) (h1 : -9223372036854775808 ≤ a) (h2 : a ≤ 9223372036854775807) (w : World) :
    Calls Try.prog 127 #[.int .i64 a, .int .i64 i] w fun e w' => e = .returned (.bool (bitOf a i)) ∧ w' = w := by
  have E : Hid ((bits .and .u64 (IntKind.u64.wrap a / 2 ^ i) 1 == 1) = bitOf a i) := by
    show _ = _
    rw [U_is, and_one _ (pow_bd a i).1 (pow_bd a i).2]
    unfold bitOf
    rfl
  go_enter Try.func127, Try.ntmps127
  go_wp2
  go_ret
  exact ⟨by rw [← E.out]; rfl, rfl⟩
end Go.Proofs.Ytongeppdaeekeaa
