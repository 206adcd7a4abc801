/- What the document's product, long division, order, logic and moves are, as numbers. -/
import Derived.WalkKit
import Derived.Test.YthcidcfaodjbjabDoorRows
import Derived.WalkSpells
import Derived.WalkLawsBesides
import Derived.Handy
import Derived.Laws.BitsAllLaws
namespace Go.Proofs.YthcidcfaodjbjabDoor
open Go.RowKit

theorem wrap_ex (x : Int) : ∃ k : Int, wrap64 x = x + k * 18446744073709551616 := by
  unfold wrap64
  refine ⟨-((x + 9223372036854775808) / 18446744073709551616), ?_⟩
  have := Int.mul_ediv_add_emod (x + 9223372036854775808) 18446744073709551616
  omega

theorem wrap_add (x k : Int) : wrap64 (x + k * 18446744073709551616) = wrap64 x := by
  unfold wrap64
  rw [show x + k * 18446744073709551616 + 9223372036854775808 = x + 9223372036854775808 + k * 18446744073709551616 by omega, Int.add_mul_emod_self_right]

theorem wrap_in {x : Int} (h1 : -9223372036854775808 ≤ x) (h2 : x ≤ 9223372036854775807) : wrap64 x = x := by unfold wrap64; omega

theorem wrap_bd (x : Int) : -9223372036854775808 ≤ wrap64 x ∧ wrap64 x ≤ 9223372036854775807 := by unfold wrap64; omega

/-- a sum of a product, wrapped at each step -/
theorem wrap_mul_add (q b r : Int) : wrap64 (wrap64 (wrap64 q * b) + r) = wrap64 (q * b + r) := by
  obtain ⟨k, hk⟩ := wrap_ex q
  obtain ⟨l, hl⟩ := wrap_ex (wrap64 q * b)
  rw [hl, hk]
  have : (q + k * 18446744073709551616) * b + l * 18446744073709551616 + r = q * b + r + (k * b + l) * 18446744073709551616 := by
    rw [Int.add_mul, Int.add_mul, Int.mul_right_comm k _ b]; omega
  rw [this, wrap_add]

theorem wrap_wrap_sub (x : Int) : wrap64 (wrap64 x - 1) = wrap64 (x - 1) := by
  obtain ⟨k, hk⟩ := wrap_ex x
  rw [hk, show x + k * 18446744073709551616 - 1 = x - 1 + k * 18446744073709551616 by omega, wrap_add]

/-- the facts of a quotient cut towards 0 -/
theorem div_facts (a b : Int) (hb : b ≠ 0) :
    a.tdiv b * b + a.tmod b = a ∧ (a.tmod b = 0 ∨ (a.tmod b < 0 ↔ a < 0)) ∧ (a.tmod b).natAbs < b.natAbs := by
  refine ⟨?_, ?_, ?_⟩
  · have := Int.mul_tdiv_add_tmod a b
    rw [Int.mul_comm]; exact this
  · rcases Int.lt_or_le a 0 with h | h
    · have h1 : a.tmod b ≤ 0 := by
        have := Int.tmod_nonneg (a := -a) b (by omega)
        rw [Int.neg_tmod] at this
        omega
      rcases Int.lt_or_eq_of_le h1 with h2 | h2
      · exact Or.inr ⟨fun _ => h, fun _ => h2⟩
      · exact Or.inl h2
    · have := Int.tmod_nonneg (a := a) b h
      exact Or.inr ⟨fun h => by omega, fun h => by omega⟩
  · rw [Int.natAbs_tmod]
    exact Nat.mod_lt _ (by omega)
end Go.Proofs.YthcidcfaodjbjabDoor
namespace Go.Proofs.YthcidcfaodjbjabDoor
open Go.RowKit
set_option maxRecDepth 100000
set_option linter.unusedVariables false

theorem ret_int {k : IntKind} {a b : Int} (h : a = b) : Ending.returned (.int k a) = .returned (.int k b) := by rw [h]

/-- a number's 64 bits, as a number from 0 on -/
def U (a : Int) : Int := a % 18446744073709551616
theorem U_is (a : Int) : IntKind.u64.wrap a = U a := by rw [IntKind.wrap_u64]; rfl
theorem U_bd (a : Int) : 0 ≤ U a ∧ U a ≤ 18446744073709551615 := by unfold U; omega

theorem and_low (x : Int) (h0 : 0 ≤ x) (h1 : x ≤ 18446744073709551615) : bits .and .u64 x 4294967295 = x % 4294967296 := by
  rw [u64_and x 4294967295 h0 (by omega) (by omega) (by omega)]
  show ((x.toNat &&& 2 ^ 32 - 1 : Nat) : Int) = _
  rw [Nat.and_two_pow_sub_one_eq_mod]
  omega
theorem and_one (x : Int) (h0 : 0 ≤ x) (h1 : x ≤ 18446744073709551615) : bits .and .u64 x 1 = x % 2 := by
  rw [u64_and x 1 h0 (by omega) (by omega) (by omega)]
  show ((x.toNat &&& 1 : Nat) : Int) = _
  rw [nat_mask1]
  omega
theorem or_join (h l : Int) (h0 : 0 ≤ h) (h1 : h ≤ 4294967295) (l0 : 0 ≤ l) (l1 : l ≤ 4294967295) : bits .or .u64 (h * 4294967296) l = h * 4294967296 + l := by
  rw [u64_or _ l (by omega) (by omega) l0 (by omega), nat_join 32 (h * 4294967296).toNat l.toNat (by omega) (by omega)]
  omega

set_option maxHeartbeats 400000 in
theorem half_any (a : Int) (h1 : -9223372036854775808 ≤ a) (h2 : a ≤ 9223372036854775807) (w : World) :
    Calls Tryd.prog 100 #[.int .i64 a] w fun e w' => e = .returned (.tuple #[.int .u64 (U a % 4294967296), .int .u64 (U a / 4294967296)]) ∧ w' = w := by
  have e1 : bits .and .u64 (IntKind.u64.wrap a) 4294967295 = U a % 4294967296 := by rw [U_is]; exact and_low _ (U_bd a).1 (U_bd a).2
  go_enter Tryd.func100, Tryd.ntmps100
  go_wp2
  go_ret2
  exact ⟨by rw [← e1, ← U_is]; rfl, rfl⟩

set_option maxHeartbeats 400000 in
theorem whole_any (l h : Int) (h1 : 0 ≤ l) (h2 : l ≤ 18446744073709551615) (h3 : 0 ≤ h) (h4 : h ≤ 18446744073709551615) (w : World) :
    Calls Tryd.prog 101 #[.int .u64 l, .int .u64 h] w fun e w' => e = .returned (.int .i64 (wrap64 (h % 4294967296 * 4294967296 + l % 4294967296))) ∧ w' = w := by
  have e1 := and_low l h1 h2
  have e2 : IntKind.u64.wrap (h * 4294967296) = h % 4294967296 * 4294967296 := by rw [IntKind.wrap_u64]; omega
  have e3 := or_join (h % 4294967296) (l % 4294967296) (by omega) (by omega) (by omega) (by omega)
  have E : Hid (wrap64 (bits .or .u64 (IntKind.u64.wrap (h * 4294967296)) (bits .and .u64 l 4294967295)) = wrap64 (h % 4294967296 * 4294967296 + l % 4294967296)) := by
    show _ = _
    rw [e1, e2, e3]
  clear e1 e2 e3
  go_enter Tryd.func101, Tryd.ntmps101
  go_wp2
  go_ret
  exact ⟨by rw [← E.out]; rfl, rfl⟩

set_option maxHeartbeats 400000 in
theorem add_any (a b : Int) (h1 : -9223372036854775808 ≤ a ∧ a ≤ 9223372036854775807) (h2 : -9223372036854775808 ≤ b ∧ b ≤ 9223372036854775807) (w : World) :
    Calls Tryd.prog 87 #[.int .i64 a, .int .i64 b] w fun e w' => e = .returned (.int .i64 (wrap64 (a + b))) ∧ w' = w := by
  obtain ⟨u1, u2⟩ := U_bd a
  obtain ⟨v1, v2⟩ := U_bd b
  have H1 : Hid _ := h1
  have H2 : Hid _ := h2
  clear h1 h2
  go_enter Tryd.func87, Tryd.ntmps87
  go_wp2_with fail
  refine (half_any _ H1.out.1 H1.out.2 _).mono ?_
  rintro e w' ⟨rfl, rfl⟩
  go_wp2_with fail
  refine (half_any _ H2.out.1 H2.out.2 _).mono ?_
  rintro e w' ⟨rfl, rfl⟩
  go_wp2_with fail
  refine (whole_any _ _ (by omega) (by omega) (by omega) (by omega) _).mono ?_
  rintro e w' ⟨rfl, rfl⟩
  go_wp2
  go_ret
  exact ⟨ret_int (by unfold wrap64 U; omega), rfl⟩

set_option maxHeartbeats 400000 in
theorem com_any (a : Int) (h1 : -9223372036854775808 ≤ a) (h2 : a ≤ 9223372036854775807) (w : World) :
    Calls Tryd.prog 103 #[.int .i64 a] w fun e w' => e = .returned (.int .i64 (-1 - a)) ∧ w' = w := by
  obtain ⟨u1, u2⟩ := U_bd a
  go_enter Tryd.func103, Tryd.ntmps103
  go_wp2_with fail
  refine (half_any _ h1 h2 _).mono ?_
  rintro e w' ⟨rfl, rfl⟩
  go_wp2_with fail
  refine (whole_any _ _ (by omega) (by omega) (by omega) (by omega) _).mono ?_
  rintro e w' ⟨rfl, rfl⟩
  go_wp2
  go_ret
  exact ⟨ret_int (by unfold wrap64 U; omega), rfl⟩

set_option maxHeartbeats 400000 in
theorem neg_any (a : Int) (h1 : -9223372036854775808 ≤ a) (h2 : a ≤ 9223372036854775807) (w : World) :
    Calls Tryd.prog 89 #[.int .i64 a] w fun e w' => e = .returned (.int .i64 (wrap64 (-a))) ∧ w' = w := by
  have E : Hid (wrap64 (-1 - a + 1) = wrap64 (-a)) := by show _ = _; rw [show -1 - a + 1 = -a by omega]
  go_enter Tryd.func89, Tryd.ntmps89
  go_wp2_with fail
  refine (com_any _ h1 h2 _).mono ?_
  rintro e w' ⟨rfl, rfl⟩
  go_wp2_with fail
  refine (add_any _ _ (by omega) (by omega) _).mono ?_
  rintro e w' ⟨rfl, rfl⟩
  go_wp2
  go_ret
  exact ⟨by rw [← E.out]; rfl, rfl⟩

/-- is bit i of a number 1? -/
def bitOf (a : Int) (i : Nat) : Bool := decide (U a / 2 ^ i % 2 = 1)

theorem pow_bd (a : Int) (i : Nat) : 0 ≤ U a / 2 ^ i ∧ U a / 2 ^ i ≤ 18446744073709551615 := by
  obtain ⟨u1, u2⟩ := U_bd a
  have hp : (0 : Int) < 2 ^ i := by
    have := Nat.two_pow_pos i
    have e : ((2 ^ i : Nat) : Int) = (2 : Int) ^ i := by simp
    omega
  refine ⟨Int.ediv_nonneg u1 (by omega), ?_⟩
  have := Int.ediv_le_self (2 ^ i) u1
  omega

set_option maxHeartbeats 400000 in
theorem bit_any (a : Int) (i : Nat) (hi : i < 64) (h1 : -9223372036854775808 ≤ a) (h2 : a ≤ 9223372036854775807) (w : World) :
    Calls Tryd.prog 102 #[.int .i64 a, .int .i64 i] w fun e w' => e = .returned (.bool (bitOf a i)) ∧ w' = w := by
  have E : Hid ((bits .and .u64 (IntKind.u64.wrap a / 2 ^ i) 1 == 1) = bitOf a i) := by
    show _ = _
    rw [U_is, and_one _ (pow_bd a i).1 (pow_bd a i).2]
    unfold bitOf
    rfl
  go_enter Tryd.func102, Tryd.ntmps102
  go_wp2
  go_ret
  exact ⟨by rw [← E.out]; rfl, rfl⟩
end Go.Proofs.YthcidcfaodjbjabDoor
namespace Go.Proofs.YthcidcfaodjbjabDoor
open Go.RowKit

theorem ofInt_U (a : Int) : (BitVec.ofInt 64 a).toNat = (U a).toNat := by
  rw [BitVec.toNat_ofInt]; rfl
theorem i64_and (a b : Int) : bits .and .i64 a b = wrap64 (((U a).toNat &&& (U b).toNat : Nat) : Int) := by
  show IntKind.i64.wrap ((BitVec.ofInt 64 a &&& BitVec.ofInt 64 b).toNat : Int) = _
  rw [BitVec.toNat_and, ofInt_U, ofInt_U, IntWalk.i64_left]
theorem i64_or (a b : Int) : bits .or .i64 a b = wrap64 (((U a).toNat ||| (U b).toNat : Nat) : Int) := by
  show IntKind.i64.wrap ((BitVec.ofInt 64 a ||| BitVec.ofInt 64 b).toNat : Int) = _
  rw [BitVec.toNat_or, ofInt_U, ofInt_U, IntWalk.i64_left]
theorem i64_xor (a b : Int) : bits .xor .i64 a b = wrap64 (((U a).toNat ^^^ (U b).toNat : Nat) : Int) := by
  show IntKind.i64.wrap ((BitVec.ofInt 64 a ^^^ BitVec.ofInt 64 b).toNat : Int) = _
  rw [BitVec.toNat_xor, ofInt_U, ofInt_U, IntWalk.i64_left]
theorem i64_not (a : Int) (h1 : -9223372036854775808 ≤ a) (h2 : a ≤ 9223372036854775807) : bits .xor .i64 (-1) a = -1 - a := by
  show IntKind.i64.wrap ((BitVec.ofInt 64 (-1) ^^^ BitVec.ofInt 64 a).toNat : Int) = _
  have e : BitVec.ofInt 64 (-1) = BitVec.allOnes 64 := by decide
  rw [e, BitVec.allOnes_xor, BitVec.toNat_not, ofInt_U, IntWalk.i64_left]
  unfold wrap64 U
  omega

/-- bits below a place, as numbers -/
theorem testBit_div (x i : Nat) : x.testBit i = decide (x / 2 ^ i % 2 = 1) := by
  rw [Nat.testBit_eq_decide_div_mod_eq]

theorem bitOf_test (a : Int) (i : Nat) : bitOf a i = (U a).toNat.testBit i := by
  rw [testBit_div]
  unfold bitOf
  have h := (U_bd a).1
  obtain ⟨A, hA⟩ := Int.eq_ofNat_of_zero_le h
  rw [hA]
  have : ((A : Int) / 2 ^ i % 2 = 1) ↔ (A / 2 ^ i % 2 = 1) := by
    have e : (A : Int) / 2 ^ i % 2 = ((A / 2 ^ i % 2 : Nat) : Int) := by simp
    rw [e]; omega
  simp [this]

/-- one bit more of a number -/
theorem mod_succ (x i : Nat) : x % 2 ^ (i + 1) = x % 2 ^ i + (if x.testBit i then 2 ^ i else 0) := by
  rw [Nat.mod_pow_succ, testBit_div]
  rcases Nat.mod_two_eq_zero_or_one (x / 2 ^ i) with h | h <;> rw [h] <;> simp
end Go.Proofs.YthcidcfaodjbjabDoor
namespace Go.Proofs.YthcidcfaodjbjabDoor
open Go.RowKit
set_option maxRecDepth 100000
set_option linter.unusedVariables false

def dbl (a : Int) (k : Nat) : Int := wrap64 (a * 2 ^ k)
def mulN (a b : Int) (k : Nat) : Int := wrap64 (a * (((U b).toNat % 2 ^ k : Nat) : Int))

theorem wrap_two (x y : Int) : wrap64 (wrap64 x + wrap64 y) = wrap64 (x + y) := by
  obtain ⟨k, hk⟩ := wrap_ex x
  obtain ⟨l, hl⟩ := wrap_ex y
  rw [hk, hl, show x + k * 18446744073709551616 + (y + l * 18446744073709551616) = x + y + (k + l) * 18446744073709551616 by omega, wrap_add]
theorem wrap_neg (x : Int) : wrap64 (-(wrap64 x)) = wrap64 (-x) := by
  obtain ⟨k, hk⟩ := wrap_ex x
  rw [hk, show -(x + k * 18446744073709551616) = -x + (-k) * 18446744073709551616 by omega, wrap_add]

theorem dbl_zero (a : Int) (h1 : -9223372036854775808 ≤ a) (h2 : a ≤ 9223372036854775807) : dbl a 0 = a := by
  unfold dbl; rw [Int.pow_zero, Int.mul_one]; exact wrap_in h1 h2
theorem dbl_succ (a : Int) (k : Nat) : wrap64 (dbl a k + dbl a k) = dbl a (k + 1) := by
  unfold dbl
  rw [wrap_two, Int.pow_succ, ← Int.mul_assoc, show a * 2 ^ k + a * 2 ^ k = a * 2 ^ k * 2 by omega]
theorem mulN_zero (a b : Int) : mulN a b 0 = 0 := by
  unfold mulN; rw [Nat.pow_zero, Nat.mod_one]; simp; unfold wrap64; omega
theorem mulN_yes (a b : Int) (k : Nat) (h : bitOf b k = true) : wrap64 (mulN a b k + dbl a k) = mulN a b (k + 1) := by
  unfold mulN dbl
  rw [bitOf_test] at h
  rw [wrap_two, mod_succ, h, if_pos rfl, Int.natCast_add, Int.mul_add]
  simp
theorem mulN_no (a b : Int) (k : Nat) (h : bitOf b k = false) : mulN a b k = mulN a b (k + 1) := by
  unfold mulN
  rw [bitOf_test] at h
  rw [mod_succ, h]
  simp
theorem mulN_all (a b : Int) : mulN a b 64 = wrap64 (a * b) := by
  unfold mulN
  have hu := U_bd b
  rw [Nat.mod_eq_of_lt (by omega), show (((U b).toNat : Nat) : Int) = U b by omega]
  have : ∃ k : Int, U b = b + k * 18446744073709551616 := ⟨-(b / 18446744073709551616), by unfold U; omega⟩
  obtain ⟨k, hk⟩ := this
  rw [hk, Int.mul_add, ← Int.mul_assoc, wrap_add]

set_option maxHeartbeats 1000000 in
theorem mul_any (a b : Int) (h1 : -9223372036854775808 ≤ a ∧ a ≤ 9223372036854775807) (h2 : -9223372036854775808 ≤ b ∧ b ≤ 9223372036854775807) (w : World) :
    Calls Tryd.prog 88 #[.int .i64 a, .int .i64 b] w fun e w' => e = .returned (.int .i64 (wrap64 (a * b))) ∧ w' = w := by
  have H1 : Hid _ := h1
  have H2 : Hid _ := h2
  clear h1 h2
  go_enter Tryd.func88, Tryd.ntmps88
  go_wp2
  go_loop [0, 5, 6] (fun A n i => ∃ k : Nat, k ≤ 64 ∧ A = .int .i64 (dbl a k) ∧ n = .int .i64 (mulN a b k) ∧ i = .int .i64 k) (fun _ _ i => 64 - (intOf i).toNat)
  case atStart => exact ⟨0, by omega, by rw [dbl_zero a H1.out.1 H1.out.2], by rw [mulN_zero], rfl⟩
  case round =>
    obtain ⟨k, hk, rfl, rfl, rfl⟩ := hrel
    have D : Hid _ := wrap_bd (a * 2 ^ k)
    have M : Hid _ := wrap_bd (a * (((U b).toNat % 2 ^ k : Nat) : Int))
    by_cases hlt : k < 64
    · by_cases hb : bitOf b k = true
      · go_wp2_with fail
        refine (bit_any b k hlt H2.out.1 H2.out.2 _).mono ?_
        rintro e w' ⟨rfl, rfl⟩
        have HB : Hid _ := hb
        go_wp2_with fail
        refine (add_any (mulN a b k) (dbl a k) M.out D.out _).mono ?_
        rintro e w' ⟨rfl, rfl⟩
        go_wp2_with fail
        refine (add_any (dbl a k) (dbl a k) D.out D.out _).mono ?_
        rintro e w' ⟨rfl, rfl⟩
        go_wp2
        go_round
        case rel => exact ⟨k + 1, by omega, by rw [dbl_succ], by rw [mulN_yes a b k HB.out], by go_num⟩
        case measure => simp [intOf]; omega
      · have hb : bitOf b k = false := by simpa using hb
        go_wp2_with fail
        refine (bit_any b k hlt H2.out.1 H2.out.2 _).mono ?_
        rintro e w' ⟨rfl, rfl⟩
        have HB : Hid _ := hb
        go_wp2_with fail
        refine (add_any (dbl a k) (dbl a k) D.out D.out _).mono ?_
        rintro e w' ⟨rfl, rfl⟩
        go_wp2
        go_round
        case rel => exact ⟨k + 1, by omega, by rw [dbl_succ], by rw [mulN_no a b k HB.out], by go_num⟩
        case measure => simp [intOf]; omega
    · have hk' : k = 64 := by omega
      subst hk'
      go_wp2
      go_ret
      exact ⟨ret_int (mulN_all a b), rfl⟩

end Go.Proofs.YthcidcfaodjbjabDoor
