/- What the document's logic and moves are, as numbers. -/
import Derived.Test.YtongeppdaeekeaaNRefC
namespace Go.Proofs.Ytongeppdaeekeaa
open Go.RowKit
set_option linter.unusedVariables false

/-- the operation on all bits, and on one -/
def logN (op : Int) (A B : Nat) : Nat := if op = 7 then A ||| B else if op = 8 then A ^^^ B else A &&& B
def logB (op : Int) (x y : Bool) : Bool := if op = 7 then x || y else if op = 8 then x != y else x && y

theorem logN_bit (op : Int) (A B k : Nat) : (logN op A B).testBit k = logB op (A.testBit k) (B.testBit k) := by
  unfold logN logB
  split
  · rw [Nat.testBit_or]
  · split
    · rw [Nat.testBit_xor]
    · rw [Nat.testBit_and]

theorem logN_lt (op : Int) (A B : Nat) (hA : A < 2 ^ 64) (hB : B < 2 ^ 64) : logN op A B < 2 ^ 64 := by
  unfold logN
  split
  · exact Nat.or_lt_two_pow hA hB
  · split
    · exact Nat.xor_lt_two_pow hA hB
    · exact Nat.and_lt_two_pow _ hB

theorem or_pow (x k : Nat) (hk : k < 64) (hx : x < 2 ^ k) : bits .or .u64 (x : Int) ((2 ^ k : Nat) : Int) = ((x + 2 ^ k : Nat) : Int) := by
  have h1 : 2 ^ k < 2 ^ 64 := Nat.pow_lt_pow_right (by omega) hk
  rw [u64_or_nat x (2 ^ k) (by omega) (by omega), Nat.or_comm, nat_join k (2 ^ k) x (Nat.mod_self _) hx, Nat.add_comm]

theorem wrap_pow (k : Nat) (hk : k < 64) : IntKind.u64.wrap (2 ^ k) = 2 ^ k := by
  have h1 : 2 ^ k < 2 ^ 64 := Nat.pow_lt_pow_right (by omega) hk
  have e : (2 : Int) ^ k = ((2 ^ k : Nat) : Int) := by simp
  rw [e, IntKind.wrap_u64]
  generalize 2 ^ k = X at *
  omega

def lowN (op : Int) (a b : Int) (k : Nat) : Nat := logN op (U a).toNat (U b).toNat % 2 ^ k

theorem lowN_yes (op a b : Int) (k : Nat) (h : logB op (bitOf a k) (bitOf b k) = true) : lowN op a b (k + 1) = lowN op a b k + 2 ^ k := by
  unfold lowN; rw [mod_succ, logN_bit, ← bitOf_test, ← bitOf_test, h]; simp
theorem lowN_no (op a b : Int) (k : Nat) (h : logB op (bitOf a k) (bitOf b k) = false) : lowN op a b (k + 1) = lowN op a b k := by
  unfold lowN; rw [mod_succ, logN_bit, ← bitOf_test, ← bitOf_test, h]; simp
theorem lowN_lt (op a b : Int) (k : Nat) : lowN op a b k < 2 ^ k := Nat.mod_lt _ (Nat.two_pow_pos k)
theorem lowN_all (op a b : Int) : lowN op a b 64 = logN op (U a).toNat (U b).toNat := by
  have h1 := U_bd a
  have h2 := U_bd b
  exact Nat.mod_eq_of_lt (logN_lt op _ _ (by omega) (by omega))

set_option maxHeartbeats 1000000 in
theorem logic_6 (a b : Int) (h1 : -9223372036854775808 ≤ a ∧ a ≤ 9223372036854775807) (h2 : -9223372036854775808 ≤ b ∧ b ≤ 9223372036854775807) (w : World) :
    Calls Try.prog 120 #[.int .i64 6, .int .i64 a, .int .i64 b] w fun e w' => e = .returned (.int .i64 (wrap64 (logN 6 (U a).toNat (U b).toNat : Nat))) ∧ w' = w := by
  have H1 : Hid _ := h1
  have H2 : Hid _ := h2
  clear h1 h2
  go_enter Try.func120, Try.ntmps120
  go_wp2
  go_loop [7, 8] (fun n i => ∃ k : Nat, k ≤ 64 ∧ n = .int .u64 (lowN 6 a b k : Nat) ∧ i = .int .i64 k) (fun _ i => 64 - (intOf i).toNat)
  case atStart => exact ⟨0, by omega, by unfold lowN; rw [Nat.pow_zero, Nat.mod_one]; rfl, rfl⟩
  case round =>
    obtain ⟨k, hk, rfl, rfl⟩ := hrel
    by_cases hlt : k < 64
    · have HO : Hid _ := or_pow (lowN 6 a b k) k hlt (lowN_lt 6 a b k)
      have HY : Hid _ := lowN_yes 6 a b k
      have HN : Hid _ := lowN_no 6 a b k
      cases hA : bitOf a k <;> cases hB : bitOf b k
      · go_wp2_with fail
        refine (bit_any a k hlt H1.out.1 H1.out.2 _).mono ?_
        rintro e w' ⟨rfl, rfl⟩
        go_wp2_with fail
        refine (bit_any b k hlt H2.out.1 H2.out.2 _).mono ?_
        rintro e w' ⟨rfl, rfl⟩
        go_wp2
        go_round
        case rel => exact ⟨k + 1, by omega, by rw [HN.out (by rw [hA, hB]; rfl)], by go_num⟩
        case measure => simp [intOf]; omega
      · go_wp2_with fail
        refine (bit_any a k hlt H1.out.1 H1.out.2 _).mono ?_
        rintro e w' ⟨rfl, rfl⟩
        go_wp2_with fail
        refine (bit_any b k hlt H2.out.1 H2.out.2 _).mono ?_
        rintro e w' ⟨rfl, rfl⟩
        go_wp2
        go_round
        case rel => exact ⟨k + 1, by omega, by rw [HN.out (by rw [hA, hB]; rfl)], by go_num⟩
        case measure => simp [intOf]; omega
      · go_wp2_with fail
        refine (bit_any a k hlt H1.out.1 H1.out.2 _).mono ?_
        rintro e w' ⟨rfl, rfl⟩
        go_wp2_with fail
        refine (bit_any b k hlt H2.out.1 H2.out.2 _).mono ?_
        rintro e w' ⟨rfl, rfl⟩
        go_wp2
        go_round
        case rel => exact ⟨k + 1, by omega, by rw [HN.out (by rw [hA, hB]; rfl)], by go_num⟩
        case measure => simp [intOf]; omega
      · go_wp2_with fail
        refine (bit_any a k hlt H1.out.1 H1.out.2 _).mono ?_
        rintro e w' ⟨rfl, rfl⟩
        go_wp2_with fail
        refine (bit_any b k hlt H2.out.1 H2.out.2 _).mono ?_
        rintro e w' ⟨rfl, rfl⟩
        go_wp2
        go_round
        case rel => exact ⟨k + 1, by omega, by rw [HY.out (by rw [hA, hB]; rfl), ← HO.out]; simp; rw [wrap_pow k hlt], by go_num⟩
        case measure => simp [intOf]; omega
    · have hk' : k = 64 := by omega
      subst hk'
      go_wp2
      go_ret
      exact ⟨ret_int (by rw [lowN_all]), rfl⟩

set_option maxHeartbeats 1000000 in
theorem logic_7 (a b : Int) (h1 : -9223372036854775808 ≤ a ∧ a ≤ 9223372036854775807) (h2 : -9223372036854775808 ≤ b ∧ b ≤ 9223372036854775807) (w : World) :
    Calls Try.prog 120 #[.int .i64 7, .int .i64 a, .int .i64 b] w fun e w' => e = .returned (.int .i64 (wrap64 (logN 7 (U a).toNat (U b).toNat : Nat))) ∧ w' = w := by
  have H1 : Hid _ := h1
  have H2 : Hid _ := h2
  clear h1 h2
  go_enter Try.func120, Try.ntmps120
  go_wp2
  go_loop [7, 8] (fun n i => ∃ k : Nat, k ≤ 64 ∧ n = .int .u64 (lowN 7 a b k : Nat) ∧ i = .int .i64 k) (fun _ i => 64 - (intOf i).toNat)
  case atStart => exact ⟨0, by omega, by unfold lowN; rw [Nat.pow_zero, Nat.mod_one]; rfl, rfl⟩
  case round =>
    obtain ⟨k, hk, rfl, rfl⟩ := hrel
    by_cases hlt : k < 64
    · have HO : Hid _ := or_pow (lowN 7 a b k) k hlt (lowN_lt 7 a b k)
      have HY : Hid _ := lowN_yes 7 a b k
      have HN : Hid _ := lowN_no 7 a b k
      cases hA : bitOf a k <;> cases hB : bitOf b k
      · go_wp2_with fail
        refine (bit_any a k hlt H1.out.1 H1.out.2 _).mono ?_
        rintro e w' ⟨rfl, rfl⟩
        go_wp2_with fail
        refine (bit_any b k hlt H2.out.1 H2.out.2 _).mono ?_
        rintro e w' ⟨rfl, rfl⟩
        go_wp2
        go_round
        case rel => exact ⟨k + 1, by omega, by rw [HN.out (by rw [hA, hB]; rfl)], by go_num⟩
        case measure => simp [intOf]; omega
      · go_wp2_with fail
        refine (bit_any a k hlt H1.out.1 H1.out.2 _).mono ?_
        rintro e w' ⟨rfl, rfl⟩
        go_wp2_with fail
        refine (bit_any b k hlt H2.out.1 H2.out.2 _).mono ?_
        rintro e w' ⟨rfl, rfl⟩
        go_wp2
        go_round
        case rel => exact ⟨k + 1, by omega, by rw [HY.out (by rw [hA, hB]; rfl), ← HO.out]; simp; rw [wrap_pow k hlt], by go_num⟩
        case measure => simp [intOf]; omega
      · go_wp2_with fail
        refine (bit_any a k hlt H1.out.1 H1.out.2 _).mono ?_
        rintro e w' ⟨rfl, rfl⟩
        go_wp2_with fail
        refine (bit_any b k hlt H2.out.1 H2.out.2 _).mono ?_
        rintro e w' ⟨rfl, rfl⟩
        go_wp2
        go_round
        case rel => exact ⟨k + 1, by omega, by rw [HY.out (by rw [hA, hB]; rfl), ← HO.out]; simp; rw [wrap_pow k hlt], by go_num⟩
        case measure => simp [intOf]; omega
      · go_wp2_with fail
        refine (bit_any a k hlt H1.out.1 H1.out.2 _).mono ?_
        rintro e w' ⟨rfl, rfl⟩
        go_wp2_with fail
        refine (bit_any b k hlt H2.out.1 H2.out.2 _).mono ?_
        rintro e w' ⟨rfl, rfl⟩
        go_wp2
        go_round
        case rel => exact ⟨k + 1, by omega, by rw [HY.out (by rw [hA, hB]; rfl), ← HO.out]; simp; rw [wrap_pow k hlt], by go_num⟩
        case measure => simp [intOf]; omega
    · have hk' : k = 64 := by omega
      subst hk'
      go_wp2
      go_ret
      exact ⟨ret_int (by rw [lowN_all]), rfl⟩

set_option maxHeartbeats 1000000 in
theorem logic_8 (a b : Int) (h1 : -9223372036854775808 ≤ a ∧ a ≤ 9223372036854775807) (h2 : -9223372036854775808 ≤ b ∧ b ≤ 9223372036854775807) (w : World) :
    Calls Try.prog 120 #[.int .i64 8, .int .i64 a, .int .i64 b] w fun e w' => e = .returned (.int .i64 (wrap64 (logN 8 (U a).toNat (U b).toNat : Nat))) ∧ w' = w := by
  have H1 : Hid _ := h1
  have H2 : Hid _ := h2
  clear h1 h2
  go_enter Try.func120, Try.ntmps120
  go_wp2
  go_loop [7, 8] (fun n i => ∃ k : Nat, k ≤ 64 ∧ n = .int .u64 (lowN 8 a b k : Nat) ∧ i = .int .i64 k) (fun _ i => 64 - (intOf i).toNat)
  case atStart => exact ⟨0, by omega, by unfold lowN; rw [Nat.pow_zero, Nat.mod_one]; rfl, rfl⟩
  case round =>
    obtain ⟨k, hk, rfl, rfl⟩ := hrel
    by_cases hlt : k < 64
    · have HO : Hid _ := or_pow (lowN 8 a b k) k hlt (lowN_lt 8 a b k)
      have HY : Hid _ := lowN_yes 8 a b k
      have HN : Hid _ := lowN_no 8 a b k
      cases hA : bitOf a k <;> cases hB : bitOf b k
      · go_wp2_with fail
        refine (bit_any a k hlt H1.out.1 H1.out.2 _).mono ?_
        rintro e w' ⟨rfl, rfl⟩
        go_wp2_with fail
        refine (bit_any b k hlt H2.out.1 H2.out.2 _).mono ?_
        rintro e w' ⟨rfl, rfl⟩
        go_wp2
        go_round
        case rel => exact ⟨k + 1, by omega, by rw [HN.out (by rw [hA, hB]; rfl)], by go_num⟩
        case measure => simp [intOf]; omega
      · go_wp2_with fail
        refine (bit_any a k hlt H1.out.1 H1.out.2 _).mono ?_
        rintro e w' ⟨rfl, rfl⟩
        go_wp2_with fail
        refine (bit_any b k hlt H2.out.1 H2.out.2 _).mono ?_
        rintro e w' ⟨rfl, rfl⟩
        go_wp2
        go_round
        case rel => exact ⟨k + 1, by omega, by rw [HY.out (by rw [hA, hB]; rfl), ← HO.out]; simp; rw [wrap_pow k hlt], by go_num⟩
        case measure => simp [intOf]; omega
      · go_wp2_with fail
        refine (bit_any a k hlt H1.out.1 H1.out.2 _).mono ?_
        rintro e w' ⟨rfl, rfl⟩
        go_wp2_with fail
        refine (bit_any b k hlt H2.out.1 H2.out.2 _).mono ?_
        rintro e w' ⟨rfl, rfl⟩
        go_wp2
        go_round
        case rel => exact ⟨k + 1, by omega, by rw [HY.out (by rw [hA, hB]; rfl), ← HO.out]; simp; rw [wrap_pow k hlt], by go_num⟩
        case measure => simp [intOf]; omega
      · go_wp2_with fail
        refine (bit_any a k hlt H1.out.1 H1.out.2 _).mono ?_
        rintro e w' ⟨rfl, rfl⟩
        go_wp2_with fail
        refine (bit_any b k hlt H2.out.1 H2.out.2 _).mono ?_
        rintro e w' ⟨rfl, rfl⟩
        go_wp2
        go_round
        case rel => exact ⟨k + 1, by omega, by rw [HN.out (by rw [hA, hB]; rfl)], by go_num⟩
        case measure => simp [intOf]; omega
    · have hk' : k = 64 := by omega
      subst hk'
      go_wp2
      go_ret
      exact ⟨ret_int (by rw [lowN_all]), rfl⟩

/- moves -/
def shrN (a : Int) (k : Nat) : Int := a / 2 ^ k
theorem shr_succ (a : Int) (k : Nat) : shrN a k / 2 = shrN a (k + 1) := by
  unfold shrN
  rw [Int.pow_succ, Int.ediv_ediv_of_nonneg]
  have := Nat.two_pow_pos k
  have e : ((2 ^ k : Nat) : Int) = (2 : Int) ^ k := by simp
  omega
theorem shrN_bd (a : Int) (k : Nat) (h1 : -9223372036854775808 ≤ a) (h2 : a ≤ 9223372036854775807) : -9223372036854775808 ≤ shrN a k ∧ shrN a k ≤ 9223372036854775807 := by
  induction k with
  | zero => unfold shrN; simp; omega
  | succ k ih => rw [← shr_succ]; omega

theorem or_top (x : Int) (h0 : 0 ≤ x) (h1 : x ≤ 9223372036854775807) : bits .or .u64 x 9223372036854775808 = x + 9223372036854775808 := by
  rw [u64_or x _ (by omega) (by omega) (by omega) (by omega), Nat.or_comm]
  rw [nat_join 63 (9223372036854775808 : Int).toNat x.toNat (by decide) (by omega)]
  omega

set_option maxHeartbeats 1000000 in
theorem moved_9 (a b : Int) (h1 : -9223372036854775808 ≤ a ∧ a ≤ 9223372036854775807) (w : World) :
    Calls Try.prog 121 #[.int .i64 9, .int .i64 a, .int .i64 b] w fun e w' => e = .returned (.int .i64 (dbl a ((U b) % 64).toNat)) ∧ w' = w := by
  have H1 : Hid _ := h1
  have D0 : Hid _ := dbl_zero a h1.1 h1.2
  clear h1
  obtain ⟨v1, v2⟩ := U_bd b
  have eU : IntKind.u64.wrap b = U b := U_is b
  obtain ⟨n, hn⟩ : ∃ n : Nat, U b % 64 = n := ⟨(U b % 64).toNat, by omega⟩
  have hn63 : n < 64 := by omega
  rw [show ((U b) % 64).toNat = n by omega]
  have HN : Hid (U b % 64 = n) := hn
  clear hn
  go_enter Try.func121, Try.ntmps121
  go_wp2
  go_loop [1, 7] (fun A N => ∃ k : Nat, k ≤ n ∧ A = .int .i64 (dbl a k) ∧ N = .int .u64 ((n : Int) - k)) (fun _ N => (intOf N).toNat)
  case atStart => exact ⟨0, by omega, by rw [D0.out], by simp [HN.out]⟩
  case round =>
    obtain ⟨k, hk, rfl, rfl⟩ := hrel
    have D : Hid _ := wrap_bd (a * 2 ^ k)
    by_cases hlt : k < n
    · go_wp2_with fail
      refine (add_any (dbl a k) (dbl a k) D.out D.out _).mono ?_
      rintro e w' ⟨rfl, rfl⟩
      go_wp2
      go_round
      case rel => exact ⟨k + 1, by omega, by rw [dbl_succ], by go_num⟩
      case measure => simp [intOf]; omega
    · have hk' : k = n := by omega
      subst hk'
      go_wp2
      go_ret
      exact ⟨rfl, rfl⟩

set_option maxHeartbeats 1000000 in
theorem moved_10 (a b : Int) (h1 : -9223372036854775808 ≤ a ∧ a ≤ 9223372036854775807) (w : World) :
    Calls Try.prog 121 #[.int .i64 10, .int .i64 a, .int .i64 b] w fun e w' => e = .returned (.int .i64 (shrN a ((U b) % 64).toNat)) ∧ w' = w := by
  have H1 : Hid _ := h1
  clear h1
  obtain ⟨v1, v2⟩ := U_bd b
  have eU : IntKind.u64.wrap b = U b := U_is b
  obtain ⟨n, hn⟩ : ∃ n : Nat, U b % 64 = n := ⟨(U b % 64).toNat, by omega⟩
  have hn63 : n < 64 := by omega
  rw [show ((U b) % 64).toNat = n by omega]
  have HN : Hid (U b % 64 = n) := hn
  clear hn
  go_enter Try.func121, Try.ntmps121
  go_wp2
  go_loop [1, 7] (fun A N => ∃ k : Nat, k ≤ n ∧ A = .int .i64 (shrN a k) ∧ N = .int .u64 ((n : Int) - k)) (fun _ N => (intOf N).toNat)
  case atStart => exact ⟨0, by omega, by unfold shrN; simp, by simp [HN.out]⟩
  case round =>
    obtain ⟨k, hk, rfl, rfl⟩ := hrel
    obtain ⟨d1, d2⟩ := shrN_bd a k H1.out.1 H1.out.2
    have HS : Hid _ := shr_succ a k
    have eX : IntKind.u64.wrap (shrN a k) = U (shrN a k) := U_is _
    obtain ⟨x1, x2⟩ := U_bd (shrN a k)
    have HO : Hid _ := or_top (U (shrN a k) / 2) (by omega) (by omega)
    by_cases hlt : k < n
    · by_cases hneg : shrN a k < 0
      · have E : Hid (wrap64 (U (shrN a k) / 2 + 9223372036854775808) = shrN a (k + 1)) := by
          show _ = _; rw [← HS.out]; unfold wrap64 U; omega
        go_wp2
        go_round
        case rel => exact ⟨k + 1, by omega, by rw [← E.out, ← HO.out], by go_num⟩
        case measure => simp [intOf]; omega
      · have E : Hid (U (shrN a k) / 2 = shrN a (k + 1)) := by
          show _ = _; rw [← HS.out]; unfold U; omega
        go_wp2
        go_round
        case rel => exact ⟨k + 1, by omega, by rw [← E.out], by go_num⟩
        case measure => simp [intOf]; omega
    · have hk' : k = n := by omega
      subst hk'
      go_wp2
      go_ret
      exact ⟨rfl, rfl⟩
end Go.Proofs.Ytongeppdaeekeaa
