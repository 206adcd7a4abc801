/- Joining is the same both ways round and in whatever brackets; Zero turns nothing. -/
import Derived.Test.YtongeppdaeekeaaJn
import Derived.Test.YtongeppdaeekeaaNTwo
namespace Go.Proofs.Ytongeppdaeekeaa
open Go.RowKit
set_option linter.unusedVariables false

theorem U_wrap (x : Int) : U (wrap64 x) = U x := by
  obtain ⟨k, hk⟩ := wrap_ex x
  unfold U
  rw [hk]
  omega
theorem wrap_U (a : Int) (h : R64 a) : wrap64 (U a) = a := by
  unfold R64 at h
  unfold U wrap64
  omega
theorem U_nat (n : Nat) (h : n < 2 ^ 64) : (U (n : Int)).toNat = n := by unfold U; omega
theorem U_lt64 (a : Int) : (U a).toNat < 2 ^ 64 := by have := U_bd a; omega
theorem wrap_add2 (x y : Int) : wrap64 (wrap64 x + y) = wrap64 (x + y) := by
  obtain ⟨k, hk⟩ := wrap_ex x
  rw [hk, show x + k * 18446744073709551616 + y = x + y + k * 18446744073709551616 by omega, wrap_add]
theorem wrap_mul2 (x y : Int) : wrap64 (wrap64 x * y) = wrap64 (x * y) := by
  obtain ⟨k, hk⟩ := wrap_ex x
  rw [hk, show (x + k * 18446744073709551616) * y = x * y + (k * y) * 18446744073709551616 by rw [Int.add_mul, Int.mul_right_comm], wrap_add]

theorem join_comm (op a b : Int) : joinI op a b = joinI op b a := by
  unfold joinI
  split
  · rw [Int.add_comm]
  split
  · rw [Int.mul_comm]
  split
  · split <;> split <;> omega
  split
  · split <;> split <;> omega
  split
  · rw [i64_and, i64_and, Nat.and_comm]
  split
  · rw [i64_or, i64_or, Nat.or_comm]
  split
  · rw [i64_xor, i64_xor, Nat.xor_comm]
  · rfl
theorem join_assoc (op a b c : Int) : joinI op (joinI op a b) c = joinI op a (joinI op b c) := by
  unfold joinI
  by_cases h1 : op = 1
  · subst h1
    simp only [if_true]
    rw [wrap_add2, Int.add_comm a (wrap64 _), wrap_add2]
    congr 1; omega
  by_cases h2 : op = 2
  · subst h2
    simp only [h1, if_true, if_false]
    rw [wrap_mul2, Int.mul_comm a (wrap64 _), wrap_mul2, Int.mul_comm _ a, Int.mul_assoc]
  by_cases h3 : op = 3
  · subst h3
    simp only [h1, h2, if_true, if_false]
    repeat' split
    all_goals omega
  by_cases h4 : op = 4
  · subst h4
    simp only [h1, h2, h3, if_true, if_false]
    repeat' split
    all_goals omega
  by_cases h5 : op = 5
  · subst h5
    simp only [h1, h2, h3, h4, if_true, if_false]
    rw [i64_and, i64_and, i64_and, i64_and, U_wrap, U_wrap, U_nat _ (Nat.and_lt_two_pow _ (U_lt64 b)), U_nat _ (Nat.and_lt_two_pow _ (U_lt64 c)), Nat.and_assoc]
  by_cases h6 : op = 6
  · subst h6
    simp only [h1, h2, h3, h4, h5, if_true, if_false]
    rw [i64_or, i64_or, i64_or, i64_or, U_wrap, U_wrap, U_nat _ (Nat.or_lt_two_pow (U_lt64 a) (U_lt64 b)), U_nat _ (Nat.or_lt_two_pow (U_lt64 b) (U_lt64 c)), Nat.or_assoc]
  by_cases h7 : op = 7
  · subst h7
    simp only [h1, h2, h3, h4, h5, h6, if_true, if_false]
    rw [i64_xor, i64_xor, i64_xor, i64_xor, U_wrap, U_wrap, U_nat _ (Nat.xor_lt_two_pow (U_lt64 a) (U_lt64 b)), U_nat _ (Nat.xor_lt_two_pow (U_lt64 b) (U_lt64 c)), Nat.xor_assoc]
  simp only [h1, h2, h3, h4, h5, h6, h7, if_false]
theorem join_zero (op a : Int) (hr : rightB op = true) (ha : R64 a) : joinI op a (zeroI op) = a := by
  have h : op = 1 ∨ op = 2 ∨ op = 3 ∨ op = 4 ∨ op = 5 ∨ op = 6 ∨ op = 7 := by unfold rightB at hr; simp at hr; omega
  have hU : ((U a).toNat : Int) = U a := by have := U_bd a; omega
  rcases h with rfl | rfl | rfl | rfl | rfl | rfl | rfl
  · simp [joinI, zeroI]; exact wrap_in ha.1 ha.2
  · simp [joinI, zeroI]; exact wrap_in ha.1 ha.2
  · simp [joinI, zeroI]; unfold R64 at ha; omega
  · simp [joinI, zeroI]; unfold R64 at ha; omega
  · simp [joinI, zeroI]
    rw [i64_and, show (U (-1)).toNat = 2 ^ 64 - 1 by decide, Nat.and_two_pow_sub_one_eq_mod, Nat.mod_eq_of_lt (U_lt64 a), hU, wrap_U a ha]
  · simp [joinI, zeroI]
    rw [i64_or, show (U 0).toNat = 0 by decide, Nat.or_zero, hU, wrap_U a ha]
  · simp [joinI, zeroI]
    rw [i64_xor, show (U 0).toNat = 0 by decide, Nat.xor_zero, hU, wrap_U a ha]
theorem join_none (op a b : Int) (hr : rightB op = false) : joinI op a b = 0 := by
  unfold rightB at hr
  simp at hr
  unfold joinI
  repeat (rw [if_neg (by omega)])
theorem join_bd (op a b : Int) (ha : R64 a) (hb : R64 b) : R64 (joinI op a b) := by
  unfold joinI
  split
  · exact wrap_bd _
  split
  · exact wrap_bd _
  split
  · split <;> assumption
  split
  · split <;> assumption
  split
  · rw [i64_and]; exact wrap_bd _
  split
  · rw [i64_or]; exact wrap_bd _
  split
  · rw [i64_xor]; exact wrap_bd _
  · unfold R64; omega
theorem zero_bd (op : Int) : R64 (zeroI op) := by unfold zeroI R64; repeat' split
                                                  all_goals omega
end Go.Proofs.Ytongeppdaeekeaa
