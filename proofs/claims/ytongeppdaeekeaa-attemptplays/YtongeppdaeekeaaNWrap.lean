/- Plain mathematics of numbers that go round. -/
import Derived.WalkKit
namespace Go.Proofs.Ytongeppdaeekeaa
open Go.RowKit

theorem wrap_ex (x : Int) : ∃ k : Int, wrap64 x = x + k * 18446744073709551616 := by
  unfold wrap64
  refine ⟨-((x + 9223372036854775808) / 18446744073709551616), ?_⟩
  have := Int.mul_ediv_add_emod (x + 9223372036854775808) 18446744073709551616
  omega

theorem wrap_add (x k : Int) : wrap64 (x + k * 18446744073709551616) = wrap64 x := by
  unfold wrap64
  rw [show x + k * 18446744073709551616 + 9223372036854775808 = x + 9223372036854775808 + k * 18446744073709551616 by omega, Int.add_mul_emod_self_right]

theorem wrap_in {x : Int} (h1 : -9223372036854775808 ≤ x) (h2 : x ≤ 9223372036854775807) : wrap64 x = x := by unfold wrap64; omega

theorem wrap_bd (x : Int) : -9223372036854775808 ≤ wrap64 x ∧ wrap64 x ≤ 9223372036854775807 := by unfold wrap64; omega

/-- a sum of a product, wrapped at each step -/
theorem wrap_mul_add (q b r : Int) : wrap64 (wrap64 (wrap64 q * b) + r) = wrap64 (q * b + r) := by
  obtain ⟨k, hk⟩ := wrap_ex q
  obtain ⟨l, hl⟩ := wrap_ex (wrap64 q * b)
  rw [hl, hk]
  have : (q + k * 18446744073709551616) * b + l * 18446744073709551616 + r = q * b + r + (k * b + l) * 18446744073709551616 := by
    rw [Int.add_mul, Int.add_mul, Int.mul_right_comm k _ b]; omega
  rw [this, wrap_add]

theorem wrap_wrap_sub (x : Int) : wrap64 (wrap64 x - 1) = wrap64 (x - 1) := by
  obtain ⟨k, hk⟩ := wrap_ex x
  rw [hk, show x + k * 18446744073709551616 - 1 = x - 1 + k * 18446744073709551616 by omega, wrap_add]

/-- the facts of a quotient cut towards 0 -/
theorem div_facts (a b : Int) (hb : b ≠ 0) :
    a.tdiv b * b + a.tmod b = a ∧ (a.tmod b = 0 ∨ (a.tmod b < 0 ↔ a < 0)) ∧ (a.tmod b).natAbs < b.natAbs := by
  refine ⟨?_, ?_, ?_⟩
  · have := Int.mul_tdiv_add_tmod a b
    rw [Int.mul_comm]; exact this
  · rcases Int.lt_or_le a 0 with h | h
    · have h1 : a.tmod b ≤ 0 := by
        have := Int.tmod_nonneg (a := -a) b (by omega)
        rw [Int.neg_tmod] at this
        omega
      rcases Int.lt_or_eq_of_le h1 with h2 | h2
      · exact Or.inr ⟨fun _ => h, fun _ => h2⟩
      · exact Or.inl h2
    · have := Int.tmod_nonneg (a := a) b h
      exact Or.inr ⟨fun h => by omega, fun h => by omega⟩
  · rw [Int.natAbs_tmod]
    exact Nat.mod_lt _ (by omega)
end Go.Proofs.Ytongeppdaeekeaa
