/- Find finds just the tasks that there are. -/
import Derived.Test.YtamlnagipmomgaaTkD
namespace Go.Proofs.Ytamlnagipmomgaa
open Go.RowKit Go.Maps
set_option linter.unusedVariables false

theorem tasksL_len (k lo hi st it sg : Int) : (tasksL k lo hi st it sg).length = (countI k lo hi st it sg).1.toNat := tasksN_len _ _ _ _ _
theorem task_at {k lo hi st it sg : Int} (h : (countI k lo hi st it sg).2 = 0) (a : Nat) (hb : (a : Int) < (countI k lo hi st it sg).1) : taskI k lo st sg a = ((atI k lo hi st it sg a).1, (atI k lo hi st it sg a).2.1) := by
  rw [at_is h (by omega) hb]
  unfold taskI
  split <;> rfl
theorem way_back (lo ix st : Int) (h0 : R64 lo) (h1 : R64 ix) (h : farI lo ix st < 0) : wayI lo ix st = 18446744073709551616 + farI lo ix st := by
  unfold wayI farI at *; unfold R64 at h0 h1; split <;> simp_all <;> omega
theorem far_room (lo hi ix st : Int) (h1 : R64 hi) (h2 : R64 ix) : farI lo hi st - farI lo ix st < 18446744073709551616 := by
  unfold farI; unfold R64 at h1 h2; split <;> omega
theorem find_only {k lo hi st it sg ix j : Int} (b0 : R64 lo) (b1 : R64 hi) (b2 : R64 st) (b3 : R64 ix) : findI k lo hi st it sg ix j = -1 ∨ ∃ a : Nat, (a : Int) < (countI k lo hi st it sg).1 ∧ (countI k lo hi st it sg).2 = 0 ∧ taskI k lo st sg a = (ix, j) := by
  unfold findI
  by_cases h1 : (countI k lo hi st it sg).2 ≠ 0 ∨ j < 0 ∨ stagesI k sg ≤ j
  · rw [if_pos h1]; exact .inl rfl
  rw [if_neg h1]
  have h2 : (countI k lo hi st it sg).2 = 0 := by omega
  by_cases hk : k = 2
  · rw [if_pos hk]
    by_cases h3 : ix < 0 ∨ it ≤ ix
    · rw [if_pos h3]; exact .inl rfl
    obtain ⟨s1, s2, s3, s4, rfl, rfl, rfl, s5, s6⟩ := count_pipe hk h2
    subst hk
    have hj : j < sg := by have : stagesI 2 sg = sg := rfl; omega
    refine .inr ⟨ix.toNat * sg.toNat + j.toNat, ?_, h2, ?_⟩
    · rw [s5]
      have e : ((ix.toNat * sg.toNat + j.toNat : Nat) : Int) = ix * sg + j := by
        simp only [Int.natCast_add, Int.natCast_mul, Int.toNat_of_nonneg (show 0 ≤ sg by omega), Int.toNat_of_nonneg (show 0 ≤ ix by omega), Int.toNat_of_nonneg (show 0 ≤ j by omega)]
      rw [e]
      have := Int.mul_le_mul_of_nonneg_right (show ix + 1 ≤ it by omega) (show 0 ≤ sg by omega)
      rw [Int.add_mul] at this
      omega
    · rw [task_pipe sg ix.toNat j.toNat (by omega)]
      simp only [Int.toNat_of_nonneg (show 0 ≤ ix by omega), Int.toNat_of_nonneg (show 0 ≤ j by omega)]
  · rw [if_neg hk]
    by_cases h3 : 0 < wayI lo ix st % wideI st ∨ (countI k lo hi st it sg).1 ≤ wayI lo ix st / wideI st
    · rw [if_pos h3]; exact .inl rfl
    obtain ⟨q0, q1, q2, q3, q4, q5⟩ := count_for hk h2
    have hw := (wide_bd st b2 q3).1
    have hy := way_bd lo ix st
    have e2 := Int.emod_nonneg (wayI lo ix st) (show wideI st ≠ 0 by omega)
    have e1 := Int.emod_add_mul_ediv (wayI lo ix st) (wideI st)
    have e4 := Int.ediv_nonneg hy.1 (Int.le_of_lt hw)
    have hlt := (for_spec lo hi st b0 b1 b2 q3).2.2 (wayI lo ix st / wideI st) e4 (by omega)
    have hm : wayI lo ix st = wayI lo ix st / wideI st * wideI st := by rw [Int.mul_comm]; omega
    have hfar : 0 ≤ farI lo ix st := by
      refine Int.not_lt.1 fun hneg => ?_
      have e := way_back lo ix st b0 b3 hneg
      have e3 := far_room lo hi ix st b1 b3
      omega
    have hwf := way_far lo ix st b0 b3 hfar
    have hj : j = 0 := by have : stagesI k sg = 1 := by { unfold stagesI; rw [if_neg hk] }; omega
    refine .inr ⟨(wayI lo ix st / wideI st).toNat, by rw [Int.toNat_of_nonneg e4]; omega, h2, ?_⟩
    unfold taskI
    rw [if_neg hk, Int.toNat_of_nonneg e4, hj, step_wide]
    rw [← hm, hwf]
    unfold farI
    split <;> (congr 1; omega)
theorem find_some {k lo hi st it sg ix j : Int} (b0 : R64 lo) (b1 : R64 hi) (b2 : R64 st) (a : Nat) (h2 : (countI k lo hi st it sg).2 = 0) (ha : (a : Int) < (countI k lo hi st it sg).1) (ht : taskI k lo st sg a = (ix, j)) : findI k lo hi st it sg ix j = a := by
  have h := (find_is (k := k) (it := it) (sg := sg) (a := (a : Int)) b0 b1 b2 h2 (by omega) ha).2.2
  rw [task_at h2 a ha, Prod.mk.injEq] at ht
  rw [ht.1, ht.2] at h
  exact h
/-- at is the least place from q on at which x stands, or -1 -/
def At (L : List (Int × Int)) (x : Int × Int) (q : Nat) (at' : Int) : Prop := (at' = -1 ∧ ∀ a (h : a < L.length), q ≤ a → L[a] ≠ x) ∨ ∃ m : Nat, at' = m ∧ q ≤ m ∧ ∃ h : m < L.length, L[m] = x ∧ ∀ a (h : a < L.length), q ≤ a → a < m → L[a] ≠ x
theorem At.top (L : List (Int × Int)) (x : Int × Int) : At L x L.length (-1) := .inl ⟨rfl, fun a h h2 => by omega⟩
theorem At.hit {L : List (Int × Int)} {x : Int × Int} {q : Nat} (h : q < L.length) (e : L[q] = x) : At L x q q := .inr ⟨q, rfl, Nat.le_refl _, h, e, fun a _ h1 h2 => by omega⟩
theorem At.miss {L : List (Int × Int)} {x : Int × Int} {q : Nat} {z : Int} (hA : At L x (q + 1) z) (h : q < L.length) (e : L[q] ≠ x) : At L x q z := by
  rcases hA with ⟨h1, h2⟩ | ⟨m, h1, h2, h3, h4, h5⟩
  · refine .inl ⟨h1, fun a ha hq => ?_⟩
    rcases Nat.eq_or_lt_of_le hq with rfl | hq
    · exact e
    · exact h2 a ha hq
  · refine .inr ⟨m, h1, by omega, h3, h4, fun a ha hq hm => ?_⟩
    rcases Nat.eq_or_lt_of_le hq with rfl | hq
    · exact e
    · exact h5 a ha hq hm
theorem At.bd {L : List (Int × Int)} {x : Int × Int} {q : Nat} {z : Int} (hA : At L x q z) : -1 ≤ z ∧ z ≤ L.length := by
  rcases hA with ⟨h1, h2⟩ | ⟨m, h1, h2, h3, h4, h5⟩ <;> omega
theorem At.find {k lo hi st it sg ix j z : Int} (b0 : R64 lo) (b1 : R64 hi) (b2 : R64 st) (b3 : R64 ix) (hA : At (tasksL k lo hi st it sg) (ix, j) 0 z) : findI k lo hi st it sg ix j = z := by
  have hcl : ∀ a : Nat, a < (tasksL k lo hi st it sg).length → (countI k lo hi st it sg).2 = 0 ∧ (a : Int) < (countI k lo hi st it sg).1 := by
    intro a ha
    rw [tasksL_len] at ha
    refine ⟨?_, by omega⟩
    refine Decidable.byContradiction fun hne => ?_
    have := count_err hne
    omega
  rcases hA with ⟨rfl, h2⟩ | ⟨m, rfl, h2, h3, h4, h5⟩
  · rcases find_only (k := k) (it := it) (sg := sg) (j := j) b0 b1 b2 b3 with h | ⟨a, ha, h0, ht⟩
    · exact h
    · have hl : a < (tasksL k lo hi st it sg).length := by rw [tasksL_len]; omega
      exact absurd ((tasksN_at _ _ _ _ _ a hl).trans ht) (h2 a hl (Nat.zero_le _))
  · obtain ⟨q1, q2⟩ := hcl m h3
    exact find_some b0 b1 b2 m q1 q2 ((tasksN_at _ _ _ _ _ m h3).symm.trans h4)
end Go.Proofs.Ytamlnagipmomgaa
