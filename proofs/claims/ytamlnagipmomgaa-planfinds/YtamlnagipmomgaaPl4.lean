/- Plans: Count, Stages, At and Find, whole. -/
import Derived.Test.YtamlnagipmomgaaPl3
import Derived.OwnWalk
namespace Go.Proofs.Ytamlnagipmomgaa
open Go.RowKit
set_option linter.unusedVariables false

def stagesI (k sg : Int) : Int := if k = 2 then sg else 1
def atI (k lo hi st it sg age : Int) : Int × Int × Int := if (countI k lo hi st it sg).2 ≠ 0 then (0, 0, (countI k lo hi st it sg).2) else if age < 0 ∨ (countI k lo hi st it sg).1 ≤ age then (0, 0, 210) else if k = 2 then (age / sg, age % sg, 0) else (lo + age * st, 0, 0)
def findI (k lo hi st it sg ix j : Int) : Int := if (countI k lo hi st it sg).2 ≠ 0 ∨ j < 0 ∨ stagesI k sg ≤ j then -1 else if k = 2 then (if ix < 0 ∨ it ≤ ix then -1 else ix * sg + j) else if 0 < wayI lo ix st % wideI st ∨ (countI k lo hi st it sg).1 ≤ wayI lo ix st / wideI st then -1 else wayI lo ix st / wideI st
def three (x : Int × Int × Int) : Value := .tuple #[.int .i64 x.1, .int .i64 x.2.1, .int .i64 x.2.2]

theorem countP_ok {lo hi st it sg : Int} (h : (countP lo hi st it sg).2 = 0) : 1 ≤ sg ∧ sg ≤ 6 ∧ 0 ≤ it ∧ it ≤ 200 ∧ lo = 0 ∧ hi = 0 ∧ st = 0 ∧ (countP lo hi st it sg).1 = it * sg ∧ it * sg ≤ 200 := by
  unfold countP at *
  by_cases h1 : lo ≠ 0 ∨ hi ≠ 0 ∨ st ≠ 0
  · rw [if_pos h1] at h; simp at h
  rw [if_neg h1] at h ⊢
  by_cases h2 : it < 0 ∨ sg < 1 ∨ 6 < sg
  · rw [if_pos h2] at h; simp at h
  rw [if_neg h2] at h ⊢
  by_cases h3 : 200 / sg < it
  · rw [if_pos h3] at h; simp at h
  rw [if_neg h3] at h ⊢
  have hd : 200 / sg ≤ 200 := Int.ediv_le_self _ (by omega)
  have hm := Int.mul_le_mul_of_nonneg_right (show it ≤ 200 / sg by omega) (show 0 ≤ sg by omega)
  have := Int.ediv_mul_le 200 (show sg ≠ 0 by omega)
  exact ⟨by omega, by omega, by omega, by omega, by omega, by omega, by omega, rfl, by omega⟩
theorem countF_ok {lo hi st it sg : Int} (h : (countF lo hi st it sg).2 = 0) : it = 0 ∧ sg = 0 ∧ st ≠ 0 ∧ forN lo hi st ≤ 200 ∧ (countF lo hi st it sg).1 = forN lo hi st := by
  unfold countF at *
  by_cases h1 : it ≠ 0 ∨ sg ≠ 0
  · rw [if_pos h1] at h; simp at h
  rw [if_neg h1] at h ⊢
  by_cases h2 : st = 0
  · rw [if_pos h2] at h; simp at h
  rw [if_neg h2] at h ⊢
  by_cases h3 : 200 < forN lo hi st
  · rw [if_pos h3] at h; simp at h
  rw [if_neg h3] at h ⊢
  exact ⟨by omega, by omega, h2, by omega, rfl⟩
theorem count_pipe {k lo hi st it sg : Int} (hk : k = 2) (h : (countI k lo hi st it sg).2 = 0) : 1 ≤ sg ∧ sg ≤ 6 ∧ 0 ≤ it ∧ it ≤ 200 ∧ lo = 0 ∧ hi = 0 ∧ st = 0 ∧ (countI k lo hi st it sg).1 = it * sg ∧ it * sg ≤ 200 := by
  have e : countI k lo hi st it sg = countP lo hi st it sg := by unfold countI; rw [if_neg (by omega), if_pos hk]
  rw [e] at h ⊢; exact countP_ok h
theorem count_for {k lo hi st it sg : Int} (hk : k ≠ 2) (h : (countI k lo hi st it sg).2 = 0) : k = 1 ∧ it = 0 ∧ sg = 0 ∧ st ≠ 0 ∧ forN lo hi st ≤ 200 ∧ (countI k lo hi st it sg).1 = forN lo hi st := by
  by_cases h1 : k = 1
  · have e : countI k lo hi st it sg = countF lo hi st it sg := by unfold countI; rw [if_pos h1]
    rw [e] at h ⊢; exact ⟨h1, countF_ok h⟩
  · exfalso; unfold countI at h; rw [if_neg h1, if_neg hk] at h; simp at h
theorem count_bd {k lo hi st it sg : Int} (b0 : R64 lo) (b1 : R64 hi) (b2 : R64 st) (h : (countI k lo hi st it sg).2 = 0) : 0 ≤ (countI k lo hi st it sg).1 ∧ (countI k lo hi st it sg).1 ≤ 200 := by
  by_cases hk : k = 2
  · obtain ⟨q1, q2, q3, q4, _, _, _, q5, q6⟩ := count_pipe hk h
    rw [q5]; exact ⟨Int.mul_nonneg q3 (by omega), q6⟩
  · obtain ⟨_, _, _, q1, q2, q3⟩ := count_for hk h
    rw [q3]; exact ⟨(for_spec lo hi st b0 b1 b2 q1).1, q2⟩

set_option maxRecDepth 100000 in
set_option maxHeartbeats 2000000 in
theorem count_any (k lo hi st it sg : Int) (b0 : R64 lo) (b1 : R64 hi) (b2 : R64 st) (w : World) : Calls Try.prog 9 #[shV k lo hi st it sg] w fun e w' => e = .returned (two (countI k lo hi st it sg)) ∧ Below w.heap.size w w' := by
  have H1 : Hid (∀ w, Calls Try.prog 23 #[shV k lo hi st it sg] w fun e w' => e = .returned (two (countF lo hi st it sg)) ∧ Below w.heap.size w w') := fun w => countFor_any k lo hi st it sg w b0 b1 b2
  have H2 : Hid (∀ w, Calls Try.prog 24 #[shV k lo hi st it sg] w fun e w' => e = .returned (two (countP lo hi st it sg)) ∧ Below w.heap.size w w') := fun w => countPipe_any k lo hi st it sg w
  unfold shV two at *
  clear b0 b1 b2
  by_cases h1 : k = 1
  · subst h1
    rw [show countI 1 lo hi st it sg = countF lo hi st it sg by rfl]
    generalize countF lo hi st it sg = c at *
    go_enter Try.func9, Try.ntmps9
    go_wp2_with fail
    refine (H1.out _).mono ?_
    rintro e w4 ⟨rfl, b4⟩
    have B4 : Hid (Below w.heap.size w w4) := (bl1 w _).trans (b4.mono (bl1 w _).size)
    clear b4
    go_wp2
    go_ret2
    exact ⟨rfl, B4.out⟩
  by_cases h2 : k = 2
  · subst h2
    rw [show countI 2 lo hi st it sg = countP lo hi st it sg by rfl]
    generalize countP lo hi st it sg = c at *
    go_enter Try.func9, Try.ntmps9
    go_wp2_with fail
    refine (H2.out _).mono ?_
    rintro e w4 ⟨rfl, b4⟩
    have B4 : Hid (Below w.heap.size w w4) := (bl1 w _).trans (b4.mono (bl1 w _).size)
    clear b4
    go_wp2
    go_ret2
    exact ⟨rfl, B4.out⟩
  · rw [show countI k lo hi st it sg = (0, 152) by unfold countI; rw [if_neg h1, if_neg h2]]
    go_enter Try.func9, Try.ntmps9
    go_wp2
    go_ret2
    exact ⟨rfl, bl1 _ _⟩
set_option maxRecDepth 100000 in
set_option maxHeartbeats 2000000 in
theorem stages_any (k lo hi st it sg : Int) (w : World) : Calls Try.prog 11 #[shV k lo hi st it sg] w fun e w' => e = .returned (.int .i64 (stagesI k sg)) ∧ Below w.heap.size w w' := by
  unfold shV
  by_cases h1 : k = 2
  · rw [show stagesI k sg = sg by unfold stagesI; rw [if_pos h1]]
    go_enter Try.func11, Try.ntmps11
    go_wp2
    go_ret
    exact ⟨rfl, bl1 _ _⟩
  · rw [show stagesI k sg = 1 by unfold stagesI; rw [if_neg h1]]
    go_enter Try.func11, Try.ntmps11
    go_wp2
    go_ret
    exact ⟨rfl, bl1 _ _⟩
theorem wrap_mul_sum (lo a st : Int) (h : R64 (lo + a * st)) : wrap64 (lo + wrap64 (a * st)) = lo + a * st := by
  unfold R64 at h; unfold wrap64; generalize a * st = X at *; omega
set_option maxRecDepth 100000 in
set_option maxHeartbeats 2000000 in
theorem at_any (k lo hi st it sg age : Int) (b0 : R64 lo) (b1 : R64 hi) (b2 : R64 st) (w : World) : Calls Try.prog 13 #[shV k lo hi st it sg, .int .i64 age] w fun e w' => e = .returned (three (atI k lo hi st it sg age)) ∧ Below w.heap.size w w' := by
  have HC : Hid (∀ w, Calls Try.prog 9 #[shV k lo hi st it sg] w fun e w' => e = .returned (two (countI k lo hi st it sg)) ∧ Below w.heap.size w w') := count_any k lo hi st it sg b0 b1 b2
  have HA : Hid (atI k lo hi st it sg age = atI k lo hi st it sg age) := rfl
  unfold shV two at *
  obtain ⟨n, e0, hc⟩ : ∃ n e, countI k lo hi st it sg = (n, e) := ⟨_, _, rfl⟩
  rw [hc] at HC
  have hn : e0 = 0 → 0 ≤ n ∧ n ≤ 200 := fun h => by have := count_bd (k := k) (it := it) (sg := sg) b0 b1 b2 (by rw [hc]; exact h); rw [hc] at this; exact this
  by_cases h1 : e0 = 0
  · subst h1
    have hn := hn rfl
    by_cases h2 : age < 0
    · rw [show atI k lo hi st it sg age = (0, 0, 210) by unfold atI; rw [hc, if_neg (by simp), if_pos (.inl h2)]]
      clear b0 b1 b2 hc HA
      go_enter Try.func13, Try.ntmps13
      go_wp2_with fail
      refine (HC.out _).mono ?_
      rintro e w4 ⟨rfl, b4⟩
      have B4 : Hid (Below w.heap.size w w4) := (bl1 w _).trans (b4.mono (bl1 w _).size)
      clear b4
      go_wp2
      go_ret3
      exact ⟨rfl, B4.out⟩
    by_cases h3 : n ≤ age
    · rw [show atI k lo hi st it sg age = (0, 0, 210) by unfold atI; rw [hc, if_neg (by simp), if_pos (.inr h3)]]
      clear b0 b1 b2 hc HA
      go_enter Try.func13, Try.ntmps13
      go_wp2_with fail
      refine (HC.out _).mono ?_
      rintro e w4 ⟨rfl, b4⟩
      have B4 : Hid (Below w.heap.size w w4) := (bl1 w _).trans (b4.mono (bl1 w _).size)
      clear b4
      go_wp2
      go_ret3
      exact ⟨rfl, B4.out⟩
    by_cases h4 : k = 2
    · rw [show atI k lo hi st it sg age = (age / sg, age % sg, 0) by unfold atI; rw [hc, if_neg (by simp), if_neg (by simp; omega), if_pos h4]]
      have s1 := (count_pipe h4 (show (countI k lo hi st it sg).2 = 0 by rw [hc])).1
      have s2 := (count_pipe h4 (show (countI k lo hi st it sg).2 = 0 by rw [hc])).2.1
      have hs : sg ≠ 0 := by omega
      have hq : Int.tdiv age sg = age / sg := Int.tdiv_eq_ediv_of_nonneg (by omega)
      have hm : Int.tmod age sg = age % sg := Int.tmod_eq_emod_of_nonneg (by omega)
      have hq0 := Int.ediv_nonneg (show 0 ≤ age by omega) (show 0 ≤ sg by omega)
      have hq1 := Int.ediv_le_self sg (show 0 ≤ age by omega)
      have hw : wrap64 (age / sg) = age / sg := w64in _ ⟨by omega, by omega⟩
      have HX : Hid (∀ w4, Below (w.heap.size + 1) (w.alloc (.cells #[.int .i64 k, .int .i64 lo, .int .i64 hi, .int .i64 st, .int .i64 it, .int .i64 sg] 24)) w4 → SH w4 w.heap.size k lo hi st it sg) := fun w4 b4 => (SH.new w k lo hi st it sg).below (by simpa using b4)
      clear b0 b1 b2 hc HA
      subst h4
      go_enter Try.func13, Try.ntmps13
      go_wp2_with fail
      refine (HC.out _).mono ?_
      rintro e w4 ⟨rfl, b4⟩
      have B4 : Hid (Below w.heap.size w w4) := (bl1 w _).trans (b4.mono (bl1 w _).size)
      obtain ⟨c0, c1, c2, c3, c4, c5⟩ := (HX.out w4 (by simpa using b4)).all
      clear b4
      go_wp2_with fail
      go_quiet (fail)
      go_wp2
      go_ret3
      exact ⟨rfl, Below.dN B4.out _⟩
    · rw [show atI k lo hi st it sg age = (lo + age * st, 0, 0) by unfold atI; rw [hc, if_neg (by simp), if_neg (by simp; omega), if_neg h4]]
      obtain ⟨q0, q1, q2, q3, q4, q5⟩ := count_for h4 (by rw [hc])
      rw [hc] at q5
      have HW : Hid (wrap64 (lo + wrap64 (age * st)) = lo + age * st) := wrap_mul_sum _ _ _ (at_bd lo hi st age b0 b1 b2 q3 (by omega) (by rw [← q5]; simp; omega))
      have HX : Hid (∀ w4, Below (w.heap.size + 1) (w.alloc (.cells #[.int .i64 k, .int .i64 lo, .int .i64 hi, .int .i64 st, .int .i64 it, .int .i64 sg] 24)) w4 → SH w4 w.heap.size k lo hi st it sg) := fun w4 b4 => (SH.new w k lo hi st it sg).below (by simpa using b4)
      clear b0 b1 b2 hc HA q0 q1 q2 q3 q4 q5
      go_enter Try.func13, Try.ntmps13
      go_wp2_with fail
      refine (HC.out _).mono ?_
      rintro e w4 ⟨rfl, b4⟩
      have B4 : Hid (Below w.heap.size w w4) := (bl1 w _).trans (b4.mono (bl1 w _).size)
      obtain ⟨c0, c1, c2, c3, c4, c5⟩ := (HX.out w4 (by simpa using b4)).all
      clear b4
      go_wp2
      go_ret3
      exact ⟨by show Ending.returned (.tuple #[.int .i64 (wrap64 (lo + wrap64 (age * st))), .int .i64 0, .int .i64 0]) = _; rw [HW.out]; rfl, B4.out⟩
  · rw [show atI k lo hi st it sg age = (0, 0, e0) by unfold atI; rw [hc, if_pos h1]]
    clear b0 b1 b2 hc hn HA
    go_enter Try.func13, Try.ntmps13
    go_wp2_with fail
    refine (HC.out _).mono ?_
    rintro e w4 ⟨rfl, b4⟩
    have B4 : Hid (Below w.heap.size w w4) := (bl1 w _).trans (b4.mono (bl1 w _).size)
    clear b4
    go_wp2
    go_ret3
    exact ⟨rfl, B4.out⟩
end Go.Proofs.Ytamlnagipmomgaa
