/- PlanCounts: the law's walk. -/
import Derived.Test.YtamlnagipmomgaaFdP
namespace Go.Proofs.Ytamlnagipmomgaa
open Go.RowKit Go.Maps
set_option linter.unusedVariables false

set_option maxRecDepth 100000 in
set_option maxHeartbeats 4000000 in
theorem counts_walk (k lo hi st it sg : Int) (b0 : R64 lo) (b1 : R64 hi) (b2 : R64 st) (b4 : R64 it) (w : World) : Calls Try.prog 3 #[shV k lo hi st it sg] w fun e w' => e = .returned (.bool true) ∧ Below w.heap.size w w' := by
  have HC : Hid (∀ w, Calls Try.prog 9 #[shV k lo hi st it sg] w fun e w' => e = .returned (two (countI k lo hi st it sg)) ∧ Below w.heap.size w w') := count_any k lo hi st it sg b0 b1 b2
  have HL : Hid (∀ w, Calls Try.prog 12 #[] w fun e w' => e = .returned (.bool true) ∧ Below w.heap.size w w') := alive_any
  have HG : Hid (∀ w, Calls Try.prog 11 #[shV k lo hi st it sg] w fun e w' => e = .returned (.int .i64 (stagesI k sg)) ∧ Below w.heap.size w w') := stages_any k lo hi st it sg
  have HT : Hid (∀ w, Calls Try.prog 10 #[shV k lo hi st it sg] w fun e w' => ∃ v, e = .returned (.tuple #[v, .int .i64 (countI k lo hi st it sg).2]) ∧ PZ w' (w.heap.size + 1) v (tasksL k lo hi st it sg) ∧ Below w.heap.size w w') := tasks_any k lo hi st it sg b0 b1 b2 b4
  have HX : Hid (∀ w4, Below (w.heap.size + 1) (w.alloc (.cells #[.int .i64 k, .int .i64 lo, .int .i64 hi, .int .i64 st, .int .i64 it, .int .i64 sg] 24)) w4 → SH w4 w.heap.size k lo hi st it sg) := fun w4 b4 => (SH.new w k lo hi st it sg).below (by simpa using b4)
  have HLN : Hid ((tasksL k lo hi st it sg).length = (countI k lo hi st it sg).1.toNat) := tasksL_len k lo hi st it sg
  have hcn : 0 ≤ (countI k lo hi st it sg).1 := by
    by_cases h : (countI k lo hi st it sg).2 = 0
    · exact (count_bd b0 b1 b2 h).1
    · rw [count_err h]; exact Int.le_refl _
  unfold shV two at *
  clear b0 b1 b2 b4
  obtain ⟨N, hN⟩ : ∃ N : Nat, (countI k lo hi st it sg).1 = (N : Int) := ⟨_, (Int.toNat_of_nonneg hcn).symm⟩
  rw [hN] at HC HLN
  rw [Int.toNat_natCast] at HLN
  generalize (countI k lo hi st it sg).2 = er at *
  generalize tasksL k lo hi st it sg = T at *
  clear hcn hN
  by_cases hk : k = 2
  · rw [show stagesI k sg = sg by unfold stagesI; rw [if_pos hk]] at HG
    subst hk
    go_enter Try.func3, Try.ntmps3
    go_wp2_with fail
    refine (HC.out _).mono ?_
    rintro e w4 ⟨rfl, b4⟩
    have B4 : Hid (Below w.heap.size w w4) := (bl1 w _).trans (b4.mono (bl1 w _).size)
    have S4 : Hid (SH w4 w.heap.size 2 lo hi st it sg) := HX.out w4 (by simpa using b4)
    obtain ⟨c40, c41, c42, c43, c44, c45⟩ := S4.out.all
    clear b4
    go_wp2_with fail
    refine (HT.out _).mono ?_
    rintro e w5 ⟨v, rfl, hz5, b5⟩
    have B5 : Hid (Below w.heap.size w w5) := B4.out.trans (b5.mono B4.out.size)
    have S5 : Hid (SH w5 w.heap.size 2 lo hi st it sg) := S4.out.below b5
    obtain ⟨c50, c51, c52, c53, c54, c55⟩ := S5.out.all
    clear c40 c41 c42 c43 c44 c45
    obtain ⟨va, vc, hv5⟩ := hz5.sl
    rw [HLN.out] at hv5
    rw [hv5]
    clear b5 hz5 hv5
    go_wp2_with fail
    refine (HG.out _).mono ?_
    rintro e w6 ⟨rfl, b6⟩
    have B6 : Hid (Below w.heap.size w w6) := B5.out.trans (b6.mono B5.out.size)
    clear b6
    go_wp2_with fail
    refine (HL.out _).mono ?_
    rintro e w7 ⟨rfl, b7⟩
    have B7 : Hid (Below w.heap.size w w7) := B6.out.trans (b7.mono B6.out.size)
    clear b7
    go_wp2
    go_ret
    exact ⟨rfl, B7.out⟩
  · rw [show stagesI k sg = 1 by unfold stagesI; rw [if_neg hk]] at HG
    go_enter Try.func3, Try.ntmps3
    go_wp2_with fail
    refine (HC.out _).mono ?_
    rintro e w4 ⟨rfl, b4⟩
    have B4 : Hid (Below w.heap.size w w4) := (bl1 w _).trans (b4.mono (bl1 w _).size)
    have S4 : Hid (SH w4 w.heap.size k lo hi st it sg) := HX.out w4 (by simpa using b4)
    obtain ⟨c40, c41, c42, c43, c44, c45⟩ := S4.out.all
    clear b4
    go_wp2_with fail
    refine (HT.out _).mono ?_
    rintro e w5 ⟨v, rfl, hz5, b5⟩
    have B5 : Hid (Below w.heap.size w w5) := B4.out.trans (b5.mono B4.out.size)
    have S5 : Hid (SH w5 w.heap.size k lo hi st it sg) := S4.out.below b5
    obtain ⟨c50, c51, c52, c53, c54, c55⟩ := S5.out.all
    clear c40 c41 c42 c43 c44 c45
    obtain ⟨va, vc, hv5⟩ := hz5.sl
    rw [HLN.out] at hv5
    rw [hv5]
    clear b5 hz5 hv5
    go_wp2_with fail
    refine (HG.out _).mono ?_
    rintro e w6 ⟨rfl, b6⟩
    have B6 : Hid (Below w.heap.size w w6) := B5.out.trans (b6.mono B5.out.size)
    clear b6
    go_wp2_with fail
    refine (HL.out _).mono ?_
    rintro e w7 ⟨rfl, b7⟩
    have B7 : Hid (Below w.heap.size w w7) := B6.out.trans (b7.mono B6.out.size)
    clear b7
    go_wp2
    go_ret
    exact ⟨rfl, B7.out⟩
end Go.Proofs.Ytamlnagipmomgaa
