/- PlanTasks: the law's walk. -/
import Derived.Test.YtamlnagipmomgaaPrE
namespace Go.Proofs.Ytamlnagipmomgaa
open Go.RowKit Go.Maps
set_option linter.unusedVariables false

set_option maxRecDepth 100000 in
set_option maxHeartbeats 4000000 in
theorem tasks_walk (k lo hi st it sg age : Int) (b0 : R64 lo) (b1 : R64 hi) (b2 : R64 st) (b4 : R64 it) (w : World) : Calls Try.prog 4 #[shV k lo hi st it sg, .int .i64 age] w fun e w' => e = .returned (.bool true) ∧ Below w.heap.size w w' := by
  have HA : Hid (∀ w, Calls Try.prog 13 #[shV k lo hi st it sg, .int .i64 age] w fun e w' => e = .returned (three (atI k lo hi st it sg age)) ∧ Below w.heap.size w w') := at_any k lo hi st it sg age b0 b1 b2
  have HC : Hid (∀ w, Calls Try.prog 9 #[shV k lo hi st it sg] w fun e w' => e = .returned (two (countI k lo hi st it sg)) ∧ Below w.heap.size w w') := count_any k lo hi st it sg b0 b1 b2
  have HL : Hid (∀ w, Calls Try.prog 12 #[] w fun e w' => e = .returned (.bool true) ∧ Below w.heap.size w w') := alive_any
  have HG : Hid (∀ w, Calls Try.prog 11 #[shV k lo hi st it sg] w fun e w' => e = .returned (.int .i64 (stagesI k sg)) ∧ Below w.heap.size w w') := stages_any k lo hi st it sg
  have HT : Hid (∀ w, Calls Try.prog 10 #[shV k lo hi st it sg] w fun e w' => ∃ v, e = .returned (.tuple #[v, .int .i64 (countI k lo hi st it sg).2]) ∧ PZ w' (w.heap.size + 1) v (tasksL k lo hi st it sg) ∧ Below w.heap.size w w') := tasks_any k lo hi st it sg b0 b1 b2 b4
  have HX : Hid (∀ w4, Below (w.heap.size + 1) (w.alloc (.cells #[.int .i64 k, .int .i64 lo, .int .i64 hi, .int .i64 st, .int .i64 it, .int .i64 sg] 24)) w4 → SH w4 w.heap.size k lo hi st it sg) := fun w4 b4 => (SH.new w k lo hi st it sg).below (by simpa using b4)
  have HLN : Hid ((tasksL k lo hi st it sg).length = (countI k lo hi st it sg).1.toNat) := tasksL_len k lo hi st it sg
  unfold shV two three at *
  clear HC HG
  by_cases h1 : (countI k lo hi st it sg).2 = 0
  · have hbd := count_bd b0 b1 b2 h1
    obtain ⟨N, hN⟩ : ∃ N : Nat, (countI k lo hi st it sg).1 = (N : Int) := ⟨_, (Int.toNat_of_nonneg hbd.1).symm⟩
    by_cases h2 : age < 0 ∨ (N : Int) ≤ age
    · rw [show atI k lo hi st it sg age = (0, 0, 210) by unfold atI; rw [if_neg (by simp [h1]), if_pos (by rw [hN]; exact h2)]] at HA
      rw [hN] at HLN
      rw [Int.toNat_natCast] at HLN
      rw [h1] at HT
      simp only [] at HA
      generalize tasksL k lo hi st it sg = T at *
      clear b0 b1 b2 b4 h1 hbd hN
      by_cases h3 : age < 0
      · clear h2
        go_enter Try.func4, Try.ntmps4
        go_wp2_with fail
        refine (HA.out _).mono ?_
        rintro e w4 ⟨rfl, b4⟩
        have B4 : Hid (Below w.heap.size w w4) := (bl1 w _).trans (b4.mono (bl1 w _).size)
        have S4 : Hid (SH w4 w.heap.size k lo hi st it sg) := HX.out w4 (by simpa using b4)
        obtain ⟨c40, c41, c42, c43, c44, c45⟩ := S4.out.all
        clear b4
        go_wp2_with fail
        refine (HT.out _).mono ?_
        rintro e w5 ⟨v, rfl, hz5, b5⟩
        have B5 : Hid (Below w.heap.size w w5) := B4.out.trans (b5.mono B4.out.size)
        have S5 : Hid (SH w5 w.heap.size k lo hi st it sg) := S4.out.below b5
        obtain ⟨c50, c51, c52, c53, c54, c55⟩ := S5.out.all
        clear c40 c41 c42 c43 c44 c45
        obtain ⟨va, vc, hv5⟩ := hz5.sl
        rw [HLN.out] at hv5
        have Z5 : Hid (PZ w5 (w4.heap.size + 1) (.slice va N vc) T) := by rw [← hv5]; exact hz5
        rw [hv5]
        clear b5 hz5 hv5
        go_wp2_with fail
        refine (HL.out _).mono ?_
        rintro e w6 ⟨rfl, b6⟩
        have B6 : Hid (Below w.heap.size w w6) := B5.out.trans (b6.mono B5.out.size)
        clear b6
        go_wp2
        go_ret
        exact ⟨rfl, B6.out⟩
      · have h4 : (N : Int) ≤ age := by omega
        clear h2
        go_enter Try.func4, Try.ntmps4
        go_wp2_with fail
        refine (HA.out _).mono ?_
        rintro e w4 ⟨rfl, b4⟩
        have B4 : Hid (Below w.heap.size w w4) := (bl1 w _).trans (b4.mono (bl1 w _).size)
        have S4 : Hid (SH w4 w.heap.size k lo hi st it sg) := HX.out w4 (by simpa using b4)
        obtain ⟨c40, c41, c42, c43, c44, c45⟩ := S4.out.all
        clear b4
        go_wp2_with fail
        refine (HT.out _).mono ?_
        rintro e w5 ⟨v, rfl, hz5, b5⟩
        have B5 : Hid (Below w.heap.size w w5) := B4.out.trans (b5.mono B4.out.size)
        have S5 : Hid (SH w5 w.heap.size k lo hi st it sg) := S4.out.below b5
        obtain ⟨c50, c51, c52, c53, c54, c55⟩ := S5.out.all
        clear c40 c41 c42 c43 c44 c45
        obtain ⟨va, vc, hv5⟩ := hz5.sl
        rw [HLN.out] at hv5
        have Z5 : Hid (PZ w5 (w4.heap.size + 1) (.slice va N vc) T) := by rw [← hv5]; exact hz5
        rw [hv5]
        clear b5 hz5 hv5
        go_wp2_with fail
        refine (HL.out _).mono ?_
        rintro e w6 ⟨rfl, b6⟩
        have B6 : Hid (Below w.heap.size w w6) := B5.out.trans (b6.mono B5.out.size)
        clear b6
        go_wp2
        go_ret
        exact ⟨rfl, B6.out⟩
    · obtain ⟨a, rfl⟩ : ∃ a : Nat, age = (a : Int) := ⟨age.toNat, by omega⟩
      have ha : a < N := by omega
      have f2 := (find_is (k := k) (it := it) (sg := sg) (a := (a : Int)) b0 b1 b2 h1 (by omega) (by rw [hN]; omega)).2.1
      have ht := task_at h1 a (by rw [hN]; omega)
      have HTA : Hid (∀ h : a < (tasksL k lo hi st it sg).length, (tasksL k lo hi st it sg)[a] = ((atI k lo hi st it sg a).1, (atI k lo hi st it sg a).2.1)) := fun h => (tasksN_at _ _ _ _ _ a h).trans ht
      rw [f2] at HA
      rw [hN] at HLN
      rw [Int.toNat_natCast] at HLN
      rw [h1] at HT
      generalize (atI k lo hi st it sg a).1 = i at *
      generalize (atI k lo hi st it sg a).2.1 = j at *
      generalize tasksL k lo hi st it sg = T at *
      have e1 : decide ((a : Int) < 0) = false := by simp
      have e2 : decide ((N : Int) ≤ (a : Int)) = false := by simp; omega
      clear b0 b1 b2 b4 h1 hbd hN f2 ht h2
      go_enter Try.func4, Try.ntmps4
      go_wp2_with fail
      refine (HA.out _).mono ?_
      rintro e w4 ⟨rfl, b4⟩
      have B4 : Hid (Below w.heap.size w w4) := (bl1 w _).trans (b4.mono (bl1 w _).size)
      have S4 : Hid (SH w4 w.heap.size k lo hi st it sg) := HX.out w4 (by simpa using b4)
      obtain ⟨c40, c41, c42, c43, c44, c45⟩ := S4.out.all
      clear b4
      go_wp2_with fail
      refine (HT.out _).mono ?_
      rintro e w5 ⟨v, rfl, hz5, b5⟩
      have B5 : Hid (Below w.heap.size w w5) := B4.out.trans (b5.mono B4.out.size)
      have S5 : Hid (SH w5 w.heap.size k lo hi st it sg) := S4.out.below b5
      obtain ⟨c50, c51, c52, c53, c54, c55⟩ := S5.out.all
      clear c40 c41 c42 c43 c44 c45
      obtain ⟨va, vc, hv5⟩ := hz5.sl
      rw [HLN.out] at hv5
      have Z5 : Hid (PZ w5 (w4.heap.size + 1) (.slice va N vc) T) := by rw [← hv5]; exact hz5
      rw [hv5]
      clear b5 hz5 hv5
      obtain ⟨va', vc', vb, vo, hve, _, _, hv1, hv2⟩ := Z5.out.psl
      rw [HLN.out] at hve hv1
      injection hve with hve1 hve2 hve3
      have hva := hv1 (by omega)
      rw [← hve1] at hva
      subst hva
      have hcl := hv2 a (by rw [HLN.out]; exact ha)
      rw [HTA.out (by rw [HLN.out]; exact ha)] at hcl
      obtain ⟨d1, d2⟩ := hcl
      simp only [] at d1 d2
      rw [← Nat.add_assoc] at d2
      have hneq : ∀ w' : World, (binOp .eql 36 (.agg #[.int .i64 i, .int .i64 j]) (.agg #[.int .i64 i, .int .i64 j])).run Try.prog w' = .ok (.bool true) w' := fun w' => by rw [eql_pr]; simp
      have hgd : ∀ (s t : Operand) (w' : World), (eqGuard .eql 36 s t (.agg #[.int .i64 i, .int .i64 j]) (.agg #[.int .i64 i, .int .i64 j])).run Try.prog w' = .ok () w' := eqg36 i j i j
      clear hv1 hv2 hve1 hve2 hve3
      go_wp2_with fail
      refine (HL.out _).mono ?_
      rintro e w6 ⟨rfl, b6⟩
      have B6 : Hid (Below w.heap.size w w6) := B5.out.trans (b6.mono B5.out.size)
      clear b6
      go_wp2
      go_ret
      exact ⟨rfl, B6.out⟩
  · have hn0 := count_err h1
    rw [show atI k lo hi st it sg age = (0, 0, (countI k lo hi st it sg).2) by unfold atI; rw [if_pos h1]] at HA
    rw [hn0] at HLN
    simp only [] at HA
    generalize (countI k lo hi st it sg).2 = er at *
    generalize tasksL k lo hi st it sg = T at *
    clear b0 b1 b2 b4 hn0
    obtain ⟨N, hN⟩ : ∃ N : Nat, (0 : Int).toNat = N := ⟨_, rfl⟩
    rw [hN] at HLN
    clear hN
    go_enter Try.func4, Try.ntmps4
    go_wp2_with fail
    refine (HA.out _).mono ?_
    rintro e w4 ⟨rfl, b4⟩
    have B4 : Hid (Below w.heap.size w w4) := (bl1 w _).trans (b4.mono (bl1 w _).size)
    have S4 : Hid (SH w4 w.heap.size k lo hi st it sg) := HX.out w4 (by simpa using b4)
    obtain ⟨c40, c41, c42, c43, c44, c45⟩ := S4.out.all
    clear b4
    go_wp2_with fail
    refine (HT.out _).mono ?_
    rintro e w5 ⟨v, rfl, hz5, b5⟩
    have B5 : Hid (Below w.heap.size w w5) := B4.out.trans (b5.mono B4.out.size)
    have S5 : Hid (SH w5 w.heap.size k lo hi st it sg) := S4.out.below b5
    obtain ⟨c50, c51, c52, c53, c54, c55⟩ := S5.out.all
    clear c40 c41 c42 c43 c44 c45
    obtain ⟨va, vc, hv5⟩ := hz5.sl
    rw [HLN.out] at hv5
    have Z5 : Hid (PZ w5 (w4.heap.size + 1) (.slice va N vc) T) := by rw [← hv5]; exact hz5
    rw [hv5]
    clear b5 hz5 hv5
    go_wp2_with fail
    refine (HL.out _).mono ?_
    rintro e w6 ⟨rfl, b6⟩
    have B6 : Hid (Below w.heap.size w w6) := B5.out.trans (b6.mono B5.out.size)
    clear b6
    go_wp2
    go_ret
    exact ⟨rfl, B6.out⟩
end Go.Proofs.Ytamlnagipmomgaa
