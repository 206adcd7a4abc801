/- PlanBack: At and Find are each other's way back: the law's walk. -/
import Derived.Test.YtamlnagipmomgaaPl6
namespace Go.Proofs.Ytamlnagipmomgaa
open Go.RowKit
set_option linter.unusedVariables false

set_option maxRecDepth 100000 in
set_option maxHeartbeats 4000000 in
theorem back_walk (k lo hi st it sg age : Int) (b0 : R64 lo) (b1 : R64 hi) (b2 : R64 st) (b3 : R64 age) (w : World) : Calls Try.prog 6 #[shV k lo hi st it sg, .int .i64 age] w fun e w' => e = .returned (.bool true) ∧ Below w.heap.size w w' := by
  have HC : Hid (∀ w, Calls Try.prog 9 #[shV k lo hi st it sg] w fun e w' => e = .returned (two (countI k lo hi st it sg)) ∧ Below w.heap.size w w') := count_any k lo hi st it sg b0 b1 b2
  have HL : Hid (∀ w, Calls Try.prog 12 #[] w fun e w' => e = .returned (.bool true) ∧ Below w.heap.size w w') := alive_any
  have HA0 : ∀ a, Hid (∀ w, Calls Try.prog 13 #[shV k lo hi st it sg, .int .i64 a] w fun e w' => e = .returned (three (atI k lo hi st it sg a)) ∧ Below w.heap.size w w') := fun a => at_any k lo hi st it sg a b0 b1 b2
  have HF0 : ∀ i j, R64 i → Hid (∀ w, Calls Try.prog 14 #[shV k lo hi st it sg, .int .i64 i, .int .i64 j] w fun e w' => e = .returned (.int .i64 (findI k lo hi st it sg i j)) ∧ Below w.heap.size w w') := fun i j h => find_any k lo hi st it sg i j b0 b1 b2 h
  have HX : Hid (∀ w4, Below (w.heap.size + 1) (w.alloc (.cells #[.int .i64 k, .int .i64 lo, .int .i64 hi, .int .i64 st, .int .i64 it, .int .i64 sg] 24)) w4 → SH w4 w.heap.size k lo hi st it sg) := fun w4 b4 => (SH.new w k lo hi st it sg).below (by simpa using b4)
  unfold shV two three at *
  obtain ⟨n, e0, hc⟩ : ∃ n e, countI k lo hi st it sg = (n, e) := ⟨_, _, rfl⟩
  rw [hc] at HC
  by_cases h1 : e0 = 0
  · subst h1
    have hbd := count_bd (k := k) (it := it) (sg := sg) b0 b1 b2 (by rw [hc])
    rw [hc] at hbd
    by_cases h2 : n = 0
    · subst h2
      clear HA0 HF0 hc hbd b0 b1 b2 b3
      go_enter Try.func6, Try.ntmps6
      go_wp2_with fail
      refine (HC.out _).mono ?_
      rintro e w4 ⟨rfl, b4⟩
      have B4 : Hid (Below w.heap.size w w4) := (bl1 w _).trans (b4.mono (bl1 w _).size)
      clear b4
      go_wp2_with fail
      refine (HL.out _).mono ?_
      rintro e w5 ⟨rfl, b5⟩
      have B5 : Hid (Below w.heap.size w w5) := B4.out.trans (b5.mono B4.out.size)
      clear b5
      go_wp2
      go_ret
      exact ⟨rfl, B5.out⟩
    have hn : 0 < n ∧ n ≤ 200 := ⟨by have := hbd.1; simp at this; omega, hbd.2⟩
    obtain ⟨r, a, r1, r2, r3, r4, r5⟩ := turn_in age n hn b3
    have r2' : wrap64 (r + n) = r + n := w64in _ r2
    obtain ⟨f1, f2, f3⟩ := find_is (k := k) (it := it) (sg := sg) (a := a) b0 b1 b2 (by rw [hc]) r4 (by rw [hc]; exact r5)
    have HA := HA0 a
    have HAN := HA0 (a + 1)
    have HF := HF0 (atI k lo hi st it sg a).1 (atI k lo hi st it sg a).2.1 f1
    rw [f2] at HA
    rw [f3] at HF
    have ha1 : wrap64 (a + 1) = a + 1 := w64in _ ⟨by omega, by omega⟩
    by_cases h3 : a + 1 = n
    · clear HA0 HF0 HAN hc hbd b0 b1 b2 b3 f1 f2 f3
      generalize (atI k lo hi st it sg a).1 = i at *
      generalize (atI k lo hi st it sg a).2.1 = j at *
      clear r2
      go_enter Try.func6, Try.ntmps6
      go_wp2_with fail
      refine (HC.out _).mono ?_
      rintro e w4 ⟨rfl, b4⟩
      have B4 : Hid (Below w.heap.size w w4) := (bl1 w _).trans (b4.mono (bl1 w _).size)
      have S4 : Hid (SH w4 w.heap.size k lo hi st it sg) := HX.out w4 (by simpa using b4)
      obtain ⟨c40, c41, c42, c43, c44, c45⟩ := S4.out.all
      clear b4
      go_wp2_with fail
      refine (HA.out _).mono ?_
      rintro e w5 ⟨rfl, b5⟩
      have B5 : Hid (Below w.heap.size w w5) := B4.out.trans (b5.mono B4.out.size)
      have S5 : Hid (SH w5 w.heap.size k lo hi st it sg) := S4.out.below b5
      obtain ⟨c50, c51, c52, c53, c54, c55⟩ := S5.out.all
      clear c40 c41 c42 c43 c44 c45
      clear b5
      go_wp2_with fail
      refine (HF.out _).mono ?_
      rintro e w6 ⟨rfl, b6⟩
      have B6 : Hid (Below w.heap.size w w6) := B5.out.trans (b6.mono B5.out.size)
      have S6 : Hid (SH w6 w.heap.size k lo hi st it sg) := S5.out.below b6
      obtain ⟨c60, c61, c62, c63, c64, c65⟩ := S6.out.all
      clear c50 c51 c52 c53 c54 c55
      clear b6
      go_wp2_with fail
      refine (HL.out _).mono ?_
      rintro e w7 ⟨rfl, b7⟩
      have B7 : Hid (Below w.heap.size w w7) := B6.out.trans (b7.mono B6.out.size)
      clear b7
      go_wp2
      go_ret
      exact ⟨rfl, B7.out⟩
    · have e1 := at_is (k := k) (lo := lo) (hi := hi) (st := st) (it := it) (sg := sg) (a := a) (by rw [hc]) r4 (by rw [hc]; exact r5)
      have e2 := at_is (k := k) (lo := lo) (hi := hi) (st := st) (it := it) (sg := sg) (a := a + 1) (by rw [hc]) (by omega) (by rw [hc]; show a + 1 < n; omega)
      by_cases h4 : k = 2
      · rw [if_pos h4] at e1 e2
        have s1 := (count_pipe h4 (show (countI k lo hi st it sg).2 = 0 by rw [hc])).1
        have s2 := (count_pipe h4 (show (countI k lo hi st it sg).2 = 0 by rw [hc])).2.1
        rw [e1] at HA HF
        rw [e2] at HAN
        have hpn := pipe_next a sg s1 r4
        have hq0 := Int.emod_nonneg a (show sg ≠ 0 by omega)
        have hq1 := Int.emod_lt_of_pos a (show 0 < sg by omega)
        have hq2 := Int.ediv_nonneg r4 (show 0 ≤ sg by omega)
        have hq3 := Int.ediv_le_self sg r4
        clear HA0 HF0 hc hbd b0 b1 b2 b3 f1 f2 f3 e1 e2
        simp only [] at HA HF HAN
        generalize a / sg = i at *
        generalize a % sg = j at *
        generalize (a + 1) / sg = i2 at *
        generalize (a + 1) % sg = j2 at *
        have hj : wrap64 (j + 1) = j + 1 := w64in _ ⟨by omega, by omega⟩
        have hi1 : wrap64 (i + 1) = i + 1 := w64in _ ⟨by omega, by omega⟩
        have hs1 : wrap64 (sg - 1) = sg - 1 := w64in _ ⟨by omega, by omega⟩
        clear r2 hq2 hq3 hq0 hq1
        subst h4
        rcases hpn with ⟨rfl, rfl⟩ | ⟨rfl, rfl, rfl⟩
        · go_enter Try.func6, Try.ntmps6
          go_wp2_with fail
          refine (HC.out _).mono ?_
          rintro e w4 ⟨rfl, b4⟩
          have B4 : Hid (Below w.heap.size w w4) := (bl1 w _).trans (b4.mono (bl1 w _).size)
          have S4 : Hid (SH w4 w.heap.size 2 lo hi st it sg) := HX.out w4 (by simpa using b4)
          obtain ⟨c40, c41, c42, c43, c44, c45⟩ := S4.out.all
          clear b4
          go_wp2_with fail
          refine (HA.out _).mono ?_
          rintro e w5 ⟨rfl, b5⟩
          have B5 : Hid (Below w.heap.size w w5) := B4.out.trans (b5.mono B4.out.size)
          have S5 : Hid (SH w5 w.heap.size 2 lo hi st it sg) := S4.out.below b5
          obtain ⟨c50, c51, c52, c53, c54, c55⟩ := S5.out.all
          clear c40 c41 c42 c43 c44 c45
          clear b5
          go_wp2_with fail
          refine (HF.out _).mono ?_
          rintro e w6 ⟨rfl, b6⟩
          have B6 : Hid (Below w.heap.size w w6) := B5.out.trans (b6.mono B5.out.size)
          have S6 : Hid (SH w6 w.heap.size 2 lo hi st it sg) := S5.out.below b6
          obtain ⟨c60, c61, c62, c63, c64, c65⟩ := S6.out.all
          clear c50 c51 c52 c53 c54 c55
          clear b6
          go_wp2_with fail
          refine (HAN.out _).mono ?_
          rintro e w7 ⟨rfl, b7⟩
          have B7 : Hid (Below w.heap.size w w7) := B6.out.trans (b7.mono B6.out.size)
          have S7 : Hid (SH w7 w.heap.size 2 lo hi st it sg) := S6.out.below b7
          obtain ⟨c70, c71, c72, c73, c74, c75⟩ := S7.out.all
          clear c60 c61 c62 c63 c64 c65
          clear b7
          go_wp2_with fail
          refine (HL.out _).mono ?_
          rintro e w8 ⟨rfl, b8⟩
          have B8 : Hid (Below w.heap.size w w8) := B7.out.trans (b8.mono B7.out.size)
          clear b8
          go_wp2
          go_ret
          exact ⟨rfl, B8.out⟩
        · have hne : ¬ (i + 1 = i) := by omega
          go_enter Try.func6, Try.ntmps6
          go_wp2_with fail
          refine (HC.out _).mono ?_
          rintro e w4 ⟨rfl, b4⟩
          have B4 : Hid (Below w.heap.size w w4) := (bl1 w _).trans (b4.mono (bl1 w _).size)
          have S4 : Hid (SH w4 w.heap.size 2 lo hi st it sg) := HX.out w4 (by simpa using b4)
          obtain ⟨c40, c41, c42, c43, c44, c45⟩ := S4.out.all
          clear b4
          go_wp2_with fail
          refine (HA.out _).mono ?_
          rintro e w5 ⟨rfl, b5⟩
          have B5 : Hid (Below w.heap.size w w5) := B4.out.trans (b5.mono B4.out.size)
          have S5 : Hid (SH w5 w.heap.size 2 lo hi st it sg) := S4.out.below b5
          obtain ⟨c50, c51, c52, c53, c54, c55⟩ := S5.out.all
          clear c40 c41 c42 c43 c44 c45
          clear b5
          go_wp2_with fail
          refine (HF.out _).mono ?_
          rintro e w6 ⟨rfl, b6⟩
          have B6 : Hid (Below w.heap.size w w6) := B5.out.trans (b6.mono B5.out.size)
          have S6 : Hid (SH w6 w.heap.size 2 lo hi st it sg) := S5.out.below b6
          obtain ⟨c60, c61, c62, c63, c64, c65⟩ := S6.out.all
          clear c50 c51 c52 c53 c54 c55
          clear b6
          go_wp2_with fail
          refine (HAN.out _).mono ?_
          rintro e w7 ⟨rfl, b7⟩
          have B7 : Hid (Below w.heap.size w w7) := B6.out.trans (b7.mono B6.out.size)
          have S7 : Hid (SH w7 w.heap.size 2 lo hi st it sg) := S6.out.below b7
          obtain ⟨c70, c71, c72, c73, c74, c75⟩ := S7.out.all
          clear c60 c61 c62 c63 c64 c65
          clear b7
          go_wp2_with fail
          refine (HL.out _).mono ?_
          rintro e w8 ⟨rfl, b8⟩
          have B8 : Hid (Below w.heap.size w w8) := B7.out.trans (b8.mono B7.out.size)
          clear b8
          go_wp2
          go_ret
          exact ⟨rfl, B8.out⟩
      · rw [if_neg h4] at e1 e2
        have hk1 := (count_for h4 (show (countI k lo hi st it sg).2 = 0 by rw [hc])).1
        rw [e1] at HA HF
        rw [e2] at HAN
        have hd : wrap64 (lo + (a + 1) * st - (lo + a * st)) = st := by rw [show lo + (a + 1) * st - (lo + a * st) = st by rw [Int.add_mul]; omega]; exact w64in _ b2
        clear HA0 HF0 hc hbd b0 b1 b2 b3 f1 f2 f3 e1 e2
        simp only [] at HA HF HAN
        generalize lo + a * st = i at *
        generalize lo + (a + 1) * st = i2 at *
        clear r2 h4
        subst hk1
        go_enter Try.func6, Try.ntmps6
        go_wp2_with fail
        refine (HC.out _).mono ?_
        rintro e w4 ⟨rfl, b4⟩
        have B4 : Hid (Below w.heap.size w w4) := (bl1 w _).trans (b4.mono (bl1 w _).size)
        have S4 : Hid (SH w4 w.heap.size 1 lo hi st it sg) := HX.out w4 (by simpa using b4)
        obtain ⟨c40, c41, c42, c43, c44, c45⟩ := S4.out.all
        clear b4
        go_wp2_with fail
        refine (HA.out _).mono ?_
        rintro e w5 ⟨rfl, b5⟩
        have B5 : Hid (Below w.heap.size w w5) := B4.out.trans (b5.mono B4.out.size)
        have S5 : Hid (SH w5 w.heap.size 1 lo hi st it sg) := S4.out.below b5
        obtain ⟨c50, c51, c52, c53, c54, c55⟩ := S5.out.all
        clear c40 c41 c42 c43 c44 c45
        clear b5
        go_wp2_with fail
        refine (HF.out _).mono ?_
        rintro e w6 ⟨rfl, b6⟩
        have B6 : Hid (Below w.heap.size w w6) := B5.out.trans (b6.mono B5.out.size)
        have S6 : Hid (SH w6 w.heap.size 1 lo hi st it sg) := S5.out.below b6
        obtain ⟨c60, c61, c62, c63, c64, c65⟩ := S6.out.all
        clear c50 c51 c52 c53 c54 c55
        clear b6
        go_wp2_with fail
        refine (HAN.out _).mono ?_
        rintro e w7 ⟨rfl, b7⟩
        have B7 : Hid (Below w.heap.size w w7) := B6.out.trans (b7.mono B6.out.size)
        have S7 : Hid (SH w7 w.heap.size 1 lo hi st it sg) := S6.out.below b7
        obtain ⟨c70, c71, c72, c73, c74, c75⟩ := S7.out.all
        clear c60 c61 c62 c63 c64 c65
        clear b7
        go_wp2_with fail
        refine (HL.out _).mono ?_
        rintro e w8 ⟨rfl, b8⟩
        have B8 : Hid (Below w.heap.size w w8) := B7.out.trans (b8.mono B7.out.size)
        clear b8
        go_wp2
        go_ret
        exact ⟨rfl, B8.out⟩
  · have hn0 := count_err (k := k) (lo := lo) (hi := hi) (st := st) (it := it) (sg := sg) (by rw [hc]; exact h1)
    rw [hc] at hn0
    simp only [] at hn0
    subst hn0
    clear HA0 HF0 hc b0 b1 b2 b3
    go_enter Try.func6, Try.ntmps6
    go_wp2_with fail
    refine (HC.out _).mono ?_
    rintro e w4 ⟨rfl, b4⟩
    have B4 : Hid (Below w.heap.size w w4) := (bl1 w _).trans (b4.mono (bl1 w _).size)
    clear b4
    go_wp2_with fail
    refine (HL.out _).mono ?_
    rintro e w5 ⟨rfl, b5⟩
    have B5 : Hid (Below w.heap.size w w5) := B4.out.trans (b5.mono B4.out.size)
    clear b5
    go_wp2
    go_ret
    exact ⟨rfl, B5.out⟩
end Go.Proofs.Ytamlnagipmomgaa
