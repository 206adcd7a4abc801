/- Plans: Find, whole; what is alive. -/
import Derived.Test.YtamlnagipmomgaaPl4
namespace Go.Proofs.Ytamlnagipmomgaa
open Go.RowKit
set_option linter.unusedVariables false

set_option maxRecDepth 100000 in
set_option maxHeartbeats 2000000 in
theorem findPipe_any (k lo hi st it sg ix j : Int) (h1 : 1 ≤ sg ∧ sg ≤ 6) (h2 : 0 ≤ it ∧ it ≤ 200) (h3 : 0 ≤ j ∧ j < sg) (w : World) : Calls Try.prog 25 #[shV k lo hi st it sg, .int .i64 ix, .int .i64 j] w fun e w' => e = .returned (.int .i64 (if ix < 0 ∨ it ≤ ix then -1 else ix * sg + j)) ∧ Below w.heap.size w w' := by
  unfold shV
  by_cases q1 : ix < 0
  · rw [if_pos (.inl q1)]
    go_enter Try.func25, Try.ntmps25
    go_wp2
    go_ret
    exact ⟨rfl, bl1 _ _⟩
  by_cases q2 : it ≤ ix
  · rw [if_pos (.inr q2)]
    go_enter Try.func25, Try.ntmps25
    go_wp2
    go_ret
    exact ⟨rfl, bl1 _ _⟩
  · rw [if_neg (by omega)]
    have hm := mul_bd (a := ix) (b := sg) ⟨by omega, by omega⟩ ⟨by omega, h1.2⟩
    have HW : Hid (wrap64 (wrap64 (ix * sg) + j) = ix * sg + j) := by show _ = _; rw [w64in (ix * sg) ⟨by omega, by omega⟩, w64in _ ⟨by omega, by omega⟩]
    clear hm
    go_enter Try.func25, Try.ntmps25
    go_wp2
    go_ret
    exact ⟨by show Ending.returned (.int .i64 (wrap64 (wrap64 (ix * sg) + j))) = _; rw [HW.out], bl1 _ _⟩
set_option maxRecDepth 100000 in
set_option maxHeartbeats 2000000 in
theorem findFor_any (k lo hi st it sg ix n : Int) (b0 : R64 lo) (b1 : R64 ix) (b2 : R64 st) (h3 : st ≠ 0) (hn : 0 ≤ n ∧ n ≤ 200) (w : World) : Calls Try.prog 26 #[shV k lo hi st it sg, .int .i64 ix, .int .i64 n] w fun e w' => e = .returned (.int .i64 (if 0 < wayI lo ix st % wideI st ∨ n ≤ wayI lo ix st / wideI st then -1 else wayI lo ix st / wideI st)) ∧ Below w.heap.size w w' := by
  have HT : Hid (∀ w, Calls Try.prog 32 #[shV k lo hi st it sg, .int .i64 ix] w fun e w' => e = .returned (.tuple #[.int .u64 (wayI lo ix st / wideI st), .int .u64 (wayI lo ix st % wideI st)]) ∧ Below w.heap.size w w') := fun w => strides_any k lo hi st it sg ix w b0 b1 b2 h3
  have hq0 := Int.ediv_nonneg (way_bd lo ix st).1 (Int.le_of_lt (wide_bd st b2 h3).1)
  have hr0 := Int.emod_nonneg (wayI lo ix st) (show wideI st ≠ 0 by have := wide_bd st b2 h3; omega)
  unfold shV at *
  generalize wayI lo ix st / wideI st = Q at *
  generalize wayI lo ix st % wideI st = R at *
  have hu : IntKind.u64.wrap n = n := by rw [u64_wrap]; omega
  clear b0 b1 b2 h3
  by_cases q1 : 0 < R
  · rw [if_pos (.inl q1)]
    go_enter Try.func26, Try.ntmps26
    go_wp2_with fail
    refine (HT.out _).mono ?_
    rintro e w4 ⟨rfl, b4⟩
    have B4 : Hid (Below w.heap.size w w4) := (bl1 w _).trans (b4.mono (bl1 w _).size)
    clear b4
    go_wp2
    go_ret
    exact ⟨rfl, B4.out⟩
  by_cases q2 : n ≤ Q
  · rw [if_pos (.inr q2)]
    go_enter Try.func26, Try.ntmps26
    go_wp2_with fail
    refine (HT.out _).mono ?_
    rintro e w4 ⟨rfl, b4⟩
    have B4 : Hid (Below w.heap.size w w4) := (bl1 w _).trans (b4.mono (bl1 w _).size)
    clear b4
    go_wp2
    go_ret
    exact ⟨rfl, B4.out⟩
  · rw [if_neg (by omega)]
    have hw : wrap64 Q = Q := w64in _ ⟨by omega, by omega⟩
    go_enter Try.func26, Try.ntmps26
    go_wp2_with fail
    refine (HT.out _).mono ?_
    rintro e w4 ⟨rfl, b4⟩
    have B4 : Hid (Below w.heap.size w w4) := (bl1 w _).trans (b4.mono (bl1 w _).size)
    clear b4
    go_wp2
    go_ret
    exact ⟨rfl, B4.out⟩
set_option maxRecDepth 100000 in
set_option maxHeartbeats 2000000 in
theorem find_any (k lo hi st it sg ix j : Int) (b0 : R64 lo) (b1 : R64 hi) (b2 : R64 st) (b3 : R64 ix) (w : World) : Calls Try.prog 14 #[shV k lo hi st it sg, .int .i64 ix, .int .i64 j] w fun e w' => e = .returned (.int .i64 (findI k lo hi st it sg ix j)) ∧ Below w.heap.size w w' := by
  have HC : Hid (∀ w, Calls Try.prog 9 #[shV k lo hi st it sg] w fun e w' => e = .returned (two (countI k lo hi st it sg)) ∧ Below w.heap.size w w') := count_any k lo hi st it sg b0 b1 b2
  have HS : Hid (∀ w, Calls Try.prog 11 #[shV k lo hi st it sg] w fun e w' => e = .returned (.int .i64 (stagesI k sg)) ∧ Below w.heap.size w w') := stages_any k lo hi st it sg
  have HP : Hid (∀ (h1 : 1 ≤ sg ∧ sg ≤ 6) (h2 : 0 ≤ it ∧ it ≤ 200) (h3 : 0 ≤ j ∧ j < sg) (w : World), Calls Try.prog 25 #[shV k lo hi st it sg, .int .i64 ix, .int .i64 j] w fun e w' => e = .returned (.int .i64 (if ix < 0 ∨ it ≤ ix then -1 else ix * sg + j)) ∧ Below w.heap.size w w') := findPipe_any k lo hi st it sg ix j
  have HF : Hid (∀ (n : Int) (h3 : st ≠ 0) (hn : 0 ≤ n ∧ n ≤ 200) (w : World), Calls Try.prog 26 #[shV k lo hi st it sg, .int .i64 ix, .int .i64 n] w fun e w' => e = .returned (.int .i64 (if 0 < wayI lo ix st % wideI st ∨ n ≤ wayI lo ix st / wideI st then -1 else wayI lo ix st / wideI st)) ∧ Below w.heap.size w w') := fun n h3 hn => findFor_any k lo hi st it sg ix n b0 b3 b2 h3 hn
  unfold shV two at *
  obtain ⟨n, e0, hc⟩ : ∃ n e, countI k lo hi st it sg = (n, e) := ⟨_, _, rfl⟩
  rw [hc] at HC
  have hn : e0 = 0 → 0 ≤ n ∧ n ≤ 200 := fun h => by have := count_bd (k := k) (it := it) (sg := sg) b0 b1 b2 (by rw [hc]; exact h); rw [hc] at this; exact this
  have HX : Hid (∀ w4, Below (w.heap.size + 1) (w.alloc (.cells #[.int .i64 k, .int .i64 lo, .int .i64 hi, .int .i64 st, .int .i64 it, .int .i64 sg] 24)) w4 → SH w4 w.heap.size k lo hi st it sg) := fun w4 b4 => (SH.new w k lo hi st it sg).below (by simpa using b4)
  obtain ⟨SG, hsg⟩ : ∃ s, stagesI k sg = s := ⟨_, rfl⟩
  rw [hsg] at HS
  by_cases h1 : e0 = 0
  · subst h1
    have hn := hn rfl
    by_cases h2 : j < 0
    · rw [show findI k lo hi st it sg ix j = -1 by unfold findI; rw [if_pos (.inr (.inl h2))]]
      clear b0 b1 b2 b3 hc HP HF hsg
      go_enter Try.func14, Try.ntmps14
      go_wp2_with fail
      refine (HC.out _).mono ?_
      rintro e w4 ⟨rfl, b4⟩
      have B4 : Hid (Below w.heap.size w w4) := (bl1 w _).trans (b4.mono (bl1 w _).size)
      clear b4
      go_wp2
      go_ret
      exact ⟨rfl, B4.out⟩
    by_cases h3 : SG ≤ j
    · rw [show findI k lo hi st it sg ix j = -1 by unfold findI; rw [if_pos (.inr (.inr (by rw [hsg]; exact h3)))]]
      clear b0 b1 b2 b3 hc HP HF hsg
      go_enter Try.func14, Try.ntmps14
      go_wp2_with fail
      refine (HC.out _).mono ?_
      rintro e w4 ⟨rfl, b4⟩
      have B4 : Hid (Below w.heap.size w w4) := (bl1 w _).trans (b4.mono (bl1 w _).size)
      obtain ⟨c0, c1, c2, c3, c4, c5⟩ := (HX.out w4 (by simpa using b4)).all
      clear b4
      go_wp2_with fail
      refine (HS.out _).mono ?_
      rintro e w5 ⟨rfl, b5⟩
      have B5 : Hid (Below w.heap.size w w5) := B4.out.trans (b5.mono B4.out.size)
      clear b5
      go_wp2
      go_ret
      exact ⟨rfl, B5.out⟩
    by_cases h4 : k = 2
    · have s := count_pipe h4 (show (countI k lo hi st it sg).2 = 0 by rw [hc])
      have es : SG = sg := by rw [← hsg]; unfold stagesI; rw [if_pos h4]
      have HP' : Hid (∀ (w : World), Calls Try.prog 25 #[.agg #[.int .i64 k, .int .i64 lo, .int .i64 hi, .int .i64 st, .int .i64 it, .int .i64 sg], .int .i64 ix, .int .i64 j] w fun e w' => e = .returned (.int .i64 (if ix < 0 ∨ it ≤ ix then -1 else ix * sg + j)) ∧ Below w.heap.size w w') := HP.out ⟨s.1, s.2.1⟩ ⟨s.2.2.1, s.2.2.2.1⟩ ⟨by omega, by omega⟩
      rw [show findI k lo hi st it sg ix j = (if ix < 0 ∨ it ≤ ix then -1 else ix * sg + j) by unfold findI; rw [if_neg (by rw [hc, hsg]; simp; omega), if_pos h4]]
      clear b0 b1 b2 b3 hc HP HF hsg s es
      generalize (if ix < 0 ∨ it ≤ ix then -1 else ix * sg + j) = F at *
      subst h4
      go_enter Try.func14, Try.ntmps14
      go_wp2_with fail
      refine (HC.out _).mono ?_
      rintro e w4 ⟨rfl, b4⟩
      have B4 : Hid (Below w.heap.size w w4) := (bl1 w _).trans (b4.mono (bl1 w _).size)
      have H4 : Hid (SH w4 w.heap.size 2 lo hi st it sg) := HX.out w4 (by simpa using b4)
      obtain ⟨c0, c1, c2, c3, c4, c5⟩ := H4.out.all
      clear b4
      go_wp2_with fail
      refine (HS.out _).mono ?_
      rintro e w5 ⟨rfl, b5⟩
      have B5 : Hid (Below w.heap.size w w5) := B4.out.trans (b5.mono B4.out.size)
      obtain ⟨d0, d1, d2, d3, d4, d5⟩ := (H4.out.below b5).all
      clear b5 c0 c1 c2 c3 c4 c5
      go_wp2_with fail
      refine (HP'.out _).mono ?_
      rintro e w6 ⟨rfl, b6⟩
      have B6 : Hid (Below w.heap.size w w6) := B5.out.trans (b6.mono B5.out.size)
      clear b6
      go_wp2
      go_ret
      exact ⟨rfl, B6.out⟩
    · have s := count_for h4 (show (countI k lo hi st it sg).2 = 0 by rw [hc])
      have HF' : Hid (∀ (w : World), Calls Try.prog 26 #[.agg #[.int .i64 k, .int .i64 lo, .int .i64 hi, .int .i64 st, .int .i64 it, .int .i64 sg], .int .i64 ix, .int .i64 n] w fun e w' => e = .returned (.int .i64 (if 0 < wayI lo ix st % wideI st ∨ n ≤ wayI lo ix st / wideI st then -1 else wayI lo ix st / wideI st)) ∧ Below w.heap.size w w') := HF.out n s.2.2.2.1 hn
      rw [show findI k lo hi st it sg ix j = (if 0 < wayI lo ix st % wideI st ∨ n ≤ wayI lo ix st / wideI st then -1 else wayI lo ix st / wideI st) by unfold findI; rw [if_neg (by rw [hc, hsg]; simp; omega), if_neg h4, hc]]
      clear b0 b1 b2 b3 hc HP HF hsg s
      generalize (if 0 < wayI lo ix st % wideI st ∨ n ≤ wayI lo ix st / wideI st then -1 else wayI lo ix st / wideI st) = F at *
      go_enter Try.func14, Try.ntmps14
      go_wp2_with fail
      refine (HC.out _).mono ?_
      rintro e w4 ⟨rfl, b4⟩
      have B4 : Hid (Below w.heap.size w w4) := (bl1 w _).trans (b4.mono (bl1 w _).size)
      have H4 : Hid (SH w4 w.heap.size k lo hi st it sg) := HX.out w4 (by simpa using b4)
      obtain ⟨c0, c1, c2, c3, c4, c5⟩ := H4.out.all
      clear b4
      go_wp2_with fail
      refine (HS.out _).mono ?_
      rintro e w5 ⟨rfl, b5⟩
      have B5 : Hid (Below w.heap.size w w5) := B4.out.trans (b5.mono B4.out.size)
      obtain ⟨d0, d1, d2, d3, d4, d5⟩ := (H4.out.below b5).all
      clear b5 c0 c1 c2 c3 c4 c5
      go_wp2_with fail
      refine (HF'.out _).mono ?_
      rintro e w6 ⟨rfl, b6⟩
      have B6 : Hid (Below w.heap.size w w6) := B5.out.trans (b6.mono B5.out.size)
      clear b6
      go_wp2
      go_ret
      exact ⟨rfl, B6.out⟩
  · rw [show findI k lo hi st it sg ix j = -1 by unfold findI; rw [if_pos (.inl (by rw [hc]; exact h1))]]
    clear b0 b1 b2 b3 hc hn HP HF hsg
    go_enter Try.func14, Try.ntmps14
    go_wp2_with fail
    refine (HC.out _).mono ?_
    rintro e w4 ⟨rfl, b4⟩
    have B4 : Hid (Below w.heap.size w w4) := (bl1 w _).trans (b4.mono (bl1 w _).size)
    clear b4
    go_wp2
    go_ret
    exact ⟨rfl, B4.out⟩
end Go.Proofs.Ytamlnagipmomgaa
