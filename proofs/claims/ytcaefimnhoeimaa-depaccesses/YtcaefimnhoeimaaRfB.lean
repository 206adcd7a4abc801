/- The document's join. -/
import Derived.Test.YtcaefimnhoeimaaRfA
namespace Go.Proofs.Ytcaefimnhoeimaa
open Go.RowKit
set_option linter.unusedVariables false
set_option linter.unusedSimpArgs false

/-- what the document's join answers -/
def joinF (op : Int) (f g : Fm) : Fm := if f.k = false then fz else if g.k = false then fz else if f.a = 0 ∧ g.a = 0 then (if (twoR op f.c g.c).2 = true then keptF 0 (twoR op f.c g.c).1 else fz) else
  if op = 1 then keptF (f.a + g.a) (f.c + g.c) else if op = 2 then keptF (f.a - g.a) (f.c - g.c) else if op = 3 ∧ (f.a = 0 ∨ g.a = 0) ∧ farB f.c 1073741824 = false ∧ farB g.c 1073741824 = false then
    (if f.a = 0 then keptF (g.a * f.c) (g.c * f.c) else keptF (f.a * g.c) (f.c * g.c)) else fz
theorem join_is (op : Int) (f g : Fm) (h : (twoR op f.c g.c).2 = true ∨ ¬ (f.a = 0 ∧ g.a = 0)) : joinF op f g = twoF op f g := by
  obtain ⟨fk, fa, fc⟩ := f
  obtain ⟨gk, ga, gc⟩ := g
  unfold joinF twoF isNumB numF
  simp only at h ⊢
  cases fk
  · simp
  cases gk
  · simp
  by_cases h0 : fa = 0 ∧ ga = 0
  · obtain ⟨rfl, rfl⟩ := h0
    rcases h with h | h
    · simp [h]
    · simp at h
  · have hn : ¬ (((true && (fa == 0)) = true) ∧ ((true && (ga == 0)) = true)) := by simpa using h0
    simp only [reduceCtorEq, ↓reduceIte]
    rw [if_neg h0, if_neg hn]
    by_cases o1 : op = 1
    · rw [if_pos o1, if_pos o1]
    by_cases o2 : op = 2
    · rw [if_neg o1, if_neg o1, if_pos o2, if_pos o2]
    rw [if_neg o1, if_neg o1, if_neg o2, if_neg o2]
    by_cases o3 : op = 3
    · subst o3
      rw [if_pos rfl]
      unfold productF prodF
      by_cases f0 : fa = 0
      · have g0 : ¬ ga = 0 := fun e => h0 ⟨f0, e⟩
        cases h1 : farB fc 1073741824 <;> cases h2 : farB gc 1073741824 <;> simp [f0, h1, h2]
      · by_cases g0 : ga = 0
        · cases h1 : farB fc 1073741824 <;> cases h2 : farB gc 1073741824 <;> simp [f0, g0, h1, h2]
        · simp [f0, g0]
    · simp [o3]
set_option maxRecDepth 100000 in
set_option maxHeartbeats 4000000 in
theorem rjoin_num (op : Int) (fa fc ga gc : Int) (hf : OkF ⟨true, fa, fc⟩) (hg : OkF ⟨true, ga, gc⟩) (h0 : fa = 0) (h1 : ga = 0) (hy : (twoR op fc gc).2 = true) (w : World) : Calls Try.prog 16 #[.int .i64 op, .agg #[.bool true, .int .i64 fa, .int .i64 fc], .agg #[.bool true, .int .i64 ga, .int .i64 gc]] w (FP (keptF 0 (twoR op fc gc).1) w) := by
  have H2 : Hid (∀ w, Calls Try.prog 31 #[.int .i64 op, .int .i64 fc, .int .i64 gc] w fun e w' => e = .returned (.tuple #[.int .i64 (twoR op fc gc).1, .bool (twoR op fc gc).2]) ∧ w' = w) := (twoR_is op fc gc (by have := hf.2; simp only at this; unfold R64; omega) (by have := hg.2; simp only at this; unfold R64; omega)).1.2
  obtain ⟨⟨b1, b2⟩, ⟨b3, b4⟩⟩ := id hf
  obtain ⟨⟨b5, b6⟩, ⟨b7, b8⟩⟩ := id hg
  simp only at b1 b2 b3 b4 b5 b6 b7 b8
  have HK : Hid (∀ w, Calls Try.prog 14 #[.int .i64 (0), .int .i64 ((twoR op fc gc).1)] w (FP (keptF 0 (twoR op fc gc).1) w)) := fun w => rkept_any _ _ w
  generalize hx : keptF 0 (twoR op fc gc).1 = r at HK ⊢
  generalize (twoR op fc gc).1 = x at *
  generalize (twoR op fc gc).2 = y at *
  clear hx
  obtain ⟨rk, ra, rc⟩ := r
  clear hf hg
  have f0 : (fa == 0) = true := (by simpa using h0); have f1 : (ga == 0) = true := (by simpa using h1); subst hy; clear h0 h1
  go_enter Try.func16, Try.ntmps16
  go_wp2_with fail
  refine (H2.out _).mono ?_
  rintro e w4 ⟨rfl, hw4⟩; rw [hw4]; clear hw4 w4
  go_wp2_with fail
  refine (HK.out _).mono ?_
  rintro e w9 ⟨rfl, hb⟩
  have HX : Hid (w9.heap[w.heap.size + 2]? = some (.cells #[.bool false, .int .i64 0, .int .i64 0] 33)) := (hb.block _ (by simp)).trans (three_new w _ _ _)
  have HB : Hid (Below w.heap.size w w9) := (bl3 w _ _ _).trans (hb.mono (by simp; omega))
  clear hb
  obtain ⟨d0, d1, d2, g0⟩ := all3 HX.out
  unfold fv
  go_wp2_with fail
  refine bodyPost_ret (ret_f33 Try.results16 _ (w.heap.size + 2) rfl _ _ _ _ (put3 HX.out _ _ _)) rfl ?_
  exact ⟨rfl, put3_below HB.out (by omega) _ _ _⟩
set_option maxRecDepth 100000 in
set_option maxHeartbeats 4000000 in
theorem rjoin_nok (op : Int) (fa fc ga gc : Int) (hf : OkF ⟨true, fa, fc⟩) (hg : OkF ⟨true, ga, gc⟩) (h0 : fa = 0) (h1 : ga = 0) (hy : (twoR op fc gc).2 = false) (w : World) : Calls Try.prog 16 #[.int .i64 op, .agg #[.bool true, .int .i64 fa, .int .i64 fc], .agg #[.bool true, .int .i64 ga, .int .i64 gc]] w (FP (fz) w) := by
  have H2 : Hid (∀ w, Calls Try.prog 31 #[.int .i64 op, .int .i64 fc, .int .i64 gc] w fun e w' => e = .returned (.tuple #[.int .i64 (twoR op fc gc).1, .bool (twoR op fc gc).2]) ∧ w' = w) := (twoR_is op fc gc (by have := hf.2; simp only at this; unfold R64; omega) (by have := hg.2; simp only at this; unfold R64; omega)).1.2
  obtain ⟨⟨b1, b2⟩, ⟨b3, b4⟩⟩ := id hf
  obtain ⟨⟨b5, b6⟩, ⟨b7, b8⟩⟩ := id hg
  simp only at b1 b2 b3 b4 b5 b6 b7 b8
  generalize (twoR op fc gc).1 = x at *
  generalize (twoR op fc gc).2 = y at *
  clear hf hg
  have f0 : (fa == 0) = true := (by simpa using h0); have f1 : (ga == 0) = true := (by simpa using h1); subst hy; clear h0 h1
  go_enter Try.func16, Try.ntmps16
  go_wp2_with fail
  refine (H2.out _).mono ?_
  rintro e w4 ⟨rfl, hw4⟩; rw [hw4]; clear hw4 w4
  go_wp2_with fail
  refine bodyPost_ret (ret_f33 Try.results16 _ (w.heap.size + 2) rfl _ _ _ _ (three_new w _ _ _)) rfl ?_
  exact ⟨rfl, bl3 _ _ _ _⟩
set_option maxRecDepth 100000 in
set_option maxHeartbeats 4000000 in
theorem rjoin_adda (op : Int) (fa fc ga gc : Int) (hf : OkF ⟨true, fa, fc⟩) (hg : OkF ⟨true, ga, gc⟩) (h0 : ¬ fa = 0) (ho : op = 1) (w : World) : Calls Try.prog 16 #[.int .i64 op, .agg #[.bool true, .int .i64 fa, .int .i64 fc], .agg #[.bool true, .int .i64 ga, .int .i64 gc]] w (FP (keptF (fa + ga) (fc + gc)) w) := by
  have H2 : Hid (∀ w, Calls Try.prog 31 #[.int .i64 op, .int .i64 fc, .int .i64 gc] w fun e w' => e = .returned (.tuple #[.int .i64 (twoR op fc gc).1, .bool (twoR op fc gc).2]) ∧ w' = w) := (twoR_is op fc gc (by have := hf.2; simp only at this; unfold R64; omega) (by have := hg.2; simp only at this; unfold R64; omega)).1.2
  obtain ⟨⟨b1, b2⟩, ⟨b3, b4⟩⟩ := id hf
  obtain ⟨⟨b5, b6⟩, ⟨b7, b8⟩⟩ := id hg
  simp only at b1 b2 b3 b4 b5 b6 b7 b8
  have f0 : (fa == 0) = false := by simpa using h0
  have n1 : wrap64 (fa + ga) = fa + ga := wrap_in (by omega) (by omega)
  have n2 : wrap64 (fc + gc) = fc + gc := wrap_in (by omega) (by omega)
  have HK : Hid (∀ w, Calls Try.prog 14 #[.int .i64 (fa + ga), .int .i64 (fc + gc)] w (FP (keptF (fa + ga) (fc + gc)) w)) := fun w => rkept_any _ _ w
  generalize hx : keptF (fa + ga) (fc + gc) = r at HK ⊢
  generalize (twoR op fc gc).1 = x at *
  generalize (twoR op fc gc).2 = y at *
  clear hx
  obtain ⟨rk, ra, rc⟩ := r
  clear hf hg
  subst ho; clear h0
  go_enter Try.func16, Try.ntmps16
  go_wp2_with fail
  refine (H2.out _).mono ?_
  rintro e w4 ⟨rfl, hw4⟩; rw [hw4]; clear hw4 w4
  go_wp2_with fail
  refine (HK.out _).mono ?_
  rintro e w9 ⟨rfl, hb⟩
  have HX : Hid (w9.heap[w.heap.size + 2]? = some (.cells #[.bool false, .int .i64 0, .int .i64 0] 33)) := (hb.block _ (by simp)).trans (three_new w _ _ _)
  have HB : Hid (Below w.heap.size w w9) := (bl3 w _ _ _).trans (hb.mono (by simp; omega))
  clear hb
  obtain ⟨d0, d1, d2, g0⟩ := all3 HX.out
  unfold fv
  go_wp2_with fail
  refine bodyPost_ret (ret_f33 Try.results16 _ (w.heap.size + 2) rfl _ _ _ _ (put3 HX.out _ _ _)) rfl ?_
  exact ⟨rfl, put3_below HB.out (by omega) _ _ _⟩
set_option maxRecDepth 100000 in
set_option maxHeartbeats 4000000 in
theorem rjoin_addb (op : Int) (fa fc ga gc : Int) (hf : OkF ⟨true, fa, fc⟩) (hg : OkF ⟨true, ga, gc⟩) (h0 : fa = 0) (h1 : ¬ ga = 0) (ho : op = 1) (w : World) : Calls Try.prog 16 #[.int .i64 op, .agg #[.bool true, .int .i64 fa, .int .i64 fc], .agg #[.bool true, .int .i64 ga, .int .i64 gc]] w (FP (keptF (fa + ga) (fc + gc)) w) := by
  have H2 : Hid (∀ w, Calls Try.prog 31 #[.int .i64 op, .int .i64 fc, .int .i64 gc] w fun e w' => e = .returned (.tuple #[.int .i64 (twoR op fc gc).1, .bool (twoR op fc gc).2]) ∧ w' = w) := (twoR_is op fc gc (by have := hf.2; simp only at this; unfold R64; omega) (by have := hg.2; simp only at this; unfold R64; omega)).1.2
  obtain ⟨⟨b1, b2⟩, ⟨b3, b4⟩⟩ := id hf
  obtain ⟨⟨b5, b6⟩, ⟨b7, b8⟩⟩ := id hg
  simp only at b1 b2 b3 b4 b5 b6 b7 b8
  have f0 : (ga == 0) = false := by simpa using h1
  have f1 : (fa == 0) = true := by simpa using h0
  have n1 : wrap64 (fa + ga) = fa + ga := wrap_in (by omega) (by omega)
  have n2 : wrap64 (fc + gc) = fc + gc := wrap_in (by omega) (by omega)
  have HK : Hid (∀ w, Calls Try.prog 14 #[.int .i64 (fa + ga), .int .i64 (fc + gc)] w (FP (keptF (fa + ga) (fc + gc)) w)) := fun w => rkept_any _ _ w
  generalize hx : keptF (fa + ga) (fc + gc) = r at HK ⊢
  generalize (twoR op fc gc).1 = x at *
  generalize (twoR op fc gc).2 = y at *
  clear hx
  obtain ⟨rk, ra, rc⟩ := r
  clear hf hg
  subst ho; clear h0 h1
  go_enter Try.func16, Try.ntmps16
  go_wp2_with fail
  refine (H2.out _).mono ?_
  rintro e w4 ⟨rfl, hw4⟩; rw [hw4]; clear hw4 w4
  go_wp2_with fail
  refine (HK.out _).mono ?_
  rintro e w9 ⟨rfl, hb⟩
  have HX : Hid (w9.heap[w.heap.size + 2]? = some (.cells #[.bool false, .int .i64 0, .int .i64 0] 33)) := (hb.block _ (by simp)).trans (three_new w _ _ _)
  have HB : Hid (Below w.heap.size w w9) := (bl3 w _ _ _).trans (hb.mono (by simp; omega))
  clear hb
  obtain ⟨d0, d1, d2, g0⟩ := all3 HX.out
  unfold fv
  go_wp2_with fail
  refine bodyPost_ret (ret_f33 Try.results16 _ (w.heap.size + 2) rfl _ _ _ _ (put3 HX.out _ _ _)) rfl ?_
  exact ⟨rfl, put3_below HB.out (by omega) _ _ _⟩
set_option maxRecDepth 100000 in
set_option maxHeartbeats 4000000 in
theorem rjoin_suba (op : Int) (fa fc ga gc : Int) (hf : OkF ⟨true, fa, fc⟩) (hg : OkF ⟨true, ga, gc⟩) (h0 : ¬ fa = 0) (ho : op = 2) (w : World) : Calls Try.prog 16 #[.int .i64 op, .agg #[.bool true, .int .i64 fa, .int .i64 fc], .agg #[.bool true, .int .i64 ga, .int .i64 gc]] w (FP (keptF (fa - ga) (fc - gc)) w) := by
  have H2 : Hid (∀ w, Calls Try.prog 31 #[.int .i64 op, .int .i64 fc, .int .i64 gc] w fun e w' => e = .returned (.tuple #[.int .i64 (twoR op fc gc).1, .bool (twoR op fc gc).2]) ∧ w' = w) := (twoR_is op fc gc (by have := hf.2; simp only at this; unfold R64; omega) (by have := hg.2; simp only at this; unfold R64; omega)).1.2
  obtain ⟨⟨b1, b2⟩, ⟨b3, b4⟩⟩ := id hf
  obtain ⟨⟨b5, b6⟩, ⟨b7, b8⟩⟩ := id hg
  simp only at b1 b2 b3 b4 b5 b6 b7 b8
  have f0 : (fa == 0) = false := by simpa using h0
  have n1 : wrap64 (fa - ga) = fa - ga := wrap_in (by omega) (by omega)
  have n2 : wrap64 (fc - gc) = fc - gc := wrap_in (by omega) (by omega)
  have HK : Hid (∀ w, Calls Try.prog 14 #[.int .i64 (fa - ga), .int .i64 (fc - gc)] w (FP (keptF (fa - ga) (fc - gc)) w)) := fun w => rkept_any _ _ w
  generalize hx : keptF (fa - ga) (fc - gc) = r at HK ⊢
  generalize (twoR op fc gc).1 = x at *
  generalize (twoR op fc gc).2 = y at *
  clear hx
  obtain ⟨rk, ra, rc⟩ := r
  clear hf hg
  subst ho; clear h0
  go_enter Try.func16, Try.ntmps16
  go_wp2_with fail
  refine (H2.out _).mono ?_
  rintro e w4 ⟨rfl, hw4⟩; rw [hw4]; clear hw4 w4
  go_wp2_with fail
  refine (HK.out _).mono ?_
  rintro e w9 ⟨rfl, hb⟩
  have HX : Hid (w9.heap[w.heap.size + 2]? = some (.cells #[.bool false, .int .i64 0, .int .i64 0] 33)) := (hb.block _ (by simp)).trans (three_new w _ _ _)
  have HB : Hid (Below w.heap.size w w9) := (bl3 w _ _ _).trans (hb.mono (by simp; omega))
  clear hb
  obtain ⟨d0, d1, d2, g0⟩ := all3 HX.out
  unfold fv
  go_wp2_with fail
  refine bodyPost_ret (ret_f33 Try.results16 _ (w.heap.size + 2) rfl _ _ _ _ (put3 HX.out _ _ _)) rfl ?_
  exact ⟨rfl, put3_below HB.out (by omega) _ _ _⟩
set_option maxRecDepth 100000 in
set_option maxHeartbeats 4000000 in
theorem rjoin_subb (op : Int) (fa fc ga gc : Int) (hf : OkF ⟨true, fa, fc⟩) (hg : OkF ⟨true, ga, gc⟩) (h0 : fa = 0) (h1 : ¬ ga = 0) (ho : op = 2) (w : World) : Calls Try.prog 16 #[.int .i64 op, .agg #[.bool true, .int .i64 fa, .int .i64 fc], .agg #[.bool true, .int .i64 ga, .int .i64 gc]] w (FP (keptF (fa - ga) (fc - gc)) w) := by
  have H2 : Hid (∀ w, Calls Try.prog 31 #[.int .i64 op, .int .i64 fc, .int .i64 gc] w fun e w' => e = .returned (.tuple #[.int .i64 (twoR op fc gc).1, .bool (twoR op fc gc).2]) ∧ w' = w) := (twoR_is op fc gc (by have := hf.2; simp only at this; unfold R64; omega) (by have := hg.2; simp only at this; unfold R64; omega)).1.2
  obtain ⟨⟨b1, b2⟩, ⟨b3, b4⟩⟩ := id hf
  obtain ⟨⟨b5, b6⟩, ⟨b7, b8⟩⟩ := id hg
  simp only at b1 b2 b3 b4 b5 b6 b7 b8
  have f0 : (ga == 0) = false := by simpa using h1
  have f1 : (fa == 0) = true := by simpa using h0
  have n1 : wrap64 (fa - ga) = fa - ga := wrap_in (by omega) (by omega)
  have n2 : wrap64 (fc - gc) = fc - gc := wrap_in (by omega) (by omega)
  have HK : Hid (∀ w, Calls Try.prog 14 #[.int .i64 (fa - ga), .int .i64 (fc - gc)] w (FP (keptF (fa - ga) (fc - gc)) w)) := fun w => rkept_any _ _ w
  generalize hx : keptF (fa - ga) (fc - gc) = r at HK ⊢
  generalize (twoR op fc gc).1 = x at *
  generalize (twoR op fc gc).2 = y at *
  clear hx
  obtain ⟨rk, ra, rc⟩ := r
  clear hf hg
  subst ho; clear h0 h1
  go_enter Try.func16, Try.ntmps16
  go_wp2_with fail
  refine (H2.out _).mono ?_
  rintro e w4 ⟨rfl, hw4⟩; rw [hw4]; clear hw4 w4
  go_wp2_with fail
  refine (HK.out _).mono ?_
  rintro e w9 ⟨rfl, hb⟩
  have HX : Hid (w9.heap[w.heap.size + 2]? = some (.cells #[.bool false, .int .i64 0, .int .i64 0] 33)) := (hb.block _ (by simp)).trans (three_new w _ _ _)
  have HB : Hid (Below w.heap.size w w9) := (bl3 w _ _ _).trans (hb.mono (by simp; omega))
  clear hb
  obtain ⟨d0, d1, d2, g0⟩ := all3 HX.out
  unfold fv
  go_wp2_with fail
  refine bodyPost_ret (ret_f33 Try.results16 _ (w.heap.size + 2) rfl _ _ _ _ (put3 HX.out _ _ _)) rfl ?_
  exact ⟨rfl, put3_below HB.out (by omega) _ _ _⟩
set_option maxRecDepth 100000 in
set_option maxHeartbeats 4000000 in
theorem rjoin_otha (op : Int) (fa fc ga gc : Int) (hf : OkF ⟨true, fa, fc⟩) (hg : OkF ⟨true, ga, gc⟩) (h0 : ¬ fa = 0) (ho1 : ¬ op = 1) (ho2 : ¬ op = 2) (ho3 : ¬ op = 3) (w : World) : Calls Try.prog 16 #[.int .i64 op, .agg #[.bool true, .int .i64 fa, .int .i64 fc], .agg #[.bool true, .int .i64 ga, .int .i64 gc]] w (FP (fz) w) := by
  have H2 : Hid (∀ w, Calls Try.prog 31 #[.int .i64 op, .int .i64 fc, .int .i64 gc] w fun e w' => e = .returned (.tuple #[.int .i64 (twoR op fc gc).1, .bool (twoR op fc gc).2]) ∧ w' = w) := (twoR_is op fc gc (by have := hf.2; simp only at this; unfold R64; omega) (by have := hg.2; simp only at this; unfold R64; omega)).1.2
  obtain ⟨⟨b1, b2⟩, ⟨b3, b4⟩⟩ := id hf
  obtain ⟨⟨b5, b6⟩, ⟨b7, b8⟩⟩ := id hg
  simp only at b1 b2 b3 b4 b5 b6 b7 b8
  have f0 : (fa == 0) = false := by simpa using h0
  have o1 : (op == 1) = false := by simpa using ho1
  have o2 : (op == 2) = false := by simpa using ho2
  have o3 : (op == 3) = false := by simpa using ho3
  generalize (twoR op fc gc).1 = x at *
  generalize (twoR op fc gc).2 = y at *
  clear hf hg
  clear h0
  go_enter Try.func16, Try.ntmps16
  go_wp2_with fail
  refine (H2.out _).mono ?_
  rintro e w4 ⟨rfl, hw4⟩; rw [hw4]; clear hw4 w4
  go_wp2_with fail
  refine bodyPost_ret (ret_f33 Try.results16 _ (w.heap.size + 2) rfl _ _ _ _ (three_new w _ _ _)) rfl ?_
  exact ⟨rfl, bl3 _ _ _ _⟩
set_option maxRecDepth 100000 in
set_option maxHeartbeats 4000000 in
theorem rjoin_othb (op : Int) (fa fc ga gc : Int) (hf : OkF ⟨true, fa, fc⟩) (hg : OkF ⟨true, ga, gc⟩) (h0 : fa = 0) (h1 : ¬ ga = 0) (ho1 : ¬ op = 1) (ho2 : ¬ op = 2) (ho3 : ¬ op = 3) (w : World) : Calls Try.prog 16 #[.int .i64 op, .agg #[.bool true, .int .i64 fa, .int .i64 fc], .agg #[.bool true, .int .i64 ga, .int .i64 gc]] w (FP (fz) w) := by
  have H2 : Hid (∀ w, Calls Try.prog 31 #[.int .i64 op, .int .i64 fc, .int .i64 gc] w fun e w' => e = .returned (.tuple #[.int .i64 (twoR op fc gc).1, .bool (twoR op fc gc).2]) ∧ w' = w) := (twoR_is op fc gc (by have := hf.2; simp only at this; unfold R64; omega) (by have := hg.2; simp only at this; unfold R64; omega)).1.2
  obtain ⟨⟨b1, b2⟩, ⟨b3, b4⟩⟩ := id hf
  obtain ⟨⟨b5, b6⟩, ⟨b7, b8⟩⟩ := id hg
  simp only at b1 b2 b3 b4 b5 b6 b7 b8
  have f0 : (ga == 0) = false := by simpa using h1
  have f1 : (fa == 0) = true := by simpa using h0
  have o1 : (op == 1) = false := by simpa using ho1
  have o2 : (op == 2) = false := by simpa using ho2
  have o3 : (op == 3) = false := by simpa using ho3
  generalize (twoR op fc gc).1 = x at *
  generalize (twoR op fc gc).2 = y at *
  clear hf hg
  clear h0 h1
  go_enter Try.func16, Try.ntmps16
  go_wp2_with fail
  refine (H2.out _).mono ?_
  rintro e w4 ⟨rfl, hw4⟩; rw [hw4]; clear hw4 w4
  go_wp2_with fail
  refine bodyPost_ret (ret_f33 Try.results16 _ (w.heap.size + 2) rfl _ _ _ _ (three_new w _ _ _)) rfl ?_
  exact ⟨rfl, bl3 _ _ _ _⟩
set_option maxRecDepth 100000 in
set_option maxHeartbeats 4000000 in
theorem rjoin_mulz (op : Int) (fa fc ga gc : Int) (hf : OkF ⟨true, fa, fc⟩) (hg : OkF ⟨true, ga, gc⟩) (ho : op = 3) (h0 : ¬ fa = 0) (h1 : ¬ ga = 0) (w : World) : Calls Try.prog 16 #[.int .i64 op, .agg #[.bool true, .int .i64 fa, .int .i64 fc], .agg #[.bool true, .int .i64 ga, .int .i64 gc]] w (FP (fz) w) := by
  have H2 : Hid (∀ w, Calls Try.prog 31 #[.int .i64 op, .int .i64 fc, .int .i64 gc] w fun e w' => e = .returned (.tuple #[.int .i64 (twoR op fc gc).1, .bool (twoR op fc gc).2]) ∧ w' = w) := (twoR_is op fc gc (by have := hf.2; simp only at this; unfold R64; omega) (by have := hg.2; simp only at this; unfold R64; omega)).1.2
  obtain ⟨⟨b1, b2⟩, ⟨b3, b4⟩⟩ := id hf
  obtain ⟨⟨b5, b6⟩, ⟨b7, b8⟩⟩ := id hg
  simp only at b1 b2 b3 b4 b5 b6 b7 b8
  have f0 : (fa == 0) = false := by simpa using h0
  have f1 : (ga == 0) = false := by simpa using h1
  generalize (twoR op fc gc).1 = x at *
  generalize (twoR op fc gc).2 = y at *
  clear hf hg
  subst ho; clear h0 h1
  go_enter Try.func16, Try.ntmps16
  go_wp2_with fail
  refine (H2.out _).mono ?_
  rintro e w4 ⟨rfl, hw4⟩; rw [hw4]; clear hw4 w4
  go_wp2_with fail
  refine bodyPost_ret (ret_f33 Try.results16 _ (w.heap.size + 2) rfl _ _ _ _ (three_new w _ _ _)) rfl ?_
  exact ⟨rfl, bl3 _ _ _ _⟩
set_option maxRecDepth 100000 in
set_option maxHeartbeats 4000000 in
theorem rjoin_mulfa (op : Int) (fa fc ga gc : Int) (hf : OkF ⟨true, fa, fc⟩) (hg : OkF ⟨true, ga, gc⟩) (ho : op = 3) (h0 : ¬ fa = 0) (h1 : ga = 0) (hx1 : farB fc 1073741824 = true) (w : World) : Calls Try.prog 16 #[.int .i64 op, .agg #[.bool true, .int .i64 fa, .int .i64 fc], .agg #[.bool true, .int .i64 ga, .int .i64 gc]] w (FP (fz) w) := by
  have H2 : Hid (∀ w, Calls Try.prog 31 #[.int .i64 op, .int .i64 fc, .int .i64 gc] w fun e w' => e = .returned (.tuple #[.int .i64 (twoR op fc gc).1, .bool (twoR op fc gc).2]) ∧ w' = w) := (twoR_is op fc gc (by have := hf.2; simp only at this; unfold R64; omega) (by have := hg.2; simp only at this; unfold R64; omega)).1.2
  obtain ⟨⟨b1, b2⟩, ⟨b3, b4⟩⟩ := id hf
  obtain ⟨⟨b5, b6⟩, ⟨b7, b8⟩⟩ := id hg
  simp only at b1 b2 b3 b4 b5 b6 b7 b8
  have f0 : (fa == 0) = false := (by simpa using h0); have f1 : (ga == 0) = true := by simpa using h1
  have HF : Hid (farB fc 1073741824 = true) := hx1
  clear hx1
  generalize (twoR op fc gc).1 = x at *
  generalize (twoR op fc gc).2 = y at *
  clear hf hg
  subst ho; clear h0 h1
  go_enter Try.func16, Try.ntmps16
  go_wp2_with fail
  refine (H2.out _).mono ?_
  rintro e w4 ⟨rfl, hw4⟩; rw [hw4]; clear hw4 w4
  go_wp2_with fail
  refine (far_any _ _ (by omega) (by omega) _).mono ?_; rintro e w4 ⟨rfl, hw4⟩; rw [hw4, HF.out]; clear hw4 w4
  go_wp2_with fail
  refine bodyPost_ret (ret_f33 Try.results16 _ (w.heap.size + 2) rfl _ _ _ _ (three_new w _ _ _)) rfl ?_
  exact ⟨rfl, bl3 _ _ _ _⟩
set_option maxRecDepth 100000 in
set_option maxHeartbeats 4000000 in
theorem rjoin_mulga (op : Int) (fa fc ga gc : Int) (hf : OkF ⟨true, fa, fc⟩) (hg : OkF ⟨true, ga, gc⟩) (ho : op = 3) (h0 : ¬ fa = 0) (h1 : ga = 0) (hx1 : farB fc 1073741824 = false) (hx2 : farB gc 1073741824 = true) (w : World) : Calls Try.prog 16 #[.int .i64 op, .agg #[.bool true, .int .i64 fa, .int .i64 fc], .agg #[.bool true, .int .i64 ga, .int .i64 gc]] w (FP (fz) w) := by
  have H2 : Hid (∀ w, Calls Try.prog 31 #[.int .i64 op, .int .i64 fc, .int .i64 gc] w fun e w' => e = .returned (.tuple #[.int .i64 (twoR op fc gc).1, .bool (twoR op fc gc).2]) ∧ w' = w) := (twoR_is op fc gc (by have := hf.2; simp only at this; unfold R64; omega) (by have := hg.2; simp only at this; unfold R64; omega)).1.2
  obtain ⟨⟨b1, b2⟩, ⟨b3, b4⟩⟩ := id hf
  obtain ⟨⟨b5, b6⟩, ⟨b7, b8⟩⟩ := id hg
  simp only at b1 b2 b3 b4 b5 b6 b7 b8
  have f0 : (fa == 0) = false := (by simpa using h0); have f1 : (ga == 0) = true := by simpa using h1
  have HF : Hid (farB fc 1073741824 = false) := hx1
  have HG : Hid (farB gc 1073741824 = true) := hx2
  clear hx1 hx2
  generalize (twoR op fc gc).1 = x at *
  generalize (twoR op fc gc).2 = y at *
  clear hf hg
  subst ho; clear h0 h1
  go_enter Try.func16, Try.ntmps16
  go_wp2_with fail
  refine (H2.out _).mono ?_
  rintro e w4 ⟨rfl, hw4⟩; rw [hw4]; clear hw4 w4
  go_wp2_with fail
  refine (far_any _ _ (by omega) (by omega) _).mono ?_; rintro e w4 ⟨rfl, hw4⟩; rw [hw4, HF.out]; clear hw4 w4
  go_wp2_with fail
  refine (far_any _ _ (by omega) (by omega) _).mono ?_; rintro e w4 ⟨rfl, hw4⟩; rw [hw4, HG.out]; clear hw4 w4
  go_wp2_with fail
  refine bodyPost_ret (ret_f33 Try.results16 _ (w.heap.size + 2) rfl _ _ _ _ (three_new w _ _ _)) rfl ?_
  exact ⟨rfl, bl3 _ _ _ _⟩
set_option maxRecDepth 100000 in
set_option maxHeartbeats 4000000 in
theorem rjoin_mulka (op : Int) (fa fc ga gc : Int) (hf : OkF ⟨true, fa, fc⟩) (hg : OkF ⟨true, ga, gc⟩) (ho : op = 3) (h0 : ¬ fa = 0) (h1 : ga = 0) (hx1 : farB fc 1073741824 = false) (hx2 : farB gc 1073741824 = false) (w : World) : Calls Try.prog 16 #[.int .i64 op, .agg #[.bool true, .int .i64 fa, .int .i64 fc], .agg #[.bool true, .int .i64 ga, .int .i64 gc]] w (FP (keptF (fa * gc) (fc * gc)) w) := by
  have H2 : Hid (∀ w, Calls Try.prog 31 #[.int .i64 op, .int .i64 fc, .int .i64 gc] w fun e w' => e = .returned (.tuple #[.int .i64 (twoR op fc gc).1, .bool (twoR op fc gc).2]) ∧ w' = w) := (twoR_is op fc gc (by have := hf.2; simp only at this; unfold R64; omega) (by have := hg.2; simp only at this; unfold R64; omega)).1.2
  obtain ⟨⟨b1, b2⟩, ⟨b3, b4⟩⟩ := id hf
  obtain ⟨⟨b5, b6⟩, ⟨b7, b8⟩⟩ := id hg
  simp only at b1 b2 b3 b4 b5 b6 b7 b8
  have f0 : (fa == 0) = false := (by simpa using h0); have f1 : (ga == 0) = true := by simpa using h1
  have HF : Hid (farB fc 1073741824 = false) := hx1
  have HG : Hid (farB gc 1073741824 = false) := hx2
  have c1 : -1073741824 ≤ fc ∧ fc ≤ 1073741824 := by unfold farB at hx1; simp at hx1; omega
  have c2 : -1073741824 ≤ gc ∧ gc ≤ 1073741824 := by unfold farB at hx2; simp at hx2; omega
  clear hx1 hx2
  have q1 : -(1073741824 * 1073741824) ≤ fa * gc ∧ fa * gc ≤ 1073741824 * 1073741824 := mul_bd (by omega) (by omega) (by omega) (by omega)
  have q2 : -(1073741824 * 1073741824) ≤ fc * gc ∧ fc * gc ≤ 1073741824 * 1073741824 := mul_bd (by omega) (by omega) (by omega) (by omega)
  have n1 : wrap64 (fa * gc) = fa * gc := wrap_in (by omega) (by omega)
  have n2 : wrap64 (fc * gc) = fc * gc := wrap_in (by omega) (by omega)
  clear q1 q2
  have HK : Hid (∀ w, Calls Try.prog 14 #[.int .i64 (fa * gc), .int .i64 (fc * gc)] w (FP (keptF (fa * gc) (fc * gc)) w)) := fun w => rkept_any _ _ w
  generalize hx : keptF (fa * gc) (fc * gc) = r at HK ⊢
  generalize (twoR op fc gc).1 = x at *
  generalize (twoR op fc gc).2 = y at *
  clear hx
  obtain ⟨rk, ra, rc⟩ := r
  clear hf hg
  subst ho; clear h0 h1
  go_enter Try.func16, Try.ntmps16
  go_wp2_with fail
  refine (H2.out _).mono ?_
  rintro e w4 ⟨rfl, hw4⟩; rw [hw4]; clear hw4 w4
  go_wp2_with fail
  refine (far_any _ _ (by omega) (by omega) _).mono ?_; rintro e w4 ⟨rfl, hw4⟩; rw [hw4, HF.out]; clear hw4 w4
  go_wp2_with fail
  refine (far_any _ _ (by omega) (by omega) _).mono ?_; rintro e w4 ⟨rfl, hw4⟩; rw [hw4, HG.out]; clear hw4 w4
  go_wp2_with fail
  refine (HK.out _).mono ?_
  rintro e w9 ⟨rfl, hb⟩
  have HX : Hid (w9.heap[w.heap.size + 2]? = some (.cells #[.bool false, .int .i64 0, .int .i64 0] 33)) := (hb.block _ (by simp)).trans (three_new w _ _ _)
  have HB : Hid (Below w.heap.size w w9) := (bl3 w _ _ _).trans (hb.mono (by simp; omega))
  clear hb
  obtain ⟨d0, d1, d2, g0⟩ := all3 HX.out
  unfold fv
  go_wp2_with fail
  refine bodyPost_ret (ret_f33 Try.results16 _ (w.heap.size + 2) rfl _ _ _ _ (put3 HX.out _ _ _)) rfl ?_
  exact ⟨rfl, put3_below HB.out (by omega) _ _ _⟩
set_option maxRecDepth 100000 in
set_option maxHeartbeats 4000000 in
theorem rjoin_mulfb (op : Int) (fa fc ga gc : Int) (hf : OkF ⟨true, fa, fc⟩) (hg : OkF ⟨true, ga, gc⟩) (ho : op = 3) (h0 : fa = 0) (h1 : ¬ ga = 0) (hx1 : farB fc 1073741824 = true) (w : World) : Calls Try.prog 16 #[.int .i64 op, .agg #[.bool true, .int .i64 fa, .int .i64 fc], .agg #[.bool true, .int .i64 ga, .int .i64 gc]] w (FP (fz) w) := by
  have H2 : Hid (∀ w, Calls Try.prog 31 #[.int .i64 op, .int .i64 fc, .int .i64 gc] w fun e w' => e = .returned (.tuple #[.int .i64 (twoR op fc gc).1, .bool (twoR op fc gc).2]) ∧ w' = w) := (twoR_is op fc gc (by have := hf.2; simp only at this; unfold R64; omega) (by have := hg.2; simp only at this; unfold R64; omega)).1.2
  obtain ⟨⟨b1, b2⟩, ⟨b3, b4⟩⟩ := id hf
  obtain ⟨⟨b5, b6⟩, ⟨b7, b8⟩⟩ := id hg
  simp only at b1 b2 b3 b4 b5 b6 b7 b8
  have f0 : (ga == 0) = false := (by simpa using h1); have f1 : (fa == 0) = true := by simpa using h0
  have HF : Hid (farB fc 1073741824 = true) := hx1
  clear hx1
  generalize (twoR op fc gc).1 = x at *
  generalize (twoR op fc gc).2 = y at *
  clear hf hg
  subst ho; clear h0 h1
  go_enter Try.func16, Try.ntmps16
  go_wp2_with fail
  refine (H2.out _).mono ?_
  rintro e w4 ⟨rfl, hw4⟩; rw [hw4]; clear hw4 w4
  go_wp2_with fail
  refine (far_any _ _ (by omega) (by omega) _).mono ?_; rintro e w4 ⟨rfl, hw4⟩; rw [hw4, HF.out]; clear hw4 w4
  go_wp2_with fail
  refine bodyPost_ret (ret_f33 Try.results16 _ (w.heap.size + 2) rfl _ _ _ _ (three_new w _ _ _)) rfl ?_
  exact ⟨rfl, bl3 _ _ _ _⟩
set_option maxRecDepth 100000 in
set_option maxHeartbeats 4000000 in
theorem rjoin_mulgb (op : Int) (fa fc ga gc : Int) (hf : OkF ⟨true, fa, fc⟩) (hg : OkF ⟨true, ga, gc⟩) (ho : op = 3) (h0 : fa = 0) (h1 : ¬ ga = 0) (hx1 : farB fc 1073741824 = false) (hx2 : farB gc 1073741824 = true) (w : World) : Calls Try.prog 16 #[.int .i64 op, .agg #[.bool true, .int .i64 fa, .int .i64 fc], .agg #[.bool true, .int .i64 ga, .int .i64 gc]] w (FP (fz) w) := by
  have H2 : Hid (∀ w, Calls Try.prog 31 #[.int .i64 op, .int .i64 fc, .int .i64 gc] w fun e w' => e = .returned (.tuple #[.int .i64 (twoR op fc gc).1, .bool (twoR op fc gc).2]) ∧ w' = w) := (twoR_is op fc gc (by have := hf.2; simp only at this; unfold R64; omega) (by have := hg.2; simp only at this; unfold R64; omega)).1.2
  obtain ⟨⟨b1, b2⟩, ⟨b3, b4⟩⟩ := id hf
  obtain ⟨⟨b5, b6⟩, ⟨b7, b8⟩⟩ := id hg
  simp only at b1 b2 b3 b4 b5 b6 b7 b8
  have f0 : (ga == 0) = false := (by simpa using h1); have f1 : (fa == 0) = true := by simpa using h0
  have HF : Hid (farB fc 1073741824 = false) := hx1
  have HG : Hid (farB gc 1073741824 = true) := hx2
  clear hx1 hx2
  generalize (twoR op fc gc).1 = x at *
  generalize (twoR op fc gc).2 = y at *
  clear hf hg
  subst ho; clear h0 h1
  go_enter Try.func16, Try.ntmps16
  go_wp2_with fail
  refine (H2.out _).mono ?_
  rintro e w4 ⟨rfl, hw4⟩; rw [hw4]; clear hw4 w4
  go_wp2_with fail
  refine (far_any _ _ (by omega) (by omega) _).mono ?_; rintro e w4 ⟨rfl, hw4⟩; rw [hw4, HF.out]; clear hw4 w4
  go_wp2_with fail
  refine (far_any _ _ (by omega) (by omega) _).mono ?_; rintro e w4 ⟨rfl, hw4⟩; rw [hw4, HG.out]; clear hw4 w4
  go_wp2_with fail
  refine bodyPost_ret (ret_f33 Try.results16 _ (w.heap.size + 2) rfl _ _ _ _ (three_new w _ _ _)) rfl ?_
  exact ⟨rfl, bl3 _ _ _ _⟩
set_option maxRecDepth 100000 in
set_option maxHeartbeats 4000000 in
theorem rjoin_mulkb (op : Int) (fa fc ga gc : Int) (hf : OkF ⟨true, fa, fc⟩) (hg : OkF ⟨true, ga, gc⟩) (ho : op = 3) (h0 : fa = 0) (h1 : ¬ ga = 0) (hx1 : farB fc 1073741824 = false) (hx2 : farB gc 1073741824 = false) (w : World) : Calls Try.prog 16 #[.int .i64 op, .agg #[.bool true, .int .i64 fa, .int .i64 fc], .agg #[.bool true, .int .i64 ga, .int .i64 gc]] w (FP (keptF (ga * fc) (gc * fc)) w) := by
  have H2 : Hid (∀ w, Calls Try.prog 31 #[.int .i64 op, .int .i64 fc, .int .i64 gc] w fun e w' => e = .returned (.tuple #[.int .i64 (twoR op fc gc).1, .bool (twoR op fc gc).2]) ∧ w' = w) := (twoR_is op fc gc (by have := hf.2; simp only at this; unfold R64; omega) (by have := hg.2; simp only at this; unfold R64; omega)).1.2
  obtain ⟨⟨b1, b2⟩, ⟨b3, b4⟩⟩ := id hf
  obtain ⟨⟨b5, b6⟩, ⟨b7, b8⟩⟩ := id hg
  simp only at b1 b2 b3 b4 b5 b6 b7 b8
  have f0 : (ga == 0) = false := (by simpa using h1); have f1 : (fa == 0) = true := by simpa using h0
  have HF : Hid (farB fc 1073741824 = false) := hx1
  have HG : Hid (farB gc 1073741824 = false) := hx2
  have c1 : -1073741824 ≤ fc ∧ fc ≤ 1073741824 := by unfold farB at hx1; simp at hx1; omega
  have c2 : -1073741824 ≤ gc ∧ gc ≤ 1073741824 := by unfold farB at hx2; simp at hx2; omega
  clear hx1 hx2
  have q1 : -(1073741824 * 1073741824) ≤ ga * fc ∧ ga * fc ≤ 1073741824 * 1073741824 := mul_bd (by omega) (by omega) (by omega) (by omega)
  have q2 : -(1073741824 * 1073741824) ≤ gc * fc ∧ gc * fc ≤ 1073741824 * 1073741824 := mul_bd (by omega) (by omega) (by omega) (by omega)
  have n1 : wrap64 (ga * fc) = ga * fc := wrap_in (by omega) (by omega)
  have n2 : wrap64 (gc * fc) = gc * fc := wrap_in (by omega) (by omega)
  clear q1 q2
  have HK : Hid (∀ w, Calls Try.prog 14 #[.int .i64 (ga * fc), .int .i64 (gc * fc)] w (FP (keptF (ga * fc) (gc * fc)) w)) := fun w => rkept_any _ _ w
  generalize hx : keptF (ga * fc) (gc * fc) = r at HK ⊢
  generalize (twoR op fc gc).1 = x at *
  generalize (twoR op fc gc).2 = y at *
  clear hx
  obtain ⟨rk, ra, rc⟩ := r
  clear hf hg
  subst ho; clear h0 h1
  go_enter Try.func16, Try.ntmps16
  go_wp2_with fail
  refine (H2.out _).mono ?_
  rintro e w4 ⟨rfl, hw4⟩; rw [hw4]; clear hw4 w4
  go_wp2_with fail
  refine (far_any _ _ (by omega) (by omega) _).mono ?_; rintro e w4 ⟨rfl, hw4⟩; rw [hw4, HF.out]; clear hw4 w4
  go_wp2_with fail
  refine (far_any _ _ (by omega) (by omega) _).mono ?_; rintro e w4 ⟨rfl, hw4⟩; rw [hw4, HG.out]; clear hw4 w4
  go_wp2_with fail
  refine (HK.out _).mono ?_
  rintro e w9 ⟨rfl, hb⟩
  have HX : Hid (w9.heap[w.heap.size + 2]? = some (.cells #[.bool false, .int .i64 0, .int .i64 0] 33)) := (hb.block _ (by simp)).trans (three_new w _ _ _)
  have HB : Hid (Below w.heap.size w w9) := (bl3 w _ _ _).trans (hb.mono (by simp; omega))
  clear hb
  obtain ⟨d0, d1, d2, g0⟩ := all3 HX.out
  unfold fv
  go_wp2_with fail
  refine bodyPost_ret (ret_f33 Try.results16 _ (w.heap.size + 2) rfl _ _ _ _ (put3 HX.out _ _ _)) rfl ?_
  exact ⟨rfl, put3_below HB.out (by omega) _ _ _⟩

set_option maxRecDepth 100000 in
set_option maxHeartbeats 2000000 in
theorem rjoin_un (op : Int) (fk gk : Bool) (fa fc ga gc : Int) (h : fk = false ∨ gk = false) (w : World) : Calls Try.prog 16 #[.int .i64 op, .agg #[.bool fk, .int .i64 fa, .int .i64 fc], .agg #[.bool gk, .int .i64 ga, .int .i64 gc]] w (FP fz w) := by
  cases fk
  · clear h
    go_enter Try.func16, Try.ntmps16
    go_wp2_with fail
    refine bodyPost_ret (ret_f33 Try.results16 _ (w.heap.size + 2) rfl _ _ _ _ (three_new w _ _ _)) rfl ?_
    exact ⟨rfl, bl3 _ _ _ _⟩
  · cases gk
    · clear h
      go_enter Try.func16, Try.ntmps16
      go_wp2_with fail
      refine bodyPost_ret (ret_f33 Try.results16 _ (w.heap.size + 2) rfl _ _ _ _ (three_new w _ _ _)) rfl ?_
      exact ⟨rfl, bl3 _ _ _ _⟩
    · simp at h
theorem rjoin_any (op : Int) (f g : Fm) (hf : OkF f) (hg : OkF g) (w : World) : Calls Try.prog 16 #[.int .i64 op, fv f, fv g] w (FP (joinF op f g) w) := by
  obtain ⟨fk, fa, fc⟩ := f
  obtain ⟨gk, ga, gc⟩ := g
  unfold fv
  cases fk
  · exact rjoin_un op false gk fa fc ga gc (Or.inl rfl) w
  cases gk
  · have e : joinF op ⟨true, fa, fc⟩ ⟨false, ga, gc⟩ = fz := by unfold joinF; simp
    rw [e]; exact rjoin_un op true false fa fc ga gc (Or.inr rfl) w
  by_cases h0 : fa = 0
  · by_cases h1 : ga = 0
    · cases hy : (twoR op fc gc).2
      · have e : joinF op ⟨true, fa, fc⟩ ⟨true, ga, gc⟩ = fz := by unfold joinF; simp [h0, h1, hy]
        rw [e]; exact rjoin_nok op fa fc ga gc hf hg h0 h1 hy w
      · have e : joinF op ⟨true, fa, fc⟩ ⟨true, ga, gc⟩ = keptF 0 (twoR op fc gc).1 := by unfold joinF; simp [h0, h1, hy]
        rw [e]; exact rjoin_num op fa fc ga gc hf hg h0 h1 hy w
    · by_cases o1 : op = 1
      · have e : joinF op ⟨true, fa, fc⟩ ⟨true, ga, gc⟩ = keptF (fa + ga) (fc + gc) := by unfold joinF; simp [h1, o1]
        rw [e]; exact rjoin_addb op fa fc ga gc hf hg h0 h1 o1 w
      by_cases o2 : op = 2
      · have e : joinF op ⟨true, fa, fc⟩ ⟨true, ga, gc⟩ = keptF (fa - ga) (fc - gc) := by unfold joinF; simp [h1, o2]
        rw [e]; exact rjoin_subb op fa fc ga gc hf hg h0 h1 o2 w
      by_cases o3 : op = 3
      · cases hx1 : farB fc 1073741824
        · cases hx2 : farB gc 1073741824
          · have e : joinF op ⟨true, fa, fc⟩ ⟨true, ga, gc⟩ = keptF (ga * fc) (gc * fc) := by unfold joinF; simp [h0, h1, o3, hx1, hx2]
            rw [e]; exact rjoin_mulkb op fa fc ga gc hf hg o3 h0 h1 hx1 hx2 w
          · have e : joinF op ⟨true, fa, fc⟩ ⟨true, ga, gc⟩ = fz := by unfold joinF; simp [h0, h1, o3, hx1, hx2]
            rw [e]; exact rjoin_mulgb op fa fc ga gc hf hg o3 h0 h1 hx1 hx2 w
        · have e : joinF op ⟨true, fa, fc⟩ ⟨true, ga, gc⟩ = fz := by unfold joinF; simp [h0, h1, o3, hx1]
          rw [e]; exact rjoin_mulfb op fa fc ga gc hf hg o3 h0 h1 hx1 w
      · have e : joinF op ⟨true, fa, fc⟩ ⟨true, ga, gc⟩ = fz := by unfold joinF; simp [h1, o1, o2, o3]
        rw [e]; exact rjoin_othb op fa fc ga gc hf hg h0 h1 o1 o2 o3 w
  · by_cases o1 : op = 1
    · have e : joinF op ⟨true, fa, fc⟩ ⟨true, ga, gc⟩ = keptF (fa + ga) (fc + gc) := by unfold joinF; simp [h0, o1]
      rw [e]; exact rjoin_adda op fa fc ga gc hf hg h0 o1 w
    by_cases o2 : op = 2
    · have e : joinF op ⟨true, fa, fc⟩ ⟨true, ga, gc⟩ = keptF (fa - ga) (fc - gc) := by unfold joinF; simp [h0, o2]
      rw [e]; exact rjoin_suba op fa fc ga gc hf hg h0 o2 w
    by_cases o3 : op = 3
    · by_cases h1 : ga = 0
      · cases hx1 : farB fc 1073741824
        · cases hx2 : farB gc 1073741824
          · have e : joinF op ⟨true, fa, fc⟩ ⟨true, ga, gc⟩ = keptF (fa * gc) (fc * gc) := by unfold joinF; simp [h0, h1, o3, hx1, hx2]
            rw [e]; exact rjoin_mulka op fa fc ga gc hf hg o3 h0 h1 hx1 hx2 w
          · have e : joinF op ⟨true, fa, fc⟩ ⟨true, ga, gc⟩ = fz := by unfold joinF; simp [h0, h1, o3, hx1, hx2]
            rw [e]; exact rjoin_mulga op fa fc ga gc hf hg o3 h0 h1 hx1 hx2 w
        · have e : joinF op ⟨true, fa, fc⟩ ⟨true, ga, gc⟩ = fz := by unfold joinF; simp [h0, h1, o3, hx1]
          rw [e]; exact rjoin_mulfa op fa fc ga gc hf hg o3 h0 h1 hx1 w
      · have e : joinF op ⟨true, fa, fc⟩ ⟨true, ga, gc⟩ = fz := by unfold joinF; simp [h0, h1, o3]
        rw [e]; exact rjoin_mulz op fa fc ga gc hf hg o3 h0 h1 w
    · have e : joinF op ⟨true, fa, fc⟩ ⟨true, ga, gc⟩ = fz := by unfold joinF; simp [h0, o1, o2, o3]
      rw [e]; exact rjoin_otha op fa fc ga gc hf hg h0 o1 o2 o3 w
end Go.Proofs.Ytcaefimnhoeimaa
