/- Forms: moved, of one and of two. -/
import Derived.Test.YtcaefimnhoeimaaFmA
namespace Go.Proofs.Ytcaefimnhoeimaa
open Go.RowKit
set_option linter.unusedVariables false

theorem two_new (w : World) (A B : Obj) : ((w.alloc A).alloc B).heap[w.heap.size + 1]? = some B := by
  have := heap_alloc_new (w.alloc A) B
  rw [show (w.alloc A).heap.size = w.heap.size + 1 by simp] at this
  exact this
theorem two_old (w : World) (A B : Obj) : ((w.alloc A).alloc B).heap[w.heap.size]? = some A := (Below.heap_alloc _ _ _ (by simp)).trans (heap_alloc_new w A)
theorem three_new (w : World) (A B C : Obj) : (((w.alloc A).alloc B).alloc C).heap[w.heap.size + 2]? = some C := by
  have := two_new (w.alloc A) B C
  rw [show (w.alloc A).heap.size = w.heap.size + 1 by simp] at this
  exact this
theorem bl2 (w : World) (A B : Obj) : Below w.heap.size w ((w.alloc A).alloc B) := (bl1 w A).alloc (by simp) B
theorem bl3 (w : World) (A B C : Obj) : Below w.heap.size w (((w.alloc A).alloc B).alloc C) := (bl2 w A B).alloc (by simp; omega) C

theorem neg_in {x : Int} (h : -1152921504606846976 ≤ x ∧ x ≤ 1152921504606846976) : wrap64 (-x) = -x := wrap_in (by omega) (by omega)
set_option maxRecDepth 100000 in
set_option maxHeartbeats 2000000 in
theorem ofOne_any (op : Int) (f : Fm) (hf : OkF f) (w : World) : Calls Try.prog 44 #[.int .i64 op, fv f] w (FP (oneF op f) w) := by
  have hc := hf.2
  have ha := hf.1
  have HN : Hid (∀ w, Calls Try.prog 42 #[fv f] w fun e w' => e = .returned (.bool (isNumB f)) ∧ Below w.heap.size w w') := fun w => isNumber_any f w
  cases hn : isNumB f
  · rw [hn] at HN
    by_cases h2 : f.k = true ∧ op = 19
    · obtain ⟨h3, rfl⟩ := h2
      have e : oneF 19 f = keptF (-f.a) (-f.c) := by unfold oneF; rw [hn]; simp [h3]
      have n1 : wrap64 (-f.a) = -f.a := neg_in (by omega)
      have n2 : wrap64 (-f.c) = -f.c := neg_in hc
      have HK : Hid (∀ w, Calls Try.prog 40 #[.int .i64 (-f.a), .int .i64 (-f.c)] w (FP (oneF 19 f) w)) := fun w => by rw [e]; exact kept_any _ _ w
      generalize oneF 19 f = g at HK ⊢
      obtain ⟨k, a, c⟩ := f
      obtain ⟨gk, ga', gc⟩ := g
      simp only at h3 n1 n2 ha hc
      subst h3
      unfold fv at HN ⊢
      clear e hn hf
      simp only at HK HN ⊢
      go_enter Try.func44, Try.ntmps44
      go_wp2_with fail
      refine (HN.out _).mono ?_
      rintro e w0 ⟨rfl, hb0⟩
      have hb1 : w0.heap[w.heap.size]? = some (.cells #[.bool true, .int .i64 a, .int .i64 c] 30) := (hb0.block _ (by simp; omega)).trans (two_old w _ _)
      have hb2 : w0.heap[w.heap.size + 1]? = some (.cells #[.bool false, .int .i64 0, .int .i64 0] 30) := (hb0.block _ (by simp)).trans (two_new w _ _)
      have HS : Hid (w.heap.size + 2 ≤ w0.heap.size) := by have := hb0.size; simp at this; show _ ≤ _; omega
      have HB0 : Hid (Below w.heap.size w w0) := (bl2 w _ _).trans (hb0.mono (by simp; omega))
      have HB2 : Hid (w0.heap[w.heap.size + 1]? = some (.cells #[.bool false, .int .i64 0, .int .i64 0] 30)) := hb2
      obtain ⟨c0, c1, c2, f0⟩ := all3 hb1
      clear hb0 hb1 hb2
      go_wp2_with fail
      refine (HK.out _).mono ?_
      rintro e w1 ⟨rfl, hb⟩
      have hbl : w1.heap[w.heap.size + 1]? = some (.cells #[.bool false, .int .i64 0, .int .i64 0] 30) := (hb.block _ (by have := HS.out; omega)).trans HB2.out
      obtain ⟨d0, d1, d2, g0⟩ := all3 hbl
      have HBL : Hid (w1.heap[w.heap.size + 1]? = some (.cells #[.bool false, .int .i64 0, .int .i64 0] 30)) := hbl
      have HB : Hid (Below w.heap.size w w1) := HB0.out.trans (hb.mono HB0.out.size)
      clear hb hbl
      unfold fv
      go_wp2_with fail
      refine bodyPost_ret (ret_f Try.results44 _ (w.heap.size + 1) rfl _ _ _ _ (put3 HBL.out _ _ _)) rfl ?_
      exact ⟨rfl, put3_below HB.out (by omega) _ _ _⟩
    · have e : oneF op f = fz := by unfold oneF; rw [hn, if_neg (by simp), if_neg h2]
      rw [e]
      obtain ⟨k, a, c⟩ := f
      unfold fv at HN ⊢
      simp only at h2 HN ⊢
      clear e hn hf ha hc
      cases k
      · clear h2
        go_enter Try.func44, Try.ntmps44
        go_wp2_with fail
        refine (HN.out _).mono ?_
        rintro e w0 ⟨rfl, hb0⟩
        have hb1 : w0.heap[w.heap.size]? = some (.cells #[.bool false, .int .i64 a, .int .i64 c] 30) := (hb0.block _ (by simp; omega)).trans (two_old w _ _)
        have hb2 : w0.heap[w.heap.size + 1]? = some (.cells #[.bool false, .int .i64 0, .int .i64 0] 30) := (hb0.block _ (by simp)).trans (two_new w _ _)
        have HB0 : Hid (Below w.heap.size w w0) := (bl2 w _ _).trans (hb0.mono (by simp; omega))
        have HB2 : Hid (w0.heap[w.heap.size + 1]? = some (.cells #[.bool false, .int .i64 0, .int .i64 0] 30)) := hb2
        obtain ⟨c0, c1, c2, f0⟩ := all3 hb1
        obtain ⟨d0, d1, d2, g0⟩ := all3 hb2
        clear hb0 hb1 hb2
        go_wp2_with fail
        refine bodyPost_ret (ret_f Try.results44 _ (w.heap.size + 1) rfl _ _ _ _ (put3 HB2.out _ _ _)) rfl ?_
        exact ⟨rfl, put3_below HB0.out (by omega) _ _ _⟩
      · have ho : (op == 19) = false := by simp at h2; simpa using h2
        clear h2
        go_enter Try.func44, Try.ntmps44
        go_wp2_with fail
        refine (HN.out _).mono ?_
        rintro e w0 ⟨rfl, hb0⟩
        have hb1 : w0.heap[w.heap.size]? = some (.cells #[.bool true, .int .i64 a, .int .i64 c] 30) := (hb0.block _ (by simp; omega)).trans (two_old w _ _)
        have hb2 : w0.heap[w.heap.size + 1]? = some (.cells #[.bool false, .int .i64 0, .int .i64 0] 30) := (hb0.block _ (by simp)).trans (two_new w _ _)
        have HB0 : Hid (Below w.heap.size w w0) := (bl2 w _ _).trans (hb0.mono (by simp; omega))
        have HB2 : Hid (w0.heap[w.heap.size + 1]? = some (.cells #[.bool false, .int .i64 0, .int .i64 0] 30)) := hb2
        obtain ⟨c0, c1, c2, f0⟩ := all3 hb1
        obtain ⟨d0, d1, d2, g0⟩ := all3 hb2
        clear hb0 hb1 hb2
        go_wp2_with fail
        refine bodyPost_ret (ret_f Try.results44 _ (w.heap.size + 1) rfl _ _ _ _ (put3 HB2.out _ _ _)) rfl ?_
        exact ⟨rfl, put3_below HB0.out (by omega) _ _ _⟩
  · rw [hn] at HN
    have e : oneF op f = numF (oneR op f.c).1 := by unfold oneF; rw [hn]; rfl
    have H1 : Hid (∀ w, Calls Try.prog 65 #[.int .i64 op, .int .i64 f.c] w fun e w' => e = .returned (.tuple #[.int .i64 (oneR op f.c).1, .bool (oneR op f.c).2]) ∧ w' = w) := (oneR_is op f.c (by unfold R64; omega)).1.1
    have HK : Hid (∀ w, Calls Try.prog 39 #[.int .i64 (oneR op f.c).1] w (FP (oneF op f) w)) := fun w => by rw [e]; exact number_any _ w
    generalize (oneR op f.c).1 = x at H1 HK
    generalize (oneR op f.c).2 = y at H1
    generalize oneF op f = g at HK ⊢
    obtain ⟨k, a, c⟩ := f
    obtain ⟨gk, ga', gc⟩ := g
    unfold fv at HN ⊢
    clear e hn hf ha hc
    simp only at H1 HN HK ⊢
    go_enter Try.func44, Try.ntmps44
    go_wp2_with fail
    refine (HN.out _).mono ?_
    rintro e w0 ⟨rfl, hb0⟩
    have hb1 : w0.heap[w.heap.size]? = some (.cells #[.bool k, .int .i64 a, .int .i64 c] 30) := (hb0.block _ (by simp; omega)).trans (two_old w _ _)
    have hb2 : w0.heap[w.heap.size + 1]? = some (.cells #[.bool false, .int .i64 0, .int .i64 0] 30) := (hb0.block _ (by simp)).trans (two_new w _ _)
    have HS : Hid (w.heap.size + 2 ≤ w0.heap.size) := by have := hb0.size; simp at this; show _ ≤ _; omega
    have HB0 : Hid (Below w.heap.size w w0) := (bl2 w _ _).trans (hb0.mono (by simp; omega))
    have HB2 : Hid (w0.heap[w.heap.size + 1]? = some (.cells #[.bool false, .int .i64 0, .int .i64 0] 30)) := hb2
    obtain ⟨c0, c1, c2, f0⟩ := all3 hb1
    clear hb0 hb1 hb2
    go_wp2_with fail
    refine (H1.out _).mono ?_
    rintro e w4 ⟨rfl, hw4⟩; rw [hw4]; clear hw4 w4
    go_wp2_with fail
    refine (HK.out _).mono ?_
    rintro e w1 ⟨rfl, hb⟩
    have hbl : w1.heap[w.heap.size + 1]? = some (.cells #[.bool false, .int .i64 0, .int .i64 0] 30) := (hb.block _ (by have := HS.out; omega)).trans HB2.out
    obtain ⟨d0, d1, d2, g0⟩ := all3 hbl
    have HBL : Hid (w1.heap[w.heap.size + 1]? = some (.cells #[.bool false, .int .i64 0, .int .i64 0] 30)) := hbl
    have HB : Hid (Below w.heap.size w w1) := HB0.out.trans (hb.mono HB0.out.size)
    clear hb hbl
    unfold fv
    go_wp2_with fail
    refine bodyPost_ret (ret_f Try.results44 _ (w.heap.size + 1) rfl _ _ _ _ (put3 HBL.out _ _ _)) rfl ?_
    exact ⟨rfl, put3_below HB.out (by omega) _ _ _⟩
end Go.Proofs.Ytcaefimnhoeimaa
