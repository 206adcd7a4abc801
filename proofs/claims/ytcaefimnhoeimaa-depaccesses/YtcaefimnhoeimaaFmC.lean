/- Forms: products, and of two. -/
import Derived.Test.YtcaefimnhoeimaaFmB
namespace Go.Proofs.Ytcaefimnhoeimaa
open Go.RowKit
set_option linter.unusedVariables false

theorem farB_30 {n : Int} (h : farB n 1073741824 = false) : -1073741824 ≤ n ∧ n ≤ 1073741824 := by unfold farB at h; simp at h; omega
theorem prod_bd {x y : Int} (hx : -1073741824 ≤ x ∧ x ≤ 1073741824) (hy : -1073741824 ≤ y ∧ y ≤ 1073741824) : -1152921504606846976 ≤ x * y ∧ x * y ≤ 1152921504606846976 := by
  have := mul_bd hx hy (by omega) (by omega)
  omega
theorem three_mid (w : World) (A B C : Obj) : (((w.alloc A).alloc B).alloc C).heap[w.heap.size + 1]? = some B := (Below.heap_alloc _ _ _ (by simp)).trans (two_new w A B)
theorem three_old (w : World) (A B C : Obj) : (((w.alloc A).alloc B).alloc C).heap[w.heap.size]? = some A := (Below.heap_alloc _ _ _ (by simp; omega)).trans (two_old w A B)

set_option maxRecDepth 100000 in
set_option maxHeartbeats 2000000 in
theorem product_sw (fk gk : Bool) (fa fc ga gc : Int) (hf : OkF ⟨fk, fa, fc⟩) (hg : OkF ⟨gk, ga, gc⟩) (h0 : fa = 0) (w : World) : Calls Try.prog 64 #[.agg #[.bool fk, .int .i64 fa, .int .i64 fc], .agg #[.bool gk, .int .i64 ga, .int .i64 gc]] w (FP (prodF ⟨gk, ga, gc⟩ ⟨fk, fa, fc⟩) w) := by
  obtain ⟨⟨b1, b2⟩, ⟨b3, b4⟩⟩ := hf
  obtain ⟨⟨b5, b6⟩, ⟨b7, b8⟩⟩ := hg
  simp only at b1 b2 b3 b4 b5 b6 b7 b8
  subst h0
  cases h2 : farB fc 1073741824
  · have H2 : Hid (farB fc 1073741824 = false) := h2
    cases h3 : farB gc 1073741824
    · have H3 : Hid (farB gc 1073741824 = false) := h3
      obtain ⟨p1, p2⟩ := prod_bd (x := ga) (y := fc) (by omega) (farB_30 h2)
      obtain ⟨p3, p4⟩ := prod_bd (x := gc) (y := fc) (farB_30 h3) (farB_30 h2)
      have HK : Hid (∀ w, Calls Try.prog 40 #[.int .i64 (ga * fc), .int .i64 (gc * fc)] w (FP (prodF ⟨gk, ga, gc⟩ ⟨fk, 0, fc⟩) w)) := fun w => by
        have e : prodF ⟨gk, ga, gc⟩ ⟨fk, 0, fc⟩ = keptF (ga * fc) (gc * fc) := by unfold prodF; simp [h2, h3]
        rw [e]; exact kept_any _ _ w
      generalize prodF ⟨gk, ga, gc⟩ ⟨fk, 0, fc⟩ = r at HK ⊢
      obtain ⟨rk, ra, rc⟩ := r
      clear h2 h3
      go_enter Try.func64, Try.ntmps64
      go_wp2_with fail
      refine (near_any _ _ (by omega) (by omega) _).mono ?_; rintro e w4 ⟨rfl, hw4⟩; rw [hw4, H2.out]; clear hw4 w4
      go_wp2_with fail
      refine (near_any _ _ (by omega) (by omega) _).mono ?_; rintro e w4 ⟨rfl, hw4⟩; rw [hw4, H3.out]; clear hw4 w4
      go_wp2_with fail
      refine (HK.out _).mono ?_
      rintro e w1 ⟨rfl, hb⟩
      have hbl : w1.heap[w.heap.size + 2]? = some (.cells #[.bool false, .int .i64 0, .int .i64 0] 30) := (hb.block _ (by simp)).trans (three_new w _ _ _)
      obtain ⟨d0, d1, d2, g0⟩ := all3 hbl
      have HBL : Hid (w1.heap[w.heap.size + 2]? = some (.cells #[.bool false, .int .i64 0, .int .i64 0] 30)) := hbl
      have HB : Hid (Below w.heap.size w w1) := (bl3 w _ _ _).trans (hb.mono (by simp; omega))
      clear hb hbl
      unfold fv
      go_wp2_with fail
      refine bodyPost_ret (ret_f Try.results64 _ (w.heap.size + 2) rfl _ _ _ _ (put3 HBL.out _ _ _)) rfl ?_
      exact ⟨rfl, put3_below HB.out (by omega) _ _ _⟩
    · have H3 : Hid (farB gc 1073741824 = true) := h3
      have e : prodF ⟨gk, ga, gc⟩ ⟨fk, 0, fc⟩ = fz := by unfold prodF; simp [h2, h3]
      rw [e]
      clear h2 h3 e
      go_enter Try.func64, Try.ntmps64
      go_wp2_with fail
      refine (near_any _ _ (by omega) (by omega) _).mono ?_; rintro e w4 ⟨rfl, hw4⟩; rw [hw4, H2.out]; clear hw4 w4
      go_wp2_with fail
      refine (near_any _ _ (by omega) (by omega) _).mono ?_; rintro e w4 ⟨rfl, hw4⟩; rw [hw4, H3.out]; clear hw4 w4
      go_wp2_with fail
      refine bodyPost_ret (ret_f Try.results64 _ (w.heap.size + 2) rfl _ _ _ _ (three_new w _ _ _)) rfl ?_
      exact ⟨rfl, bl3 _ _ _ _⟩
  · have H2 : Hid (farB fc 1073741824 = true) := h2
    have e : prodF ⟨gk, ga, gc⟩ ⟨fk, 0, fc⟩ = fz := by unfold prodF; simp [h2]
    rw [e]
    clear h2 e
    go_enter Try.func64, Try.ntmps64
    go_wp2_with fail
    refine (near_any _ _ (by omega) (by omega) _).mono ?_; rintro e w4 ⟨rfl, hw4⟩; rw [hw4, H2.out]; clear hw4 w4
    go_wp2_with fail
    refine bodyPost_ret (ret_f Try.results64 _ (w.heap.size + 2) rfl _ _ _ _ (three_new w _ _ _)) rfl ?_
    exact ⟨rfl, bl3 _ _ _ _⟩

set_option maxRecDepth 100000 in
set_option maxHeartbeats 2000000 in
theorem product_st (fk gk : Bool) (fa fc ga gc : Int) (hf : OkF ⟨fk, fa, fc⟩) (hg : OkF ⟨gk, ga, gc⟩) (h0 : ¬ fa = 0) (w : World) : Calls Try.prog 64 #[.agg #[.bool fk, .int .i64 fa, .int .i64 fc], .agg #[.bool gk, .int .i64 ga, .int .i64 gc]] w (FP (prodF ⟨fk, fa, fc⟩ ⟨gk, ga, gc⟩) w) := by
  obtain ⟨⟨b1, b2⟩, ⟨b3, b4⟩⟩ := hf
  obtain ⟨⟨b5, b6⟩, ⟨b7, b8⟩⟩ := hg
  simp only at b1 b2 b3 b4 b5 b6 b7 b8
  have e0 : (fa == 0) = false := by simpa using h0
  clear h0
  by_cases h1 : ga = 0
  · subst h1
    cases h2 : farB gc 1073741824
    · have H2 : Hid (farB gc 1073741824 = false) := h2
      cases h3 : farB fc 1073741824
      · have H3 : Hid (farB fc 1073741824 = false) := h3
        obtain ⟨p1, p2⟩ := prod_bd (x := fa) (y := gc) (by omega) (farB_30 h2)
        obtain ⟨p3, p4⟩ := prod_bd (x := fc) (y := gc) (farB_30 h3) (farB_30 h2)
        have HK : Hid (∀ w, Calls Try.prog 40 #[.int .i64 (fa * gc), .int .i64 (fc * gc)] w (FP (prodF ⟨fk, fa, fc⟩ ⟨gk, 0, gc⟩) w)) := fun w => by
          have e : prodF ⟨fk, fa, fc⟩ ⟨gk, 0, gc⟩ = keptF (fa * gc) (fc * gc) := by unfold prodF; simp [h2, h3]
          rw [e]; exact kept_any _ _ w
        generalize prodF ⟨fk, fa, fc⟩ ⟨gk, 0, gc⟩ = r at HK ⊢
        obtain ⟨rk, ra, rc⟩ := r
        clear h2 h3
        go_enter Try.func64, Try.ntmps64
        go_wp2_with fail
        refine (near_any _ _ (by omega) (by omega) _).mono ?_; rintro e w4 ⟨rfl, hw4⟩; rw [hw4, H2.out]; clear hw4 w4
        go_wp2_with fail
        refine (near_any _ _ (by omega) (by omega) _).mono ?_; rintro e w4 ⟨rfl, hw4⟩; rw [hw4, H3.out]; clear hw4 w4
        go_wp2_with fail
        refine (HK.out _).mono ?_
        rintro e w1 ⟨rfl, hb⟩
        have hbl : w1.heap[w.heap.size + 2]? = some (.cells #[.bool false, .int .i64 0, .int .i64 0] 30) := (hb.block _ (by simp)).trans (three_new w _ _ _)
        obtain ⟨d0, d1, d2, g0⟩ := all3 hbl
        have HBL : Hid (w1.heap[w.heap.size + 2]? = some (.cells #[.bool false, .int .i64 0, .int .i64 0] 30)) := hbl
        have HB : Hid (Below w.heap.size w w1) := (bl3 w _ _ _).trans (hb.mono (by simp; omega))
        clear hb hbl
        unfold fv
        go_wp2_with fail
        refine bodyPost_ret (ret_f Try.results64 _ (w.heap.size + 2) rfl _ _ _ _ (put3 HBL.out _ _ _)) rfl ?_
        exact ⟨rfl, put3_below HB.out (by omega) _ _ _⟩
      · have H3 : Hid (farB fc 1073741824 = true) := h3
        have e : prodF ⟨fk, fa, fc⟩ ⟨gk, 0, gc⟩ = fz := by unfold prodF; simp [h2, h3]
        rw [e]
        clear h2 h3 e
        go_enter Try.func64, Try.ntmps64
        go_wp2_with fail
        refine (near_any _ _ (by omega) (by omega) _).mono ?_; rintro e w4 ⟨rfl, hw4⟩; rw [hw4, H2.out]; clear hw4 w4
        go_wp2_with fail
        refine (near_any _ _ (by omega) (by omega) _).mono ?_; rintro e w4 ⟨rfl, hw4⟩; rw [hw4, H3.out]; clear hw4 w4
        go_wp2_with fail
        refine bodyPost_ret (ret_f Try.results64 _ (w.heap.size + 2) rfl _ _ _ _ (three_new w _ _ _)) rfl ?_
        exact ⟨rfl, bl3 _ _ _ _⟩
    · have H2 : Hid (farB gc 1073741824 = true) := h2
      have e : prodF ⟨fk, fa, fc⟩ ⟨gk, 0, gc⟩ = fz := by unfold prodF; simp [h2]
      rw [e]
      clear h2 e
      go_enter Try.func64, Try.ntmps64
      go_wp2_with fail
      refine (near_any _ _ (by omega) (by omega) _).mono ?_; rintro e w4 ⟨rfl, hw4⟩; rw [hw4, H2.out]; clear hw4 w4
      go_wp2_with fail
      refine bodyPost_ret (ret_f Try.results64 _ (w.heap.size + 2) rfl _ _ _ _ (three_new w _ _ _)) rfl ?_
      exact ⟨rfl, bl3 _ _ _ _⟩
  · have e : prodF ⟨fk, fa, fc⟩ ⟨gk, ga, gc⟩ = fz := by unfold prodF; simp [h1]
    rw [e]
    have e1 : (ga != 0) = true := by simpa using h1
    clear h1 e
    go_enter Try.func64, Try.ntmps64
    go_wp2_with fail
    refine bodyPost_ret (ret_f Try.results64 _ (w.heap.size + 2) rfl _ _ _ _ (three_new w _ _ _)) rfl ?_
    exact ⟨rfl, bl3 _ _ _ _⟩

theorem product_any (f g : Fm) (hf : OkF f) (hg : OkF g) (w : World) : Calls Try.prog 64 #[fv f, fv g] w (FP (productF f g) w) := by
  obtain ⟨fk, fa, fc⟩ := f
  obtain ⟨gk, ga, gc⟩ := g
  unfold productF
  by_cases h : fa = 0
  · rw [if_pos h]; exact product_sw fk gk fa fc ga gc hf hg h w
  · rw [if_neg h]; exact product_st fk gk fa fc ga gc hf hg h w
end Go.Proofs.Ytcaefimnhoeimaa
