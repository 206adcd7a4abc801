/- The document's kept and one. -/
import Derived.Test.YtcaefimnhoeimaaFmE
namespace Go.Proofs.Ytcaefimnhoeimaa
open Go.RowKit
set_option linter.unusedVariables false
set_option linter.unusedSimpArgs false

theorem size33 : (Try.prog.info? 33).map (·.size) = some 3 := by kernel_rfl
theorem ret_f33 {fn : Func} {q : Nat} (h : fn.results = #[.cell q 33]) (tmps : Array Value) (g : Nat) (hb : tmps.getD q undef = .pointer (some ⟨g, 0, none⟩)) (W : World) (a b c : Value) (hg : W.heap[g]? = some (.cells #[a, b, c] 33)) :
    (results fn tmps).run Try.prog W = .ok (.agg #[a, b, c]) W := results_cell_row h tmps W g 33 #[a, b, c] _ _ hb hg Try.underlying33 rfl size33
set_option maxRecDepth 100000 in
set_option maxHeartbeats 1000000 in
theorem rkept_any (a c : Int) (w : World) : Calls Try.prog 14 #[.int .i64 a, .int .i64 c] w (FP (keptF a c) w) := by
  cases h1 : farB a 1073741824
  · cases h2 : farB c 1152921504606846976
    · have e : keptF a c = ⟨true, a, c⟩ := by unfold keptF; rw [h1, h2]; rfl
      rw [e]
      have H1 : Hid (farB a 1073741824 = false) := h1
      have H2 : Hid (farB c 1152921504606846976 = false) := h2
      clear h1 h2 e
      go_enter Try.func14, Try.ntmps14
      go_wp2_with fail
      refine (far_any _ _ (by omega) (by omega) _).mono ?_; rintro e w4 ⟨rfl, hw4⟩; rw [hw4, H1.out]; clear hw4 w4
      go_wp2_with fail
      refine (far_any _ _ (by omega) (by omega) _).mono ?_; rintro e w4 ⟨rfl, hw4⟩; rw [hw4, H2.out]; clear hw4 w4
      go_wp2_with fail
      refine bodyPost_ret (ret_f33 Try.results14 _ (w.heap.size) rfl _ _ _ _ (heap_alloc_new w _)) rfl ?_
      exact ⟨rfl, bl1 _ _⟩
    · have e : keptF a c = fz := by unfold keptF; rw [h1, h2]; rfl
      rw [e]
      have H1 : Hid (farB a 1073741824 = false) := h1
      have H2 : Hid (farB c 1152921504606846976 = true) := h2
      clear h1 h2 e
      go_enter Try.func14, Try.ntmps14
      go_wp2_with fail
      refine (far_any _ _ (by omega) (by omega) _).mono ?_; rintro e w4 ⟨rfl, hw4⟩; rw [hw4, H1.out]; clear hw4 w4
      go_wp2_with fail
      refine (far_any _ _ (by omega) (by omega) _).mono ?_; rintro e w4 ⟨rfl, hw4⟩; rw [hw4, H2.out]; clear hw4 w4
      go_wp2_with fail
      refine bodyPost_ret (ret_f33 Try.results14 _ (w.heap.size) rfl _ _ _ _ (heap_alloc_new w _)) rfl ?_
      exact ⟨rfl, bl1 _ _⟩
  · have e : keptF a c = fz := by unfold keptF; rw [h1]; rfl
    rw [e]
    have H1 : Hid (farB a 1073741824 = true) := h1
    clear h1 e
    go_enter Try.func14, Try.ntmps14
    go_wp2_with fail
    refine (far_any _ _ (by omega) (by omega) _).mono ?_; rintro e w4 ⟨rfl, hw4⟩; rw [hw4, H1.out]; clear hw4 w4
    go_wp2_with fail
    refine bodyPost_ret (ret_f33 Try.results14 _ (w.heap.size) rfl _ _ _ _ (heap_alloc_new w _)) rfl ?_
    exact ⟨rfl, bl1 _ _⟩

/-- what the document's one answers -/
def roneF (op : Int) (f : Fm) : Fm := if f.k = false then fz else if ¬ f.a = 0 ∧ ¬ op = 19 then fz else if f.a = 0 then keptF 0 (oneR op f.c).1 else keptF (-f.a) (-f.c)
theorem rone_is (op : Int) (f : Fm) : roneF op f = oneF op f := by
  obtain ⟨k, a, c⟩ := f
  unfold roneF oneF isNumB numF
  cases k
  · simp
  · by_cases ha : a = 0
    · simp [ha]
    · by_cases ho : op = 19 <;> simp [ha, ho]
set_option maxRecDepth 100000 in
set_option maxHeartbeats 2000000 in
theorem rone_any (op : Int) (f : Fm) (hf : OkF f) (w : World) : Calls Try.prog 15 #[.int .i64 op, fv f] w (FP (oneF op f) w) := by
  rw [← rone_is]
  have hc := hf.2
  have ha := hf.1
  obtain ⟨k, a, c⟩ := f
  unfold fv
  simp only at ha hc
  clear hf
  cases k
  · have e : roneF op ⟨false, a, c⟩ = fz := rfl
    rw [e]
    clear e
    go_enter Try.func15, Try.ntmps15
    go_wp2_with fail
    refine bodyPost_ret (ret_f33 Try.results15 _ (w.heap.size + 1) rfl _ _ _ _ (two_new w _ _)) rfl ?_
    exact ⟨rfl, bl2 _ _ _⟩
  · by_cases h0 : a = 0
    · subst h0
      have e : roneF op ⟨true, 0, c⟩ = keptF 0 (oneR op c).1 := by unfold roneF; simp
      rw [e]
      have HO : Hid (∀ w, Calls Try.prog 30 #[.int .i64 op, .int .i64 c] w fun e w' => e = .returned (.tuple #[.int .i64 (oneR op c).1, .bool (oneR op c).2]) ∧ w' = w) := (oneR_is op c (by unfold R64; omega)).1.2
      have HK : Hid (∀ w, Calls Try.prog 14 #[.int .i64 0, .int .i64 (oneR op c).1] w (FP (keptF 0 (oneR op c).1) w)) := fun w => rkept_any _ _ w
      generalize hx : keptF 0 (oneR op c).1 = r at HK ⊢
      generalize (oneR op c).1 = x at HO HK hx
      generalize (oneR op c).2 = y at HO
      obtain ⟨rk, ra, rc⟩ := r
      clear e hx ha hc
      go_enter Try.func15, Try.ntmps15
      go_wp2_with fail
      refine (HO.out _).mono ?_
      rintro e w4 ⟨rfl, hw4⟩; rw [hw4]; clear hw4 w4
      go_wp2_with fail
      refine (HK.out _).mono ?_
      rintro e w1 ⟨rfl, hb⟩
      have hbl : w1.heap[w.heap.size + 1]? = some (.cells #[.bool false, .int .i64 0, .int .i64 0] 33) := (hb.block _ (by simp)).trans (two_new w _ _)
      obtain ⟨d0, d1, d2, g0⟩ := all3 hbl
      have HBL : Hid (w1.heap[w.heap.size + 1]? = some (.cells #[.bool false, .int .i64 0, .int .i64 0] 33)) := hbl
      have HB : Hid (Below w.heap.size w w1) := (bl2 w _ _).trans (hb.mono (by simp; omega))
      clear hb hbl
      unfold fv
      go_wp2_with fail
      refine bodyPost_ret (ret_f33 Try.results15 _ (w.heap.size + 1) rfl _ _ _ _ (put3 HBL.out _ _ _)) rfl ?_
      exact ⟨rfl, put3_below HB.out (by omega) _ _ _⟩
    · by_cases ho : op = 19
      · subst ho
        have e : roneF 19 ⟨true, a, c⟩ = keptF (-a) (-c) := by unfold roneF; simp [h0]
        have n1 : wrap64 (-a) = -a := neg_in (by omega)
        have n2 : wrap64 (-c) = -c := neg_in hc
        rw [e]
        have HK : Hid (∀ w, Calls Try.prog 14 #[.int .i64 (-a), .int .i64 (-c)] w (FP (keptF (-a) (-c)) w)) := fun w => rkept_any _ _ w
        generalize keptF (-a) (-c) = r at HK ⊢
        obtain ⟨rk, ra, rc⟩ := r
        have h0b : (a == 0) = false := by simpa using h0
        have h0c : (a != 0) = true := by simpa using h0
        clear e ha hc
        go_enter Try.func15, Try.ntmps15
        go_wp2_with fail
        refine (HK.out _).mono ?_
        rintro e w1 ⟨rfl, hb⟩
        have hbl : w1.heap[w.heap.size + 1]? = some (.cells #[.bool false, .int .i64 0, .int .i64 0] 33) := (hb.block _ (by simp)).trans (two_new w _ _)
        obtain ⟨d0, d1, d2, g0⟩ := all3 hbl
        have HBL : Hid (w1.heap[w.heap.size + 1]? = some (.cells #[.bool false, .int .i64 0, .int .i64 0] 33)) := hbl
        have HB : Hid (Below w.heap.size w w1) := (bl2 w _ _).trans (hb.mono (by simp; omega))
        clear hb hbl
        unfold fv
        go_wp2_with fail
        refine bodyPost_ret (ret_f33 Try.results15 _ (w.heap.size + 1) rfl _ _ _ _ (put3 HBL.out _ _ _)) rfl ?_
        exact ⟨rfl, put3_below HB.out (by omega) _ _ _⟩
      · have e : roneF op ⟨true, a, c⟩ = fz := by unfold roneF; simp [h0, ho]
        rw [e]
        have h0b : (a == 0) = false := by simpa using h0
        have h0c : (a != 0) = true := by simpa using h0
        have hob : (op == 19) = false := by simpa using ho
        have hoc : (op != 19) = true := by simpa using ho
        clear e ha hc
        go_enter Try.func15, Try.ntmps15
        go_wp2_with fail
        refine bodyPost_ret (ret_f33 Try.results15 _ (w.heap.size + 1) rfl _ _ _ _ (two_new w _ _)) rfl ?_
        exact ⟨rfl, bl2 _ _ _⟩
end Go.Proofs.Ytcaefimnhoeimaa
