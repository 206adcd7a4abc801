/- Forms: the program's small functions. -/
import Derived.Test.YtcaefimnhoeimaaMt
import Derived.Test.YtcaefimnhoeimaaFmP
import Derived.Deep.RegionHeld3
import Derived.Below
namespace Go.Proofs.Ytcaefimnhoeimaa
open Go.RowKit
set_option linter.unusedVariables false

def fv (f : Fm) : Value := .agg #[.bool f.k, .int .i64 f.a, .int .i64 f.c]
def fva (k : Bool) (a c : Int) : Value := .agg #[.bool k, .int .i64 a, .int .i64 c]
theorem bl1 (w : World) (A : Obj) : Below w.heap.size w (w.alloc A) := (Below.refl _ w).alloc (Nat.le_refl _) A
theorem size30 : (Try.prog.info? 30).map (·.size) = some 3 := by kernel_rfl
theorem ret_f {fn : Func} {q : Nat} (h : fn.results = #[.cell q 30]) (tmps : Array Value) (g : Nat) (hb : tmps.getD q undef = .pointer (some ⟨g, 0, none⟩)) (W : World) (a b c : Value) (hg : W.heap[g]? = some (.cells #[a, b, c] 30)) :
    (results fn tmps).run Try.prog W = .ok (.agg #[a, b, c]) W := results_cell_row h tmps W g 30 #[a, b, c] _ _ hb hg Try.underlying30 rfl size30
theorem put3 {W : World} {g t : Nat} {x y z : Value} (h : W.heap[g]? = some (.cells #[x, y, z] t)) (a b c : Value) : (((W.setCell ⟨g, 0, none⟩ a).setCell ⟨g, 1, none⟩ b).setCell ⟨g, 2, none⟩ c).heap[g]? = some (.cells #[a, b, c] t) := by
  have h1 := heap_setCell_same W g 0 _ t a h
  have h2 := heap_setCell_same _ g 1 _ t b h1
  have h3 := heap_setCell_same _ g 2 _ t c h2
  rw [h3]; rfl
theorem put3_below {B g : Nat} {w W : World} (h : Below B w W) (hg : B ≤ g) (a b c : Value) : Below B w (((W.setCell ⟨g, 0, none⟩ a).setCell ⟨g, 1, none⟩ b).setCell ⟨g, 2, none⟩ c) :=
  ((h.setCell hg _).setCell hg _).setCell hg _
theorem all3 {W : World} {g t : Nat} {x y z : Value} (h : W.heap[g]? = some (.cells #[x, y, z] t)) : W.cell? ⟨g, 0, none⟩ = some x ∧ W.cell? ⟨g, 1, none⟩ = some y ∧ W.cell? ⟨g, 2, none⟩ = some z ∧ (∀ j, W.frozen? ⟨g, j, none⟩ = false) :=
  ⟨(cell_of_row W g 0 _ _ _ h).trans rfl, (cell_of_row W g 1 _ _ _ h).trans rfl, (cell_of_row W g 2 _ _ _ h).trans rfl, fun j => frozen_of_row W g j _ _ h⟩

def FP (f : Fm) (w : World) (e : Ending) (w' : World) : Prop := e = .returned (fv f) ∧ Below w.heap.size w w'
set_option maxRecDepth 100000 in
set_option maxHeartbeats 1000000 in
theorem kept_any (a c : Int) (w : World) : Calls Try.prog 40 #[.int .i64 a, .int .i64 c] w (FP (keptF a c) w) := by
  cases h1 : farB a 1073741824
  · cases h2 : farB c 1152921504606846976
    · have e : keptF a c = ⟨true, a, c⟩ := by unfold keptF; rw [h1, h2]; rfl
      rw [e]
      have H1 : Hid (farB a 1073741824 = false) := h1
      have H2 : Hid (farB c 1152921504606846976 = false) := h2
      clear h1 h2 e
      go_enter Try.func40, Try.ntmps40
      go_wp2_with fail
      refine (near_any _ _ (by omega) (by omega) _).mono ?_; rintro e w4 ⟨rfl, hw4⟩; rw [hw4, H1.out]; clear hw4 w4
      go_wp2_with fail
      refine (near_any _ _ (by omega) (by omega) _).mono ?_; rintro e w4 ⟨rfl, hw4⟩; rw [hw4, H2.out]; clear hw4 w4
      go_wp2_with fail
      refine bodyPost_ret (ret_f Try.results40 _ w.heap.size rfl _ _ _ _ (heap_alloc_new w _)) rfl ?_
      exact ⟨rfl, bl1 _ _⟩
    · have e : keptF a c = fz := by unfold keptF; rw [h1, h2]; rfl
      rw [e]
      have H1 : Hid (farB a 1073741824 = false) := h1
      have H2 : Hid (farB c 1152921504606846976 = true) := h2
      clear h1 h2 e
      go_enter Try.func40, Try.ntmps40
      go_wp2_with fail
      refine (near_any _ _ (by omega) (by omega) _).mono ?_; rintro e w4 ⟨rfl, hw4⟩; rw [hw4, H1.out]; clear hw4 w4
      go_wp2_with fail
      refine (near_any _ _ (by omega) (by omega) _).mono ?_; rintro e w4 ⟨rfl, hw4⟩; rw [hw4, H2.out]; clear hw4 w4
      go_wp2_with fail
      refine bodyPost_ret (ret_f Try.results40 _ w.heap.size rfl _ _ _ _ (heap_alloc_new w _)) rfl ?_
      exact ⟨rfl, bl1 _ _⟩
  · have e : keptF a c = fz := by unfold keptF; rw [h1]; rfl
    rw [e]
    have H1 : Hid (farB a 1073741824 = true) := h1
    clear h1 e
    go_enter Try.func40, Try.ntmps40
    go_wp2_with fail
    refine (near_any _ _ (by omega) (by omega) _).mono ?_; rintro e w4 ⟨rfl, hw4⟩; rw [hw4, H1.out]; clear hw4 w4
    go_wp2_with fail
    refine bodyPost_ret (ret_f Try.results40 _ w.heap.size rfl _ _ _ _ (heap_alloc_new w _)) rfl ?_
    exact ⟨rfl, bl1 _ _⟩

set_option maxRecDepth 100000 in
set_option maxHeartbeats 1000000 in
theorem number_any (n : Int) (w : World) : Calls Try.prog 39 #[.int .i64 n] w (FP (numF n) w) := by
  have HK : Hid (∀ w, Calls Try.prog 40 #[.int .i64 0, .int .i64 n] w (FP (numF n) w)) := fun w => kept_any 0 n w
  generalize numF n = f at HK ⊢
  obtain ⟨k, a, c⟩ := f
  go_enter Try.func39, Try.ntmps39
  go_wp2_with fail
  refine (HK.out _).mono ?_
  rintro e w1 ⟨rfl, hb⟩
  have hbl : w1.heap[w.heap.size]? = some (.cells #[.bool false, .int .i64 0, .int .i64 0] 30) := (hb.block _ (by simp)).trans (heap_alloc_new w _)
  obtain ⟨c0, c1, c2, f0⟩ := all3 hbl
  have HBL : Hid (w1.heap[w.heap.size]? = some (.cells #[.bool false, .int .i64 0, .int .i64 0] 30)) := hbl
  have HB : Hid (Below w.heap.size w w1) := (bl1 w _).trans (hb.mono (by simp))
  clear hb hbl
  unfold fv
  go_wp2_with fail
  refine bodyPost_ret (ret_f Try.results39 _ w.heap.size rfl _ _ _ _ (put3 HBL.out _ _ _)) rfl ?_
  exact ⟨rfl, put3_below HB.out (Nat.le_refl _) _ _ _⟩

set_option maxRecDepth 100000 in
set_option maxHeartbeats 1000000 in
theorem isNumber_any (f : Fm) (w : World) : Calls Try.prog 42 #[fv f] w fun e w' => e = .returned (.bool (isNumB f)) ∧ Below w.heap.size w w' := by
  obtain ⟨k, a, c⟩ := f
  unfold fv
  cases k
  · go_enter Try.func42, Try.ntmps42
    go_wp2_with fail
    go_ret
    exact ⟨rfl, bl1 _ _⟩
  · go_enter Try.func42, Try.ntmps42
    go_wp2_with fail
    go_ret
    exact ⟨rfl, bl1 _ _⟩
set_option maxRecDepth 100000 in
set_option maxHeartbeats 1000000 in
theorem divides_any (op : Int) (w : World) : Calls Try.prog 41 #[.int .i64 op] w fun e w' => e = .returned (.bool (decide (op = 4 ∨ op = 5))) ∧ w' = w := by
  go_enter Try.func41, Try.ntmps41
  go_wp2
  all_goals (go_ret; exact ⟨ret_bo (by rw [Bool.eq_iff_iff]; simp_all), rfl⟩)
end Go.Proofs.Ytcaefimnhoeimaa
