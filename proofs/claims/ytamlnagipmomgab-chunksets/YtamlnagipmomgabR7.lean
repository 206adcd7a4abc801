/- The document's Next of nobody, and its Set. -/
import Derived.Test.YtamlnagipmomgabR4
import Derived.Test.YtamlnagipmomgabR5
import Derived.Test.YtamlnagipmomgabR6
import Derived.Deep.CutRange
namespace Go.Proofs.Ytamlnagipmomgab
open Go.RowKit Go.Maps
set_option linter.unusedVariables false

set_option maxRecDepth 100000 in
set_option maxHeartbeats 4000000 in
theorem rnext_none (p : Int) (S W N : Nat) (next : Int) (turns : List Int) (tv : Value) (wk : Int) (hlen : turns.length = W) (hin : ¬ (0 ≤ wk ∧ wk < (W : Int))) (w : World) (hv : GSl w tv turns) : Calls Try.prog 12 #[rdV p (S : Int) (W : Int) (N : Int) next tv, .int .i64 wk] w (RNQ p S W N next turns tv wk w) := by
  obtain ⟨e1, e2, e3⟩ := ask_none (p := p) (size := (S : Int)) (many := (N : Int)) (next := next) (turns := turns) (wk := wk) (by rw [hlen]; exact hin)
  have HFIN : Hid (∀ V, GSl V tv turns → Below w.heap.size w V → RNQ p S W N next turns tv wk w (.returned (.tuple #[rdV p (S : Int) (W : Int) (N : Int) next tv, .slice none 0 0])) V) := fun V h1 h2 => ⟨tv, _, by rw [e2], by rw [e3]; exact h1, .inl rfl, ⟨0, 0, e1, by omega, by omega, GSl.nil _⟩, (fun a l c e => by cases e), h2⟩
  obtain ⟨ta, tl, tc, rfl⟩ : ∃ a l c, tv = Value.slice a l c := by obtain ⟨a, c, _, _, e, _⟩ := hv; exact ⟨_, _, _, e⟩
  have HV : Hid (∀ V, Below w.heap.size w V → GSl V (.slice ta tl tc) turns) := fun V hV => hv.below hV
  generalize RNQ p S W N next turns (.slice ta tl tc) wk w = P at *
  have HN0 : Hid (NX w w.heap.size p (S : Int) (W : Int) (N : Int) next (.slice ta tl tc) (.slice none 0 0) [] ((w.alloc (.cells #[.int .i64 p, .int .i64 (S : Int), .int .i64 (W : Int), .int .i64 (N : Int), .int .i64 next, (.slice ta tl tc)] 31)).alloc Z31)) := NX.first w _ _ _ _ _ _
  unfold rdV
  clear e1 e2 e3 hv hlen
  by_cases q1 : wk < 0
  · have f1 : decide (wk < 0) = true := by simp [q1]
    clear hin
    go_enter Try.func12, Try.ntmps12
    go_upto_region 1 with fail
    generalize ((w.alloc (.cells #[.int .i64 p, .int .i64 (S : Int), .int .i64 (W : Int), .int .i64 (N : Int), .int .i64 next, (.slice ta tl tc)] 31)).alloc Z31) = U at *
    obtain ⟨g, hg⟩ : ∃ g, w.heap.size = g := ⟨_, rfl⟩
    rw [hg] at HN0 HV HFIN
    rw [hg]
    clear hg
    obtain ⟨c0, c1, c2, c3, c4, c5⟩ := HN0.out.box.all
    have HRES : Hid (RB U (g + 1) 0 0 0 0 0 (.slice none 0 0)) := HN0.out.res
    have z0 : U.cell? ⟨g + 1, 0, none⟩ = some (.int .i64 0) := HRES.out.all.1
    have z1 : U.cell? ⟨g + 1, 1, none⟩ = some (.int .i64 0) := HRES.out.all.2.1
    have z2 : U.cell? ⟨g + 1, 2, none⟩ = some (.int .i64 0) := HRES.out.all.2.2.1
    have z3 : U.cell? ⟨g + 1, 3, none⟩ = some (.int .i64 0) := HRES.out.all.2.2.2.1
    have z4 : U.cell? ⟨g + 1, 4, none⟩ = some (.int .i64 0) := HRES.out.all.2.2.2.2.1
    have z5 : U.cell? ⟨g + 1, 5, none⟩ = some (.slice none 0 0) := HRES.out.all.2.2.2.2.2
    have y0 : U.frozen? ⟨g + 1, 0, none⟩ = false := HRES.out.frz 0
    have y1 : U.frozen? ⟨g + 1, 1, none⟩ = false := HRES.out.frz 1
    have y2 : U.frozen? ⟨g + 1, 2, none⟩ = false := HRES.out.frz 2
    have y3 : U.frozen? ⟨g + 1, 3, none⟩ = false := HRES.out.frz 3
    have y4 : U.frozen? ⟨g + 1, 4, none⟩ = false := HRES.out.frz 4
    have y5 : U.frozen? ⟨g + 1, 5, none⟩ = false := HRES.out.frz 5
    have HBP : Hid (Below g w ((((((U.setCell ⟨g + 1, 0, none⟩ (.int .i64 p)).setCell ⟨g + 1, 1, none⟩ (.int .i64 (S : Int))).setCell ⟨g + 1, 2, none⟩ (.int .i64 (W : Int))).setCell ⟨g + 1, 3, none⟩ (.int .i64 (N : Int))).setCell ⟨g + 1, 4, none⟩ (.int .i64 next)).setCell ⟨g + 1, 5, none⟩ (.slice ta tl tc))) := ((((((HN0.out.bel.setCell (p := ⟨g + 1, 0, none⟩) (show g ≤ g + 1 by omega) _).setCell (p := ⟨g + 1, 1, none⟩) (show g ≤ g + 1 by omega) _).setCell (p := ⟨g + 1, 2, none⟩) (show g ≤ g + 1 by omega) _).setCell (p := ⟨g + 1, 3, none⟩) (show g ≤ g + 1 by omega) _).setCell (p := ⟨g + 1, 4, none⟩) (show g ≤ g + 1 by omega) _).setCell (p := ⟨g + 1, 5, none⟩) (show g ≤ g + 1 by omega) _)
    have HRP : Hid (RB ((((((U.setCell ⟨g + 1, 0, none⟩ (.int .i64 p)).setCell ⟨g + 1, 1, none⟩ (.int .i64 (S : Int))).setCell ⟨g + 1, 2, none⟩ (.int .i64 (W : Int))).setCell ⟨g + 1, 3, none⟩ (.int .i64 (N : Int))).setCell ⟨g + 1, 4, none⟩ (.int .i64 next)).setCell ⟨g + 1, 5, none⟩ (.slice ta tl tc)) (g + 1) p (S : Int) (W : Int) (N : Int) next (.slice ta tl tc)) := put6 HRES.out
    have HFG := HFIN.out _ (HV.out _ HBP.out) HBP.out
    clear HBP
    go_wp2_with fail
    refine bodyPost_ret (ret_rd Try.results12 _ (g + 1) rfl _ _ _ _ _ _ _ HRP.out) rfl ?_
    exact HFG
  · have f1 : decide (wk < 0) = false := by simp; omega
    have f2 : decide ((W : Int) ≤ wk) = true := by simp; omega
    clear hin
    go_enter Try.func12, Try.ntmps12
    go_upto_region 1 with fail
    generalize ((w.alloc (.cells #[.int .i64 p, .int .i64 (S : Int), .int .i64 (W : Int), .int .i64 (N : Int), .int .i64 next, (.slice ta tl tc)] 31)).alloc Z31) = U at *
    obtain ⟨g, hg⟩ : ∃ g, w.heap.size = g := ⟨_, rfl⟩
    rw [hg] at HN0 HV HFIN
    rw [hg]
    clear hg
    obtain ⟨c0, c1, c2, c3, c4, c5⟩ := HN0.out.box.all
    have HRES : Hid (RB U (g + 1) 0 0 0 0 0 (.slice none 0 0)) := HN0.out.res
    have z0 : U.cell? ⟨g + 1, 0, none⟩ = some (.int .i64 0) := HRES.out.all.1
    have z1 : U.cell? ⟨g + 1, 1, none⟩ = some (.int .i64 0) := HRES.out.all.2.1
    have z2 : U.cell? ⟨g + 1, 2, none⟩ = some (.int .i64 0) := HRES.out.all.2.2.1
    have z3 : U.cell? ⟨g + 1, 3, none⟩ = some (.int .i64 0) := HRES.out.all.2.2.2.1
    have z4 : U.cell? ⟨g + 1, 4, none⟩ = some (.int .i64 0) := HRES.out.all.2.2.2.2.1
    have z5 : U.cell? ⟨g + 1, 5, none⟩ = some (.slice none 0 0) := HRES.out.all.2.2.2.2.2
    have y0 : U.frozen? ⟨g + 1, 0, none⟩ = false := HRES.out.frz 0
    have y1 : U.frozen? ⟨g + 1, 1, none⟩ = false := HRES.out.frz 1
    have y2 : U.frozen? ⟨g + 1, 2, none⟩ = false := HRES.out.frz 2
    have y3 : U.frozen? ⟨g + 1, 3, none⟩ = false := HRES.out.frz 3
    have y4 : U.frozen? ⟨g + 1, 4, none⟩ = false := HRES.out.frz 4
    have y5 : U.frozen? ⟨g + 1, 5, none⟩ = false := HRES.out.frz 5
    have HBP : Hid (Below g w ((((((U.setCell ⟨g + 1, 0, none⟩ (.int .i64 p)).setCell ⟨g + 1, 1, none⟩ (.int .i64 (S : Int))).setCell ⟨g + 1, 2, none⟩ (.int .i64 (W : Int))).setCell ⟨g + 1, 3, none⟩ (.int .i64 (N : Int))).setCell ⟨g + 1, 4, none⟩ (.int .i64 next)).setCell ⟨g + 1, 5, none⟩ (.slice ta tl tc))) := ((((((HN0.out.bel.setCell (p := ⟨g + 1, 0, none⟩) (show g ≤ g + 1 by omega) _).setCell (p := ⟨g + 1, 1, none⟩) (show g ≤ g + 1 by omega) _).setCell (p := ⟨g + 1, 2, none⟩) (show g ≤ g + 1 by omega) _).setCell (p := ⟨g + 1, 3, none⟩) (show g ≤ g + 1 by omega) _).setCell (p := ⟨g + 1, 4, none⟩) (show g ≤ g + 1 by omega) _).setCell (p := ⟨g + 1, 5, none⟩) (show g ≤ g + 1 by omega) _)
    have HRP : Hid (RB ((((((U.setCell ⟨g + 1, 0, none⟩ (.int .i64 p)).setCell ⟨g + 1, 1, none⟩ (.int .i64 (S : Int))).setCell ⟨g + 1, 2, none⟩ (.int .i64 (W : Int))).setCell ⟨g + 1, 3, none⟩ (.int .i64 (N : Int))).setCell ⟨g + 1, 4, none⟩ (.int .i64 next)).setCell ⟨g + 1, 5, none⟩ (.slice ta tl tc)) (g + 1) p (S : Int) (W : Int) (N : Int) next (.slice ta tl tc)) := put6 HRES.out
    have HFG := HFIN.out _ (HV.out _ HBP.out) HBP.out
    clear HBP
    go_wp2_with fail
    refine bodyPost_ret (ret_rd Try.results12 _ (g + 1) rfl _ _ _ _ _ _ _ HRP.out) rfl ?_
    exact HFG

def RSQ (p : Int) (S W N : Nat) (next : Int) (turns : List Int) (tv : Value) (nx : Int) (ts : List Int) (w : World) (e : Ending) (w' : World) : Prop :=
  ∃ tv', e = .returned (.tuple #[rdV p (S : Int) (W : Int) (N : Int) (if setB N W nx ts then nx else next) tv', .bool (setB N W nx ts)]) ∧ GSl w' tv' (if setB N W nx ts then ts else turns) ∧ (tv' = tv ∨ NewV w.heap.size tv') ∧ Below w.heap.size w w'
set_option maxRecDepth 100000 in
set_option maxHeartbeats 4000000 in
theorem rset_any (p : Int) (S W N : Nat) (next : Int) (turns : List Int) (tv : Value) (nx : Int) (ts : List Int) (tsv : Value) (hW : W ≤ 8) (hN : N ≤ 200) (hl : ts.length ≤ 100) (w : World) (hv : GSl w tv turns) (hs : GSl w tsv ts) : Calls Try.prog 10 #[rdV p (S : Int) (W : Int) (N : Int) next tv, .int .i64 nx, tsv] w (RSQ p S W N next turns tv nx ts w) := by
  obtain ⟨ta, tl, tc, rfl⟩ : ∃ a l c, tv = Value.slice a l c := by obtain ⟨a, c, _, _, e, _⟩ := hv; exact ⟨_, _, _, e⟩
  have HV : Hid (∀ V, Below w.heap.size w V → GSl V (.slice ta tl tc) turns) := fun V hV => hv.below hV
  have HNO : Hid (setB N W nx ts = false → ∀ V, GSl V (.slice ta tl tc) turns → Below w.heap.size w V → RSQ p S W N next turns (.slice ta tl tc) nx ts w (.returned (.tuple #[rdV p (S : Int) (W : Int) (N : Int) next (.slice ta tl tc), .bool false])) V) := by
    intro q V h1 h2
    refine ⟨_, by rw [q]; rfl, by rw [q]; exact h1, .inl rfl, h2⟩
  have HYES : Hid (setB N W nx ts = true → ∀ V tv', GSl V tv' ts → Below w.heap.size w V → NewV w.heap.size tv' → RSQ p S W N next turns (.slice ta tl tc) nx ts w (.returned (.tuple #[rdV p (S : Int) (W : Int) (N : Int) nx tv', .bool true])) V) := by
    intro q V tv' h1 h2 h3
    refine ⟨tv', by rw [q]; rfl, by rw [q]; exact h1, .inr h3, h2⟩
  generalize RSQ p S W N next turns (.slice ta tl tc) nx ts w = P at *
  have HN0 : Hid (NX w w.heap.size p (S : Int) (W : Int) (N : Int) next (.slice ta tl tc) (.slice none 0 0) [] ((w.alloc (.cells #[.int .i64 p, .int .i64 (S : Int), .int .i64 (W : Int), .int .i64 (N : Int), .int .i64 next, (.slice ta tl tc)] 31)).alloc Z31)) := NX.first w _ _ _ _ _ _
  have HSV : Hid (∀ V, Below w.heap.size w V → GSl V tsv ts) := fun V hV => hs.below hV
  obtain ⟨va, vc, vb, vo, rfl, h2, h3, h4, h5⟩ := hs
  obtain ⟨L, hL⟩ : ∃ L, ts.length = L := ⟨_, rfl⟩
  have HL : Hid (ts.length = L) := hL
  have H4 : Hid (0 < ts.length → va = some ⟨vb, vo, none⟩) := h4
  have H5 : Hid (∀ V, Below w.heap.size w V → ∀ i (h : i < ts.length), V.cell? ⟨vb, vo + i, none⟩ = some (.int .i64 ts[i])) := fun V hV i hi => (hV.cell (p := ⟨vb, vo + i, none⟩) (World.block_lt_of_cell? w _ (h5 i hi))).trans (h5 i hi)
  rw [hL] at h2 hl HSV ⊢
  unfold maxLen at h3
  unfold rdV
  clear hv h4 h5 hL
  by_cases q1 : nx < 0
  · have f1 : decide (nx < 0) = true := by simp [q1]
    have HF : Hid (setB N W nx ts = false) := setB_no fun h => by omega
    go_enter Try.func10, Try.ntmps10
    go_upto_region 1 with fail
    generalize ((w.alloc (.cells #[.int .i64 p, .int .i64 (S : Int), .int .i64 (W : Int), .int .i64 (N : Int), .int .i64 next, (.slice ta tl tc)] 31)).alloc Z31) = U at *
    obtain ⟨g, hg⟩ : ∃ g, w.heap.size = g := ⟨_, rfl⟩
    have HGE : Hid (w.heap.size = g) := hg
    rw [hg] at HN0 HV HNO HYES HSV H5
    rw [hg]
    clear hg
    obtain ⟨c0, c1, c2, c3, c4, c5⟩ := HN0.out.box.all
    have HRES : Hid (RB U (g + 1) 0 0 0 0 0 (.slice none 0 0)) := HN0.out.res
    have z0 : U.cell? ⟨g + 1, 0, none⟩ = some (.int .i64 0) := HRES.out.all.1
    have z1 : U.cell? ⟨g + 1, 1, none⟩ = some (.int .i64 0) := HRES.out.all.2.1
    have z2 : U.cell? ⟨g + 1, 2, none⟩ = some (.int .i64 0) := HRES.out.all.2.2.1
    have z3 : U.cell? ⟨g + 1, 3, none⟩ = some (.int .i64 0) := HRES.out.all.2.2.2.1
    have z4 : U.cell? ⟨g + 1, 4, none⟩ = some (.int .i64 0) := HRES.out.all.2.2.2.2.1
    have z5 : U.cell? ⟨g + 1, 5, none⟩ = some (.slice none 0 0) := HRES.out.all.2.2.2.2.2
    have y0 : U.frozen? ⟨g + 1, 0, none⟩ = false := HRES.out.frz 0
    have y1 : U.frozen? ⟨g + 1, 1, none⟩ = false := HRES.out.frz 1
    have y2 : U.frozen? ⟨g + 1, 2, none⟩ = false := HRES.out.frz 2
    have y3 : U.frozen? ⟨g + 1, 3, none⟩ = false := HRES.out.frz 3
    have y4 : U.frozen? ⟨g + 1, 4, none⟩ = false := HRES.out.frz 4
    have y5 : U.frozen? ⟨g + 1, 5, none⟩ = false := HRES.out.frz 5
    have HBP : Hid (Below g w ((((((U.setCell ⟨g + 1, 0, none⟩ (.int .i64 p)).setCell ⟨g + 1, 1, none⟩ (.int .i64 (S : Int))).setCell ⟨g + 1, 2, none⟩ (.int .i64 (W : Int))).setCell ⟨g + 1, 3, none⟩ (.int .i64 (N : Int))).setCell ⟨g + 1, 4, none⟩ (.int .i64 next)).setCell ⟨g + 1, 5, none⟩ (.slice ta tl tc))) := ((((((HN0.out.bel.setCell (p := ⟨g + 1, 0, none⟩) (show g ≤ g + 1 by omega) _).setCell (p := ⟨g + 1, 1, none⟩) (show g ≤ g + 1 by omega) _).setCell (p := ⟨g + 1, 2, none⟩) (show g ≤ g + 1 by omega) _).setCell (p := ⟨g + 1, 3, none⟩) (show g ≤ g + 1 by omega) _).setCell (p := ⟨g + 1, 4, none⟩) (show g ≤ g + 1 by omega) _).setCell (p := ⟨g + 1, 5, none⟩) (show g ≤ g + 1 by omega) _)
    have HRP : Hid (RB ((((((U.setCell ⟨g + 1, 0, none⟩ (.int .i64 p)).setCell ⟨g + 1, 1, none⟩ (.int .i64 (S : Int))).setCell ⟨g + 1, 2, none⟩ (.int .i64 (W : Int))).setCell ⟨g + 1, 3, none⟩ (.int .i64 (N : Int))).setCell ⟨g + 1, 4, none⟩ (.int .i64 next)).setCell ⟨g + 1, 5, none⟩ (.slice ta tl tc)) (g + 1) p (S : Int) (W : Int) (N : Int) next (.slice ta tl tc)) := put6 HRES.out
    have HFG := HNO.out HF.out _ (HV.out _ HBP.out) HBP.out
    clear HBP
    go_wp2_with fail
    refine bodyPost_ret (ret_rd Try.results10 _ (g + 1) rfl _ _ _ _ _ _ _ HRP.out) rfl ?_
    exact HFG
  have f1 : decide (nx < 0) = false := by simp; omega
  by_cases q2 : (N : Int) < nx
  · have f2 : decide ((N : Int) < nx) = true := by simp [q2]
    have HF : Hid (setB N W nx ts = false) := setB_no fun h => by omega
    go_enter Try.func10, Try.ntmps10
    go_upto_region 1 with fail
    generalize ((w.alloc (.cells #[.int .i64 p, .int .i64 (S : Int), .int .i64 (W : Int), .int .i64 (N : Int), .int .i64 next, (.slice ta tl tc)] 31)).alloc Z31) = U at *
    obtain ⟨g, hg⟩ : ∃ g, w.heap.size = g := ⟨_, rfl⟩
    have HGE : Hid (w.heap.size = g) := hg
    rw [hg] at HN0 HV HNO HYES HSV H5
    rw [hg]
    clear hg
    obtain ⟨c0, c1, c2, c3, c4, c5⟩ := HN0.out.box.all
    have HRES : Hid (RB U (g + 1) 0 0 0 0 0 (.slice none 0 0)) := HN0.out.res
    have z0 : U.cell? ⟨g + 1, 0, none⟩ = some (.int .i64 0) := HRES.out.all.1
    have z1 : U.cell? ⟨g + 1, 1, none⟩ = some (.int .i64 0) := HRES.out.all.2.1
    have z2 : U.cell? ⟨g + 1, 2, none⟩ = some (.int .i64 0) := HRES.out.all.2.2.1
    have z3 : U.cell? ⟨g + 1, 3, none⟩ = some (.int .i64 0) := HRES.out.all.2.2.2.1
    have z4 : U.cell? ⟨g + 1, 4, none⟩ = some (.int .i64 0) := HRES.out.all.2.2.2.2.1
    have z5 : U.cell? ⟨g + 1, 5, none⟩ = some (.slice none 0 0) := HRES.out.all.2.2.2.2.2
    have y0 : U.frozen? ⟨g + 1, 0, none⟩ = false := HRES.out.frz 0
    have y1 : U.frozen? ⟨g + 1, 1, none⟩ = false := HRES.out.frz 1
    have y2 : U.frozen? ⟨g + 1, 2, none⟩ = false := HRES.out.frz 2
    have y3 : U.frozen? ⟨g + 1, 3, none⟩ = false := HRES.out.frz 3
    have y4 : U.frozen? ⟨g + 1, 4, none⟩ = false := HRES.out.frz 4
    have y5 : U.frozen? ⟨g + 1, 5, none⟩ = false := HRES.out.frz 5
    have HBP : Hid (Below g w ((((((U.setCell ⟨g + 1, 0, none⟩ (.int .i64 p)).setCell ⟨g + 1, 1, none⟩ (.int .i64 (S : Int))).setCell ⟨g + 1, 2, none⟩ (.int .i64 (W : Int))).setCell ⟨g + 1, 3, none⟩ (.int .i64 (N : Int))).setCell ⟨g + 1, 4, none⟩ (.int .i64 next)).setCell ⟨g + 1, 5, none⟩ (.slice ta tl tc))) := ((((((HN0.out.bel.setCell (p := ⟨g + 1, 0, none⟩) (show g ≤ g + 1 by omega) _).setCell (p := ⟨g + 1, 1, none⟩) (show g ≤ g + 1 by omega) _).setCell (p := ⟨g + 1, 2, none⟩) (show g ≤ g + 1 by omega) _).setCell (p := ⟨g + 1, 3, none⟩) (show g ≤ g + 1 by omega) _).setCell (p := ⟨g + 1, 4, none⟩) (show g ≤ g + 1 by omega) _).setCell (p := ⟨g + 1, 5, none⟩) (show g ≤ g + 1 by omega) _)
    have HRP : Hid (RB ((((((U.setCell ⟨g + 1, 0, none⟩ (.int .i64 p)).setCell ⟨g + 1, 1, none⟩ (.int .i64 (S : Int))).setCell ⟨g + 1, 2, none⟩ (.int .i64 (W : Int))).setCell ⟨g + 1, 3, none⟩ (.int .i64 (N : Int))).setCell ⟨g + 1, 4, none⟩ (.int .i64 next)).setCell ⟨g + 1, 5, none⟩ (.slice ta tl tc)) (g + 1) p (S : Int) (W : Int) (N : Int) next (.slice ta tl tc)) := put6 HRES.out
    have HFG := HNO.out HF.out _ (HV.out _ HBP.out) HBP.out
    clear HBP
    go_wp2_with fail
    refine bodyPost_ret (ret_rd Try.results10 _ (g + 1) rfl _ _ _ _ _ _ _ HRP.out) rfl ?_
    exact HFG
  have f2 : decide ((N : Int) < nx) = false := by simp; omega
  by_cases q3 : L = W
  · subst q3
    have HQ : Hid (0 ≤ nx ∧ nx ≤ (N : Int)) := by show _ ∧ _; omega
    clear q1 q2
    go_enter Try.func10, Try.ntmps10
    go_upto_region 1 with fail
    generalize ((w.alloc (.cells #[.int .i64 p, .int .i64 (S : Int), .int .i64 (L : Int), .int .i64 (N : Int), .int .i64 next, (.slice ta tl tc)] 31)).alloc Z31) = U at *
    obtain ⟨g, hg⟩ : ∃ g, w.heap.size = g := ⟨_, rfl⟩
    have HGE : Hid (w.heap.size = g) := hg
    rw [hg] at HN0 HV HNO HYES HSV H5
    rw [hg]
    clear hg
    obtain ⟨c0, c1, c2, c3, c4, c5⟩ := HN0.out.box.all
    go_wp2_with fail
    go_loopw [8] (fun i wr => ∃ q : Nat, i = .int .i64 (q : Int) ∧ q ≤ L ∧ Hid (NX w g p (S : Int) (L : Int) (N : Int) next (.slice ta tl tc) (.slice none 0 0) [] wr) ∧ Hid (∀ j, (h : j < ts.length) → j < q → 0 ≤ ts[j] ∧ ts[j] ≤ (N : Int))) (fun i _ => L - (intOf i).toNat)
    case atStart => exact ⟨0, rfl, Nat.zero_le _, HN0, fun j _ hj => absurd hj (by omega)⟩
    case round =>
      obtain ⟨q, rfl, hq, HX, HJ⟩ := hrel
      clear c0 c1 c2 c3 c4 c5
      obtain ⟨c0, c1, c2, c3, c4, c5⟩ := HX.out.box.all
      by_cases hlt : q < L
      · have e2 : decide (q < L) = true := by simp; omega
        have hqt : q < ts.length := by rw [HL.out]; exact hlt
        obtain rfl := H4.out (by omega)
        have cq := H5.out wr HX.out.bel q hqt
        obtain ⟨t, ht⟩ : ∃ t, ts[q] = t := ⟨_, rfl⟩
        have HT : Hid (ts[q] = t) := ht
        rw [ht] at cq
        clear ht
        have HXD : Hid (∀ m, NX w g p (S : Int) (L : Int) (N : Int) next (.slice ta tl tc) (.slice none 0 0) [] (wr.drewN m)) := fun m => HX.out.same (by rw [HGE.out]; exact Nat.le_refl _) (Below.dN (Below.refl _ _) m)
        by_cases g1 : t < 0
        · have k1 : decide (t < 0) = true := by simp [g1]
          have HF : Hid (setB N L nx ts = false) := setB_no fun h => by have := h.2.2 ts[q] (List.getElem_mem _); rw [HT.out] at this; omega
          go_wp2_with fail
          go_quiet (fail)
          have HXV : Hid (NX w g p (S : Int) (L : Int) (N : Int) next (.slice ta tl tc) (.slice none 0 0) [] (wr.drewN nq)) := HXD.out nq
          generalize wr.drewN nq = V at *
          clear c0 c1 c2 c3 c4 c5 cq
          obtain ⟨c0, c1, c2, c3, c4, c5⟩ := HXV.out.box.all
          have HRES : Hid (RB V (g + 1) 0 0 0 0 0 (.slice none 0 0)) := HXV.out.res
          have z0 : V.cell? ⟨g + 1, 0, none⟩ = some (.int .i64 0) := HRES.out.all.1
          have z1 : V.cell? ⟨g + 1, 1, none⟩ = some (.int .i64 0) := HRES.out.all.2.1
          have z2 : V.cell? ⟨g + 1, 2, none⟩ = some (.int .i64 0) := HRES.out.all.2.2.1
          have z3 : V.cell? ⟨g + 1, 3, none⟩ = some (.int .i64 0) := HRES.out.all.2.2.2.1
          have z4 : V.cell? ⟨g + 1, 4, none⟩ = some (.int .i64 0) := HRES.out.all.2.2.2.2.1
          have z5 : V.cell? ⟨g + 1, 5, none⟩ = some (.slice none 0 0) := HRES.out.all.2.2.2.2.2
          have y0 : V.frozen? ⟨g + 1, 0, none⟩ = false := HRES.out.frz 0
          have y1 : V.frozen? ⟨g + 1, 1, none⟩ = false := HRES.out.frz 1
          have y2 : V.frozen? ⟨g + 1, 2, none⟩ = false := HRES.out.frz 2
          have y3 : V.frozen? ⟨g + 1, 3, none⟩ = false := HRES.out.frz 3
          have y4 : V.frozen? ⟨g + 1, 4, none⟩ = false := HRES.out.frz 4
          have y5 : V.frozen? ⟨g + 1, 5, none⟩ = false := HRES.out.frz 5
          have HBP : Hid (Below g w ((((((V.setCell ⟨g + 1, 0, none⟩ (.int .i64 p)).setCell ⟨g + 1, 1, none⟩ (.int .i64 (S : Int))).setCell ⟨g + 1, 2, none⟩ (.int .i64 (L : Int))).setCell ⟨g + 1, 3, none⟩ (.int .i64 (N : Int))).setCell ⟨g + 1, 4, none⟩ (.int .i64 next)).setCell ⟨g + 1, 5, none⟩ (.slice ta tl tc))) := ((((((HXV.out.bel.setCell (p := ⟨g + 1, 0, none⟩) (show g ≤ g + 1 by omega) _).setCell (p := ⟨g + 1, 1, none⟩) (show g ≤ g + 1 by omega) _).setCell (p := ⟨g + 1, 2, none⟩) (show g ≤ g + 1 by omega) _).setCell (p := ⟨g + 1, 3, none⟩) (show g ≤ g + 1 by omega) _).setCell (p := ⟨g + 1, 4, none⟩) (show g ≤ g + 1 by omega) _).setCell (p := ⟨g + 1, 5, none⟩) (show g ≤ g + 1 by omega) _)
          have HRP : Hid (RB ((((((V.setCell ⟨g + 1, 0, none⟩ (.int .i64 p)).setCell ⟨g + 1, 1, none⟩ (.int .i64 (S : Int))).setCell ⟨g + 1, 2, none⟩ (.int .i64 (L : Int))).setCell ⟨g + 1, 3, none⟩ (.int .i64 (N : Int))).setCell ⟨g + 1, 4, none⟩ (.int .i64 next)).setCell ⟨g + 1, 5, none⟩ (.slice ta tl tc)) (g + 1) p (S : Int) (L : Int) (N : Int) next (.slice ta tl tc)) := put6 HRES.out
          have HFG := HNO.out HF.out _ (HV.out _ HBP.out) HBP.out
          clear HBP
          go_wp2_with fail
          refine bodyPost_ret (ret_rd Try.results10 _ (g + 1) rfl _ _ _ _ _ _ _ HRP.out) rfl ?_
          exact HFG
        · have k1 : decide (t < 0) = false := by simp; omega
          by_cases g2 : (N : Int) < t
          · have k2 : decide ((N : Int) < t) = true := by simp [g2]
            have HF : Hid (setB N L nx ts = false) := setB_no fun h => by have := h.2.2 ts[q] (List.getElem_mem _); rw [HT.out] at this; omega
            go_wp2_with fail
            go_quiet (fail)
            have HXV : Hid (NX w g p (S : Int) (L : Int) (N : Int) next (.slice ta tl tc) (.slice none 0 0) [] (wr.drewN nq)) := HXD.out nq
            generalize wr.drewN nq = V at *
            clear c0 c1 c2 c3 c4 c5 cq
            obtain ⟨c0, c1, c2, c3, c4, c5⟩ := HXV.out.box.all
            have HRES : Hid (RB V (g + 1) 0 0 0 0 0 (.slice none 0 0)) := HXV.out.res
            have z0 : V.cell? ⟨g + 1, 0, none⟩ = some (.int .i64 0) := HRES.out.all.1
            have z1 : V.cell? ⟨g + 1, 1, none⟩ = some (.int .i64 0) := HRES.out.all.2.1
            have z2 : V.cell? ⟨g + 1, 2, none⟩ = some (.int .i64 0) := HRES.out.all.2.2.1
            have z3 : V.cell? ⟨g + 1, 3, none⟩ = some (.int .i64 0) := HRES.out.all.2.2.2.1
            have z4 : V.cell? ⟨g + 1, 4, none⟩ = some (.int .i64 0) := HRES.out.all.2.2.2.2.1
            have z5 : V.cell? ⟨g + 1, 5, none⟩ = some (.slice none 0 0) := HRES.out.all.2.2.2.2.2
            have y0 : V.frozen? ⟨g + 1, 0, none⟩ = false := HRES.out.frz 0
            have y1 : V.frozen? ⟨g + 1, 1, none⟩ = false := HRES.out.frz 1
            have y2 : V.frozen? ⟨g + 1, 2, none⟩ = false := HRES.out.frz 2
            have y3 : V.frozen? ⟨g + 1, 3, none⟩ = false := HRES.out.frz 3
            have y4 : V.frozen? ⟨g + 1, 4, none⟩ = false := HRES.out.frz 4
            have y5 : V.frozen? ⟨g + 1, 5, none⟩ = false := HRES.out.frz 5
            have HBP : Hid (Below g w ((((((V.setCell ⟨g + 1, 0, none⟩ (.int .i64 p)).setCell ⟨g + 1, 1, none⟩ (.int .i64 (S : Int))).setCell ⟨g + 1, 2, none⟩ (.int .i64 (L : Int))).setCell ⟨g + 1, 3, none⟩ (.int .i64 (N : Int))).setCell ⟨g + 1, 4, none⟩ (.int .i64 next)).setCell ⟨g + 1, 5, none⟩ (.slice ta tl tc))) := ((((((HXV.out.bel.setCell (p := ⟨g + 1, 0, none⟩) (show g ≤ g + 1 by omega) _).setCell (p := ⟨g + 1, 1, none⟩) (show g ≤ g + 1 by omega) _).setCell (p := ⟨g + 1, 2, none⟩) (show g ≤ g + 1 by omega) _).setCell (p := ⟨g + 1, 3, none⟩) (show g ≤ g + 1 by omega) _).setCell (p := ⟨g + 1, 4, none⟩) (show g ≤ g + 1 by omega) _).setCell (p := ⟨g + 1, 5, none⟩) (show g ≤ g + 1 by omega) _)
            have HRP : Hid (RB ((((((V.setCell ⟨g + 1, 0, none⟩ (.int .i64 p)).setCell ⟨g + 1, 1, none⟩ (.int .i64 (S : Int))).setCell ⟨g + 1, 2, none⟩ (.int .i64 (L : Int))).setCell ⟨g + 1, 3, none⟩ (.int .i64 (N : Int))).setCell ⟨g + 1, 4, none⟩ (.int .i64 next)).setCell ⟨g + 1, 5, none⟩ (.slice ta tl tc)) (g + 1) p (S : Int) (L : Int) (N : Int) next (.slice ta tl tc)) := put6 HRES.out
            have HFG := HNO.out HF.out _ (HV.out _ HBP.out) HBP.out
            clear HBP
            go_wp2_with fail
            refine bodyPost_ret (ret_rd Try.results10 _ (g + 1) rfl _ _ _ _ _ _ _ HRP.out) rfl ?_
            exact HFG
          · have k2 : decide ((N : Int) < t) = false := by simp; omega
            have HWT : Hid (0 ≤ t ∧ t ≤ (N : Int)) := by show _ ∧ _; omega
            go_wp2_with fail
            go_quiet (fail)
            go_wp2_with fail
            go_roundw
            case rel =>
              refine ⟨q + 1, by go_num, by omega, HXD.out _, fun j h hj => ?_⟩
              rcases Nat.lt_or_ge j q with h1 | h1
              · exact HJ.out j h h1
              · have : j = q := by omega
                subst this
                rw [HT.out]; exact HWT.out
            case measure => simp [intOf]; omega
      · have e2 : decide (q < L) = false := by simp; omega
        have HF : Hid (setB N L nx ts = true) := setB_of HQ.out HL.out (fun t ht => by
          obtain ⟨j, hj, e⟩ := List.mem_iff_getElem.1 ht
          rw [← e]
          have := HL.out
          exact HJ.out j hj (by omega))
        have x4 : wr.frozen? ⟨g, 4, none⟩ = false := HX.out.box.frz 4
        have HX6 : Hid (NX w g p (S : Int) (L : Int) (N : Int) nx (.slice ta tl tc) (.slice none 0 0) [] (wr.setCell ⟨g, 4, none⟩ (.int .i64 nx))) :=
          ⟨HX.out.box.set4 nx, HX.out.res.other (show g + 1 ≠ g by omega) _ _, IZ.nil _ _, HX.out.bel.setCell (p := ⟨g, 4, none⟩) (Nat.le_refl g) _, by simpa [World.setCell] using HX.out.bs⟩
        go_upto_region 9 with fail
        generalize wr.setCell ⟨g, 4, none⟩ (.int .i64 nx) = V at *
        clear c0 c1 c2 c3 c4 c5 x4
        have HGU : Hid (GSl (V.alloc (.cells #[] 3)) (.slice va L vc) ts) := (HSV.out V HX6.out.bel).below (bl1 _ _)
        have HBU : Hid (g + 2 ≤ (V.alloc (.cells #[] 3)).heap.size) := by show _ ≤ _; have := HX6.out.bs; simp; omega
        have HEU : Hid (IZ (V.alloc (.cells #[] 3)) (g + 2) (.slice (some ⟨V.heap.size, 0, none⟩) 0 0) []) := IZ.empty V _ HX6.out.bs
        have HX7 : Hid (NX w g p (S : Int) (L : Int) (N : Int) nx (.slice ta tl tc) (.slice none 0 0) [] (V.alloc (.cells #[] 3))) := HX6.out.same (by rw [HGE.out]; exact Nat.le_refl _) (bl1 _ _)
        go_wp2_with (at_builtin; refine push_ints _ rfl _ _ rfl (g + 2) _ _ [] ts rfl rfl HEU.out HGU.out ?l1 HBU.out ?_)
        case l1 => rw [HL.out]; simp; omega
        intro v5 w5 hi5 hb5
        obtain ⟨a5, k5, hv5⟩ := hi5.sl
        rw [HL.out] at hv5
        rw [hv5] at hi5 ⊢
        have HX5 : Hid (NX w g p (S : Int) (L : Int) (N : Int) nx (.slice ta tl tc) (.slice a5 L k5) ts w5) := HX7.out.push hi5 hb5
        clear hi5 hb5 hv5
        obtain ⟨c0, c1, c2, c3, c4, c5⟩ := HX5.out.box.all
        have x5 : w5.frozen? ⟨g, 5, none⟩ = false := HX5.out.box.frz 5
        have HRES : Hid (RB w5 (g + 1) 0 0 0 0 0 (.slice none 0 0)) := HX5.out.res
        have z0 : w5.cell? ⟨g + 1, 0, none⟩ = some (.int .i64 0) := HRES.out.all.1
        have z1 : w5.cell? ⟨g + 1, 1, none⟩ = some (.int .i64 0) := HRES.out.all.2.1
        have z2 : w5.cell? ⟨g + 1, 2, none⟩ = some (.int .i64 0) := HRES.out.all.2.2.1
        have z3 : w5.cell? ⟨g + 1, 3, none⟩ = some (.int .i64 0) := HRES.out.all.2.2.2.1
        have z4 : w5.cell? ⟨g + 1, 4, none⟩ = some (.int .i64 0) := HRES.out.all.2.2.2.2.1
        have z5 : w5.cell? ⟨g + 1, 5, none⟩ = some (.slice none 0 0) := HRES.out.all.2.2.2.2.2
        have y0 : w5.frozen? ⟨g + 1, 0, none⟩ = false := HRES.out.frz 0
        have y1 : w5.frozen? ⟨g + 1, 1, none⟩ = false := HRES.out.frz 1
        have y2 : w5.frozen? ⟨g + 1, 2, none⟩ = false := HRES.out.frz 2
        have y3 : w5.frozen? ⟨g + 1, 3, none⟩ = false := HRES.out.frz 3
        have y4 : w5.frozen? ⟨g + 1, 4, none⟩ = false := HRES.out.frz 4
        have y5 : w5.frozen? ⟨g + 1, 5, none⟩ = false := HRES.out.frz 5
        have HRES8 : Hid (RB (w5.setCell ⟨g, 5, none⟩ (.slice a5 L k5)) (g + 1) 0 0 0 0 0 (.slice none 0 0)) := HX5.out.res.other (show g + 1 ≠ g by omega) _ _
        have HB8 : Hid (Below g w (w5.setCell ⟨g, 5, none⟩ (.slice a5 L k5))) := HX5.out.bel.setCell (p := ⟨g, 5, none⟩) (Nat.le_refl g) _
        have HBP : Hid (Below g w (((((((w5.setCell ⟨g, 5, none⟩ (.slice a5 L k5)).setCell ⟨g + 1, 0, none⟩ (.int .i64 p)).setCell ⟨g + 1, 1, none⟩ (.int .i64 (S : Int))).setCell ⟨g + 1, 2, none⟩ (.int .i64 (L : Int))).setCell ⟨g + 1, 3, none⟩ (.int .i64 (N : Int))).setCell ⟨g + 1, 4, none⟩ (.int .i64 nx)).setCell ⟨g + 1, 5, none⟩ (.slice a5 L k5))) := ((((((HB8.out.setCell (p := ⟨g + 1, 0, none⟩) (show g ≤ g + 1 by omega) _).setCell (p := ⟨g + 1, 1, none⟩) (show g ≤ g + 1 by omega) _).setCell (p := ⟨g + 1, 2, none⟩) (show g ≤ g + 1 by omega) _).setCell (p := ⟨g + 1, 3, none⟩) (show g ≤ g + 1 by omega) _).setCell (p := ⟨g + 1, 4, none⟩) (show g ≤ g + 1 by omega) _).setCell (p := ⟨g + 1, 5, none⟩) (show g ≤ g + 1 by omega) _)
        have HRP : Hid (RB (((((((w5.setCell ⟨g, 5, none⟩ (.slice a5 L k5)).setCell ⟨g + 1, 0, none⟩ (.int .i64 p)).setCell ⟨g + 1, 1, none⟩ (.int .i64 (S : Int))).setCell ⟨g + 1, 2, none⟩ (.int .i64 (L : Int))).setCell ⟨g + 1, 3, none⟩ (.int .i64 (N : Int))).setCell ⟨g + 1, 4, none⟩ (.int .i64 nx)).setCell ⟨g + 1, 5, none⟩ (.slice a5 L k5)) (g + 1) p (S : Int) (L : Int) (N : Int) nx (.slice a5 L k5)) := put6 HRES8.out
        have HOP : Hid (GSl (((((((w5.setCell ⟨g, 5, none⟩ (.slice a5 L k5)).setCell ⟨g + 1, 0, none⟩ (.int .i64 p)).setCell ⟨g + 1, 1, none⟩ (.int .i64 (S : Int))).setCell ⟨g + 1, 2, none⟩ (.int .i64 (L : Int))).setCell ⟨g + 1, 3, none⟩ (.int .i64 (N : Int))).setCell ⟨g + 1, 4, none⟩ (.int .i64 nx)).setCell ⟨g + 1, 5, none⟩ (.slice a5 L k5)) (.slice a5 L k5) ts) := (((((((HX5.out.row.other (show g < g + 2 by omega) 5 (.slice a5 L k5)).other (show g + 1 < g + 2 by omega) 0 _).other (show g + 1 < g + 2 by omega) 1 _).other (show g + 1 < g + 2 by omega) 2 _).other (show g + 1 < g + 2 by omega) 3 _).other (show g + 1 < g + 2 by omega) 4 _).other (show g + 1 < g + 2 by omega) 5 _).gsl
        have HFG := HYES.out HF.out _ _ HOP.out HBP.out (HX5.out.row.newV (by omega))
        clear HBP HOP
        go_wp2_with fail
        refine bodyPost_ret (ret_rd Try.results10 _ (g + 1) rfl _ _ _ _ _ _ _ HRP.out) rfl ?_
        exact HFG
  · have f3 : ((L : Int) != (W : Int)) = true := by simp; omega
    have HF : Hid (setB N W nx ts = false) := setB_no fun h => q3 (by rw [← HL.out]; exact h.2.1)
    go_enter Try.func10, Try.ntmps10
    go_upto_region 1 with fail
    generalize ((w.alloc (.cells #[.int .i64 p, .int .i64 (S : Int), .int .i64 (W : Int), .int .i64 (N : Int), .int .i64 next, (.slice ta tl tc)] 31)).alloc Z31) = U at *
    obtain ⟨g, hg⟩ : ∃ g, w.heap.size = g := ⟨_, rfl⟩
    have HGE : Hid (w.heap.size = g) := hg
    rw [hg] at HN0 HV HNO HYES HSV H5
    rw [hg]
    clear hg
    obtain ⟨c0, c1, c2, c3, c4, c5⟩ := HN0.out.box.all
    have HRES : Hid (RB U (g + 1) 0 0 0 0 0 (.slice none 0 0)) := HN0.out.res
    have z0 : U.cell? ⟨g + 1, 0, none⟩ = some (.int .i64 0) := HRES.out.all.1
    have z1 : U.cell? ⟨g + 1, 1, none⟩ = some (.int .i64 0) := HRES.out.all.2.1
    have z2 : U.cell? ⟨g + 1, 2, none⟩ = some (.int .i64 0) := HRES.out.all.2.2.1
    have z3 : U.cell? ⟨g + 1, 3, none⟩ = some (.int .i64 0) := HRES.out.all.2.2.2.1
    have z4 : U.cell? ⟨g + 1, 4, none⟩ = some (.int .i64 0) := HRES.out.all.2.2.2.2.1
    have z5 : U.cell? ⟨g + 1, 5, none⟩ = some (.slice none 0 0) := HRES.out.all.2.2.2.2.2
    have y0 : U.frozen? ⟨g + 1, 0, none⟩ = false := HRES.out.frz 0
    have y1 : U.frozen? ⟨g + 1, 1, none⟩ = false := HRES.out.frz 1
    have y2 : U.frozen? ⟨g + 1, 2, none⟩ = false := HRES.out.frz 2
    have y3 : U.frozen? ⟨g + 1, 3, none⟩ = false := HRES.out.frz 3
    have y4 : U.frozen? ⟨g + 1, 4, none⟩ = false := HRES.out.frz 4
    have y5 : U.frozen? ⟨g + 1, 5, none⟩ = false := HRES.out.frz 5
    have HBP : Hid (Below g w ((((((U.setCell ⟨g + 1, 0, none⟩ (.int .i64 p)).setCell ⟨g + 1, 1, none⟩ (.int .i64 (S : Int))).setCell ⟨g + 1, 2, none⟩ (.int .i64 (W : Int))).setCell ⟨g + 1, 3, none⟩ (.int .i64 (N : Int))).setCell ⟨g + 1, 4, none⟩ (.int .i64 next)).setCell ⟨g + 1, 5, none⟩ (.slice ta tl tc))) := ((((((HN0.out.bel.setCell (p := ⟨g + 1, 0, none⟩) (show g ≤ g + 1 by omega) _).setCell (p := ⟨g + 1, 1, none⟩) (show g ≤ g + 1 by omega) _).setCell (p := ⟨g + 1, 2, none⟩) (show g ≤ g + 1 by omega) _).setCell (p := ⟨g + 1, 3, none⟩) (show g ≤ g + 1 by omega) _).setCell (p := ⟨g + 1, 4, none⟩) (show g ≤ g + 1 by omega) _).setCell (p := ⟨g + 1, 5, none⟩) (show g ≤ g + 1 by omega) _)
    have HRP : Hid (RB ((((((U.setCell ⟨g + 1, 0, none⟩ (.int .i64 p)).setCell ⟨g + 1, 1, none⟩ (.int .i64 (S : Int))).setCell ⟨g + 1, 2, none⟩ (.int .i64 (W : Int))).setCell ⟨g + 1, 3, none⟩ (.int .i64 (N : Int))).setCell ⟨g + 1, 4, none⟩ (.int .i64 next)).setCell ⟨g + 1, 5, none⟩ (.slice ta tl tc)) (g + 1) p (S : Int) (W : Int) (N : Int) next (.slice ta tl tc)) := put6 HRES.out
    have HFG := HNO.out HF.out _ (HV.out _ HBP.out) HBP.out
    clear HBP
    go_wp2_with fail
    refine bodyPost_ret (ret_rd Try.results10 _ (g + 1) rfl _ _ _ _ _ _ _ HRP.out) rfl ?_
    exact HFG
end Go.Proofs.Ytamlnagipmomgab
