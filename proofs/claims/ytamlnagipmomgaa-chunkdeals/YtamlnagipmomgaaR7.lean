/- The document's Next of nobody, and its Set. -/
import Derived.Test.YtamlnagipmomgaaR4
import Derived.Test.YtamlnagipmomgaaR5
import Derived.Deep.CutRange
namespace Go.Proofs.Ytamlnagipmomgaa
open Go.RowKit Go.Maps
set_option linter.unusedVariables false

set_option maxRecDepth 100000 in
set_option maxHeartbeats 4000000 in
theorem rnext_none (p : Int) (S W N : Nat) (next : Int) (turns : List Int) (tv : Value) (wk : Int) (hlen : turns.length = W) (hin : ¬ (0 ≤ wk ∧ wk < (W : Int))) (w : World) (hv : GSl w tv turns) : Calls Try.prog 18 #[rdV p (S : Int) (W : Int) (N : Int) next tv, .int .i64 wk] w (RNQ p S W N next turns tv wk w) := by
  obtain ⟨e1, e2, e3⟩ := ask_none (p := p) (size := (S : Int)) (many := (N : Int)) (next := next) (turns := turns) (wk := wk) (by rw [hlen]; exact hin)
  have HFIN : Hid (∀ V, GSl V tv turns → Below w.heap.size w V → RNQ p S W N next turns tv wk w (.returned (.tuple #[rdV p (S : Int) (W : Int) (N : Int) next tv, .slice none 0 0])) V) := fun V h1 h2 => ⟨tv, _, by rw [e2], by rw [e3]; exact h1, .inl rfl, ⟨0, 0, e1, by omega, by omega, GSl.nil _⟩, (fun a l c e => by cases e), h2⟩
  obtain ⟨ta, tl, tc, rfl⟩ : ∃ a l c, tv = Value.slice a l c := by obtain ⟨a, c, _, _, e, _⟩ := hv; exact ⟨_, _, _, e⟩
  have HV : Hid (∀ V, Below w.heap.size w V → GSl V (.slice ta tl tc) turns) := fun V hV => hv.below hV
  generalize RNQ p S W N next turns (.slice ta tl tc) wk w = P at *
  have HN0 : Hid (NX w w.heap.size p (S : Int) (W : Int) (N : Int) next (.slice ta tl tc) (.slice none 0 0) [] ((w.alloc (.cells #[.int .i64 p, .int .i64 (S : Int), .int .i64 (W : Int), .int .i64 (N : Int), .int .i64 next, (.slice ta tl tc)] 49)).alloc Z31)) := NX.first w _ _ _ _ _ _
  unfold rdV
  clear e1 e2 e3 hv hlen
  by_cases q1 : wk < 0
  · have f1 : decide (wk < 0) = true := by simp [q1]
    clear hin
    go_enter Try.func18, Try.ntmps18
    go_upto_region 1 with fail
    generalize ((w.alloc (.cells #[.int .i64 p, .int .i64 (S : Int), .int .i64 (W : Int), .int .i64 (N : Int), .int .i64 next, (.slice ta tl tc)] 49)).alloc Z31) = U at *
    obtain ⟨g, hg⟩ : ∃ g, w.heap.size = g := ⟨_, rfl⟩
    rw [hg] at HN0 HV HFIN
    rw [hg]
    clear hg
    obtain ⟨c0, c1, c2, c3, c4, c5⟩ := HN0.out.box.all
    have HRES : Hid (RB U (g + 1) 0 0 0 0 0 (.slice none 0 0)) := HN0.out.res
    have z0 : U.cell? ⟨g + 1, 0, none⟩ = some (.int .i64 0) := HRES.out.all.1
    have z1 : U.cell? ⟨g + 1, 1, none⟩ = some (.int .i64 0) := HRES.out.all.2.1
    have z2 : U.cell? ⟨g + 1, 2, none⟩ = some (.int .i64 0) := HRES.out.all.2.2.1
    have z3 : U.cell? ⟨g + 1, 3, none⟩ = some (.int .i64 0) := HRES.out.all.2.2.2.1
    have z4 : U.cell? ⟨g + 1, 4, none⟩ = some (.int .i64 0) := HRES.out.all.2.2.2.2.1
    have z5 : U.cell? ⟨g + 1, 5, none⟩ = some (.slice none 0 0) := HRES.out.all.2.2.2.2.2
    have y0 : U.frozen? ⟨g + 1, 0, none⟩ = false := HRES.out.frz 0
    have y1 : U.frozen? ⟨g + 1, 1, none⟩ = false := HRES.out.frz 1
    have y2 : U.frozen? ⟨g + 1, 2, none⟩ = false := HRES.out.frz 2
    have y3 : U.frozen? ⟨g + 1, 3, none⟩ = false := HRES.out.frz 3
    have y4 : U.frozen? ⟨g + 1, 4, none⟩ = false := HRES.out.frz 4
    have y5 : U.frozen? ⟨g + 1, 5, none⟩ = false := HRES.out.frz 5
    have HBP : Hid (Below g w ((((((U.setCell ⟨g + 1, 0, none⟩ (.int .i64 p)).setCell ⟨g + 1, 1, none⟩ (.int .i64 (S : Int))).setCell ⟨g + 1, 2, none⟩ (.int .i64 (W : Int))).setCell ⟨g + 1, 3, none⟩ (.int .i64 (N : Int))).setCell ⟨g + 1, 4, none⟩ (.int .i64 next)).setCell ⟨g + 1, 5, none⟩ (.slice ta tl tc))) := ((((((HN0.out.bel.setCell (p := ⟨g + 1, 0, none⟩) (show g ≤ g + 1 by omega) _).setCell (p := ⟨g + 1, 1, none⟩) (show g ≤ g + 1 by omega) _).setCell (p := ⟨g + 1, 2, none⟩) (show g ≤ g + 1 by omega) _).setCell (p := ⟨g + 1, 3, none⟩) (show g ≤ g + 1 by omega) _).setCell (p := ⟨g + 1, 4, none⟩) (show g ≤ g + 1 by omega) _).setCell (p := ⟨g + 1, 5, none⟩) (show g ≤ g + 1 by omega) _)
    have HRP : Hid (RB ((((((U.setCell ⟨g + 1, 0, none⟩ (.int .i64 p)).setCell ⟨g + 1, 1, none⟩ (.int .i64 (S : Int))).setCell ⟨g + 1, 2, none⟩ (.int .i64 (W : Int))).setCell ⟨g + 1, 3, none⟩ (.int .i64 (N : Int))).setCell ⟨g + 1, 4, none⟩ (.int .i64 next)).setCell ⟨g + 1, 5, none⟩ (.slice ta tl tc)) (g + 1) p (S : Int) (W : Int) (N : Int) next (.slice ta tl tc)) := put6 HRES.out
    have HFG := HFIN.out _ (HV.out _ HBP.out) HBP.out
    clear HBP
    go_wp2_with fail
    refine bodyPost_ret (ret_rd Try.results18 _ (g + 1) rfl _ _ _ _ _ _ _ HRP.out) rfl ?_
    exact HFG
  · have f1 : decide (wk < 0) = false := by simp; omega
    have f2 : decide ((W : Int) ≤ wk) = true := by simp; omega
    clear hin
    go_enter Try.func18, Try.ntmps18
    go_upto_region 1 with fail
    generalize ((w.alloc (.cells #[.int .i64 p, .int .i64 (S : Int), .int .i64 (W : Int), .int .i64 (N : Int), .int .i64 next, (.slice ta tl tc)] 49)).alloc Z31) = U at *
    obtain ⟨g, hg⟩ : ∃ g, w.heap.size = g := ⟨_, rfl⟩
    rw [hg] at HN0 HV HFIN
    rw [hg]
    clear hg
    obtain ⟨c0, c1, c2, c3, c4, c5⟩ := HN0.out.box.all
    have HRES : Hid (RB U (g + 1) 0 0 0 0 0 (.slice none 0 0)) := HN0.out.res
    have z0 : U.cell? ⟨g + 1, 0, none⟩ = some (.int .i64 0) := HRES.out.all.1
    have z1 : U.cell? ⟨g + 1, 1, none⟩ = some (.int .i64 0) := HRES.out.all.2.1
    have z2 : U.cell? ⟨g + 1, 2, none⟩ = some (.int .i64 0) := HRES.out.all.2.2.1
    have z3 : U.cell? ⟨g + 1, 3, none⟩ = some (.int .i64 0) := HRES.out.all.2.2.2.1
    have z4 : U.cell? ⟨g + 1, 4, none⟩ = some (.int .i64 0) := HRES.out.all.2.2.2.2.1
    have z5 : U.cell? ⟨g + 1, 5, none⟩ = some (.slice none 0 0) := HRES.out.all.2.2.2.2.2
    have y0 : U.frozen? ⟨g + 1, 0, none⟩ = false := HRES.out.frz 0
    have y1 : U.frozen? ⟨g + 1, 1, none⟩ = false := HRES.out.frz 1
    have y2 : U.frozen? ⟨g + 1, 2, none⟩ = false := HRES.out.frz 2
    have y3 : U.frozen? ⟨g + 1, 3, none⟩ = false := HRES.out.frz 3
    have y4 : U.frozen? ⟨g + 1, 4, none⟩ = false := HRES.out.frz 4
    have y5 : U.frozen? ⟨g + 1, 5, none⟩ = false := HRES.out.frz 5
    have HBP : Hid (Below g w ((((((U.setCell ⟨g + 1, 0, none⟩ (.int .i64 p)).setCell ⟨g + 1, 1, none⟩ (.int .i64 (S : Int))).setCell ⟨g + 1, 2, none⟩ (.int .i64 (W : Int))).setCell ⟨g + 1, 3, none⟩ (.int .i64 (N : Int))).setCell ⟨g + 1, 4, none⟩ (.int .i64 next)).setCell ⟨g + 1, 5, none⟩ (.slice ta tl tc))) := ((((((HN0.out.bel.setCell (p := ⟨g + 1, 0, none⟩) (show g ≤ g + 1 by omega) _).setCell (p := ⟨g + 1, 1, none⟩) (show g ≤ g + 1 by omega) _).setCell (p := ⟨g + 1, 2, none⟩) (show g ≤ g + 1 by omega) _).setCell (p := ⟨g + 1, 3, none⟩) (show g ≤ g + 1 by omega) _).setCell (p := ⟨g + 1, 4, none⟩) (show g ≤ g + 1 by omega) _).setCell (p := ⟨g + 1, 5, none⟩) (show g ≤ g + 1 by omega) _)
    have HRP : Hid (RB ((((((U.setCell ⟨g + 1, 0, none⟩ (.int .i64 p)).setCell ⟨g + 1, 1, none⟩ (.int .i64 (S : Int))).setCell ⟨g + 1, 2, none⟩ (.int .i64 (W : Int))).setCell ⟨g + 1, 3, none⟩ (.int .i64 (N : Int))).setCell ⟨g + 1, 4, none⟩ (.int .i64 next)).setCell ⟨g + 1, 5, none⟩ (.slice ta tl tc)) (g + 1) p (S : Int) (W : Int) (N : Int) next (.slice ta tl tc)) := put6 HRES.out
    have HFG := HFIN.out _ (HV.out _ HBP.out) HBP.out
    clear HBP
    go_wp2_with fail
    refine bodyPost_ret (ret_rd Try.results18 _ (g + 1) rfl _ _ _ _ _ _ _ HRP.out) rfl ?_
    exact HFG

end Go.Proofs.Ytamlnagipmomgaa
