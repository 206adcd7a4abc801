/- The chapter's example of a graph. -/
import Derived.Test.YtongeppdaeekeaaGrU
namespace Go.Proofs.Ytongeppdaeekeaa
open Go.RowKit Go.Maps
set_option linter.unusedVariables false

/-- a graph made behind w -/
structure GM (w W : World) (gb room : Nat) (ev : Value) (E : Ed) : Prop where
  gv : GV W gb room ev E
  bl : Below w.heap.size w W
  nb : w.heap.size ≤ gb
  ne : ∀ g, ev.ownBlock = some g → w.heap.size ≤ g
section
variable {w W W' : World} {gb room : Nat} {ev : Value} {E E' : Ed}
theorem GM.below (h : GM w W gb room ev E) (b : Below W.heap.size W W') : GM w W' gb room ev E := ⟨h.gv.below b, h.bl.trans (b.mono h.bl.size), h.nb, h.ne⟩
theorem GM.below2 {A : Obj} (h : GM w W gb room ev E) (b : Below (W.alloc A).heap.size (W.alloc A) W') : GM w W' gb room ev E := (h.below (bl1 W A)).below b
theorem GM.step {x : Value} {e : Ending} (h : GM w W gb room ev E) (q : GQ W gb room ev E' x e W') : ∃ ev', e = .returned x ∧ GM w W' gb room ev' E' := by
  obtain ⟨ev2, e1, a, c, o⟩ := q
  refine ⟨ev2, e1, a, ⟨c.os.trans h.bl.os, c.tape.trans h.bl.tape, c.output.trans h.bl.output, Nat.le_trans h.bl.size c.size, fun k hk => (c.block k (by have := h.bl.size; omega) (fun r => ?_)).trans (h.bl.block k hk)⟩, h.nb, fun g hg => ?_⟩
  · rcases r with r | r
    · have := h.nb; omega
    · have := h.ne k r; omega
  · rcases o with r | ⟨n, h1, h2⟩
    · exact h.ne g (r ▸ hg)
    · rw [h2] at hg; injection hg with hg; have := h.bl.size; omega
end
theorem lit_rz (w : World) (l : List Int) (hl : l.length ≤ 100) : RS kZ (w.alloc (.cells (l.map (fun z => .int .i64 z)).toArray 3)) (.slice (some ⟨w.heap.size, 0, none⟩) l.length l.length) l := by
  refine ⟨some ⟨w.heap.size, 0, none⟩, l.length, w.heap.size, 0, rfl, Nat.le_refl _, by unfold maxLen; omega, fun _ => rfl, fun i hi j hj => ?_⟩
  have hj' : j < 1 := hj
  have hj0 : j = 0 := by omega
  subst hj0
  have e : 0 + (i * kZ.k + 0) = i := by show 0 + (i * 1 + 0) = i; omega
  rw [e, cell_of_row _ w.heap.size _ _ _ _ (heap_alloc_new _ _)]
  simp [kZ, uno, hi]
theorem exa1 : FallsOf [(3, 1), (4, 2), (5, 3)] 1 [1, 3, 5] := ⟨by decide, rfl, by decide, by decide⟩
theorem exa2 : FallsOf [(4, 2)] 1 [1] := ⟨by decide, rfl, by decide, by decide⟩
set_option maxRecDepth 100000 in
set_option maxHeartbeats 16000000 in
theorem alive38_any (w : World) : Calls Try.prog 38 #[] w (AN w (.bool true)) := by
  have HNQ := gnew_any 9 w
  have HF : Hid (∀ W, Below w.heap.size w W → AN w (.bool true) (.returned (.bool true)) W) := fun W hW => ⟨rfl, hW⟩
  generalize AN w (.bool true) = P at *
  go_enter Try.func38, Try.ntmps38
  go_wp2_with fail
  refine HNQ.mono ?_
  rintro e w1 ⟨b1, ⟨hb, _⟩ | ⟨_, gb, hgb, rfl, g1⟩⟩
  · omega
  have HM1 : Hid (GM w w1 gb 9 (.slice none 0 0) []) := ⟨g1, b1, hgb, fun g hg => by simp [Value.ownBlock] at hg⟩
  clear b1 hgb g1
  have HA := add_any HM1.out.gv 3 1
  rw [show addE 9 [] 3 1 = 0 from by decide +kernel, show addS 9 [] 3 1 = [(3, 1)] from by decide +kernel] at HA
  go_wp2_with fail
  refine HA.mono ?_
  intro e w2 q
  obtain ⟨ev2, rfl, m⟩ := HM1.out.step q
  have HM2 : Hid (GM w w2 gb 9 ev2 [(3, 1)]) := m
  clear q m HA HM1
  have HA := add_any HM2.out.gv 5 3
  rw [show addE 9 [(3, 1)] 5 3 = 0 from by decide +kernel, show addS 9 [(3, 1)] 5 3 = [(3, 1), (5, 3)] from by decide +kernel] at HA
  go_wp2_with fail
  refine HA.mono ?_
  intro e w3 q
  obtain ⟨ev3, rfl, m⟩ := HM2.out.step q
  have HM3 : Hid (GM w w3 gb 9 ev3 [(3, 1), (5, 3)]) := m
  clear q m HA HM2
  have HA := add_any HM3.out.gv 4 2
  rw [show addE 9 [(3, 1), (5, 3)] 4 2 = 0 from by decide +kernel, show addS 9 [(3, 1), (5, 3)] 4 2 = [(3, 1), (4, 2), (5, 3)] from by decide +kernel] at HA
  go_wp2_with fail
  refine HA.mono ?_
  intro e w4 q
  obtain ⟨ev4, rfl, m⟩ := HM3.out.step q
  have HM4 : Hid (GM w w4 gb 9 ev4 [(3, 1), (4, 2), (5, 3)]) := m
  clear q m HA HM3
  have HA := add_any HM4.out.gv 1 3
  rw [show addE 9 [(3, 1), (4, 2), (5, 3)] 1 3 = 230 from by decide +kernel, show addS 9 [(3, 1), (4, 2), (5, 3)] 1 3 = [(3, 1), (4, 2), (5, 3)] from by decide +kernel] at HA
  go_wp2_with fail
  refine HA.mono ?_
  intro e w5 q
  obtain ⟨ev5, rfl, m⟩ := HM4.out.step q
  have HM5 : Hid (GM w w5 gb 9 ev5 [(3, 1), (4, 2), (5, 3)]) := m
  clear q m HA HM4
  have HA := fall_any HM5.out.gv 1
  go_wp2_with fail
  refine HA.mono ?_
  rintro e w6 ⟨F, hF, v, rfl, hz, b, _⟩
  obtain rfl := FallsOf.one HM5.out.gv.ok.Up hF exa1
  have HM6 : Hid (GM w w6 gb 9 ev5 [(3, 1), (4, 2), (5, 3)]) := HM5.out.below b
  clear b hF HA HM5
  obtain ⟨a, c, e⟩ := hz.sl
  have e' : v = .slice a 3 c := e
  subst e'
  clear e
  have HRW : Hid (Calls Try.prog 31 #[.slice a 3 c, .slice (some ⟨w6.heap.size, 0, none⟩) 3 3] (w6.alloc (.cells #[.int .i64 1, .int .i64 3, .int .i64 5] 3)) (AN (w6.alloc (.cells #[.int .i64 1, .int .i64 3, .int .i64 5] 3)) (.bool true))) := rowZ_true (hz.rs.below (bl1 w6 _)) (lit_rz w6 [1, 3, 5] (by decide)) (by decide)
  clear hz
  go_wp2_with fail
  refine HRW.out.mono ?_
  rintro e w7 ⟨rfl, b⟩
  have HM7 := HM6.out.below2 b
  have HM7 : Hid (GM w w7 gb 9 ev5 [(3, 1), (4, 2), (5, 3)]) := HM7
  clear b HRW HM6
  have HA := readers_any HM7.out.gv 2
  rw [show readersOf [(3, 1), (4, 2), (5, 3)] 2 = [4] from by decide +kernel] at HA
  go_wp2_with fail
  refine HA.mono ?_
  rintro e w8 ⟨v, rfl, hz, b, _⟩
  have HM8 : Hid (GM w w8 gb 9 ev5 [(3, 1), (4, 2), (5, 3)]) := HM7.out.below b
  clear b HA HM7
  obtain ⟨a, c, e⟩ := hz.sl
  have e' : v = .slice a 1 c := e
  subst e'
  clear e
  have HRW : Hid (Calls Try.prog 31 #[.slice a 1 c, .slice (some ⟨w8.heap.size, 0, none⟩) 1 1] (w8.alloc (.cells #[.int .i64 4] 3)) (AN (w8.alloc (.cells #[.int .i64 4] 3)) (.bool true))) := rowZ_true (hz.rs.below (bl1 w8 _)) (lit_rz w8 [4] (by decide)) (by decide)
  clear hz
  go_wp2_with fail
  refine HRW.out.mono ?_
  rintro e w9 ⟨rfl, b⟩
  have HM9 := HM8.out.below2 b
  have HM9 : Hid (GM w w9 gb 9 ev5 [(3, 1), (4, 2), (5, 3)]) := HM9
  clear b HRW HM8
  have HA := rem_any HM9.out.gv 3
  rw [show ((([(3, 1), (4, 2), (5, 3)] : Ed).length : Int) - ((remS [(3, 1), (4, 2), (5, 3)] 3).length : Int)) = 2 from by decide +kernel, show remS [(3, 1), (4, 2), (5, 3)] 3 = [(4, 2)] from by decide +kernel] at HA
  go_wp2_with fail
  refine HA.mono ?_
  intro e w10 q
  obtain ⟨ev10, rfl, m⟩ := HM9.out.step q
  have HM10 : Hid (GM w w10 gb 9 ev10 [(4, 2)]) := m
  clear q m HA HM9
  have HA := fall_any HM10.out.gv 1
  go_wp2_with fail
  refine HA.mono ?_
  rintro e w11 ⟨F, hF, v, rfl, hz, b, _⟩
  obtain rfl := FallsOf.one HM10.out.gv.ok.Up hF exa2
  have HM11 : Hid (GM w w11 gb 9 ev10 [(4, 2)]) := HM10.out.below b
  clear b hF HA HM10
  obtain ⟨a, c, e⟩ := hz.sl
  have e' : v = .slice a 1 c := e
  subst e'
  clear e
  have HRW : Hid (Calls Try.prog 31 #[.slice a 1 c, .slice (some ⟨w11.heap.size, 0, none⟩) 1 1] (w11.alloc (.cells #[.int .i64 1] 3)) (AN (w11.alloc (.cells #[.int .i64 1] 3)) (.bool true))) := rowZ_true (hz.rs.below (bl1 w11 _)) (lit_rz w11 [1] (by decide)) (by decide)
  clear hz
  go_wp2_with fail
  refine HRW.out.mono ?_
  rintro e w12 ⟨rfl, b⟩
  have HM12 := HM11.out.below2 b
  have HM12 : Hid (GM w w12 gb 9 ev10 [(4, 2)]) := HM12
  clear b HRW HM11
  have HA := glen_any HM12.out.gv
  have HR : Hid (P (.returned (.bool true)) w12) := HF.out w12 HM12.out.bl
  clear HM12
  go_wp2_with fail
  refine HA.mono ?_
  rintro e w13 ⟨rfl, rfl⟩
  go_wp2
  first | exact HR.out | (go_ret; exact HR.out)
end Go.Proofs.Ytongeppdaeekeaa
