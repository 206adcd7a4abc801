/- The world does what is wanted of it. -/
import Derived.Test.YtkcncngcmhldpaaEfM
import Derived.Deep.DeepCutAuto
namespace Go.Proofs.Ytkcncngcmhldpaa
open Go.RowKit Go.Maps
set_option linter.unusedVariables false
def MeetP (B wb : Nat) (E : Ef) (T : Wt) (w : World) (e : Ending) (w' : World) : Prop :=
  e = .returned (.int .i64 (gotE E T)) ∧ (∃ mv ov nv, EF w' 93 B wb mv ov nv (doE E T)) ∧ Below B w w'

set_option maxRecDepth 100000 in
set_option maxHeartbeats 2000000 in
theorem meet_load (B wb p : Nat) (E : Ef) (val : Int) (mv ov nv : Value) (hp : p < E.mem.length) (hm : E.mem.length ≤ 64) (w : World) (h : EF w 93 B wb mv ov nv E) (hB : B ≤ w.heap.size) : Calls Try.prog 39 #[.pointer (some ⟨wb, 0, none⟩), wtV ⟨1, p, val⟩] w (MeetP B wb E ⟨1, p, val⟩ w) := by
  have HE : Hid (∀ o, EF (w.alloc o) 93 B wb mv ov nv E) := fun o => h.alloc o
  obtain ⟨g, cap, rfl, hg, hgw, hc, hcm, hcl, hfz⟩ := h.mem (by omega)
  have c0 := h.c0
  have cg := hcl p hp
  have e1 : gotE E ⟨1, p, val⟩ = E.mem[p] := by
    unfold gotE
    rw [if_pos rfl]
    simp [List.getD, hp]
  unfold MeetP
  rw [e1, show doE E ⟨1, p, val⟩ = E from rfl]
  clear e1 hcl hfz
  generalize E.mem[p] = z at cg
  generalize E.mem.length = N at hp hm c0 hc
  unfold wtV
  clear h
  go_enter Try.func39, Try.ntmps39
  go_wp2
  obtain ⟨W, hW⟩ : ∃ W, w.alloc (Obj.cells #[Value.int IntKind.i64 1, Value.int IntKind.i64 p, Value.int IntKind.i64 val] 35) = W := ⟨_, rfl⟩
  have HEW : Hid (EF W 93 B wb (.slice (some ⟨g, 0, none⟩) E.mem.length cap) ov nv E) := by rw [← hW]; exact HE.out _
  have HBW : Hid (Below w.heap.size w W) := by rw [← hW]; exact (Below.refl _ _).alloc (Nat.le_refl _) _
  have x1 : W.cell? ⟨w.heap.size, 1, none⟩ = some (.int .i64 p) := by rw [← hW, cell_of_row _ _ 1 _ _ _ (heap_alloc_new w _)]; rfl
  have y0 : W.cell? ⟨wb, 0, none⟩ = some (.slice (some ⟨g, 0, none⟩) N cap) := (HBW.out.cell (p := ⟨wb, 0, none⟩) (World.block_lt_of_cell? w _ c0)).trans c0
  have yg : W.cell? ⟨g, p, none⟩ = some (.int .i64 z) := (HBW.out.cell (p := ⟨g, p, none⟩) (World.block_lt_of_cell? w _ cg)).trans cg
  rw [hW]
  clear hW c0 cg HE
  go_region_held3 (fun w' => w'.cell? ⟨wb, 0, none⟩ = some (.slice (some ⟨g, 0, none⟩) N cap) ∧ w'.cell? ⟨w.heap.size, 1, none⟩ = some (.int .i64 p) ∧ w'.cell? ⟨g, p, none⟩ = some (.int .i64 z)) (go_keep) (fail)
  go_wp2
  go_ret
  exact ⟨rfl, ⟨_, _, _, HEW.out.drew⟩, (HBW.out.mono (by omega)).drew⟩

set_option maxRecDepth 100000 in
set_option maxHeartbeats 2000000 in
theorem meet_store (B wb p : Nat) (E : Ef) (val : Int) (mv ov nv : Value) (hp : p < E.mem.length) (hm : E.mem.length ≤ 64) (w : World) (h : EF w 93 B wb mv ov nv E) (hB : B ≤ w.heap.size) : Calls Try.prog 39 #[.pointer (some ⟨wb, 0, none⟩), wtV ⟨2, p, val⟩] w (MeetP B wb E ⟨2, p, val⟩ w) := by
  obtain ⟨g, cap, rfl, hg, hgw, hc, hcm, hcl, hfz⟩ := h.mem (by omega)
  have HE : Hid (∀ o, EF ((w.alloc o).setCell ⟨g, p, none⟩ (.int .i64 val)) 93 B wb (.slice (some ⟨g, 0, none⟩) E.mem.length cap) ov nv (doE E ⟨2, p, val⟩)) := fun o => (h.alloc o).put rfl p hp val
  have hfp := hfz p
  have c0 := h.c0
  have cg := hcl p hp
  have e1 : gotE E ⟨2, p, val⟩ = 0 := rfl
  unfold MeetP
  rw [e1]
  have HL : Hid (E.mem.length = E.mem.length) := rfl
  clear hcl hfz e1 h
  generalize E.mem[p] = z at cg
  generalize doE E ⟨2, p, val⟩ = E' at HE
  generalize E.mem.length = N at hp hm c0 hc HE
  unfold wtV
  go_enter Try.func39, Try.ntmps39
  go_wp2
  obtain ⟨W, hW⟩ : ∃ W, w.alloc (Obj.cells #[Value.int IntKind.i64 2, Value.int IntKind.i64 p, Value.int IntKind.i64 val] 35) = W := ⟨_, rfl⟩
  have HEW : Hid (EF (W.setCell ⟨g, p, none⟩ (.int .i64 val)) 93 B wb (.slice (some ⟨g, 0, none⟩) N cap) ov nv E') := by rw [← hW]; exact HE.out _
  have HBW : Hid (Below w.heap.size w W) := by rw [← hW]; exact (Below.refl _ _).alloc (Nat.le_refl _) _
  have x1 : W.cell? ⟨w.heap.size, 1, none⟩ = some (.int .i64 p) := by rw [← hW, cell_of_row _ _ 1 _ _ _ (heap_alloc_new w _)]; rfl
  have x2 : W.cell? ⟨w.heap.size, 2, none⟩ = some (.int .i64 val) := by rw [← hW, cell_of_row _ _ 2 _ _ _ (heap_alloc_new w _)]; rfl
  have y0 : W.cell? ⟨wb, 0, none⟩ = some (.slice (some ⟨g, 0, none⟩) N cap) := (HBW.out.cell (p := ⟨wb, 0, none⟩) (World.block_lt_of_cell? w _ c0)).trans c0
  have yg : W.cell? ⟨g, p, none⟩ = some (.int .i64 z) := (HBW.out.cell (p := ⟨g, p, none⟩) (World.block_lt_of_cell? w _ cg)).trans cg
  have yf : W.frozen? ⟨g, p, none⟩ = false := (World.frozen?_of_block (a := ⟨g, p, none⟩) (HBW.out.block g (World.block_lt_of_cell? w ⟨g, p, none⟩ cg))).trans hfp
  have ygd : W.drew.cell? ⟨g, p, none⟩ = some (.int .i64 z) := yg
  have hgl : g < w.heap.size := World.block_lt_of_cell? w ⟨g, p, none⟩ cg
  have hn1 : ¬ w.heap.size = g := by omega
  have hn2 : ¬ g = w.heap.size := by omega
  rw [hW]
  clear hW c0 cg HE hfp
  go_region_held3 (fun w' => w'.cell? ⟨wb, 0, none⟩ = some (.slice (some ⟨g, 0, none⟩) N cap) ∧ w'.cell? ⟨w.heap.size, 1, none⟩ = some (.int .i64 p) ∧ w'.cell? ⟨w.heap.size, 2, none⟩ = some (.int .i64 val) ∧ w'.frozen? ⟨g, p, none⟩ = false) (go_keep) (fail)
  go_wp2
  go_ret
  exact ⟨rfl, ⟨_, _, _, HEW.out.drew⟩, (below_put (HBW.out.mono (by omega)) hg).drew⟩

set_option maxRecDepth 100000 in
set_option maxHeartbeats 2000000 in
theorem meet_none (B wb : Nat) (E : Ef) (T : Wt) (hk : T.kind ≠ 1 ∧ T.kind ≠ 2 ∧ T.kind ≠ 3 ∧ T.kind ≠ 4) (mv ov nv : Value) (w : World) (h : EF w 93 B wb mv ov nv E) (hB : B ≤ w.heap.size) : Calls Try.prog 39 #[.pointer (some ⟨wb, 0, none⟩), wtV T] w (MeetP B wb E T w) := by
  have HE : Hid (∀ o, EF (w.alloc o) 93 B wb mv ov nv E) := fun o => h.alloc o
  have e1 : gotE E T = 0 := by unfold gotE; rw [if_neg hk.1]
  have e2 : doE E T = E := by unfold doE; rw [if_neg hk.2.1, if_neg hk.2.2.1, if_neg hk.2.2.2]
  unfold MeetP
  rw [e1, e2]
  obtain ⟨kd, ps, vl⟩ := T
  obtain ⟨k1, k2, k3, k4⟩ := hk
  have d1 : (kd == 1) = false := by simpa using k1
  have d2 : (kd == 2) = false := by simpa using k2
  have d3 : (kd == 3) = false := by simpa using k3
  have d4 : (kd == 4) = false := by simpa using k4
  unfold wtV
  clear e1 e2 h
  go_enter Try.func39, Try.ntmps39
  go_wp2
  go_ret
  exact ⟨rfl, ⟨_, _, _, HE.out _⟩, (Below.refl _ _).alloc hB _⟩
end Go.Proofs.Ytkcncngcmhldpaa
