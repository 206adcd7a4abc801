/- The world puts out, and in. -/
import Derived.Test.YtkcncngcmhldpaaEfM
import Derived.Deep.DeepCutAuto
namespace Go.Proofs.Ytkcncngcmhldpaa
open Go.RowKit Go.Maps
set_option linter.unusedVariables false
def MeetP (B wb : Nat) (E : Ef) (T : Wt) (w : World) (e : Ending) (w' : World) : Prop :=
  e = .returned (.int .i64 (gotE E T)) ∧ (∃ mv ov nv, EF w' 93 B wb mv ov nv (doE E T)) ∧ Below B w w'

set_option maxRecDepth 100000 in
set_option maxHeartbeats 2000000 in
theorem meet_load (B wb p : Nat) (E : Ef) (val : Int) (mv ov nv : Value) (hp : p < E.mem.length) (hm : E.mem.length ≤ 64) (w : World) (h : EF w 93 B wb mv ov nv E) (hB : B ≤ w.heap.size) : Calls Try.prog 39 #[.pointer (some ⟨wb, 0, none⟩), wtV ⟨1, p, val⟩] w (MeetP B wb E ⟨1, p, val⟩ w) := by
  have HE : Hid (∀ o, EF (w.alloc o) 93 B wb mv ov nv E) := fun o => h.alloc o
  obtain ⟨g, cap, rfl, hg, hgw, hc, hcm, hcl, hfz⟩ := h.mem (by omega)
  have c0 := h.c0
  have cg := hcl p hp
  have e1 : gotE E ⟨1, p, val⟩ = E.mem[p] := by
    unfold gotE
    rw [if_pos rfl]
    simp [List.getD, hp]
  unfold MeetP
  rw [e1, show doE E ⟨1, p, val⟩ = E from rfl]
  clear e1 hcl hfz
  generalize E.mem[p] = z at cg
  generalize E.mem.length = N at hp hm c0 hc
  unfold wtV
  clear h
  go_enter Try.func39, Try.ntmps39
  go_wp2
  obtain ⟨W, hW⟩ : ∃ W, w.alloc (Obj.cells #[Value.int IntKind.i64 1, Value.int IntKind.i64 p, Value.int IntKind.i64 val] 35) = W := ⟨_, rfl⟩
  have HEW : Hid (EF W 93 B wb (.slice (some ⟨g, 0, none⟩) E.mem.length cap) ov nv E) := by rw [← hW]; exact HE.out _
  have HBW : Hid (Below w.heap.size w W) := by rw [← hW]; exact (Below.refl _ _).alloc (Nat.le_refl _) _
  have x1 : W.cell? ⟨w.heap.size, 1, none⟩ = some (.int .i64 p) := by rw [← hW, cell_of_row _ _ 1 _ _ _ (heap_alloc_new w _)]; rfl
  have y0 : W.cell? ⟨wb, 0, none⟩ = some (.slice (some ⟨g, 0, none⟩) N cap) := (HBW.out.cell (p := ⟨wb, 0, none⟩) (World.block_lt_of_cell? w _ c0)).trans c0
  have yg : W.cell? ⟨g, p, none⟩ = some (.int .i64 z) := (HBW.out.cell (p := ⟨g, p, none⟩) (World.block_lt_of_cell? w _ cg)).trans cg
  rw [hW]
  clear hW c0 cg HE
  go_region_held3 (fun w' => w'.cell? ⟨wb, 0, none⟩ = some (.slice (some ⟨g, 0, none⟩) N cap) ∧ w'.cell? ⟨w.heap.size, 1, none⟩ = some (.int .i64 p) ∧ w'.cell? ⟨g, p, none⟩ = some (.int .i64 z)) (go_keep) (fail)
  go_wp2
  go_ret
  exact ⟨rfl, ⟨_, _, _, HEW.out.drew⟩, (HBW.out.mono (by omega)).drew⟩

set_option maxRecDepth 100000 in
set_option maxHeartbeats 2000000 in
theorem meet_store (B wb p : Nat) (E : Ef) (val : Int) (mv ov nv : Value) (hp : p < E.mem.length) (hm : E.mem.length ≤ 64) (w : World) (h : EF w 93 B wb mv ov nv E) (hB : B ≤ w.heap.size) : Calls Try.prog 39 #[.pointer (some ⟨wb, 0, none⟩), wtV ⟨2, p, val⟩] w (MeetP B wb E ⟨2, p, val⟩ w) := by
  obtain ⟨g, cap, rfl, hg, hgw, hc, hcm, hcl, hfz⟩ := h.mem (by omega)
  have HE : Hid (∀ o, EF ((w.alloc o).setCell ⟨g, p, none⟩ (.int .i64 val)) 93 B wb (.slice (some ⟨g, 0, none⟩) E.mem.length cap) ov nv (doE E ⟨2, p, val⟩)) := fun o => (h.alloc o).put rfl p hp val
  have hfp := hfz p
  have c0 := h.c0
  have cg := hcl p hp
  have e1 : gotE E ⟨2, p, val⟩ = 0 := rfl
  unfold MeetP
  rw [e1]
  have HL : Hid (E.mem.length = E.mem.length) := rfl
  clear hcl hfz e1 h
  generalize E.mem[p] = z at cg
  generalize doE E ⟨2, p, val⟩ = E' at HE
  generalize E.mem.length = N at hp hm c0 hc HE
  unfold wtV
  go_enter Try.func39, Try.ntmps39
  go_wp2
  obtain ⟨W, hW⟩ : ∃ W, w.alloc (Obj.cells #[Value.int IntKind.i64 2, Value.int IntKind.i64 p, Value.int IntKind.i64 val] 35) = W := ⟨_, rfl⟩
  have HEW : Hid (EF (W.setCell ⟨g, p, none⟩ (.int .i64 val)) 93 B wb (.slice (some ⟨g, 0, none⟩) N cap) ov nv E') := by rw [← hW]; exact HE.out _
  have HBW : Hid (Below w.heap.size w W) := by rw [← hW]; exact (Below.refl _ _).alloc (Nat.le_refl _) _
  have x1 : W.cell? ⟨w.heap.size, 1, none⟩ = some (.int .i64 p) := by rw [← hW, cell_of_row _ _ 1 _ _ _ (heap_alloc_new w _)]; rfl
  have x2 : W.cell? ⟨w.heap.size, 2, none⟩ = some (.int .i64 val) := by rw [← hW, cell_of_row _ _ 2 _ _ _ (heap_alloc_new w _)]; rfl
  have y0 : W.cell? ⟨wb, 0, none⟩ = some (.slice (some ⟨g, 0, none⟩) N cap) := (HBW.out.cell (p := ⟨wb, 0, none⟩) (World.block_lt_of_cell? w _ c0)).trans c0
  have yg : W.cell? ⟨g, p, none⟩ = some (.int .i64 z) := (HBW.out.cell (p := ⟨g, p, none⟩) (World.block_lt_of_cell? w _ cg)).trans cg
  have yf : W.frozen? ⟨g, p, none⟩ = false := (World.frozen?_of_block (a := ⟨g, p, none⟩) (HBW.out.block g (World.block_lt_of_cell? w ⟨g, p, none⟩ cg))).trans hfp
  have ygd : W.drew.cell? ⟨g, p, none⟩ = some (.int .i64 z) := yg
  have hgl : g < w.heap.size := World.block_lt_of_cell? w ⟨g, p, none⟩ cg
  have hn1 : ¬ w.heap.size = g := by omega
  have hn2 : ¬ g = w.heap.size := by omega
  rw [hW]
  clear hW c0 cg HE hfp
  go_region_held3 (fun w' => w'.cell? ⟨wb, 0, none⟩ = some (.slice (some ⟨g, 0, none⟩) N cap) ∧ w'.cell? ⟨w.heap.size, 1, none⟩ = some (.int .i64 p) ∧ w'.cell? ⟨w.heap.size, 2, none⟩ = some (.int .i64 val) ∧ w'.frozen? ⟨g, p, none⟩ = false) (go_keep) (fail)
  go_wp2
  go_ret
  exact ⟨rfl, ⟨_, _, _, HEW.out.drew⟩, (below_put (HBW.out.mono (by omega)) hg).drew⟩

set_option maxRecDepth 100000 in
set_option maxHeartbeats 2000000 in
theorem meet_none (B wb : Nat) (E : Ef) (T : Wt) (hk : T.kind ≠ 1 ∧ T.kind ≠ 2 ∧ T.kind ≠ 3 ∧ T.kind ≠ 4) (mv ov nv : Value) (w : World) (h : EF w 93 B wb mv ov nv E) (hB : B ≤ w.heap.size) : Calls Try.prog 39 #[.pointer (some ⟨wb, 0, none⟩), wtV T] w (MeetP B wb E T w) := by
  have HE : Hid (∀ o, EF (w.alloc o) 93 B wb mv ov nv E) := fun o => h.alloc o
  have e1 : gotE E T = 0 := by unfold gotE; rw [if_neg hk.1]
  have e2 : doE E T = E := by unfold doE; rw [if_neg hk.2.1, if_neg hk.2.2.1, if_neg hk.2.2.2]
  unfold MeetP
  rw [e1, e2]
  obtain ⟨kd, ps, vl⟩ := T
  obtain ⟨k1, k2, k3, k4⟩ := hk
  have d1 : (kd == 1) = false := by simpa using k1
  have d2 : (kd == 2) = false := by simpa using k2
  have d3 : (kd == 3) = false := by simpa using k3
  have d4 : (kd == 4) = false := by simpa using k4
  unfold wtV
  clear e1 e2 h
  go_enter Try.func39, Try.ntmps39
  go_wp2
  go_ret
  exact ⟨rfl, ⟨_, _, _, HE.out _⟩, (Below.refl _ _).alloc hB _⟩
end Go.Proofs.Ytkcncngcmhldpaa
namespace Go.Proofs.Ytkcncngcmhldpaa
open Go.RowKit Go.Maps
set_option linter.unusedVariables false
/-- append, that no step looks into -/
def appH (ats : Array TypeId) (ty : TypeId) (args : Array Value) : Sem Value := Builtin.append_ ats ty args
@[local go_sem ↓] theorem app_hold (ats : Array TypeId) (ty : TypeId) (args : Array Value) : Builtin.append_ ats ty args = appH ats ty args := rfl
theorem info97 : (Try.prog.info? 97).map (fun i => (i.zero, i.size, i.bytes)) = some (some (.agg #[.int .i64 0, .int .i64 0]), 2, 16) := by kernel_rfl

theorem owns_slice {w : World} {B : Nat} {e : TypeId} {size n : Nat} {v : Value} {xs : List Value} (h : w.ownsRow B e size v n xs) : ∃ a n c, v = Value.slice a n c := by
  rcases h.2 with ⟨h1, _⟩ | ⟨g, cap, cur, h1, _⟩
  · exact ⟨_, _, _, h1⟩
  · exact ⟨_, _, _, h1⟩
set_option maxRecDepth 100000 in
set_option maxHeartbeats 2000000 in
theorem meet_emit (B wb : Nat) (E : Ef) (ps val : Int) (mv ov nv : Value) (hl : E.outs.length ≤ 4000) (w : World) (h : EF w 93 B wb mv ov nv E) (hB : B ≤ w.heap.size) : Calls Try.prog 39 #[.pointer (some ⟨wb, 0, none⟩), wtV ⟨4, ps, val⟩] w (MeetP B wb E ⟨4, ps, val⟩ w) := by
  obtain ⟨i0, hi, hz0, hz1, hz2⟩ := info_parts info2
  obtain ⟨W, hW⟩ : ∃ W, w.alloc (Obj.cells #[Value.int IntKind.i64 4, Value.int IntKind.i64 ps, Value.int IntKind.i64 val] 35) = W := ⟨_, rfl⟩
  have HEW : Hid (EF W 93 B wb mv ov nv E) := by rw [← hW]; exact h.alloc _
  have HBW : Hid (Below w.heap.size w W) := by rw [← hW]; exact (Below.refl _ _).alloc (Nat.le_refl _) _
  have x2 : W.cell? ⟨w.heap.size, 2, none⟩ = some (.int .i64 val) := by rw [← hW, cell_of_row _ _ 2 _ _ _ (heap_alloc_new w _)]; rfl
  have x2d : W.drew.cell? ⟨w.heap.size, 2, none⟩ = some (.int .i64 val) := x2
  have c1 := HEW.out.c1
  have c1d : W.drew.cell? ⟨wb, 1, none⟩ = some ov := c1
  obtain ⟨V, hV⟩ : ∃ V, (W.alloc (Obj.cells #[Value.int IntKind.i64 val] 2)).drew = V := ⟨_, rfl⟩
  have HEV : EF V 93 B wb mv ov nv E := by rw [← hV]; exact (HEW.out.alloc _).drew
  have HBV : Below W.heap.size W V := by rw [← hV]; exact ((Below.refl _ _).alloc (Nat.le_refl _) _).drew
  have hBV : B ≤ V.heap.size := Nat.le_trans hB (Nat.le_trans HBW.out.size HBV.size)
  obtain ⟨v', w', hr, h2, h3, _, h5⟩ := run_append_own_at (P := Try.prog) V B 25 25 2 i0 (.int .i64 0) 1 8 Try.underlying25 hi hz0 hz1 hz2 rfl (by decide) ov E.outs.length (iE E.outs) HEV.o ⟨W.heap.size, 0, none⟩ 1 1 [.int .i64 val] rfl (by rw [← hV]; exact cell_one_new W _ _) (by simp [Value.oneCell']) (by unfold maxLen; omega) (by omega) hBV
  have c1e : (W.alloc (Obj.cells #[Value.int IntKind.i64 val] 2)).drew.cell? ⟨wb, 1, none⟩ = some ov := by rw [hV]; exact HEV.c1
  obtain ⟨sa, sn, sc, rfl⟩ : ∃ a n c, v' = Value.slice a n c := owns_slice h2
  have HO : Hid (EF (w'.setCell ⟨wb, 1, none⟩ (.slice sa sn sc)) 93 B wb mv (.slice sa sn sc) nv { E with outs := E.outs ++ [val] }) := HEV.out val h2 h3 h5
  have HB2 : Hid (Below B w (w'.setCell ⟨wb, 1, none⟩ (.slice sa sn sc))) := below_put (below_grown hBV ((HBW.out.trans (HBV.mono HBW.out.size)).mono hB) h3 HEV.nb.1) HEV.base
  have hbl : w'.heap[wb]? = _ := (h3.block wb HEV.lt (Ne.symm HEV.ow)).trans HEV.blk
  have k1 : w'.cell? ⟨wb, 1, none⟩ = some ov := by rw [cell_of_row w' _ 1 _ _ _ hbl]; rfl
  have k2 : w'.frozen? ⟨wb, 1, none⟩ = false := frozen_of_row w' wb 1 _ _ hbl
  have hr' : (appH #[25, 25] 25 #[ov, .slice (some ⟨W.heap.size, 0, none⟩) 1 1]).run Try.prog (W.alloc (Obj.cells #[Value.int IntKind.i64 val] 2)).drew = .ok (.slice sa sn sc) w' := by rw [hV]; exact hr
  have HWE : Hid (w.alloc (Obj.cells #[Value.int IntKind.i64 4, Value.int IntKind.i64 ps, Value.int IntKind.i64 val] 35) = W) := hW
  clear h2 h3 h5 hr hV HEV HBV hbl hBV h hW
  unfold MeetP
  rw [show gotE E ⟨4, ps, val⟩ = 0 from rfl, show doE E ⟨4, ps, val⟩ = { E with outs := E.outs ++ [val] } from rfl]
  unfold wtV
  go_enter Try.func39, Try.ntmps39
  go_wp2
  rw [HWE.out]
  clear HWE
  go_region
  all_goals
    go_wp2
    go_ret
    exact ⟨rfl, ⟨_, _, _, HO.out⟩, HB2.out⟩
theorem cell_two_new (w : World) (x y : Value) (t : TypeId) : ∀ j u, [x, y][j]? = some u → (w.alloc (.cells #[x, y] t)).cell? ((⟨w.heap.size, 0, none⟩ : Addr).add j) = some u := by
  intro j u hj
  rw [addn, Nat.zero_add, cell_of_row _ _ j _ _ _ (heap_alloc_new w _)]
  simpa using hj
set_option maxRecDepth 100000 in
set_option maxHeartbeats 2000000 in
theorem meet_into (B wb : Nat) (E : Ef) (ps val : Int) (mv ov nv : Value) (hl : E.intos.length ≤ 4000) (w : World) (h : EF w 93 B wb mv ov nv E) (hB : B ≤ w.heap.size) : Calls Try.prog 39 #[.pointer (some ⟨wb, 0, none⟩), wtV ⟨3, ps, val⟩] w (MeetP B wb E ⟨3, ps, val⟩ w) := by
  obtain ⟨i0, hi, hz0, hz1, hz2⟩ := info_parts info97
  obtain ⟨W, hW⟩ : ∃ W, w.alloc (Obj.cells #[Value.int IntKind.i64 3, Value.int IntKind.i64 ps, Value.int IntKind.i64 val] 35) = W := ⟨_, rfl⟩
  have HEW : Hid (EF W 93 B wb mv ov nv E) := by rw [← hW]; exact h.alloc _
  have HBW : Hid (Below w.heap.size w W) := by rw [← hW]; exact (Below.refl _ _).alloc (Nat.le_refl _) _
  have x2 : W.cell? ⟨w.heap.size, 2, none⟩ = some (.int .i64 val) := by rw [← hW, cell_of_row _ _ 2 _ _ _ (heap_alloc_new w _)]; rfl
  have x1 : W.cell? ⟨w.heap.size, 1, none⟩ = some (.int .i64 ps) := by rw [← hW, cell_of_row _ _ 1 _ _ _ (heap_alloc_new w _)]; rfl
  have x1d : W.drew.cell? ⟨w.heap.size, 1, none⟩ = some (.int .i64 ps) := x1
  have x2d : W.drew.cell? ⟨w.heap.size, 2, none⟩ = some (.int .i64 val) := x2
  have c1 := HEW.out.c2
  have c1d : W.drew.cell? ⟨wb, 2, none⟩ = some nv := c1
  obtain ⟨V, hV⟩ : ∃ V, (W.alloc (Obj.cells #[Value.int IntKind.i64 ps, Value.int IntKind.i64 val] 97)).drew = V := ⟨_, rfl⟩
  have HEV : EF V 93 B wb mv ov nv E := by rw [← hV]; exact (HEW.out.alloc _).drew
  have HBV : Below W.heap.size W V := by rw [← hV]; exact ((Below.refl _ _).alloc (Nat.le_refl _) _).drew
  have hBV : B ≤ V.heap.size := Nat.le_trans hB (Nat.le_trans HBW.out.size HBV.size)
  obtain ⟨v', w', hr, h2, h3, _, h5⟩ := run_append_own_at (P := Try.prog) V B 52 52 97 i0 (.agg #[.int .i64 0, .int .i64 0]) 2 16 Try.underlying52 hi hz0 hz1 hz2 rfl (by decide) nv E.intos.length (pE E.intos) HEV.n ⟨W.heap.size, 0, none⟩ 1 1 [.int .i64 ps, .int .i64 val] rfl (by rw [← hV]; exact cell_two_new W _ _ _) (by simp [Value.oneCell']) (by unfold maxLen; omega) (by omega) hBV
  have c1e : (W.alloc (Obj.cells #[Value.int IntKind.i64 ps, Value.int IntKind.i64 val] 97)).drew.cell? ⟨wb, 2, none⟩ = some nv := by rw [hV]; exact HEV.c2
  obtain ⟨sa, sn, sc, rfl⟩ : ∃ a n c, v' = Value.slice a n c := owns_slice h2
  have HO : Hid (EF (w'.setCell ⟨wb, 2, none⟩ (.slice sa sn sc)) 93 B wb mv ov (.slice sa sn sc) { E with intos := E.intos ++ [(ps, val)] }) := HEV.into ps val h2 h3 h5
  have HB2 : Hid (Below B w (w'.setCell ⟨wb, 2, none⟩ (.slice sa sn sc))) := below_put (below_grown hBV ((HBW.out.trans (HBV.mono HBW.out.size)).mono hB) h3 HEV.nb.2) HEV.base
  have hbl : w'.heap[wb]? = _ := (h3.block wb HEV.lt (Ne.symm HEV.nw)).trans HEV.blk
  have k1 : w'.cell? ⟨wb, 2, none⟩ = some nv := by rw [cell_of_row w' _ 2 _ _ _ hbl]; rfl
  have k2 : w'.frozen? ⟨wb, 2, none⟩ = false := frozen_of_row w' wb 2 _ _ hbl
  have hr' : (appH #[52, 52] 52 #[nv, .slice (some ⟨W.heap.size, 0, none⟩) 1 1]).run Try.prog (W.alloc (Obj.cells #[Value.int IntKind.i64 ps, Value.int IntKind.i64 val] 97)).drew = .ok (.slice sa sn sc) w' := by rw [hV]; exact hr
  have HWE : Hid (w.alloc (Obj.cells #[Value.int IntKind.i64 3, Value.int IntKind.i64 ps, Value.int IntKind.i64 val] 35) = W) := hW
  clear h2 h3 h5 hr hV HEV HBV hbl hBV h hW
  unfold MeetP
  rw [show gotE E ⟨3, ps, val⟩ = 0 from rfl, show doE E ⟨3, ps, val⟩ = { E with intos := E.intos ++ [(ps, val)] } from rfl]
  unfold wtV
  go_enter Try.func39, Try.ntmps39
  go_wp2
  rw [HWE.out]
  clear HWE
  go_region
  all_goals
    go_wp2
    go_ret
    exact ⟨rfl, ⟨_, _, _, HO.out⟩, HB2.out⟩

theorem meet_any (B wb : Nat) (E : Ef) (T : Wt) (mv ov nv : Value) (hin : T.kind = 1 ∨ T.kind = 2 → 0 ≤ T.pos ∧ T.pos < E.mem.length) (hm : E.mem.length ≤ 64) (ho : E.outs.length ≤ 4000) (hn : E.intos.length ≤ 4000) (w : World) (h : EF w 93 B wb mv ov nv E) (hB : B ≤ w.heap.size) : Calls Try.prog 39 #[.pointer (some ⟨wb, 0, none⟩), wtV T] w (MeetP B wb E T w) := by
  obtain ⟨kd, ps, vl⟩ := T
  dsimp only at hin
  by_cases k1 : kd = 1
  · subst k1
    have := hin (Or.inl rfl)
    obtain ⟨p, rfl⟩ : ∃ p : Nat, ps = p := ⟨ps.toNat, by omega⟩
    exact meet_load B wb p E vl mv ov nv (by omega) hm w h hB
  by_cases k2 : kd = 2
  · subst k2
    have := hin (Or.inr rfl)
    obtain ⟨p, rfl⟩ : ∃ p : Nat, ps = p := ⟨ps.toNat, by omega⟩
    exact meet_store B wb p E vl mv ov nv (by omega) hm w h hB
  by_cases k3 : kd = 3
  · subst k3
    exact meet_into B wb E ps vl mv ov nv hn w h hB
  by_cases k4 : kd = 4
  · subst k4
    exact meet_emit B wb E ps vl mv ov nv ho w h hB
  · exact meet_none B wb E ⟨kd, ps, vl⟩ ⟨k1, k2, k3, k4⟩ mv ov nv w h hB
end Go.Proofs.Ytkcncngcmhldpaa
