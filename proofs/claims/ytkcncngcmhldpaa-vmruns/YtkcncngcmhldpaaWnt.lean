/- What the next instruction wants. -/
import Derived.Test.YtkcncngcmhldpaaNew
namespace Go.Proofs.Ytkcncngcmhldpaa
open Go.RowKit Go.Maps
set_option linter.unusedVariables false

/-- what is wanted -/
structure Wt where
  kind : Int
  pos : Int
  value : Int
def wtV (t : Wt) : Value := .agg #[.int .i64 t.kind, .int .i64 t.pos, .int .i64 t.value]
/-- what an instruction wants -/
def wantI (words : Int) (x : In) (s : St) : Wt :=
  if x.kind = 6 then (if insideB words (addrS s x) then ⟨1, addrS s x, 0⟩ else ⟨0, 0, 0⟩)
  else if x.kind = 7 then (if insideB words (addrS s x) then ⟨2, addrS s x, rg s x.a.toNat⟩ else ⟨0, 0, 0⟩)
  else if x.kind = 8 then ⟨3, x.c, rg s x.a.toNat⟩
  else if x.kind = 9 then ⟨4, 0, rg s x.a.toNat⟩
  else ⟨0, 0, 0⟩
def wantS (C : List In) (words fuel : Int) (s : St) : Wt :=
  if s.over ≠ 0 then ⟨0, 0, 0⟩ else if fuel ≤ s.steps then ⟨0, 0, 0⟩ else wantI words (C.getD s.pc.toNat ⟨0, 0, 0, 0, 0, 0⟩) s
theorem size35 : (Try.prog.info? 35).map (·.size) = some 3 := by kernel_rfl
theorem ret_wt {fn : Func} (h : fn.results = #[.cell 2 35]) (tmps : Array Value) (g : Nat) (hb : tmps.getD 2 undef = .pointer (some ⟨g, 0, none⟩)) (W : World) (a b c : Value) (hg : W.heap[g]? = some (.cells #[a, b, c] 35)) :
    (results fn tmps).run Try.prog W = .ok (.agg #[a, b, c]) W := results_cell_row h tmps W g 35 #[a, b, c] _ _ hb hg Try.underlying35 rfl size35
theorem put3 {W : World} {g : Nat} {a b c x y z : Value} (h : W.heap[g]? = some (.cells #[x, y, z] 35)) : (((W.setCell ⟨g, 0, none⟩ a).setCell ⟨g, 1, none⟩ b).setCell ⟨g, 2, none⟩ c).heap[g]? = some (.cells #[a, b, c] 35) := by
  have h1 := heap_setCell_same W g 0 _ 35 a h
  have h2 := heap_setCell_same _ g 1 _ 35 b h1
  exact heap_setCell_same _ g 2 _ 35 c h2
theorem put3_below {B : Nat} {w W : World} {g : Nat} {a b c : Value} (h : Below B w W) (hg : B ≤ g) : Below B w (((W.setCell ⟨g, 0, none⟩ a).setCell ⟨g, 1, none⟩ b).setCell ⟨g, 2, none⟩ c) :=
  ⟨h.os, h.tape, h.output, by simpa [World.setCell] using h.size, fun k hk => by
    have hn : k ≠ g := by omega
    exact (Below.heap_setCell _ _ _ _ hn).trans ((Below.heap_setCell _ _ _ _ hn).trans ((Below.heap_setCell _ _ _ _ hn).trans (h.block k hk)))⟩
def WantP (t : Wt) (w : World) (e : Ending) (w' : World) : Prop := e = .returned (wtV t) ∧ Below w.heap.size w w'

set_option maxRecDepth 100000 in
set_option maxHeartbeats 2000000 in
theorem want_ended (vb : Nat) (m : Fx) (s : St) (ho : s.over ≠ 0) (w : World) (h : VM w vb m s) : Calls Try.prog 11 #[.pointer (some ⟨vb, 0, none⟩)] w (WantP ⟨0, 0, 0⟩ w) := by
  have e2 : (s.over != 0) = true := by simp [ho]
  have HE : Hid (∀ o, Calls Try.prog 27 #[.pointer (some ⟨vb, 0, none⟩)] (w.alloc o) fun e w' => e = .returned (.bool true) ∧ w' = w.alloc o) := fun o => by rw [← e2]; exact ended_any vb m s _ (h.alloc o)
  clear h e2 ho
  go_enter Try.func11, Try.ntmps11
  go_wp2_with (go_at_call 27; refine (HE.out _).mono ?_; rintro e w1 ⟨rfl, rfl⟩)
  refine bodyPost_ret (ret_wt Try.results11 _ w.heap.size rfl _ _ _ _ (heap_alloc_new w _)) rfl ?_
  exact ⟨rfl, (Below.refl _ _).alloc (Nat.le_refl _) _⟩

set_option maxRecDepth 100000 in
set_option maxHeartbeats 2000000 in
theorem want_spent (vb : Nat) (m : Fx) (s : St) (h0 : s.over = 0) (hf : m.fuel ≤ s.steps) (w : World) (h : VM w vb m s) : Calls Try.prog 11 #[.pointer (some ⟨vb, 0, none⟩)] w (WantP ⟨0, 0, 0⟩ w) := by
  have e2 : (s.over != 0) = false := by simp [h0]
  have e3 : decide (m.fuel ≤ s.steps) = true := by simp [hf]
  have HE : Hid (∀ o, Calls Try.prog 27 #[.pointer (some ⟨vb, 0, none⟩)] (w.alloc o) fun e w' => e = .returned (.bool false) ∧ w' = w.alloc o) := fun o => by rw [← e2]; exact ended_any vb m s _ (h.alloc o)
  have HS : Hid (∀ o, Calls Try.prog 28 #[.pointer (some ⟨vb, 0, none⟩)] (w.alloc o) fun e w' => e = .returned (.bool true) ∧ ∃ n, w' = (w.alloc o).drewN n) := fun o => by rw [← e3]; exact spent_any vb m s _ (h.alloc o)
  clear h e2 e3 h0 hf
  go_enter Try.func11, Try.ntmps11
  go_wp2_with (first | (go_at_call 27; refine (HE.out _).mono ?_; rintro e w1 ⟨rfl, rfl⟩) | (go_at_call 28; refine (HS.out _).mono ?_; rintro e w1 ⟨rfl, nn, rfl⟩))
  refine bodyPost_ret (ret_wt Try.results11 _ w.heap.size rfl _ _ _ _ (put3 (heap_alloc_new w _))) rfl ?_
  exact ⟨rfl, put3_below (below_drewN ((Below.refl _ _).alloc (Nat.le_refl _) _) nn) (Nat.le_refl _)⟩

set_option maxRecDepth 100000 in
set_option maxHeartbeats 2000000 in
theorem want_ins (vb g p : Nat) (m : Fx) (C : List In) (s : St) (cap : Nat) (x : In) (hx : OkI x) (hp : p < C.length) (hxp : C[p] = x) (hpc : s.pc = p) (h0 : s.over = 0) (hf : ¬ m.fuel ≤ s.steps) (w : World) (h : MC w vb g cap m C s) : Calls Try.prog 11 #[.pointer (some ⟨vb, 0, none⟩)] w (WantP (wantI m.words x s) w) := by
  have e2 : (s.over != 0) = false := by simp [h0]
  have e3 : decide (m.fuel ≤ s.steps) = false := by simp [hf]
  have HE : Hid (∀ o, Calls Try.prog 27 #[.pointer (some ⟨vb, 0, none⟩)] (w.alloc o) fun e w' => e = .returned (.bool false) ∧ w' = w.alloc o) := fun o => by rw [← e2]; exact ended_any vb m s _ (h.vm.alloc o)
  have HS : Hid (∀ o, Calls Try.prog 28 #[.pointer (some ⟨vb, 0, none⟩)] (w.alloc o) fun e w' => e = .returned (.bool false) ∧ ∃ n, w' = (w.alloc o).drewN n) := fun o => by rw [← e3]; exact spent_any vb m s _ (h.vm.alloc o)
  have HM : Hid (MC w vb g cap m C s) := h
  have hlen := h.len
  have hcap := h.cap
  have hcv := h.cv
  have HR : Hid (IAt w g (p * 6) x) := by rw [← hxp]; exact h.row p hp
  clear h e2 e3 h0 hf
  go_enter Try.func11, Try.ntmps11
  go_upto_region 3 with (first | (go_at_call 27; refine (HE.out _).mono ?_; rintro e w1 ⟨rfl, rfl⟩) | (go_at_call 28; refine (HS.out _).mono ?_; rintro e w1 ⟨rfl, nn, rfl⟩))
  obtain ⟨W, hW⟩ : ∃ W, (w.alloc (Obj.cells #[Value.int IntKind.i64 0, Value.int IntKind.i64 0, Value.int IntKind.i64 0] 35)).drewN nn = W := ⟨_, rfl⟩
  have HBW : Hid (Below w.heap.size w W) := by rw [← hW]; exact below_drewN ((Below.refl _ _).alloc (Nat.le_refl _) _) nn
  have HMW : Hid (MC W vb g cap m C s) := HM.out.below HBW.out
  have HRW : Hid (IAt W g (p * 6) x) := HR.out.block (HBW.out.block g HR.out.lt)
  have HWS : Hid (W.heap[w.heap.size]? = some (.cells #[Value.int IntKind.i64 0, Value.int IntKind.i64 0, Value.int IntKind.i64 0] 35)) := by show _ = _; rw [← hW]; exact heap_alloc_new w _
  have hws : W.heap.size = w.heap.size + 1 := by rw [← hW]; simp
  rw [hW]
  clear hW HE HS
  have hlt := HMW.out.vm.lt
  have hgl := HRW.out.lt
  have c0 := HMW.out.vm.c0
  have c22 := HMW.out.vm.c22
  rw [hcv] at c0
  rw [hpc] at c22
  obtain ⟨i0, i1, i2, i3, i4, i5⟩ := HRW.out
  obtain ⟨kd, op, xa, xb, xc, xk⟩ := x
  dsimp only at i0 i1 i2 i3 i4 i5
  go_region_held3 (fun w' => w'.cell? ⟨vb, 0, none⟩ = some (.slice (some ⟨g, 0, none⟩) C.length cap) ∧ w'.cell? ⟨vb, 22, none⟩ = some (.int .i64 (p : Int)) ∧ w'.cell? ⟨g, p * 6, none⟩ = some (.int .i64 kd) ∧ w'.cell? ⟨g, p * 6 + 1, none⟩ = some (.int .i64 op) ∧ w'.cell? ⟨g, p * 6 + 2, none⟩ = some (.int .i64 xa) ∧ w'.cell? ⟨g, p * 6 + 3, none⟩ = some (.int .i64 xb) ∧ w'.cell? ⟨g, p * 6 + 4, none⟩ = some (.int .i64 xc) ∧ w'.cell? ⟨g, p * 6 + 5, none⟩ = some (.int .i64 xk)) (go_keep) (fail)
  obtain ⟨U, hU⟩ : ∃ U, (W.alloc (Obj.cells #[Value.int IntKind.i64 kd, Value.int IntKind.i64 op, Value.int IntKind.i64 xa, Value.int IntKind.i64 xb, Value.int IntKind.i64 xc, Value.int IntKind.i64 xk] 76)).drew = U := ⟨_, rfl⟩
  have HBU : Hid (Below W.heap.size W U) := by rw [← hU]; exact ((Below.refl _ _).alloc (Nat.le_refl _) _).drew
  have HB : Hid (Below w.heap.size w U) := HBW.out.trans (HBU.out.mono HBW.out.size)
  have HV : Hid (VM U vb m s) := HMW.out.vm.below HBU.out
  have HW0 : Hid (U.heap[w.heap.size]? = some (.cells #[Value.int IntKind.i64 0, Value.int IntKind.i64 0, Value.int IntKind.i64 0] 35)) := (HBU.out.block _ (by omega)).trans HWS.out
  have hX : U.heap[w.heap.size + 1]? = some (.cells #[Value.int IntKind.i64 kd, Value.int IntKind.i64 op, Value.int IntKind.i64 xa, Value.int IntKind.i64 xb, Value.int IntKind.i64 xc, Value.int IntKind.i64 xk] 76) := by rw [← hU, ← hws]; exact heap_alloc_new W _
  have HX : Hid (∀ V, Below U.heap.size U V → ∀ j, V.cell? ⟨w.heap.size + 1, j, none⟩ = #[Value.int IntKind.i64 kd, Value.int IntKind.i64 op, Value.int IntKind.i64 xa, Value.int IntKind.i64 xb, Value.int IntKind.i64 xc, Value.int IntKind.i64 xk][j]?) := fun V hV j => by
    have hlt : w.heap.size + 1 < U.heap.size := (Array.getElem?_eq_some_iff.1 hX).1
    exact cell_of_row V _ j _ _ _ ((hV.block _ hlt).trans hX)
  have HF : Hid (∀ V, Below U.heap.size U V → ∀ (e : Ending) (a b c : Int), e = .returned (.agg #[.int .i64 a, .int .i64 b, .int .i64 c]) → WantP ⟨a, b, c⟩ w e (((V.setCell ⟨w.heap.size, 0, none⟩ (.int .i64 a)).setCell ⟨w.heap.size, 1, none⟩ (.int .i64 b)).setCell ⟨w.heap.size, 2, none⟩ (.int .i64 c))) := fun V hV e a b c he => ⟨he, put3_below (HB.out.trans (hV.mono HB.out.size)) (Nat.le_refl _)⟩
  have HG : Hid (∀ V, Below U.heap.size U V → V.heap[w.heap.size]? = some (.cells #[Value.int IntKind.i64 0, Value.int IntKind.i64 0, Value.int IntKind.i64 0] 35)) := fun V hV => (hV.block _ (Array.getElem?_eq_some_iff.1 HW0.out).1).trans HW0.out
  have HC : Hid (∀ V, Below U.heap.size U V → ∀ j, j < 3 → V.cell? ⟨w.heap.size, j, none⟩ = some (.int .i64 0) ∧ V.frozen? ⟨w.heap.size, j, none⟩ = false) := fun V hV j hj => by
    refine ⟨?_, frozen_of_row V _ j _ _ (HG.out V hV)⟩
    rw [cell_of_row V _ j _ _ _ (HG.out V hV)]
    match j, hj with
    | 0, _ => rfl
    | 1, _ => rfl
    | 2, _ => rfl
  have hrf : Below U.heap.size U U := Below.refl _ _
  have x0 : U.cell? ⟨w.heap.size + 1, 0, none⟩ = some (.int .i64 kd) := (HX.out U hrf 0).trans rfl
  rw [hU]
  clear hU hX HBU HBW HMW HRW HWS hws i0 i1 i2 i3 i4 i5 c0 c22 hlt hgl hcv hpc hxp hp hlen hcap HM HR
  obtain ⟨z0, y0⟩ := HC.out U hrf 0 (by omega)
  obtain ⟨z1, y1⟩ := HC.out U hrf 1 (by omega)
  obtain ⟨z2, y2⟩ := HC.out U hrf 2 (by omega)
  have HFU : Hid _ := HF.out U hrf
  by_cases k6 : kd = 6
  · subst k6
    have HA : Hid (Calls Try.prog 29 #[.pointer (some ⟨vb, 0, none⟩), iv ⟨6, op, xa, xb, xc, xk⟩] U fun e w' => e = .returned (.tuple #[.int .i64 (addrS s ⟨6, op, xa, xb, xc, xk⟩), .bool (insideB m.words (addrS s ⟨6, op, xa, xb, xc, xk⟩))]) ∧ Below U.heap.size U w') := address_any vb m s ⟨6, op, xa, xb, xc, xk⟩ hx.b U HV.out
    have HWI : Hid (wantI m.words ⟨6, op, xa, xb, xc, xk⟩ s = if insideB m.words (addrS s ⟨6, op, xa, xb, xc, xk⟩) then ⟨1, addrS s ⟨6, op, xa, xb, xc, xk⟩, 0⟩ else ⟨0, 0, 0⟩) := by show _ = _; simp [wantI]
    generalize addrS s ⟨6, op, xa, xb, xc, xk⟩ = ad at HA HWI
    generalize insideB m.words ad = is at HA HWI
    unfold iv at HA
    have x1 : U.cell? ⟨w.heap.size + 1, 1, none⟩ = _ := (HX.out U hrf 1).trans rfl
    have x2 : U.cell? ⟨w.heap.size + 1, 2, none⟩ = _ := (HX.out U hrf 2).trans rfl
    have x3 : U.cell? ⟨w.heap.size + 1, 3, none⟩ = _ := (HX.out U hrf 3).trans rfl
    have x4 : U.cell? ⟨w.heap.size + 1, 4, none⟩ = _ := (HX.out U hrf 4).trans rfl
    have x5 : U.cell? ⟨w.heap.size + 1, 5, none⟩ = _ := (HX.out U hrf 5).trans rfl
    clear hrf hx
    cases is with
    | false =>
      go_wp2_with (go_at_call 29; refine HA.out.mono ?_; rintro e V ⟨rfl, hV⟩; have HVB : Hid (Below U.heap.size U V) := hV; obtain ⟨z0, y0⟩ := HC.out V hV 0 (by omega); obtain ⟨z1, y1⟩ := HC.out V hV 1 (by omega); obtain ⟨z2, y2⟩ := HC.out V hV 2 (by omega); clear hV)
      refine bodyPost_ret (ret_wt Try.results11 _ w.heap.size rfl _ _ _ _ (put3 (HG.out V HVB.out))) rfl ?_
      rw [HWI.out]
      exact HF.out V HVB.out _ _ _ _ rfl
    | true =>
      go_wp2_with (go_at_call 29; refine HA.out.mono ?_; rintro e V ⟨rfl, hV⟩; have HVB : Hid (Below U.heap.size U V) := hV; obtain ⟨z0, y0⟩ := HC.out V hV 0 (by omega); obtain ⟨z1, y1⟩ := HC.out V hV 1 (by omega); obtain ⟨z2, y2⟩ := HC.out V hV 2 (by omega); clear hV)
      refine bodyPost_ret (ret_wt Try.results11 _ w.heap.size rfl _ _ _ _ (put3 (HG.out V HVB.out))) rfl ?_
      rw [HWI.out]
      exact HF.out V HVB.out _ _ _ _ rfl
  by_cases k7 : kd = 7
  · subst k7
    have HA : Hid (Calls Try.prog 29 #[.pointer (some ⟨vb, 0, none⟩), iv ⟨7, op, xa, xb, xc, xk⟩] U fun e w' => e = .returned (.tuple #[.int .i64 (addrS s ⟨7, op, xa, xb, xc, xk⟩), .bool (insideB m.words (addrS s ⟨7, op, xa, xb, xc, xk⟩))]) ∧ Below U.heap.size U w') := address_any vb m s ⟨7, op, xa, xb, xc, xk⟩ hx.b U HV.out
    obtain ⟨n, hn0⟩ : ∃ n : Nat, xa = n := ⟨xa.toNat, by have := hx.a; dsimp only at this; omega⟩
    subst hn0
    have hn : n < 16 := by have := hx.a; dsimp only at this; omega
    have HR : Hid (∀ V, Below U.heap.size U V → Calls Try.prog 30 #[.pointer (some ⟨vb, 0, none⟩), .int .i64 (n : Int)] V fun e w' => e = .returned (.int .i64 (rg s n)) ∧ w' = V) := fun V hV => reg_any vb m s n hn _ rfl V (HV.out.below hV)
    have HWI : Hid (wantI m.words ⟨7, op, (n : Int), xb, xc, xk⟩ s = if insideB m.words (addrS s ⟨7, op, (n : Int), xb, xc, xk⟩) then ⟨2, addrS s ⟨7, op, (n : Int), xb, xc, xk⟩, rg s n⟩ else ⟨0, 0, 0⟩) := by show _ = _; simp [wantI]
    generalize addrS s ⟨7, op, (n : Int), xb, xc, xk⟩ = ad at HA HWI
    generalize insideB m.words ad = is at HA HWI
    unfold iv at HA
    have x1 : U.cell? ⟨w.heap.size + 1, 1, none⟩ = _ := (HX.out U hrf 1).trans rfl
    have x2 : U.cell? ⟨w.heap.size + 1, 2, none⟩ = _ := (HX.out U hrf 2).trans rfl
    have x3 : U.cell? ⟨w.heap.size + 1, 3, none⟩ = _ := (HX.out U hrf 3).trans rfl
    have x4 : U.cell? ⟨w.heap.size + 1, 4, none⟩ = _ := (HX.out U hrf 4).trans rfl
    have x5 : U.cell? ⟨w.heap.size + 1, 5, none⟩ = _ := (HX.out U hrf 5).trans rfl
    clear hrf hx
    cases is with
    | false =>
      go_wp2_with (go_at_call 29; refine HA.out.mono ?_; rintro e V ⟨rfl, hV⟩; have HVB : Hid (Below U.heap.size U V) := hV; obtain ⟨z0, y0⟩ := HC.out V hV 0 (by omega); obtain ⟨z1, y1⟩ := HC.out V hV 1 (by omega); obtain ⟨z2, y2⟩ := HC.out V hV 2 (by omega); have x2 : V.cell? ⟨w.heap.size + 1, 2, none⟩ = _ := (HX.out V hV 2).trans rfl; clear hV)
      refine bodyPost_ret (ret_wt Try.results11 _ w.heap.size rfl _ _ _ _ (put3 (HG.out V HVB.out))) rfl ?_
      rw [HWI.out]
      exact HF.out V HVB.out _ _ _ _ rfl
    | true =>
      go_wp2_with (first | (go_at_call 29; refine HA.out.mono ?_; rintro e V ⟨rfl, hV⟩; have HVB : Hid (Below U.heap.size U V) := hV; obtain ⟨z0, y0⟩ := HC.out V hV 0 (by omega); obtain ⟨z1, y1⟩ := HC.out V hV 1 (by omega); obtain ⟨z2, y2⟩ := HC.out V hV 2 (by omega); have x2 : V.cell? ⟨w.heap.size + 1, 2, none⟩ = _ := (HX.out V hV 2).trans rfl; clear hV) | (go_at_call 30; refine (HR.out V HVB.out).mono ?_; rintro e V2 ⟨rfl, hV2⟩; rw [hV2]; clear hV2))
      refine bodyPost_ret (ret_wt Try.results11 _ w.heap.size rfl _ _ _ _ (put3 (HG.out V HVB.out))) rfl ?_
      rw [HWI.out]
      exact HF.out V HVB.out _ _ _ _ rfl
  by_cases k8 : kd = 8
  · subst k8
    obtain ⟨n, hn0⟩ : ∃ n : Nat, xa = n := ⟨xa.toNat, by have := hx.a; dsimp only at this; omega⟩
    subst hn0
    have hn : n < 16 := by have := hx.a; dsimp only at this; omega
    have HR : Hid (∀ V, Below U.heap.size U V → Calls Try.prog 30 #[.pointer (some ⟨vb, 0, none⟩), .int .i64 (n : Int)] V fun e w' => e = .returned (.int .i64 (rg s n)) ∧ w' = V) := fun V hV => reg_any vb m s n hn _ rfl V (HV.out.below hV)
    have HWI : Hid (wantI m.words ⟨8, op, (n : Int), xb, xc, xk⟩ s = ⟨3, xc, rg s n⟩) := by show _ = _; simp [wantI]
    have x2 : U.cell? ⟨w.heap.size + 1, 2, none⟩ = _ := (HX.out U hrf 2).trans rfl
    have x4 : U.cell? ⟨w.heap.size + 1, 4, none⟩ = _ := (HX.out U hrf 4).trans rfl
    have HU : Hid (Below U.heap.size U U) := hrf
    have HUD : Hid (Below U.heap.size U U.drew) := hrf.drew
    clear hrf hx
    obtain ⟨z0, y0⟩ := HC.out U.drew HUD.out 0 (by omega)
    obtain ⟨z1, y1⟩ := HC.out U.drew HUD.out 1 (by omega)
    obtain ⟨z2, y2⟩ := HC.out U.drew HUD.out 2 (by omega)
    have hne : w.heap.size ≠ w.heap.size + 1 := by omega
    go_wp2_with fail
    go_region_held3 (fun w' => w'.cell? ⟨w.heap.size + 1, 2, none⟩ = some (.int .i64 (n : Int)) ∧ w'.cell? ⟨w.heap.size + 1, 4, none⟩ = some (.int .i64 xc)) (go_keep) (first | (go_at_call 30; refine (HR.out _ HUD.out).mono ?_; rintro e V2 ⟨rfl, hV2⟩; rw [hV2]))
    go_wp2
    refine bodyPost_ret (ret_wt Try.results11 _ w.heap.size rfl _ _ _ _ (put3 (HG.out U.drew HUD.out))) rfl ?_
    rw [HWI.out]
    exact HF.out U.drew HUD.out _ _ _ _ rfl
  by_cases k9 : kd = 9
  · subst k9
    obtain ⟨n, hn0⟩ : ∃ n : Nat, xa = n := ⟨xa.toNat, by have := hx.a; dsimp only at this; omega⟩
    subst hn0
    have hn : n < 16 := by have := hx.a; dsimp only at this; omega
    have HR : Hid (∀ V, Below U.heap.size U V → Calls Try.prog 30 #[.pointer (some ⟨vb, 0, none⟩), .int .i64 (n : Int)] V fun e w' => e = .returned (.int .i64 (rg s n)) ∧ w' = V) := fun V hV => reg_any vb m s n hn _ rfl V (HV.out.below hV)
    have HWI : Hid (wantI m.words ⟨9, op, (n : Int), xb, xc, xk⟩ s = ⟨4, 0, rg s n⟩) := by show _ = _; simp [wantI]
    have x2 : U.cell? ⟨w.heap.size + 1, 2, none⟩ = _ := (HX.out U hrf 2).trans rfl
    have x4 : U.cell? ⟨w.heap.size + 1, 4, none⟩ = _ := (HX.out U hrf 4).trans rfl
    have HU : Hid (Below U.heap.size U U) := hrf
    have HUD : Hid (Below U.heap.size U U.drew) := hrf.drew
    clear hrf hx
    go_wp2_with (go_at_call 30; refine (HR.out _ HU.out).mono ?_; rintro e V2 ⟨rfl, hV2⟩; rw [hV2]; clear hV2)
    refine bodyPost_ret (ret_wt Try.results11 _ w.heap.size rfl _ _ _ _ (put3 (HG.out U HU.out))) rfl ?_
    rw [HWI.out]
    exact HF.out U HU.out _ _ _ _ rfl
  have e6 : (kd == 6) = false := by simp [k6]
  have e7 : (kd == 7) = false := by simp [k7]
  have e8 : (kd == 8) = false := by simp [k8]
  have e9 : (kd == 9) = false := by simp [k9]
  have HWI : Hid (wantI m.words ⟨kd, op, xa, xb, xc, xk⟩ s = ⟨0, 0, 0⟩) := by show _ = _; simp [wantI, k6, k7, k8, k9]
  have HU : Hid (Below U.heap.size U U) := hrf
  clear hrf hx
  go_wp2
  refine bodyPost_ret (ret_wt Try.results11 _ w.heap.size rfl _ _ _ _ (put3 (HG.out U HU.out))) rfl ?_
  rw [HWI.out]
  exact HF.out U HU.out _ _ _ _ rfl

theorem want_any (vb g cap : Nat) (m : Fx) (C : List In) (s : St) (hC : ∀ x ∈ C, OkI x) (ho : Ok C m.fuel s) (w : World) (h : MC w vb g cap m C s) : Calls Try.prog 11 #[.pointer (some ⟨vb, 0, none⟩)] w (WantP (wantS C m.words m.fuel s) w) := by
  unfold wantS
  by_cases h0 : s.over = 0
  · rw [if_neg (by simp [h0])]
    by_cases hf : m.fuel ≤ s.steps
    · rw [if_pos hf]; exact want_spent vb m s h0 hf w h.vm
    · rw [if_neg hf]
      obtain ⟨p, hp⟩ : ∃ p : Nat, s.pc = p := ⟨s.pc.toNat, by have := ho.pc; omega⟩
      have hpl : p < C.length := by have := ho.pc; omega
      rw [show C.getD s.pc.toNat ⟨0, 0, 0, 0, 0, 0⟩ = C[p] by rw [hp, Int.toNat_natCast]; simp [List.getD, hpl]]
      exact want_ins vb g p m C s cap C[p] (hC _ (List.getElem_mem _)) hpl rfl hp h0 hf w h
  · rw [if_pos h0]; exact want_ended vb m s h0 w h.vm
end Go.Proofs.Ytkcncngcmhldpaa
