/- Read, Written; Emit, Into, Clear; New. -/
import Derived.Test.YtongeppdaeekeaaAtF
namespace Go.Proofs.Ytongeppdaeekeaa
open Go.RowKit Go.Maps
set_option linter.unusedVariables false

theorem size57 : (Try.prog.info? 57).map (·.size) = some 3 := by kernel_rfl
theorem ret_R2 {fn : Func} {q u : Nat} (h : fn.results = #[.cell q 57, .tmp u]) (tmps : Array Value) (g : Nat) (hb : tmps.getD q undef = .pointer (some ⟨g, 0, none⟩)) (W : World) (a b c : Value) (hg : W.heap[g]? = some (.cells #[a, b, c] 57)) :
    (results fn tmps).run Try.prog W = .ok (.tuple #[.agg #[a, b, c], tmps.getD u undef]) W := by
  rw [results_cell_tmp h, hb]
  simp [asAddr, run_loadVar_row W g 57 57 #[a, b, c] _ _ hg Try.underlying57 rfl size57]
theorem put3V {W : World} {g : Nat} {ty : TypeId} {x y z a b c : Value} (h : W.heap[g]? = some (.cells #[x, y, z] ty)) : (((W.setCell ⟨g, 0, none⟩ a).setCell ⟨g, 1, none⟩ b).setCell ⟨g, 2, none⟩ c).heap[g]? = some (.cells #[a, b, c] ty) := by
  have e1 := heap_setCell_same W g 0 _ ty a h
  have e2 := heap_setCell_same _ g 1 _ ty b e1
  rw [heap_setCell_same _ g 2 _ ty c e2]
  rfl
theorem below3 {B : Nat} {w W : World} {g : Nat} (h : Below B w W) (hg : B ≤ g) (a b c : Value) : Below B w (((W.setCell ⟨g, 0, none⟩ a).setCell ⟨g, 1, none⟩ b).setCell ⟨g, 2, none⟩ c) :=
  ((h.setCell (p := ⟨g, 0, none⟩) hg _).setCell (p := ⟨g, 1, none⟩) hg _).setCell (p := ⟨g, 2, none⟩) hg _
def readZ (s : Lg) (a : Int) : Int × Int × Int := s.Rs.getD (s.Rs.findIdx (isR a)) (0, 0, 0)
def readV (s : Lg) (a : Int) : Value := .tuple #[.agg #[.int .i64 (readZ s a).1, .int .i64 (readZ s a).2.1, .int .i64 (readZ s a).2.2], .bool (hasR s a)]
def writtenZ (s : Lg) (a : Int) : Int := (s.Ws.getD (s.Ws.findIdx (isC a)) (0, 0)).2
def writtenV (s : Lg) (a : Int) : Value := .tuple #[.int .i64 (writtenZ s a), .bool (hasC s a)]
def emitS (s : Lg) (n : Int) : Lg := if s.Os.length = s.O then s else { s with Os := s.Os ++ [n] }
def emitE (s : Lg) : Int := if s.Os.length = s.O then 200 else 0
def intoS (s : Lg) (cell n : Int) : Lg := { s with now := addL s.ops s.now cell n }
def clearS (s : Lg) : Lg := { s with Rs := [], Ws := [], Os := [], now := s.ops.map zeroI }
section
variable {w w' V w4 : World} {lab lab' : Nat → Nat} {c lb hb bo bn : Nat} {rv wv ov : Value} {many : Int} {s : Lg}
set_option maxRecDepth 100000 in
set_option maxHeartbeats 4000000 in
theorem rdq_any (h : LV w lab c lb s) (a : Int) : Calls Try.prog 24 #[.pointer (some ⟨lb, 0, none⟩), .int .i64 a] w (AN w (readV s a)) := by
  obtain ⟨hb, bo, bn, rv, wv, ov, many, h⟩ := h
  have HX : Hid (∀ W, Below w.heap.size w W → LX W lab c lb hb bo bn rv wv ov many s) := fun W hW => h.below hW
  have HRD : Hid (∀ A : Obj, Calls Try.prog 67 #[.pointer (some ⟨lb, 0, none⟩), .int .i64 a] (w.alloc A) (FndQ 3 rv s.Rs (isR a) (w.alloc A))) := fun A => read_any (h.below (bl1 w A)) a
  clear h
  have F1 : Hid (∀ W z0 z1 z2, Below w.heap.size w W → hasR s a = true → readZ s a = (z0, z1, z2) → AN w (readV s a) (.returned (.tuple #[.agg #[.int .i64 z0, .int .i64 z1, .int .i64 z2], .bool true])) W) := fun W z0 z1 z2 hW e hz => by
    unfold readV
    rw [e, hz]
    exact ⟨rfl, hW⟩
  have F2 : Hid (∀ W, Below w.heap.size w W → hasR s a = false → AN w (readV s a) (.returned (.tuple #[.agg #[.int .i64 0, .int .i64 0, .int .i64 0], .bool false])) W) := fun W hW e => by
    have : readZ s a = (0, 0, 0) := by
      have := of_decide_eq_false e
      unfold readZ
      simp [List.getD, List.getElem?_eq_none (show s.Rs.length ≤ s.Rs.findIdx (isR a) by omega)]
    unfold readV
    rw [e, this]
    exact ⟨rfl, hW⟩
  generalize AN w (readV s a) = P at *
  go_enter Try.func24, Try.ntmps24
  go_wp2_with fail
  refine (HRD.out _).mono ?_
  rintro e w2 ⟨b2, hq⟩
  have B2 : Hid (Below w.heap.size w w2) := (bl1 _ _).trans (b2.mono (by simp))
  have HG : Hid (w2.heap[w.heap.size]? = some (.cells #[.int .i64 0, .int .i64 0, .int .i64 0] 57)) := (b2.block w.heap.size (by simp)).trans (heap_alloc_new _ _)
  have z0 := (b2.cell (p := ⟨w.heap.size, 0, none⟩) (by simp)).trans (by simp; rfl)
  have z1 := (b2.cell (p := ⟨w.heap.size, 1, none⟩) (by simp)).trans (by simp; rfl)
  have z2 := (b2.cell (p := ⟨w.heap.size, 2, none⟩) (by simp)).trans (by simp; rfl)
  have g0 := (b2.frozen (p := ⟨w.heap.size, 0, none⟩) (by simp)).trans (by simp; rfl)
  have g1 := (b2.frozen (p := ⟨w.heap.size, 1, none⟩) (by simp)).trans (by simp; rfl)
  have g2 := (b2.frozen (p := ⟨w.heap.size, 2, none⟩) (by simp)).trans (by simp; rfl)
  clear b2
  rcases hq with ⟨hi, rfl⟩ | ⟨g, cp, hg, hi, rfl⟩
  · have hh : hasR s a = false := decide_eq_false (by omega)
    have HF : Hid (∀ W, Below w.heap.size w W → P (.returned (.tuple #[.agg #[.int .i64 0, .int .i64 0, .int .i64 0], .bool false])) W) := fun W hW => F2.out W hW hh
    clear hi hh
    go_wp2
    refine bodyPost_ret (ret_R2 Try.results24 _ w.heap.size rfl _ _ _ _ (put3V HG.out)) rfl ?_
    exact HF.out _ (below3 B2.out (Nat.le_refl _) _ _ _)
  · have hh : hasR s a = true := decide_eq_true hi
    have x := HX.out _ B2.out
    obtain ⟨⟨y0, y1, y2⟩, hy⟩ : ∃ y, s.Rs[s.Rs.findIdx (isR a)] = y := ⟨_, rfl⟩
    have HF : Hid (∀ W, Below w.heap.size w W → P (.returned (.tuple #[.agg #[.int .i64 y0, .int .i64 y1, .int .i64 y2], .bool true])) W) := fun W hW => F1.out W y0 y1 y2 hW hh (by unfold readZ; rw [getD_at _ _ _ hi, hy])
    obtain ⟨g', c', hg2, hcl, hfr⟩ := x.rr.cell hi
    rw [hg] at hg2
    simp only [Value.slice.injEq, Option.some.injEq, Addr.mk.injEq, and_true, true_and] at hg2
    obtain ⟨rfl, _⟩ := hg2
    rw [hy] at hcl
    obtain ⟨d0, d1, d2⟩ := tri_own rfl rfl hcl
    clear hy hcl hfr x hi hg hh
    generalize s.Rs.findIdx (isR a) * 3 = q at *
    go_wp2
    refine bodyPost_ret (ret_R2 Try.results24 _ w.heap.size rfl _ _ _ _ (put3V HG.out)) rfl ?_
    exact HF.out _ (below3 B2.out (Nat.le_refl _) _ _ _)
set_option maxRecDepth 100000 in
set_option maxHeartbeats 4000000 in
theorem wrq_any (h : LV w lab c lb s) (a : Int) : Calls Try.prog 58 #[.pointer (some ⟨lb, 0, none⟩), .int .i64 a] w (AN w (writtenV s a)) := by
  obtain ⟨hb, bo, bn, rv, wv, ov, many, h⟩ := h
  have HX : Hid (∀ W, Below w.heap.size w W → LX W lab c lb hb bo bn rv wv ov many s) := fun W hW => h.below hW
  have HRD : Hid (Calls Try.prog 86 #[.pointer (some ⟨lb, 0, none⟩), .int .i64 a] w (FndQ 2 wv s.Ws (isC a) w)) := written_any h a
  clear h
  have F1 : Hid (∀ W z, Below w.heap.size w W → hasC s a = true → writtenZ s a = z → AN w (writtenV s a) (.returned (.tuple #[.int .i64 z, .bool true])) W) := fun W z hW e hz => by
    unfold writtenV
    rw [e, hz]
    exact ⟨rfl, hW⟩
  have F2 : Hid (∀ W, Below w.heap.size w W → hasC s a = false → AN w (writtenV s a) (.returned (.tuple #[.int .i64 0, .bool false])) W) := fun W hW e => by
    have : writtenZ s a = 0 := by
      have := of_decide_eq_false e
      unfold writtenZ
      simp [List.getD, List.getElem?_eq_none (show s.Ws.length ≤ s.Ws.findIdx (isC a) by omega)]
    unfold writtenV
    rw [e, this]
    exact ⟨rfl, hW⟩
  generalize AN w (writtenV s a) = P at *
  go_enter Try.func58, Try.ntmps58
  go_wp2_with fail
  refine HRD.out.mono ?_
  rintro e w2 ⟨b2, hq⟩
  have B2 : Hid (Below w.heap.size w w2) := b2
  clear b2
  rcases hq with ⟨hi, rfl⟩ | ⟨g, cp, hg, hi, rfl⟩
  · have hh : hasC s a = false := decide_eq_false (by omega)
    have HF : Hid (P (.returned (.tuple #[.int .i64 0, .bool false])) w2) := F2.out w2 B2.out hh
    clear hi hh
    go_wp2
    first | exact HF.out | (go_ret2; exact HF.out)
  · have hh : hasC s a = true := decide_eq_true hi
    have x := HX.out _ B2.out
    obtain ⟨⟨y0, y1⟩, hy⟩ : ∃ y, s.Ws[s.Ws.findIdx (isC a)] = y := ⟨_, rfl⟩
    have HF : Hid (P (.returned (.tuple #[.int .i64 y1, .bool true])) w2) := F1.out w2 y1 B2.out hh (by unfold writtenZ; rw [getD_at _ _ _ hi, hy])
    obtain ⟨g', c', hg2, hcl, hfr⟩ := x.ww.cell hi
    rw [hg] at hg2
    simp only [Value.slice.injEq, Option.some.injEq, Addr.mk.injEq, and_true, true_and] at hg2
    obtain ⟨rfl, _⟩ := hg2
    rw [hy] at hcl
    obtain ⟨d0, d1⟩ := duo_own rfl rfl hcl
    clear hy hcl hfr x hi hg hh
    generalize s.Ws.findIdx (isC a) * 2 = q at *
    go_wp2
    first | exact HF.out | (go_ret2; exact HF.out)
set_option maxRecDepth 100000 in
set_option maxHeartbeats 4000000 in
theorem emit_any (h : LV w lab c lb s) (v : Int) : Calls Try.prog 53 #[.pointer (some ⟨lb, 0, none⟩), .int .i64 v] w (LQ c lab lb (emitS s v) (.int .i64 (emitE s)) w) := by
  obtain ⟨hb, bo, bn, rv, wv, ov, many, h⟩ := h
  have HH : Hid (LX w lab c lb hb bo bn rv wv ov many s) := h
  have HX : Hid (∀ W, Below w.heap.size w W → LX W lab c lb hb bo bn rv wv ov many s) := fun W hW => h.below hW
  obtain ⟨n, hn⟩ : ∃ n, s.Os.length = n := ⟨_, rfl⟩
  have HN : Hid (s.Os.length = n) := hn
  have hlen := h.lens.2.2
  have hR := h.ok.o
  obtain ⟨ra, rk, hrv⟩ := h.oo.sl
  rw [hn] at hrv hlen
  clear h
  have F2 : Hid (∀ W k, Below w.heap.size w W → n = s.O → LQ c lab lb (emitS s v) (.int .i64 (emitE s)) w (.returned (.int .i64 200)) (W.drewN k)) := fun W k hW e2 => by
    unfold emitS emitE
    rw [HN.out]
    simp only [e2, if_true]
    exact LQ.below HH.out.lv (Below.dN hW k)
  have F3 : Hid (∀ (V w4 : World) v4, Below w.heap.size w V → n ≠ s.O → V.grownBy w4 ov.ownBlock → RZ kN w4 v4 (s.Os ++ [v]) → (v4.ownBlock = ov.ownBlock ∨ v4.ownBlock = some V.heap.size) → LQ c lab lb (emitS s v) (.int .i64 (emitE s)) w (.returned (.int .i64 0)) (w4.setCell ⟨lb, 5, none⟩ v4)) := fun V w4 v4 hV e2 g4 hz ho => by
    unfold emitS emitE
    rw [HN.out]
    simp only [if_neg e2]
    obtain ⟨lab', q1, q2⟩ := HH.out.row_o hV g4 hz ho (by have := HH.out.ok.lo; have := HN.out; simp; omega)
    exact ⟨rfl, lab', q1.lv, q2⟩
  have c2 := HH.out.cell.2.2.1
  have c5 := HH.out.cell.2.2.2.2.2.1
  generalize LQ c lab lb (emitS s v) (.int .i64 (emitE s)) w = P at *
  subst hrv
  by_cases hf : n = s.O
  · have HF : Hid (∀ k, P (.returned (.int .i64 200)) (w.drewN k)) := fun k => F2.out w k (Below.refl _ _) hf
    have e1 : ((n : Int) == (s.O : Int)) = true := by simp [hf]
    have e2 : (n == s.O) = true := by simp [hf]
    go_enter Try.func53, Try.ntmps53
    go_wp2_with fail
    go_quiet (fail)
    go_wp2
    first | exact HF.out _ | (go_ret; exact HF.out _)
  · have e1 : ((n : Int) == (s.O : Int)) = false := by simp; omega
    have e2 : (n == s.O) = false := by simp; omega
    go_enter Try.func53, Try.ntmps53
    go_wp2_with fail
    go_quiet (fail)
    go_upto_region 3 with fail
    generalize hW : w.drewN nq = W3
    have HW : Hid (Below w.heap.size w W3) := by rw [← hW]; exact Below.dN (Below.refl _ _) nq
    have c5 := (HX.out _ HW.out).cell.2.2.2.2.2.1
    clear hW
    have HP1 : Hid (∀ A, Below w.heap.size w (W3.alloc A) ∧ RZ kN (W3.alloc A) (.slice ra n rk) s.Os) := fun A => by
      have hB := HW.out.trans ((bl1 W3 A).mono HW.out.size)
      exact ⟨hB, (HX.out _ hB).oo⟩
    have HP2 : Hid (∀ j, j < kN.k → (W3.alloc (.cells #[.int .i64 v] 2)).cell? ⟨W3.heap.size, j, none⟩ = (kN.cl v)[j]?) := fun j hj => by
      match j, hj with
      | 0, _ => simp [kN, uno]
    have hl5 : s.Os.length ≤ 100000 := by omega
    go_wp2_with (at_builtin; refine push_one kN _ rfl _ _ rfl _ s.Os v rfl (HP1.out _).2 W3.heap.size rfl HP2.out hl5 ?_)
    intro v4 w4 hz g4 ho
    have xV := HX.out _ (HP1.out (.cells #[.int .i64 v] 2)).1
    have HQ : Hid (P (.returned (.int .i64 0)) (w4.setCell ⟨lb, 5, none⟩ v4)) := F3.out _ w4 _ (HP1.out _).1 hf g4 hz (ho.imp id (fun e => e.trans (by simp)))
    have e : w4.heap[lb]? = (W3.alloc (.cells #[.int .i64 v] 2)).heap[lb]? := g4.block lb (xV.lt lb (by rw [xV.l1]; omega)) (fun e => by have := xV.l7 lb e.symm; rw [xV.l1] at this; omega)
    have k0 : w4.cell? ⟨lb, 5, none⟩ = some (.slice ra n rk) := (World.cell?_of_block (a := ⟨lb, 5, none⟩) e).trans xV.cell.2.2.2.2.2.1
    have k1 : w4.frozen? ⟨lb, 5, none⟩ = false := (World.frozen?_of_block (a := ⟨lb, 5, none⟩) e).trans (xV.f 5)
    obtain ⟨a4, q4, rfl⟩ := hz.sl
    clear hz g4 ho e xV
    generalize (s.Os ++ [v]).length = q5 at *
    go_wp2
    first | exact HQ.out | (go_ret; exact HQ.out)
theorem addM_bd (N : Nat) (m c : Int) (h : 0 ≤ m ∧ m ≤ 9223372036854775807) : 0 ≤ addM N m c ∧ addM N m c ≤ 9223372036854775807 := by
  unfold addM
  split
  · split <;> omega
  · exact h
set_option maxRecDepth 100000 in
set_option maxHeartbeats 4000000 in
theorem into_any (h : LV w lab c lb s) (a v : Int) : Calls Try.prog 55 #[.pointer (some ⟨lb, 0, none⟩), .int .i64 a, .int .i64 v] w (LQ c lab lb (intoS s a v) (.bool (inB s.ops.length a)) w) := by
  obtain ⟨hb, bo, bn, rv, wv, ov, many, h⟩ := h
  have HA : Hid (Calls Try.prog 87 #[.pointer (some ⟨hb, 0, none⟩), .int .i64 a, .int .i64 v] w (AddP hb bo bn s.ops s.now many a v w)) := hadd_any a v h.mm w h.hp
  have F : Hid (∀ e W, AddP hb bo bn s.ops s.now many a v w e W → e = .returned (.bool (inB s.ops.length a)) ∧ LQ c lab lb (intoS s a v) (.bool (inB s.ops.length a)) w (.returned (.bool (inB s.ops.length a))) W) := fun e W ⟨h1, h2, h3⟩ => by
    obtain ⟨q1, q2⟩ := h.heap h2 h3 (addM_bd _ _ _ h.mm)
    exact ⟨h1, rfl, lab, q1.lv, q2⟩
  have c6 := h.cell.2.2.2.2.2.2
  clear h
  generalize AddP hb bo bn s.ops s.now many a v w = Q at *
  generalize inB s.ops.length a = b at *
  generalize LQ c lab lb (intoS s a v) (.bool b) w = P at *
  go_enter Try.func55, Try.ntmps55
  go_wp2_with fail
  refine HA.out.mono ?_
  rintro e w2 hq
  obtain ⟨rfl, hp⟩ := F.out _ _ hq
  have HP : Hid (P (.returned (.bool b)) w2) := hp
  go_wp2
  first | exact HP.out | (go_ret; exact HP.out)
set_option maxRecDepth 100000 in
set_option maxHeartbeats 4000000 in
theorem lclear_any (h : LV w lab c lb s) : Calls Try.prog 14 #[.pointer (some ⟨lb, 0, none⟩)] w (LQ c lab lb (clearS s) (.tuple #[]) w) := by
  obtain ⟨hb, bo, bn, rv, wv, ov, many, h⟩ := h
  obtain ⟨q1, q2⟩ := h.bare
  have HCL : Hid (Calls Try.prog 62 #[.pointer (some ⟨hb, 0, none⟩)] (((w.setCell ⟨lb, 3, none⟩ (.slice none 0 0)).setCell ⟨lb, 4, none⟩ (.slice none 0 0)).setCell ⟨lb, 5, none⟩ (.slice none 0 0)) (fun e w' => e = .returned (.tuple #[]) ∧ LQ c lab lb (clearS s) (.tuple #[]) w (.returned (.tuple #[])) w')) := by
    refine (clear_any _ q1.hp).mono ?_
    rintro e w' ⟨rfl, h1, h2⟩
    obtain ⟨q3, q4⟩ := q1.heap h1 h2 (by omega)
    exact ⟨rfl, rfl, lab, q3.lv, q2.trans q4⟩
  have c3 := h.cell.2.2.2.1
  have c4 := h.cell.2.2.2.2.1
  have c5 := h.cell.2.2.2.2.2.1
  have c6 := h.cell.2.2.2.2.2.2
  have f3 := h.f 3
  have f4 := h.f 4
  have f5 := h.f 5
  clear h q1 q2
  generalize LQ c lab lb (clearS s) (.tuple #[]) w = P at *
  go_enter Try.func14, Try.ntmps14
  go_wp2_with fail
  refine HCL.out.mono ?_
  rintro e w2 ⟨rfl, hp⟩
  have HP : Hid (P (.returned (.tuple #[])) w2) := hp
  clear hp
  go_wp2
  first | exact HP.out | (go_end0; exact HP.out)
end
end Go.Proofs.Ytongeppdaeekeaa
