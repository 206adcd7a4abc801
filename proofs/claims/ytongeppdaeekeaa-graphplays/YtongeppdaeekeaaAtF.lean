/- A word is written; a read is from another age. -/
import Derived.Test.YtongeppdaeekeaaAtE
namespace Go.Proofs.Ytongeppdaeekeaa
open Go.RowKit Go.Maps
set_option linter.unusedVariables false

def hasC (s : Lg) (at' : Int) : Bool := decide (s.Ws.findIdx (isC at') < s.Ws.length)
def writeS (s : Lg) (at' v : Int) : Lg := if hasC s at' then { s with Ws := s.Ws.set (s.Ws.findIdx (isC at')) ((s.Ws.getD (s.Ws.findIdx (isC at')) (0, 0)).1, v) } else if s.Ws.length = s.W then s else { s with Ws := s.Ws ++ [(at', v)] }
def writeE (s : Lg) (at' : Int) : Int := if hasC s at' then 0 else if s.Ws.length = s.W then 200 else 0
def fromS (s : Lg) (at' age : Int) : Lg := if hasR s at' then { s with Rs := s.Rs.set (s.Rs.findIdx (isR at')) ((s.Rs.getD (s.Rs.findIdx (isR at')) (0, 0, 0)).1, (s.Rs.getD (s.Rs.findIdx (isR at')) (0, 0, 0)).2.1, age) } else s
theorem getD_at {α : Type} (l : List α) (d : α) (i : Nat) (h : i < l.length) : l.getD i d = l[i] := by simp [List.getD, h]
section
variable {w w' V w4 : World} {lab lab' : Nat → Nat} {c lb hb bo bn : Nat} {rv wv ov : Value} {many : Int} {s : Lg}
set_option maxRecDepth 100000 in
set_option maxHeartbeats 4000000 in
theorem write_any (h : LV w lab c lb s) (a v : Int) : Calls Try.prog 51 #[.pointer (some ⟨lb, 0, none⟩), .int .i64 a, .int .i64 v] w (LQ c lab lb (writeS s a v) (.int .i64 (writeE s a)) w) := by
  obtain ⟨hb, bo, bn, rv, wv, ov, many, h⟩ := h
  have HH : Hid (LX w lab c lb hb bo bn rv wv ov many s) := h
  have HX : Hid (∀ W, Below w.heap.size w W → LX W lab c lb hb bo bn rv wv ov many s) := fun W hW => h.below hW
  have HRD : Hid (Calls Try.prog 86 #[.pointer (some ⟨lb, 0, none⟩), .int .i64 a] w (FndQ 2 wv s.Ws (isC a) w)) := written_any h a
  obtain ⟨n, hn⟩ : ∃ n, s.Ws.length = n := ⟨_, rfl⟩
  have HN : Hid (s.Ws.length = n) := hn
  have hlen := h.lens.2.1
  have hR := h.ok.w
  obtain ⟨ra, rk, hrv⟩ := h.ww.sl
  rw [hn] at hrv hlen
  clear h
  have F1 : Hid (∀ W g cp, Below w.heap.size w W → hasC s a = true → wv = .slice (some ⟨g, 0, none⟩) n cp → LQ c lab lb (writeS s a v) (.int .i64 (writeE s a)) w (.returned (.int .i64 0)) (W.setCell ⟨g, s.Ws.findIdx (isC a) * 2 + 1, none⟩ (.int .i64 v))) := fun W g cp hW e hg => by
    unfold writeS writeE
    simp only [e, if_true]
    have hi := of_decide_eq_true e
    have x := HX.out W hW
    subst hg
    obtain ⟨q1, q2⟩ := x.set_w hi (j := 1) (by omega) (.int .i64 v) ((s.Ws.getD (s.Ws.findIdx (isC a)) (0, 0)).1, v) (by rw [getD_at _ _ _ hi]; rfl)
    exact ⟨rfl, lab, q1.lv, (LabQ.of hW).trans q2⟩
  have F2 : Hid (∀ W k, Below w.heap.size w W → hasC s a = false → n = s.W → LQ c lab lb (writeS s a v) (.int .i64 (writeE s a)) w (.returned (.int .i64 200)) (W.drewN k)) := fun W k hW e e2 => by
    unfold writeS writeE
    rw [HN.out]
    simp only [e, e2, Bool.false_eq_true, if_false, if_true]
    exact LQ.below HH.out.lv (Below.dN hW k)
  have F3 : Hid (∀ (V w4 : World) v4, Below w.heap.size w V → hasC s a = false → n ≠ s.W → V.grownBy w4 wv.ownBlock → RZ kC w4 v4 (s.Ws ++ [(a, v)]) → (v4.ownBlock = wv.ownBlock ∨ v4.ownBlock = some V.heap.size) → LQ c lab lb (writeS s a v) (.int .i64 (writeE s a)) w (.returned (.int .i64 0)) (w4.setCell ⟨lb, 4, none⟩ v4)) := fun V w4 v4 hV e e2 g4 hz ho => by
    unfold writeS writeE
    rw [HN.out]
    simp only [e, Bool.false_eq_true, if_false, if_neg e2]
    obtain ⟨lab', q1, q2⟩ := HH.out.row_w hV g4 hz ho (by have := HH.out.ok.lw; have := HN.out; simp; omega)
    exact ⟨rfl, lab', q1.lv, q2⟩
  generalize LQ c lab lb (writeS s a v) (.int .i64 (writeE s a)) w = P at *
  go_enter Try.func51, Try.ntmps51
  go_wp2_with fail
  refine HRD.out.mono ?_
  rintro e w2 ⟨b2, hq⟩
  have B2 : Hid (Below w.heap.size w w2) := b2
  clear b2
  rcases hq with ⟨hi, rfl⟩ | ⟨g, cp, hg, hi, rfl⟩
  · have hh : hasC s a = false := decide_eq_false (by omega)
    have HHH : Hid (hasC s a = false) := hh
    have c1 := (HX.out _ B2.out).cell.2.1
    have c4 := (HX.out _ B2.out).cell.2.2.2.2.1
    clear hi hh
    subst hrv
    by_cases hf : n = s.W
    · have HF : Hid (∀ k, P (.returned (.int .i64 200)) (w2.drewN k)) := fun k => F2.out w2 k B2.out HHH.out hf
      have e1 : ((n : Int) == (s.W : Int)) = true := by simp [hf]
      have e2 : (n == s.W) = true := by simp [hf]
      go_wp2_with fail
      go_quiet (fail)
      go_wp2
      first | exact HF.out _ | (go_ret; exact HF.out _)
    · have e1 : ((n : Int) == (s.W : Int)) = false := by simp; omega
      have e2 : (n == s.W) = false := by simp; omega
      go_wp2_with fail
      go_quiet (fail)
      go_upto_region 7 with fail
      generalize hW : w2.drewN nq = W3
      have HW : Hid (Below w.heap.size w W3) := by rw [← hW]; exact Below.dN B2.out nq
      have c4 := (HX.out _ HW.out).cell.2.2.2.2.1
      clear hW
      have HP1 : Hid (∀ A, Below w.heap.size w (W3.alloc A) ∧ RZ kC (W3.alloc A) (.slice ra n rk) s.Ws) := fun A => by
        have hB := HW.out.trans ((bl1 W3 A).mono HW.out.size)
        exact ⟨hB, (HX.out _ hB).ww⟩
      have HP2 : Hid (∀ j, j < kC.k → (W3.alloc (.cells #[.int .i64 a, .int .i64 v] 120)).cell? ⟨W3.heap.size, j, none⟩ = (kC.cl (a, v))[j]?) := fun j hj => by
        match j, hj with
        | 0, _ => simp [kC, duo]
        | 1, _ => simp [kC, duo]
      have hl5 : s.Ws.length ≤ 100000 := by omega
      go_wp2_with (at_builtin; refine push_one kC _ rfl _ _ rfl _ s.Ws (a, v) rfl (HP1.out _).2 W3.heap.size rfl HP2.out hl5 ?_)
      intro v4 w4 hz g4 ho
      have xV := HX.out _ (HP1.out (.cells #[.int .i64 a, .int .i64 v] 120)).1
      have HQ : Hid (P (.returned (.int .i64 0)) (w4.setCell ⟨lb, 4, none⟩ v4)) := F3.out _ w4 _ (HP1.out _).1 HHH.out hf g4 hz (ho.imp id (fun e => e.trans (by simp)))
      have e : w4.heap[lb]? = (W3.alloc (.cells #[.int .i64 a, .int .i64 v] 120)).heap[lb]? := g4.block lb (xV.lt lb (by rw [xV.l1]; omega)) (fun e => by have := xV.l6 lb e.symm; rw [xV.l1] at this; omega)
      have k0 : w4.cell? ⟨lb, 4, none⟩ = some (.slice ra n rk) := (World.cell?_of_block (a := ⟨lb, 4, none⟩) e).trans xV.cell.2.2.2.2.1
      have k1 : w4.frozen? ⟨lb, 4, none⟩ = false := (World.frozen?_of_block (a := ⟨lb, 4, none⟩) e).trans (xV.f 4)
      obtain ⟨a4, q4, rfl⟩ := hz.sl
      clear hz g4 ho e xV
      generalize (s.Ws ++ [(a, v)]).length = q5 at *
      go_wp2
      first | exact HQ.out | (go_ret; exact HQ.out)
  · have hh : hasC s a = true := decide_eq_true (by have := HN.out; omega)
    have hg' : wv = .slice (some ⟨g, 0, none⟩) n cp := by rw [← HN.out]; exact hg
    have HF : Hid (P (.returned (.int .i64 0)) (w2.setCell ⟨g, s.Ws.findIdx (isC a) * 2 + 1, none⟩ (.int .i64 v))) := F1.out w2 g cp B2.out hh hg'
    have x := HX.out _ B2.out
    have hi' : s.Ws.findIdx (isC a) < s.Ws.length := by have := HN.out; omega
    obtain ⟨y, hy⟩ : ∃ y, s.Ws[s.Ws.findIdx (isC a)] = y := ⟨_, rfl⟩
    obtain ⟨g', c', hg2, hcl, hfr⟩ := x.ww.cell hi'
    rw [hg] at hg2
    simp only [Value.slice.injEq, Option.some.injEq, Addr.mk.injEq, and_true, true_and] at hg2
    obtain ⟨rfl, _⟩ := hg2
    rw [hy] at hcl
    obtain ⟨d0, d1⟩ := duo_own rfl rfl hcl
    have fr := hfr (s.Ws.findIdx (isC a) * 2 + 1)
    clear hy hcl hfr x hi' hi hg hg' hh
    generalize s.Ws.findIdx (isC a) * 2 = q at *
    go_wp2
    first | exact HF.out | (go_ret; exact HF.out)
set_option maxRecDepth 100000 in
set_option maxHeartbeats 4000000 in
theorem from_any (h : LV w lab c lb s) (a age : Int) : Calls Try.prog 48 #[.pointer (some ⟨lb, 0, none⟩), .int .i64 a, .int .i64 age] w (LQ c lab lb (fromS s a age) (.bool (hasR s a)) w) := by
  obtain ⟨hb, bo, bn, rv, wv, ov, many, h⟩ := h
  have HH : Hid (LX w lab c lb hb bo bn rv wv ov many s) := h
  have HX : Hid (∀ W, Below w.heap.size w W → LX W lab c lb hb bo bn rv wv ov many s) := fun W hW => h.below hW
  have HRD : Hid (Calls Try.prog 67 #[.pointer (some ⟨lb, 0, none⟩), .int .i64 a] w (FndQ 3 rv s.Rs (isR a) w)) := read_any h a
  clear h
  have F1 : Hid (∀ W g cp, Below w.heap.size w W → hasR s a = true → rv = .slice (some ⟨g, 0, none⟩) s.Rs.length cp → LQ c lab lb (fromS s a age) (.bool (hasR s a)) w (.returned (.bool true)) (W.setCell ⟨g, s.Rs.findIdx (isR a) * 3 + 2, none⟩ (.int .i64 age))) := fun W g cp hW e hg => by
    unfold fromS
    rw [e, if_pos rfl]
    have hi := of_decide_eq_true e
    have x := HX.out W hW
    subst hg
    obtain ⟨q1, q2⟩ := x.set_r hi (j := 2) (by omega) (.int .i64 age) ((s.Rs.getD (s.Rs.findIdx (isR a)) (0, 0, 0)).1, (s.Rs.getD (s.Rs.findIdx (isR a)) (0, 0, 0)).2.1, age) (by rw [getD_at _ _ _ hi]; rfl)
    exact ⟨rfl, lab, q1.lv, (LabQ.of hW).trans q2⟩
  have F2 : Hid (∀ W, Below w.heap.size w W → hasR s a = false → LQ c lab lb (fromS s a age) (.bool (hasR s a)) w (.returned (.bool false)) W) := fun W hW e => by
    unfold fromS
    rw [e, if_neg (by decide)]
    exact LQ.below HH.out.lv hW
  generalize LQ c lab lb (fromS s a age) (.bool (hasR s a)) w = P at *
  go_enter Try.func48, Try.ntmps48
  go_wp2_with fail
  refine HRD.out.mono ?_
  rintro e w2 ⟨b2, hq⟩
  have B2 : Hid (Below w.heap.size w w2) := b2
  clear b2
  rcases hq with ⟨hi, rfl⟩ | ⟨g, cp, hg, hi, rfl⟩
  · have hh : hasR s a = false := decide_eq_false (by omega)
    have HF : Hid (P (.returned (.bool false)) w2) := F2.out w2 B2.out hh
    clear hi hh
    go_wp2
    first | exact HF.out | (go_ret; exact HF.out)
  · have hh : hasR s a = true := decide_eq_true hi
    have HF : Hid (P (.returned (.bool true)) (w2.setCell ⟨g, s.Rs.findIdx (isR a) * 3 + 2, none⟩ (.int .i64 age))) := F1.out w2 g cp B2.out hh hg
    have x := HX.out _ B2.out
    obtain ⟨y, hy⟩ : ∃ y, s.Rs[s.Rs.findIdx (isR a)] = y := ⟨_, rfl⟩
    obtain ⟨g', c', hg2, hcl, hfr⟩ := x.rr.cell hi
    rw [hg] at hg2
    simp only [Value.slice.injEq, Option.some.injEq, Addr.mk.injEq, and_true, true_and] at hg2
    obtain ⟨rfl, _⟩ := hg2
    rw [hy] at hcl
    obtain ⟨d0, d1, d2⟩ := tri_own rfl rfl hcl
    have fr := hfr (s.Rs.findIdx (isR a) * 3 + 2)
    clear hy hcl hfr x hi hg hh
    generalize s.Rs.findIdx (isR a) * 3 = q at *
    go_wp2
    first | exact HF.out | (go_ret; exact HF.out)
end
end Go.Proofs.Ytongeppdaeekeaa
