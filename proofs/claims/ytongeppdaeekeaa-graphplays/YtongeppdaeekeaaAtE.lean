/- A word was read of the world. -/
import Derived.Test.YtongeppdaeekeaaAtD
import Derived.Deep.RegionWith
import Derived.BigRegion
namespace Go.Proofs.Ytongeppdaeekeaa
open Go.RowKit Go.Maps
set_option linter.unusedVariables false

/-- an append that is named -/
def appJ (ats : Array TypeId) (ty : TypeId) (args : Array Value) : Sem Value := Builtin.append_ ats ty args
theorem app_one {α : Type} (K : RK α) (w : World) (ty : TypeId) (v : Value) (l : List α) (z : α) (hown : RZ K w v l) (g : Nat) (hc : ∀ j, j < K.k → w.cell? ⟨g, j, none⟩ = (K.cl z)[j]?) (hlen : l.length ≤ 100000) :
    ∃ v' w', (appJ #[K.st, K.st] ty #[v, .slice (some ⟨g, 0, none⟩) 1 1]).run Try.prog w = .ok v' w' ∧ RZ K w' v' (l ++ [z]) ∧ w.grownBy w' v.ownBlock ∧ (v'.ownBlock = v.ownBlock ∨ v'.ownBlock = some w.heap.size) := by
  obtain ⟨i0, hi, hz0, hz1, hz2⟩ := K.info
  obtain ⟨v', w', e1, e2, e3, e4, e5⟩ := run_append_own_at (P := Try.prog) w 0 K.st ty K.et i0 K.zero K.k K.bytes K.und hi hz0 hz1 hz2 K.zs K.pos v l.length (K.flat l) hown ⟨g, 0, none⟩ 1 1 (K.cl z) (by rw [K.len, Nat.one_mul]) (new_at K z g hc) (K.one z) (by unfold maxLen; omega) (by
      have h1 := K.bd
      have : (l.length + 1) * K.bytes ≤ 100001 * 1000 := Nat.mul_le_mul (by omega) h1
      omega) (Nat.zero_le _)
  refine ⟨v', w', e1, ?_, e3, e5⟩
  unfold RZ
  rw [List.length_append, K.flat_app]
  have : K.flat [z] = K.cl z := by simp [RK.flat]
  rw [this]; exact e2
@[local go_sem ↓] theorem app_hold (ats : Array TypeId) (ty : TypeId) (args : Array Value) : Builtin.append_ ats ty args = appJ ats ty args := rfl
/-- a log was called: what it is now, and what was answered -/
def LQ (c : Nat) (lab : Nat → Nat) (lb : Nat) (s : Lg) (v : Value) (w : World) (e : Ending) (w' : World) : Prop := e = .returned v ∧ ∃ lab', LV w' lab' c lb s ∧ LabQ c lab lab' w w'
theorem LQ.below {c : Nat} {lab : Nat → Nat} {lb : Nat} {s : Lg} {v : Value} {w w' : World} (h : LV w lab c lb s) (b : Below w.heap.size w w') : LQ c lab lb s v w (.returned v) w' := ⟨rfl, lab, h.below b, LabQ.of b⟩
def hasR (s : Lg) (at' : Int) : Bool := decide (s.Rs.findIdx (isR at') < s.Rs.length)
def noteS (s : Lg) (z : Int × Int × Int) : Lg := if hasR s z.1 then s else if s.Rs.length = s.R then s else { s with Rs := s.Rs ++ [z] }
def noteE (s : Lg) (z : Int × Int × Int) : Int := if hasR s z.1 then 61 else if s.Rs.length = s.R then 200 else 0
section
variable {w w' V w4 : World} {lab lab' : Nat → Nat} {c lb hb bo bn : Nat} {rv wv ov : Value} {many : Int} {s : Lg}
set_option maxRecDepth 100000 in
set_option maxHeartbeats 4000000 in
theorem note_any (h : LV w lab c lb s) (z0 z1 z2 : Int) : Calls Try.prog 22 #[.pointer (some ⟨lb, 0, none⟩), .agg #[.int .i64 z0, .int .i64 z1, .int .i64 z2]] w (LQ c lab lb (noteS s (z0, z1, z2)) (.int .i64 (noteE s (z0, z1, z2))) w) := by
  obtain ⟨hb, bo, bn, rv, wv, ov, many, h⟩ := h
  obtain ⟨U, hU⟩ : ∃ U, w.alloc (.cells #[.int .i64 z0, .int .i64 z1, .int .i64 z2] 57) = U := ⟨_, rfl⟩
  have HU : Hid (w.alloc (.cells #[.int .i64 z0, .int .i64 z1, .int .i64 z2] 57) = U) := hU
  have bU : Below w.heap.size w U := by rw [← hU]; exact bl1 _ _
  have HBU : Hid (Below w.heap.size w U) := bU
  have u0 : U.cell? ⟨w.heap.size, 0, none⟩ = some (.int .i64 z0) := by rw [← hU]; simp
  have u1 : U.cell? ⟨w.heap.size, 1, none⟩ = some (.int .i64 z1) := by rw [← hU]; simp
  have u2 : U.cell? ⟨w.heap.size, 2, none⟩ = some (.int .i64 z2) := by rw [← hU]; simp
  have husz : w.heap.size < U.heap.size := by rw [← hU]; simp
  have HC3 : Hid (∀ W, Below U.heap.size U W → W.cell? ⟨w.heap.size, 0, none⟩ = some (.int .i64 z0) ∧ W.cell? ⟨w.heap.size, 1, none⟩ = some (.int .i64 z1) ∧ W.cell? ⟨w.heap.size, 2, none⟩ = some (.int .i64 z2)) := fun W hW =>
    ⟨(hW.cell (p := ⟨w.heap.size, 0, none⟩) husz).trans u0, (hW.cell (p := ⟨w.heap.size, 1, none⟩) husz).trans u1, (hW.cell (p := ⟨w.heap.size, 2, none⟩) husz).trans u2⟩
  have HH : Hid (LX w lab c lb hb bo bn rv wv ov many s) := h
  have HX : Hid (∀ W, Below U.heap.size U W → LX W lab c lb hb bo bn rv wv ov many s) := fun W hW => (h.below bU).below hW
  have HRD : Hid (Calls Try.prog 67 #[.pointer (some ⟨lb, 0, none⟩), .int .i64 z0] U (FndQ 3 rv s.Rs (isR z0) U)) := read_any (h.below bU) z0
  obtain ⟨n, hn⟩ : ∃ n, s.Rs.length = n := ⟨_, rfl⟩
  have HN : Hid (s.Rs.length = n) := hn
  have hlen := h.lens.1
  have hR := h.ok.r
  obtain ⟨ra, rk, hrv⟩ := h.rr.sl
  rw [hn] at hrv hlen
  clear h hU bU u1 u2 husz
  have F1 : Hid (∀ W, Below U.heap.size U W → hasR s z0 = true → LQ c lab lb (noteS s (z0, z1, z2)) (.int .i64 (noteE s (z0, z1, z2))) w (.returned (.int .i64 61)) W) := fun W hW e => by
    unfold noteS noteE
    simp only [e, if_true]
    exact LQ.below HH.out.lv (HBU.out.trans (hW.mono HBU.out.size))
  have F2 : Hid (∀ W k, Below U.heap.size U W → hasR s z0 = false → n = s.R → LQ c lab lb (noteS s (z0, z1, z2)) (.int .i64 (noteE s (z0, z1, z2))) w (.returned (.int .i64 200)) (W.drewN k)) := fun W k hW e e2 => by
    unfold noteS noteE
    rw [HN.out]
    simp only [e, e2, Bool.false_eq_true, if_false, if_true]
    exact LQ.below HH.out.lv (Below.dN (HBU.out.trans (hW.mono HBU.out.size)) k)
  have F3 : Hid (∀ (V w4 : World) v4, Below U.heap.size U V → hasR s z0 = false → n ≠ s.R → V.grownBy w4 rv.ownBlock → RZ kR w4 v4 (s.Rs ++ [(z0, z1, z2)]) → (v4.ownBlock = rv.ownBlock ∨ v4.ownBlock = some V.heap.size) → LQ c lab lb (noteS s (z0, z1, z2)) (.int .i64 (noteE s (z0, z1, z2))) w (.returned (.int .i64 0)) (w4.setCell ⟨lb, 3, none⟩ v4)) := fun V w4 v4 hV e e2 g4 hz ho => by
    unfold noteS noteE
    rw [HN.out]
    simp only [e, Bool.false_eq_true, if_false, if_neg e2]
    obtain ⟨lab', q1, q2⟩ := HH.out.row_r (HBU.out.trans (hV.mono HBU.out.size)) g4 hz ho (by have := HH.out.ok.lr; have := HN.out; simp; omega)
    exact ⟨rfl, lab', q1.lv, q2⟩
  generalize LQ c lab lb (noteS s (z0, z1, z2)) (.int .i64 (noteE s (z0, z1, z2))) w = P at *
  go_enter Try.func22, Try.ntmps22
  go_upto_region 1 with fail
  rw [HU.out]
  go_wp2_with fail
  refine HRD.out.mono ?_
  rintro e w2 ⟨b2, hq⟩
  have B2 : Hid (Below U.heap.size U w2) := b2
  clear b2
  rcases hq with ⟨hi, rfl⟩ | ⟨g, cp, hg, hi, rfl⟩
  · have hh : hasR s z0 = false := decide_eq_false (by omega)
    have HHH : Hid (hasR s z0 = false) := hh
    have c0 := (HX.out _ B2.out).cell.1
    have c3 := (HX.out _ B2.out).cell.2.2.2.1
    have f3 := (HX.out _ B2.out).f 3
    obtain ⟨d0, d1, d2⟩ := HC3.out _ B2.out
    clear hi hh
    subst hrv
    by_cases hf : n = s.R
    · have HF : Hid (∀ k, P (.returned (.int .i64 200)) (w2.drewN k)) := fun k => F2.out w2 k B2.out HHH.out hf
      have e1 : ((n : Int) == (s.R : Int)) = true := by simp [hf]
      have e2 : (n == s.R) = true := by simp [hf]
      go_wp2_with fail
      go_quiet (fail)
      go_wp2
      first | exact HF.out _ | (go_ret; exact HF.out _)
    · have e1 : ((n : Int) == (s.R : Int)) = false := by simp; omega
      have e2 : (n == s.R) = false := by simp; omega
      go_wp2_with fail
      go_quiet (fail)
      go_upto_region 5 with fail
      generalize hW : w2.drewN nq = W3
      have HW : Hid (Below U.heap.size U W3) := by rw [← hW]; exact Below.dN B2.out nq
      have c0 := (HX.out _ HW.out).cell.1
      have c3 := (HX.out _ HW.out).cell.2.2.2.1
      have f3 := (HX.out _ HW.out).f 3
      obtain ⟨d0, d1, d2⟩ := HC3.out _ HW.out
      clear hW
      obtain ⟨V, hV⟩ : ∃ V, (W3.alloc (.cells #[.int .i64 z0, .int .i64 z1, .int .i64 z2] 57)).drew = V := ⟨_, rfl⟩
      have bV : Below U.heap.size U V := by rw [← hV]; exact HW.out.trans (((bl1 W3 _).drew).mono HW.out.size)
      have xV := HX.out _ bV
      obtain ⟨v4, w4, hr, hz, g4, ho⟩ := app_one kR V 54 (.slice ra n rk) s.Rs (z0, z1, z2) xV.rr W3.heap.size (fun j hj => by
        rw [← hV]
        match j, hj with
        | 0, _ => simp [kR, tri]
        | 1, _ => simp [kR, tri]
        | 2, _ => simp [kR, tri]) (by omega)
      have HQ : Hid (P (.returned (.int .i64 0)) (w4.setCell ⟨lb, 3, none⟩ v4)) := F3.out V w4 _ bV HHH.out hf g4 hz ho
      have e : w4.heap[lb]? = V.heap[lb]? := g4.block lb (xV.lt lb (by rw [xV.l1]; omega)) (fun e => by have := xV.l5 lb e.symm; rw [xV.l1] at this; omega)
      have k0 : w4.cell? ⟨lb, 3, none⟩ = some (.slice ra n rk) := (World.cell?_of_block (a := ⟨lb, 3, none⟩) e).trans xV.cell.2.2.2.1
      have k1 : w4.frozen? ⟨lb, 3, none⟩ = false := (World.frozen?_of_block (a := ⟨lb, 3, none⟩) e).trans (xV.f 3)
      rw [← hV] at hr
      have hr' : (appJ #[54, 54] 54 #[.slice ra n rk, .slice (some ⟨W3.heap.size, 0, none⟩) 1 1]).run Try.prog (W3.alloc (.cells #[.int .i64 z0, .int .i64 z1, .int .i64 z2] 57)).drew = .ok v4 w4 := hr
      obtain ⟨a4, q4, rfl⟩ := hz.sl
      have c3' := ((HX.out _ (HW.out.trans ((bl1 W3 (.cells #[.int .i64 z0, .int .i64 z1, .int .i64 z2] 57)).mono HW.out.size))).cell).2.2.2.1
      clear hr e xV bV g4 hz ho hV
      generalize (s.Rs ++ [(z0, z1, z2)]).length = q5 at *
      go_region
      go_wp2
      first | exact HQ.out | (go_ret; exact HQ.out)
  · have hh : hasR s z0 = true := decide_eq_true (by have := HN.out; omega)
    have HF : Hid (P (.returned (.int .i64 61)) w2) := F1.out w2 B2.out hh
    go_wp2
    first | exact HF.out | (go_ret; exact HF.out)
end
end Go.Proofs.Ytongeppdaeekeaa
