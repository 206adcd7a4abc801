/- The document's Equal and Same, of two rows that hold the same: true. -/
import Derived.Test.YtnofibjchhcmeabDoorEq
import Derived.Test.YtnofibjchhcmeabDoorCn
import Derived.StillTailTactics
import Derived.Deep.CutRange
namespace Go.Proofs.YtnofibjchhcmeabDoor
open Go.RowKit Go.Maps
set_option linter.unusedVariables false

def QE1 (w : World) (l : EL) (b o b' o' : Nat) (u5 : Value) (wr : World) : Prop :=
  ∃ (r : EL) (i : Nat), u5 = .int .i64 (i : Int) ∧ i + elen r = elen l ∧ ecnt r ≤ ecnt l ∧ EAt w (fun _ => True) r b (o + i * 5) ∧ EAt w (fun _ => True) r b' (o' + i * 5) ∧ Below w.heap.size w wr
def QS1 (w : World) (l : SL) (b o b' o' : Nat) (u5 : Value) (wr : World) : Prop :=
  ∃ (r : SL) (i : Nat), u5 = .int .i64 (i : Int) ∧ i + slen r = slen l ∧ scnt r ≤ scnt l ∧ SAt w (fun _ => True) r b (o + i * 6) ∧ SAt w (fun _ => True) r b' (o' + i * 6) ∧ Below w.heap.size w wr
theorem neqI (t : TypeId) (a : Int) (w : World) : (binOp .neq t (.int .i64 a) (.int .i64 a)).run Tryd.prog w = .ok (.bool false) w := by simp [go_sem]
theorem neqS (t : TypeId) (a : ByteArray) (w : World) : (binOp .neq t (.string a) (.string a)).run Tryd.prog w = .ok (.bool false) w := by simp [go_sem]
theorem grdI (t : TypeId) (x y : Operand) (a b : Int) (w : World) : (eqGuard .neq t x y (.int .i64 a) (.int .i64 b)).run Tryd.prog w = .ok () w := by simp [go_sem, eqGuard]
theorem grdS (t : TypeId) (x y : Operand) (a b : ByteArray) (w : World) : (eqGuard .neq t x y (.string a) (.string b)).run Tryd.prog w = .ok () w := by simp [go_sem, eqGuard]

set_option maxRecDepth 100000 in
set_option maxHeartbeats 16000000 in
theorem equal_true : ∀ (N : Nat) (l : EL) (va vb : Value) (w : World), ecnt l ≤ N → ESlP w (fun _ => True) va l → ESlP w (fun _ => True) vb l → Calls Tryd.prog 28 #[va, vb] w (QB w true) := by
  intro N
  induction N using Nat.strongRecOn with
  | _ N ih =>
  intro l va vb w hc hes hes'
  obtain ⟨ad, cap, b, o, rfl, h2, h3, h4, h5⟩ := hes
  obtain ⟨ad', cap', b', o', rfl, h2', h3', h4', h5'⟩ := hes'
  obtain ⟨P, hP⟩ : ∃ P, QB w true = P := ⟨_, rfl⟩
  have HP : Hid (QB w true = P) := hP
  rw [hP]
  have HIH : Hid (∀ M, M < N → ∀ (l : EL) (va vb : Value) (w : World), ecnt l ≤ M → ESlP w (fun _ => True) va l → ESlP w (fun _ => True) vb l → Calls Tryd.prog 28 #[va, vb] w (QB w true)) := ih
  have HAD : Hid (0 < elen l → ad = some ⟨b, o, none⟩ ∧ True) := h4
  have HAD' : Hid (0 < elen l → ad' = some ⟨b', o', none⟩ ∧ True) := h4'
  have E0 : Hid (QE1 w l b o b' o' (.int .i64 0) w) := ⟨l, 0, rfl, by omega, Nat.le_refl _, by simpa using h5, by simpa using h5', Below.refl _ _⟩
  have HC0 : Hid (ecnt l ≤ N) := hc
  unfold maxLen at h3 h3'
  clear ih hP h4 h5 h4' h5' hc
  go_enter Tryd.func28, Tryd.ntmps28
  go_wp2
  go_loopw [5] (fun u5 wr => Hid (QE1 w l b o b' o' u5 wr)) (fun u5 _ => elen l - (intOf u5).toNat)
  case atStart => exact E0
  case round =>
    clear E0
    obtain ⟨r, i, rfl, hi, hcr, hat, hat', hbl⟩ := hrel.out
    clear hrel
    have HBL : Hid (Below w.heap.size w wr ∧ w.heap.size ≤ wr.heap.size) := ⟨hbl, hbl.size⟩
    cases r with
    | leaf =>
      have hil : ¬ ((i : Int) < (elen l : Int)) := by simp only [elen] at hi; omega
      have HF : Hid (P (.returned (.bool true)) wr) := by show P _ _; rw [← HP.out]; exact ⟨rfl, HBL.out.1⟩
      clear hbl hat hat' hi
      go_wp2
      first | exact HF.out | (go_ret; exact HF.out)
    | inner j d q x r =>
      obtain ⟨k, m, s, p⟩ := d
      obtain ⟨ad1, cap1, hrd, hsl, hrest⟩ := EAx.read hat hbl
      obtain ⟨ad2, cap2, hrd', hsl', hrest'⟩ := EAx.read hat' hbl
      simp only [elen, ecnt] at hi hcr
      obtain ⟨e1, _⟩ := HAD.out (by omega)
      obtain ⟨e2, _⟩ := HAD'.out (by omega)
      subst e1 e2
      obtain ⟨hlt1, x0, x1, x2, x3, x4⟩ := hrd
      obtain ⟨hlt2, y0, y1, y2, y3, y4⟩ := hrd'
      have HC : Hid (∀ W, Below wr.heap.size wr W → Calls Tryd.prog 28 #[.slice ad1 (elen x) cap1, .slice ad2 (elen x) cap2] W (QB W true)) := fun W hW => HIH.out (ecnt x) (by have := HC0.out; omega) x _ _ W (Nat.le_refl _) (hsl.below hW) (hsl'.below hW)
      have hil : (i : Int) < (elen l : Int) := by omega
      have HHI : Hid (i + (elen r + 1) = elen l ∧ ecnt r ≤ ecnt l) := ⟨hi, by omega⟩
      have HRA : Hid (EAt w (fun _ => True) r b (o + (i + 1) * 5) ∧ EAt w (fun _ => True) r b' (o' + (i + 1) * 5)) := by rw [show o + (i + 1) * 5 = o + i * 5 + 5 by omega, show o' + (i + 1) * 5 = o' + i * 5 + 5 by omega]; exact ⟨hrest, hrest'⟩
      have HD : Hid (Below wr.heap.size wr wr.drew) := (Below.refl _ _).drew
      obtain ⟨V0, hV0⟩ : ∃ V, Value.int .i64 k = V := ⟨_, rfl⟩
      rw [hV0] at x0 y0
      have hb0 : ∀ W, (binOp .neq 40 V0 V0).run Tryd.prog W = .ok (.bool false) W := fun W => by rw [← hV0]; exact neqI _ _ W
      have hg0 : ∀ x y W, (eqGuard .neq 40 x y V0 V0).run Tryd.prog W = .ok () W := fun x y W => by rw [← hV0]; exact grdI _ _ _ _ _ W
      clear hV0
      obtain ⟨V1, hV1⟩ : ∃ V, Value.int .i64 m = V := ⟨_, rfl⟩
      rw [hV1] at x1 y1
      have hb1 : ∀ W, (binOp .neq 2 V1 V1).run Tryd.prog W = .ok (.bool false) W := fun W => by rw [← hV1]; exact neqI _ _ W
      have hg1 : ∀ x y W, (eqGuard .neq 2 x y V1 V1).run Tryd.prog W = .ok () W := fun x y W => by rw [← hV1]; exact grdI _ _ _ _ _ W
      clear hV1
      obtain ⟨V2, hV2⟩ : ∃ V, Value.string s = V := ⟨_, rfl⟩
      rw [hV2] at x2 y2
      have hb2 : ∀ W, (binOp .neq 9 V2 V2).run Tryd.prog W = .ok (.bool false) W := fun W => by rw [← hV2]; exact neqS _ _ W
      have hg2 : ∀ x y W, (eqGuard .neq 9 x y V2 V2).run Tryd.prog W = .ok () W := fun x y W => by rw [← hV2]; exact grdS _ _ _ _ _ W
      clear hV2
      obtain ⟨V3, hV3⟩ : ∃ V, Value.int .i64 p = V := ⟨_, rfl⟩
      rw [hV3] at x3 y3
      have hb3 : ∀ W, (binOp .neq 22 V3 V3).run Tryd.prog W = .ok (.bool false) W := fun W => by rw [← hV3]; exact neqI _ _ W
      have hg3 : ∀ x y W, (eqGuard .neq 22 x y V3 V3).run Tryd.prog W = .ok () W := fun x y W => by rw [← hV3]; exact grdI _ _ _ _ _ W
      clear hV3
      have HKP : Hid (∀ W, Below wr.heap.size wr W → (fun w' => (w'.cell? ⟨b, o + i * 5, none⟩ = some V0 ∧ w'.cell? ⟨b, o + i * 5 + 1, none⟩ = some V1 ∧ w'.cell? ⟨b, o + i * 5 + 2, none⟩ = some V2 ∧ w'.cell? ⟨b, o + i * 5 + 3, none⟩ = some V3 ∧ w'.cell? ⟨b, o + i * 5 + 4, none⟩ = some (.slice ad1 (elen x) cap1)) ∧ w'.cell? ⟨b', o' + i * 5, none⟩ = some V0 ∧ w'.cell? ⟨b', o' + i * 5 + 1, none⟩ = some V1 ∧ w'.cell? ⟨b', o' + i * 5 + 2, none⟩ = some V2 ∧ w'.cell? ⟨b', o' + i * 5 + 3, none⟩ = some V3 ∧ w'.cell? ⟨b', o' + i * 5 + 4, none⟩ = some (.slice ad2 (elen x) cap2)) W) := fun W hW => ⟨⟨(hW.cell (p := ⟨b, o + i * 5, none⟩) hlt1).trans x0, (hW.cell (p := ⟨b, o + i * 5 + 1, none⟩) hlt1).trans x1, (hW.cell (p := ⟨b, o + i * 5 + 2, none⟩) hlt1).trans x2, (hW.cell (p := ⟨b, o + i * 5 + 3, none⟩) hlt1).trans x3, (hW.cell (p := ⟨b, o + i * 5 + 4, none⟩) hlt1).trans x4⟩, (hW.cell (p := ⟨b', o' + i * 5, none⟩) hlt2).trans y0, (hW.cell (p := ⟨b', o' + i * 5 + 1, none⟩) hlt2).trans y1, (hW.cell (p := ⟨b', o' + i * 5 + 2, none⟩) hlt2).trans y2, (hW.cell (p := ⟨b', o' + i * 5 + 3, none⟩) hlt2).trans y3, (hW.cell (p := ⟨b', o' + i * 5 + 4, none⟩) hlt2).trans y4⟩
      have hS0 := HKP.out _ HD.out
      clear hat hat' hrest hrest' hsl hsl' hi hcr hbl HIH HAD HAD' HC0 
      go_upto_region 6 with fail
      go_region_held3 (fun w' => (w'.cell? ⟨b, o + i * 5, none⟩ = some V0 ∧ w'.cell? ⟨b, o + i * 5 + 1, none⟩ = some V1 ∧ w'.cell? ⟨b, o + i * 5 + 2, none⟩ = some V2 ∧ w'.cell? ⟨b, o + i * 5 + 3, none⟩ = some V3 ∧ w'.cell? ⟨b, o + i * 5 + 4, none⟩ = some (.slice ad1 (elen x) cap1)) ∧ w'.cell? ⟨b', o' + i * 5, none⟩ = some V0 ∧ w'.cell? ⟨b', o' + i * 5 + 1, none⟩ = some V1 ∧ w'.cell? ⟨b', o' + i * 5 + 2, none⟩ = some V2 ∧ w'.cell? ⟨b', o' + i * 5 + 3, none⟩ = some V3 ∧ w'.cell? ⟨b', o' + i * 5 + 4, none⟩ = some (.slice ad2 (elen x) cap2)) (first | assumption | go_keep) (first | (go_at_call 28; refine (HC.out _ HD.out).mono ?_; rintro e wx0 ⟨rfl, hbx⟩; have HX0 : Hid (Below wr.heap.size wr wx0) := HD.out.trans (hbx.mono HD.out.size); have hS1 := HKP.out _ HX0.out; clear hbx))
      have HXN : Hid (QE1 w l b o b' o' (.int .i64 ((i : Int) + 1)) wx0) := ⟨r, i + 1, by simp, by have := HHI.out; omega, HHI.out.2, HRA.out.1, HRA.out.2, HBL.out.1.trans (HX0.out.mono HBL.out.2)⟩
      go_wp2
      go_roundw
      case rel => exact HXN
      case measure => simp [intOf]; omega
end Go.Proofs.YtnofibjchhcmeabDoor
