/- The document's Same, of two rows that hold the same: true. -/
import Derived.Test.YtnofibjchhcmeabDoorSq
namespace Go.Proofs.YtnofibjchhcmeabDoor
open Go.RowKit Go.Maps
set_option linter.unusedVariables false

set_option maxRecDepth 100000 in
set_option maxHeartbeats 16000000 in
theorem refSame_true : ∀ (N : Nat) (l : SL) (va vb : Value) (w : World), scnt l ≤ N → SSlP w (fun _ => True) va l → SSlP w (fun _ => True) vb l → Calls Tryd.prog 18 #[va, vb] w (QB w true) := by
  intro N
  induction N using Nat.strongRecOn with
  | _ N ih =>
  intro l va vb w hc hes hes'
  obtain ⟨ad, cap, b, o, rfl, h2, h3, h4, h5⟩ := hes
  obtain ⟨ad', cap', b', o', rfl, h2', h3', h4', h5'⟩ := hes'
  obtain ⟨P, hP⟩ : ∃ P, QB w true = P := ⟨_, rfl⟩
  have HP : Hid (QB w true = P) := hP
  rw [hP]
  have HIH : Hid (∀ M, M < N → ∀ (l : SL) (va vb : Value) (w : World), scnt l ≤ M → SSlP w (fun _ => True) va l → SSlP w (fun _ => True) vb l → Calls Tryd.prog 18 #[va, vb] w (QB w true)) := ih
  have HAD : Hid (0 < slen l → ad = some ⟨b, o, none⟩ ∧ True) := h4
  have HAD' : Hid (0 < slen l → ad' = some ⟨b', o', none⟩ ∧ True) := h4'
  have E0 : Hid (QS1 w l b o b' o' (.int .i64 0) w) := ⟨l, 0, rfl, by omega, Nat.le_refl _, by simpa using h5, by simpa using h5', Below.refl _ _⟩
  have HC0 : Hid (scnt l ≤ N) := hc
  unfold maxLen at h3 h3'
  clear ih hP h4 h5 h4' h5' hc
  go_enter Tryd.func18, Tryd.ntmps18
  go_wp2
  go_loopw [5] (fun u5 wr => Hid (QS1 w l b o b' o' u5 wr)) (fun u5 _ => slen l - (intOf u5).toNat)
  case atStart => exact E0
  case round =>
    clear E0
    obtain ⟨r, i, rfl, hi, hcr, hat, hat', hbl⟩ := hrel.out
    clear hrel
    have HBL : Hid (Below w.heap.size w wr ∧ w.heap.size ≤ wr.heap.size) := ⟨hbl, hbl.size⟩
    cases r with
    | leaf =>
      have hil : ¬ ((i : Int) < (slen l : Int)) := by simp only [slen] at hi; omega
      have HF : Hid (P (.returned (.bool true)) wr) := by show P _ _; rw [← HP.out]; exact ⟨rfl, HBL.out.1⟩
      clear hbl hat hat' hi
      go_wp2
      first | exact HF.out | (go_ret; exact HF.out)
    | inner j d q x r =>
      obtain ⟨k, s, c, a⟩ := d
      obtain ⟨ad1, cap1, bd1, bcap1, ed1, ecap1, hrd, hsl, hsb, hse, hrest⟩ := SAx.read hat hbl
      obtain ⟨ad2, cap2, bd2, bcap2, ed2, ecap2, hrd', hsl', hsb', hse', hrest'⟩ := SAx.read hat' hbl
      rw [scnt_inner] at hcr
      simp only [slen] at hi
      obtain ⟨e1, _⟩ := HAD.out (by omega)
      obtain ⟨e2, _⟩ := HAD'.out (by omega)
      subst e1 e2
      obtain ⟨hlt1, x0, x1, x2, x3, x4, x5⟩ := hrd
      obtain ⟨hlt2, y0, y1, y2, y3, y4, y5⟩ := hrd'
      have HC : Hid (∀ W, Below wr.heap.size wr W → Calls Tryd.prog 28 #[.slice ad1 (elen a) cap1, .slice ad2 (elen a) cap2] W (QB W true)) := fun W hW => equal_true (ecnt a) a _ _ W (Nat.le_refl _) (hsl.below hW) (hsl'.below hW)
      have HCB : Hid (∀ W, Below wr.heap.size wr W → Calls Tryd.prog 18 #[.slice bd1 (slen (slft x)) bcap1, .slice bd2 (slen (slft x)) bcap2] W (QB W true)) := fun W hW => HIH.out (scnt (slft x)) (by have := HC0.out; omega) _ _ _ W (Nat.le_refl _) (hsb.below hW) (hsb'.below hW)
      have HCE : Hid (∀ W, Below wr.heap.size wr W → Calls Tryd.prog 18 #[.slice ed1 (slen (srgt x)) ecap1, .slice ed2 (slen (srgt x)) ecap2] W (QB W true)) := fun W hW => HIH.out (scnt (srgt x)) (by have := HC0.out; omega) _ _ _ W (Nat.le_refl _) (hse.below hW) (hse'.below hW)
      have hil : (i : Int) < (slen l : Int) := by omega
      have HHI : Hid (i + (slen r + 1) = slen l ∧ scnt r ≤ scnt l) := ⟨hi, by omega⟩
      have HRA : Hid (SAt w (fun _ => True) r b (o + (i + 1) * 6) ∧ SAt w (fun _ => True) r b' (o' + (i + 1) * 6)) := by rw [show o + (i + 1) * 6 = o + i * 6 + 6 by omega, show o' + (i + 1) * 6 = o' + i * 6 + 6 by omega]; exact ⟨hrest, hrest'⟩
      have HD : Hid (Below wr.heap.size wr wr.drew) := (Below.refl _ _).drew
      obtain ⟨V0, hV0⟩ : ∃ V, Value.int .i64 k = V := ⟨_, rfl⟩
      rw [hV0] at x0 y0
      have hb0 : ∀ W, (binOp .neq 36 V0 V0).run Tryd.prog W = .ok (.bool false) W := fun W => by rw [← hV0]; exact neqI _ _ W
      have hg0 : ∀ x y W, (eqGuard .neq 36 x y V0 V0).run Tryd.prog W = .ok () W := fun x y W => by rw [← hV0]; exact grdI _ _ _ _ _ W
      clear hV0
      obtain ⟨V1, hV1⟩ : ∃ V, Value.string s = V := ⟨_, rfl⟩
      rw [hV1] at x1 y1
      have hb1 : ∀ W, (binOp .neq 9 V1 V1).run Tryd.prog W = .ok (.bool false) W := fun W => by rw [← hV1]; exact neqS _ _ W
      have hg1 : ∀ x y W, (eqGuard .neq 9 x y V1 V1).run Tryd.prog W = .ok () W := fun x y W => by rw [← hV1]; exact grdS _ _ _ _ _ W
      clear hV1
      obtain ⟨V2, hV2⟩ : ∃ V, Value.int .i64 c = V := ⟨_, rfl⟩
      rw [hV2] at x2 y2
      have hb2 : ∀ W, (binOp .neq 3 V2 V2).run Tryd.prog W = .ok (.bool false) W := fun W => by rw [← hV2]; exact neqI _ _ W
      have hg2 : ∀ x y W, (eqGuard .neq 3 x y V2 V2).run Tryd.prog W = .ok () W := fun x y W => by rw [← hV2]; exact grdI _ _ _ _ _ W
      clear hV2
      have HKP : Hid (∀ W, Below wr.heap.size wr W → (fun w' => (w'.cell? ⟨b, o + i * 6, none⟩ = some V0 ∧ w'.cell? ⟨b, o + i * 6 + 1, none⟩ = some V1 ∧ w'.cell? ⟨b, o + i * 6 + 2, none⟩ = some V2 ∧ w'.cell? ⟨b, o + i * 6 + 3, none⟩ = some (.slice ad1 (elen a) cap1) ∧ w'.cell? ⟨b, o + i * 6 + 4, none⟩ = some (.slice bd1 (slen (slft x)) bcap1) ∧ w'.cell? ⟨b, o + i * 6 + 5, none⟩ = some (.slice ed1 (slen (srgt x)) ecap1)) ∧ w'.cell? ⟨b', o' + i * 6, none⟩ = some V0 ∧ w'.cell? ⟨b', o' + i * 6 + 1, none⟩ = some V1 ∧ w'.cell? ⟨b', o' + i * 6 + 2, none⟩ = some V2 ∧ w'.cell? ⟨b', o' + i * 6 + 3, none⟩ = some (.slice ad2 (elen a) cap2) ∧ w'.cell? ⟨b', o' + i * 6 + 4, none⟩ = some (.slice bd2 (slen (slft x)) bcap2) ∧ w'.cell? ⟨b', o' + i * 6 + 5, none⟩ = some (.slice ed2 (slen (srgt x)) ecap2)) W) := fun W hW => ⟨⟨(hW.cell (p := ⟨b, o + i * 6, none⟩) hlt1).trans x0, (hW.cell (p := ⟨b, o + i * 6 + 1, none⟩) hlt1).trans x1, (hW.cell (p := ⟨b, o + i * 6 + 2, none⟩) hlt1).trans x2, (hW.cell (p := ⟨b, o + i * 6 + 3, none⟩) hlt1).trans x3, (hW.cell (p := ⟨b, o + i * 6 + 4, none⟩) hlt1).trans x4, (hW.cell (p := ⟨b, o + i * 6 + 5, none⟩) hlt1).trans x5⟩, (hW.cell (p := ⟨b', o' + i * 6, none⟩) hlt2).trans y0, (hW.cell (p := ⟨b', o' + i * 6 + 1, none⟩) hlt2).trans y1, (hW.cell (p := ⟨b', o' + i * 6 + 2, none⟩) hlt2).trans y2, (hW.cell (p := ⟨b', o' + i * 6 + 3, none⟩) hlt2).trans y3, (hW.cell (p := ⟨b', o' + i * 6 + 4, none⟩) hlt2).trans y4, (hW.cell (p := ⟨b', o' + i * 6 + 5, none⟩) hlt2).trans y5⟩
      have hS0 := HKP.out _ HD.out
      clear hat hat' hrest hrest' hsl hsl' hi hcr hbl HIH HAD HAD' HC0 hsb hsb' hse hse'
      go_upto_region 6 with fail
      go_region_held3 (fun w' => (w'.cell? ⟨b, o + i * 6, none⟩ = some V0 ∧ w'.cell? ⟨b, o + i * 6 + 1, none⟩ = some V1 ∧ w'.cell? ⟨b, o + i * 6 + 2, none⟩ = some V2 ∧ w'.cell? ⟨b, o + i * 6 + 3, none⟩ = some (.slice ad1 (elen a) cap1) ∧ w'.cell? ⟨b, o + i * 6 + 4, none⟩ = some (.slice bd1 (slen (slft x)) bcap1) ∧ w'.cell? ⟨b, o + i * 6 + 5, none⟩ = some (.slice ed1 (slen (srgt x)) ecap1)) ∧ w'.cell? ⟨b', o' + i * 6, none⟩ = some V0 ∧ w'.cell? ⟨b', o' + i * 6 + 1, none⟩ = some V1 ∧ w'.cell? ⟨b', o' + i * 6 + 2, none⟩ = some V2 ∧ w'.cell? ⟨b', o' + i * 6 + 3, none⟩ = some (.slice ad2 (elen a) cap2) ∧ w'.cell? ⟨b', o' + i * 6 + 4, none⟩ = some (.slice bd2 (slen (slft x)) bcap2) ∧ w'.cell? ⟨b', o' + i * 6 + 5, none⟩ = some (.slice ed2 (slen (srgt x)) ecap2)) (first | assumption | go_keep) (first | (go_at_call 28; refine (HC.out _ HD.out).mono ?_; rintro e wx0 ⟨rfl, hbx⟩; have HX0 : Hid (Below wr.heap.size wr wx0) := HD.out.trans (hbx.mono HD.out.size); have hS1 := HKP.out _ HX0.out; clear hbx) | (go_at_call_of 18 (Value.slice bd1 (slen (slft x)) bcap1); refine (HCB.out _ HX0.out).mono ?_; rintro e wx1 ⟨rfl, hbx⟩; have HX1 : Hid (Below wr.heap.size wr wx1) := HX0.out.trans (hbx.mono HX0.out.size); have hS2 := HKP.out _ HX1.out; clear hbx) | (go_at_call_of 18 (Value.slice ed1 (slen (srgt x)) ecap1); refine (HCE.out _ HX1.out).mono ?_; rintro e wx2 ⟨rfl, hbx⟩; have HX2 : Hid (Below wr.heap.size wr wx2) := HX1.out.trans (hbx.mono HX1.out.size); have hS3 := HKP.out _ HX2.out; clear hbx))
      have HXN : Hid (QS1 w l b o b' o' (.int .i64 ((i : Int) + 1)) wx2) := ⟨r, i + 1, by simp, by have := HHI.out; omega, HHI.out.2, HRA.out.1, HRA.out.2, HBL.out.1.trans (HX2.out.mono HBL.out.2)⟩
      go_wp2
      go_roundw
      case rel => exact HXN
      case measure => simp [intOf]; omega
end Go.Proofs.YtnofibjchhcmeabDoor
