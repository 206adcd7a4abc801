/- Copies of rows of expressions. -/
import Derived.Test.YtnofibjchhcmeabDoorCp
import Derived.Deep.CutRange
namespace Go.Proofs.YtnofibjchhcmeabDoor
open Go.RowKit Go.Maps
set_option linter.unusedVariables false

theorem c5 {W : World} {k : Nat} {T : TypeId} {a0 a1 a2 a3 a4 : Value} (h : W.heap[k]? = some (.cells #[a0, a1, a2, a3, a4] T)) : W.cell? ⟨k, 0, none⟩ = some a0 ∧ W.cell? ⟨k, 1, none⟩ = some a1 ∧ W.cell? ⟨k, 2, none⟩ = some a2 ∧ W.cell? ⟨k, 3, none⟩ = some a3 ∧ W.cell? ⟨k, 4, none⟩ = some a4 := by
  refine ⟨?_, ?_, ?_, ?_, ?_⟩
  · rw [cell_of_row W k 0 _ _ _ h]; rfl
  · rw [cell_of_row W k 1 _ _ _ h]; rfl
  · rw [cell_of_row W k 2 _ _ _ h]; rfl
  · rw [cell_of_row W k 3 _ _ _ h]; rfl
  · rw [cell_of_row W k 4 _ _ _ h]; rfl
/-- while expressions are copied -/
def CX (w : World) (l : EL) (ok : Nat → Prop) (b o : Nat) (u3 u8 : Value) (wr : World) : Prop :=
  ∃ (r : EL) (i : Nat) (ys : List (PE × Value)), u8 = .int .i64 (i : Int) ∧ i + elen r = elen l ∧ ys.map (·.1) ++ toPE r = toPE l ∧ ys.length = i ∧ ecnt r ≤ ecnt l ∧ XOwn wr w.heap.size u3 (rxs ys) ∧ (∀ y ∈ ys, ESlP wr (fun j => w.heap.size ≤ j ∧ some j ≠ u3.ownBlock) y.2 y.1.args) ∧ EAt w ok r b (o + i * 5) ∧ Below w.heap.size w wr
theorem ESlP.keep' {w w' : World} {ok ok' : Nat → Prop} {v : Value} {l : EL} (h : ESlP w ok v l) (hb : ∀ k, ok k → k < w.heap.size → w'.heap[k]? = w.heap[k]? ∧ ok' k) : ESlP w' ok' v l := by
  have h1 : ESlP w (fun k => ok k ∧ ok' k) v l := h.mono' fun k a b => ⟨a, (hb k a b).2⟩
  exact (h1.keep fun k a b => (hb k a.1 b).1).mono fun k a => a.2
theorem rxs_app (a b : List (PE × Value)) : rxs (a ++ b) = rxs a ++ rxs b := by simp [rxs]
theorem rxs_len (a : List (PE × Value)) : (rxs a).length = a.length := by simp [rxs]

set_option maxRecDepth 100000 in
set_option maxHeartbeats 8000000 in
theorem copyExprs_any : ∀ (N : Nat) (l : EL) (ok : Nat → Prop) (v : Value) (w : World), ecnt l ≤ N → N ≤ 1000000 → ESlP w ok v l → Calls Tryd.prog 32 #[v] w (CEP w l) := by
  intro N
  induction N using Nat.strongRecOn with
  | _ N ih =>
  intro l ok v w hc hN hes
  obtain ⟨ad, cap, b, o, rfl, h2, h3, h4, h5⟩ := hes
  obtain ⟨P, hP⟩ : ∃ P, CEP w l = P := ⟨_, rfl⟩
  have HP : Hid (CEP w l = P) := hP
  rw [hP]
  have hll := elen_le l
  have HIH : Hid (∀ M, M < N → ∀ (l : EL) (ok : Nat → Prop) (v : Value) (w : World), ecnt l ≤ M → M ≤ 1000000 → ESlP w ok v l → Calls Tryd.prog 32 #[v] w (CEP w l)) := ih
  have E0 : Hid (CX w l ok b o (.slice none 0 0) (.int .i64 0) w) := ⟨l, 0, [], rfl, by omega, rfl, rfl, Nat.le_refl _, XOwn.nil _ _, (by intro y hy; cases hy), by simpa using h5, Below.refl _ _⟩
  have HAD : Hid (0 < elen l → ad = some ⟨b, o, none⟩ ∧ ok b) := h4
  obtain ⟨i0, hi0, hz0, hz1, hz2⟩ := info_parts info42
  unfold maxLen at h3
  clear ih hP h4 h5
  go_enter Tryd.func32, Tryd.ntmps32
  go_wp2
  go_loopw [3, 8] (fun u3 u8 wr => Hid (CX w l ok b o u3 u8 wr)) (fun _ u8 _ => elen l - (intOf u8).toNat)
  case atStart => exact E0
  case round =>
    clear E0
    obtain ⟨r, i, ys, rfl, hi, hys, hyl, hcr, hown, htm, hat, hbl⟩ := hrel.out
    clear hrel
    have HBL : Hid (Below w.heap.size w wr) := hbl
    have hsz := hbl.size
    obtain ⟨u31, u32, u33, rfl⟩ := hown.sl
    cases r with
    | leaf =>
      have hi' : i = elen l := by simpa [elen] using hi
      have HF : Hid (P (.returned (.slice u31 u32 u33)) wr) := by show P _ _; rw [← HP.out]; exact ⟨_, _, _, rfl, ⟨ys, by simpa [toPE] using hys, hown, htm⟩, HBL.out⟩
      have hil : ¬ ((i : Int) < (elen l : Int)) := by omega
      clear hbl hat hi hown htm hi'
      go_wp2
      first | exact HF.out | (go_ret; exact HF.out)
    | inner j d q a r =>
      obtain ⟨k, n, s, p⟩ := d
      obtain ⟨g1, g2, g3, g4, ⟨ad', cap', b', o', f1, f2, f3, f4, f5⟩, hr⟩ := hat
      simp only [elen, ecnt] at hi hcr
      obtain ⟨e1, e2⟩ := HAD.out (by omega)
      subst e1
      have hbw : b < w.heap.size := World.block_lt_of_cell? w ⟨b, o + i * 5, none⟩ g1
      have c0 := (hbl.cell (p := ⟨b, o + i * 5, none⟩) hbw).trans g1
      have c1 := (hbl.cell (p := ⟨b, o + i * 5 + 1, none⟩) hbw).trans g2
      have c2 := (hbl.cell (p := ⟨b, o + i * 5 + 2, none⟩) hbw).trans g3
      have c3 := (hbl.cell (p := ⟨b, o + i * 5 + 3, none⟩) hbw).trans g4
      have c4 := (hbl.cell (p := ⟨b, o + i * 5 + 4, none⟩) hbw).trans f1
      have HCA : Hid (∀ W, Below wr.heap.size wr W → Calls Tryd.prog 32 #[.slice ad' (elen a) cap'] W (CEP W a)) := fun W hW => HIH.out (ecnt a) (by omega) a ok _ W (Nat.le_refl _) (by omega) (ESlP.keep (w := w) ⟨ad', cap', b', o', rfl, f2, f3, f4, f5⟩ fun k _ hk => (hW.block k (by omega)).trans (hbl.block k hk))
      have HRA : Hid (EAt w ok r b (o + (i + 1) * 5)) := by rw [show o + (i + 1) * 5 = o + i * 5 + 5 by omega]; exact hr
      have HO1 : Hid (XOwn wr w.heap.size (.slice u31 u32 u33) (rxs ys)) := hown
      have HT1 : Hid (∀ y ∈ ys, ESlP wr (fun j => w.heap.size ≤ j ∧ some j ≠ (Value.slice u31 u32 u33).ownBlock) y.2 y.1.args) := htm
      have HNM : Hid (i + (elen r + 1) = elen l ∧ ecnt a + ecnt r + 1 ≤ ecnt l ∧ ys.length = i ∧ ecnt l ≤ 1000000) := ⟨hi, hcr, hyl, by omega⟩
      have HYS : Hid (ys.map (·.1) ++ (⟨k, n, s, p, a, 0⟩ :: toPE r) = toPE l) := hys
      have hil : (i : Int) < (elen l : Int) := by omega
      clear hr f5 hbl f4 f2 hown htm hys hyl g1 g2 g3 g4 f1 hcr
      go_upto_region 5 with fail
      go_wp2_with fail
      have hW1 : (wr.alloc (.cells #[.int .i64 k, .int .i64 n, .string s, .int .i64 p, .slice ad' (elen a) cap'] 42)).heap.size = wr.heap.size + 1 := by simp
      refine (HCA.out _ ((Below.refl _ wr).alloc (Nat.le_refl _) _)).mono ?_
      rintro e w2 ⟨v1, v2, v3, rfl, hcv, hb2⟩
      have hb2' : Below (wr.heap.size + 1) (wr.alloc (.cells #[.int .i64 k, .int .i64 n, .string s, .int .i64 p, .slice ad' (elen a) cap'] 42)) w2 := by rw [← hW1]; exact hb2
      have hs2 : wr.heap.size + 1 ≤ w2.heap.size := by have := hb2'.size; rw [hW1] at this; exact this
      have hcv' : CEv w2 (wr.heap.size + 1) a (.slice v1 v2 v3) := by rw [← hW1]; exact hcv
      have hB2 : w2.heap[wr.heap.size]? = some (.cells #[.int .i64 k, .int .i64 n, .string s, .int .i64 p, .slice ad' (elen a) cap'] 42) := (hb2'.block _ (by omega)).trans (heap_alloc_new _ _)
      have hk2 : ∀ j, j < wr.heap.size → w2.heap[j]? = wr.heap[j]? := fun j hj => (hb2'.block j (by omega)).trans (heap_alloc_old _ _ hj)
      have HB3 : Hid ((w2.setCell ⟨wr.heap.size, 4, none⟩ (.slice v1 v2 v3)).heap[wr.heap.size]? = some (.cells #[.int .i64 k, .int .i64 n, .string s, .int .i64 p, .slice v1 v2 v3] 42)) := heap_setCell_same w2 wr.heap.size 4 _ 42 (.slice v1 v2 v3) hB2
      have HK3 : Hid (∀ j, j ≠ wr.heap.size → (w2.setCell ⟨wr.heap.size, 4, none⟩ (.slice v1 v2 v3)).heap[j]? = w2.heap[j]?) := fun j hj => Below.heap_setCell _ _ _ _ hj
      have HS3 : Hid ((w2.setCell ⟨wr.heap.size, 4, none⟩ (.slice v1 v2 v3)).heap.size = w2.heap.size) := by show _ = _; simp [World.setCell]
      have HL3 : Hid (Below w.heap.size w (w2.setCell ⟨wr.heap.size, 4, none⟩ (.slice v1 v2 v3))) := (HBL.out.trans ((((Below.refl wr.heap.size wr).alloc (Nat.le_refl _) _).trans (hb2'.mono (by omega))).mono hsz)).setCell (p := ⟨wr.heap.size, 4, none⟩) hsz _
      have HK2 : Hid ((∀ j, j < wr.heap.size → w2.heap[j]? = wr.heap[j]?) ∧ wr.heap.size + 1 ≤ w2.heap.size ∧ w.heap.size ≤ wr.heap.size) := ⟨hk2, hs2, hsz⟩
      have HCV : Hid (CEv w2 (wr.heap.size + 1) a (.slice v1 v2 v3)) := hcv'
      obtain ⟨_, _, _, _, x4⟩ := c5 hB2
      have y4 := frozen_of_row w2 wr.heap.size 4 _ _ hB2
      clear hcv hcv' hb2 hb2' hB2 hk2 hs2 hW1
      go_upto_region 6 with fail
      generalize w2.setCell ⟨wr.heap.size, 4, none⟩ (.slice v1 v2 v3) = w3 at HB3 HK3 HS3 HL3 ⊢
      obtain ⟨d0, d1, d2, d3, d4⟩ := c5 HB3.out
      have hlt3 : wr.heap.size < w3.heap.size := by have := HS3.out; have := HK2.out; omega
      have hbk : ∀ j, j < wr.heap.size → w3.heap[j]? = wr.heap[j]? := fun j hj => (HK3.out j (by omega)).trans (HK2.out.1 j hj)
      have HO3 : Hid (w3.ownsRow w.heap.size 42 5 (.slice u31 u32 u33) (rxs ys).length (xcs (rxs ys))) := HO1.out.keep fun j _ hj => hbk j hj
      have HT3 : Hid (∀ y ∈ ys, ESlP w3 (fun j => w.heap.size ≤ j ∧ some j ≠ (Value.slice u31 u32 u33).ownBlock) y.2 y.1.args) := fun y hy => (HT1.out y hy).keep fun j _ hj => hbk j hj
      have HOL : Hid (∀ k, (Value.slice u31 u32 u33).ownBlock = some k → w.heap.size ≤ k ∧ k < wr.heap.size) := World.ownsRow.lt HO1.out
      have HY3 : Hid (ESlP w3 (fun j => w.heap.size ≤ j ∧ some j ≠ (Value.slice u31 u32 u33).ownBlock) (.slice v1 v2 v3) a) := by
        refine (HCV.out.esl.mono (ok' := fun j => wr.heap.size + 1 ≤ j) fun j hj => hj).keep' fun j h1 h2 => ⟨HK3.out j (by omega), by have := HK2.out; omega, fun e => by have := HOL.out j e.symm; omega⟩
      clear x4 y4 HK3 HCV hbk c0 c1 c2 c3 c4
      go_wp2_with (at_builtin; refine wpList_append_own_at _ rfl _ _ 37 rfl w.heap.size 42 i0 (.agg #[.int .i64 0, .int .i64 0, .string ⟨#[]⟩, .int .i64 0, .slice none 0 0]) 5 64 Tryd.underlying37 hi0 hz0 hz1 hz2 rfl (by decide) _ _ _ rfl (World.ownsRow.alloc HO3.out _) ⟨w3.heap.size, 0, none⟩ 1 1 (xcs (rxs [(⟨k, n, s, p, a, 0⟩, .slice v1 v2 v3)])) rfl rfl ?c1 ?c2 ?c3 ?c4 ?c5 ?_)
      case c1 =>
        intro j u hj
        match j, hj with
        | 0, hj => simp [rxs, rx, xcs, xc] at hj; subst hj; simp [Addr.add]
        | 1, hj => simp [rxs, rx, xcs, xc] at hj; subst hj; simp [Addr.add]
        | 2, hj => simp [rxs, rx, xcs, xc] at hj; subst hj; simp [Addr.add]
        | 3, hj => simp [rxs, rx, xcs, xc] at hj; subst hj; simp [Addr.add]
        | 4, hj => simp [rxs, rx, xcs, xc] at hj; subst hj; simp [Addr.add]
      case c2 => exact xc_one _ ⟨_, _, _, rfl⟩
      case c3 => have := HNM.out; rw [rxs_len]; unfold maxLen; omega
      case c4 => have := HNM.out; rw [rxs_len]; omega
      case c5 => have := HK2.out; simp; omega
      intro v' w4 hown' hgrow _ hloc
      have hsz4 := hgrow.size
      simp at hsz4
      have hbl : ∀ j, j < w3.heap.size → some j ≠ (Value.slice u31 u32 u33).ownBlock → w4.heap[j]? = w3.heap[j]? := fun j h1 h2 => (hgrow.block j (by simp; omega) h2).trans (heap_alloc_old _ _ h1)
      have hown2 : XOwn w4 w.heap.size v' (rxs (ys ++ [(⟨k, n, s, p, a, 0⟩, .slice v1 v2 v3)])) := by
        show w4.ownsRow _ _ _ _ _ _
        rw [rxs_app, List.length_append, xcs_app]
        exact hown'
      have hok : ∀ j, (w.heap.size ≤ j ∧ some j ≠ (Value.slice u31 u32 u33).ownBlock) → j < w3.heap.size → (w.heap.size ≤ j ∧ some j ≠ v'.ownBlock) := by
        intro j h1 h2
        refine ⟨h1.1, fun e => ?_⟩
        rcases hloc with h3 | h3
        · rw [h3] at e; exact h1.2 e
        · rw [h3] at e; cases e; omega
      have htm : ∀ y ∈ ys ++ [((⟨k, n, s, p, a, 0⟩ : PE), (Value.slice v1 v2 v3))], ESlP w4 (fun j => w.heap.size ≤ j ∧ some j ≠ v'.ownBlock) y.2 y.1.args := by
        intro y hy
        have h0 : ESlP w3 (fun j => w.heap.size ≤ j ∧ some j ≠ (Value.slice u31 u32 u33).ownBlock) y.2 y.1.args := by
          rcases List.mem_append.1 hy with h | h
          · exact HT3.out y h
          · simp at h; subst h; exact HY3.out
        exact h0.keep' fun j h1 h2 => ⟨hbl j h2 h1.2, hok j h1 h2⟩
      have hbelow : Below w.heap.size w w4 := ⟨hgrow.os.trans HL3.out.os, hgrow.tape.trans HL3.out.tape, hgrow.output.trans HL3.out.output, by have := HL3.out.size; omega, fun j hj => (hbl j (by have := HL3.out.size; omega) (fun e => by have := HOL.out j e.symm; omega)).trans (HL3.out.block j hj)⟩
      have HXN : Hid (CX w l ok b o v' (.int .i64 ((i : Int) + 1)) w4) := by
        refine ⟨r, i + 1, ys ++ [(⟨k, n, s, p, a, 0⟩, .slice v1 v2 v3)], by simp, by have := HNM.out; omega, ?_, by have := HNM.out; simp; omega, by have := HNM.out; omega, hown2, htm, HRA.out, hbelow⟩
        rw [List.map_append, List.append_assoc]
        exact HYS.out
      clear hown' hgrow hloc hsz4 hbl hown2 hok htm hbelow HO3 HT3 HY3 HOL HB3 d0 d1 d2 d3 d4
      go_wp2
      go_roundw
      case rel => exact HXN
      case measure => simp [intOf]; omega

set_option maxRecDepth 100000 in
set_option maxHeartbeats 8000000 in
theorem copies_any : ∀ (N : Nat) (l : EL) (ok : Nat → Prop) (v : Value) (w : World), ecnt l ≤ N → N ≤ 1000000 → ESlP w ok v l → Calls Tryd.prog 33 #[v] w (CEP w l) := by
  intro N
  induction N using Nat.strongRecOn with
  | _ N ih =>
  intro l ok v w hc hN hes
  obtain ⟨ad, cap, b, o, rfl, h2, h3, h4, h5⟩ := hes
  obtain ⟨P, hP⟩ : ∃ P, CEP w l = P := ⟨_, rfl⟩
  have HP : Hid (CEP w l = P) := hP
  rw [hP]
  have hll := elen_le l
  have HIH : Hid (∀ M, M < N → ∀ (l : EL) (ok : Nat → Prop) (v : Value) (w : World), ecnt l ≤ M → M ≤ 1000000 → ESlP w ok v l → Calls Tryd.prog 33 #[v] w (CEP w l)) := ih
  have E0 : Hid (CX w l ok b o (.slice none 0 0) (.int .i64 0) w) := ⟨l, 0, [], rfl, by omega, rfl, rfl, Nat.le_refl _, XOwn.nil _ _, (by intro y hy; cases hy), by simpa using h5, Below.refl _ _⟩
  have HAD : Hid (0 < elen l → ad = some ⟨b, o, none⟩ ∧ ok b) := h4
  obtain ⟨i0, hi0, hz0, hz1, hz2⟩ := info_parts info42
  unfold maxLen at h3
  clear ih hP h4 h5
  go_enter Tryd.func33, Tryd.ntmps33
  go_wp2
  go_loopw [3, 4] (fun u3 u8 wr => Hid (CX w l ok b o u3 u8 wr)) (fun _ u8 _ => elen l - (intOf u8).toNat)
  case atStart => exact E0
  case round =>
    clear E0
    obtain ⟨r, i, ys, rfl, hi, hys, hyl, hcr, hown, htm, hat, hbl⟩ := hrel.out
    clear hrel
    have HBL : Hid (Below w.heap.size w wr) := hbl
    have hsz := hbl.size
    obtain ⟨u31, u32, u33, rfl⟩ := hown.sl
    cases r with
    | leaf =>
      have hi' : i = elen l := by simpa [elen] using hi
      have HF : Hid (P (.returned (.slice u31 u32 u33)) wr) := by show P _ _; rw [← HP.out]; exact ⟨_, _, _, rfl, ⟨ys, by simpa [toPE] using hys, hown, htm⟩, HBL.out⟩
      have hil : ¬ ((i : Int) < (elen l : Int)) := by omega
      clear hbl hat hi hown htm hi'
      go_wp2
      first | exact HF.out | (go_ret; exact HF.out)
    | inner j d q a r =>
      obtain ⟨k, n, s, p⟩ := d
      obtain ⟨g1, g2, g3, g4, ⟨ad', cap', b', o', f1, f2, f3, f4, f5⟩, hr⟩ := hat
      simp only [elen, ecnt] at hi hcr
      obtain ⟨e1, e2⟩ := HAD.out (by omega)
      subst e1
      have hbw : b < w.heap.size := World.block_lt_of_cell? w ⟨b, o + i * 5, none⟩ g1
      have c0 := (hbl.cell (p := ⟨b, o + i * 5, none⟩) hbw).trans g1
      have c1 := (hbl.cell (p := ⟨b, o + i * 5 + 1, none⟩) hbw).trans g2
      have c2 := (hbl.cell (p := ⟨b, o + i * 5 + 2, none⟩) hbw).trans g3
      have c3 := (hbl.cell (p := ⟨b, o + i * 5 + 3, none⟩) hbw).trans g4
      have c4 := (hbl.cell (p := ⟨b, o + i * 5 + 4, none⟩) hbw).trans f1
      have HCA : Hid (∀ W, Below wr.heap.size wr W → Calls Tryd.prog 33 #[.slice ad' (elen a) cap'] W (CEP W a)) := fun W hW => HIH.out (ecnt a) (by omega) a ok _ W (Nat.le_refl _) (by omega) (ESlP.keep (w := w) ⟨ad', cap', b', o', rfl, f2, f3, f4, f5⟩ fun k _ hk => (hW.block k (by omega)).trans (hbl.block k hk))
      have HRA : Hid (EAt w ok r b (o + (i + 1) * 5)) := by rw [show o + (i + 1) * 5 = o + i * 5 + 5 by omega]; exact hr
      have HO1 : Hid (XOwn wr w.heap.size (.slice u31 u32 u33) (rxs ys)) := hown
      have HT1 : Hid (∀ y ∈ ys, ESlP wr (fun j => w.heap.size ≤ j ∧ some j ≠ (Value.slice u31 u32 u33).ownBlock) y.2 y.1.args) := htm
      have HNM : Hid (i + (elen r + 1) = elen l ∧ ecnt a + ecnt r + 1 ≤ ecnt l ∧ ys.length = i ∧ ecnt l ≤ 1000000) := ⟨hi, hcr, hyl, by omega⟩
      have HYS : Hid (ys.map (·.1) ++ (⟨k, n, s, p, a, 0⟩ :: toPE r) = toPE l) := hys
      have hil : (i : Int) < (elen l : Int) := by omega
      clear hr f5 hbl f4 f2 hown htm hys hyl g1 g2 g3 g4 f1 hcr
      go_upto_region 6 with fail
      go_wp2_with fail
      have hW1 : (wr.alloc (.cells #[.int .i64 k, .int .i64 n, .string s, .int .i64 p, .slice ad' (elen a) cap'] 42)).heap.size = wr.heap.size + 1 := by simp
      refine (HCA.out _ ((Below.refl _ wr).alloc (Nat.le_refl _) _)).mono ?_
      rintro e w2 ⟨v1, v2, v3, rfl, hcv, hb2⟩
      have hb2' : Below (wr.heap.size + 1) (wr.alloc (.cells #[.int .i64 k, .int .i64 n, .string s, .int .i64 p, .slice ad' (elen a) cap'] 42)) w2 := by rw [← hW1]; exact hb2
      have hs2 : wr.heap.size + 1 ≤ w2.heap.size := by have := hb2'.size; rw [hW1] at this; exact this
      have hcv' : CEv w2 (wr.heap.size + 1) a (.slice v1 v2 v3) := by rw [← hW1]; exact hcv
      have hB2 : w2.heap[wr.heap.size]? = some (.cells #[.int .i64 k, .int .i64 n, .string s, .int .i64 p, .slice ad' (elen a) cap'] 42) := (hb2'.block _ (by omega)).trans (heap_alloc_new _ _)
      have hk2 : ∀ j, j < wr.heap.size → w2.heap[j]? = wr.heap[j]? := fun j hj => (hb2'.block j (by omega)).trans (heap_alloc_old _ _ hj)
      have HB3 : Hid ((w2.setCell ⟨wr.heap.size, 4, none⟩ (.slice v1 v2 v3)).heap[wr.heap.size]? = some (.cells #[.int .i64 k, .int .i64 n, .string s, .int .i64 p, .slice v1 v2 v3] 42)) := heap_setCell_same w2 wr.heap.size 4 _ 42 (.slice v1 v2 v3) hB2
      have HK3 : Hid (∀ j, j ≠ wr.heap.size → (w2.setCell ⟨wr.heap.size, 4, none⟩ (.slice v1 v2 v3)).heap[j]? = w2.heap[j]?) := fun j hj => Below.heap_setCell _ _ _ _ hj
      have HS3 : Hid ((w2.setCell ⟨wr.heap.size, 4, none⟩ (.slice v1 v2 v3)).heap.size = w2.heap.size) := by show _ = _; simp [World.setCell]
      have HL3 : Hid (Below w.heap.size w (w2.setCell ⟨wr.heap.size, 4, none⟩ (.slice v1 v2 v3))) := (HBL.out.trans ((((Below.refl wr.heap.size wr).alloc (Nat.le_refl _) _).trans (hb2'.mono (by omega))).mono hsz)).setCell (p := ⟨wr.heap.size, 4, none⟩) hsz _
      have HK2 : Hid ((∀ j, j < wr.heap.size → w2.heap[j]? = wr.heap[j]?) ∧ wr.heap.size + 1 ≤ w2.heap.size ∧ w.heap.size ≤ wr.heap.size) := ⟨hk2, hs2, hsz⟩
      have HCV : Hid (CEv w2 (wr.heap.size + 1) a (.slice v1 v2 v3)) := hcv'
      obtain ⟨_, _, _, _, x4⟩ := c5 hB2
      have y4 := frozen_of_row w2 wr.heap.size 4 _ _ hB2
      clear hcv hcv' hb2 hb2' hB2 hk2 hs2 hW1
      go_upto_region 7 with fail
      generalize w2.setCell ⟨wr.heap.size, 4, none⟩ (.slice v1 v2 v3) = w3 at HB3 HK3 HS3 HL3 ⊢
      obtain ⟨d0, d1, d2, d3, d4⟩ := c5 HB3.out
      have hlt3 : wr.heap.size < w3.heap.size := by have := HS3.out; have := HK2.out; omega
      have hbk : ∀ j, j < wr.heap.size → w3.heap[j]? = wr.heap[j]? := fun j hj => (HK3.out j (by omega)).trans (HK2.out.1 j hj)
      have HO3 : Hid (w3.ownsRow w.heap.size 42 5 (.slice u31 u32 u33) (rxs ys).length (xcs (rxs ys))) := HO1.out.keep fun j _ hj => hbk j hj
      have HT3 : Hid (∀ y ∈ ys, ESlP w3 (fun j => w.heap.size ≤ j ∧ some j ≠ (Value.slice u31 u32 u33).ownBlock) y.2 y.1.args) := fun y hy => (HT1.out y hy).keep fun j _ hj => hbk j hj
      have HOL : Hid (∀ k, (Value.slice u31 u32 u33).ownBlock = some k → w.heap.size ≤ k ∧ k < wr.heap.size) := World.ownsRow.lt HO1.out
      have HY3 : Hid (ESlP w3 (fun j => w.heap.size ≤ j ∧ some j ≠ (Value.slice u31 u32 u33).ownBlock) (.slice v1 v2 v3) a) := by
        refine (HCV.out.esl.mono (ok' := fun j => wr.heap.size + 1 ≤ j) fun j hj => hj).keep' fun j h1 h2 => ⟨HK3.out j (by omega), by have := HK2.out; omega, fun e => by have := HOL.out j e.symm; omega⟩
      clear x4 y4 HK3 HCV hbk c0 c1 c2 c3 c4
      go_wp2_with (at_builtin; refine wpList_append_own_at _ rfl _ _ 37 rfl w.heap.size 42 i0 (.agg #[.int .i64 0, .int .i64 0, .string ⟨#[]⟩, .int .i64 0, .slice none 0 0]) 5 64 Tryd.underlying37 hi0 hz0 hz1 hz2 rfl (by decide) _ _ _ rfl (World.ownsRow.alloc HO3.out _) ⟨w3.heap.size, 0, none⟩ 1 1 (xcs (rxs [(⟨k, n, s, p, a, 0⟩, .slice v1 v2 v3)])) rfl rfl ?c1 ?c2 ?c3 ?c4 ?c5 ?_)
      case c1 =>
        intro j u hj
        match j, hj with
        | 0, hj => simp [rxs, rx, xcs, xc] at hj; subst hj; simp [Addr.add]
        | 1, hj => simp [rxs, rx, xcs, xc] at hj; subst hj; simp [Addr.add]
        | 2, hj => simp [rxs, rx, xcs, xc] at hj; subst hj; simp [Addr.add]
        | 3, hj => simp [rxs, rx, xcs, xc] at hj; subst hj; simp [Addr.add]
        | 4, hj => simp [rxs, rx, xcs, xc] at hj; subst hj; simp [Addr.add]
      case c2 => exact xc_one _ ⟨_, _, _, rfl⟩
      case c3 => have := HNM.out; rw [rxs_len]; unfold maxLen; omega
      case c4 => have := HNM.out; rw [rxs_len]; omega
      case c5 => have := HK2.out; simp; omega
      intro v' w4 hown' hgrow _ hloc
      have hsz4 := hgrow.size
      simp at hsz4
      have hbl : ∀ j, j < w3.heap.size → some j ≠ (Value.slice u31 u32 u33).ownBlock → w4.heap[j]? = w3.heap[j]? := fun j h1 h2 => (hgrow.block j (by simp; omega) h2).trans (heap_alloc_old _ _ h1)
      have hown2 : XOwn w4 w.heap.size v' (rxs (ys ++ [(⟨k, n, s, p, a, 0⟩, .slice v1 v2 v3)])) := by
        show w4.ownsRow _ _ _ _ _ _
        rw [rxs_app, List.length_append, xcs_app]
        exact hown'
      have hok : ∀ j, (w.heap.size ≤ j ∧ some j ≠ (Value.slice u31 u32 u33).ownBlock) → j < w3.heap.size → (w.heap.size ≤ j ∧ some j ≠ v'.ownBlock) := by
        intro j h1 h2
        refine ⟨h1.1, fun e => ?_⟩
        rcases hloc with h3 | h3
        · rw [h3] at e; exact h1.2 e
        · rw [h3] at e; cases e; omega
      have htm : ∀ y ∈ ys ++ [((⟨k, n, s, p, a, 0⟩ : PE), (Value.slice v1 v2 v3))], ESlP w4 (fun j => w.heap.size ≤ j ∧ some j ≠ v'.ownBlock) y.2 y.1.args := by
        intro y hy
        have h0 : ESlP w3 (fun j => w.heap.size ≤ j ∧ some j ≠ (Value.slice u31 u32 u33).ownBlock) y.2 y.1.args := by
          rcases List.mem_append.1 hy with h | h
          · exact HT3.out y h
          · simp at h; subst h; exact HY3.out
        exact h0.keep' fun j h1 h2 => ⟨hbl j h2 h1.2, hok j h1 h2⟩
      have hbelow : Below w.heap.size w w4 := ⟨hgrow.os.trans HL3.out.os, hgrow.tape.trans HL3.out.tape, hgrow.output.trans HL3.out.output, by have := HL3.out.size; omega, fun j hj => (hbl j (by have := HL3.out.size; omega) (fun e => by have := HOL.out j e.symm; omega)).trans (HL3.out.block j hj)⟩
      have HXN : Hid (CX w l ok b o v' (.int .i64 ((i : Int) + 1)) w4) := by
        refine ⟨r, i + 1, ys ++ [(⟨k, n, s, p, a, 0⟩, .slice v1 v2 v3)], by simp, by have := HNM.out; omega, ?_, by have := HNM.out; simp; omega, by have := HNM.out; omega, hown2, htm, HRA.out, hbelow⟩
        rw [List.map_append, List.append_assoc]
        exact HYS.out
      clear hown' hgrow hloc hsz4 hbl hown2 hok htm hbelow HO3 HT3 HY3 HOL HB3 d0 d1 d2 d3 d4
      go_wp2
      go_roundw
      case rel => exact HXN
      case measure => simp [intOf]; omega
end Go.Proofs.YtnofibjchhcmeabDoor
