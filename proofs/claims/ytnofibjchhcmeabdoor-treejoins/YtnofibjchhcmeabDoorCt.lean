/- Copies of rows of statements: the program's. -/
import Derived.Test.YtnofibjchhcmeabDoorNd
import Derived.Deep.CutRange
import Derived.RegionDies
namespace Go.Proofs.YtnofibjchhcmeabDoor
open Go.RowKit Go.Maps
set_option linter.unusedVariables false

def toPE : EL → List PE
  | .leaf => []
  | .inner _ (k, n, s, p) _ a r => ⟨k, n, s, p, a, 0⟩ :: toPE r
theorem toPE_len (l : EL) : (toPE l).length = elen l := by
  induction l with
  | leaf => rfl
  | inner i d v a r _ ih => obtain ⟨k, n, s, p⟩ := d; simp only [toPE, elen, List.length_cons, ih]
theorem EAt.of_row {w : World} {ok : Nat → Prop} (l : EL) : ∀ {b o : Nat}, EAt w ok (erow (toPE l)) b o → EAt w ok l b o := by
  induction l with
  | leaf => intro b o _; trivial
  | inner i d v a r _ ih =>
    obtain ⟨k, n, s, p⟩ := d
    intro b o ⟨h1, h2, h3, h4, h5, h6⟩
    exact ⟨h1, h2, h3, h4, h5, ih h6⟩
theorem ESlP.of_row {w : World} {ok : Nat → Prop} {v : Value} {l : EL} (h : ESlP w ok v (erow (toPE l))) : ESlP w ok v l := by
  obtain ⟨ad, cap, b, o, h1, h2, h3, h4, h5⟩ := h
  rw [elen_row, toPE_len] at h1 h2 h4
  exact ⟨ad, cap, b, o, h1, h2, h3, h4, h5.of_row⟩
def toPT : SL → List PT
  | .leaf => []
  | .inner _ (k, s, c, a) _ x r => ⟨k, s, c, a, slft x, srgt x⟩ :: toPT r
theorem toPT_len (l : SL) : (toPT l).length = slen l := by
  induction l with
  | leaf => rfl
  | inner i d v x r _ ih => obtain ⟨k, s, c, a⟩ := d; simp only [toPT, slen, List.length_cons, ih]
theorem SAt.of_row {w : World} {ok : Nat → Prop} (l : SL) : ∀ {b o : Nat}, SAt w ok (srow (toPT l)) b o → SAt w ok l b o := by
  induction l with
  | leaf => intro b o _; trivial
  | inner i d v x r _ ih =>
    obtain ⟨k, s, c, a⟩ := d
    intro b o h
    cases x with
    | leaf =>
      obtain ⟨h1, h2, h3, h4, ⟨ad, cap, b', o', f1, f2, f3, f4, f5⟩, ⟨ad', cap', b'', o'', g1, g2, g3, g4, g5⟩, hr⟩ := h
      exact ⟨h1, h2, h3, h4, ⟨ad, cap, f1, f3⟩, ⟨ad', cap', g1, g3⟩, ih hr⟩
    | inner j d' v' p q =>
      obtain ⟨h1, h2, h3, h4, h5, h6, hr⟩ := h
      exact ⟨h1, h2, h3, h4, h5, h6, ih hr⟩
theorem SSlP.of_row {w : World} {ok : Nat → Prop} {v : Value} {l : SL} (h : SSlP w ok v (srow (toPT l))) : SSlP w ok v l := by
  obtain ⟨ad, cap, b, o, h1, h2, h3, h4, h5⟩ := h
  rw [slen_row, toPT_len] at h1 h2 h4
  exact ⟨ad, cap, b, o, h1, h2, h3, h4, h5.of_row⟩

/-- expressions copied: a row of its own -/
def CEv (w' : World) (base : Nat) (l : EL) (v : Value) : Prop :=
  ∃ ys : List (PE × Value), ys.map (·.1) = toPE l ∧ XOwn w' base v (rxs ys) ∧ ∀ y ∈ ys, ESlP w' (fun j => base ≤ j ∧ some j ≠ v.ownBlock) y.2 y.1.args
theorem CEv.esl {w' : World} {base : Nat} {l : EL} {v : Value} (h : CEv w' base l v) : ESlP w' (fun j => base ≤ j) v l := by
  obtain ⟨ys, h1, h2, h3⟩ := h
  have := h2.esl (ok := fun j => base ≤ j) (fun k hk => hk) (fun y hy => (h3 y hy).mono fun j hj => hj.1)
  rw [h1] at this
  exact this.of_row
def CEP (w : World) (l : EL) (e : Ending) (w' : World) : Prop := ∃ v1 v2 v3, e = .returned (.slice v1 v2 v3) ∧ CEv w' w.heap.size l (.slice v1 v2 v3) ∧ Below w.heap.size w w'
/-- statements copied: rows of their own -/
def CSv (w' : World) (base : Nat) (l : SL) (v : Value) : Prop :=
  ∃ ys : List RT, ys.map (·.x) = toPT l ∧ SOwn w' base v ys ∧ ∀ y ∈ ys, TM w' (fun j => base ≤ j ∧ some j ≠ v.ownBlock) y
theorem CSv.ssl {w' : World} {base : Nat} {l : SL} {v : Value} (h : CSv w' base l v) : SSlP w' (fun j => base ≤ j) v l := by
  obtain ⟨ys, h1, h2, h3⟩ := h
  have := h2.ssl (ok := fun j => base ≤ j) (fun k hk => hk) (fun y hy => (h3 y hy).mono fun j hj => hj.1)
  rw [h1] at this
  exact this.of_row
end Go.Proofs.YtnofibjchhcmeabDoor
namespace Go.Proofs.YtnofibjchhcmeabDoor
open Go.RowKit Go.Maps
set_option linter.unusedVariables false

theorem c5 {W : World} {k : Nat} {T : TypeId} {a0 a1 a2 a3 a4 : Value} (h : W.heap[k]? = some (.cells #[a0, a1, a2, a3, a4] T)) : W.cell? ⟨k, 0, none⟩ = some a0 ∧ W.cell? ⟨k, 1, none⟩ = some a1 ∧ W.cell? ⟨k, 2, none⟩ = some a2 ∧ W.cell? ⟨k, 3, none⟩ = some a3 ∧ W.cell? ⟨k, 4, none⟩ = some a4 := by
  refine ⟨?_, ?_, ?_, ?_, ?_⟩
  · rw [cell_of_row W k 0 _ _ _ h]; rfl
  · rw [cell_of_row W k 1 _ _ _ h]; rfl
  · rw [cell_of_row W k 2 _ _ _ h]; rfl
  · rw [cell_of_row W k 3 _ _ _ h]; rfl
  · rw [cell_of_row W k 4 _ _ _ h]; rfl
/-- while expressions are copied -/
def CX (w : World) (l : EL) (ok : Nat → Prop) (b o : Nat) (u3 u8 : Value) (wr : World) : Prop :=
  ∃ (r : EL) (i : Nat) (ys : List (PE × Value)), u8 = .int .i64 (i : Int) ∧ i + elen r = elen l ∧ ys.map (·.1) ++ toPE r = toPE l ∧ ys.length = i ∧ ecnt r ≤ ecnt l ∧ XOwn wr w.heap.size u3 (rxs ys) ∧ (∀ y ∈ ys, ESlP wr (fun j => w.heap.size ≤ j ∧ some j ≠ u3.ownBlock) y.2 y.1.args) ∧ EAt w ok r b (o + i * 5) ∧ Below w.heap.size w wr
theorem ESlP.keep' {w w' : World} {ok ok' : Nat → Prop} {v : Value} {l : EL} (h : ESlP w ok v l) (hb : ∀ k, ok k → k < w.heap.size → w'.heap[k]? = w.heap[k]? ∧ ok' k) : ESlP w' ok' v l := by
  have h1 : ESlP w (fun k => ok k ∧ ok' k) v l := h.mono' fun k a b => ⟨a, (hb k a b).2⟩
  exact (h1.keep fun k a b => (hb k a.1 b).1).mono fun k a => a.2
theorem rxs_app (a b : List (PE × Value)) : rxs (a ++ b) = rxs a ++ rxs b := by simp [rxs]
theorem rxs_len (a : List (PE × Value)) : (rxs a).length = a.length := by simp [rxs]

set_option maxRecDepth 100000 in
set_option maxHeartbeats 8000000 in
theorem copyExprs_any : ∀ (N : Nat) (l : EL) (ok : Nat → Prop) (v : Value) (w : World), ecnt l ≤ N → N ≤ 1000000 → ESlP w ok v l → Calls Tryd.prog 32 #[v] w (CEP w l) := by
  intro N
  induction N using Nat.strongRecOn with
  | _ N ih =>
  intro l ok v w hc hN hes
  obtain ⟨ad, cap, b, o, rfl, h2, h3, h4, h5⟩ := hes
  obtain ⟨P, hP⟩ : ∃ P, CEP w l = P := ⟨_, rfl⟩
  have HP : Hid (CEP w l = P) := hP
  rw [hP]
  have hll := elen_le l
  have HIH : Hid (∀ M, M < N → ∀ (l : EL) (ok : Nat → Prop) (v : Value) (w : World), ecnt l ≤ M → M ≤ 1000000 → ESlP w ok v l → Calls Tryd.prog 32 #[v] w (CEP w l)) := ih
  have E0 : Hid (CX w l ok b o (.slice none 0 0) (.int .i64 0) w) := ⟨l, 0, [], rfl, by omega, rfl, rfl, Nat.le_refl _, XOwn.nil _ _, (by intro y hy; cases hy), by simpa using h5, Below.refl _ _⟩
  have HAD : Hid (0 < elen l → ad = some ⟨b, o, none⟩ ∧ ok b) := h4
  obtain ⟨i0, hi0, hz0, hz1, hz2⟩ := info_parts info42
  unfold maxLen at h3
  clear ih hP h4 h5
  go_enter Tryd.func32, Tryd.ntmps32
  go_wp2
  go_loopw [3, 8] (fun u3 u8 wr => Hid (CX w l ok b o u3 u8 wr)) (fun _ u8 _ => elen l - (intOf u8).toNat)
  case atStart => exact E0
  case round =>
    clear E0
    obtain ⟨r, i, ys, rfl, hi, hys, hyl, hcr, hown, htm, hat, hbl⟩ := hrel.out
    clear hrel
    have HBL : Hid (Below w.heap.size w wr) := hbl
    have hsz := hbl.size
    obtain ⟨u31, u32, u33, rfl⟩ := hown.sl
    cases r with
    | leaf =>
      have hi' : i = elen l := by simpa [elen] using hi
      have HF : Hid (P (.returned (.slice u31 u32 u33)) wr) := by show P _ _; rw [← HP.out]; exact ⟨_, _, _, rfl, ⟨ys, by simpa [toPE] using hys, hown, htm⟩, HBL.out⟩
      have hil : ¬ ((i : Int) < (elen l : Int)) := by omega
      clear hbl hat hi hown htm hi'
      go_wp2
      first | exact HF.out | (go_ret; exact HF.out)
    | inner j d q a r =>
      obtain ⟨k, n, s, p⟩ := d
      obtain ⟨g1, g2, g3, g4, ⟨ad', cap', b', o', f1, f2, f3, f4, f5⟩, hr⟩ := hat
      simp only [elen, ecnt] at hi hcr
      obtain ⟨e1, e2⟩ := HAD.out (by omega)
      subst e1
      have hbw : b < w.heap.size := World.block_lt_of_cell? w ⟨b, o + i * 5, none⟩ g1
      have c0 := (hbl.cell (p := ⟨b, o + i * 5, none⟩) hbw).trans g1
      have c1 := (hbl.cell (p := ⟨b, o + i * 5 + 1, none⟩) hbw).trans g2
      have c2 := (hbl.cell (p := ⟨b, o + i * 5 + 2, none⟩) hbw).trans g3
      have c3 := (hbl.cell (p := ⟨b, o + i * 5 + 3, none⟩) hbw).trans g4
      have c4 := (hbl.cell (p := ⟨b, o + i * 5 + 4, none⟩) hbw).trans f1
      have HCA : Hid (∀ W, Below wr.heap.size wr W → Calls Tryd.prog 32 #[.slice ad' (elen a) cap'] W (CEP W a)) := fun W hW => HIH.out (ecnt a) (by omega) a ok _ W (Nat.le_refl _) (by omega) (ESlP.keep (w := w) ⟨ad', cap', b', o', rfl, f2, f3, f4, f5⟩ fun k _ hk => (hW.block k (by omega)).trans (hbl.block k hk))
      have HRA : Hid (EAt w ok r b (o + (i + 1) * 5)) := by rw [show o + (i + 1) * 5 = o + i * 5 + 5 by omega]; exact hr
      have HO1 : Hid (XOwn wr w.heap.size (.slice u31 u32 u33) (rxs ys)) := hown
      have HT1 : Hid (∀ y ∈ ys, ESlP wr (fun j => w.heap.size ≤ j ∧ some j ≠ (Value.slice u31 u32 u33).ownBlock) y.2 y.1.args) := htm
      have HNM : Hid (i + (elen r + 1) = elen l ∧ ecnt a + ecnt r + 1 ≤ ecnt l ∧ ys.length = i ∧ ecnt l ≤ 1000000) := ⟨hi, hcr, hyl, by omega⟩
      have HYS : Hid (ys.map (·.1) ++ (⟨k, n, s, p, a, 0⟩ :: toPE r) = toPE l) := hys
      have hil : (i : Int) < (elen l : Int) := by omega
      clear hr f5 hbl f4 f2 hown htm hys hyl g1 g2 g3 g4 f1 hcr
      go_upto_region 5 with fail
      go_wp2_with fail
      have hW1 : (wr.alloc (.cells #[.int .i64 k, .int .i64 n, .string s, .int .i64 p, .slice ad' (elen a) cap'] 42)).heap.size = wr.heap.size + 1 := by simp
      refine (HCA.out _ ((Below.refl _ wr).alloc (Nat.le_refl _) _)).mono ?_
      rintro e w2 ⟨v1, v2, v3, rfl, hcv, hb2⟩
      have hb2' : Below (wr.heap.size + 1) (wr.alloc (.cells #[.int .i64 k, .int .i64 n, .string s, .int .i64 p, .slice ad' (elen a) cap'] 42)) w2 := by rw [← hW1]; exact hb2
      have hs2 : wr.heap.size + 1 ≤ w2.heap.size := by have := hb2'.size; rw [hW1] at this; exact this
      have hcv' : CEv w2 (wr.heap.size + 1) a (.slice v1 v2 v3) := by rw [← hW1]; exact hcv
      have hB2 : w2.heap[wr.heap.size]? = some (.cells #[.int .i64 k, .int .i64 n, .string s, .int .i64 p, .slice ad' (elen a) cap'] 42) := (hb2'.block _ (by omega)).trans (heap_alloc_new _ _)
      have hk2 : ∀ j, j < wr.heap.size → w2.heap[j]? = wr.heap[j]? := fun j hj => (hb2'.block j (by omega)).trans (heap_alloc_old _ _ hj)
      have HB3 : Hid ((w2.setCell ⟨wr.heap.size, 4, none⟩ (.slice v1 v2 v3)).heap[wr.heap.size]? = some (.cells #[.int .i64 k, .int .i64 n, .string s, .int .i64 p, .slice v1 v2 v3] 42)) := heap_setCell_same w2 wr.heap.size 4 _ 42 (.slice v1 v2 v3) hB2
      have HK3 : Hid (∀ j, j ≠ wr.heap.size → (w2.setCell ⟨wr.heap.size, 4, none⟩ (.slice v1 v2 v3)).heap[j]? = w2.heap[j]?) := fun j hj => Below.heap_setCell _ _ _ _ hj
      have HS3 : Hid ((w2.setCell ⟨wr.heap.size, 4, none⟩ (.slice v1 v2 v3)).heap.size = w2.heap.size) := by show _ = _; simp [World.setCell]
      have HL3 : Hid (Below w.heap.size w (w2.setCell ⟨wr.heap.size, 4, none⟩ (.slice v1 v2 v3))) := (HBL.out.trans ((((Below.refl wr.heap.size wr).alloc (Nat.le_refl _) _).trans (hb2'.mono (by omega))).mono hsz)).setCell (p := ⟨wr.heap.size, 4, none⟩) hsz _
      have HK2 : Hid ((∀ j, j < wr.heap.size → w2.heap[j]? = wr.heap[j]?) ∧ wr.heap.size + 1 ≤ w2.heap.size ∧ w.heap.size ≤ wr.heap.size) := ⟨hk2, hs2, hsz⟩
      have HCV : Hid (CEv w2 (wr.heap.size + 1) a (.slice v1 v2 v3)) := hcv'
      obtain ⟨_, _, _, _, x4⟩ := c5 hB2
      have y4 := frozen_of_row w2 wr.heap.size 4 _ _ hB2
      clear hcv hcv' hb2 hb2' hB2 hk2 hs2 hW1
      go_upto_region 6 with fail
      generalize w2.setCell ⟨wr.heap.size, 4, none⟩ (.slice v1 v2 v3) = w3 at HB3 HK3 HS3 HL3 ⊢
      obtain ⟨d0, d1, d2, d3, d4⟩ := c5 HB3.out
      have hlt3 : wr.heap.size < w3.heap.size := by have := HS3.out; have := HK2.out; omega
      have hbk : ∀ j, j < wr.heap.size → w3.heap[j]? = wr.heap[j]? := fun j hj => (HK3.out j (by omega)).trans (HK2.out.1 j hj)
      have HO3 : Hid (w3.ownsRow w.heap.size 42 5 (.slice u31 u32 u33) (rxs ys).length (xcs (rxs ys))) := HO1.out.keep fun j _ hj => hbk j hj
      have HT3 : Hid (∀ y ∈ ys, ESlP w3 (fun j => w.heap.size ≤ j ∧ some j ≠ (Value.slice u31 u32 u33).ownBlock) y.2 y.1.args) := fun y hy => (HT1.out y hy).keep fun j _ hj => hbk j hj
      have HOL : Hid (∀ k, (Value.slice u31 u32 u33).ownBlock = some k → w.heap.size ≤ k ∧ k < wr.heap.size) := World.ownsRow.lt HO1.out
      have HY3 : Hid (ESlP w3 (fun j => w.heap.size ≤ j ∧ some j ≠ (Value.slice u31 u32 u33).ownBlock) (.slice v1 v2 v3) a) := by
        refine (HCV.out.esl.mono (ok' := fun j => wr.heap.size + 1 ≤ j) fun j hj => hj).keep' fun j h1 h2 => ⟨HK3.out j (by omega), by have := HK2.out; omega, fun e => by have := HOL.out j e.symm; omega⟩
      clear x4 y4 HK3 HCV hbk c0 c1 c2 c3 c4
      go_wp2_with (at_builtin; refine wpList_append_own_at _ rfl _ _ 37 rfl w.heap.size 42 i0 (.agg #[.int .i64 0, .int .i64 0, .string ⟨#[]⟩, .int .i64 0, .slice none 0 0]) 5 64 Tryd.underlying37 hi0 hz0 hz1 hz2 rfl (by decide) _ _ _ rfl (World.ownsRow.alloc HO3.out _) ⟨w3.heap.size, 0, none⟩ 1 1 (xcs (rxs [(⟨k, n, s, p, a, 0⟩, .slice v1 v2 v3)])) rfl rfl ?c1 ?c2 ?c3 ?c4 ?c5 ?_)
      case c1 =>
        intro j u hj
        match j, hj with
        | 0, hj => simp [rxs, rx, xcs, xc] at hj; subst hj; simp [Addr.add]
        | 1, hj => simp [rxs, rx, xcs, xc] at hj; subst hj; simp [Addr.add]
        | 2, hj => simp [rxs, rx, xcs, xc] at hj; subst hj; simp [Addr.add]
        | 3, hj => simp [rxs, rx, xcs, xc] at hj; subst hj; simp [Addr.add]
        | 4, hj => simp [rxs, rx, xcs, xc] at hj; subst hj; simp [Addr.add]
      case c2 => exact xc_one _ ⟨_, _, _, rfl⟩
      case c3 => have := HNM.out; rw [rxs_len]; unfold maxLen; omega
      case c4 => have := HNM.out; rw [rxs_len]; omega
      case c5 => have := HK2.out; simp; omega
      intro v' w4 hown' hgrow _ hloc
      have hsz4 := hgrow.size
      simp at hsz4
      have hbl : ∀ j, j < w3.heap.size → some j ≠ (Value.slice u31 u32 u33).ownBlock → w4.heap[j]? = w3.heap[j]? := fun j h1 h2 => (hgrow.block j (by simp; omega) h2).trans (heap_alloc_old _ _ h1)
      have hown2 : XOwn w4 w.heap.size v' (rxs (ys ++ [(⟨k, n, s, p, a, 0⟩, .slice v1 v2 v3)])) := by
        show w4.ownsRow _ _ _ _ _ _
        rw [rxs_app, List.length_append, xcs_app]
        exact hown'
      have hok : ∀ j, (w.heap.size ≤ j ∧ some j ≠ (Value.slice u31 u32 u33).ownBlock) → j < w3.heap.size → (w.heap.size ≤ j ∧ some j ≠ v'.ownBlock) := by
        intro j h1 h2
        refine ⟨h1.1, fun e => ?_⟩
        rcases hloc with h3 | h3
        · rw [h3] at e; exact h1.2 e
        · rw [h3] at e; cases e; omega
      have htm : ∀ y ∈ ys ++ [((⟨k, n, s, p, a, 0⟩ : PE), (Value.slice v1 v2 v3))], ESlP w4 (fun j => w.heap.size ≤ j ∧ some j ≠ v'.ownBlock) y.2 y.1.args := by
        intro y hy
        have h0 : ESlP w3 (fun j => w.heap.size ≤ j ∧ some j ≠ (Value.slice u31 u32 u33).ownBlock) y.2 y.1.args := by
          rcases List.mem_append.1 hy with h | h
          · exact HT3.out y h
          · simp at h; subst h; exact HY3.out
        exact h0.keep' fun j h1 h2 => ⟨hbl j h2 h1.2, hok j h1 h2⟩
      have hbelow : Below w.heap.size w w4 := ⟨hgrow.os.trans HL3.out.os, hgrow.tape.trans HL3.out.tape, hgrow.output.trans HL3.out.output, by have := HL3.out.size; omega, fun j hj => (hbl j (by have := HL3.out.size; omega) (fun e => by have := HOL.out j e.symm; omega)).trans (HL3.out.block j hj)⟩
      have HXN : Hid (CX w l ok b o v' (.int .i64 ((i : Int) + 1)) w4) := by
        refine ⟨r, i + 1, ys ++ [(⟨k, n, s, p, a, 0⟩, .slice v1 v2 v3)], by simp, by have := HNM.out; omega, ?_, by have := HNM.out; simp; omega, by have := HNM.out; omega, hown2, htm, HRA.out, hbelow⟩
        rw [List.map_append, List.append_assoc]
        exact HYS.out
      clear hown' hgrow hloc hsz4 hbl hown2 hok htm hbelow HO3 HT3 HY3 HOL HB3 d0 d1 d2 d3 d4
      go_wp2
      go_roundw
      case rel => exact HXN
      case measure => simp [intOf]; omega

set_option maxRecDepth 100000 in
set_option maxHeartbeats 8000000 in
theorem copies_any : ∀ (N : Nat) (l : EL) (ok : Nat → Prop) (v : Value) (w : World), ecnt l ≤ N → N ≤ 1000000 → ESlP w ok v l → Calls Tryd.prog 33 #[v] w (CEP w l) := by
  intro N
  induction N using Nat.strongRecOn with
  | _ N ih =>
  intro l ok v w hc hN hes
  obtain ⟨ad, cap, b, o, rfl, h2, h3, h4, h5⟩ := hes
  obtain ⟨P, hP⟩ : ∃ P, CEP w l = P := ⟨_, rfl⟩
  have HP : Hid (CEP w l = P) := hP
  rw [hP]
  have hll := elen_le l
  have HIH : Hid (∀ M, M < N → ∀ (l : EL) (ok : Nat → Prop) (v : Value) (w : World), ecnt l ≤ M → M ≤ 1000000 → ESlP w ok v l → Calls Tryd.prog 33 #[v] w (CEP w l)) := ih
  have E0 : Hid (CX w l ok b o (.slice none 0 0) (.int .i64 0) w) := ⟨l, 0, [], rfl, by omega, rfl, rfl, Nat.le_refl _, XOwn.nil _ _, (by intro y hy; cases hy), by simpa using h5, Below.refl _ _⟩
  have HAD : Hid (0 < elen l → ad = some ⟨b, o, none⟩ ∧ ok b) := h4
  obtain ⟨i0, hi0, hz0, hz1, hz2⟩ := info_parts info42
  unfold maxLen at h3
  clear ih hP h4 h5
  go_enter Tryd.func33, Tryd.ntmps33
  go_wp2
  go_loopw [3, 4] (fun u3 u8 wr => Hid (CX w l ok b o u3 u8 wr)) (fun _ u8 _ => elen l - (intOf u8).toNat)
  case atStart => exact E0
  case round =>
    clear E0
    obtain ⟨r, i, ys, rfl, hi, hys, hyl, hcr, hown, htm, hat, hbl⟩ := hrel.out
    clear hrel
    have HBL : Hid (Below w.heap.size w wr) := hbl
    have hsz := hbl.size
    obtain ⟨u31, u32, u33, rfl⟩ := hown.sl
    cases r with
    | leaf =>
      have hi' : i = elen l := by simpa [elen] using hi
      have HF : Hid (P (.returned (.slice u31 u32 u33)) wr) := by show P _ _; rw [← HP.out]; exact ⟨_, _, _, rfl, ⟨ys, by simpa [toPE] using hys, hown, htm⟩, HBL.out⟩
      have hil : ¬ ((i : Int) < (elen l : Int)) := by omega
      clear hbl hat hi hown htm hi'
      go_wp2
      first | exact HF.out | (go_ret; exact HF.out)
    | inner j d q a r =>
      obtain ⟨k, n, s, p⟩ := d
      obtain ⟨g1, g2, g3, g4, ⟨ad', cap', b', o', f1, f2, f3, f4, f5⟩, hr⟩ := hat
      simp only [elen, ecnt] at hi hcr
      obtain ⟨e1, e2⟩ := HAD.out (by omega)
      subst e1
      have hbw : b < w.heap.size := World.block_lt_of_cell? w ⟨b, o + i * 5, none⟩ g1
      have c0 := (hbl.cell (p := ⟨b, o + i * 5, none⟩) hbw).trans g1
      have c1 := (hbl.cell (p := ⟨b, o + i * 5 + 1, none⟩) hbw).trans g2
      have c2 := (hbl.cell (p := ⟨b, o + i * 5 + 2, none⟩) hbw).trans g3
      have c3 := (hbl.cell (p := ⟨b, o + i * 5 + 3, none⟩) hbw).trans g4
      have c4 := (hbl.cell (p := ⟨b, o + i * 5 + 4, none⟩) hbw).trans f1
      have HCA : Hid (∀ W, Below wr.heap.size wr W → Calls Tryd.prog 33 #[.slice ad' (elen a) cap'] W (CEP W a)) := fun W hW => HIH.out (ecnt a) (by omega) a ok _ W (Nat.le_refl _) (by omega) (ESlP.keep (w := w) ⟨ad', cap', b', o', rfl, f2, f3, f4, f5⟩ fun k _ hk => (hW.block k (by omega)).trans (hbl.block k hk))
      have HRA : Hid (EAt w ok r b (o + (i + 1) * 5)) := by rw [show o + (i + 1) * 5 = o + i * 5 + 5 by omega]; exact hr
      have HO1 : Hid (XOwn wr w.heap.size (.slice u31 u32 u33) (rxs ys)) := hown
      have HT1 : Hid (∀ y ∈ ys, ESlP wr (fun j => w.heap.size ≤ j ∧ some j ≠ (Value.slice u31 u32 u33).ownBlock) y.2 y.1.args) := htm
      have HNM : Hid (i + (elen r + 1) = elen l ∧ ecnt a + ecnt r + 1 ≤ ecnt l ∧ ys.length = i ∧ ecnt l ≤ 1000000) := ⟨hi, hcr, hyl, by omega⟩
      have HYS : Hid (ys.map (·.1) ++ (⟨k, n, s, p, a, 0⟩ :: toPE r) = toPE l) := hys
      have hil : (i : Int) < (elen l : Int) := by omega
      clear hr f5 hbl f4 f2 hown htm hys hyl g1 g2 g3 g4 f1 hcr
      go_upto_region 6 with fail
      go_wp2_with fail
      have hW1 : (wr.alloc (.cells #[.int .i64 k, .int .i64 n, .string s, .int .i64 p, .slice ad' (elen a) cap'] 42)).heap.size = wr.heap.size + 1 := by simp
      refine (HCA.out _ ((Below.refl _ wr).alloc (Nat.le_refl _) _)).mono ?_
      rintro e w2 ⟨v1, v2, v3, rfl, hcv, hb2⟩
      have hb2' : Below (wr.heap.size + 1) (wr.alloc (.cells #[.int .i64 k, .int .i64 n, .string s, .int .i64 p, .slice ad' (elen a) cap'] 42)) w2 := by rw [← hW1]; exact hb2
      have hs2 : wr.heap.size + 1 ≤ w2.heap.size := by have := hb2'.size; rw [hW1] at this; exact this
      have hcv' : CEv w2 (wr.heap.size + 1) a (.slice v1 v2 v3) := by rw [← hW1]; exact hcv
      have hB2 : w2.heap[wr.heap.size]? = some (.cells #[.int .i64 k, .int .i64 n, .string s, .int .i64 p, .slice ad' (elen a) cap'] 42) := (hb2'.block _ (by omega)).trans (heap_alloc_new _ _)
      have hk2 : ∀ j, j < wr.heap.size → w2.heap[j]? = wr.heap[j]? := fun j hj => (hb2'.block j (by omega)).trans (heap_alloc_old _ _ hj)
      have HB3 : Hid ((w2.setCell ⟨wr.heap.size, 4, none⟩ (.slice v1 v2 v3)).heap[wr.heap.size]? = some (.cells #[.int .i64 k, .int .i64 n, .string s, .int .i64 p, .slice v1 v2 v3] 42)) := heap_setCell_same w2 wr.heap.size 4 _ 42 (.slice v1 v2 v3) hB2
      have HK3 : Hid (∀ j, j ≠ wr.heap.size → (w2.setCell ⟨wr.heap.size, 4, none⟩ (.slice v1 v2 v3)).heap[j]? = w2.heap[j]?) := fun j hj => Below.heap_setCell _ _ _ _ hj
      have HS3 : Hid ((w2.setCell ⟨wr.heap.size, 4, none⟩ (.slice v1 v2 v3)).heap.size = w2.heap.size) := by show _ = _; simp [World.setCell]
      have HL3 : Hid (Below w.heap.size w (w2.setCell ⟨wr.heap.size, 4, none⟩ (.slice v1 v2 v3))) := (HBL.out.trans ((((Below.refl wr.heap.size wr).alloc (Nat.le_refl _) _).trans (hb2'.mono (by omega))).mono hsz)).setCell (p := ⟨wr.heap.size, 4, none⟩) hsz _
      have HK2 : Hid ((∀ j, j < wr.heap.size → w2.heap[j]? = wr.heap[j]?) ∧ wr.heap.size + 1 ≤ w2.heap.size ∧ w.heap.size ≤ wr.heap.size) := ⟨hk2, hs2, hsz⟩
      have HCV : Hid (CEv w2 (wr.heap.size + 1) a (.slice v1 v2 v3)) := hcv'
      obtain ⟨_, _, _, _, x4⟩ := c5 hB2
      have y4 := frozen_of_row w2 wr.heap.size 4 _ _ hB2
      clear hcv hcv' hb2 hb2' hB2 hk2 hs2 hW1
      go_upto_region 7 with fail
      generalize w2.setCell ⟨wr.heap.size, 4, none⟩ (.slice v1 v2 v3) = w3 at HB3 HK3 HS3 HL3 ⊢
      obtain ⟨d0, d1, d2, d3, d4⟩ := c5 HB3.out
      have hlt3 : wr.heap.size < w3.heap.size := by have := HS3.out; have := HK2.out; omega
      have hbk : ∀ j, j < wr.heap.size → w3.heap[j]? = wr.heap[j]? := fun j hj => (HK3.out j (by omega)).trans (HK2.out.1 j hj)
      have HO3 : Hid (w3.ownsRow w.heap.size 42 5 (.slice u31 u32 u33) (rxs ys).length (xcs (rxs ys))) := HO1.out.keep fun j _ hj => hbk j hj
      have HT3 : Hid (∀ y ∈ ys, ESlP w3 (fun j => w.heap.size ≤ j ∧ some j ≠ (Value.slice u31 u32 u33).ownBlock) y.2 y.1.args) := fun y hy => (HT1.out y hy).keep fun j _ hj => hbk j hj
      have HOL : Hid (∀ k, (Value.slice u31 u32 u33).ownBlock = some k → w.heap.size ≤ k ∧ k < wr.heap.size) := World.ownsRow.lt HO1.out
      have HY3 : Hid (ESlP w3 (fun j => w.heap.size ≤ j ∧ some j ≠ (Value.slice u31 u32 u33).ownBlock) (.slice v1 v2 v3) a) := by
        refine (HCV.out.esl.mono (ok' := fun j => wr.heap.size + 1 ≤ j) fun j hj => hj).keep' fun j h1 h2 => ⟨HK3.out j (by omega), by have := HK2.out; omega, fun e => by have := HOL.out j e.symm; omega⟩
      clear x4 y4 HK3 HCV hbk c0 c1 c2 c3 c4
      go_wp2_with (at_builtin; refine wpList_append_own_at _ rfl _ _ 37 rfl w.heap.size 42 i0 (.agg #[.int .i64 0, .int .i64 0, .string ⟨#[]⟩, .int .i64 0, .slice none 0 0]) 5 64 Tryd.underlying37 hi0 hz0 hz1 hz2 rfl (by decide) _ _ _ rfl (World.ownsRow.alloc HO3.out _) ⟨w3.heap.size, 0, none⟩ 1 1 (xcs (rxs [(⟨k, n, s, p, a, 0⟩, .slice v1 v2 v3)])) rfl rfl ?c1 ?c2 ?c3 ?c4 ?c5 ?_)
      case c1 =>
        intro j u hj
        match j, hj with
        | 0, hj => simp [rxs, rx, xcs, xc] at hj; subst hj; simp [Addr.add]
        | 1, hj => simp [rxs, rx, xcs, xc] at hj; subst hj; simp [Addr.add]
        | 2, hj => simp [rxs, rx, xcs, xc] at hj; subst hj; simp [Addr.add]
        | 3, hj => simp [rxs, rx, xcs, xc] at hj; subst hj; simp [Addr.add]
        | 4, hj => simp [rxs, rx, xcs, xc] at hj; subst hj; simp [Addr.add]
      case c2 => exact xc_one _ ⟨_, _, _, rfl⟩
      case c3 => have := HNM.out; rw [rxs_len]; unfold maxLen; omega
      case c4 => have := HNM.out; rw [rxs_len]; omega
      case c5 => have := HK2.out; simp; omega
      intro v' w4 hown' hgrow _ hloc
      have hsz4 := hgrow.size
      simp at hsz4
      have hbl : ∀ j, j < w3.heap.size → some j ≠ (Value.slice u31 u32 u33).ownBlock → w4.heap[j]? = w3.heap[j]? := fun j h1 h2 => (hgrow.block j (by simp; omega) h2).trans (heap_alloc_old _ _ h1)
      have hown2 : XOwn w4 w.heap.size v' (rxs (ys ++ [(⟨k, n, s, p, a, 0⟩, .slice v1 v2 v3)])) := by
        show w4.ownsRow _ _ _ _ _ _
        rw [rxs_app, List.length_append, xcs_app]
        exact hown'
      have hok : ∀ j, (w.heap.size ≤ j ∧ some j ≠ (Value.slice u31 u32 u33).ownBlock) → j < w3.heap.size → (w.heap.size ≤ j ∧ some j ≠ v'.ownBlock) := by
        intro j h1 h2
        refine ⟨h1.1, fun e => ?_⟩
        rcases hloc with h3 | h3
        · rw [h3] at e; exact h1.2 e
        · rw [h3] at e; cases e; omega
      have htm : ∀ y ∈ ys ++ [((⟨k, n, s, p, a, 0⟩ : PE), (Value.slice v1 v2 v3))], ESlP w4 (fun j => w.heap.size ≤ j ∧ some j ≠ v'.ownBlock) y.2 y.1.args := by
        intro y hy
        have h0 : ESlP w3 (fun j => w.heap.size ≤ j ∧ some j ≠ (Value.slice u31 u32 u33).ownBlock) y.2 y.1.args := by
          rcases List.mem_append.1 hy with h | h
          · exact HT3.out y h
          · simp at h; subst h; exact HY3.out
        exact h0.keep' fun j h1 h2 => ⟨hbl j h2 h1.2, hok j h1 h2⟩
      have hbelow : Below w.heap.size w w4 := ⟨hgrow.os.trans HL3.out.os, hgrow.tape.trans HL3.out.tape, hgrow.output.trans HL3.out.output, by have := HL3.out.size; omega, fun j hj => (hbl j (by have := HL3.out.size; omega) (fun e => by have := HOL.out j e.symm; omega)).trans (HL3.out.block j hj)⟩
      have HXN : Hid (CX w l ok b o v' (.int .i64 ((i : Int) + 1)) w4) := by
        refine ⟨r, i + 1, ys ++ [(⟨k, n, s, p, a, 0⟩, .slice v1 v2 v3)], by simp, by have := HNM.out; omega, ?_, by have := HNM.out; simp; omega, by have := HNM.out; omega, hown2, htm, HRA.out, hbelow⟩
        rw [List.map_append, List.append_assoc]
        exact HYS.out
      clear hown' hgrow hloc hsz4 hbl hown2 hok htm hbelow HO3 HT3 HY3 HOL HB3 d0 d1 d2 d3 d4
      go_wp2
      go_roundw
      case rel => exact HXN
      case measure => simp [intOf]; omega
end Go.Proofs.YtnofibjchhcmeabDoor
namespace Go.Proofs.YtnofibjchhcmeabDoor
open Go.RowKit Go.Maps
set_option linter.unusedVariables false

/-- a row that may be written -/
def Wr (w : World) (ok : Nat → Prop) (sz : Nat) (u : Value) : Prop := u = .slice none 0 0 ∨ ∃ g n cap cur t, u = .slice (some ⟨g, 0, none⟩) n cap ∧ ok g ∧ w.heap[g]? = some (.cells cur t) ∧ n ≤ cap ∧ cur.size = cap * sz ∧ cap ≤ maxLen
theorem Wr.keep' {w w' : World} {ok ok' : Nat → Prop} {sz : Nat} {v : Value} (h : Wr w ok sz v) (hb : ∀ k, ok k → k < w.heap.size → w'.heap[k]? = w.heap[k]? ∧ ok' k) : Wr w' ok' sz v := by
  rcases h with h | ⟨g, n, cap, cur, t, h1, h2, h3, h4⟩
  · exact Or.inl h
  · have hg : g < w.heap.size := (Array.getElem?_eq_some_iff.1 h3).1
    exact Or.inr ⟨g, n, cap, cur, t, h1, (hb g h2 hg).2, (hb g h2 hg).1.trans h3, h4⟩
theorem XOwn.wr {w : World} {base : Nat} {ok : Nat → Prop} {v : Value} {l : List RX} (h : XOwn w base v l) (hb : ∀ k, base ≤ k → ok k) : Wr w ok 5 v := by
  obtain ⟨h1, ⟨h2, h3⟩ | ⟨g, cap, cur, e1, e2, e3, e4, e5, e6, e7⟩⟩ := h
  · exact Or.inl h2
  · exact Or.inr ⟨g, _, cap, cur, 42, e1, hb g e2, e3, e4, e6, e5⟩
theorem SOwn.wr {w : World} {base : Nat} {ok : Nat → Prop} {v : Value} {l : List RT} (h : SOwn w base v l) (hb : ∀ k, base ≤ k → ok k) : Wr w ok 6 v := by
  obtain ⟨h1, ⟨h2, h3⟩ | ⟨g, cap, cur, e1, e2, e3, e4, e5, e6, e7⟩⟩ := h
  · exact Or.inl h2
  · exact Or.inr ⟨g, _, cap, cur, 39, e1, hb g e2, e3, e4, e6, e5⟩
/-- a copied statement's slices -/
def TM2 (w : World) (ok : Nat → Prop) (y : RT) : Prop := TM w ok y ∧ Wr w ok 5 y.v ∧ Wr w ok 6 y.b ∧ Wr w ok 6 y.e
theorem TM2.keep' {w w' : World} {ok ok' : Nat → Prop} {y : RT} (h : TM2 w ok y) (hb : ∀ k, ok k → k < w.heap.size → w'.heap[k]? = w.heap[k]? ∧ ok' k) : TM2 w' ok' y := ⟨h.1.keep' hb, h.2.1.keep' hb, h.2.2.1.keep' hb, h.2.2.2.keep' hb⟩
/-- statements copied -/
def CTv (w' : World) (base : Nat) (l : SL) (v : Value) : Prop :=
  ∃ ys : List RT, ys.map (·.x) = toPT l ∧ SOwn w' base v ys ∧ ∀ y ∈ ys, TM2 w' (fun j => base ≤ j ∧ some j ≠ v.ownBlock) y
theorem CTv.ssl {w' : World} {base : Nat} {l : SL} {v : Value} (h : CTv w' base l v) : SSlP w' (fun j => base ≤ j) v l := by
  obtain ⟨ys, h1, h2, h3⟩ := h
  exact CSv.ssl ⟨ys, h1, h2, fun y hy => (h3 y hy).1⟩
def CSP (w : World) (l : SL) (e : Ending) (w' : World) : Prop := ∃ v1 v2 v3, e = .returned (.slice v1 v2 v3) ∧ CTv w' w.heap.size l (.slice v1 v2 v3) ∧ Below w.heap.size w w'
/-- while statements are copied -/
def CY (w : World) (l : SL) (ok : Nat → Prop) (b o : Nat) (u3 u8 : Value) (wr : World) : Prop :=
  ∃ (r : SL) (i : Nat) (ys : List RT), u8 = .int .i64 (i : Int) ∧ i + slen r = slen l ∧ ys.map (·.x) ++ toPT r = toPT l ∧ ys.length = i ∧ scnt r ≤ scnt l ∧ SOwn wr w.heap.size u3 ys ∧ (∀ y ∈ ys, TM2 wr (fun j => w.heap.size ≤ j ∧ some j ≠ u3.ownBlock) y) ∧ SAt w ok r b (o + i * 6) ∧ Below w.heap.size w wr
/-- the statement that is being copied -/
structure Ph (k : Int) (s : ByteArray) (c : Int) (w wr W : World) (A B E : Value) : Prop where
  blk : W.heap[wr.heap.size]? = some (.cells #[.int .i64 k, .string s, .int .i64 c, A, B, E] 39)
  old : ∀ j, j < wr.heap.size → W.heap[j]? = wr.heap[j]?
  lt : wr.heap.size < W.heap.size
  le : w.heap.size ≤ wr.heap.size
  bel : Below w.heap.size w W
theorem Ph.new {k : Int} {s : ByteArray} {c : Int} {w wr : World} {A B E : Value} (h : Below w.heap.size w wr) : Ph k s c w wr (wr.alloc (.cells #[.int .i64 k, .string s, .int .i64 c, A, B, E] 39)) A B E :=
  ⟨heap_alloc_new _ _, fun j hj => heap_alloc_old _ _ hj, by simp, h.size, h.alloc h.size _⟩
theorem Ph.call {k : Int} {s : ByteArray} {c : Int} {w wr W W' : World} {A B E : Value} (h : Ph k s c w wr W A B E) (hb : Below W.heap.size W W') : Ph k s c w wr W' A B E :=
  ⟨(hb.block _ h.lt).trans h.blk, fun j hj => (hb.block j (Nat.lt_trans hj h.lt)).trans (h.old j hj), Nat.lt_of_lt_of_le h.lt hb.size, h.le, h.bel.trans (hb.mono (Nat.le_trans h.le (Nat.le_of_lt h.lt)))⟩
theorem Ph.set3 {k : Int} {s : ByteArray} {c : Int} {w wr W : World} {A B E : Value} (h : Ph k s c w wr W A B E) (v : Value) : Ph k s c w wr (W.setCell ⟨wr.heap.size, 3, none⟩ v) v B E :=
  ⟨heap_setCell_same W wr.heap.size 3 _ 39 v h.blk, fun j hj => (Below.heap_setCell _ _ _ _ (Nat.ne_of_lt hj)).trans (h.old j hj), by simpa [World.setCell] using h.lt, h.le, h.bel.setCell (p := ⟨wr.heap.size, 3, none⟩) h.le _⟩
theorem Ph.set4 {k : Int} {s : ByteArray} {c : Int} {w wr W : World} {A B E : Value} (h : Ph k s c w wr W A B E) (v : Value) : Ph k s c w wr (W.setCell ⟨wr.heap.size, 4, none⟩ v) A v E :=
  ⟨heap_setCell_same W wr.heap.size 4 _ 39 v h.blk, fun j hj => (Below.heap_setCell _ _ _ _ (Nat.ne_of_lt hj)).trans (h.old j hj), by simpa [World.setCell] using h.lt, h.le, h.bel.setCell (p := ⟨wr.heap.size, 4, none⟩) h.le _⟩
theorem Ph.set5 {k : Int} {s : ByteArray} {c : Int} {w wr W : World} {A B E : Value} (h : Ph k s c w wr W A B E) (v : Value) : Ph k s c w wr (W.setCell ⟨wr.heap.size, 5, none⟩ v) A B v :=
  ⟨heap_setCell_same W wr.heap.size 5 _ 39 v h.blk, fun j hj => (Below.heap_setCell _ _ _ _ (Nat.ne_of_lt hj)).trans (h.old j hj), by simpa [World.setCell] using h.lt, h.le, h.bel.setCell (p := ⟨wr.heap.size, 5, none⟩) h.le _⟩
theorem Ph.cells {k : Int} {s : ByteArray} {c : Int} {w wr W : World} {A B E : Value} (h : Ph k s c w wr W A B E) : W.cell? ⟨wr.heap.size, 3, none⟩ = some A ∧ W.cell? ⟨wr.heap.size, 4, none⟩ = some B ∧ W.cell? ⟨wr.heap.size, 5, none⟩ = some E ∧ W.frozen? ⟨wr.heap.size, 3, none⟩ = false ∧ W.frozen? ⟨wr.heap.size, 4, none⟩ = false ∧ W.frozen? ⟨wr.heap.size, 5, none⟩ = false := by
  obtain ⟨_, _, _, h1, h2, h3⟩ := c6 h.blk
  exact ⟨h1, h2, h3, frozen_of_row W wr.heap.size 3 _ _ h.blk, frozen_of_row W wr.heap.size 4 _ _ h.blk, frozen_of_row W wr.heap.size 5 _ _ h.blk⟩
/-- what was made behind block n -/
def NwE (W : World) (n : Nat) (v : Value) (a : EL) : Prop := ESlP W (fun j => n < j) v a ∧ Wr W (fun j => n < j) 5 v
def NwS (W : World) (n : Nat) (v : Value) (l : SL) : Prop := SSlP W (fun j => n < j) v l ∧ Wr W (fun j => n < j) 6 v
theorem CEv.nw {W : World} {n base : Nat} {v : Value} {a : EL} (h : CEv W base a v) (hn : n < base) : NwE W n v a := by
  refine ⟨h.esl.mono fun j hj => Nat.lt_of_lt_of_le hn hj, ?_⟩
  obtain ⟨ys, _, h2, _⟩ := h
  exact h2.wr fun k hk => Nat.lt_of_lt_of_le hn hk
theorem CTv.nw {W : World} {n base : Nat} {v : Value} {a : SL} (h : CTv W base a v) (hn : n < base) : NwS W n v a := by
  refine ⟨h.ssl.mono fun j hj => Nat.lt_of_lt_of_le hn hj, ?_⟩
  obtain ⟨ys, _, h2, _⟩ := h
  exact h2.wr fun k hk => Nat.lt_of_lt_of_le hn hk
theorem NwE.keep {W W' : World} {n : Nat} {v : Value} {a : EL} (h : NwE W n v a) (hb : ∀ j, n < j → j < W.heap.size → W'.heap[j]? = W.heap[j]?) : NwE W' n v a := ⟨h.1.keep hb, h.2.keep' fun k h1 h2 => ⟨hb k h1 h2, h1⟩⟩
theorem NwS.keep {W W' : World} {n : Nat} {v : Value} {a : SL} (h : NwS W n v a) (hb : ∀ j, n < j → j < W.heap.size → W'.heap[j]? = W.heap[j]?) : NwS W' n v a := ⟨h.1.keep hb, h.2.keep' fun k h1 h2 => ⟨hb k h1 h2, h1⟩⟩
theorem NwE.set {W : World} {n : Nat} {v : Value} {a : EL} (h : NwE W n v a) (q : Nat) (u : Value) : NwE (W.setCell ⟨n, q, none⟩ u) n v a := h.keep fun j h1 _ => Below.heap_setCell _ _ _ _ (Nat.ne_of_gt h1)
theorem NwS.set {W : World} {n : Nat} {v : Value} {a : SL} (h : NwS W n v a) (q : Nat) (u : Value) : NwS (W.setCell ⟨n, q, none⟩ u) n v a := h.keep fun j h1 _ => Below.heap_setCell _ _ _ _ (Nat.ne_of_gt h1)
theorem NwE.call {W W' : World} {n : Nat} {v : Value} {a : EL} (h : NwE W n v a) (hb : Below W.heap.size W W') : NwE W' n v a := h.keep fun j _ h2 => hb.block j h2
theorem NwS.call {W W' : World} {n : Nat} {v : Value} {a : SL} (h : NwS W n v a) (hb : Below W.heap.size W W') : NwS W' n v a := h.keep fun j _ h2 => hb.block j h2
theorem NwE.sl {W : World} {n : Nat} {v : Value} {a : EL} (h : NwE W n v a) : Sl v := h.1.sl
theorem NwS.sl {W : World} {n : Nat} {v : Value} {a : SL} (h : NwS W n v a) : Sl v := h.1.sl
/-- a statement's copy is there -/
def Cpd (k : Int) (s : ByteArray) (c : Int) (w wr : World) (a : EL) (d e : SL) (W : World) : Prop := ∃ A B E, Ph k s c w wr W A B E ∧ NwE W wr.heap.size A a ∧ NwS W wr.heap.size B d ∧ NwS W wr.heap.size E e
theorem Ph.drew {k : Int} {s : ByteArray} {c : Int} {w wr W : World} {A B E : Value} (h : Ph k s c w wr W A B E) : Ph k s c w wr W.drew A B E := ⟨h.blk, h.old, h.lt, h.le, h.bel.drew⟩

set_option maxRecDepth 100000 in
set_option maxHeartbeats 16000000 in
theorem refCopy_any : ∀ (N : Nat) (l : SL) (ok : Nat → Prop) (v : Value) (w : World), scnt l ≤ N → N ≤ 1000000 → SSlP w ok v l → Calls Tryd.prog 21 #[v] w (CSP w l) := by
  intro N
  induction N using Nat.strongRecOn with
  | _ N ih =>
  intro l ok v w hc hN hes
  obtain ⟨ad, cap, b, o, rfl, h2, h3, h4, h5⟩ := hes
  obtain ⟨P, hP⟩ : ∃ P, CSP w l = P := ⟨_, rfl⟩
  have HP : Hid (CSP w l = P) := hP
  rw [hP]
  have hll := slen_le l
  have HIH : Hid (∀ M, M < N → ∀ (l : SL) (ok : Nat → Prop) (v : Value) (w : World), scnt l ≤ M → M ≤ 1000000 → SSlP w ok v l → Calls Tryd.prog 21 #[v] w (CSP w l)) := ih
  have E0 : Hid (CY w l ok b o (.slice none 0 0) (.int .i64 0) w) := ⟨l, 0, [], rfl, by omega, rfl, rfl, Nat.le_refl _, SOwn.nil _ _, (by intro y hy; cases hy), by simpa using h5, Below.refl _ _⟩
  have HAD : Hid (0 < slen l → ad = some ⟨b, o, none⟩ ∧ ok b) := h4
  obtain ⟨i0, hi0, hz0, hz1, hz2⟩ := info_parts info39
  unfold maxLen at h3
  clear ih hP h4 h5
  go_enter Tryd.func21, Tryd.ntmps21
  go_wp2
  go_loopw [3, 4] (fun u3 u8 wr => Hid (CY w l ok b o u3 u8 wr)) (fun _ u8 _ => slen l - (intOf u8).toNat)
  case atStart => exact E0
  case round =>
    clear E0
    obtain ⟨r, i, ys, rfl, hi, hys, hyl, hcr, hown, htm, hat, hbl⟩ := hrel.out
    clear hrel
    have HBL : Hid (Below w.heap.size w wr) := hbl
    have hsz := hbl.size
    obtain ⟨u31, u32, u33, rfl⟩ := hown.sl
    cases r with
    | leaf =>
      have hi' : i = slen l := by simpa [slen] using hi
      have HF : Hid (P (.returned (.slice u31 u32 u33)) wr) := by show P _ _; rw [← HP.out]; exact ⟨_, _, _, rfl, ⟨ys, by simpa [toPT] using hys, hown, htm⟩, HBL.out⟩
      have hil : ¬ ((i : Int) < (slen l : Int)) := by omega
      clear hbl hat hi hown htm hi'
      go_wp2
      first | exact HF.out | (go_ret; exact HF.out)
    | inner j d q x r =>
      obtain ⟨k, s, c, a⟩ := d
      obtain ⟨g1, g2, g3, va, vb, ve, g4, g5, g6, pa, pb, pe, hr⟩ := hat.parts
      rw [scnt_inner] at hcr
      simp only [slen] at hi
      obtain ⟨e1, e2⟩ := HAD.out (by omega)
      subst e1
      have hbw : b < w.heap.size := World.block_lt_of_cell? w ⟨b, o + i * 6, none⟩ g1
      have c0 := (hbl.cell (p := ⟨b, o + i * 6, none⟩) hbw).trans g1
      have c1 := (hbl.cell (p := ⟨b, o + i * 6 + 1, none⟩) hbw).trans g2
      have c2 := (hbl.cell (p := ⟨b, o + i * 6 + 2, none⟩) hbw).trans g3
      have c3 := (hbl.cell (p := ⟨b, o + i * 6 + 3, none⟩) hbw).trans g4
      have c4 := (hbl.cell (p := ⟨b, o + i * 6 + 4, none⟩) hbw).trans g5
      have c5 := (hbl.cell (p := ⟨b, o + i * 6 + 5, none⟩) hbw).trans g6
      have HCA : Hid (∀ W, (∀ j, j < wr.heap.size → W.heap[j]? = wr.heap[j]?) → Calls Tryd.prog 33 #[va] W (CEP W a)) := fun W hW => copies_any (ecnt a) a ok _ W (Nat.le_refl _) (by omega) (pa.keep fun k _ hk => (hW k (by omega)).trans (hbl.block k hk))
      have HCB : Hid (∀ W, (∀ j, j < wr.heap.size → W.heap[j]? = wr.heap[j]?) → Calls Tryd.prog 21 #[vb] W (CSP W (slft x))) := fun W hW => HIH.out (scnt (slft x)) (by omega) _ ok _ W (Nat.le_refl _) (by omega) (pb.keep fun k _ hk => (hW k (by omega)).trans (hbl.block k hk))
      have HCE : Hid (∀ W, (∀ j, j < wr.heap.size → W.heap[j]? = wr.heap[j]?) → Calls Tryd.prog 21 #[ve] W (CSP W (srgt x))) := fun W hW => HIH.out (scnt (srgt x)) (by omega) _ ok _ W (Nat.le_refl _) (by omega) (pe.keep fun k _ hk => (hW k (by omega)).trans (hbl.block k hk))
      obtain ⟨a1, a2, a3, rfl⟩ := pa.sl
      obtain ⟨b1, b2, b3, rfl⟩ := pb.sl
      obtain ⟨c1', c2', c3', rfl⟩ := pe.sl
      have HRA : Hid (SAt w ok r b (o + (i + 1) * 6)) := by rw [show o + (i + 1) * 6 = o + i * 6 + 6 by omega]; exact hr
      have HO1 : Hid (SOwn wr w.heap.size (.slice u31 u32 u33) ys) := hown
      have HT1 : Hid (∀ y ∈ ys, TM2 wr (fun j => w.heap.size ≤ j ∧ some j ≠ (Value.slice u31 u32 u33).ownBlock) y) := htm
      have HNM : Hid (i + (slen r + 1) = slen l ∧ ecnt a + scnt (slft x) + scnt (srgt x) + scnt r + 1 ≤ scnt l ∧ ys.length = i ∧ scnt l ≤ 1000000) := ⟨hi, hcr, hyl, by omega⟩
      have HYS : Hid (ys.map (·.x) ++ (⟨k, s, c, a, slft x, srgt x⟩ :: toPT r) = toPT l) := hys
      have hil : (i : Int) < (slen l : Int) := by omega
      have HPH : Hid (Ph k s c w wr (wr.alloc (.cells #[.int .i64 k, .string s, .int .i64 c, .slice a1 a2 a3, .slice b1 b2 b3, .slice c1' c2' c3'] 39)) (.slice a1 a2 a3) (.slice b1 b2 b3) (.slice c1' c2' c3')) := Ph.new hbl
      clear hr hbl hown htm hys hyl g1 g2 g3 g4 g5 g6 pa pb pe hat hcr
      go_upto_region 6 with fail
      generalize wr.alloc (.cells #[.int .i64 k, .string s, .int .i64 c, .slice a1 a2 a3, .slice b1 b2 b3, .slice c1' c2' c3'] 39) = W1 at HPH ⊢
      clear c0 c1 c2 c3 c4 c5
      obtain ⟨q3, q4, q5, f3, f4, f5⟩ := HPH.out.cells
      go_wp2_with fail
      refine (HCA.out _ HPH.out.old).mono ?_
      rintro e w2 ⟨p1, p2, p3, rfl, hcv, hb2⟩
      have HPA : Hid (Ph k s c w wr (w2.setCell ⟨wr.heap.size, 3, none⟩ (.slice p1 p2 p3)) (.slice p1 p2 p3) (.slice b1 b2 b3) (.slice c1' c2' c3')) := (HPH.out.call hb2).set3 _
      have HNA : Hid (NwE (w2.setCell ⟨wr.heap.size, 3, none⟩ (.slice p1 p2 p3)) wr.heap.size (.slice p1 p2 p3) a) := (hcv.nw HPH.out.lt).set 3 _
      clear q3 q4 q5 f3 f4 f5
      obtain ⟨q3, q4, q5, f3, f4, f5⟩ := (HPH.out.call hb2).cells
      clear hcv hb2 HPH
      go_upto_region 7 with fail
      generalize w2.setCell ⟨wr.heap.size, 3, none⟩ (.slice p1 p2 p3) = WA at HPA HNA  ⊢
      clear q3 q4 q5 f3 f4 f5
      obtain ⟨q3, q4, q5, f3, f4, f5⟩ := HPA.out.cells
      go_wp2_with fail
      refine (HCB.out _ HPA.out.old).mono ?_
      rintro e w2 ⟨p4, p5, p6, rfl, hcv, hb2⟩
      have HPB : Hid (Ph k s c w wr (w2.setCell ⟨wr.heap.size, 4, none⟩ (.slice p4 p5 p6)) (.slice p1 p2 p3) (.slice p4 p5 p6) (.slice c1' c2' c3')) := (HPA.out.call hb2).set4 _
      have HNB : Hid (NwS (w2.setCell ⟨wr.heap.size, 4, none⟩ (.slice p4 p5 p6)) wr.heap.size (.slice p4 p5 p6) (slft x)) := (hcv.nw HPA.out.lt).set 4 _
      replace HNA : Hid (NwE (w2.setCell ⟨wr.heap.size, 4, none⟩ (.slice p4 p5 p6)) wr.heap.size (.slice p1 p2 p3) a) := (HNA.out.call hb2).set 4 _
      clear q3 q4 q5 f3 f4 f5
      obtain ⟨q3, q4, q5, f3, f4, f5⟩ := (HPA.out.call hb2).cells
      clear hcv hb2 HPA
      go_upto_region 8 with fail
      generalize w2.setCell ⟨wr.heap.size, 4, none⟩ (.slice p4 p5 p6) = WB at HPB HNB HNA ⊢
      clear q3 q4 q5 f3 f4 f5
      obtain ⟨q3, q4, q5, f3, f4, f5⟩ := HPB.out.cells
      go_wp2_with fail
      refine (HCE.out _ HPB.out.old).mono ?_
      rintro e w2 ⟨p7, p8, p9, rfl, hcv, hb2⟩
      have HPE : Hid (Ph k s c w wr (w2.setCell ⟨wr.heap.size, 5, none⟩ (.slice p7 p8 p9)) (.slice p1 p2 p3) (.slice p4 p5 p6) (.slice p7 p8 p9)) := (HPB.out.call hb2).set5 _
      have HNE : Hid (NwS (w2.setCell ⟨wr.heap.size, 5, none⟩ (.slice p7 p8 p9)) wr.heap.size (.slice p7 p8 p9) (srgt x)) := (hcv.nw HPB.out.lt).set 5 _
      replace HNA : Hid (NwE (w2.setCell ⟨wr.heap.size, 5, none⟩ (.slice p7 p8 p9)) wr.heap.size (.slice p1 p2 p3) a) := (HNA.out.call hb2).set 5 _
      replace HNB : Hid (NwS (w2.setCell ⟨wr.heap.size, 5, none⟩ (.slice p7 p8 p9)) wr.heap.size (.slice p4 p5 p6) (slft x)) := (HNB.out.call hb2).set 5 _
      clear q3 q4 q5 f3 f4 f5
      obtain ⟨q3, q4, q5, f3, f4, f5⟩ := (HPB.out.call hb2).cells
      clear hcv hb2 HPB
      go_upto_region 9 with fail
      generalize w2.setCell ⟨wr.heap.size, 5, none⟩ (.slice p7 p8 p9) = w3 at HPE HNE HNA HNB ⊢
      clear q3 q4 q5 f3 f4 f5
      have HCP : Hid (Cpd k s c w wr a (slft x) (srgt x) w3) := ⟨_, _, _, HPE.out, HNA.out, HNB.out, HNE.out⟩
      clear HPE HNA HNB HNE
      obtain ⟨A, B, E, hph, hA, hB, hE⟩ := HCP.out
      obtain ⟨x1, x2, x3, rfl⟩ := hA.sl
      obtain ⟨y1, y2, y3, rfl⟩ := hB.sl
      obtain ⟨z1, z2, z3, rfl⟩ := hE.sl
      obtain ⟨d0, d1, d2, d3, d4, d5⟩ := c6 hph.blk
      have hlt3 := hph.lt
      have HO3 : Hid (w3.ownsRow w.heap.size 39 6 (.slice u31 u32 u33) ys.length (scs ys)) := HO1.out.keep fun j _ hj => hph.old j hj
      have HT3 : Hid (∀ y ∈ ys, TM2 w3 (fun j => w.heap.size ≤ j ∧ some j ≠ (Value.slice u31 u32 u33).ownBlock) y) := fun y hy => (HT1.out y hy).keep' fun j h1 hj => ⟨hph.old j hj, h1⟩
      have HOL : Hid (∀ k, (Value.slice u31 u32 u33).ownBlock = some k → w.heap.size ≤ k ∧ k < wr.heap.size) := World.ownsRow.lt HO1.out
      have HL3 : Hid (Below w.heap.size w w3 ∧ w.heap.size ≤ w3.heap.size) := ⟨hph.bel, by have := hph.bel.size; omega⟩
      have HY3 : Hid (TM2 w3 (fun j => w.heap.size ≤ j ∧ some j ≠ (Value.slice u31 u32 u33).ownBlock) ⟨⟨k, s, c, a, slft x, srgt x⟩, .slice x1 x2 x3, .slice y1 y2 y3, .slice z1 z2 z3⟩) := by
        have hq : ∀ j, wr.heap.size < j → (w.heap.size ≤ j ∧ some j ≠ (Value.slice u31 u32 u33).ownBlock) := fun j hj => ⟨by have := hph.le; omega, fun e => by have := HOL.out j e.symm; omega⟩
        exact ⟨⟨hA.1.mono hq, hB.1.mono hq, hE.1.mono hq⟩, hA.2.keep' fun j h _ => ⟨rfl, hq j h⟩, hB.2.keep' fun j h _ => ⟨rfl, hq j h⟩, hE.2.keep' fun j h _ => ⟨rfl, hq j h⟩⟩
      clear hph hA hB hE HCP HCA HCB HCE
      go_wp2_with (at_builtin; refine wpList_append_own_at _ rfl _ _ 27 rfl w.heap.size 39 i0 (.agg #[.int .i64 0, .string ⟨#[]⟩, .int .i64 0, .slice none 0 0, .slice none 0 0, .slice none 0 0]) 6 104 Tryd.underlying27 hi0 hz0 hz1 hz2 rfl (by decide) _ _ _ rfl (World.ownsRow.alloc HO3.out _) ⟨w3.heap.size, 0, none⟩ 1 1 (scs [⟨⟨k, s, c, a, slft x, srgt x⟩, .slice x1 x2 x3, .slice y1 y2 y3, .slice z1 z2 z3⟩]) rfl rfl ?c1 ?c2 ?c3 ?c4 ?c5 ?_)
      case c1 =>
        intro j u hj
        match j, hj with
        | 0, hj => simp [scs, sc] at hj; subst hj; simp [Addr.add]
        | 1, hj => simp [scs, sc] at hj; subst hj; simp [Addr.add]
        | 2, hj => simp [scs, sc] at hj; subst hj; simp [Addr.add]
        | 3, hj => simp [scs, sc] at hj; subst hj; simp [Addr.add]
        | 4, hj => simp [scs, sc] at hj; subst hj; simp [Addr.add]
        | 5, hj => simp [scs, sc] at hj; subst hj; simp [Addr.add]
      case c2 => exact sc_one _ ⟨_, _, _, rfl⟩ ⟨_, _, _, rfl⟩ ⟨_, _, _, rfl⟩
      case c3 => have := HNM.out; unfold maxLen; omega
      case c4 => have := HNM.out; omega
      case c5 => have := HL3.out.2; simp; omega
      intro v' w4 hown' hgrow _ hloc
      have hsz4 := hgrow.size
      simp at hsz4
      have hbl : ∀ j, j < w3.heap.size → some j ≠ (Value.slice u31 u32 u33).ownBlock → w4.heap[j]? = w3.heap[j]? := fun j h1 h2 => (hgrow.block j (by simp; omega) h2).trans (heap_alloc_old _ _ h1)
      have hown2 : SOwn w4 w.heap.size v' (ys ++ [⟨⟨k, s, c, a, slft x, srgt x⟩, .slice x1 x2 x3, .slice y1 y2 y3, .slice z1 z2 z3⟩]) := by
        show w4.ownsRow _ _ _ _ _ _
        rw [List.length_append, scs_app]
        exact hown'
      have hok : ∀ j, (w.heap.size ≤ j ∧ some j ≠ (Value.slice u31 u32 u33).ownBlock) → j < w3.heap.size → (w.heap.size ≤ j ∧ some j ≠ v'.ownBlock) := by
        intro j h1 h2
        refine ⟨h1.1, fun e => ?_⟩
        rcases hloc with h3 | h3
        · rw [h3] at e; exact h1.2 e
        · rw [h3] at e; cases e; omega
      have htm : ∀ y ∈ ys ++ [(⟨⟨k, s, c, a, slft x, srgt x⟩, .slice x1 x2 x3, .slice y1 y2 y3, .slice z1 z2 z3⟩ : RT)], TM2 w4 (fun j => w.heap.size ≤ j ∧ some j ≠ v'.ownBlock) y := by
        intro y hy
        have h0 : TM2 w3 (fun j => w.heap.size ≤ j ∧ some j ≠ (Value.slice u31 u32 u33).ownBlock) y := by
          rcases List.mem_append.1 hy with h | h
          · exact HT3.out y h
          · simp at h; subst h; exact HY3.out
        exact h0.keep' fun j h1 h2 => ⟨hbl j h2 h1.2, hok j h1 h2⟩
      have hbelow : Below w.heap.size w w4 := ⟨hgrow.os.trans HL3.out.1.os, hgrow.tape.trans HL3.out.1.tape, hgrow.output.trans HL3.out.1.output, by have := HL3.out.1.size; omega, fun j hj => (hbl j (by have := HL3.out.1.size; omega) (fun e => by have := HOL.out j e.symm; omega)).trans (HL3.out.1.block j hj)⟩
      have HXN : Hid (CY w l ok b o v' (.int .i64 ((i : Int) + 1)) w4) := by
        refine ⟨r, i + 1, ys ++ [⟨⟨k, s, c, a, slft x, srgt x⟩, .slice x1 x2 x3, .slice y1 y2 y3, .slice z1 z2 z3⟩], by simp, by have := HNM.out; omega, ?_, by have := HNM.out; simp; omega, by have := HNM.out; omega, hown2, htm, HRA.out, hbelow⟩
        rw [List.map_append, List.append_assoc]
        exact HYS.out
      clear hown' hgrow hloc hsz4 hbl hown2 hok htm hbelow HO3 HT3 HY3 HOL d0 d1 d2 d3 d4 d5
      go_wp2
      go_roundw
      case rel => exact HXN
      case measure => simp [intOf]; omega
end Go.Proofs.YtnofibjchhcmeabDoor
namespace Go.Proofs.YtnofibjchhcmeabDoor
open Go.RowKit Go.Maps
set_option linter.unusedVariables false
set_option linter.unusedSimpArgs false

set_option maxRecDepth 100000 in
set_option maxHeartbeats 16000000 in
theorem copy_any : ∀ (N : Nat) (l : SL) (ok : Nat → Prop) (v : Value) (w : World), scnt l ≤ N → N ≤ 1000000 → SSlP w ok v l → Calls Tryd.prog 20 #[v] w (CSP w l) := by
  intro N
  induction N using Nat.strongRecOn with
  | _ N ih =>
  intro l ok v w hc hN hes
  obtain ⟨ad, cap, b, o, rfl, h2, h3, h4, h5⟩ := hes
  obtain ⟨P, hP⟩ : ∃ P, CSP w l = P := ⟨_, rfl⟩
  have HP : Hid (CSP w l = P) := hP
  rw [hP]
  have hll := slen_le l
  have HIH : Hid (∀ M, M < N → ∀ (l : SL) (ok : Nat → Prop) (v : Value) (w : World), scnt l ≤ M → M ≤ 1000000 → SSlP w ok v l → Calls Tryd.prog 20 #[v] w (CSP w l)) := ih
  have E0 : Hid (CY w l ok b o (.slice none 0 0) (.int .i64 0) w) := ⟨l, 0, [], rfl, by omega, rfl, rfl, Nat.le_refl _, SOwn.nil _ _, (by intro y hy; cases hy), by simpa using h5, Below.refl _ _⟩
  have HAD : Hid (0 < slen l → ad = some ⟨b, o, none⟩ ∧ ok b) := h4
  obtain ⟨i0, hi0, hz0, hz1, hz2⟩ := info_parts info39
  unfold maxLen at h3
  clear ih hP h4 h5
  go_enter Tryd.func20, Tryd.ntmps20
  go_wp2
  go_loopw [3, 8] (fun u3 u8 wr => Hid (CY w l ok b o u3 u8 wr)) (fun _ u8 _ => slen l - (intOf u8).toNat)
  case atStart => exact E0
  case round =>
    clear E0
    obtain ⟨r, i, ys, rfl, hi, hys, hyl, hcr, hown, htm, hat, hbl⟩ := hrel.out
    clear hrel
    have HBL : Hid (Below w.heap.size w wr) := hbl
    have hsz := hbl.size
    obtain ⟨u31, u32, u33, rfl⟩ := hown.sl
    cases r with
    | leaf =>
      have hi' : i = slen l := by simpa [slen] using hi
      have HF : Hid (P (.returned (.slice u31 u32 u33)) wr) := by show P _ _; rw [← HP.out]; exact ⟨_, _, _, rfl, ⟨ys, by simpa [toPT] using hys, hown, htm⟩, HBL.out⟩
      have hil : ¬ ((i : Int) < (slen l : Int)) := by omega
      clear hbl hat hi hown htm hi'
      go_wp2
      first | exact HF.out | (go_ret; exact HF.out)
    | inner j d q x r =>
      obtain ⟨k, s, c, a⟩ := d
      obtain ⟨g1, g2, g3, va, vb, ve, g4, g5, g6, pa, pb, pe, hr⟩ := hat.parts
      rw [scnt_inner] at hcr
      simp only [slen] at hi
      obtain ⟨e1, e2⟩ := HAD.out (by omega)
      subst e1
      have hbw : b < w.heap.size := World.block_lt_of_cell? w ⟨b, o + i * 6, none⟩ g1
      have c0 := (hbl.cell (p := ⟨b, o + i * 6, none⟩) hbw).trans g1
      have c1 := (hbl.cell (p := ⟨b, o + i * 6 + 1, none⟩) hbw).trans g2
      have c2 := (hbl.cell (p := ⟨b, o + i * 6 + 2, none⟩) hbw).trans g3
      have c3 := (hbl.cell (p := ⟨b, o + i * 6 + 3, none⟩) hbw).trans g4
      have c4 := (hbl.cell (p := ⟨b, o + i * 6 + 4, none⟩) hbw).trans g5
      have c5 := (hbl.cell (p := ⟨b, o + i * 6 + 5, none⟩) hbw).trans g6
      have HCA : Hid (∀ W, (∀ j, j < wr.heap.size → W.heap[j]? = wr.heap[j]?) → Calls Tryd.prog 32 #[va] W (CEP W a)) := fun W hW => copyExprs_any (ecnt a) a ok _ W (Nat.le_refl _) (by omega) (pa.keep fun k _ hk => (hW k (by omega)).trans (hbl.block k hk))
      have HCB : Hid (∀ W, (∀ j, j < wr.heap.size → W.heap[j]? = wr.heap[j]?) → Calls Tryd.prog 20 #[vb] W (CSP W (slft x))) := fun W hW => HIH.out (scnt (slft x)) (by omega) _ ok _ W (Nat.le_refl _) (by omega) (pb.keep fun k _ hk => (hW k (by omega)).trans (hbl.block k hk))
      have HCE : Hid (∀ W, (∀ j, j < wr.heap.size → W.heap[j]? = wr.heap[j]?) → Calls Tryd.prog 20 #[ve] W (CSP W (srgt x))) := fun W hW => HIH.out (scnt (srgt x)) (by omega) _ ok _ W (Nat.le_refl _) (by omega) (pe.keep fun k _ hk => (hW k (by omega)).trans (hbl.block k hk))
      obtain ⟨a1, a2, a3, rfl⟩ := pa.sl
      obtain ⟨b1, b2, b3, rfl⟩ := pb.sl
      obtain ⟨c1', c2', c3', rfl⟩ := pe.sl
      have HRA : Hid (SAt w ok r b (o + (i + 1) * 6)) := by rw [show o + (i + 1) * 6 = o + i * 6 + 6 by omega]; exact hr
      have HO1 : Hid (SOwn wr w.heap.size (.slice u31 u32 u33) ys) := hown
      have HT1 : Hid (∀ y ∈ ys, TM2 wr (fun j => w.heap.size ≤ j ∧ some j ≠ (Value.slice u31 u32 u33).ownBlock) y) := htm
      have HNM : Hid (i + (slen r + 1) = slen l ∧ ecnt a + scnt (slft x) + scnt (srgt x) + scnt r + 1 ≤ scnt l ∧ ys.length = i ∧ scnt l ≤ 1000000) := ⟨hi, hcr, hyl, by omega⟩
      have HYS : Hid (ys.map (·.x) ++ (⟨k, s, c, a, slft x, srgt x⟩ :: toPT r) = toPT l) := hys
      have hil : (i : Int) < (slen l : Int) := by omega
      have HPH : Hid (Ph k s c w wr (wr.alloc (.cells #[.int .i64 k, .string s, .int .i64 c, .slice a1 a2 a3, .slice b1 b2 b3, .slice c1' c2' c3'] 39)) (.slice a1 a2 a3) (.slice b1 b2 b3) (.slice c1' c2' c3')) := Ph.new hbl
      clear hr hbl hown htm hys hyl g1 g2 g3 g4 g5 g6 pa pb pe hat hcr
      go_upto_region 5 with fail
      generalize wr.alloc (.cells #[.int .i64 k, .string s, .int .i64 c, .slice a1 a2 a3, .slice b1 b2 b3, .slice c1' c2' c3'] 39) = W1 at HPH ⊢
      clear c0 c1 c2 c3 c4 c5
      have HPD : Hid (Ph k s c w wr W1.drew (.slice a1 a2 a3) (.slice b1 b2 b3) (.slice c1' c2' c3')) := HPH.out.drew
      have hcd : W1.drew.cell? ⟨wr.heap.size, 3, none⟩ = some (.slice a1 a2 a3) ∧ W1.drew.cell? ⟨wr.heap.size, 4, none⟩ = some (.slice b1 b2 b3) ∧ W1.drew.cell? ⟨wr.heap.size, 5, none⟩ = some (.slice c1' c2' c3') ∧ W1.drew.frozen? ⟨wr.heap.size, 3, none⟩ = false ∧ W1.drew.frozen? ⟨wr.heap.size, 4, none⟩ = false ∧ W1.drew.frozen? ⟨wr.heap.size, 5, none⟩ = false := HPD.out.cells
      have HA' : Hid (∀ W, Hid (Ph k s c w wr W (.slice a1 a2 a3) (.slice b1 b2 b3) (.slice c1' c2' c3')) → Calls Tryd.prog 32 #[(.slice a1 a2 a3)] W fun e w' => ∃ p1 p2 p3, e = .returned (.slice p1 p2 p3) ∧ (w'.cell? ⟨wr.heap.size, 3, none⟩ = some (.slice a1 a2 a3) ∧ w'.cell? ⟨wr.heap.size, 4, none⟩ = some (.slice b1 b2 b3) ∧ w'.cell? ⟨wr.heap.size, 5, none⟩ = some (.slice c1' c2' c3') ∧ w'.frozen? ⟨wr.heap.size, 3, none⟩ = false ∧ w'.frozen? ⟨wr.heap.size, 4, none⟩ = false ∧ w'.frozen? ⟨wr.heap.size, 5, none⟩ = false) ∧ (Ph k s c w wr w' (.slice a1 a2 a3) (.slice b1 b2 b3) (.slice c1' c2' c3') ∧ NwE w' wr.heap.size (.slice p1 p2 p3) a)) := fun W hW => (HCA.out W hW.out.old).mono fun e w' ⟨p1, p2, p3, he, hcv, hb⟩ => ⟨p1, p2, p3, he, (hW.out.call hb).cells, hW.out.call hb, hcv.nw hW.out.lt⟩
      have HB' : Hid (∀ W p1 p2 p3, Hid (Ph k s c w wr W (.slice a1 a2 a3) (.slice b1 b2 b3) (.slice c1' c2' c3') ∧ NwE W wr.heap.size (.slice p1 p2 p3) a) → Calls Tryd.prog 20 #[(.slice b1 b2 b3)] W fun e w' => ∃ p4 p5 p6, e = .returned (.slice p4 p5 p6) ∧ (w'.cell? ⟨wr.heap.size, 3, none⟩ = some (.slice a1 a2 a3) ∧ w'.cell? ⟨wr.heap.size, 4, none⟩ = some (.slice b1 b2 b3) ∧ w'.cell? ⟨wr.heap.size, 5, none⟩ = some (.slice c1' c2' c3') ∧ w'.frozen? ⟨wr.heap.size, 3, none⟩ = false ∧ w'.frozen? ⟨wr.heap.size, 4, none⟩ = false ∧ w'.frozen? ⟨wr.heap.size, 5, none⟩ = false) ∧ (Ph k s c w wr w' (.slice a1 a2 a3) (.slice b1 b2 b3) (.slice c1' c2' c3') ∧ NwE w' wr.heap.size (.slice p1 p2 p3) a ∧ NwS w' wr.heap.size (.slice p4 p5 p6) (slft x))) := fun W p1 p2 p3 hW => (HCB.out W hW.out.1.old).mono fun e w' ⟨p4, p5, p6, he, hcv, hb⟩ => ⟨p4, p5, p6, he, (hW.out.1.call hb).cells, hW.out.1.call hb, hW.out.2.call hb, hcv.nw hW.out.1.lt⟩
      have HE' : Hid (∀ W p1 p2 p3 p4 p5 p6, Hid (Ph k s c w wr W (.slice a1 a2 a3) (.slice b1 b2 b3) (.slice c1' c2' c3') ∧ NwE W wr.heap.size (.slice p1 p2 p3) a ∧ NwS W wr.heap.size (.slice p4 p5 p6) (slft x)) → Calls Tryd.prog 20 #[(.slice c1' c2' c3')] W fun e w' => ∃ p7 p8 p9, e = .returned (.slice p7 p8 p9) ∧ (w'.cell? ⟨wr.heap.size, 3, none⟩ = some (.slice a1 a2 a3) ∧ w'.cell? ⟨wr.heap.size, 4, none⟩ = some (.slice b1 b2 b3) ∧ w'.cell? ⟨wr.heap.size, 5, none⟩ = some (.slice c1' c2' c3') ∧ w'.frozen? ⟨wr.heap.size, 3, none⟩ = false ∧ w'.frozen? ⟨wr.heap.size, 4, none⟩ = false ∧ w'.frozen? ⟨wr.heap.size, 5, none⟩ = false) ∧ (Ph k s c w wr w' (.slice a1 a2 a3) (.slice b1 b2 b3) (.slice c1' c2' c3') ∧ NwE w' wr.heap.size (.slice p1 p2 p3) a ∧ NwS w' wr.heap.size (.slice p4 p5 p6) (slft x) ∧ NwS w' wr.heap.size (.slice p7 p8 p9) (srgt x))) := fun W p1 p2 p3 p4 p5 p6 hW => (HCE.out W hW.out.1.old).mono fun e w' ⟨p7, p8, p9, he, hcv, hb⟩ => ⟨p7, p8, p9, he, (hW.out.1.call hb).cells, hW.out.1.call hb, hW.out.2.1.call hb, hW.out.2.2.call hb, hcv.nw hW.out.1.lt⟩
      have HFIN : Hid (∀ W p1 p2 p3 p4 p5 p6 p7 p8 p9, Hid (Ph k s c w wr W (.slice a1 a2 a3) (.slice b1 b2 b3) (.slice c1' c2' c3') ∧ NwE W wr.heap.size (.slice p1 p2 p3) a ∧ NwS W wr.heap.size (.slice p4 p5 p6) (slft x) ∧ NwS W wr.heap.size (.slice p7 p8 p9) (srgt x)) → Cpd k s c w wr a (slft x) (srgt x) (((W.setCell ⟨wr.heap.size, 3, none⟩ (.slice p1 p2 p3)).setCell ⟨wr.heap.size, 4, none⟩ (.slice p4 p5 p6)).setCell ⟨wr.heap.size, 5, none⟩ (.slice p7 p8 p9))) := fun W p1 p2 p3 p4 p5 p6 p7 p8 p9 hW => ⟨_, _, _, ((hW.out.1.set3 _).set4 _).set5 _, ((hW.out.2.1.set 3 _).set 4 _).set 5 _, ((hW.out.2.2.1.set 3 _).set 4 _).set 5 _, ((hW.out.2.2.2.set 3 _).set 4 _).set 5 _⟩
      obtain ⟨q3, q4, q5, f3, f4, f5⟩ := hcd
      go_cut [8] from 9 to 28 (fun u8 wx => u8 = .int .i64 (i : Int) ∧ Hid (Cpd k s c w wr a (slft x) (srgt x) wx))
      case first =>
        clear HO1 HT1 HNM HYS HRA HIH HCA HCB HCE HPH HAD HP HBL hil hsz hll hbw hN hc h2 h3 e2
        generalize wr.heap.size = n1 at *
        go_region_with (first
          | (go_at_call 32; refine (HA'.out _ HPD).mono ?_; rintro e wA ⟨p1, p2, p3, rfl, ⟨q3a, q4a, q5a, f3a, f4a, f5a⟩, hAA⟩; have HAA : Hid _ := hAA; clear hAA)
          | (go_at_call_of 20 (Value.slice b1 b2 b3); refine (HB'.out _ _ _ _ HAA).mono ?_; rintro e wB ⟨p4, p5, p6, rfl, ⟨q3b, q4b, q5b, f3b, f4b, f5b⟩, hBB⟩; have HBB : Hid _ := hBB; clear hBB)
          | (go_at_call_of 20 (Value.slice c1' c2' c3'); refine (HE'.out _ _ _ _ _ _ _ HBB).mono ?_; rintro e wE ⟨p7, p8, p9, rfl, ⟨q3e, q4e, q5e, f3e, f4e, f5e⟩, hEE⟩; have HEE : Hid _ := hEE; clear hEE))
        all_goals (go_wp2_with fail; go_meet; exact ⟨rfl, HFIN.out _ _ _ _ _ _ _ _ _ _ HEE⟩)
      case rest =>
      obtain ⟨rfl, hcp⟩ := hcut
      have HCP : Hid (Cpd k s c w wr a (slft x) (srgt x) wc) := hcp
      clear hcp HPH HPD HA' HB' HE' HFIN q3 q4 q5 f3 f4 f5
      generalize wc = w3 at HCP ⊢
      obtain ⟨A, B, E, hph, hA, hB, hE⟩ := HCP.out
      obtain ⟨x1, x2, x3, rfl⟩ := hA.sl
      obtain ⟨y1, y2, y3, rfl⟩ := hB.sl
      obtain ⟨z1, z2, z3, rfl⟩ := hE.sl
      obtain ⟨d0, d1, d2, d3, d4, d5⟩ := c6 hph.blk
      have hlt3 := hph.lt
      have HO3 : Hid (w3.ownsRow w.heap.size 39 6 (.slice u31 u32 u33) ys.length (scs ys)) := HO1.out.keep fun j _ hj => hph.old j hj
      have HT3 : Hid (∀ y ∈ ys, TM2 w3 (fun j => w.heap.size ≤ j ∧ some j ≠ (Value.slice u31 u32 u33).ownBlock) y) := fun y hy => (HT1.out y hy).keep' fun j h1 hj => ⟨hph.old j hj, h1⟩
      have HOL : Hid (∀ k, (Value.slice u31 u32 u33).ownBlock = some k → w.heap.size ≤ k ∧ k < wr.heap.size) := World.ownsRow.lt HO1.out
      have HL3 : Hid (Below w.heap.size w w3 ∧ w.heap.size ≤ w3.heap.size) := ⟨hph.bel, by have := hph.bel.size; omega⟩
      have HY3 : Hid (TM2 w3 (fun j => w.heap.size ≤ j ∧ some j ≠ (Value.slice u31 u32 u33).ownBlock) ⟨⟨k, s, c, a, slft x, srgt x⟩, .slice x1 x2 x3, .slice y1 y2 y3, .slice z1 z2 z3⟩) := by
        have hq : ∀ j, wr.heap.size < j → (w.heap.size ≤ j ∧ some j ≠ (Value.slice u31 u32 u33).ownBlock) := fun j hj => ⟨by have := hph.le; omega, fun e => by have := HOL.out j e.symm; omega⟩
        exact ⟨⟨hA.1.mono hq, hB.1.mono hq, hE.1.mono hq⟩, hA.2.keep' fun j h _ => ⟨rfl, hq j h⟩, hB.2.keep' fun j h _ => ⟨rfl, hq j h⟩, hE.2.keep' fun j h _ => ⟨rfl, hq j h⟩⟩
      clear hph hA hB hE HCP HCA HCB HCE
      go_wp2_with (at_builtin; refine wpList_append_own_at _ rfl _ _ 27 rfl w.heap.size 39 i0 (.agg #[.int .i64 0, .string ⟨#[]⟩, .int .i64 0, .slice none 0 0, .slice none 0 0, .slice none 0 0]) 6 104 Tryd.underlying27 hi0 hz0 hz1 hz2 rfl (by decide) _ _ _ rfl (World.ownsRow.alloc HO3.out _) ⟨w3.heap.size, 0, none⟩ 1 1 (scs [⟨⟨k, s, c, a, slft x, srgt x⟩, .slice x1 x2 x3, .slice y1 y2 y3, .slice z1 z2 z3⟩]) rfl rfl ?c1 ?c2 ?c3 ?c4 ?c5 ?_)
      case c1 =>
        intro j u hj
        match j, hj with
        | 0, hj => simp [scs, sc] at hj; subst hj; simp [Addr.add]
        | 1, hj => simp [scs, sc] at hj; subst hj; simp [Addr.add]
        | 2, hj => simp [scs, sc] at hj; subst hj; simp [Addr.add]
        | 3, hj => simp [scs, sc] at hj; subst hj; simp [Addr.add]
        | 4, hj => simp [scs, sc] at hj; subst hj; simp [Addr.add]
        | 5, hj => simp [scs, sc] at hj; subst hj; simp [Addr.add]
      case c2 => exact sc_one _ ⟨_, _, _, rfl⟩ ⟨_, _, _, rfl⟩ ⟨_, _, _, rfl⟩
      case c3 => have := HNM.out; unfold maxLen; omega
      case c4 => have := HNM.out; omega
      case c5 => have := HL3.out.2; simp; omega
      intro v' w4 hown' hgrow _ hloc
      have hsz4 := hgrow.size
      simp at hsz4
      have hbl : ∀ j, j < w3.heap.size → some j ≠ (Value.slice u31 u32 u33).ownBlock → w4.heap[j]? = w3.heap[j]? := fun j h1 h2 => (hgrow.block j (by simp; omega) h2).trans (heap_alloc_old _ _ h1)
      have hown2 : SOwn w4 w.heap.size v' (ys ++ [⟨⟨k, s, c, a, slft x, srgt x⟩, .slice x1 x2 x3, .slice y1 y2 y3, .slice z1 z2 z3⟩]) := by
        show w4.ownsRow _ _ _ _ _ _
        rw [List.length_append, scs_app]
        exact hown'
      have hok : ∀ j, (w.heap.size ≤ j ∧ some j ≠ (Value.slice u31 u32 u33).ownBlock) → j < w3.heap.size → (w.heap.size ≤ j ∧ some j ≠ v'.ownBlock) := by
        intro j h1 h2
        refine ⟨h1.1, fun e => ?_⟩
        rcases hloc with h3 | h3
        · rw [h3] at e; exact h1.2 e
        · rw [h3] at e; cases e; omega
      have htm : ∀ y ∈ ys ++ [(⟨⟨k, s, c, a, slft x, srgt x⟩, .slice x1 x2 x3, .slice y1 y2 y3, .slice z1 z2 z3⟩ : RT)], TM2 w4 (fun j => w.heap.size ≤ j ∧ some j ≠ v'.ownBlock) y := by
        intro y hy
        have h0 : TM2 w3 (fun j => w.heap.size ≤ j ∧ some j ≠ (Value.slice u31 u32 u33).ownBlock) y := by
          rcases List.mem_append.1 hy with h | h
          · exact HT3.out y h
          · simp at h; subst h; exact HY3.out
        exact h0.keep' fun j h1 h2 => ⟨hbl j h2 h1.2, hok j h1 h2⟩
      have hbelow : Below w.heap.size w w4 := ⟨hgrow.os.trans HL3.out.1.os, hgrow.tape.trans HL3.out.1.tape, hgrow.output.trans HL3.out.1.output, by have := HL3.out.1.size; omega, fun j hj => (hbl j (by have := HL3.out.1.size; omega) (fun e => by have := HOL.out j e.symm; omega)).trans (HL3.out.1.block j hj)⟩
      have HXN : Hid (CY w l ok b o v' (.int .i64 ((i : Int) + 1)) w4) := by
        refine ⟨r, i + 1, ys ++ [⟨⟨k, s, c, a, slft x, srgt x⟩, .slice x1 x2 x3, .slice y1 y2 y3, .slice z1 z2 z3⟩], by simp, by have := HNM.out; omega, ?_, by have := HNM.out; simp; omega, by have := HNM.out; omega, hown2, htm, HRA.out, hbelow⟩
        rw [List.map_append, List.append_assoc]
        exact HYS.out
      clear hown' hgrow hloc hsz4 hbl hown2 hok htm hbelow HO3 HT3 HY3 HOL d0 d1 d2 d3 d4 d5
      go_wp2
      go_roundw
      case rel => exact HXN
      case measure => simp [intOf]; omega
end Go.Proofs.YtnofibjchhcmeabDoor
