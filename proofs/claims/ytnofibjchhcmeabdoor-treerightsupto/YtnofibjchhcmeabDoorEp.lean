/- The least and the greatest of two; signs of one number. -/
import Derived.Test.YtnofibjchhcmeabDoorEw
namespace Go.Proofs.YtnofibjchhcmeabDoor
open Go.RowKit Go.Maps
set_option linter.unusedVariables false

def pcl (x : RX) : List Value := [.int .i64 x.k, .int .i64 x.m, .string x.s, .int .i64 x.op, x.v, .int .i64 (x.d : Int)]
theorem PA.nil (w : World) : PA w (.slice none 0 0) (rxs []) := ⟨⟨none, 0, 0, rfl, Nat.le_refl _, by omega, fun h => absurd h (Nat.lt_irrefl 0), fun i hi => absurd hi (Nat.not_lt_zero i)⟩, (by intro x hx; cases hx), (by intro x hx; cases hx)⟩
theorem PA.one (W : World) (x : PE) (v : Value) (hv : Sl v) (hd : x.deep ≤ 48) (T : TypeId) : PA (W.alloc (.cells #[.int .i64 x.kind, .int .i64 x.num, .string x.name, .int .i64 x.op, v, .int .i64 (x.deep : Int)] T)) (.slice (some ⟨W.heap.size, 0, none⟩) 1 1) (rxs [(x, v)]) := by
  refine ⟨⟨_, 1, W.heap.size, rfl, Nat.le_refl _, by omega, fun _ => ⟨rfl, by simp⟩, fun i hi => ?_⟩, ?_, ?_⟩
  · have h0 : i = 0 := by simp [rxs] at hi; omega
    subst h0
    have hb := heap_alloc_new W (.cells #[.int .i64 x.kind, .int .i64 x.num, .string x.name, .int .i64 x.op, v, .int .i64 (x.deep : Int)] T)
    refine ⟨?_, ?_, ?_, ?_, ?_, ?_⟩
    · rw [cell_of_row _ _ _ _ _ _ hb]; rfl
    · rw [cell_of_row _ _ _ _ _ _ hb]; rfl
    · rw [cell_of_row _ _ _ _ _ _ hb]; rfl
    · rw [cell_of_row _ _ _ _ _ _ hb]; rfl
    · rw [cell_of_row _ _ _ _ _ _ hb]; rfl
    · rw [cell_of_row _ _ _ _ _ _ hb]; rfl
  · intro y hy; simp [rxs] at hy; subst hy; exact hv
  · intro y hy; simp [rxs] at hy; subst hy; show x.deep ≤ 1000; omega
theorem PA.two (W : World) (x y : PE) (v u : Value) (hv : Sl v) (hu : Sl u) (hd : x.deep ≤ 48) (hd' : y.deep ≤ 48) (T : TypeId) : PA (W.alloc (.cells #[.int .i64 x.kind, .int .i64 x.num, .string x.name, .int .i64 x.op, v, .int .i64 (x.deep : Int), .int .i64 y.kind, .int .i64 y.num, .string y.name, .int .i64 y.op, u, .int .i64 (y.deep : Int)] T)) (.slice (some ⟨W.heap.size, 0, none⟩) 2 2) (rxs [(x, v), (y, u)]) := by
  refine ⟨⟨_, 2, W.heap.size, rfl, Nat.le_refl _, by omega, fun _ => ⟨rfl, by simp⟩, fun i hi => ?_⟩, ?_, ?_⟩
  · have hb := heap_alloc_new W (.cells #[.int .i64 x.kind, .int .i64 x.num, .string x.name, .int .i64 x.op, v, .int .i64 (x.deep : Int), .int .i64 y.kind, .int .i64 y.num, .string y.name, .int .i64 y.op, u, .int .i64 (y.deep : Int)] T)
    match i, hi with
    | 0, _ =>
      refine ⟨?_, ?_, ?_, ?_, ?_, ?_⟩
      · rw [cell_of_row _ _ _ _ _ _ hb]; rfl
      · rw [cell_of_row _ _ _ _ _ _ hb]; rfl
      · rw [cell_of_row _ _ _ _ _ _ hb]; rfl
      · rw [cell_of_row _ _ _ _ _ _ hb]; rfl
      · rw [cell_of_row _ _ _ _ _ _ hb]; rfl
      · rw [cell_of_row _ _ _ _ _ _ hb]; rfl
    | 1, _ =>
      refine ⟨?_, ?_, ?_, ?_, ?_, ?_⟩
      · rw [cell_of_row _ _ _ _ _ _ hb]; rfl
      · rw [cell_of_row _ _ _ _ _ _ hb]; rfl
      · rw [cell_of_row _ _ _ _ _ _ hb]; rfl
      · rw [cell_of_row _ _ _ _ _ _ hb]; rfl
      · rw [cell_of_row _ _ _ _ _ _ hb]; rfl
      · rw [cell_of_row _ _ _ _ _ _ hb]; rfl
    | j + 2, h => simp [rxs] at h; omega
  · intro z hz; simp [rxs] at hz; rcases hz with rfl | rfl; exact hv; exact hu
  · intro z hz; simp [rxs] at hz
    rcases hz with rfl | rfl
    · show x.deep ≤ 1000; omega
    · show y.deep ≤ 1000; omega
/-- what a call hands back is stored where the result lies -/
theorem EPost.give {w W w' : World} {lo pb g c : Nat} {L : List Tok} {o b q m k : Nat} {x : PE} {e : Ending} (h : EPost W lo pb g c L o b (.ok (x, q, m)) e w') (hg : Gr w W pb) (hk : W.heap[k]? = some z98) (hw : w.heap.size ≤ k) (hl : k < lo) (hpb : pb < w.heap.size ∧ g < w.heap.size) :
    ∃ v1 v2 v3, e = .returned (rxv (rx x (.slice v1 v2 v3))) ∧ w'.heap[k]? = some z98 ∧ (set6 w' k (.int .i64 x.kind) (.int .i64 x.num) (.string x.name) (.int .i64 x.op) (.slice v1 v2 v3) (.int .i64 (x.deep : Int))).heap[k]? = some (pc (rx x (.slice v1 v2 v3))) ∧ EPost w w.heap.size pb g c L o b (.ok (x, q, m)) (.returned (rxv (rx x (.slice v1 v2 v3)))) (set6 w' k (.int .i64 x.kind) (.int .i64 x.num) (.string x.name) (.int .i64 x.op) (.slice v1 v2 v3) (.int .i64 (x.deep : Int))) := by
  obtain ⟨v, h1, h2, h3, h4, h5, h6⟩ := h
  obtain ⟨v1, v2, v3, rfl⟩ := h2.sl
  have hkl : k < W.heap.size := (Array.getElem?_eq_some_iff.1 hk).1
  have hb := (h4.blk hkl (by omega)).trans hk
  obtain ⟨g1, g2⟩ := give_part h3 (hg.trans h4) h2 hw hl hb hpb.1 hpb.2 h5 h6
  exact ⟨v1, v2, v3, h1, hb, g1, g2⟩
/-- a token as a block -/
def tc4 (t : Tok) : Obj := .cells #[.int .i64 t.kind, .string ⟨t.text.toArray⟩, .int .i64 t.num, .int .i64 (t.pos : Int)] 84
theorem tc4_c {W : World} {k : Nat} {t : Tok} (h : W.heap[k]? = some (tc4 t)) : W.cell? ⟨k, 0, none⟩ = some (.int .i64 t.kind) ∧ W.cell? ⟨k, 1, none⟩ = some (.string ⟨t.text.toArray⟩) ∧ W.cell? ⟨k, 2, none⟩ = some (.int .i64 t.num) ∧ W.cell? ⟨k, 3, none⟩ = some (.int .i64 (t.pos : Int)) := by
  unfold tc4 at h
  refine ⟨?_, ?_, ?_, ?_⟩
  · rw [cell_of_row W k 0 _ _ _ h]; rfl
  · rw [cell_of_row W k 1 _ _ _ h]; rfl
  · rw [cell_of_row W k 2 _ _ _ h]; rfl
  · rw [cell_of_row W k 3 _ _ _ h]; rfl
theorem fed_ok {x : PE × Nat × Nat} : Fed (.ok x) := by intro k h; cases h

set_option maxRecDepth 100000 in
set_option maxHeartbeats 4000000 in
theorem pair_any {pb g c : Nat} {L : List Tok} {b : Nat} {ex : Nat → Nat → Nat → PR} (hE : TEnd L) (hx : ExOk pb g c L b ex) (hf : Fwd 1 ex) (op : Int) (p o n : Nat) (w : World) (h : PS w pb g c L p o b n) (hs : SG w pb) (hn : n ≤ 600) (ho : o ≤ 48) (hp1 : p + 1 < L.length) (hfd : Fed (pairP L ex op p o n)) :
    Calls Tryd.prog 103 #[.pointer (some ⟨pb, 0, none⟩), .int .i64 op] w (EPost w w.heap.size pb g c L o b (pairP L ex op p o n)) := by
  have HS0 : Hid (PS (w.alloc z98) pb g c L p o b n) := h.below ((Below.refl _ _).alloc (Nat.le_refl _) _)
  have HG0 : Hid (Gr w (w.alloc z98) pb) := (Gr.refl w pb).alloc _
  have HB0 : Hid ((w.alloc z98).heap[w.heap.size]? = some z98) := heap_alloc_new _ _
  have HPL : Hid (pb < w.heap.size ∧ g < w.heap.size) := ⟨h.lt, h.gl⟩
  have HSG : Hid (SG w pb) := hs
  have HFD : Hid (Fed (pairP L ex op p o n)) := hfd
  have HEX : Hid (ExOk pb g c L b ex) := hx
  obtain ⟨P, hP⟩ : ∃ P, EPost w w.heap.size pb g c L o b (pairP L ex op p o n) = P := ⟨_, rfl⟩
  have HP : Hid (EPost w w.heap.size pb g c L o b (pairP L ex op p o n) = P) := hP
  rw [hP]
  obtain ⟨t, ht⟩ : ∃ t, tk L p = t := ⟨_, rfl⟩
  have HT : Hid (tk L p = t) := ht
  have HNX : Hid (∀ W, PS W pb g c L p o b n → Calls Tryd.prog 75 #[.pointer (some ⟨pb, 0, none⟩)] W fun e w' => e = .returned (tv t) ∧ PS w' pb g c L (p + 1) o b n ∧ Gr W w' pb) := fun W hW => by have := next_tk hW hp1; rwa [ht] at this
  unfold z98 at HS0 HG0 HB0
  unfold tv at HNX
  clear h hs hP ht hfd hx hp1
  go_enter Tryd.func103, Tryd.ntmps103
  go_wp2_with fail
  refine (HNX.out _ HS0.out).mono ?_
  rintro e w1 ⟨rfl, hp, hg⟩
  have HB1 : Hid ((w1.alloc (tc4 t)).heap[w.heap.size]? = some z98) := (heap_alloc_old _ _ (by have := hg.size; simp at this; omega)).trans ((hg.blk (by simp) HPL.out.1).trans HB0.out)
  have HT1 : Hid ((w1.alloc (tc4 t)).heap[w1.heap.size]? = some (tc4 t)) := heap_alloc_new _ _
  have HP1 : Hid (PS (w1.alloc (tc4 t)) pb g c L (p + 1) o b n) := hp.below ((Below.refl _ _).alloc (Nat.le_refl _) _)
  have HG1 : Hid (Gr w (w1.alloc (tc4 t)) pb) := (HG0.out.trans hg).alloc _
  have HL1 : Hid (w.heap.size < w1.heap.size ∧ pb < w1.heap.size) := by have := hg.size; simp at this; have := HPL.out.1; exact ⟨by omega, by omega⟩
  clear hp hg
  go_wp2_with fail
  unfold pairP at HFD HP
  by_cases e1 : ¬ (tk L (p + 1)).text = [40]
  · rw [if_pos e1] at HP
    refine (opens_tkN _ HP1.out e1).mono ?_
    rintro e w2 ⟨rfl, hg⟩
    refine ⟨rfl, ?_⟩
    rw [← HP.out]
    exact ⟨rfl, HG1.out.trans hg⟩
  rw [if_neg e1] at HP HFD
  replace e1 := Decidable.of_not_not e1
  have hp2 : p + 1 + 1 < L.length := hE.text (by rw [e1]; simp)
  by_cases e2 : 48 < o + 1
  · rw [if_pos e2] at HP
    refine (opens_tkD _ HP1.out e1 hp2 e2 ho).mono ?_
    rintro e w2 ⟨rfl, hg⟩
    refine ⟨rfl, ?_⟩
    rw [← HP.out]
    exact ⟨rfl, HG1.out.trans hg⟩
  rw [if_neg e2] at HP HFD
  refine (opens_tk _ HP1.out e1 hp2 (by omega)).mono ?_
  rintro e w2 ⟨rfl, hp, hg⟩
  have HB2 : Hid (w2.heap[w.heap.size]? = some z98) := (hg.blk (by have := HL1.out; simp; omega) HPL.out.1).trans HB1.out
  have HT2 : Hid (w2.heap[w1.heap.size]? = some (tc4 t)) := (hg.blk (by simp) HL1.out.2).trans HT1.out
  have HP2 : Hid (PS w2 pb g c L (p + 2) (o + 1) b n) := hp
  have HG2 : Hid (Gr w w2 pb) := HG1.out.trans hg
  have HL2 : Hid (w1.heap.size < w2.heap.size) := by show _ < _; have := hg.size; simp at this; omega
  obtain ⟨t2, ht2⟩ : ∃ t2, tk L (p + 1) = t2 := ⟨_, rfl⟩
  rw [ht2]
  clear hp hg ht2 e1 hp2
  unfold tv
  go_wp2_with fail
  rcases er : ex (p + 2) (o + 1) n with ⟨k, ek⟩ | ⟨x, q, m⟩
  · rw [er] at HFD HP
    have := HEX.out (p + 2) (o + 1) n w2 HP2.out (HSG.out.gr HG2.out) hn (by omega) (by rw [er]; exact HFD.out)
    rw [er] at this
    refine this.mono ?_
    rintro e w3 ⟨rfl, hg⟩
    refine ⟨rfl, ?_⟩
    rw [← HP.out]
    exact ⟨rfl, HG2.out.trans hg⟩
  rw [er] at HFD HP
  have hex := HEX.out (p + 2) (o + 1) n w2 HP2.out (HSG.out.gr HG2.out) hn (by omega) (by rw [er]; exact fed_ok)
  rw [er] at hex
  obtain ⟨hq1, hq2⟩ := hf _ _ _ _ _ _ er
  refine hex.mono ?_
  rintro e w3 ⟨v, rfl, hes, hp, hg, hd, hm⟩
  obtain ⟨v1, v2, v3, rfl⟩ := hes.sl
  have BL3 := (Below.refl w3.heap.size w3).alloc (Nat.le_refl _) (pc (rx x (.slice v1 v2 v3)))
  have HB3 : Hid ((w3.alloc (pc (rx x (.slice v1 v2 v3)))).heap[w.heap.size]? = some z98) := (BL3.block _ (by have := hg.size; have := HL2.out; have := HL1.out; omega)).trans ((hg.blk (by have := HL2.out; have := HL1.out; omega) HPL.out.1).trans HB2.out)
  have HT3 : Hid ((w3.alloc (pc (rx x (.slice v1 v2 v3)))).heap[w1.heap.size]? = some (tc4 t)) := (BL3.block _ (by have := hg.size; have := HL2.out; omega)).trans ((hg.blk HL2.out HL1.out.2).trans HT2.out)
  have HX3 : Hid ((w3.alloc (pc (rx x (.slice v1 v2 v3)))).heap[w3.heap.size]? = some (pc (rx x (.slice v1 v2 v3)))) := heap_alloc_new _ _
  have HE3 : Hid (ESl (w3.alloc (pc (rx x (.slice v1 v2 v3)))) (w.heap.size + 1) (.slice v1 v2 v3) x.args) := (hes.mono (by have := HL2.out; have := HL1.out; omega)).below BL3
  have HP3 : Hid (PS (w3.alloc (pc (rx x (.slice v1 v2 v3)))) pb g c L q (o + 1) b m) := hp.below BL3
  have HG3 : Hid (Gr w (w3.alloc (pc (rx x (.slice v1 v2 v3)))) pb) := (HG2.out.trans hg).alloc _
  have HL3 : Hid (w1.heap.size < w3.heap.size ∧ pb < w3.heap.size) := by have := hg.size; have := HL2.out; have := HL1.out; exact ⟨by omega, by omega⟩
  have HDM : Hid (x.deep ≤ 48 ∧ m ≤ 600) := ⟨hd, hm⟩
  clear hp hg hes hd hm hex BL3
  unfold rxv rx
  go_wp2_with fail
  by_cases e3 : ¬ (tk L q).text = [44]
  · rw [if_pos e3] at HP
    refine (take_no _ HP3.out e3).mono ?_
    rintro e w4 ⟨rfl, hg⟩
    refine ⟨rfl, ?_⟩
    rw [← HP.out]
    exact ⟨rfl, HG3.out.trans hg⟩
  rw [if_neg e3] at HP HFD
  replace e3 := Decidable.of_not_not e3
  refine (take_tk _ HP3.out e3 (hE.text (by rw [e3]; simp))).mono ?_
  rintro e w4 ⟨rfl, hp, hg⟩
  have HB4 : Hid (w4.heap[w.heap.size]? = some z98) := (hg.blk (by have := HL1.out; have := HL3.out; simp; omega) HPL.out.1).trans HB3.out
  have HT4 : Hid (w4.heap[w1.heap.size]? = some (tc4 t)) := (hg.blk (by have := HL3.out; simp; omega) HL1.out.2).trans HT3.out
  have HX4 : Hid (w4.heap[w3.heap.size]? = some (pc (rx x (.slice v1 v2 v3)))) := (hg.blk (by simp) HL3.out.2).trans HX3.out
  have HE4 : Hid (ESl w4 (w.heap.size + 1) (.slice v1 v2 v3) x.args) := HE3.out.grr hg (by have := HPL.out; omega)
  have HP4 : Hid (PS w4 pb g c L (q + 1) (o + 1) b m) := hp
  have HG4 : Hid (Gr w w4 pb) := HG3.out.trans hg
  have HL4 : Hid (w3.heap.size < w4.heap.size) := by show _ < _; have := hg.size; simp at this; omega
  obtain ⟨t2, ht2⟩ : ∃ t2, tk L q = t2 := ⟨_, rfl⟩
  rw [ht2]
  clear hp hg ht2 e3
  unfold tv
  go_wp2_with fail
  rcases er : ex (q + 1) (o + 1) m with ⟨k, ek⟩ | ⟨y, r, i⟩
  · rw [er] at HFD HP
    have := HEX.out (q + 1) (o + 1) m w4 HP4.out (HSG.out.gr HG4.out) HDM.out.2 (by omega) (by rw [er]; exact HFD.out)
    rw [er] at this
    refine this.mono ?_
    rintro e w5 ⟨rfl, hg⟩
    refine ⟨rfl, ?_⟩
    rw [← HP.out]
    exact ⟨rfl, HG4.out.trans hg⟩
  rw [er] at HFD HP
  have hex := HEX.out (q + 1) (o + 1) m w4 HP4.out (HSG.out.gr HG4.out) HDM.out.2 (by omega) (by rw [er]; exact fed_ok)
  rw [er] at hex
  refine hex.mono ?_
  rintro e w5 ⟨u, rfl, hes, hp, hg, hd, hm⟩
  obtain ⟨u1, u2, u3, rfl⟩ := hes.sl
  have BL5 := (Below.refl w5.heap.size w5).alloc (Nat.le_refl _) (pc (rx y (.slice u1 u2 u3)))
  have hsz : w.heap.size < w4.heap.size ∧ w1.heap.size < w4.heap.size ∧ w3.heap.size < w4.heap.size ∧ w4.heap.size ≤ w5.heap.size := by have := hg.size; have := HL4.out; have := HL3.out; have := HL1.out; exact ⟨by omega, by omega, by omega, by omega⟩
  have HB5 : Hid ((w5.alloc (pc (rx y (.slice u1 u2 u3)))).heap[w.heap.size]? = some z98) := (BL5.block _ (by omega)).trans ((hg.blk hsz.1 HPL.out.1).trans HB4.out)
  have HT5 : Hid ((w5.alloc (pc (rx y (.slice u1 u2 u3)))).heap[w1.heap.size]? = some (tc4 t)) := (BL5.block _ (by omega)).trans ((hg.blk hsz.2.1 HL1.out.2).trans HT4.out)
  have HX5 : Hid ((w5.alloc (pc (rx y (.slice u1 u2 u3)))).heap[w3.heap.size]? = some (pc (rx x (.slice v1 v2 v3)))) := (BL5.block _ (by omega)).trans ((hg.blk hsz.2.2.1 HL3.out.2).trans HX4.out)
  have HY5 : Hid ((w5.alloc (pc (rx y (.slice u1 u2 u3)))).heap[w5.heap.size]? = some (pc (rx y (.slice u1 u2 u3)))) := heap_alloc_new _ _
  have HE5 : Hid (ESl (w5.alloc (pc (rx y (.slice u1 u2 u3)))) (w.heap.size + 1) (.slice v1 v2 v3) x.args) := (HE4.out.grr hg (by have := HPL.out; omega)).below BL5
  have HF5 : Hid (ESl (w5.alloc (pc (rx y (.slice u1 u2 u3)))) (w.heap.size + 1) (.slice u1 u2 u3) y.args) := (hes.mono (by omega)).below BL5
  have HP5 : Hid (PS (w5.alloc (pc (rx y (.slice u1 u2 u3)))) pb g c L r (o + 1) b i) := hp.below BL5
  have HG5 : Hid (Gr w (w5.alloc (pc (rx y (.slice u1 u2 u3)))) pb) := (HG4.out.trans hg).alloc _
  have HL5 : Hid (w3.heap.size < w5.heap.size ∧ pb < w5.heap.size ∧ w1.heap.size < w5.heap.size ∧ w.heap.size < w5.heap.size) := by have := HL3.out; exact ⟨by omega, by omega, by omega, by omega⟩
  have HDN : Hid (y.deep ≤ 48 ∧ i ≤ 600) := ⟨hd, hm⟩
  clear hp hg hes hd hm hex BL5 hsz
  unfold rxv rx
  go_wp2_with fail
  by_cases e5 : ¬ (tk L r).text = [41]
  · rw [if_pos e5] at HP
    refine (shuts_tkN _ HP5.out e5).mono ?_
    rintro e w6 ⟨rfl, hg⟩
    refine ⟨rfl, ?_⟩
    rw [← HP.out]
    exact ⟨rfl, HG5.out.trans hg⟩
  rw [if_neg e5] at HP HFD
  replace e5 := Decidable.of_not_not e5
  refine (shuts_tk _ HP5.out ho e5 (hE.text (by rw [e5]; simp))).mono ?_
  rintro e w6 ⟨rfl, hp, hg⟩
  have hs5 : (w5.alloc (pc (rx y (.slice u1 u2 u3)))).heap.size = w5.heap.size + 1 := by simp
  have B6 : w6.heap[w.heap.size]? = some z98 := (hg.blk (by have := HL5.out; omega) HPL.out.1).trans HB5.out
  have T6 : w6.heap[w1.heap.size]? = some (tc4 t) := (hg.blk (by have := HL5.out; omega) HL1.out.2).trans HT5.out
  have X6 : w6.heap[w3.heap.size]? = some (pc (rx x (.slice v1 v2 v3))) := (hg.blk (by have := HL5.out; omega) HL3.out.2).trans HX5.out
  have Y6 : w6.heap[w5.heap.size]? = some (pc (rx y (.slice u1 u2 u3))) := (hg.blk (by omega) HL5.out.2.1).trans HY5.out
  have HE6 : Hid (ESl w6 (w.heap.size + 1) (.slice v1 v2 v3) x.args) := HE5.out.grr hg (by have := HPL.out; omega)
  have HF6 : Hid (ESl w6 (w.heap.size + 1) (.slice u1 u2 u3) y.args) := HF5.out.grr hg (by have := HPL.out; omega)
  have HP6 : Hid (PS w6 pb g c L (r + 1) o b i) := hp
  have HG6 : Hid (Gr w w6 pb) := HG5.out.trans hg
  have HB6 : Hid (w6.heap[w.heap.size]? = some z98) := B6
  have HL6 : Hid (w5.heap.size < w6.heap.size) := by show _ < _; have := hg.size; omega
  obtain ⟨t0, t1, t2, t3⟩ := tc4_c T6
  obtain ⟨d0, d1, d2, d3, d4, d5, _⟩ := pc_c X6
  obtain ⟨f0, f1, f2, f3, f4, f5, _⟩ := pc_c Y6
  unfold rx at d0 d1 d2 d3 d4 d5 f0 f1 f2 f3 f4 f5
  clear hp hg e5 hs5 B6 T6 X6 Y6
  go_wp2_with fail
  have BL7 := (Below.refl w6.heap.size w6).alloc (Nat.le_refl _) (.cells #[.int .i64 x.kind, .int .i64 x.num, .string x.name, .int .i64 x.op, .slice v1 v2 v3, .int .i64 (x.deep : Int), .int .i64 y.kind, .int .i64 y.num, .string y.name, .int .i64 y.op, .slice u1 u2 u3, .int .i64 (y.deep : Int)] 98)
  refine (makeE_any (w.heap.size + 1) pb g c L (r + 1) o b i t 5 0 ⟨#[]⟩ op [(x, .slice v1 v2 v3), (y, .slice u1 u2 u3)] _ _ (HP6.out.below BL7) HDN.out.2 (PA.two w6 x y _ _ ⟨_, _, _, rfl⟩ ⟨_, _, _, rfl⟩ HDM.out.1 HDN.out.1 98) ?_ ?_ ?_).mono ?_
  · intro z hz
    simp at hz
    rcases hz with rfl | rfl
    · exact HE6.out.below BL7
    · exact HF6.out.below BL7
  · have := HL6.out; have := HL5.out; simp; omega
  · have := HPL.out; omega
  have HG7 : Gr w (w6.alloc (.cells #[.int .i64 x.kind, .int .i64 x.num, .string x.name, .int .i64 x.op, .slice v1 v2 v3, .int .i64 (x.deep : Int), .int .i64 y.kind, .int .i64 y.num, .string y.name, .int .i64 y.op, .slice u1 u2 u3, .int .i64 (y.deep : Int)] 98)) pb := HG6.out.alloc _
  have HB7 := (BL7.block _ (by have := HL6.out; have := HL5.out; omega)).trans HB6.out
  rw [HT.out] at HP
  clear BL7
  generalize (w6.alloc (.cells #[.int .i64 x.kind, .int .i64 x.num, .string x.name, .int .i64 x.op, .slice v1 v2 v3, .int .i64 (x.deep : Int), .int .i64 y.kind, .int .i64 y.num, .string y.name, .int .i64 y.op, .slice u1 u2 u3, .int .i64 (y.deep : Int)] 98)) = w7 at HG7 HB7 ⊢
  show ∀ e w', EPost w7 (w.heap.size + 1) pb g c L o b (mk' (r + 1) (mkE t 5 0 ⟨#[]⟩ op [x, y] i)) e w' → _
  generalize mk' (r + 1) (mkE t 5 0 ⟨#[]⟩ op [x, y] i) = res at HP ⊢
  rcases res with ⟨k, ek⟩ | ⟨z, q2, m2⟩
  · rintro e w8 ⟨rfl, hg⟩
    refine ⟨rfl, ?_⟩
    rw [← HP.out]
    exact ⟨rfl, HG7.trans hg⟩
  · intro e w8 hep
    obtain ⟨z1, z2, z3, rfl, hb8, hs1, hs2⟩ := hep.give HG7 HB7 (Nat.le_refl _) (by omega) HPL.out
    rw [HP.out] at hs2
    have HS1 : Hid ((set6 w8 w.heap.size (.int .i64 z.kind) (.int .i64 z.num) (.string z.name) (.int .i64 z.op) (.slice z1 z2 z3) (.int .i64 (z.deep : Int))).heap[w.heap.size]? = some (pc (rx z (.slice z1 z2 z3)))) := hs1
    have HS2 : Hid (P (.returned (rxv (rx z (.slice z1 z2 z3)))) (set6 w8 w.heap.size (.int .i64 z.kind) (.int .i64 z.num) (.string z.name) (.int .i64 z.op) (.slice z1 z2 z3) (.int .i64 (z.deep : Int)))) := hs2
    obtain ⟨a0, a1, a2, a3, a4, a5, b0, b1, b2, b3, b4, b5⟩ := z98_c hb8
    clear hs1 hs2 hb8 hep HG7 HB7
    unfold rxv rx
    go_wp2
    exact bodyPost_ret (ret_part 4 Tryd.results103 _ w.heap.size rfl _ (rx z (.slice z1 z2 z3)) HS1.out) rfl HS2.out
end Go.Proofs.YtnofibjchhcmeabDoor
