/- A statement that tells; a statement, as far as it is one of these. -/
import Derived.Test.YtnofibjchhcmeabDoorMs
namespace Go.Proofs.YtnofibjchhcmeabDoor
open Go.RowKit Go.Maps
set_option linter.unusedVariables false

set_option maxRecDepth 100000 in
set_option maxHeartbeats 4000000 in
theorem last_any {pb g c : Nat} {L : List Tok} {b : Nat} (hE : TEnd L) (hx : ExOk pb g c L b (ex1 L)) (p n : Nat) (w : World) (h : PS w pb g c L p 0 b n) (hs : SG w pb) (hn : n ≤ 600) :
    Calls Tryd.prog 80 #[.pointer (some ⟨pb, 0, none⟩)] w (EPost w w.heap.size pb g c L 0 b (lastP L p n)) := by
  have HS0 : Hid (PS (w.alloc z98) pb g c L p 0 b n) := h.below ((Below.refl _ _).alloc (Nat.le_refl _) _)
  have HG0 : Hid (Gr w (w.alloc z98) pb) := (Gr.refl w pb).alloc _
  have HB0 : Hid ((w.alloc z98).heap[w.heap.size]? = some z98) := heap_alloc_new _ _
  have HPL : Hid (pb < w.heap.size ∧ g < w.heap.size) := ⟨h.lt, h.gl⟩
  have HSG : Hid (SG w pb) := hs
  obtain ⟨r1, er⟩ : ∃ r1, ex1 L p 0 n = r1 := ⟨_, rfl⟩
  have HEX : Hid (∀ W, PS W pb g c L p 0 b n → SG W pb → Calls Tryd.prog 93 #[.pointer (some ⟨pb, 0, none⟩), .int .i64 1] W (EPost W W.heap.size pb g c L 0 b r1)) := fun W hW hS => by have := hx p 0 n W hW hS hn (by omega) (ex1_fed L p 0 n); rwa [er] at this
  obtain ⟨P, hP⟩ : ∃ P, EPost w w.heap.size pb g c L 0 b (lastP L p n) = P := ⟨_, rfl⟩
  rw [hP]
  unfold lastP at hP
  rw [er] at hP
  clear h hs er hx
  unfold z98 at HS0 HG0 HB0
  rcases r1 with ⟨k, ek⟩ | ⟨x, q, m⟩
  · have HP : Hid (EPost w w.heap.size pb g c L 0 b (.error (k, ek)) = P) := hP
    clear hP
    go_enter Tryd.func80, Tryd.ntmps80
    go_wp2_with fail
    refine (HEX.out _ HS0.out (HSG.out.gr HG0.out)).mono ?_
    rintro e w1 ⟨rfl, hg⟩
    refine ⟨rfl, ?_⟩
    rw [← HP.out]
    exact ⟨rfl, HG0.out.trans hg⟩
  have HP : Hid (EPost w w.heap.size pb g c L 0 b (if ¬ (tk L q).text = [59] then .error ((tk L q).pos, 40) else .ok (x, q + 1, m)) = P) := hP
  clear hP
  go_enter Tryd.func80, Tryd.ntmps80
  go_wp2_with fail
  refine (HEX.out _ HS0.out (HSG.out.gr HG0.out)).mono ?_
  rintro e w2 ⟨v, rfl, hes, hp, hg, hd, hm⟩
  obtain ⟨v1, v2, v3, rfl⟩ := hes.sl
  have BL3 := (Below.refl w2.heap.size w2).alloc (Nat.le_refl _) (pc (rx x (.slice v1 v2 v3)))
  have hs2 : w.heap.size < w2.heap.size := by have := hg.size; simp at this; omega
  have HP3 : Hid (PS (w2.alloc (pc (rx x (.slice v1 v2 v3)))) pb g c L q 0 b m) := hp.below BL3
  have HG3 : Hid (Gr w (w2.alloc (pc (rx x (.slice v1 v2 v3)))) pb) := (HG0.out.trans hg).alloc _
  have HB3 : Hid ((w2.alloc (pc (rx x (.slice v1 v2 v3)))).heap[w.heap.size]? = some z98) := (BL3.block _ hs2).trans ((hg.blk (by simp) HPL.out.1).trans HB0.out)
  have HC3 : Hid ((w2.alloc (pc (rx x (.slice v1 v2 v3)))).heap[w2.heap.size]? = some (pc (rx x (.slice v1 v2 v3)))) := heap_alloc_new _ _
  have HE3 : Hid (ESl (w2.alloc (pc (rx x (.slice v1 v2 v3)))) (w.heap.size + 1) (.slice v1 v2 v3) x.args) := ESl.below (ESl.mono hes (by simp)) BL3
  have HL3 : Hid (w.heap.size < (w2.alloc (pc (rx x (.slice v1 v2 v3)))).heap.size ∧ w2.heap.size < (w2.alloc (pc (rx x (.slice v1 v2 v3)))).heap.size ∧ pb < w2.heap.size) := by have h2 := HPL.out.1; exact ⟨by simp; omega, by simp, by omega⟩
  have HDM : Hid (x.deep ≤ 48 ∧ m ≤ 600) := ⟨hd, hm⟩
  clear hp hg hes hd hm BL3 hs2
  unfold rxv rx
  go_wp2_with fail
  by_cases e3 : ¬ (tk L q).text = [59]
  · rw [if_pos e3] at HP
    refine (take_no ⟨#[59]⟩ HP3.out e3).mono ?_
    rintro e w4 ⟨rfl, hg⟩
    refine ⟨rfl, ?_⟩
    rw [← HP.out]
    exact ⟨rfl, HG3.out.trans hg⟩
  rw [if_neg e3] at HP
  replace e3 := Decidable.of_not_not e3
  refine (take_tk ⟨#[59]⟩ HP3.out e3 (hE.text (by rw [e3]; simp))).mono ?_
  rintro e w4 ⟨rfl, hp, hg⟩
  have B4 : w4.heap[w.heap.size]? = some z98 := (hg.blk HL3.out.1 HPL.out.1).trans HB3.out
  have C4 : w4.heap[w2.heap.size]? = some (pc (rx x (.slice v1 v2 v3))) := (hg.blk HL3.out.2.1 HL3.out.2.2).trans HC3.out
  obtain ⟨HF5, HF6⟩ := give_part (k := w.heap.size) hp (HG3.out.trans hg) (HE3.out.grr hg (by have := HPL.out; omega)) (Nat.le_refl _) (by omega) B4 HPL.out.1 HPL.out.2 HDM.out.1 HDM.out.2
  rw [HP.out] at HF6
  have HF5' : Hid ((set6 w4 w.heap.size (.int .i64 x.kind) (.int .i64 x.num) (.string x.name) (.int .i64 x.op) (.slice v1 v2 v3) (.int .i64 (x.deep : Int))).heap[w.heap.size]? = some (pc (rx x (.slice v1 v2 v3)))) := HF5
  have HF6' : Hid (P (.returned (rxv (rx x (.slice v1 v2 v3)))) (set6 w4 w.heap.size (.int .i64 x.kind) (.int .i64 x.num) (.string x.name) (.int .i64 x.op) (.slice v1 v2 v3) (.int .i64 (x.deep : Int)))) := HF6
  obtain ⟨a0, a1, a2, a3, a4, a5, b0, b1, b2, b3, b4, b5⟩ := z98_c B4
  obtain ⟨d0, d1, d2, d3, d4, d5, _⟩ := pc_c C4
  unfold rx at d0 d1 d2 d3 d4 d5
  obtain ⟨t2, ht2⟩ : ∃ t2, tk L q = t2 := ⟨_, rfl⟩
  rw [ht2]
  unfold tv
  clear HF5 HF6 B4 C4 hp hg ht2 e3
  go_wp2
  exact bodyPost_ret (ret_part 2 Tryd.results80 _ w.heap.size rfl _ (rx x (.slice v1 v2 v3)) HF5'.out) rfl HF6'.out

/-- statements in memory, from a cell on, in blocks of which ok speaks -/
def SAt (w : World) (ok : Nat → Prop) : SL → Nat → Nat → Prop
  | .leaf, _, _ => True
  | .inner _ (k, s, c, a) _ .leaf r, b, o => w.cell? ⟨b, o, none⟩ = some (.int .i64 k) ∧ w.cell? ⟨b, o + 1, none⟩ = some (.string s) ∧ w.cell? ⟨b, o + 2, none⟩ = some (.int .i64 c) ∧ (∃ v, w.cell? ⟨b, o + 3, none⟩ = some v ∧ ESlP w ok v a) ∧ (∃ ad cap, w.cell? ⟨b, o + 4, none⟩ = some (.slice ad 0 cap) ∧ cap ≤ maxLen) ∧ (∃ ad cap, w.cell? ⟨b, o + 5, none⟩ = some (.slice ad 0 cap) ∧ cap ≤ maxLen) ∧ SAt w ok r b (o + 6)
  | .inner _ (k, s, c, a) _ (.inner _ _ _ d e) r, b, o => w.cell? ⟨b, o, none⟩ = some (.int .i64 k) ∧ w.cell? ⟨b, o + 1, none⟩ = some (.string s) ∧ w.cell? ⟨b, o + 2, none⟩ = some (.int .i64 c) ∧ (∃ v, w.cell? ⟨b, o + 3, none⟩ = some v ∧ ESlP w ok v a) ∧
      (∃ ad cap b' o', w.cell? ⟨b, o + 4, none⟩ = some (.slice ad (slen d) cap) ∧ slen d ≤ cap ∧ cap ≤ maxLen ∧ (0 < slen d → ad = some ⟨b', o', none⟩ ∧ ok b') ∧ SAt w ok d b' o') ∧
      (∃ ad cap b' o', w.cell? ⟨b, o + 5, none⟩ = some (.slice ad (slen e) cap) ∧ slen e ≤ cap ∧ cap ≤ maxLen ∧ (0 < slen e → ad = some ⟨b', o', none⟩ ∧ ok b') ∧ SAt w ok e b' o') ∧ SAt w ok r b (o + 6)
def SSlP (w : World) (ok : Nat → Prop) (v : Value) (l : SL) : Prop := ∃ ad cap b o, v = .slice ad (slen l) cap ∧ slen l ≤ cap ∧ cap ≤ maxLen ∧ (0 < slen l → ad = some ⟨b, o, none⟩ ∧ ok b) ∧ SAt w ok l b o
theorem slen_pos {i d v a r} : 0 < slen (Std.DTreeMap.Internal.Impl.inner i d v a r : SL) := Nat.succ_pos _
theorem SAt.keep {w w' : World} {ok : Nat → Prop} (hb : ∀ k, ok k → k < w.heap.size → w'.heap[k]? = w.heap[k]?) (l : SL) : ∀ {b o : Nat}, (0 < slen l → ok b) → SAt w ok l b o → SAt w' ok l b o := by
  induction l using sl_ind with
  | h0 => intro b o _ _; trivial
  | h1 i d v x r ihl ihr ih =>
    obtain ⟨k, s, c, a⟩ := d
    intro b o hlo h
    have hl : ok b := hlo slen_pos
    cases x with
    | leaf =>
      obtain ⟨h1, h2, h3, ⟨u, h4, h5⟩, ⟨ad, cap, h6, h7⟩, ⟨ad', cap', h8, h9⟩, hr⟩ := h
      have e := hb b hl (World.block_lt_of_cell? w ⟨b, o, none⟩ h1)
      exact ⟨(World.cell?_of_block (a := ⟨b, o, none⟩) e).trans h1, (World.cell?_of_block (a := ⟨b, o + 1, none⟩) e).trans h2, (World.cell?_of_block (a := ⟨b, o + 2, none⟩) e).trans h3, ⟨u, (World.cell?_of_block (a := ⟨b, o + 3, none⟩) e).trans h4, h5.keep hb⟩, ⟨ad, cap, (World.cell?_of_block (a := ⟨b, o + 4, none⟩) e).trans h6, h7⟩, ⟨ad', cap', (World.cell?_of_block (a := ⟨b, o + 5, none⟩) e).trans h8, h9⟩, ih (fun _ => hl) hr⟩
    | inner j d' v' p q =>
      obtain ⟨h1, h2, h3, ⟨u, h4, h5⟩, ⟨ad, cap, b', o', f1, f2, f3, f4, f5⟩, ⟨ad', cap', b'', o'', g1, g2, g3, g4, g5⟩, hr⟩ := h
      have e := hb b hl (World.block_lt_of_cell? w ⟨b, o, none⟩ h1)
      exact ⟨(World.cell?_of_block (a := ⟨b, o, none⟩) e).trans h1, (World.cell?_of_block (a := ⟨b, o + 1, none⟩) e).trans h2, (World.cell?_of_block (a := ⟨b, o + 2, none⟩) e).trans h3, ⟨u, (World.cell?_of_block (a := ⟨b, o + 3, none⟩) e).trans h4, h5.keep hb⟩, ⟨ad, cap, b', o', (World.cell?_of_block (a := ⟨b, o + 4, none⟩) e).trans f1, f2, f3, f4, ihl (fun q => (f4 q).2) f5⟩, ⟨ad', cap', b'', o'', (World.cell?_of_block (a := ⟨b, o + 5, none⟩) e).trans g1, g2, g3, g4, ihr (fun q => (g4 q).2) g5⟩, ih (fun _ => hl) hr⟩
theorem SSlP.keep {w w' : World} {ok : Nat → Prop} {v : Value} {l : SL} (h : SSlP w ok v l) (hb : ∀ k, ok k → k < w.heap.size → w'.heap[k]? = w.heap[k]?) : SSlP w' ok v l := by
  obtain ⟨ad, cap, b, o, h1, h2, h3, h4, h5⟩ := h
  exact ⟨ad, cap, b, o, h1, h2, h3, h4, h5.keep hb l (fun q => (h4 q).2)⟩
theorem SSlP.nil (w : World) (ok : Nat → Prop) : SSlP w ok (.slice none 0 0) .leaf := ⟨none, 0, 0, 0, rfl, Nat.le_refl _, Nat.zero_le _, fun h => absurd h (Nat.lt_irrefl 0), trivial⟩
theorem SSlP.sl {w : World} {ok : Nat → Prop} {v : Value} {l : SL} (h : SSlP w ok v l) : Sl v := by
  obtain ⟨ad, cap, b, o, h1, _⟩ := h
  exact ⟨_, _, _, h1⟩

/-- what comes of a reading of a statement -/
def TPost (w : World) (ok : Nat → Prop) (pb g c : Nat) (L : List Tok) (b : Nat) : TR → Ending → World → Prop
  | .error (k, er), e, w' => e = gaveUpT (k : Int) er ∧ Gr w w' pb
  | .ok ([x], q, m), e, w' => ∃ v1 v2 v3 b1 b2 b3 e1 e2 e3, e = .returned (.agg #[.int .i64 x.kind, .string x.name, .int .i64 x.cell, .slice v1 v2 v3, .slice b1 b2 b3, .slice e1 e2 e3]) ∧ ESlP w' ok (.slice v1 v2 v3) x.args ∧ SSlP w' ok (.slice b1 b2 b3) x.body ∧ SSlP w' ok (.slice e1 e2 e3) x.els ∧ PS w' pb g c L q 0 b m ∧ Gr w w' pb ∧ m ≤ 600
  | .ok (_, _, _), _, _ => False
theorem makeS_any (ok : Nat → Prop) (pb g c : Nat) (L : List Tok) (p b n : Nat) (t : Tok) (k : Int) (s : ByteArray) (cl : Int) (ys : List (PE × Value)) (bv ev : Value) (body els : SL) (v : Value) (w : World) (h : PS w pb g c L p 0 b n) (hn : n ≤ 600) (hx : PA w v (rxs ys)) (hs : ∀ y ∈ ys, ESlP w ok y.2 y.1.args) (hb : SSlP w ok bv body) (he : SSlP w ok ev els) (hlo : ∀ k, w.heap.size ≤ k → ok k) (hpl : ∀ k, ok k → pb < k) :
    Calls Tryd.prog 76 #[.pointer (some ⟨pb, 0, none⟩), tv t, .agg #[.int .i64 k, .string s, .int .i64 cl, .slice none 0 0, bv, ev], v] w (TPost w ok pb g c L b (mkS t ⟨k, s, cl, erow (ys.map (·.1)), body, els⟩ p n)) := by
  refine (makeStmt_any pb g c L p 0 b n t k s cl bv ev hb.sl he.sl (rxs ys) v w h hn hx).mono fun e w' hp => ?_
  unfold MsPost at hp
  unfold mkS
  split at hp
  · rename_i h2; rw [if_pos h2]; exact hp
  · rename_i h2; rw [if_neg h2]
    obtain ⟨v', e1, e2, e3, e4⟩ := hp
    obtain ⟨v1, v2, v3, rfl⟩ := e2.sl
    obtain ⟨b1, b2, b3, rfl⟩ := hb.sl
    obtain ⟨c1, c2, c3, rfl⟩ := he.sl
    have hk : ∀ k, ok k → k < w.heap.size → w'.heap[k]? = w.heap[k]? := fun k h1 h2 => e4.block k h2 (by intro e; cases e; exact Nat.lt_irrefl _ (hpl _ h1))
    exact ⟨v1, v2, v3, b1, b2, b3, c1, c2, c3, e1, e2.esl hlo (fun y hy => (hs y hy).keep hk), hb.keep hk, he.keep hk, e3, e4, by omega⟩
end Go.Proofs.YtnofibjchhcmeabDoor
namespace Go.Proofs.YtnofibjchhcmeabDoor
open Go.RowKit Go.Maps
set_option linter.unusedVariables false

theorem ESlP.monoP {w : World} {ok ok' : Nat → Prop} {v : Value} {l : EL} (h : ESlP w ok v l) (hl : ∀ k, ok k → ok' k) : ESlP w ok' v l := h.mono hl
theorem SAt.mono {w : World} {ok ok' : Nat → Prop} (hl : ∀ k, ok k → ok' k) (l : SL) : ∀ {b o : Nat}, SAt w ok l b o → SAt w ok' l b o := by
  induction l using sl_ind with
  | h0 => intro b o _; trivial
  | h1 i d v x r ihl ihr ih =>
    obtain ⟨k, s, c, a⟩ := d
    intro b o h
    cases x with
    | leaf =>
      obtain ⟨h1, h2, h3, ⟨u, h4, h5⟩, h6, h8, hr⟩ := h
      exact ⟨h1, h2, h3, ⟨u, h4, h5.mono hl⟩, h6, h8, ih hr⟩
    | inner j d' v' p q =>
      obtain ⟨h1, h2, h3, ⟨u, h4, h5⟩, ⟨ad, cap, b', o', f1, f2, f3, f4, f5⟩, ⟨ad', cap', b'', o'', g1, g2, g3, g4, g5⟩, hr⟩ := h
      exact ⟨h1, h2, h3, ⟨u, h4, h5.mono hl⟩, ⟨ad, cap, b', o', f1, f2, f3, fun q => ⟨(f4 q).1, hl _ (f4 q).2⟩, ihl f5⟩, ⟨ad', cap', b'', o'', g1, g2, g3, fun q => ⟨(g4 q).1, hl _ (g4 q).2⟩, ihr g5⟩, ih hr⟩
theorem SSlP.mono {w : World} {ok ok' : Nat → Prop} {v : Value} {l : SL} (h : SSlP w ok v l) (hl : ∀ k, ok k → ok' k) : SSlP w ok' v l := by
  obtain ⟨ad, cap, b, o, h1, h2, h3, h4, h5⟩ := h
  exact ⟨ad, cap, b, o, h1, h2, h3, fun q => ⟨(h4 q).1, hl _ (h4 q).2⟩, h5.mono hl l⟩
/-- a statement that a call hands back is stored where the result lies -/
theorem TPost.give {w W w' : World} {ok : Nat → Prop} {pb g c : Nat} {L : List Tok} {b q m k : Nat} {x : PT} {e : Ending} (h : TPost W ok pb g c L b (.ok ([x], q, m)) e w') (hg : Gr w W pb) (hk : W.heap[k]? = some z39) (hw : w.heap.size ≤ k) (hl : ∀ j, ok j → w.heap.size ≤ j ∧ j ≠ k) (hpb : pb < w.heap.size ∧ g < w.heap.size) :
    ∃ v1 v2 v3 b1 b2 b3 e1 e2 e3, e = .returned (.agg #[.int .i64 x.kind, .string x.name, .int .i64 x.cell, .slice v1 v2 v3, .slice b1 b2 b3, .slice e1 e2 e3]) ∧ w'.heap[k]? = some z39 ∧ (set6 w' k (.int .i64 x.kind) (.string x.name) (.int .i64 x.cell) (.slice v1 v2 v3) (.slice b1 b2 b3) (.slice e1 e2 e3)).heap[k]? = some (.cells #[.int .i64 x.kind, .string x.name, .int .i64 x.cell, .slice v1 v2 v3, .slice b1 b2 b3, .slice e1 e2 e3] 39) ∧
      TPost w (fun j => w.heap.size ≤ j) pb g c L b (.ok ([x], q, m)) (.returned (.agg #[.int .i64 x.kind, .string x.name, .int .i64 x.cell, .slice v1 v2 v3, .slice b1 b2 b3, .slice e1 e2 e3])) (set6 w' k (.int .i64 x.kind) (.string x.name) (.int .i64 x.cell) (.slice v1 v2 v3) (.slice b1 b2 b3) (.slice e1 e2 e3)) := by
  obtain ⟨v1, v2, v3, b1, b2, b3, e1, e2, e3, h1, h2, h3, h4, h5, h6, h7⟩ := h
  have hkl : k < W.heap.size := (Array.getElem?_eq_some_iff.1 hk).1
  have hb := (h6.blk hkl (by omega)).trans hk
  have hkk : ∀ (a0 a1 a2 a3 a4 a5 : Value) j, ok j → j < w'.heap.size → (set6 w' k a0 a1 a2 a3 a4 a5).heap[j]? = w'.heap[j]? := fun a0 a1 a2 a3 a4 a5 j h1 _ => set6_blk (hl j h1).2
  refine ⟨v1, v2, v3, b1, b2, b3, e1, e2, e3, h1, hb, put6 hb, v1, v2, v3, b1, b2, b3, e1, e2, e3, rfl, (h2.keep (hkk _ _ _ _ _ _)).mono fun j h => (hl j h).1, (h3.keep (hkk _ _ _ _ _ _)).mono fun j h => (hl j h).1, (h4.keep (hkk _ _ _ _ _ _)).mono fun j h => (hl j h).1, set6_ps h5 (by omega) (by omega), set6_gr (hg.trans h6) hw, h7⟩
theorem z39_c {W : World} {k : Nat} (h : W.heap[k]? = some z39) : (W.cell? ⟨k, 0, none⟩ = some (.int .i64 0) ∧ W.cell? ⟨k, 1, none⟩ = some (.string ⟨#[]⟩) ∧ W.cell? ⟨k, 2, none⟩ = some (.int .i64 0) ∧ W.cell? ⟨k, 3, none⟩ = some (.slice none 0 0) ∧ W.cell? ⟨k, 4, none⟩ = some (.slice none 0 0) ∧ W.cell? ⟨k, 5, none⟩ = some (.slice none 0 0)) ∧ W.frozen? ⟨k, 0, none⟩ = false ∧ W.frozen? ⟨k, 1, none⟩ = false ∧ W.frozen? ⟨k, 2, none⟩ = false ∧ W.frozen? ⟨k, 3, none⟩ = false ∧ W.frozen? ⟨k, 4, none⟩ = false ∧ W.frozen? ⟨k, 5, none⟩ = false := by
  unfold z39 at h
  exact ⟨c6 h, frozen_of_row W k 0 _ _ h, frozen_of_row W k 1 _ _ h, frozen_of_row W k 2 _ _ h, frozen_of_row W k 3 _ _ h, frozen_of_row W k 4 _ _ h, frozen_of_row W k 5 _ _ h⟩

set_option maxRecDepth 100000 in
set_option maxHeartbeats 4000000 in
theorem tell_any {pb g c : Nat} {L : List Tok} {b : Nat} (hE : TEnd L) (hx : ExOk pb g c L b (ex1 L)) (kd : Int) (p n : Nat) (w : World) (h : PS w pb g c L p 0 b n) (hs : SG w pb) (hn : n ≤ 600) (hp1 : p + 1 < L.length) :
    Calls Tryd.prog 58 #[.pointer (some ⟨pb, 0, none⟩), .int .i64 kd] w (TPost w (fun j => w.heap.size ≤ j) pb g c L b (tellP L kd p n)) := by
  have HS0 : Hid (PS (w.alloc z39) pb g c L p 0 b n) := h.below ((Below.refl _ _).alloc (Nat.le_refl _) _)
  have HG0 : Hid (Gr w (w.alloc z39) pb) := (Gr.refl w pb).alloc _
  have HB0 : Hid ((w.alloc z39).heap[w.heap.size]? = some z39) := heap_alloc_new _ _
  have HPL : Hid (pb < w.heap.size ∧ g < w.heap.size) := ⟨h.lt, h.gl⟩
  have HSG : Hid (SG w pb) := hs
  obtain ⟨t, ht⟩ : ∃ t, tk L p = t := ⟨_, rfl⟩
  have HNX : Hid (∀ W, PS W pb g c L p 0 b n → Calls Tryd.prog 75 #[.pointer (some ⟨pb, 0, none⟩)] W fun e w' => e = .returned (tv t) ∧ PS w' pb g c L (p + 1) 0 b n ∧ Gr W w' pb) := fun W hW => by have := next_tk hW hp1; rwa [ht] at this
  obtain ⟨R, hR⟩ : ∃ R, lastP L (p + 1) n = R := ⟨_, rfl⟩
  have HLA : Hid (∀ W, PS W pb g c L (p + 1) 0 b n → SG W pb → Calls Tryd.prog 80 #[.pointer (some ⟨pb, 0, none⟩)] W (EPost W W.heap.size pb g c L 0 b R)) := fun W hW hS => by have := last_any hE hx (p + 1) n W hW hS hn; rwa [hR] at this
  unfold tellP
  rw [ht, hR]
  obtain ⟨P, hP⟩ : ∃ P, TPost w (fun j => w.heap.size ≤ j) pb g c L b (ofPart t kd ⟨#[]⟩ 0 R) = P := ⟨_, rfl⟩
  have HP : Hid (TPost w (fun j => w.heap.size ≤ j) pb g c L b (ofPart t kd ⟨#[]⟩ 0 R) = P) := hP
  rw [hP]
  unfold tv at HNX
  unfold z39 at HS0 HG0 HB0
  clear h hP ht hp1 hs hR hx
  go_enter Tryd.func58, Tryd.ntmps58
  go_wp2_with fail
  refine (HNX.out _ HS0.out).mono ?_
  rintro e w3 ⟨rfl, hp, hg⟩
  have HS3 : Hid (PS w3 pb g c L (p + 1) 0 b n) := hp
  have HG3 : Hid (Gr w w3 pb) := HG0.out.trans hg
  have HB3 : Hid (w3.heap[w.heap.size]? = some z39) := (hg.blk (by simp) HPL.out.1).trans HB0.out
  have HL3 : Hid (w.heap.size < w3.heap.size) := by show _ < _; have := hg.size; simp at this; omega
  clear hp hg
  go_wp2_with fail
  refine (HLA.out _ HS3.out (HSG.out.gr HG3.out)).mono ?_
  rcases R with ⟨k, ek⟩ | ⟨x, q, m⟩
  · rintro e w8 ⟨rfl, hg⟩
    refine ⟨rfl, ?_⟩
    rw [← HP.out]
    exact ⟨rfl, HG3.out.trans hg⟩
  rintro e w4 ⟨v, rfl, hes, hp, hg, hd, hm⟩
  obtain ⟨v1, v2, v3, rfl⟩ := hes.sl
  have HS4 : Hid (PS w4 pb g c L q 0 b m) := hp
  have HG4 : Hid (Gr w w4 pb) := HG3.out.trans hg
  have HB4 : Hid (w4.heap[w.heap.size]? = some z39) := (hg.blk HL3.out HPL.out.1).trans HB3.out
  have HL4 : Hid (w.heap.size < w4.heap.size) := Nat.lt_of_lt_of_le HL3.out hg.size
  have HE4 : Hid (ESlP w4 (fun j => w.heap.size < j) (.slice v1 v2 v3) x.args) := ESlP.mono hes (fun j hj => by have := HL3.out; have : w3.heap.size ≤ j := hj; omega)
  have HDM : Hid (x.deep ≤ 48 ∧ m ≤ 600) := ⟨hd, hm⟩
  clear hp hg hes hd hm
  unfold rxv rx
  go_wp2_with fail
  have BL7 := (Below.refl w4.heap.size w4).alloc (Nat.le_refl _) (.cells #[.int .i64 x.kind, .int .i64 x.num, .string x.name, .int .i64 x.op, .slice v1 v2 v3, .int .i64 (x.deep : Int)] 98)
  refine (makeS_any (fun j => w.heap.size < j) pb g c L q b m t kd ⟨#[]⟩ 0 [(x, .slice v1 v2 v3)] (.slice none 0 0) (.slice none 0 0) .leaf .leaf _ _ (HS4.out.below BL7) HDM.out.2 (PA.one w4 x _ ⟨_, _, _, rfl⟩ HDM.out.1 98) ?_ (SSlP.nil _ _) (SSlP.nil _ _) ?_ ?_).mono ?_
  · intro z hz
    simp at hz
    subst hz
    exact HE4.out.below BL7
  · intro j hj; have := HL4.out; simp at hj; omega
  · intro j hj; have := HPL.out; omega
  have HG7 : Gr w (w4.alloc (.cells #[.int .i64 x.kind, .int .i64 x.num, .string x.name, .int .i64 x.op, .slice v1 v2 v3, .int .i64 (x.deep : Int)] 98)) pb := HG4.out.alloc _
  have HB7 := (BL7.block _ HL4.out).trans HB4.out
  clear BL7
  generalize (w4.alloc (.cells #[.int .i64 x.kind, .int .i64 x.num, .string x.name, .int .i64 x.op, .slice v1 v2 v3, .int .i64 (x.deep : Int)] 98)) = w7 at HG7 HB7 ⊢
  show ∀ e w', TPost w7 (fun j => w.heap.size < j) pb g c L b (mkS t ⟨kd, ⟨#[]⟩, 0, erow [x], .leaf, .leaf⟩ q m) e w' → _
  unfold ofPart at HP
  dsimp only at HP
  unfold mkS at HP ⊢
  by_cases h6 : 600 < m + 1
  · rw [if_pos h6] at HP ⊢
    rintro e w8 ⟨rfl, hg⟩
    refine ⟨rfl, ?_⟩
    rw [← HP.out]
    exact ⟨rfl, HG7.trans hg⟩
  · rw [if_neg h6] at HP ⊢
    intro e w8 hep
    obtain ⟨v1, v2, v3, b1, b2, b3, e1, e2, e3, rfl, hb8, hs1, hs2⟩ := hep.give HG7 HB7 (Nat.le_refl _) (fun j hj => ⟨by omega, by omega⟩) HPL.out
    rw [HP.out] at hs2
    have HS1' : Hid ((set6 w8 w.heap.size (.int .i64 kd) (.string ⟨#[]⟩) (.int .i64 0) (.slice v1 v2 v3) (.slice b1 b2 b3) (.slice e1 e2 e3)).heap[w.heap.size]? = some (.cells #[.int .i64 kd, .string ⟨#[]⟩, .int .i64 0, .slice v1 v2 v3, .slice b1 b2 b3, .slice e1 e2 e3] 39)) := hs1
    have HS2' : Hid (P (.returned (.agg #[.int .i64 kd, .string ⟨#[]⟩, .int .i64 0, .slice v1 v2 v3, .slice b1 b2 b3, .slice e1 e2 e3])) (set6 w8 w.heap.size (.int .i64 kd) (.string ⟨#[]⟩) (.int .i64 0) (.slice v1 v2 v3) (.slice b1 b2 b3) (.slice e1 e2 e3))) := hs2
    obtain ⟨⟨a0, a1, a2, a3, a4, a5⟩, z0, z1, z2, z3, z4, z5⟩ := z39_c hb8
    clear hs1 hs2 hb8 hep HG7 HB7
    go_wp2
    exact bodyPost_ret (ret_stmt 4 Tryd.results58 _ w.heap.size rfl _ _ _ _ _ _ _ HS1'.out) rfl HS2'.out
end Go.Proofs.YtnofibjchhcmeabDoor
