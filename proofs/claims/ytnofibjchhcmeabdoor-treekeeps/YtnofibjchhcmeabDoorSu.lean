/- A statement that tells; a statement, as far as it is one of these. -/
import Derived.Test.YtnofibjchhcmeabDoorSt
namespace Go.Proofs.YtnofibjchhcmeabDoor
open Go.RowKit Go.Maps
set_option linter.unusedVariables false

theorem ESlP.monoP {w : World} {ok ok' : Nat → Prop} {v : Value} {l : EL} (h : ESlP w ok v l) (hl : ∀ k, ok k → ok' k) : ESlP w ok' v l := h.mono hl
theorem SAt.mono {w : World} {ok ok' : Nat → Prop} (hl : ∀ k, ok k → ok' k) (l : SL) : ∀ {b o : Nat}, SAt w ok l b o → SAt w ok' l b o := by
  induction l using sl_ind with
  | h0 => intro b o _; trivial
  | h1 i d v x r ihl ihr ih =>
    obtain ⟨k, s, c, a⟩ := d
    intro b o h
    cases x with
    | leaf =>
      obtain ⟨h1, h2, h3, ⟨u, h4, h5⟩, h6, h8, hr⟩ := h
      exact ⟨h1, h2, h3, ⟨u, h4, h5.mono hl⟩, h6, h8, ih hr⟩
    | inner j d' v' p q =>
      obtain ⟨h1, h2, h3, ⟨u, h4, h5⟩, ⟨ad, cap, b', o', f1, f2, f3, f4, f5⟩, ⟨ad', cap', b'', o'', g1, g2, g3, g4, g5⟩, hr⟩ := h
      exact ⟨h1, h2, h3, ⟨u, h4, h5.mono hl⟩, ⟨ad, cap, b', o', f1, f2, f3, fun q => ⟨(f4 q).1, hl _ (f4 q).2⟩, ihl f5⟩, ⟨ad', cap', b'', o'', g1, g2, g3, fun q => ⟨(g4 q).1, hl _ (g4 q).2⟩, ihr g5⟩, ih hr⟩
theorem SSlP.mono {w : World} {ok ok' : Nat → Prop} {v : Value} {l : SL} (h : SSlP w ok v l) (hl : ∀ k, ok k → ok' k) : SSlP w ok' v l := by
  obtain ⟨ad, cap, b, o, h1, h2, h3, h4, h5⟩ := h
  exact ⟨ad, cap, b, o, h1, h2, h3, fun q => ⟨(h4 q).1, hl _ (h4 q).2⟩, h5.mono hl l⟩
/-- a statement that a call hands back is stored where the result lies -/
theorem TPost.give {w W w' : World} {ok : Nat → Prop} {pb g c : Nat} {L : List Tok} {b q m k : Nat} {x : PT} {e : Ending} (h : TPost W ok pb g c L b (.ok ([x], q, m)) e w') (hg : Gr w W pb) (hk : W.heap[k]? = some z39) (hw : w.heap.size ≤ k) (hl : ∀ j, ok j → w.heap.size ≤ j ∧ j ≠ k) (hpb : pb < w.heap.size ∧ g < w.heap.size) :
    ∃ v1 v2 v3 b1 b2 b3 e1 e2 e3, e = .returned (.agg #[.int .i64 x.kind, .string x.name, .int .i64 x.cell, .slice v1 v2 v3, .slice b1 b2 b3, .slice e1 e2 e3]) ∧ w'.heap[k]? = some z39 ∧ (set6 w' k (.int .i64 x.kind) (.string x.name) (.int .i64 x.cell) (.slice v1 v2 v3) (.slice b1 b2 b3) (.slice e1 e2 e3)).heap[k]? = some (.cells #[.int .i64 x.kind, .string x.name, .int .i64 x.cell, .slice v1 v2 v3, .slice b1 b2 b3, .slice e1 e2 e3] 39) ∧
      TPost w (fun j => w.heap.size ≤ j) pb g c L b (.ok ([x], q, m)) (.returned (.agg #[.int .i64 x.kind, .string x.name, .int .i64 x.cell, .slice v1 v2 v3, .slice b1 b2 b3, .slice e1 e2 e3])) (set6 w' k (.int .i64 x.kind) (.string x.name) (.int .i64 x.cell) (.slice v1 v2 v3) (.slice b1 b2 b3) (.slice e1 e2 e3)) := by
  obtain ⟨v1, v2, v3, b1, b2, b3, e1, e2, e3, h1, h2, h3, h4, h5, h6, h7⟩ := h
  have hkl : k < W.heap.size := (Array.getElem?_eq_some_iff.1 hk).1
  have hb := (h6.blk hkl (by omega)).trans hk
  have hkk : ∀ (a0 a1 a2 a3 a4 a5 : Value) j, ok j → j < w'.heap.size → (set6 w' k a0 a1 a2 a3 a4 a5).heap[j]? = w'.heap[j]? := fun a0 a1 a2 a3 a4 a5 j h1 _ => set6_blk (hl j h1).2
  refine ⟨v1, v2, v3, b1, b2, b3, e1, e2, e3, h1, hb, put6 hb, v1, v2, v3, b1, b2, b3, e1, e2, e3, rfl, (h2.keep (hkk _ _ _ _ _ _)).mono fun j h => (hl j h).1, (h3.keep (hkk _ _ _ _ _ _)).mono fun j h => (hl j h).1, (h4.keep (hkk _ _ _ _ _ _)).mono fun j h => (hl j h).1, set6_ps h5 (by omega) (by omega), set6_gr (hg.trans h6) hw, h7⟩
theorem z39_c {W : World} {k : Nat} (h : W.heap[k]? = some z39) : (W.cell? ⟨k, 0, none⟩ = some (.int .i64 0) ∧ W.cell? ⟨k, 1, none⟩ = some (.string ⟨#[]⟩) ∧ W.cell? ⟨k, 2, none⟩ = some (.int .i64 0) ∧ W.cell? ⟨k, 3, none⟩ = some (.slice none 0 0) ∧ W.cell? ⟨k, 4, none⟩ = some (.slice none 0 0) ∧ W.cell? ⟨k, 5, none⟩ = some (.slice none 0 0)) ∧ W.frozen? ⟨k, 0, none⟩ = false ∧ W.frozen? ⟨k, 1, none⟩ = false ∧ W.frozen? ⟨k, 2, none⟩ = false ∧ W.frozen? ⟨k, 3, none⟩ = false ∧ W.frozen? ⟨k, 4, none⟩ = false ∧ W.frozen? ⟨k, 5, none⟩ = false := by
  unfold z39 at h
  exact ⟨c6 h, frozen_of_row W k 0 _ _ h, frozen_of_row W k 1 _ _ h, frozen_of_row W k 2 _ _ h, frozen_of_row W k 3 _ _ h, frozen_of_row W k 4 _ _ h, frozen_of_row W k 5 _ _ h⟩

set_option maxRecDepth 100000 in
set_option maxHeartbeats 4000000 in
theorem tell_any {pb g c : Nat} {L : List Tok} {b : Nat} (hE : TEnd L) (hx : ExOk pb g c L b (ex1 L)) (kd : Int) (p n : Nat) (w : World) (h : PS w pb g c L p 0 b n) (hs : SG w pb) (hn : n ≤ 600) (hp1 : p + 1 < L.length) :
    Calls Tryd.prog 58 #[.pointer (some ⟨pb, 0, none⟩), .int .i64 kd] w (TPost w (fun j => w.heap.size ≤ j) pb g c L b (tellP L kd p n)) := by
  have HS0 : Hid (PS (w.alloc z39) pb g c L p 0 b n) := h.below ((Below.refl _ _).alloc (Nat.le_refl _) _)
  have HG0 : Hid (Gr w (w.alloc z39) pb) := (Gr.refl w pb).alloc _
  have HB0 : Hid ((w.alloc z39).heap[w.heap.size]? = some z39) := heap_alloc_new _ _
  have HPL : Hid (pb < w.heap.size ∧ g < w.heap.size) := ⟨h.lt, h.gl⟩
  have HSG : Hid (SG w pb) := hs
  obtain ⟨t, ht⟩ : ∃ t, tk L p = t := ⟨_, rfl⟩
  have HNX : Hid (∀ W, PS W pb g c L p 0 b n → Calls Tryd.prog 75 #[.pointer (some ⟨pb, 0, none⟩)] W fun e w' => e = .returned (tv t) ∧ PS w' pb g c L (p + 1) 0 b n ∧ Gr W w' pb) := fun W hW => by have := next_tk hW hp1; rwa [ht] at this
  obtain ⟨R, hR⟩ : ∃ R, lastP L (p + 1) n = R := ⟨_, rfl⟩
  have HLA : Hid (∀ W, PS W pb g c L (p + 1) 0 b n → SG W pb → Calls Tryd.prog 80 #[.pointer (some ⟨pb, 0, none⟩)] W (EPost W W.heap.size pb g c L 0 b R)) := fun W hW hS => by have := last_any hE hx (p + 1) n W hW hS hn; rwa [hR] at this
  unfold tellP
  rw [ht, hR]
  obtain ⟨P, hP⟩ : ∃ P, TPost w (fun j => w.heap.size ≤ j) pb g c L b (ofPart t kd ⟨#[]⟩ 0 R) = P := ⟨_, rfl⟩
  have HP : Hid (TPost w (fun j => w.heap.size ≤ j) pb g c L b (ofPart t kd ⟨#[]⟩ 0 R) = P) := hP
  rw [hP]
  unfold tv at HNX
  unfold z39 at HS0 HG0 HB0
  clear h hP ht hp1 hs hR hx
  go_enter Tryd.func58, Tryd.ntmps58
  go_wp2_with fail
  refine (HNX.out _ HS0.out).mono ?_
  rintro e w3 ⟨rfl, hp, hg⟩
  have HS3 : Hid (PS w3 pb g c L (p + 1) 0 b n) := hp
  have HG3 : Hid (Gr w w3 pb) := HG0.out.trans hg
  have HB3 : Hid (w3.heap[w.heap.size]? = some z39) := (hg.blk (by simp) HPL.out.1).trans HB0.out
  have HL3 : Hid (w.heap.size < w3.heap.size) := by show _ < _; have := hg.size; simp at this; omega
  clear hp hg
  go_wp2_with fail
  refine (HLA.out _ HS3.out (HSG.out.gr HG3.out)).mono ?_
  rcases R with ⟨k, ek⟩ | ⟨x, q, m⟩
  · rintro e w8 ⟨rfl, hg⟩
    refine ⟨rfl, ?_⟩
    rw [← HP.out]
    exact ⟨rfl, HG3.out.trans hg⟩
  rintro e w4 ⟨v, rfl, hes, hp, hg, hd, hm⟩
  obtain ⟨v1, v2, v3, rfl⟩ := hes.sl
  have HS4 : Hid (PS w4 pb g c L q 0 b m) := hp
  have HG4 : Hid (Gr w w4 pb) := HG3.out.trans hg
  have HB4 : Hid (w4.heap[w.heap.size]? = some z39) := (hg.blk HL3.out HPL.out.1).trans HB3.out
  have HL4 : Hid (w.heap.size < w4.heap.size) := Nat.lt_of_lt_of_le HL3.out hg.size
  have HE4 : Hid (ESlP w4 (fun j => w.heap.size < j) (.slice v1 v2 v3) x.args) := ESlP.mono hes (fun j hj => by have := HL3.out; have : w3.heap.size ≤ j := hj; omega)
  have HDM : Hid (x.deep ≤ 48 ∧ m ≤ 600) := ⟨hd, hm⟩
  clear hp hg hes hd hm
  unfold rxv rx
  go_wp2_with fail
  have BL7 := (Below.refl w4.heap.size w4).alloc (Nat.le_refl _) (.cells #[.int .i64 x.kind, .int .i64 x.num, .string x.name, .int .i64 x.op, .slice v1 v2 v3, .int .i64 (x.deep : Int)] 98)
  refine (makeS_any (fun j => w.heap.size < j) pb g c L q b m t kd ⟨#[]⟩ 0 [(x, .slice v1 v2 v3)] (.slice none 0 0) (.slice none 0 0) .leaf .leaf _ _ (HS4.out.below BL7) HDM.out.2 (PA.one w4 x _ ⟨_, _, _, rfl⟩ HDM.out.1 98) ?_ (SSlP.nil _ _) (SSlP.nil _ _) ?_ ?_).mono ?_
  · intro z hz
    simp at hz
    subst hz
    exact HE4.out.below BL7
  · intro j hj; have := HL4.out; simp at hj; omega
  · intro j hj; have := HPL.out; omega
  have HG7 : Gr w (w4.alloc (.cells #[.int .i64 x.kind, .int .i64 x.num, .string x.name, .int .i64 x.op, .slice v1 v2 v3, .int .i64 (x.deep : Int)] 98)) pb := HG4.out.alloc _
  have HB7 := (BL7.block _ HL4.out).trans HB4.out
  clear BL7
  generalize (w4.alloc (.cells #[.int .i64 x.kind, .int .i64 x.num, .string x.name, .int .i64 x.op, .slice v1 v2 v3, .int .i64 (x.deep : Int)] 98)) = w7 at HG7 HB7 ⊢
  show ∀ e w', TPost w7 (fun j => w.heap.size < j) pb g c L b (mkS t ⟨kd, ⟨#[]⟩, 0, erow [x], .leaf, .leaf⟩ q m) e w' → _
  unfold ofPart at HP
  dsimp only at HP
  unfold mkS at HP ⊢
  by_cases h6 : 600 < m + 1
  · rw [if_pos h6] at HP ⊢
    rintro e w8 ⟨rfl, hg⟩
    refine ⟨rfl, ?_⟩
    rw [← HP.out]
    exact ⟨rfl, HG7.trans hg⟩
  · rw [if_neg h6] at HP ⊢
    intro e w8 hep
    obtain ⟨v1, v2, v3, b1, b2, b3, e1, e2, e3, rfl, hb8, hs1, hs2⟩ := hep.give HG7 HB7 (Nat.le_refl _) (fun j hj => ⟨by omega, by omega⟩) HPL.out
    rw [HP.out] at hs2
    have HS1' : Hid ((set6 w8 w.heap.size (.int .i64 kd) (.string ⟨#[]⟩) (.int .i64 0) (.slice v1 v2 v3) (.slice b1 b2 b3) (.slice e1 e2 e3)).heap[w.heap.size]? = some (.cells #[.int .i64 kd, .string ⟨#[]⟩, .int .i64 0, .slice v1 v2 v3, .slice b1 b2 b3, .slice e1 e2 e3] 39)) := hs1
    have HS2' : Hid (P (.returned (.agg #[.int .i64 kd, .string ⟨#[]⟩, .int .i64 0, .slice v1 v2 v3, .slice b1 b2 b3, .slice e1 e2 e3])) (set6 w8 w.heap.size (.int .i64 kd) (.string ⟨#[]⟩) (.int .i64 0) (.slice v1 v2 v3) (.slice b1 b2 b3) (.slice e1 e2 e3))) := hs2
    obtain ⟨⟨a0, a1, a2, a3, a4, a5⟩, z0, z1, z2, z3, z4, z5⟩ := z39_c hb8
    clear hs1 hs2 hb8 hep HG7 HB7
    go_wp2
    exact bodyPost_ret (ret_stmt 4 Tryd.results58 _ w.heap.size rfl _ _ _ _ _ _ _ HS1'.out) rfl HS2'.out
end Go.Proofs.YtnofibjchhcmeabDoor
