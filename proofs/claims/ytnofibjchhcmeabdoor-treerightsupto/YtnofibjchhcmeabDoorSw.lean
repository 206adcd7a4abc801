/- Statements one behind the other, up to the end of a text. -/
import Derived.Test.YtnofibjchhcmeabDoorSv
namespace Go.Proofs.YtnofibjchhcmeabDoor
open Go.RowKit Go.Maps
set_option linter.unusedVariables false

/-- what is known of a statement outside of all blocks -/
def StOk (pb g c : Nat) (L : List Tok) : Prop := ∀ p n W, PS W pb g c L p 0 0 n → SG W pb → n ≤ 600 → (∀ k, stmtT L 0 p n ≠ .error (k, -1)) → Calls Tryd.prog 47 #[.pointer (some ⟨pb, 0, none⟩)] W (TPost W (fun j => W.heap.size ≤ j) pb g c L 0 (stmtT L 0 p n))
def OnlyTell (L : List Tok) : Prop := ∀ p, ¬ (tk L p).kind = 2 ∧ ∀ l ∈ [[118, 97, 114], [109], [105, 110, 116, 111], [115, 116, 111, 112], [105, 102], [119, 104, 105, 108, 101]], ¬ (tk L p).text = l
theorem stmt_tell {pb g c : Nat} {L : List Tok} (hE : TEnd L) (hx : ExOk pb g c L 0 (ex1 L)) (ho : OnlyTell L) : StOk pb g c L := by
  intro p n w h hs hn _
  obtain ⟨k2, hq⟩ := ho p
  have q1 := hq [118, 97, 114] (by simp)
  have q2 := hq [109] (by simp)
  have q3 := hq [105, 110, 116, 111] (by simp)
  have q4 := hq [115, 116, 111, 112] (by simp)
  have q5 := hq [105, 102] (by simp)
  have q6 := hq [119, 104, 105, 108, 101] (by simp)
  unfold stmtT
  show Calls _ _ _ _ (TPost _ _ _ _ _ _ _ (stmtP L (stmtF L (2 * L.length + 1) 1) (stmtF L (2 * L.length + 1) 2) 0 p n))
  unfold stmtP
  rw [if_neg k2, if_neg q1, if_neg q2]
  by_cases t1 : (tk L p).text = [101, 109, 105, 116]
  · rw [if_pos t1]
    exact stmt_emit p n w _ h hs k2 t1 fun V hV hS => tell_any hE hx 4 p n V hV hS hn (hE.text (by rw [t1]; simp))
  rw [if_neg t1]
  by_cases t2 : (tk L p).text = [102, 97, 105, 108]
  · rw [if_pos t2]
    exact stmt_fail p n w _ h hs k2 t2 fun V hV hS => tell_any hE hx 8 p n V hV hS hn (hE.text (by rw [t2]; simp))
  rw [if_neg t2, if_neg q3, if_neg q4, if_neg q5, if_neg q6]
  refine stmt_bad p n w h hs k2 ?_
  intro l hl
  simp at hl
  rcases hl with rfl | rfl | rfl | rfl | rfl | rfl | rfl | rfl
  · exact q1
  · exact q2
  · exact t1
  · exact t2
  · exact q3
  · exact q4
  · exact q5
  · exact q6

/-- a statement as it lies -/
structure RT where
  x : PT
  v : Value
  b : Value
  e : Value
def sc (y : RT) : List Value := [.int .i64 y.x.kind, .string y.x.name, .int .i64 y.x.cell, y.v, y.b, y.e]
def scs : List RT → List Value
  | [] => []
  | y :: l => sc y ++ scs l
theorem scs_app (a b : List RT) : scs (a ++ b) = scs a ++ scs b := by
  induction a with
  | nil => rfl
  | cons t a ih => simp [scs, ih]
theorem sc_one (y : RT) (h1 : Sl y.v) (h2 : Sl y.b) (h3 : Sl y.e) : ∀ u ∈ scs [y], u.oneCell' = true := by
  intro u hu
  obtain ⟨_, _, _, h1⟩ := h1
  obtain ⟨_, _, _, h2⟩ := h2
  obtain ⟨_, _, _, h3⟩ := h3
  simp [scs, sc] at hu
  rcases hu with rfl | rfl | rfl | rfl | rfl | rfl
  · rfl
  · rfl
  · rfl
  · rw [h1]; rfl
  · rw [h2]; rfl
  · rw [h3]; rfl
def SOwn (w : World) (base : Nat) (v : Value) (l : List RT) : Prop := w.ownsRow base 39 6 v l.length (scs l)
theorem SOwn.keep {w w' : World} {base : Nat} {v : Value} {l : List RT} (h : SOwn w base v l) (hb : ∀ k, base ≤ k → k < w.heap.size → w'.heap[k]? = w.heap[k]?) : SOwn w' base v l := by
  obtain ⟨h1, h2⟩ := h
  refine ⟨h1, ?_⟩
  rcases h2 with h2 | ⟨g, cap, cur, e1, e2, e3, e4⟩
  · exact Or.inl h2
  · refine Or.inr ⟨g, cap, cur, e1, e2, ?_, e4⟩
    have hg : g < w.heap.size := by
      rcases Nat.lt_or_ge g w.heap.size with h | h
      · exact h
      · rw [Array.getElem?_eq_none h] at e3; cases e3
    rw [hb g e2 hg]; exact e3
theorem SOwn.nil (w : World) (base : Nat) : SOwn w base (.slice none 0 0) [] := ⟨rfl, Or.inl ⟨rfl, rfl⟩⟩
theorem SOwn.sl {w : World} {base : Nat} {v : Value} {l : List RT} (h : SOwn w base v l) : Sl v := by
  obtain ⟨h1, h2⟩ := h
  rcases h2 with ⟨h2, _⟩ | ⟨g, cap, cur, e1, _⟩
  · exact ⟨_, _, _, h2⟩
  · exact ⟨_, _, _, e1⟩
/-- what lies behind a statement's slices -/
def TM (w : World) (ok : Nat → Prop) (y : RT) : Prop := ESlP w ok y.v y.x.args ∧ SSlP w ok y.b y.x.body ∧ SSlP w ok y.e y.x.els
theorem TM.keep {w w' : World} {ok : Nat → Prop} {y : RT} (h : TM w ok y) (hb : ∀ k, ok k → k < w.heap.size → w'.heap[k]? = w.heap[k]?) : TM w' ok y := ⟨h.1.keep hb, h.2.1.keep hb, h.2.2.keep hb⟩
theorem TM.mono {w : World} {ok ok' : Nat → Prop} {y : RT} (h : TM w ok y) (hl : ∀ k, ok k → ok' k) : TM w ok' y := ⟨h.1.mono hl, h.2.1.mono hl, h.2.2.mono hl⟩
theorem SAt.lt {w : World} {ok : Nat → Prop} {l : SL} {b o : Nat} (h : SAt w ok l b o) (hl : 0 < slen l) : b < w.heap.size := by
  cases l with
  | leaf => exact absurd hl (Nat.lt_irrefl 0)
  | inner i d v x r =>
    obtain ⟨k, s, c, a⟩ := d
    cases x with
    | leaf => exact World.block_lt_of_cell? w ⟨b, o, none⟩ h.1
    | inner j d' v' p q => exact World.block_lt_of_cell? w ⟨b, o, none⟩ h.1
theorem SAt.mono' {w : World} {ok ok' : Nat → Prop} (hl : ∀ k, ok k → k < w.heap.size → ok' k) (l : SL) : ∀ {b o : Nat}, SAt w ok l b o → SAt w ok' l b o := by
  induction l using sl_ind with
  | h0 => intro b o _; trivial
  | h1 i d v x r ihl ihr ih =>
    obtain ⟨k, s, c, a⟩ := d
    intro b o h
    cases x with
    | leaf =>
      obtain ⟨h1, h2, h3, ⟨u, h4, h5⟩, h6, h8, hr⟩ := h
      exact ⟨h1, h2, h3, ⟨u, h4, h5.mono' hl⟩, h6, h8, ih hr⟩
    | inner j d' v' p q =>
      obtain ⟨h1, h2, h3, ⟨u, h4, h5⟩, ⟨ad, cap, b', o', f1, f2, f3, f4, f5⟩, ⟨ad', cap', b'', o'', g1, g2, g3, g4, g5⟩, hr⟩ := h
      exact ⟨h1, h2, h3, ⟨u, h4, h5.mono' hl⟩, ⟨ad, cap, b', o', f1, f2, f3, fun q => ⟨(f4 q).1, hl _ (f4 q).2 (SAt.lt f5 q)⟩, ihl f5⟩, ⟨ad', cap', b'', o'', g1, g2, g3, fun q => ⟨(g4 q).1, hl _ (g4 q).2 (SAt.lt g5 q)⟩, ihr g5⟩, ih hr⟩
theorem SSlP.mono' {w : World} {ok ok' : Nat → Prop} {v : Value} {l : SL} (h : SSlP w ok v l) (hl : ∀ k, ok k → k < w.heap.size → ok' k) : SSlP w ok' v l := by
  obtain ⟨ad, cap, b, o, h1, h2, h3, h4, h5⟩ := h
  exact ⟨ad, cap, b, o, h1, h2, h3, fun q => ⟨(h4 q).1, hl _ (h4 q).2 (h5.lt q)⟩, h5.mono' hl l⟩
theorem TM.keep' {w w' : World} {ok ok' : Nat → Prop} {y : RT} (h : TM w ok y) (hb : ∀ k, ok k → k < w.heap.size → w'.heap[k]? = w.heap[k]? ∧ ok' k) : TM w' ok' y := by
  have h1 : TM w (fun k => ok k ∧ ok' k) y := ⟨h.1.mono' fun k a b => ⟨a, (hb k a b).2⟩, h.2.1.mono' fun k a b => ⟨a, (hb k a b).2⟩, h.2.2.mono' fun k a b => ⟨a, (hb k a b).2⟩⟩
  exact (h1.keep fun k a b => (hb k a.1 b).1).mono fun k a => a.2
theorem PS.blocks {w w' : World} {pb g c p o b n : Nat} {L : List Tok} (h : PS w pb g c L p o b n) (e : w'.heap[pb]? = w.heap[pb]?) (e2 : w'.heap[g]? = w.heap[g]?) (hs : w.heap.size ≤ w'.heap.size) : PS w' pb g c L p o b n :=
  ⟨(World.cell?_of_block (w := w) (a := ⟨pb, 0, none⟩) e).trans h.c0, (World.cell?_of_block (w := w) (a := ⟨pb, 1, none⟩) e).trans h.c1, (World.cell?_of_block (w := w) (a := ⟨pb, 2, none⟩) e).trans h.c2, (World.cell?_of_block (w := w) (a := ⟨pb, 3, none⟩) e).trans h.c3,
    (World.frozen?_of_block (w := w) (a := ⟨pb, 0, none⟩) e).trans h.f0, (World.frozen?_of_block (w := w) (a := ⟨pb, 1, none⟩) e).trans h.f1, (World.frozen?_of_block (w := w) (a := ⟨pb, 2, none⟩) e).trans h.f2, (World.frozen?_of_block (w := w) (a := ⟨pb, 3, none⟩) e).trans h.f3,
    Nat.lt_of_lt_of_le h.lt hs, Nat.lt_of_lt_of_le h.gl hs, h.ne, h.pl, h.lc, h.cm, h.tk.block e2⟩
theorem SAt.of_cells {w : World} {ok : Nat → Prop} {g : Nat} : ∀ (ys : List RT) (o : Nat), (∀ j u, (scs ys)[j]? = some u → w.cell? ⟨g, o + j, none⟩ = some u) → (∀ y ∈ ys, TM w ok y) → SAt w ok (srow (ys.map (·.x))) g o := by
  intro ys
  induction ys with
  | nil => intro o _ _; trivial
  | cons y ys ih =>
    intro o hc hs
    obtain ⟨h1, ⟨ad, cap, b', o', e1, e2, e3, e4, e5⟩, ⟨ad', cap', b'', o'', f1, f2, f3, f4, f5⟩⟩ := hs y (List.mem_cons_self ..)
    refine ⟨?_, ?_, ?_, ⟨y.v, ?_, h1⟩, ⟨ad, cap, b', o', ?_, e2, e3, e4, e5⟩, ⟨ad', cap', b'', o'', ?_, f2, f3, f4, f5⟩, ih (o + 6) (fun j u hj => ?_) (fun z hz => hs z (List.mem_cons_of_mem _ hz))⟩
    · exact hc 0 _ (by simp [scs, sc])
    · exact hc 1 _ (by simp [scs, sc])
    · exact hc 2 _ (by simp [scs, sc])
    · exact hc 3 _ (by simp [scs, sc])
    · rw [← e1]; exact hc 4 _ (by simp [scs, sc])
    · rw [← f1]; exact hc 5 _ (by simp [scs, sc])
    · have := hc (j + 6) u (by simp only [scs, sc] at hj ⊢; simpa using hj)
      rw [show o + 6 + j = o + (j + 6) by omega]
      exact this
theorem SOwn.ssl {w : World} {base : Nat} {ok : Nat → Prop} {v : Value} {ys : List RT} (h : SOwn w base v ys) (hb : ∀ k, base ≤ k → ok k) (hs : ∀ y ∈ ys, TM w ok y) : SSlP w ok v (srow (ys.map (·.x))) := by
  have hce := fun g => World.ownsRow.cells h (g := g)
  have hlen : slen (srow (ys.map (·.x))) = ys.length := by rw [slen_row, List.length_map]
  obtain ⟨h1, h2⟩ := h
  unfold SSlP
  rw [hlen]
  rcases h2 with ⟨h2, h3⟩ | ⟨g, cap, cur, e1, e2, e3, e4, e5, e6, e7⟩
  · have h0 : ys = [] := List.eq_nil_of_length_eq_zero h3
    subst h0
    exact ⟨none, 0, 0, 0, h2, Nat.le_refl _, Nat.zero_le _, fun q => absurd q (Nat.lt_irrefl 0), trivial⟩
  · refine ⟨some ⟨g, 0, none⟩, cap, g, 0, e1, e4, e5, fun _ => ⟨rfl, hb g (by omega)⟩, SAt.of_cells ys 0 (fun j u hj => ?_) hs⟩
    have := hce g (by rw [e1]; rfl) j u hj
    rw [← this]
    congr 1
    unfold Addr.add
    split <;> simp_all
theorem info39 : (Tryd.prog.info? 39).map (fun i => (i.zero, i.size, i.bytes)) = some (some (.agg #[.int .i64 0, .string ⟨#[]⟩, .int .i64 0, .slice none 0 0, .slice none 0 0, .slice none 0 0]), 6, 104) := by kernel_rfl

/-- what comes of a text's statements -/
def XPost (w : World) (ok : Nat → Prop) (pb : Nat) : TR → Ending → World → Prop
  | .error (k, er), e, w' => e = gaveUpT (k : Int) er ∧ Gr w w' pb
  | .ok (l, _, m), e, w' => ∃ v1 v2 v3, e = .returned (.slice v1 v2 v3) ∧ SSlP w' ok (.slice v1 v2 v3) (srow l) ∧ Gr w w' pb ∧ m ≤ 600
def preT (a : List PT) : TR → TR
  | .error e => .error e
  | .ok (l, q, m) => .ok (a ++ l, q, m)
theorem textF_succ (L : List Tok) (f p n : Nat) : textF L (f + 1) p n = if (tk L p).kind = 0 then .ok ([], p, n) else match stmtT L 0 p n with
    | .error e => .error e
    | .ok (x, q, m) => preT x (textF L f q m) := by
  conv => lhs; unfold textF
  split
  · rfl
  · rcases stmtT L 0 p n with e | ⟨x, q, m⟩
    · rfl
    · simp only
      rcases textF L f q m with e | ⟨l, r, i⟩ <;> rfl
theorem preT_pre (a b : List PT) (r : TR) : preT a (preT b r) = preT (a ++ b) r := by
  rcases r with e | ⟨l, q, m⟩
  · rfl
  · simp [preT]
theorem preT_nil (r : TR) : preT [] r = r := by
  rcases r with e | ⟨l, q, m⟩ <;> rfl

/-- what stands in memory while a text is read -/
def XS (w : World) (pb g c : Nat) (L : List Tok) (R : TR) (u : Value) (wr : World) : Prop :=
  ∃ (acc : List RT) (q m f : Nat), preT (acc.map (·.x)) (textF L f q m) = R ∧ acc.length ≤ q ∧ SOwn wr w.heap.size u acc ∧ (∀ y ∈ acc, TM wr (fun j => w.heap.size ≤ j ∧ some j ≠ u.ownBlock) y) ∧ PS wr pb g c L q 0 0 m ∧ m ≤ 600 ∧ Gr w wr pb

set_option maxRecDepth 100000 in
set_option maxHeartbeats 8000000 in
theorem text_any {pb g c : Nat} {L : List Tok} (hE : TEnd L) (hLL : L.length ≤ 8193) (hst : StOk pb g c L) (R : TR) (F : Nat) (w : World) (h : PS w pb g c L 0 0 0 0) (hs : SG w pb) (hR : textF L F 0 0 = R) (hfd : ∀ k, R ≠ .error (k, -1)) :
    Calls Tryd.prog 31 #[.pointer (some ⟨pb, 0, none⟩)] w (XPost w (fun j => w.heap.size ≤ j) pb R) := by
  obtain ⟨P, hP⟩ : ∃ P, XPost w (fun j => w.heap.size ≤ j) pb R = P := ⟨_, rfl⟩
  have HP : Hid (XPost w (fun j => w.heap.size ≤ j) pb R = P) := hP
  rw [hP]
  have HFD : Hid (∀ k, R ≠ .error (k, -1)) := hfd
  have HST : Hid (StOk pb g c L) := hst
  have HPL : Hid (pb < w.heap.size ∧ g < w.heap.size ∧ L.length ≤ 1000000) := ⟨h.lt, h.gl, by omega⟩
  have HSG : Hid (SG w pb) := hs
  have X0 : Hid (XS w pb g c L R (.slice none 0 0) w) := ⟨[], 0, 0, F, by rw [← hR]; exact preT_nil _, Nat.le_refl _, SOwn.nil _ _, (by intro y hy; cases hy), h, by omega, Gr.refl _ _⟩
  obtain ⟨i0, hi, hz0, hz1, hz2⟩ := info_parts info39
  have k0 := fld0
  clear h hs hP hR hfd hst
  go_enter Tryd.func31, Tryd.ntmps31
  go_wp2
  go_loopw [3] (fun u wr => Hid (XS w pb g c L R u wr)) (fun _ wr => match wr.cell? ⟨pb, 0, none⟩ with | some (.slice _ k _) => k | _ => 0)
  case atStart => exact X0
  case round =>
    clear X0
    obtain ⟨acc, q, m, f, hR, hacc, hown, htm, hp, hm, hg⟩ := hrel.out
    clear hrel
    obtain ⟨f', rfl⟩ : ∃ f', f = f' + 1 := by
      rcases f with _ | f'
      · exfalso; refine HFD.out 0 ?_; rw [← hR]; rfl
      · exact ⟨f', rfl⟩
    rw [textF_succ] at hR
    obtain ⟨t, ht⟩ : ∃ t, tk L q = t := ⟨_, rfl⟩
    have hlk := look_tk hp
    rw [ht] at hlk hR
    unfold tv at hlk
    obtain ⟨u31, u32, u33, rfl⟩ := hown.sl
    have HS1 : Hid (PS wr pb g c L q 0 0 m) := hp
    have HG1 : Hid (Gr w wr pb) := hg
    have HO1 : Hid (SOwn wr w.heap.size (.slice u31 u32 u33) acc) := hown
    have HT1 : Hid (∀ y ∈ acc, TM wr (fun j => w.heap.size ≤ j ∧ some j ≠ (Value.slice u31 u32 u33).ownBlock) y) := htm
    have HN : Hid (acc.length ≤ q ∧ m ≤ 600 ∧ q < L.length) := ⟨hacc, hm, hp.pl⟩
    clear hp hg hown htm hacc hm
    by_cases hk : t.kind = 0
    · rw [if_pos hk] at hR
      have HR : Hid (.ok (acc.map (·.x) ++ [], q, m) = R) := hR
      clear hR
      go_wp2_with fail
      refine hlk.mono ?_
      rintro e w2 ⟨rfl, hb⟩
      have HF : Hid (P (.returned (.slice u31 u32 u33)) w2) := by
        show P _ _
        rw [← HP.out, ← HR.out]
        refine ⟨u31, u32, u33, rfl, ?_, HG1.out.trans (Gr.below hb), HN.out.2.1⟩
        rw [List.append_nil]
        exact (HO1.out.keep fun j _ hj => hb.block j hj).ssl (fun k hk => hk) (fun y hy => ((HT1.out y hy).keep fun j _ hj => hb.block j hj).mono fun j hj => hj.1)
      clear hb
      go_wp2
      exact HF.out
    · rw [if_neg hk] at hR
      have HR : Hid (preT (acc.map (·.x)) (match stmtT L 0 q m with | .error e => .error e | .ok (x, q, m) => preT x (textF L f' q m)) = R) := hR
      clear hR
      go_wp2_with fail
      refine hlk.mono ?_
      rintro e w2 ⟨rfl, hb⟩
      have HS2 : Hid (PS w2 pb g c L q 0 0 m) := HS1.out.below hb
      have HG2 : Hid (Gr w w2 pb) := HG1.out.trans (Gr.below hb)
      have HO2 : Hid (SOwn w2 w.heap.size (.slice u31 u32 u33) acc) := HO1.out.keep fun j _ hj => hb.block j hj
      have HT2 : Hid (∀ y ∈ acc, TM w2 (fun j => w.heap.size ≤ j ∧ some j ≠ (Value.slice u31 u32 u33).ownBlock) y) := fun y hy => (HT1.out y hy).keep fun j _ hj => hb.block j hj
      obtain ⟨r1, er⟩ : ∃ r1, stmtT L 0 q m = r1 := ⟨_, rfl⟩
      rw [er] at HR
      have hfe : ∀ k, stmtT L 0 q m ≠ .error (k, -1) := by
        intro k e
        rw [er] at e
        rw [e] at HR
        exact HFD.out k HR.out.symm
      have hsc := HST.out q m w2 HS2.out (HSG.out.gr HG2.out) HN.out.2.1 hfe
      rw [er] at hsc
      have HQ : Hid (∀ x q2 m2, r1 = .ok (x, q2, m2) → q + 1 ≤ q2) := fun x q2 m2 e => ((stmtF_fwd L _).1 _ _ _ _ _ _ (er.trans e)).1
      clear hb hfe er
      go_wp2_with fail
      refine hsc.mono ?_
      clear hsc hlk
      rcases r1 with ⟨k, ek⟩ | ⟨l, q2, m2⟩
      · rintro e w3 ⟨rfl, hg⟩
        refine ⟨rfl, ?_⟩
        rw [← HP.out, ← HR.out]
        exact ⟨rfl, HG2.out.trans hg⟩
      rcases l with _ | ⟨x, _ | ⟨y, l⟩⟩
      · intro e w8 hep; exact hep.elim
      · rintro e w3 ⟨v1, v2, v3, b1, b2, b3, e1, e2, e3, rfl, hes, hbs, hels, hp, hg, hm⟩
        have hgk : ∀ j, w.heap.size ≤ j → j < w2.heap.size → w3.heap[j]? = w2.heap[j]? := fun j h1 h2 => hg.block j h2 (by intro e; cases e; have := HPL.out; omega)
        have hs2 : w.heap.size ≤ w2.heap.size := HG2.out.size
        have HO3 : Hid (w3.ownsRow w.heap.size 39 6 (.slice u31 u32 u33) acc.length (scs acc)) := HO2.out.keep hgk
        have HT3 : Hid (∀ y ∈ acc, TM w3 (fun j => w.heap.size ≤ j ∧ some j ≠ (Value.slice u31 u32 u33).ownBlock) y) := fun y hy => (HT2.out y hy).keep fun j hj => hgk j hj.1
        have hgo : ∀ j, w2.heap.size ≤ j → w.heap.size ≤ j ∧ some j ≠ (Value.slice u31 u32 u33).ownBlock := fun j hj => ⟨Nat.le_trans hs2 hj, fun e => by have := (World.ownsRow.lt HO2.out j e.symm).2; omega⟩
        have HY3 : Hid (TM w3 (fun j => w.heap.size ≤ j ∧ some j ≠ (Value.slice u31 u32 u33).ownBlock) ⟨x, .slice v1 v2 v3, .slice b1 b2 b3, .slice e1 e2 e3⟩) := ⟨hes.mono hgo, hbs.mono hgo, hels.mono hgo⟩
        have HS3 : Hid (PS w3 pb g c L q2 0 0 m2) := hp
        have HG3 : Hid (Gr w w3 pb) := HG2.out.trans hg
        have HM3 : Hid (m2 ≤ 600 ∧ q + 1 ≤ q2 ∧ q2 < L.length ∧ w.heap.size ≤ w3.heap.size) := ⟨hm, HQ.out _ _ _ rfl, hp.pl, HG3.out.size⟩
        have HOL : Hid (∀ k, (Value.slice u31 u32 u33).ownBlock = some k → w.heap.size ≤ k ∧ k < w3.heap.size) := World.ownsRow.lt HO3.out
        clear hes hbs hels hp hg hgk hs2 hm
        go_wp2_with (at_builtin; refine wpList_append_own_at _ rfl _ _ 27 rfl w.heap.size 39 i0 (.agg #[.int .i64 0, .string ⟨#[]⟩, .int .i64 0, .slice none 0 0, .slice none 0 0, .slice none 0 0]) 6 104 Tryd.underlying27 hi hz0 hz1 hz2 rfl (by decide) _ _ _ rfl (World.ownsRow.alloc HO3.out _) ⟨w3.heap.size, 0, none⟩ 1 1 (scs [⟨x, .slice v1 v2 v3, .slice b1 b2 b3, .slice e1 e2 e3⟩]) rfl rfl ?c1 ?c2 ?c3 ?c4 ?c5 ?_)
        case c1 =>
          intro j u hj
          match j, hj with
          | 0, hj => simp [scs, sc] at hj; subst hj; simp [Addr.add]
          | 1, hj => simp [scs, sc] at hj; subst hj; simp [Addr.add]
          | 2, hj => simp [scs, sc] at hj; subst hj; simp [Addr.add]
          | 3, hj => simp [scs, sc] at hj; subst hj; simp [Addr.add]
          | 4, hj => simp [scs, sc] at hj; subst hj; simp [Addr.add]
          | 5, hj => simp [scs, sc] at hj; subst hj; simp [Addr.add]
        case c2 => exact sc_one _ ⟨_, _, _, rfl⟩ ⟨_, _, _, rfl⟩ ⟨_, _, _, rfl⟩
        case c3 => have := HN.out; have := HPL.out; unfold maxLen; omega
        case c4 => have := HN.out; have := HPL.out; omega
        case c5 => have := HM3.out; simp; omega
        intro v' w4 hown' hgrow _ hloc
        have hsz := hgrow.size
        simp at hsz
        have hbl : ∀ j, j < w3.heap.size → some j ≠ (Value.slice u31 u32 u33).ownBlock → w4.heap[j]? = w3.heap[j]? := fun j h1 h2 => (hgrow.block j (by simp; omega) h2).trans (heap_alloc_old _ _ h1)
        have hown2 : SOwn w4 w.heap.size v' (acc ++ [⟨x, .slice v1 v2 v3, .slice b1 b2 b3, .slice e1 e2 e3⟩]) := by
          show w4.ownsRow _ _ _ _ _ _
          rw [List.length_append, scs_app]
          exact hown'
        have hok : ∀ j, (w.heap.size ≤ j ∧ some j ≠ (Value.slice u31 u32 u33).ownBlock) → j < w3.heap.size → (w.heap.size ≤ j ∧ some j ≠ v'.ownBlock) := by
          intro j h1 h2
          refine ⟨h1.1, fun e => ?_⟩
          rcases hloc with h3 | h3
          · rw [h3] at e; exact h1.2 e
          · rw [h3] at e; cases e; omega
        have htm : ∀ y ∈ acc ++ [⟨x, .slice v1 v2 v3, .slice b1 b2 b3, .slice e1 e2 e3⟩], TM w4 (fun j => w.heap.size ≤ j ∧ some j ≠ v'.ownBlock) y := by
          intro y hy
          have h0 : TM w3 (fun j => w.heap.size ≤ j ∧ some j ≠ (Value.slice u31 u32 u33).ownBlock) y := by
            rcases List.mem_append.1 hy with h | h
            · exact HT3.out y h
            · simp at h; subst h; exact HY3.out
          exact (h0.keep' fun j h1 h2 => ⟨hbl j h2 h1.2, hok j h1 h2⟩)
        have hps : PS w4 pb g c L q2 0 0 m2 := by
          have e1 := hbl pb HS3.out.lt (fun e => by have := (HOL.out pb e.symm).1; have := HPL.out; omega)
          have e2 := hbl g HS3.out.gl (fun e => by have := (HOL.out g e.symm).1; have := HPL.out; omega)
          exact HS3.out.blocks e1 e2 (by omega)
        have hgr : Gr w w4 pb := ⟨hgrow.os.trans HG3.out.os, hgrow.tape.trans HG3.out.tape, hgrow.output.trans HG3.out.output, by have := HG3.out.size; omega, fun j h1 h2 => (hbl j (by have := HG3.out.size; omega) (fun e => by have := (HOL.out j e.symm).1; omega)).trans (HG3.out.block j h1 h2)⟩
        have HXN : Hid (XS w pb g c L R v' w4) := by
          refine ⟨acc ++ [⟨x, .slice v1 v2 v3, .slice b1 b2 b3, .slice e1 e2 e3⟩], q2, m2, f', ?_, ?_, hown2, htm, hps, HM3.out.1, hgr⟩
          · rw [← HR.out]
            show _ = preT (acc.map (·.x)) (preT [x] (textF L f' q2 m2))
            rw [preT_pre, List.map_append]
            rfl
          · have := HN.out; have := HM3.out; simp; omega
        have HPN : Hid (w4.cell? ⟨pb, 0, none⟩ = some (.slice (some ⟨g, q2 * 4, none⟩) (L.length - q2) (c - q2))) := hps.c0
        have HPO : Hid (wr.cell? ⟨pb, 0, none⟩ = some (.slice (some ⟨g, q * 4, none⟩) (L.length - q) (c - q))) := HS1.out.c0
        clear hown' hgrow hloc hsz hbl hown2 hok htm hps hgr
        go_wp2
        go_roundw
        case rel => exact HXN
        case measure =>
          rw [HPN.out, HPO.out]
          have := HM3.out
          have := HN.out
          simp only
          omega
      · intro e w8 hep; exact hep.elim
end Go.Proofs.YtnofibjchhcmeabDoor
