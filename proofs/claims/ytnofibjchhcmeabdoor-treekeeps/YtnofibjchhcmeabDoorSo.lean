/- A store. -/
import Derived.Test.YtnofibjchhcmeabDoorVa
import Derived.RegionDies
namespace Go.Proofs.YtnofibjchhcmeabDoor
open Go.RowKit Go.Maps
set_option linter.unusedVariables false

/-- behind the address -/
def storeR (t : Tok) (x : PE) : PR → TR
  | .error e => .error e
  | .ok (y, r, i) => mkS t ⟨3, ⟨#[]⟩, 0, erow [x, y], .leaf, .leaf⟩ r i
set_option maxRecDepth 100000 in
set_option maxHeartbeats 8000000 in
theorem store_any {pb g c : Nat} {L : List Tok} {b : Nat} (hE : TEnd L) (hx : ExOk pb g c L b (ex1 L)) (p n : Nat) (w : World) (h : PS w pb g c L p 0 b n) (hs : SG w pb) (hn : n ≤ 600) (hp1 : p + 1 < L.length) :
    Calls Tryd.prog 57 #[.pointer (some ⟨pb, 0, none⟩)] w (TPost w (fun j => w.heap.size ≤ j) pb g c L b (storeP L p n)) := by
  have HS0 : Hid (PS (w.alloc z39) pb g c L p 0 b n) := h.below ((Below.refl _ _).alloc (Nat.le_refl _) _)
  have HG0 : Hid (Gr w (w.alloc z39) pb) := (Gr.refl w pb).alloc _
  have HB0 : Hid ((w.alloc z39).heap[w.heap.size]? = some z39) := heap_alloc_new _ _
  have HPL : Hid (pb < w.heap.size ∧ g < w.heap.size) := ⟨h.lt, h.gl⟩
  have HSG : Hid (SG w pb) := hs
  obtain ⟨t, ht⟩ : ∃ t, tk L p = t := ⟨_, rfl⟩
  have HNX : Hid (∀ W, PS W pb g c L p 0 b n → Calls Tryd.prog 75 #[.pointer (some ⟨pb, 0, none⟩)] W fun e w' => e = .returned (tv t) ∧ PS w' pb g c L (p + 1) 0 b n ∧ Gr W w' pb) := fun W hW => by have := next_tk hW hp1; rwa [ht] at this
  obtain ⟨R, hR⟩ : ∃ R, withinT L [91] [93] (p + 1) n = R := ⟨_, rfl⟩
  have HWI : Hid (∀ W, PS W pb g c L (p + 1) 0 b n → SG W pb → Calls Tryd.prog 79 #[.pointer (some ⟨pb, 0, none⟩), .string ⟨#[91]⟩, .string ⟨#[93]⟩] W (EPost W W.heap.size pb g c L 0 b R)) := fun W hW hS => by have := within_any hE hx (ex1_fwd L) ⟨#[91]⟩ ⟨#[93]⟩ (by simp) (by simp) (p + 1) 0 n W hW hS hn (by omega) (withinP_fed fun _ => ex1_fed L _ _ _); exact hR ▸ this
  have HVA : Hid (∀ q m W, m ≤ 600 → PS W pb g c L q 0 b m → SG W pb → Calls Tryd.prog 77 #[.pointer (some ⟨pb, 0, none⟩)] W (EPost W W.heap.size pb g c L 0 b (valueP L q m))) := fun q m W hm hW hS => pvalue_any hE hx q m W hW hS hm
  obtain ⟨P, hP⟩ : ∃ P, TPost w (fun j => w.heap.size ≤ j) pb g c L b (storeP L p n) = P := ⟨_, rfl⟩
  rw [hP]
  unfold storeP at hP
  rw [ht, hR] at hP
  unfold tv at HNX
  unfold z39 at HS0 HG0 HB0
  clear h ht hp1 hs hR hx
  rcases R with ⟨k, ek⟩ | ⟨x, q, m⟩
  · have HP : Hid (TPost w (fun j => w.heap.size ≤ j) pb g c L b (.error (k, ek)) = P) := hP
    clear hP
    go_enter Tryd.func57, Tryd.ntmps57
    go_wp2_with fail
    refine (HNX.out _ HS0.out).mono ?_
    rintro e w1 ⟨rfl, hp, hg⟩
    have HS1 : Hid (PS (w1.alloc (tc4 t)) pb g c L (p + 1) 0 b n) := hp.below ((Below.refl _ _).alloc (Nat.le_refl _) _)
    have HG1 : Hid (Gr w (w1.alloc (tc4 t)) pb) := (HG0.out.trans hg).alloc _
    clear hp hg
    go_wp2_with fail
    refine (HWI.out _ HS1.out (HSG.out.gr HG1.out)).mono ?_
    rintro e w2 ⟨rfl, hg⟩
    refine ⟨rfl, ?_⟩
    rw [← HP.out]
    exact ⟨rfl, HG1.out.trans hg⟩
  obtain ⟨r2, hr2⟩ : ∃ r2, valueP L q m = r2 := ⟨_, rfl⟩
  have HP : Hid (TPost w (fun j => w.heap.size ≤ j) pb g c L b (storeR t x r2) = P) := by
    show _ = _
    dsimp only at hP
    rw [hr2] at hP
    rw [← hP]
    unfold storeR
    rcases r2 with e | ⟨y, r, i⟩ <;> rfl
  clear hP
  go_enter Tryd.func57, Tryd.ntmps57
  go_wp2_with fail
  refine (HNX.out _ HS0.out).mono ?_
  rintro e w1 ⟨rfl, hp, hg⟩
  have hs1 : w.heap.size < w1.heap.size := by have := hg.size; simp at this; omega
  have BL1 := (Below.refl w1.heap.size w1).alloc (Nat.le_refl _) (tc4 t)
  have HS1 : Hid (PS (w1.alloc (tc4 t)) pb g c L (p + 1) 0 b n) := hp.below BL1
  have HG1 : Hid (Gr w (w1.alloc (tc4 t)) pb) := (HG0.out.trans hg).alloc _
  have HB1 : Hid ((w1.alloc (tc4 t)).heap[w.heap.size]? = some z39) := (BL1.block _ hs1).trans ((hg.blk (by simp) HPL.out.1).trans HB0.out)
  have HT1 : Hid ((w1.alloc (tc4 t)).heap[w1.heap.size]? = some (tc4 t)) := heap_alloc_new _ _
  have HL1 : Hid (w.heap.size < w1.heap.size ∧ pb < w1.heap.size ∧ (w1.alloc (tc4 t)).heap.size = w1.heap.size + 1) := ⟨hs1, by have := HPL.out; omega, by simp⟩
  clear hp hg BL1 hs1
  go_wp2_with fail
  refine (HWI.out _ HS1.out (HSG.out.gr HG1.out)).mono ?_
  rintro e w2 ⟨v, rfl, hes, hp, hg, hd, hm⟩
  obtain ⟨v1, v2, v3, rfl⟩ := hes.sl
  have hg' : Gr (w1.alloc (tc4 t)) w2 pb := hg
  have BL2 := (Below.refl w2.heap.size w2).alloc (Nat.le_refl _) (pc (rx x (.slice v1 v2 v3)))
  have hs2 : w1.heap.size + 1 ≤ w2.heap.size := by have := hg'.size; have := HL1.out; omega
  have HS2 : Hid (PS (w2.alloc (pc (rx x (.slice v1 v2 v3)))) pb g c L q 0 b m) := hp.below BL2
  have HG2 : Hid (Gr w (w2.alloc (pc (rx x (.slice v1 v2 v3)))) pb) := (HG1.out.trans hg').alloc _
  have HB2 : Hid ((w2.alloc (pc (rx x (.slice v1 v2 v3)))).heap[w.heap.size]? = some z39) := (BL2.block _ (by have := HL1.out; omega)).trans ((hg'.blk (by have := HL1.out; omega) HPL.out.1).trans HB1.out)
  have T2 : (w2.alloc (pc (rx x (.slice v1 v2 v3)))).heap[w1.heap.size]? = some (tc4 t) := (BL2.block _ (by omega)).trans ((hg'.blk (by have := HL1.out; omega) HL1.out.2.1).trans HT1.out)
  have X2 : (w2.alloc (pc (rx x (.slice v1 v2 v3)))).heap[w2.heap.size]? = some (pc (rx x (.slice v1 v2 v3))) := heap_alloc_new _ _
  have HT2 : Hid ((w2.alloc (pc (rx x (.slice v1 v2 v3)))).heap[w1.heap.size]? = some (tc4 t)) := T2
  have HX2 : Hid ((w2.alloc (pc (rx x (.slice v1 v2 v3)))).heap[w2.heap.size]? = some (pc (rx x (.slice v1 v2 v3)))) := X2
  have HE2 : Hid (ESlP (w2.alloc (pc (rx x (.slice v1 v2 v3)))) (fun j => w.heap.size < j) (.slice v1 v2 v3) x.args) := (ESlP.mono hes (fun j hj => by have := HL1.out; have : (w1.alloc (tc4 t)).heap.size ≤ j := hj; omega)).below BL2
  have HL2 : Hid (w.heap.size < w2.heap.size ∧ w1.heap.size < w2.heap.size ∧ pb < w2.heap.size ∧ (w2.alloc (pc (rx x (.slice v1 v2 v3)))).heap.size = w2.heap.size + 1) := by have := HL1.out; exact ⟨by omega, by omega, by omega, by simp⟩
  have HDM : Hid (x.deep ≤ 48 ∧ m ≤ 600) := ⟨hd, hm⟩
  have HV2 : Hid (∀ W, PS W pb g c L q 0 b m → SG W pb → Calls Tryd.prog 77 #[.pointer (some ⟨pb, 0, none⟩)] W (EPost W W.heap.size pb g c L 0 b r2)) := fun W hW hS => by have := HVA.out q m W hm hW hS; rwa [hr2] at this
  clear hp hg hg' hes hd hm BL2 hs2 hr2 HVA HNX HWI
  unfold rxv rx
  go_wp2_with fail
  change Code.wp _ _ _ _ (w2.alloc (pc (rx x (.slice v1 v2 v3))))
  generalize w2.alloc (pc (rx x (.slice v1 v2 v3))) = W at *
  obtain ⟨t0, t1, t2, t3⟩ := tc4_c T2
  obtain ⟨d0, d1, d2, d3, d4, d5, _⟩ := pc_c X2
  unfold rx at d0 d1 d2 d3 d4 d5
  dsimp only at d0 d1 d2 d3 d4 d5
  rcases r2 with ⟨k, ek⟩ | ⟨y, r, i⟩
  · have HPE : Hid (∀ w', Gr w w' pb → P (gaveUpT (k : Int) ek) w') := fun w' hw => by rw [← HP.out]; exact ⟨rfl, hw⟩
    go_region_dies
    all_goals
      refine (HV2.out _ HS2.out.drew (HSG.out.gr HG2.out.drew)).mono ?_
      rintro e w3 ⟨rfl, hg⟩
      exact ⟨rfl, HPE.out _ (HG2.out.drew.trans hg)⟩
  go_region_dies
  · rename_i hK
    refine (HV2.out _ HS2.out.drew (HSG.out.gr HG2.out.drew)).mono ?_
    rintro e w3 ⟨u, rfl, hes, hp, hg, hd, hm⟩
    obtain ⟨u1, u2, u3, rfl⟩ := hes.sl
    unfold rxv rx
    refine hK _ _ ?_
    clear hK
    have hsz : W.heap.size ≤ w3.heap.size := hg.size
    have HB3 : Hid (w3.heap[w.heap.size]? = some z39) := (hg.blk (k := w.heap.size) (by have := HL2.out; show _ < W.heap.size; omega) HPL.out.1).trans HB2.out
    have T3 : w3.heap[w1.heap.size]? = some (tc4 t) := (hg.blk (k := w1.heap.size) (by have := HL2.out; show _ < W.heap.size; omega) HL1.out.2.1).trans HT2.out
    have X3 : w3.heap[w2.heap.size]? = some (pc (rx x (.slice v1 v2 v3))) := (hg.blk (k := w2.heap.size) (by have := HL2.out; show _ < W.heap.size; omega) HL2.out.2.2.1).trans HX2.out
    have HS3 : Hid (PS w3 pb g c L r 0 b i) := hp
    have HG3 : Hid (Gr w w3 pb) := HG2.out.drew.trans hg
    have HE3 : Hid (ESlP w3 (fun j => w.heap.size < j) (.slice v1 v2 v3) x.args) := ESlP.gr (w := W.drew) (ESlP.keep (w' := W.drew) HE2.out fun j hj hk => rfl) hg (fun j hj => by have := HPL.out; omega)
    have HF3 : Hid (ESlP w3 (fun j => w.heap.size < j) (.slice u1 u2 u3) y.args) := ESlP.mono hes (fun j hj => by have := HL2.out; have : W.heap.size ≤ j := hj; omega)
    have HL3 : Hid (w.heap.size < w3.heap.size) := by show _ < _; have := HL2.out; omega
    have HDN : Hid (y.deep ≤ 48 ∧ i ≤ 600) := ⟨hd, hm⟩
    obtain ⟨t0', t1', t2', t3'⟩ := tc4_c T3
    obtain ⟨d0', d1', d2', d3', d4', d5', _⟩ := pc_c X3
    unfold rx at d0' d1' d2' d3' d4' d5'
    dsimp only at d0' d1' d2' d3' d4' d5'
    have hl13 : w1.heap.size < w3.heap.size := by have := HL2.out; omega
    have ta := fun A : Obj => tc4_c ((heap_alloc_old w3 A hl13).trans T3)
    have ta0 := fun A => (ta A).1
    have ta1 := fun A => (ta A).2.1
    have ta2 := fun A => (ta A).2.2.1
    have ta3 := fun A => (ta A).2.2.2
    clear ta hl13
    clear hp hg hes hd hm hsz T3 X3 t0 t1 t2 t3 d0 d1 d2 d3 d4 d5
    refine wpAny_ready (rs := [6]) (by kernel_rfl) (by simp) ?_
    refine AllReady.cons rfl (fun K hK => ?_) AllReady.nil
    go_simp
    refine hK _ _ ?_
    clear hK K
    refine wpAny_ready (rs := [7]) (by kernel_rfl) (by simp) ?_
    refine AllReady.cons rfl (fun K hK => ?_) AllReady.nil
    go_simp
    have BL7 := (Below.refl w3.heap.size w3).alloc (Nat.le_refl _) (.cells #[.int .i64 x.kind, .int .i64 x.num, .string x.name, .int .i64 x.op, .slice v1 v2 v3, .int .i64 (x.deep : Int), .int .i64 y.kind, .int .i64 y.num, .string y.name, .int .i64 y.op, .slice u1 u2 u3, .int .i64 (y.deep : Int)] 98)
    refine (makeS_any (fun j => w.heap.size < j) pb g c L r b i t 3 ⟨#[]⟩ 0 [(x, .slice v1 v2 v3), (y, .slice u1 u2 u3)] (.slice none 0 0) (.slice none 0 0) .leaf .leaf _ _ (HS3.out.below BL7) HDN.out.2 (PA.two w3 x y _ _ ⟨_, _, _, rfl⟩ ⟨_, _, _, rfl⟩ HDM.out.1 HDN.out.1 98) ?_ (SSlP.nil _ _) (SSlP.nil _ _) ?_ ?_).mono ?_
    · intro z hz
      simp at hz
      rcases hz with rfl | rfl
      · exact HE3.out.below BL7
      · exact HF3.out.below BL7
    · intro j hj; have := HL3.out; simp at hj; omega
    · intro j hj; have := HPL.out; omega
    have HG7 : Gr w (w3.alloc (.cells #[.int .i64 x.kind, .int .i64 x.num, .string x.name, .int .i64 x.op, .slice v1 v2 v3, .int .i64 (x.deep : Int), .int .i64 y.kind, .int .i64 y.num, .string y.name, .int .i64 y.op, .slice u1 u2 u3, .int .i64 (y.deep : Int)] 98)) pb := HG3.out.alloc _
    have HB7 := (BL7.block _ HL3.out).trans HB3.out
    clear BL7
    generalize (w3.alloc (.cells #[.int .i64 x.kind, .int .i64 x.num, .string x.name, .int .i64 x.op, .slice v1 v2 v3, .int .i64 (x.deep : Int), .int .i64 y.kind, .int .i64 y.num, .string y.name, .int .i64 y.op, .slice u1 u2 u3, .int .i64 (y.deep : Int)] 98)) = w7 at HG7 HB7 ⊢
    show ∀ e w', TPost w7 (fun j => w.heap.size < j) pb g c L b (mkS t ⟨3, ⟨#[]⟩, 0, erow [x, y], .leaf, .leaf⟩ r i) e w' → _
    unfold storeR at HP
    dsimp only at HP
    unfold mkS at HP ⊢
    by_cases h6 : 600 < i + 1
    · rw [if_pos h6] at HP ⊢
      rintro e w8 ⟨rfl, hg⟩
      refine ⟨rfl, ?_⟩
      rw [← HP.out]
      exact ⟨rfl, HG7.trans hg⟩
    · rw [if_neg h6] at HP ⊢
      intro e w8 hep
      obtain ⟨q1, q2, q3, b1, b2, b3, e1, e2, e3, rfl, hb8, hs1, hs2⟩ := hep.give HG7 HB7 (Nat.le_refl _) (fun j hj => ⟨by omega, by omega⟩) HPL.out
      rw [HP.out] at hs2
      have HS1' : Hid ((set6 w8 w.heap.size (.int .i64 3) (.string ⟨#[]⟩) (.int .i64 0) (.slice q1 q2 q3) (.slice b1 b2 b3) (.slice e1 e2 e3)).heap[w.heap.size]? = some (.cells #[.int .i64 3, .string ⟨#[]⟩, .int .i64 0, .slice q1 q2 q3, .slice b1 b2 b3, .slice e1 e2 e3] 39)) := hs1
      have HS2' : Hid (P (.returned (.agg #[.int .i64 3, .string ⟨#[]⟩, .int .i64 0, .slice q1 q2 q3, .slice b1 b2 b3, .slice e1 e2 e3])) (set6 w8 w.heap.size (.int .i64 3) (.string ⟨#[]⟩) (.int .i64 0) (.slice q1 q2 q3) (.slice b1 b2 b3) (.slice e1 e2 e3))) := hs2
      obtain ⟨⟨a0, a1, a2, a3, a4, a5⟩, z0, z1, z2, z3, z4, z5⟩ := z39_c hb8
      clear hs1 hs2 hb8 hep HG7 HB7
      refine hK _ _ ?_
      clear hK K
      refine wpAny_ready (rs := [8]) (by kernel_rfl) (by simp) ?_
      refine AllReady.cons rfl (fun K hK => ?_) AllReady.nil
      go_simp
      refine hK _ _ ?_
      clear hK K
      refine wpAny_done (by kernel_rfl) ?_ _
      go_wp2
      exact bodyPost_ret (ret_stmt 2 Tryd.results57 _ w.heap.size rfl _ _ _ _ _ _ _ HS1'.out) rfl HS2'.out
  · rename_i hK
    refine (HV2.out _ HS2.out.drew (HSG.out.gr HG2.out.drew)).mono ?_
    rintro e w3 ⟨u, rfl, hes, hp, hg, hd, hm⟩
    obtain ⟨u1, u2, u3, rfl⟩ := hes.sl
    unfold rxv rx
    refine hK _ _ ?_
    clear hK
    have hsz : W.heap.size ≤ w3.heap.size := hg.size
    have HB3 : Hid (w3.heap[w.heap.size]? = some z39) := (hg.blk (k := w.heap.size) (by have := HL2.out; show _ < W.heap.size; omega) HPL.out.1).trans HB2.out
    have T3 : w3.heap[w1.heap.size]? = some (tc4 t) := (hg.blk (k := w1.heap.size) (by have := HL2.out; show _ < W.heap.size; omega) HL1.out.2.1).trans HT2.out
    have X3 : w3.heap[w2.heap.size]? = some (pc (rx x (.slice v1 v2 v3))) := (hg.blk (k := w2.heap.size) (by have := HL2.out; show _ < W.heap.size; omega) HL2.out.2.2.1).trans HX2.out
    have HS3 : Hid (PS w3 pb g c L r 0 b i) := hp
    have HG3 : Hid (Gr w w3 pb) := HG2.out.drew.trans hg
    have HE3 : Hid (ESlP w3 (fun j => w.heap.size < j) (.slice v1 v2 v3) x.args) := ESlP.gr (w := W.drew) (ESlP.keep (w' := W.drew) HE2.out fun j hj hk => rfl) hg (fun j hj => by have := HPL.out; omega)
    have HF3 : Hid (ESlP w3 (fun j => w.heap.size < j) (.slice u1 u2 u3) y.args) := ESlP.mono hes (fun j hj => by have := HL2.out; have : W.heap.size ≤ j := hj; omega)
    have HL3 : Hid (w.heap.size < w3.heap.size) := by show _ < _; have := HL2.out; omega
    have HDN : Hid (y.deep ≤ 48 ∧ i ≤ 600) := ⟨hd, hm⟩
    obtain ⟨t0', t1', t2', t3'⟩ := tc4_c T3
    obtain ⟨d0', d1', d2', d3', d4', d5', _⟩ := pc_c X3
    unfold rx at d0' d1' d2' d3' d4' d5'
    dsimp only at d0' d1' d2' d3' d4' d5'
    have hl13 : w1.heap.size < w3.heap.size := by have := HL2.out; omega
    have ta := fun A : Obj => tc4_c ((heap_alloc_old w3 A hl13).trans T3)
    have ta0 := fun A => (ta A).1
    have ta1 := fun A => (ta A).2.1
    have ta2 := fun A => (ta A).2.2.1
    have ta3 := fun A => (ta A).2.2.2
    clear ta hl13
    clear hp hg hes hd hm hsz T3 X3 t0 t1 t2 t3 d0 d1 d2 d3 d4 d5
    refine wpAny_ready (rs := [3]) (by kernel_rfl) (by simp) ?_
    refine AllReady.cons rfl (fun K hK => ?_) AllReady.nil
    go_simp
    refine hK _ _ ?_
    clear hK K
    refine wpAny_ready (rs := [6]) (by kernel_rfl) (by simp) ?_
    refine AllReady.cons rfl (fun K hK => ?_) AllReady.nil
    go_simp
    refine hK _ _ ?_
    clear hK K
    refine wpAny_ready (rs := [7]) (by kernel_rfl) (by simp) ?_
    refine AllReady.cons rfl (fun K hK => ?_) AllReady.nil
    go_simp
    have BL7 := (Below.refl w3.heap.size w3).alloc (Nat.le_refl _) (.cells #[.int .i64 x.kind, .int .i64 x.num, .string x.name, .int .i64 x.op, .slice v1 v2 v3, .int .i64 (x.deep : Int), .int .i64 y.kind, .int .i64 y.num, .string y.name, .int .i64 y.op, .slice u1 u2 u3, .int .i64 (y.deep : Int)] 98)
    refine (makeS_any (fun j => w.heap.size < j) pb g c L r b i t 3 ⟨#[]⟩ 0 [(x, .slice v1 v2 v3), (y, .slice u1 u2 u3)] (.slice none 0 0) (.slice none 0 0) .leaf .leaf _ _ (HS3.out.below BL7) HDN.out.2 (PA.two w3 x y _ _ ⟨_, _, _, rfl⟩ ⟨_, _, _, rfl⟩ HDM.out.1 HDN.out.1 98) ?_ (SSlP.nil _ _) (SSlP.nil _ _) ?_ ?_).mono ?_
    · intro z hz
      simp at hz
      rcases hz with rfl | rfl
      · exact HE3.out.below BL7
      · exact HF3.out.below BL7
    · intro j hj; have := HL3.out; simp at hj; omega
    · intro j hj; have := HPL.out; omega
    have HG7 : Gr w (w3.alloc (.cells #[.int .i64 x.kind, .int .i64 x.num, .string x.name, .int .i64 x.op, .slice v1 v2 v3, .int .i64 (x.deep : Int), .int .i64 y.kind, .int .i64 y.num, .string y.name, .int .i64 y.op, .slice u1 u2 u3, .int .i64 (y.deep : Int)] 98)) pb := HG3.out.alloc _
    have HB7 := (BL7.block _ HL3.out).trans HB3.out
    clear BL7
    generalize (w3.alloc (.cells #[.int .i64 x.kind, .int .i64 x.num, .string x.name, .int .i64 x.op, .slice v1 v2 v3, .int .i64 (x.deep : Int), .int .i64 y.kind, .int .i64 y.num, .string y.name, .int .i64 y.op, .slice u1 u2 u3, .int .i64 (y.deep : Int)] 98)) = w7 at HG7 HB7 ⊢
    show ∀ e w', TPost w7 (fun j => w.heap.size < j) pb g c L b (mkS t ⟨3, ⟨#[]⟩, 0, erow [x, y], .leaf, .leaf⟩ r i) e w' → _
    unfold storeR at HP
    dsimp only at HP
    unfold mkS at HP ⊢
    by_cases h6 : 600 < i + 1
    · rw [if_pos h6] at HP ⊢
      rintro e w8 ⟨rfl, hg⟩
      refine ⟨rfl, ?_⟩
      rw [← HP.out]
      exact ⟨rfl, HG7.trans hg⟩
    · rw [if_neg h6] at HP ⊢
      intro e w8 hep
      obtain ⟨q1, q2, q3, b1, b2, b3, e1, e2, e3, rfl, hb8, hs1, hs2⟩ := hep.give HG7 HB7 (Nat.le_refl _) (fun j hj => ⟨by omega, by omega⟩) HPL.out
      rw [HP.out] at hs2
      have HS1' : Hid ((set6 w8 w.heap.size (.int .i64 3) (.string ⟨#[]⟩) (.int .i64 0) (.slice q1 q2 q3) (.slice b1 b2 b3) (.slice e1 e2 e3)).heap[w.heap.size]? = some (.cells #[.int .i64 3, .string ⟨#[]⟩, .int .i64 0, .slice q1 q2 q3, .slice b1 b2 b3, .slice e1 e2 e3] 39)) := hs1
      have HS2' : Hid (P (.returned (.agg #[.int .i64 3, .string ⟨#[]⟩, .int .i64 0, .slice q1 q2 q3, .slice b1 b2 b3, .slice e1 e2 e3])) (set6 w8 w.heap.size (.int .i64 3) (.string ⟨#[]⟩) (.int .i64 0) (.slice q1 q2 q3) (.slice b1 b2 b3) (.slice e1 e2 e3))) := hs2
      obtain ⟨⟨a0, a1, a2, a3, a4, a5⟩, z0, z1, z2, z3, z4, z5⟩ := z39_c hb8
      clear hs1 hs2 hb8 hep HG7 HB7
      refine hK _ _ ?_
      clear hK K
      refine wpAny_ready (rs := [8]) (by kernel_rfl) (by simp) ?_
      refine AllReady.cons rfl (fun K hK => ?_) AllReady.nil
      go_simp
      refine hK _ _ ?_
      clear hK K
      refine wpAny_done (by kernel_rfl) ?_ _
      go_wp2
      exact bodyPost_ret (ret_stmt 2 Tryd.results57 _ w.heap.size rfl _ _ _ _ _ _ _ HS1'.out) rfl HS2'.out
  · rename_i hK
    refine (HV2.out _ HS2.out.drew (HSG.out.gr HG2.out.drew)).mono ?_
    rintro e w3 ⟨u, rfl, hes, hp, hg, hd, hm⟩
    obtain ⟨u1, u2, u3, rfl⟩ := hes.sl
    unfold rxv rx
    refine hK _ _ ?_
    clear hK
    have hsz : W.heap.size ≤ w3.heap.size := hg.size
    have HB3 : Hid (w3.heap[w.heap.size]? = some z39) := (hg.blk (k := w.heap.size) (by have := HL2.out; show _ < W.heap.size; omega) HPL.out.1).trans HB2.out
    have T3 : w3.heap[w1.heap.size]? = some (tc4 t) := (hg.blk (k := w1.heap.size) (by have := HL2.out; show _ < W.heap.size; omega) HL1.out.2.1).trans HT2.out
    have X3 : w3.heap[w2.heap.size]? = some (pc (rx x (.slice v1 v2 v3))) := (hg.blk (k := w2.heap.size) (by have := HL2.out; show _ < W.heap.size; omega) HL2.out.2.2.1).trans HX2.out
    have HS3 : Hid (PS w3 pb g c L r 0 b i) := hp
    have HG3 : Hid (Gr w w3 pb) := HG2.out.drew.trans hg
    have HE3 : Hid (ESlP w3 (fun j => w.heap.size < j) (.slice v1 v2 v3) x.args) := ESlP.gr (w := W.drew) (ESlP.keep (w' := W.drew) HE2.out fun j hj hk => rfl) hg (fun j hj => by have := HPL.out; omega)
    have HF3 : Hid (ESlP w3 (fun j => w.heap.size < j) (.slice u1 u2 u3) y.args) := ESlP.mono hes (fun j hj => by have := HL2.out; have : W.heap.size ≤ j := hj; omega)
    have HL3 : Hid (w.heap.size < w3.heap.size) := by show _ < _; have := HL2.out; omega
    have HDN : Hid (y.deep ≤ 48 ∧ i ≤ 600) := ⟨hd, hm⟩
    obtain ⟨t0', t1', t2', t3'⟩ := tc4_c T3
    obtain ⟨d0', d1', d2', d3', d4', d5', _⟩ := pc_c X3
    unfold rx at d0' d1' d2' d3' d4' d5'
    dsimp only at d0' d1' d2' d3' d4' d5'
    have hl13 : w1.heap.size < w3.heap.size := by have := HL2.out; omega
    have ta := fun A : Obj => tc4_c ((heap_alloc_old w3 A hl13).trans T3)
    have ta0 := fun A => (ta A).1
    have ta1 := fun A => (ta A).2.1
    have ta2 := fun A => (ta A).2.2.1
    have ta3 := fun A => (ta A).2.2.2
    clear ta hl13
    clear hp hg hes hd hm hsz T3 X3 t0 t1 t2 t3 d0 d1 d2 d3 d4 d5
    refine wpAny_ready (rs := [6]) (by kernel_rfl) (by simp) ?_
    refine AllReady.cons rfl (fun K hK => ?_) AllReady.nil
    go_simp
    refine hK _ _ ?_
    clear hK K
    refine wpAny_ready (rs := [7]) (by kernel_rfl) (by simp) ?_
    refine AllReady.cons rfl (fun K hK => ?_) AllReady.nil
    go_simp
    have BL7 := (Below.refl w3.heap.size w3).alloc (Nat.le_refl _) (.cells #[.int .i64 x.kind, .int .i64 x.num, .string x.name, .int .i64 x.op, .slice v1 v2 v3, .int .i64 (x.deep : Int), .int .i64 y.kind, .int .i64 y.num, .string y.name, .int .i64 y.op, .slice u1 u2 u3, .int .i64 (y.deep : Int)] 98)
    refine (makeS_any (fun j => w.heap.size < j) pb g c L r b i t 3 ⟨#[]⟩ 0 [(x, .slice v1 v2 v3), (y, .slice u1 u2 u3)] (.slice none 0 0) (.slice none 0 0) .leaf .leaf _ _ (HS3.out.below BL7) HDN.out.2 (PA.two w3 x y _ _ ⟨_, _, _, rfl⟩ ⟨_, _, _, rfl⟩ HDM.out.1 HDN.out.1 98) ?_ (SSlP.nil _ _) (SSlP.nil _ _) ?_ ?_).mono ?_
    · intro z hz
      simp at hz
      rcases hz with rfl | rfl
      · exact HE3.out.below BL7
      · exact HF3.out.below BL7
    · intro j hj; have := HL3.out; simp at hj; omega
    · intro j hj; have := HPL.out; omega
    have HG7 : Gr w (w3.alloc (.cells #[.int .i64 x.kind, .int .i64 x.num, .string x.name, .int .i64 x.op, .slice v1 v2 v3, .int .i64 (x.deep : Int), .int .i64 y.kind, .int .i64 y.num, .string y.name, .int .i64 y.op, .slice u1 u2 u3, .int .i64 (y.deep : Int)] 98)) pb := HG3.out.alloc _
    have HB7 := (BL7.block _ HL3.out).trans HB3.out
    clear BL7
    generalize (w3.alloc (.cells #[.int .i64 x.kind, .int .i64 x.num, .string x.name, .int .i64 x.op, .slice v1 v2 v3, .int .i64 (x.deep : Int), .int .i64 y.kind, .int .i64 y.num, .string y.name, .int .i64 y.op, .slice u1 u2 u3, .int .i64 (y.deep : Int)] 98)) = w7 at HG7 HB7 ⊢
    show ∀ e w', TPost w7 (fun j => w.heap.size < j) pb g c L b (mkS t ⟨3, ⟨#[]⟩, 0, erow [x, y], .leaf, .leaf⟩ r i) e w' → _
    unfold storeR at HP
    dsimp only at HP
    unfold mkS at HP ⊢
    by_cases h6 : 600 < i + 1
    · rw [if_pos h6] at HP ⊢
      rintro e w8 ⟨rfl, hg⟩
      refine ⟨rfl, ?_⟩
      rw [← HP.out]
      exact ⟨rfl, HG7.trans hg⟩
    · rw [if_neg h6] at HP ⊢
      intro e w8 hep
      obtain ⟨q1, q2, q3, b1, b2, b3, e1, e2, e3, rfl, hb8, hs1, hs2⟩ := hep.give HG7 HB7 (Nat.le_refl _) (fun j hj => ⟨by omega, by omega⟩) HPL.out
      rw [HP.out] at hs2
      have HS1' : Hid ((set6 w8 w.heap.size (.int .i64 3) (.string ⟨#[]⟩) (.int .i64 0) (.slice q1 q2 q3) (.slice b1 b2 b3) (.slice e1 e2 e3)).heap[w.heap.size]? = some (.cells #[.int .i64 3, .string ⟨#[]⟩, .int .i64 0, .slice q1 q2 q3, .slice b1 b2 b3, .slice e1 e2 e3] 39)) := hs1
      have HS2' : Hid (P (.returned (.agg #[.int .i64 3, .string ⟨#[]⟩, .int .i64 0, .slice q1 q2 q3, .slice b1 b2 b3, .slice e1 e2 e3])) (set6 w8 w.heap.size (.int .i64 3) (.string ⟨#[]⟩) (.int .i64 0) (.slice q1 q2 q3) (.slice b1 b2 b3) (.slice e1 e2 e3))) := hs2
      obtain ⟨⟨a0, a1, a2, a3, a4, a5⟩, z0, z1, z2, z3, z4, z5⟩ := z39_c hb8
      clear hs1 hs2 hb8 hep HG7 HB7
      refine hK _ _ ?_
      clear hK K
      refine wpAny_ready (rs := [8]) (by kernel_rfl) (by simp) ?_
      refine AllReady.cons rfl (fun K hK => ?_) AllReady.nil
      go_simp
      refine hK _ _ ?_
      clear hK K
      refine wpAny_done (by kernel_rfl) ?_ _
      go_wp2
      exact bodyPost_ret (ret_stmt 2 Tryd.results57 _ w.heap.size rfl _ _ _ _ _ _ _ HS1'.out) rfl HS2'.out
  · rename_i hK
    refine (HV2.out _ HS2.out.drew (HSG.out.gr HG2.out.drew)).mono ?_
    rintro e w3 ⟨u, rfl, hes, hp, hg, hd, hm⟩
    obtain ⟨u1, u2, u3, rfl⟩ := hes.sl
    unfold rxv rx
    refine hK _ _ ?_
    clear hK
    have hsz : W.heap.size ≤ w3.heap.size := hg.size
    have HB3 : Hid (w3.heap[w.heap.size]? = some z39) := (hg.blk (k := w.heap.size) (by have := HL2.out; show _ < W.heap.size; omega) HPL.out.1).trans HB2.out
    have T3 : w3.heap[w1.heap.size]? = some (tc4 t) := (hg.blk (k := w1.heap.size) (by have := HL2.out; show _ < W.heap.size; omega) HL1.out.2.1).trans HT2.out
    have X3 : w3.heap[w2.heap.size]? = some (pc (rx x (.slice v1 v2 v3))) := (hg.blk (k := w2.heap.size) (by have := HL2.out; show _ < W.heap.size; omega) HL2.out.2.2.1).trans HX2.out
    have HS3 : Hid (PS w3 pb g c L r 0 b i) := hp
    have HG3 : Hid (Gr w w3 pb) := HG2.out.drew.trans hg
    have HE3 : Hid (ESlP w3 (fun j => w.heap.size < j) (.slice v1 v2 v3) x.args) := ESlP.gr (w := W.drew) (ESlP.keep (w' := W.drew) HE2.out fun j hj hk => rfl) hg (fun j hj => by have := HPL.out; omega)
    have HF3 : Hid (ESlP w3 (fun j => w.heap.size < j) (.slice u1 u2 u3) y.args) := ESlP.mono hes (fun j hj => by have := HL2.out; have : W.heap.size ≤ j := hj; omega)
    have HL3 : Hid (w.heap.size < w3.heap.size) := by show _ < _; have := HL2.out; omega
    have HDN : Hid (y.deep ≤ 48 ∧ i ≤ 600) := ⟨hd, hm⟩
    obtain ⟨t0', t1', t2', t3'⟩ := tc4_c T3
    obtain ⟨d0', d1', d2', d3', d4', d5', _⟩ := pc_c X3
    unfold rx at d0' d1' d2' d3' d4' d5'
    dsimp only at d0' d1' d2' d3' d4' d5'
    have hl13 : w1.heap.size < w3.heap.size := by have := HL2.out; omega
    have ta := fun A : Obj => tc4_c ((heap_alloc_old w3 A hl13).trans T3)
    have ta0 := fun A => (ta A).1
    have ta1 := fun A => (ta A).2.1
    have ta2 := fun A => (ta A).2.2.1
    have ta3 := fun A => (ta A).2.2.2
    clear ta hl13
    clear hp hg hes hd hm hsz T3 X3 t0 t1 t2 t3 d0 d1 d2 d3 d4 d5
    refine wpAny_ready (rs := [1, 6]) (by kernel_rfl) (by simp) ?_
    refine AllReady.cons rfl (fun K hK => ?_) (AllReady.cons rfl (fun K hK => ?_) AllReady.nil)
    · go_simp
      refine hK _ _ ?_
      clear hK K
      refine wpAny_ready (rs := [6]) (by kernel_rfl) (by simp) ?_
      refine AllReady.cons rfl (fun K hK => ?_) AllReady.nil
      go_simp
      refine hK _ _ ?_
      clear hK K
      refine wpAny_ready (rs := [7]) (by kernel_rfl) (by simp) ?_
      refine AllReady.cons rfl (fun K hK => ?_) AllReady.nil
      go_simp
      have BL7 := (Below.refl w3.heap.size w3).alloc (Nat.le_refl _) (.cells #[.int .i64 x.kind, .int .i64 x.num, .string x.name, .int .i64 x.op, .slice v1 v2 v3, .int .i64 (x.deep : Int), .int .i64 y.kind, .int .i64 y.num, .string y.name, .int .i64 y.op, .slice u1 u2 u3, .int .i64 (y.deep : Int)] 98)
      refine (makeS_any (fun j => w.heap.size < j) pb g c L r b i t 3 ⟨#[]⟩ 0 [(x, .slice v1 v2 v3), (y, .slice u1 u2 u3)] (.slice none 0 0) (.slice none 0 0) .leaf .leaf _ _ (HS3.out.below BL7) HDN.out.2 (PA.two w3 x y _ _ ⟨_, _, _, rfl⟩ ⟨_, _, _, rfl⟩ HDM.out.1 HDN.out.1 98) ?_ (SSlP.nil _ _) (SSlP.nil _ _) ?_ ?_).mono ?_
      · intro z hz
        simp at hz
        rcases hz with rfl | rfl
        · exact HE3.out.below BL7
        · exact HF3.out.below BL7
      · intro j hj; have := HL3.out; simp at hj; omega
      · intro j hj; have := HPL.out; omega
      have HG7 : Gr w (w3.alloc (.cells #[.int .i64 x.kind, .int .i64 x.num, .string x.name, .int .i64 x.op, .slice v1 v2 v3, .int .i64 (x.deep : Int), .int .i64 y.kind, .int .i64 y.num, .string y.name, .int .i64 y.op, .slice u1 u2 u3, .int .i64 (y.deep : Int)] 98)) pb := HG3.out.alloc _
      have HB7 := (BL7.block _ HL3.out).trans HB3.out
      clear BL7
      generalize (w3.alloc (.cells #[.int .i64 x.kind, .int .i64 x.num, .string x.name, .int .i64 x.op, .slice v1 v2 v3, .int .i64 (x.deep : Int), .int .i64 y.kind, .int .i64 y.num, .string y.name, .int .i64 y.op, .slice u1 u2 u3, .int .i64 (y.deep : Int)] 98)) = w7 at HG7 HB7 ⊢
      show ∀ e w', TPost w7 (fun j => w.heap.size < j) pb g c L b (mkS t ⟨3, ⟨#[]⟩, 0, erow [x, y], .leaf, .leaf⟩ r i) e w' → _
      unfold storeR at HP
      dsimp only at HP
      unfold mkS at HP ⊢
      by_cases h6 : 600 < i + 1
      · rw [if_pos h6] at HP ⊢
        rintro e w8 ⟨rfl, hg⟩
        refine ⟨rfl, ?_⟩
        rw [← HP.out]
        exact ⟨rfl, HG7.trans hg⟩
      · rw [if_neg h6] at HP ⊢
        intro e w8 hep
        obtain ⟨q1, q2, q3, b1, b2, b3, e1, e2, e3, rfl, hb8, hs1, hs2⟩ := hep.give HG7 HB7 (Nat.le_refl _) (fun j hj => ⟨by omega, by omega⟩) HPL.out
        rw [HP.out] at hs2
        have HS1' : Hid ((set6 w8 w.heap.size (.int .i64 3) (.string ⟨#[]⟩) (.int .i64 0) (.slice q1 q2 q3) (.slice b1 b2 b3) (.slice e1 e2 e3)).heap[w.heap.size]? = some (.cells #[.int .i64 3, .string ⟨#[]⟩, .int .i64 0, .slice q1 q2 q3, .slice b1 b2 b3, .slice e1 e2 e3] 39)) := hs1
        have HS2' : Hid (P (.returned (.agg #[.int .i64 3, .string ⟨#[]⟩, .int .i64 0, .slice q1 q2 q3, .slice b1 b2 b3, .slice e1 e2 e3])) (set6 w8 w.heap.size (.int .i64 3) (.string ⟨#[]⟩) (.int .i64 0) (.slice q1 q2 q3) (.slice b1 b2 b3) (.slice e1 e2 e3))) := hs2
        obtain ⟨⟨a0, a1, a2, a3, a4, a5⟩, z0, z1, z2, z3, z4, z5⟩ := z39_c hb8
        clear hs1 hs2 hb8 hep HG7 HB7
        refine hK _ _ ?_
        clear hK K
        refine wpAny_ready (rs := [8]) (by kernel_rfl) (by simp) ?_
        refine AllReady.cons rfl (fun K hK => ?_) AllReady.nil
        go_simp
        refine hK _ _ ?_
        clear hK K
        refine wpAny_done (by kernel_rfl) ?_ _
        go_wp2
        exact bodyPost_ret (ret_stmt 2 Tryd.results57 _ w.heap.size rfl _ _ _ _ _ _ _ HS1'.out) rfl HS2'.out
    · go_simp
      refine hK _ _ ?_
      clear hK K
      refine wpAny_ready (rs := [1]) (by kernel_rfl) (by simp) ?_
      refine AllReady.cons rfl (fun K hK => ?_) AllReady.nil
      go_simp
      refine hK _ _ ?_
      clear hK K
      refine wpAny_ready (rs := [7]) (by kernel_rfl) (by simp) ?_
      refine AllReady.cons rfl (fun K hK => ?_) AllReady.nil
      go_simp
      have BL7 := (Below.refl w3.heap.size w3).alloc (Nat.le_refl _) (.cells #[.int .i64 x.kind, .int .i64 x.num, .string x.name, .int .i64 x.op, .slice v1 v2 v3, .int .i64 (x.deep : Int), .int .i64 y.kind, .int .i64 y.num, .string y.name, .int .i64 y.op, .slice u1 u2 u3, .int .i64 (y.deep : Int)] 98)
      refine (makeS_any (fun j => w.heap.size < j) pb g c L r b i t 3 ⟨#[]⟩ 0 [(x, .slice v1 v2 v3), (y, .slice u1 u2 u3)] (.slice none 0 0) (.slice none 0 0) .leaf .leaf _ _ (HS3.out.below BL7) HDN.out.2 (PA.two w3 x y _ _ ⟨_, _, _, rfl⟩ ⟨_, _, _, rfl⟩ HDM.out.1 HDN.out.1 98) ?_ (SSlP.nil _ _) (SSlP.nil _ _) ?_ ?_).mono ?_
      · intro z hz
        simp at hz
        rcases hz with rfl | rfl
        · exact HE3.out.below BL7
        · exact HF3.out.below BL7
      · intro j hj; have := HL3.out; simp at hj; omega
      · intro j hj; have := HPL.out; omega
      have HG7 : Gr w (w3.alloc (.cells #[.int .i64 x.kind, .int .i64 x.num, .string x.name, .int .i64 x.op, .slice v1 v2 v3, .int .i64 (x.deep : Int), .int .i64 y.kind, .int .i64 y.num, .string y.name, .int .i64 y.op, .slice u1 u2 u3, .int .i64 (y.deep : Int)] 98)) pb := HG3.out.alloc _
      have HB7 := (BL7.block _ HL3.out).trans HB3.out
      clear BL7
      generalize (w3.alloc (.cells #[.int .i64 x.kind, .int .i64 x.num, .string x.name, .int .i64 x.op, .slice v1 v2 v3, .int .i64 (x.deep : Int), .int .i64 y.kind, .int .i64 y.num, .string y.name, .int .i64 y.op, .slice u1 u2 u3, .int .i64 (y.deep : Int)] 98)) = w7 at HG7 HB7 ⊢
      show ∀ e w', TPost w7 (fun j => w.heap.size < j) pb g c L b (mkS t ⟨3, ⟨#[]⟩, 0, erow [x, y], .leaf, .leaf⟩ r i) e w' → _
      unfold storeR at HP
      dsimp only at HP
      unfold mkS at HP ⊢
      by_cases h6 : 600 < i + 1
      · rw [if_pos h6] at HP ⊢
        rintro e w8 ⟨rfl, hg⟩
        refine ⟨rfl, ?_⟩
        rw [← HP.out]
        exact ⟨rfl, HG7.trans hg⟩
      · rw [if_neg h6] at HP ⊢
        intro e w8 hep
        obtain ⟨q1, q2, q3, b1, b2, b3, e1, e2, e3, rfl, hb8, hs1, hs2⟩ := hep.give HG7 HB7 (Nat.le_refl _) (fun j hj => ⟨by omega, by omega⟩) HPL.out
        rw [HP.out] at hs2
        have HS1' : Hid ((set6 w8 w.heap.size (.int .i64 3) (.string ⟨#[]⟩) (.int .i64 0) (.slice q1 q2 q3) (.slice b1 b2 b3) (.slice e1 e2 e3)).heap[w.heap.size]? = some (.cells #[.int .i64 3, .string ⟨#[]⟩, .int .i64 0, .slice q1 q2 q3, .slice b1 b2 b3, .slice e1 e2 e3] 39)) := hs1
        have HS2' : Hid (P (.returned (.agg #[.int .i64 3, .string ⟨#[]⟩, .int .i64 0, .slice q1 q2 q3, .slice b1 b2 b3, .slice e1 e2 e3])) (set6 w8 w.heap.size (.int .i64 3) (.string ⟨#[]⟩) (.int .i64 0) (.slice q1 q2 q3) (.slice b1 b2 b3) (.slice e1 e2 e3))) := hs2
        obtain ⟨⟨a0, a1, a2, a3, a4, a5⟩, z0, z1, z2, z3, z4, z5⟩ := z39_c hb8
        clear hs1 hs2 hb8 hep HG7 HB7
        refine hK _ _ ?_
        clear hK K
        refine wpAny_ready (rs := [8]) (by kernel_rfl) (by simp) ?_
        refine AllReady.cons rfl (fun K hK => ?_) AllReady.nil
        go_simp
        refine hK _ _ ?_
        clear hK K
        refine wpAny_done (by kernel_rfl) ?_ _
        go_wp2
        exact bodyPost_ret (ret_stmt 2 Tryd.results57 _ w.heap.size rfl _ _ _ _ _ _ _ HS1'.out) rfl HS2'.out
  · rename_i hK
    refine (HV2.out _ HS2.out.drew (HSG.out.gr HG2.out.drew)).mono ?_
    rintro e w3 ⟨u, rfl, hes, hp, hg, hd, hm⟩
    obtain ⟨u1, u2, u3, rfl⟩ := hes.sl
    unfold rxv rx
    refine hK _ _ ?_
    clear hK
    have hsz : W.heap.size ≤ w3.heap.size := hg.size
    have HB3 : Hid (w3.heap[w.heap.size]? = some z39) := (hg.blk (k := w.heap.size) (by have := HL2.out; show _ < W.heap.size; omega) HPL.out.1).trans HB2.out
    have T3 : w3.heap[w1.heap.size]? = some (tc4 t) := (hg.blk (k := w1.heap.size) (by have := HL2.out; show _ < W.heap.size; omega) HL1.out.2.1).trans HT2.out
    have X3 : w3.heap[w2.heap.size]? = some (pc (rx x (.slice v1 v2 v3))) := (hg.blk (k := w2.heap.size) (by have := HL2.out; show _ < W.heap.size; omega) HL2.out.2.2.1).trans HX2.out
    have HS3 : Hid (PS w3 pb g c L r 0 b i) := hp
    have HG3 : Hid (Gr w w3 pb) := HG2.out.drew.trans hg
    have HE3 : Hid (ESlP w3 (fun j => w.heap.size < j) (.slice v1 v2 v3) x.args) := ESlP.gr (w := W.drew) (ESlP.keep (w' := W.drew) HE2.out fun j hj hk => rfl) hg (fun j hj => by have := HPL.out; omega)
    have HF3 : Hid (ESlP w3 (fun j => w.heap.size < j) (.slice u1 u2 u3) y.args) := ESlP.mono hes (fun j hj => by have := HL2.out; have : W.heap.size ≤ j := hj; omega)
    have HL3 : Hid (w.heap.size < w3.heap.size) := by show _ < _; have := HL2.out; omega
    have HDN : Hid (y.deep ≤ 48 ∧ i ≤ 600) := ⟨hd, hm⟩
    obtain ⟨t0', t1', t2', t3'⟩ := tc4_c T3
    obtain ⟨d0', d1', d2', d3', d4', d5', _⟩ := pc_c X3
    unfold rx at d0' d1' d2' d3' d4' d5'
    dsimp only at d0' d1' d2' d3' d4' d5'
    have hl13 : w1.heap.size < w3.heap.size := by have := HL2.out; omega
    have ta := fun A : Obj => tc4_c ((heap_alloc_old w3 A hl13).trans T3)
    have ta0 := fun A => (ta A).1
    have ta1 := fun A => (ta A).2.1
    have ta2 := fun A => (ta A).2.2.1
    have ta3 := fun A => (ta A).2.2.2
    clear ta hl13
    clear hp hg hes hd hm hsz T3 X3 t0 t1 t2 t3 d0 d1 d2 d3 d4 d5
    refine wpAny_ready (rs := [1, 3]) (by kernel_rfl) (by simp) ?_
    refine AllReady.cons rfl (fun K hK => ?_) (AllReady.cons rfl (fun K hK => ?_) AllReady.nil)
    · go_simp
      refine hK _ _ ?_
      clear hK K
      refine wpAny_ready (rs := [3]) (by kernel_rfl) (by simp) ?_
      refine AllReady.cons rfl (fun K hK => ?_) AllReady.nil
      go_simp
      refine hK _ _ ?_
      clear hK K
      refine wpAny_ready (rs := [6]) (by kernel_rfl) (by simp) ?_
      refine AllReady.cons rfl (fun K hK => ?_) AllReady.nil
      go_simp
      refine hK _ _ ?_
      clear hK K
      refine wpAny_ready (rs := [7]) (by kernel_rfl) (by simp) ?_
      refine AllReady.cons rfl (fun K hK => ?_) AllReady.nil
      go_simp
      have BL7 := (Below.refl w3.heap.size w3).alloc (Nat.le_refl _) (.cells #[.int .i64 x.kind, .int .i64 x.num, .string x.name, .int .i64 x.op, .slice v1 v2 v3, .int .i64 (x.deep : Int), .int .i64 y.kind, .int .i64 y.num, .string y.name, .int .i64 y.op, .slice u1 u2 u3, .int .i64 (y.deep : Int)] 98)
      refine (makeS_any (fun j => w.heap.size < j) pb g c L r b i t 3 ⟨#[]⟩ 0 [(x, .slice v1 v2 v3), (y, .slice u1 u2 u3)] (.slice none 0 0) (.slice none 0 0) .leaf .leaf _ _ (HS3.out.below BL7) HDN.out.2 (PA.two w3 x y _ _ ⟨_, _, _, rfl⟩ ⟨_, _, _, rfl⟩ HDM.out.1 HDN.out.1 98) ?_ (SSlP.nil _ _) (SSlP.nil _ _) ?_ ?_).mono ?_
      · intro z hz
        simp at hz
        rcases hz with rfl | rfl
        · exact HE3.out.below BL7
        · exact HF3.out.below BL7
      · intro j hj; have := HL3.out; simp at hj; omega
      · intro j hj; have := HPL.out; omega
      have HG7 : Gr w (w3.alloc (.cells #[.int .i64 x.kind, .int .i64 x.num, .string x.name, .int .i64 x.op, .slice v1 v2 v3, .int .i64 (x.deep : Int), .int .i64 y.kind, .int .i64 y.num, .string y.name, .int .i64 y.op, .slice u1 u2 u3, .int .i64 (y.deep : Int)] 98)) pb := HG3.out.alloc _
      have HB7 := (BL7.block _ HL3.out).trans HB3.out
      clear BL7
      generalize (w3.alloc (.cells #[.int .i64 x.kind, .int .i64 x.num, .string x.name, .int .i64 x.op, .slice v1 v2 v3, .int .i64 (x.deep : Int), .int .i64 y.kind, .int .i64 y.num, .string y.name, .int .i64 y.op, .slice u1 u2 u3, .int .i64 (y.deep : Int)] 98)) = w7 at HG7 HB7 ⊢
      show ∀ e w', TPost w7 (fun j => w.heap.size < j) pb g c L b (mkS t ⟨3, ⟨#[]⟩, 0, erow [x, y], .leaf, .leaf⟩ r i) e w' → _
      unfold storeR at HP
      dsimp only at HP
      unfold mkS at HP ⊢
      by_cases h6 : 600 < i + 1
      · rw [if_pos h6] at HP ⊢
        rintro e w8 ⟨rfl, hg⟩
        refine ⟨rfl, ?_⟩
        rw [← HP.out]
        exact ⟨rfl, HG7.trans hg⟩
      · rw [if_neg h6] at HP ⊢
        intro e w8 hep
        obtain ⟨q1, q2, q3, b1, b2, b3, e1, e2, e3, rfl, hb8, hs1, hs2⟩ := hep.give HG7 HB7 (Nat.le_refl _) (fun j hj => ⟨by omega, by omega⟩) HPL.out
        rw [HP.out] at hs2
        have HS1' : Hid ((set6 w8 w.heap.size (.int .i64 3) (.string ⟨#[]⟩) (.int .i64 0) (.slice q1 q2 q3) (.slice b1 b2 b3) (.slice e1 e2 e3)).heap[w.heap.size]? = some (.cells #[.int .i64 3, .string ⟨#[]⟩, .int .i64 0, .slice q1 q2 q3, .slice b1 b2 b3, .slice e1 e2 e3] 39)) := hs1
        have HS2' : Hid (P (.returned (.agg #[.int .i64 3, .string ⟨#[]⟩, .int .i64 0, .slice q1 q2 q3, .slice b1 b2 b3, .slice e1 e2 e3])) (set6 w8 w.heap.size (.int .i64 3) (.string ⟨#[]⟩) (.int .i64 0) (.slice q1 q2 q3) (.slice b1 b2 b3) (.slice e1 e2 e3))) := hs2
        obtain ⟨⟨a0, a1, a2, a3, a4, a5⟩, z0, z1, z2, z3, z4, z5⟩ := z39_c hb8
        clear hs1 hs2 hb8 hep HG7 HB7
        refine hK _ _ ?_
        clear hK K
        refine wpAny_ready (rs := [8]) (by kernel_rfl) (by simp) ?_
        refine AllReady.cons rfl (fun K hK => ?_) AllReady.nil
        go_simp
        refine hK _ _ ?_
        clear hK K
        refine wpAny_done (by kernel_rfl) ?_ _
        go_wp2
        exact bodyPost_ret (ret_stmt 2 Tryd.results57 _ w.heap.size rfl _ _ _ _ _ _ _ HS1'.out) rfl HS2'.out
    · go_simp
      refine hK _ _ ?_
      clear hK K
      refine wpAny_ready (rs := [1, 6]) (by kernel_rfl) (by simp) ?_
      refine AllReady.cons rfl (fun K hK => ?_) (AllReady.cons rfl (fun K hK => ?_) AllReady.nil)
      · go_simp
        refine hK _ _ ?_
        clear hK K
        refine wpAny_ready (rs := [6]) (by kernel_rfl) (by simp) ?_
        refine AllReady.cons rfl (fun K hK => ?_) AllReady.nil
        go_simp
        refine hK _ _ ?_
        clear hK K
        refine wpAny_ready (rs := [7]) (by kernel_rfl) (by simp) ?_
        refine AllReady.cons rfl (fun K hK => ?_) AllReady.nil
        go_simp
        have BL7 := (Below.refl w3.heap.size w3).alloc (Nat.le_refl _) (.cells #[.int .i64 x.kind, .int .i64 x.num, .string x.name, .int .i64 x.op, .slice v1 v2 v3, .int .i64 (x.deep : Int), .int .i64 y.kind, .int .i64 y.num, .string y.name, .int .i64 y.op, .slice u1 u2 u3, .int .i64 (y.deep : Int)] 98)
        refine (makeS_any (fun j => w.heap.size < j) pb g c L r b i t 3 ⟨#[]⟩ 0 [(x, .slice v1 v2 v3), (y, .slice u1 u2 u3)] (.slice none 0 0) (.slice none 0 0) .leaf .leaf _ _ (HS3.out.below BL7) HDN.out.2 (PA.two w3 x y _ _ ⟨_, _, _, rfl⟩ ⟨_, _, _, rfl⟩ HDM.out.1 HDN.out.1 98) ?_ (SSlP.nil _ _) (SSlP.nil _ _) ?_ ?_).mono ?_
        · intro z hz
          simp at hz
          rcases hz with rfl | rfl
          · exact HE3.out.below BL7
          · exact HF3.out.below BL7
        · intro j hj; have := HL3.out; simp at hj; omega
        · intro j hj; have := HPL.out; omega
        have HG7 : Gr w (w3.alloc (.cells #[.int .i64 x.kind, .int .i64 x.num, .string x.name, .int .i64 x.op, .slice v1 v2 v3, .int .i64 (x.deep : Int), .int .i64 y.kind, .int .i64 y.num, .string y.name, .int .i64 y.op, .slice u1 u2 u3, .int .i64 (y.deep : Int)] 98)) pb := HG3.out.alloc _
        have HB7 := (BL7.block _ HL3.out).trans HB3.out
        clear BL7
        generalize (w3.alloc (.cells #[.int .i64 x.kind, .int .i64 x.num, .string x.name, .int .i64 x.op, .slice v1 v2 v3, .int .i64 (x.deep : Int), .int .i64 y.kind, .int .i64 y.num, .string y.name, .int .i64 y.op, .slice u1 u2 u3, .int .i64 (y.deep : Int)] 98)) = w7 at HG7 HB7 ⊢
        show ∀ e w', TPost w7 (fun j => w.heap.size < j) pb g c L b (mkS t ⟨3, ⟨#[]⟩, 0, erow [x, y], .leaf, .leaf⟩ r i) e w' → _
        unfold storeR at HP
        dsimp only at HP
        unfold mkS at HP ⊢
        by_cases h6 : 600 < i + 1
        · rw [if_pos h6] at HP ⊢
          rintro e w8 ⟨rfl, hg⟩
          refine ⟨rfl, ?_⟩
          rw [← HP.out]
          exact ⟨rfl, HG7.trans hg⟩
        · rw [if_neg h6] at HP ⊢
          intro e w8 hep
          obtain ⟨q1, q2, q3, b1, b2, b3, e1, e2, e3, rfl, hb8, hs1, hs2⟩ := hep.give HG7 HB7 (Nat.le_refl _) (fun j hj => ⟨by omega, by omega⟩) HPL.out
          rw [HP.out] at hs2
          have HS1' : Hid ((set6 w8 w.heap.size (.int .i64 3) (.string ⟨#[]⟩) (.int .i64 0) (.slice q1 q2 q3) (.slice b1 b2 b3) (.slice e1 e2 e3)).heap[w.heap.size]? = some (.cells #[.int .i64 3, .string ⟨#[]⟩, .int .i64 0, .slice q1 q2 q3, .slice b1 b2 b3, .slice e1 e2 e3] 39)) := hs1
          have HS2' : Hid (P (.returned (.agg #[.int .i64 3, .string ⟨#[]⟩, .int .i64 0, .slice q1 q2 q3, .slice b1 b2 b3, .slice e1 e2 e3])) (set6 w8 w.heap.size (.int .i64 3) (.string ⟨#[]⟩) (.int .i64 0) (.slice q1 q2 q3) (.slice b1 b2 b3) (.slice e1 e2 e3))) := hs2
          obtain ⟨⟨a0, a1, a2, a3, a4, a5⟩, z0, z1, z2, z3, z4, z5⟩ := z39_c hb8
          clear hs1 hs2 hb8 hep HG7 HB7
          refine hK _ _ ?_
          clear hK K
          refine wpAny_ready (rs := [8]) (by kernel_rfl) (by simp) ?_
          refine AllReady.cons rfl (fun K hK => ?_) AllReady.nil
          go_simp
          refine hK _ _ ?_
          clear hK K
          refine wpAny_done (by kernel_rfl) ?_ _
          go_wp2
          exact bodyPost_ret (ret_stmt 2 Tryd.results57 _ w.heap.size rfl _ _ _ _ _ _ _ HS1'.out) rfl HS2'.out
      · go_simp
        refine hK _ _ ?_
        clear hK K
        refine wpAny_ready (rs := [1]) (by kernel_rfl) (by simp) ?_
        refine AllReady.cons rfl (fun K hK => ?_) AllReady.nil
        go_simp
        refine hK _ _ ?_
        clear hK K
        refine wpAny_ready (rs := [7]) (by kernel_rfl) (by simp) ?_
        refine AllReady.cons rfl (fun K hK => ?_) AllReady.nil
        go_simp
        have BL7 := (Below.refl w3.heap.size w3).alloc (Nat.le_refl _) (.cells #[.int .i64 x.kind, .int .i64 x.num, .string x.name, .int .i64 x.op, .slice v1 v2 v3, .int .i64 (x.deep : Int), .int .i64 y.kind, .int .i64 y.num, .string y.name, .int .i64 y.op, .slice u1 u2 u3, .int .i64 (y.deep : Int)] 98)
        refine (makeS_any (fun j => w.heap.size < j) pb g c L r b i t 3 ⟨#[]⟩ 0 [(x, .slice v1 v2 v3), (y, .slice u1 u2 u3)] (.slice none 0 0) (.slice none 0 0) .leaf .leaf _ _ (HS3.out.below BL7) HDN.out.2 (PA.two w3 x y _ _ ⟨_, _, _, rfl⟩ ⟨_, _, _, rfl⟩ HDM.out.1 HDN.out.1 98) ?_ (SSlP.nil _ _) (SSlP.nil _ _) ?_ ?_).mono ?_
        · intro z hz
          simp at hz
          rcases hz with rfl | rfl
          · exact HE3.out.below BL7
          · exact HF3.out.below BL7
        · intro j hj; have := HL3.out; simp at hj; omega
        · intro j hj; have := HPL.out; omega
        have HG7 : Gr w (w3.alloc (.cells #[.int .i64 x.kind, .int .i64 x.num, .string x.name, .int .i64 x.op, .slice v1 v2 v3, .int .i64 (x.deep : Int), .int .i64 y.kind, .int .i64 y.num, .string y.name, .int .i64 y.op, .slice u1 u2 u3, .int .i64 (y.deep : Int)] 98)) pb := HG3.out.alloc _
        have HB7 := (BL7.block _ HL3.out).trans HB3.out
        clear BL7
        generalize (w3.alloc (.cells #[.int .i64 x.kind, .int .i64 x.num, .string x.name, .int .i64 x.op, .slice v1 v2 v3, .int .i64 (x.deep : Int), .int .i64 y.kind, .int .i64 y.num, .string y.name, .int .i64 y.op, .slice u1 u2 u3, .int .i64 (y.deep : Int)] 98)) = w7 at HG7 HB7 ⊢
        show ∀ e w', TPost w7 (fun j => w.heap.size < j) pb g c L b (mkS t ⟨3, ⟨#[]⟩, 0, erow [x, y], .leaf, .leaf⟩ r i) e w' → _
        unfold storeR at HP
        dsimp only at HP
        unfold mkS at HP ⊢
        by_cases h6 : 600 < i + 1
        · rw [if_pos h6] at HP ⊢
          rintro e w8 ⟨rfl, hg⟩
          refine ⟨rfl, ?_⟩
          rw [← HP.out]
          exact ⟨rfl, HG7.trans hg⟩
        · rw [if_neg h6] at HP ⊢
          intro e w8 hep
          obtain ⟨q1, q2, q3, b1, b2, b3, e1, e2, e3, rfl, hb8, hs1, hs2⟩ := hep.give HG7 HB7 (Nat.le_refl _) (fun j hj => ⟨by omega, by omega⟩) HPL.out
          rw [HP.out] at hs2
          have HS1' : Hid ((set6 w8 w.heap.size (.int .i64 3) (.string ⟨#[]⟩) (.int .i64 0) (.slice q1 q2 q3) (.slice b1 b2 b3) (.slice e1 e2 e3)).heap[w.heap.size]? = some (.cells #[.int .i64 3, .string ⟨#[]⟩, .int .i64 0, .slice q1 q2 q3, .slice b1 b2 b3, .slice e1 e2 e3] 39)) := hs1
          have HS2' : Hid (P (.returned (.agg #[.int .i64 3, .string ⟨#[]⟩, .int .i64 0, .slice q1 q2 q3, .slice b1 b2 b3, .slice e1 e2 e3])) (set6 w8 w.heap.size (.int .i64 3) (.string ⟨#[]⟩) (.int .i64 0) (.slice q1 q2 q3) (.slice b1 b2 b3) (.slice e1 e2 e3))) := hs2
          obtain ⟨⟨a0, a1, a2, a3, a4, a5⟩, z0, z1, z2, z3, z4, z5⟩ := z39_c hb8
          clear hs1 hs2 hb8 hep HG7 HB7
          refine hK _ _ ?_
          clear hK K
          refine wpAny_ready (rs := [8]) (by kernel_rfl) (by simp) ?_
          refine AllReady.cons rfl (fun K hK => ?_) AllReady.nil
          go_simp
          refine hK _ _ ?_
          clear hK K
          refine wpAny_done (by kernel_rfl) ?_ _
          go_wp2
          exact bodyPost_ret (ret_stmt 2 Tryd.results57 _ w.heap.size rfl _ _ _ _ _ _ _ HS1'.out) rfl HS2'.out
end Go.Proofs.YtnofibjchhcmeabDoor
