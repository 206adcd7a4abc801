/- A name is declared. -/
import Derived.Test.YtnofibjchhcmeabDoorVa
import Derived.RegionDies
namespace Go.Proofs.YtnofibjchhcmeabDoor
open Go.RowKit Go.Maps
set_option linter.unusedVariables false

set_option maxRecDepth 100000 in
set_option maxHeartbeats 8000000 in
theorem declare_any {pb g c : Nat} {L : List Tok} {b : Nat} (hE : TEnd L) (hx : ExOk pb g c L b (ex1 L)) (p n : Nat) (w : World) (h : PS w pb g c L p 0 b n) (hs : SG w pb) (hn : n ≤ 600) (hp1 : p + 1 < L.length) :
    Calls Tryd.prog 56 #[.pointer (some ⟨pb, 0, none⟩)] w (TPost w (fun j => w.heap.size ≤ j) pb g c L b (declareP L p n)) := by
  have HS0 : Hid (PS (w.alloc z39) pb g c L p 0 b n) := h.below ((Below.refl _ _).alloc (Nat.le_refl _) _)
  have HG0 : Hid (Gr w (w.alloc z39) pb) := (Gr.refl w pb).alloc _
  have HB0 : Hid ((w.alloc z39).heap[w.heap.size]? = some z39) := heap_alloc_new _ _
  have HPL : Hid (pb < w.heap.size ∧ g < w.heap.size) := ⟨h.lt, h.gl⟩
  have HSG : Hid (SG w pb) := hs
  obtain ⟨t, ht⟩ : ∃ t, tk L p = t := ⟨_, rfl⟩
  obtain ⟨t', ht'⟩ : ∃ t', tk L (p + 1) = t' := ⟨_, rfl⟩
  have HNX : Hid (∀ W, PS W pb g c L p 0 b n → Calls Tryd.prog 75 #[.pointer (some ⟨pb, 0, none⟩)] W fun e w' => e = .returned (tv t) ∧ PS w' pb g c L (p + 1) 0 b n ∧ Gr W w' pb) := fun W hW => by have := next_tk hW hp1; rwa [ht] at this
  have HKN : Hid (¬ t'.kind = 2 → ∀ W, PS W pb g c L (p + 1) 0 b n → Calls Tryd.prog 78 #[.pointer (some ⟨pb, 0, none⟩), .int .i64 2] W fun e w' => e = gaveUpT (t'.pos : Int) 40 ∧ Gr W w' pb) := fun hk W hW => by have := kind_no 2 hW (by rw [ht']; exact hk); rwa [ht'] at this
  have HKY : Hid (t'.kind = 2 → ∀ W, PS W pb g c L (p + 1) 0 b n → Calls Tryd.prog 78 #[.pointer (some ⟨pb, 0, none⟩), .int .i64 2] W fun e w' => e = .returned (tv t') ∧ PS w' pb g c L (p + 2) 0 b n ∧ Gr W w' pb) := fun hk W hW => by have := kind_tk 2 hW (by rw [ht']; exact hk) (hE.kind (by rw [ht', hk]; decide)); rwa [ht'] at this
  obtain ⟨r2, hr2⟩ : ∃ r2, valueP L (p + 2) n = r2 := ⟨_, rfl⟩
  have HV2 : Hid (∀ W, PS W pb g c L (p + 2) 0 b n → SG W pb → Calls Tryd.prog 77 #[.pointer (some ⟨pb, 0, none⟩)] W (EPost W W.heap.size pb g c L 0 b r2)) := fun W hW hS => by have := pvalue_any hE hx (p + 2) n W hW hS hn; rwa [hr2] at this
  unfold declareP
  rw [ht, ht', hr2]
  obtain ⟨P, hP⟩ : ∃ P, TPost w (fun j => w.heap.size ≤ j) pb g c L b (if ¬ t'.kind = 2 then .error (t'.pos, 40) else ofPart t 1 ⟨t'.text.toArray⟩ 0 r2) = P := ⟨_, rfl⟩
  have HP : Hid (TPost w (fun j => w.heap.size ≤ j) pb g c L b (if ¬ t'.kind = 2 then .error (t'.pos, 40) else ofPart t 1 ⟨t'.text.toArray⟩ 0 r2) = P) := hP
  rw [hP]
  unfold tv at HNX HKY
  unfold z39 at HS0 HG0 HB0
  clear h ht ht' hp1 hs hx hP hr2
  go_enter Tryd.func56, Tryd.ntmps56
  go_wp2_with fail
  refine (HNX.out _ HS0.out).mono ?_
  rintro e w1 ⟨rfl, hp, hg⟩
  have hs1 : w.heap.size < w1.heap.size := by have := hg.size; simp at this; omega
  have BL1 := (Below.refl w1.heap.size w1).alloc (Nat.le_refl _) (tc4 t)
  have HS1 : Hid (PS (w1.alloc (tc4 t)) pb g c L (p + 1) 0 b n) := hp.below BL1
  have HG1 : Hid (Gr w (w1.alloc (tc4 t)) pb) := (HG0.out.trans hg).alloc _
  have HB1 : Hid ((w1.alloc (tc4 t)).heap[w.heap.size]? = some z39) := (BL1.block _ hs1).trans ((hg.blk (by simp) HPL.out.1).trans HB0.out)
  have HT1 : Hid ((w1.alloc (tc4 t)).heap[w1.heap.size]? = some (tc4 t)) := heap_alloc_new _ _
  have HL1 : Hid (w.heap.size < w1.heap.size ∧ pb < w1.heap.size ∧ (w1.alloc (tc4 t)).heap.size = w1.heap.size + 1) := ⟨hs1, by have := HPL.out; omega, by simp⟩
  clear hp hg BL1 hs1 HNX
  go_wp2_with fail
  by_cases hk : ¬ t'.kind = 2
  · rw [if_pos hk] at HP
    refine (HKN.out hk _ HS1.out).mono ?_
    rintro e w2 ⟨rfl, hg⟩
    refine ⟨rfl, ?_⟩
    rw [← HP.out]
    exact ⟨rfl, HG1.out.trans hg⟩
  rw [if_neg hk] at HP
  refine (HKY.out (Decidable.of_not_not hk) _ HS1.out).mono ?_
  rintro e w2 ⟨rfl, hp, hg⟩
  have hg' : Gr (w1.alloc (tc4 t)) w2 pb := hg
  have BL2 := (Below.refl w2.heap.size w2).alloc (Nat.le_refl _) (tc4 t')
  have hs2 : w1.heap.size + 1 ≤ w2.heap.size := by have := hg'.size; have := HL1.out; omega
  have HS2 : Hid (PS (w2.alloc (tc4 t')) pb g c L (p + 2) 0 b n) := hp.below BL2
  have HG2 : Hid (Gr w (w2.alloc (tc4 t')) pb) := (HG1.out.trans hg').alloc _
  have HB2 : Hid ((w2.alloc (tc4 t')).heap[w.heap.size]? = some z39) := (BL2.block _ (by have := HL1.out; omega)).trans ((hg'.blk (by have := HL1.out; omega) HPL.out.1).trans HB1.out)
  have T2 : (w2.alloc (tc4 t')).heap[w1.heap.size]? = some (tc4 t) := (BL2.block _ (by omega)).trans ((hg'.blk (by have := HL1.out; omega) HL1.out.2.1).trans HT1.out)
  have U2 : (w2.alloc (tc4 t')).heap[w2.heap.size]? = some (tc4 t') := heap_alloc_new _ _
  have HT2 : Hid ((w2.alloc (tc4 t')).heap[w1.heap.size]? = some (tc4 t)) := T2
  have HU2 : Hid ((w2.alloc (tc4 t')).heap[w2.heap.size]? = some (tc4 t')) := U2
  have HL2 : Hid (w.heap.size < w2.heap.size ∧ w1.heap.size < w2.heap.size ∧ pb < w2.heap.size ∧ (w2.alloc (tc4 t')).heap.size = w2.heap.size + 1) := by have := HL1.out; exact ⟨by omega, by omega, by omega, by simp⟩
  clear hp hg hg' BL2 hs2 HKN HKY
  go_wp2_with fail
  change Code.wp _ _ _ _ (w2.alloc (tc4 t'))
  generalize w2.alloc (tc4 t') = W at *
  obtain ⟨t0, t1, t2, t3⟩ := tc4_c T2
  obtain ⟨s0, s1, s2, s3⟩ := tc4_c U2
  rcases r2 with ⟨k, ek⟩ | ⟨y, r, i⟩
  · have HPE : Hid (∀ w', Gr w w' pb → P (gaveUpT (k : Int) ek) w') := fun w' hw => by rw [← HP.out]; exact ⟨rfl, hw⟩
    go_region_dies
    all_goals
      refine (HV2.out _ HS2.out.drew (HSG.out.gr HG2.out.drew)).mono ?_
      rintro e w3 ⟨rfl, hg⟩
      exact ⟨rfl, HPE.out _ (HG2.out.drew.trans hg)⟩
  go_region_dies
  · rename_i hK
    refine (HV2.out _ HS2.out.drew (HSG.out.gr HG2.out.drew)).mono ?_
    rintro e w3 ⟨u, rfl, hes, hp, hg, hd, hm⟩
    obtain ⟨u1, u2, u3, rfl⟩ := hes.sl
    unfold rxv rx
    refine hK _ _ ?_
    clear hK
    have hsz : W.heap.size ≤ w3.heap.size := hg.size
    have HB3 : Hid (w3.heap[w.heap.size]? = some z39) := (hg.blk (k := w.heap.size) (by have := HL2.out; show _ < W.heap.size; omega) HPL.out.1).trans HB2.out
    have T3 : w3.heap[w1.heap.size]? = some (tc4 t) := (hg.blk (k := w1.heap.size) (by have := HL2.out; show _ < W.heap.size; omega) HL1.out.2.1).trans HT2.out
    have U3 : w3.heap[w2.heap.size]? = some (tc4 t') := (hg.blk (k := w2.heap.size) (by have := HL2.out; show _ < W.heap.size; omega) HL2.out.2.2.1).trans HU2.out
    have HS3 : Hid (PS w3 pb g c L r 0 b i) := hp
    have HG3 : Hid (Gr w w3 pb) := HG2.out.drew.trans hg
    have HF3 : Hid (ESlP w3 (fun j => w.heap.size < j) (.slice u1 u2 u3) y.args) := ESlP.mono hes (fun j hj => by have := HL2.out; have : W.heap.size ≤ j := hj; omega)
    have HL3 : Hid (w.heap.size < w3.heap.size) := by show _ < _; have := HL2.out; omega
    have HDN : Hid (y.deep ≤ 48 ∧ i ≤ 600) := ⟨hd, hm⟩
    obtain ⟨t0', t1', t2', t3'⟩ := tc4_c T3
    obtain ⟨s0', s1', s2', s3'⟩ := tc4_c U3
    have hl23 : w2.heap.size < w3.heap.size := by have := HL2.out; omega
    have sa := fun A : Obj => tc4_c ((heap_alloc_old w3 A hl23).trans U3)
    have sa0 := fun A => (sa A).1
    have sa1 := fun A => (sa A).2.1
    have sa2 := fun A => (sa A).2.2.1
    have sa3 := fun A => (sa A).2.2.2
    clear sa hl23
    have hl13 : w1.heap.size < w3.heap.size := by have := HL2.out; omega
    have ta := fun A : Obj => tc4_c ((heap_alloc_old w3 A hl13).trans T3)
    have ta0 := fun A => (ta A).1
    have ta1 := fun A => (ta A).2.1
    have ta2 := fun A => (ta A).2.2.1
    have ta3 := fun A => (ta A).2.2.2
    clear ta hl13
    clear hp hg hes hd hm hsz T3 U3 t0 t1 t2 t3 s0 s1 s2 s3
    refine wpAny_ready (rs := [7]) (by kernel_rfl) (by simp) ?_
    refine AllReady.cons rfl (fun K hK => ?_) AllReady.nil
    go_simp
    refine hK _ _ ?_
    clear hK K
    refine wpAny_ready (rs := [8]) (by kernel_rfl) (by simp) ?_
    refine AllReady.cons rfl (fun K hK => ?_) AllReady.nil
    go_simp
    have BL7 := (Below.refl w3.heap.size w3).alloc (Nat.le_refl _) (.cells #[.int .i64 y.kind, .int .i64 y.num, .string y.name, .int .i64 y.op, .slice u1 u2 u3, .int .i64 (y.deep : Int)] 98)
    refine (makeS_any (fun j => w.heap.size < j) pb g c L r b i t 1 ⟨t'.text.toArray⟩ 0 [(y, .slice u1 u2 u3)] (.slice none 0 0) (.slice none 0 0) .leaf .leaf _ _ (HS3.out.below BL7) HDN.out.2 (PA.one w3 y _ ⟨_, _, _, rfl⟩ HDN.out.1 98) ?_ (SSlP.nil _ _) (SSlP.nil _ _) ?_ ?_).mono ?_
    · intro z hz
      simp at hz
      subst hz
      exact HF3.out.below BL7
    · intro j hj; have := HL3.out; simp at hj; omega
    · intro j hj; have := HPL.out; omega
    have HG7 : Gr w (w3.alloc (.cells #[.int .i64 y.kind, .int .i64 y.num, .string y.name, .int .i64 y.op, .slice u1 u2 u3, .int .i64 (y.deep : Int)] 98)) pb := HG3.out.alloc _
    have HB7 := (BL7.block _ HL3.out).trans HB3.out
    clear BL7
    generalize (w3.alloc (.cells #[.int .i64 y.kind, .int .i64 y.num, .string y.name, .int .i64 y.op, .slice u1 u2 u3, .int .i64 (y.deep : Int)] 98)) = w7 at HG7 HB7 ⊢
    show ∀ e w', TPost w7 (fun j => w.heap.size < j) pb g c L b (mkS t ⟨1, ⟨t'.text.toArray⟩, 0, erow [y], .leaf, .leaf⟩ r i) e w' → _
    unfold ofPart at HP
    dsimp only at HP
    unfold mkS at HP ⊢
    by_cases h6 : 600 < i + 1
    · rw [if_pos h6] at HP ⊢
      rintro e w8 ⟨rfl, hg⟩
      refine ⟨rfl, ?_⟩
      rw [← HP.out]
      exact ⟨rfl, HG7.trans hg⟩
    · rw [if_neg h6] at HP ⊢
      intro e w8 hep
      obtain ⟨q1, q2, q3, b1, b2, b3, e1, e2, e3, rfl, hb8, hs1, hs2⟩ := hep.give HG7 HB7 (Nat.le_refl _) (fun j hj => ⟨by omega, by omega⟩) HPL.out
      rw [HP.out] at hs2
      have HS1' : Hid ((set6 w8 w.heap.size (.int .i64 1) (.string ⟨t'.text.toArray⟩) (.int .i64 0) (.slice q1 q2 q3) (.slice b1 b2 b3) (.slice e1 e2 e3)).heap[w.heap.size]? = some (.cells #[.int .i64 1, .string ⟨t'.text.toArray⟩, .int .i64 0, .slice q1 q2 q3, .slice b1 b2 b3, .slice e1 e2 e3] 39)) := hs1
      have HS2' : Hid (P (.returned (.agg #[.int .i64 1, .string ⟨t'.text.toArray⟩, .int .i64 0, .slice q1 q2 q3, .slice b1 b2 b3, .slice e1 e2 e3])) (set6 w8 w.heap.size (.int .i64 1) (.string ⟨t'.text.toArray⟩) (.int .i64 0) (.slice q1 q2 q3) (.slice b1 b2 b3) (.slice e1 e2 e3))) := hs2
      obtain ⟨⟨a0, a1, a2, a3, a4, a5⟩, z0, z1, z2, z3, z4, z5⟩ := z39_c hb8
      clear hs1 hs2 hb8 hep HG7 HB7
      refine hK _ _ ?_
      clear hK K
      refine wpAny_ready (rs := [9]) (by kernel_rfl) (by simp) ?_
      refine AllReady.cons rfl (fun K hK => ?_) AllReady.nil
      go_simp
      refine hK _ _ ?_
      clear hK K
      refine wpAny_done (by kernel_rfl) ?_ _
      go_wp2
      exact bodyPost_ret (ret_stmt 2 Tryd.results56 _ w.heap.size rfl _ _ _ _ _ _ _ HS1'.out) rfl HS2'.out
  · rename_i hK
    refine (HV2.out _ HS2.out.drew (HSG.out.gr HG2.out.drew)).mono ?_
    rintro e w3 ⟨u, rfl, hes, hp, hg, hd, hm⟩
    obtain ⟨u1, u2, u3, rfl⟩ := hes.sl
    unfold rxv rx
    refine hK _ _ ?_
    clear hK
    have hsz : W.heap.size ≤ w3.heap.size := hg.size
    have HB3 : Hid (w3.heap[w.heap.size]? = some z39) := (hg.blk (k := w.heap.size) (by have := HL2.out; show _ < W.heap.size; omega) HPL.out.1).trans HB2.out
    have T3 : w3.heap[w1.heap.size]? = some (tc4 t) := (hg.blk (k := w1.heap.size) (by have := HL2.out; show _ < W.heap.size; omega) HL1.out.2.1).trans HT2.out
    have U3 : w3.heap[w2.heap.size]? = some (tc4 t') := (hg.blk (k := w2.heap.size) (by have := HL2.out; show _ < W.heap.size; omega) HL2.out.2.2.1).trans HU2.out
    have HS3 : Hid (PS w3 pb g c L r 0 b i) := hp
    have HG3 : Hid (Gr w w3 pb) := HG2.out.drew.trans hg
    have HF3 : Hid (ESlP w3 (fun j => w.heap.size < j) (.slice u1 u2 u3) y.args) := ESlP.mono hes (fun j hj => by have := HL2.out; have : W.heap.size ≤ j := hj; omega)
    have HL3 : Hid (w.heap.size < w3.heap.size) := by show _ < _; have := HL2.out; omega
    have HDN : Hid (y.deep ≤ 48 ∧ i ≤ 600) := ⟨hd, hm⟩
    obtain ⟨t0', t1', t2', t3'⟩ := tc4_c T3
    obtain ⟨s0', s1', s2', s3'⟩ := tc4_c U3
    have hl23 : w2.heap.size < w3.heap.size := by have := HL2.out; omega
    have sa := fun A : Obj => tc4_c ((heap_alloc_old w3 A hl23).trans U3)
    have sa0 := fun A => (sa A).1
    have sa1 := fun A => (sa A).2.1
    have sa2 := fun A => (sa A).2.2.1
    have sa3 := fun A => (sa A).2.2.2
    clear sa hl23
    have hl13 : w1.heap.size < w3.heap.size := by have := HL2.out; omega
    have ta := fun A : Obj => tc4_c ((heap_alloc_old w3 A hl13).trans T3)
    have ta0 := fun A => (ta A).1
    have ta1 := fun A => (ta A).2.1
    have ta2 := fun A => (ta A).2.2.1
    have ta3 := fun A => (ta A).2.2.2
    clear ta hl13
    clear hp hg hes hd hm hsz T3 U3 t0 t1 t2 t3 s0 s1 s2 s3
    refine wpAny_ready (rs := [3, 7]) (by kernel_rfl) (by simp) ?_
    refine AllReady.cons rfl (fun K hK => ?_) (AllReady.cons rfl (fun K hK => ?_) (AllReady.nil))
    · go_simp
      refine hK _ _ ?_
      clear hK K
      refine wpAny_ready (rs := [4, 7]) (by kernel_rfl) (by simp) ?_
      refine AllReady.cons rfl (fun K hK => ?_) (AllReady.cons rfl (fun K hK => ?_) (AllReady.nil))
      · go_simp
        refine hK _ _ ?_
        clear hK K
        refine wpAny_ready (rs := [7]) (by kernel_rfl) (by simp) ?_
        refine AllReady.cons rfl (fun K hK => ?_) AllReady.nil
        go_simp
        refine hK _ _ ?_
        clear hK K
        refine wpAny_ready (rs := [8]) (by kernel_rfl) (by simp) ?_
        refine AllReady.cons rfl (fun K hK => ?_) AllReady.nil
        go_simp
        have BL7 := (Below.refl w3.heap.size w3).alloc (Nat.le_refl _) (.cells #[.int .i64 y.kind, .int .i64 y.num, .string y.name, .int .i64 y.op, .slice u1 u2 u3, .int .i64 (y.deep : Int)] 98)
        refine (makeS_any (fun j => w.heap.size < j) pb g c L r b i t 1 ⟨t'.text.toArray⟩ 0 [(y, .slice u1 u2 u3)] (.slice none 0 0) (.slice none 0 0) .leaf .leaf _ _ (HS3.out.below BL7) HDN.out.2 (PA.one w3 y _ ⟨_, _, _, rfl⟩ HDN.out.1 98) ?_ (SSlP.nil _ _) (SSlP.nil _ _) ?_ ?_).mono ?_
        · intro z hz
          simp at hz
          subst hz
          exact HF3.out.below BL7
        · intro j hj; have := HL3.out; simp at hj; omega
        · intro j hj; have := HPL.out; omega
        have HG7 : Gr w (w3.alloc (.cells #[.int .i64 y.kind, .int .i64 y.num, .string y.name, .int .i64 y.op, .slice u1 u2 u3, .int .i64 (y.deep : Int)] 98)) pb := HG3.out.alloc _
        have HB7 := (BL7.block _ HL3.out).trans HB3.out
        clear BL7
        generalize (w3.alloc (.cells #[.int .i64 y.kind, .int .i64 y.num, .string y.name, .int .i64 y.op, .slice u1 u2 u3, .int .i64 (y.deep : Int)] 98)) = w7 at HG7 HB7 ⊢
        show ∀ e w', TPost w7 (fun j => w.heap.size < j) pb g c L b (mkS t ⟨1, ⟨t'.text.toArray⟩, 0, erow [y], .leaf, .leaf⟩ r i) e w' → _
        unfold ofPart at HP
        dsimp only at HP
        unfold mkS at HP ⊢
        by_cases h6 : 600 < i + 1
        · rw [if_pos h6] at HP ⊢
          rintro e w8 ⟨rfl, hg⟩
          refine ⟨rfl, ?_⟩
          rw [← HP.out]
          exact ⟨rfl, HG7.trans hg⟩
        · rw [if_neg h6] at HP ⊢
          intro e w8 hep
          obtain ⟨q1, q2, q3, b1, b2, b3, e1, e2, e3, rfl, hb8, hs1, hs2⟩ := hep.give HG7 HB7 (Nat.le_refl _) (fun j hj => ⟨by omega, by omega⟩) HPL.out
          rw [HP.out] at hs2
          have HS1' : Hid ((set6 w8 w.heap.size (.int .i64 1) (.string ⟨t'.text.toArray⟩) (.int .i64 0) (.slice q1 q2 q3) (.slice b1 b2 b3) (.slice e1 e2 e3)).heap[w.heap.size]? = some (.cells #[.int .i64 1, .string ⟨t'.text.toArray⟩, .int .i64 0, .slice q1 q2 q3, .slice b1 b2 b3, .slice e1 e2 e3] 39)) := hs1
          have HS2' : Hid (P (.returned (.agg #[.int .i64 1, .string ⟨t'.text.toArray⟩, .int .i64 0, .slice q1 q2 q3, .slice b1 b2 b3, .slice e1 e2 e3])) (set6 w8 w.heap.size (.int .i64 1) (.string ⟨t'.text.toArray⟩) (.int .i64 0) (.slice q1 q2 q3) (.slice b1 b2 b3) (.slice e1 e2 e3))) := hs2
          obtain ⟨⟨a0, a1, a2, a3, a4, a5⟩, z0, z1, z2, z3, z4, z5⟩ := z39_c hb8
          clear hs1 hs2 hb8 hep HG7 HB7
          refine hK _ _ ?_
          clear hK K
          refine wpAny_ready (rs := [9]) (by kernel_rfl) (by simp) ?_
          refine AllReady.cons rfl (fun K hK => ?_) AllReady.nil
          go_simp
          refine hK _ _ ?_
          clear hK K
          refine wpAny_done (by kernel_rfl) ?_ _
          go_wp2
          exact bodyPost_ret (ret_stmt 2 Tryd.results56 _ w.heap.size rfl _ _ _ _ _ _ _ HS1'.out) rfl HS2'.out
      · go_simp
        refine hK _ _ ?_
        clear hK K
        refine wpAny_ready (rs := [4]) (by kernel_rfl) (by simp) ?_
        refine AllReady.cons rfl (fun K hK => ?_) AllReady.nil
        go_simp
        refine hK _ _ ?_
        clear hK K
        refine wpAny_ready (rs := [8]) (by kernel_rfl) (by simp) ?_
        refine AllReady.cons rfl (fun K hK => ?_) AllReady.nil
        go_simp
        have BL7 := (Below.refl w3.heap.size w3).alloc (Nat.le_refl _) (.cells #[.int .i64 y.kind, .int .i64 y.num, .string y.name, .int .i64 y.op, .slice u1 u2 u3, .int .i64 (y.deep : Int)] 98)
        refine (makeS_any (fun j => w.heap.size < j) pb g c L r b i t 1 ⟨t'.text.toArray⟩ 0 [(y, .slice u1 u2 u3)] (.slice none 0 0) (.slice none 0 0) .leaf .leaf _ _ (HS3.out.below BL7) HDN.out.2 (PA.one w3 y _ ⟨_, _, _, rfl⟩ HDN.out.1 98) ?_ (SSlP.nil _ _) (SSlP.nil _ _) ?_ ?_).mono ?_
        · intro z hz
          simp at hz
          subst hz
          exact HF3.out.below BL7
        · intro j hj; have := HL3.out; simp at hj; omega
        · intro j hj; have := HPL.out; omega
        have HG7 : Gr w (w3.alloc (.cells #[.int .i64 y.kind, .int .i64 y.num, .string y.name, .int .i64 y.op, .slice u1 u2 u3, .int .i64 (y.deep : Int)] 98)) pb := HG3.out.alloc _
        have HB7 := (BL7.block _ HL3.out).trans HB3.out
        clear BL7
        generalize (w3.alloc (.cells #[.int .i64 y.kind, .int .i64 y.num, .string y.name, .int .i64 y.op, .slice u1 u2 u3, .int .i64 (y.deep : Int)] 98)) = w7 at HG7 HB7 ⊢
        show ∀ e w', TPost w7 (fun j => w.heap.size < j) pb g c L b (mkS t ⟨1, ⟨t'.text.toArray⟩, 0, erow [y], .leaf, .leaf⟩ r i) e w' → _
        unfold ofPart at HP
        dsimp only at HP
        unfold mkS at HP ⊢
        by_cases h6 : 600 < i + 1
        · rw [if_pos h6] at HP ⊢
          rintro e w8 ⟨rfl, hg⟩
          refine ⟨rfl, ?_⟩
          rw [← HP.out]
          exact ⟨rfl, HG7.trans hg⟩
        · rw [if_neg h6] at HP ⊢
          intro e w8 hep
          obtain ⟨q1, q2, q3, b1, b2, b3, e1, e2, e3, rfl, hb8, hs1, hs2⟩ := hep.give HG7 HB7 (Nat.le_refl _) (fun j hj => ⟨by omega, by omega⟩) HPL.out
          rw [HP.out] at hs2
          have HS1' : Hid ((set6 w8 w.heap.size (.int .i64 1) (.string ⟨t'.text.toArray⟩) (.int .i64 0) (.slice q1 q2 q3) (.slice b1 b2 b3) (.slice e1 e2 e3)).heap[w.heap.size]? = some (.cells #[.int .i64 1, .string ⟨t'.text.toArray⟩, .int .i64 0, .slice q1 q2 q3, .slice b1 b2 b3, .slice e1 e2 e3] 39)) := hs1
          have HS2' : Hid (P (.returned (.agg #[.int .i64 1, .string ⟨t'.text.toArray⟩, .int .i64 0, .slice q1 q2 q3, .slice b1 b2 b3, .slice e1 e2 e3])) (set6 w8 w.heap.size (.int .i64 1) (.string ⟨t'.text.toArray⟩) (.int .i64 0) (.slice q1 q2 q3) (.slice b1 b2 b3) (.slice e1 e2 e3))) := hs2
          obtain ⟨⟨a0, a1, a2, a3, a4, a5⟩, z0, z1, z2, z3, z4, z5⟩ := z39_c hb8
          clear hs1 hs2 hb8 hep HG7 HB7
          refine hK _ _ ?_
          clear hK K
          refine wpAny_ready (rs := [9]) (by kernel_rfl) (by simp) ?_
          refine AllReady.cons rfl (fun K hK => ?_) AllReady.nil
          go_simp
          refine hK _ _ ?_
          clear hK K
          refine wpAny_done (by kernel_rfl) ?_ _
          go_wp2
          exact bodyPost_ret (ret_stmt 2 Tryd.results56 _ w.heap.size rfl _ _ _ _ _ _ _ HS1'.out) rfl HS2'.out
    · go_simp
      refine hK _ _ ?_
      clear hK K
      refine wpAny_ready (rs := [3]) (by kernel_rfl) (by simp) ?_
      refine AllReady.cons rfl (fun K hK => ?_) AllReady.nil
      go_simp
      refine hK _ _ ?_
      clear hK K
      refine wpAny_ready (rs := [4]) (by kernel_rfl) (by simp) ?_
      refine AllReady.cons rfl (fun K hK => ?_) AllReady.nil
      go_simp
      refine hK _ _ ?_
      clear hK K
      refine wpAny_ready (rs := [8]) (by kernel_rfl) (by simp) ?_
      refine AllReady.cons rfl (fun K hK => ?_) AllReady.nil
      go_simp
      have BL7 := (Below.refl w3.heap.size w3).alloc (Nat.le_refl _) (.cells #[.int .i64 y.kind, .int .i64 y.num, .string y.name, .int .i64 y.op, .slice u1 u2 u3, .int .i64 (y.deep : Int)] 98)
      refine (makeS_any (fun j => w.heap.size < j) pb g c L r b i t 1 ⟨t'.text.toArray⟩ 0 [(y, .slice u1 u2 u3)] (.slice none 0 0) (.slice none 0 0) .leaf .leaf _ _ (HS3.out.below BL7) HDN.out.2 (PA.one w3 y _ ⟨_, _, _, rfl⟩ HDN.out.1 98) ?_ (SSlP.nil _ _) (SSlP.nil _ _) ?_ ?_).mono ?_
      · intro z hz
        simp at hz
        subst hz
        exact HF3.out.below BL7
      · intro j hj; have := HL3.out; simp at hj; omega
      · intro j hj; have := HPL.out; omega
      have HG7 : Gr w (w3.alloc (.cells #[.int .i64 y.kind, .int .i64 y.num, .string y.name, .int .i64 y.op, .slice u1 u2 u3, .int .i64 (y.deep : Int)] 98)) pb := HG3.out.alloc _
      have HB7 := (BL7.block _ HL3.out).trans HB3.out
      clear BL7
      generalize (w3.alloc (.cells #[.int .i64 y.kind, .int .i64 y.num, .string y.name, .int .i64 y.op, .slice u1 u2 u3, .int .i64 (y.deep : Int)] 98)) = w7 at HG7 HB7 ⊢
      show ∀ e w', TPost w7 (fun j => w.heap.size < j) pb g c L b (mkS t ⟨1, ⟨t'.text.toArray⟩, 0, erow [y], .leaf, .leaf⟩ r i) e w' → _
      unfold ofPart at HP
      dsimp only at HP
      unfold mkS at HP ⊢
      by_cases h6 : 600 < i + 1
      · rw [if_pos h6] at HP ⊢
        rintro e w8 ⟨rfl, hg⟩
        refine ⟨rfl, ?_⟩
        rw [← HP.out]
        exact ⟨rfl, HG7.trans hg⟩
      · rw [if_neg h6] at HP ⊢
        intro e w8 hep
        obtain ⟨q1, q2, q3, b1, b2, b3, e1, e2, e3, rfl, hb8, hs1, hs2⟩ := hep.give HG7 HB7 (Nat.le_refl _) (fun j hj => ⟨by omega, by omega⟩) HPL.out
        rw [HP.out] at hs2
        have HS1' : Hid ((set6 w8 w.heap.size (.int .i64 1) (.string ⟨t'.text.toArray⟩) (.int .i64 0) (.slice q1 q2 q3) (.slice b1 b2 b3) (.slice e1 e2 e3)).heap[w.heap.size]? = some (.cells #[.int .i64 1, .string ⟨t'.text.toArray⟩, .int .i64 0, .slice q1 q2 q3, .slice b1 b2 b3, .slice e1 e2 e3] 39)) := hs1
        have HS2' : Hid (P (.returned (.agg #[.int .i64 1, .string ⟨t'.text.toArray⟩, .int .i64 0, .slice q1 q2 q3, .slice b1 b2 b3, .slice e1 e2 e3])) (set6 w8 w.heap.size (.int .i64 1) (.string ⟨t'.text.toArray⟩) (.int .i64 0) (.slice q1 q2 q3) (.slice b1 b2 b3) (.slice e1 e2 e3))) := hs2
        obtain ⟨⟨a0, a1, a2, a3, a4, a5⟩, z0, z1, z2, z3, z4, z5⟩ := z39_c hb8
        clear hs1 hs2 hb8 hep HG7 HB7
        refine hK _ _ ?_
        clear hK K
        refine wpAny_ready (rs := [9]) (by kernel_rfl) (by simp) ?_
        refine AllReady.cons rfl (fun K hK => ?_) AllReady.nil
        go_simp
        refine hK _ _ ?_
        clear hK K
        refine wpAny_done (by kernel_rfl) ?_ _
        go_wp2
        exact bodyPost_ret (ret_stmt 2 Tryd.results56 _ w.heap.size rfl _ _ _ _ _ _ _ HS1'.out) rfl HS2'.out
  · rename_i hK
    refine (HV2.out _ HS2.out.drew (HSG.out.gr HG2.out.drew)).mono ?_
    rintro e w3 ⟨u, rfl, hes, hp, hg, hd, hm⟩
    obtain ⟨u1, u2, u3, rfl⟩ := hes.sl
    unfold rxv rx
    refine hK _ _ ?_
    clear hK
    have hsz : W.heap.size ≤ w3.heap.size := hg.size
    have HB3 : Hid (w3.heap[w.heap.size]? = some z39) := (hg.blk (k := w.heap.size) (by have := HL2.out; show _ < W.heap.size; omega) HPL.out.1).trans HB2.out
    have T3 : w3.heap[w1.heap.size]? = some (tc4 t) := (hg.blk (k := w1.heap.size) (by have := HL2.out; show _ < W.heap.size; omega) HL1.out.2.1).trans HT2.out
    have U3 : w3.heap[w2.heap.size]? = some (tc4 t') := (hg.blk (k := w2.heap.size) (by have := HL2.out; show _ < W.heap.size; omega) HL2.out.2.2.1).trans HU2.out
    have HS3 : Hid (PS w3 pb g c L r 0 b i) := hp
    have HG3 : Hid (Gr w w3 pb) := HG2.out.drew.trans hg
    have HF3 : Hid (ESlP w3 (fun j => w.heap.size < j) (.slice u1 u2 u3) y.args) := ESlP.mono hes (fun j hj => by have := HL2.out; have : W.heap.size ≤ j := hj; omega)
    have HL3 : Hid (w.heap.size < w3.heap.size) := by show _ < _; have := HL2.out; omega
    have HDN : Hid (y.deep ≤ 48 ∧ i ≤ 600) := ⟨hd, hm⟩
    obtain ⟨t0', t1', t2', t3'⟩ := tc4_c T3
    obtain ⟨s0', s1', s2', s3'⟩ := tc4_c U3
    have hl23 : w2.heap.size < w3.heap.size := by have := HL2.out; omega
    have sa := fun A : Obj => tc4_c ((heap_alloc_old w3 A hl23).trans U3)
    have sa0 := fun A => (sa A).1
    have sa1 := fun A => (sa A).2.1
    have sa2 := fun A => (sa A).2.2.1
    have sa3 := fun A => (sa A).2.2.2
    clear sa hl23
    have hl13 : w1.heap.size < w3.heap.size := by have := HL2.out; omega
    have ta := fun A : Obj => tc4_c ((heap_alloc_old w3 A hl13).trans T3)
    have ta0 := fun A => (ta A).1
    have ta1 := fun A => (ta A).2.1
    have ta2 := fun A => (ta A).2.2.1
    have ta3 := fun A => (ta A).2.2.2
    clear ta hl13
    clear hp hg hes hd hm hsz T3 U3 t0 t1 t2 t3 s0 s1 s2 s3
    refine wpAny_ready (rs := [7]) (by kernel_rfl) (by simp) ?_
    refine AllReady.cons rfl (fun K hK => ?_) AllReady.nil
    go_simp
    refine hK _ _ ?_
    clear hK K
    refine wpAny_ready (rs := [8]) (by kernel_rfl) (by simp) ?_
    refine AllReady.cons rfl (fun K hK => ?_) AllReady.nil
    go_simp
    have BL7 := (Below.refl w3.heap.size w3).alloc (Nat.le_refl _) (.cells #[.int .i64 y.kind, .int .i64 y.num, .string y.name, .int .i64 y.op, .slice u1 u2 u3, .int .i64 (y.deep : Int)] 98)
    refine (makeS_any (fun j => w.heap.size < j) pb g c L r b i t 1 ⟨t'.text.toArray⟩ 0 [(y, .slice u1 u2 u3)] (.slice none 0 0) (.slice none 0 0) .leaf .leaf _ _ (HS3.out.below BL7) HDN.out.2 (PA.one w3 y _ ⟨_, _, _, rfl⟩ HDN.out.1 98) ?_ (SSlP.nil _ _) (SSlP.nil _ _) ?_ ?_).mono ?_
    · intro z hz
      simp at hz
      subst hz
      exact HF3.out.below BL7
    · intro j hj; have := HL3.out; simp at hj; omega
    · intro j hj; have := HPL.out; omega
    have HG7 : Gr w (w3.alloc (.cells #[.int .i64 y.kind, .int .i64 y.num, .string y.name, .int .i64 y.op, .slice u1 u2 u3, .int .i64 (y.deep : Int)] 98)) pb := HG3.out.alloc _
    have HB7 := (BL7.block _ HL3.out).trans HB3.out
    clear BL7
    generalize (w3.alloc (.cells #[.int .i64 y.kind, .int .i64 y.num, .string y.name, .int .i64 y.op, .slice u1 u2 u3, .int .i64 (y.deep : Int)] 98)) = w7 at HG7 HB7 ⊢
    show ∀ e w', TPost w7 (fun j => w.heap.size < j) pb g c L b (mkS t ⟨1, ⟨t'.text.toArray⟩, 0, erow [y], .leaf, .leaf⟩ r i) e w' → _
    unfold ofPart at HP
    dsimp only at HP
    unfold mkS at HP ⊢
    by_cases h6 : 600 < i + 1
    · rw [if_pos h6] at HP ⊢
      rintro e w8 ⟨rfl, hg⟩
      refine ⟨rfl, ?_⟩
      rw [← HP.out]
      exact ⟨rfl, HG7.trans hg⟩
    · rw [if_neg h6] at HP ⊢
      intro e w8 hep
      obtain ⟨q1, q2, q3, b1, b2, b3, e1, e2, e3, rfl, hb8, hs1, hs2⟩ := hep.give HG7 HB7 (Nat.le_refl _) (fun j hj => ⟨by omega, by omega⟩) HPL.out
      rw [HP.out] at hs2
      have HS1' : Hid ((set6 w8 w.heap.size (.int .i64 1) (.string ⟨t'.text.toArray⟩) (.int .i64 0) (.slice q1 q2 q3) (.slice b1 b2 b3) (.slice e1 e2 e3)).heap[w.heap.size]? = some (.cells #[.int .i64 1, .string ⟨t'.text.toArray⟩, .int .i64 0, .slice q1 q2 q3, .slice b1 b2 b3, .slice e1 e2 e3] 39)) := hs1
      have HS2' : Hid (P (.returned (.agg #[.int .i64 1, .string ⟨t'.text.toArray⟩, .int .i64 0, .slice q1 q2 q3, .slice b1 b2 b3, .slice e1 e2 e3])) (set6 w8 w.heap.size (.int .i64 1) (.string ⟨t'.text.toArray⟩) (.int .i64 0) (.slice q1 q2 q3) (.slice b1 b2 b3) (.slice e1 e2 e3))) := hs2
      obtain ⟨⟨a0, a1, a2, a3, a4, a5⟩, z0, z1, z2, z3, z4, z5⟩ := z39_c hb8
      clear hs1 hs2 hb8 hep HG7 HB7
      refine hK _ _ ?_
      clear hK K
      refine wpAny_ready (rs := [9]) (by kernel_rfl) (by simp) ?_
      refine AllReady.cons rfl (fun K hK => ?_) AllReady.nil
      go_simp
      refine hK _ _ ?_
      clear hK K
      refine wpAny_done (by kernel_rfl) ?_ _
      go_wp2
      exact bodyPost_ret (ret_stmt 2 Tryd.results56 _ w.heap.size rfl _ _ _ _ _ _ _ HS1'.out) rfl HS2'.out
  · rename_i hK
    refine (HV2.out _ HS2.out.drew (HSG.out.gr HG2.out.drew)).mono ?_
    rintro e w3 ⟨u, rfl, hes, hp, hg, hd, hm⟩
    obtain ⟨u1, u2, u3, rfl⟩ := hes.sl
    unfold rxv rx
    refine hK _ _ ?_
    clear hK
    have hsz : W.heap.size ≤ w3.heap.size := hg.size
    have HB3 : Hid (w3.heap[w.heap.size]? = some z39) := (hg.blk (k := w.heap.size) (by have := HL2.out; show _ < W.heap.size; omega) HPL.out.1).trans HB2.out
    have T3 : w3.heap[w1.heap.size]? = some (tc4 t) := (hg.blk (k := w1.heap.size) (by have := HL2.out; show _ < W.heap.size; omega) HL1.out.2.1).trans HT2.out
    have U3 : w3.heap[w2.heap.size]? = some (tc4 t') := (hg.blk (k := w2.heap.size) (by have := HL2.out; show _ < W.heap.size; omega) HL2.out.2.2.1).trans HU2.out
    have HS3 : Hid (PS w3 pb g c L r 0 b i) := hp
    have HG3 : Hid (Gr w w3 pb) := HG2.out.drew.trans hg
    have HF3 : Hid (ESlP w3 (fun j => w.heap.size < j) (.slice u1 u2 u3) y.args) := ESlP.mono hes (fun j hj => by have := HL2.out; have : W.heap.size ≤ j := hj; omega)
    have HL3 : Hid (w.heap.size < w3.heap.size) := by show _ < _; have := HL2.out; omega
    have HDN : Hid (y.deep ≤ 48 ∧ i ≤ 600) := ⟨hd, hm⟩
    obtain ⟨t0', t1', t2', t3'⟩ := tc4_c T3
    obtain ⟨s0', s1', s2', s3'⟩ := tc4_c U3
    have hl23 : w2.heap.size < w3.heap.size := by have := HL2.out; omega
    have sa := fun A : Obj => tc4_c ((heap_alloc_old w3 A hl23).trans U3)
    have sa0 := fun A => (sa A).1
    have sa1 := fun A => (sa A).2.1
    have sa2 := fun A => (sa A).2.2.1
    have sa3 := fun A => (sa A).2.2.2
    clear sa hl23
    have hl13 : w1.heap.size < w3.heap.size := by have := HL2.out; omega
    have ta := fun A : Obj => tc4_c ((heap_alloc_old w3 A hl13).trans T3)
    have ta0 := fun A => (ta A).1
    have ta1 := fun A => (ta A).2.1
    have ta2 := fun A => (ta A).2.2.1
    have ta3 := fun A => (ta A).2.2.2
    clear ta hl13
    clear hp hg hes hd hm hsz T3 U3 t0 t1 t2 t3 s0 s1 s2 s3
    refine wpAny_ready (rs := [1, 7]) (by kernel_rfl) (by simp) ?_
    refine AllReady.cons rfl (fun K hK => ?_) (AllReady.cons rfl (fun K hK => ?_) (AllReady.nil))
    · go_simp
      refine hK _ _ ?_
      clear hK K
      refine wpAny_ready (rs := [7]) (by kernel_rfl) (by simp) ?_
      refine AllReady.cons rfl (fun K hK => ?_) AllReady.nil
      go_simp
      refine hK _ _ ?_
      clear hK K
      refine wpAny_ready (rs := [8]) (by kernel_rfl) (by simp) ?_
      refine AllReady.cons rfl (fun K hK => ?_) AllReady.nil
      go_simp
      have BL7 := (Below.refl w3.heap.size w3).alloc (Nat.le_refl _) (.cells #[.int .i64 y.kind, .int .i64 y.num, .string y.name, .int .i64 y.op, .slice u1 u2 u3, .int .i64 (y.deep : Int)] 98)
      refine (makeS_any (fun j => w.heap.size < j) pb g c L r b i t 1 ⟨t'.text.toArray⟩ 0 [(y, .slice u1 u2 u3)] (.slice none 0 0) (.slice none 0 0) .leaf .leaf _ _ (HS3.out.below BL7) HDN.out.2 (PA.one w3 y _ ⟨_, _, _, rfl⟩ HDN.out.1 98) ?_ (SSlP.nil _ _) (SSlP.nil _ _) ?_ ?_).mono ?_
      · intro z hz
        simp at hz
        subst hz
        exact HF3.out.below BL7
      · intro j hj; have := HL3.out; simp at hj; omega
      · intro j hj; have := HPL.out; omega
      have HG7 : Gr w (w3.alloc (.cells #[.int .i64 y.kind, .int .i64 y.num, .string y.name, .int .i64 y.op, .slice u1 u2 u3, .int .i64 (y.deep : Int)] 98)) pb := HG3.out.alloc _
      have HB7 := (BL7.block _ HL3.out).trans HB3.out
      clear BL7
      generalize (w3.alloc (.cells #[.int .i64 y.kind, .int .i64 y.num, .string y.name, .int .i64 y.op, .slice u1 u2 u3, .int .i64 (y.deep : Int)] 98)) = w7 at HG7 HB7 ⊢
      show ∀ e w', TPost w7 (fun j => w.heap.size < j) pb g c L b (mkS t ⟨1, ⟨t'.text.toArray⟩, 0, erow [y], .leaf, .leaf⟩ r i) e w' → _
      unfold ofPart at HP
      dsimp only at HP
      unfold mkS at HP ⊢
      by_cases h6 : 600 < i + 1
      · rw [if_pos h6] at HP ⊢
        rintro e w8 ⟨rfl, hg⟩
        refine ⟨rfl, ?_⟩
        rw [← HP.out]
        exact ⟨rfl, HG7.trans hg⟩
      · rw [if_neg h6] at HP ⊢
        intro e w8 hep
        obtain ⟨q1, q2, q3, b1, b2, b3, e1, e2, e3, rfl, hb8, hs1, hs2⟩ := hep.give HG7 HB7 (Nat.le_refl _) (fun j hj => ⟨by omega, by omega⟩) HPL.out
        rw [HP.out] at hs2
        have HS1' : Hid ((set6 w8 w.heap.size (.int .i64 1) (.string ⟨t'.text.toArray⟩) (.int .i64 0) (.slice q1 q2 q3) (.slice b1 b2 b3) (.slice e1 e2 e3)).heap[w.heap.size]? = some (.cells #[.int .i64 1, .string ⟨t'.text.toArray⟩, .int .i64 0, .slice q1 q2 q3, .slice b1 b2 b3, .slice e1 e2 e3] 39)) := hs1
        have HS2' : Hid (P (.returned (.agg #[.int .i64 1, .string ⟨t'.text.toArray⟩, .int .i64 0, .slice q1 q2 q3, .slice b1 b2 b3, .slice e1 e2 e3])) (set6 w8 w.heap.size (.int .i64 1) (.string ⟨t'.text.toArray⟩) (.int .i64 0) (.slice q1 q2 q3) (.slice b1 b2 b3) (.slice e1 e2 e3))) := hs2
        obtain ⟨⟨a0, a1, a2, a3, a4, a5⟩, z0, z1, z2, z3, z4, z5⟩ := z39_c hb8
        clear hs1 hs2 hb8 hep HG7 HB7
        refine hK _ _ ?_
        clear hK K
        refine wpAny_ready (rs := [9]) (by kernel_rfl) (by simp) ?_
        refine AllReady.cons rfl (fun K hK => ?_) AllReady.nil
        go_simp
        refine hK _ _ ?_
        clear hK K
        refine wpAny_done (by kernel_rfl) ?_ _
        go_wp2
        exact bodyPost_ret (ret_stmt 2 Tryd.results56 _ w.heap.size rfl _ _ _ _ _ _ _ HS1'.out) rfl HS2'.out
    · go_simp
      refine hK _ _ ?_
      clear hK K
      refine wpAny_ready (rs := [1]) (by kernel_rfl) (by simp) ?_
      refine AllReady.cons rfl (fun K hK => ?_) AllReady.nil
      go_simp
      refine hK _ _ ?_
      clear hK K
      refine wpAny_ready (rs := [8]) (by kernel_rfl) (by simp) ?_
      refine AllReady.cons rfl (fun K hK => ?_) AllReady.nil
      go_simp
      have BL7 := (Below.refl w3.heap.size w3).alloc (Nat.le_refl _) (.cells #[.int .i64 y.kind, .int .i64 y.num, .string y.name, .int .i64 y.op, .slice u1 u2 u3, .int .i64 (y.deep : Int)] 98)
      refine (makeS_any (fun j => w.heap.size < j) pb g c L r b i t 1 ⟨t'.text.toArray⟩ 0 [(y, .slice u1 u2 u3)] (.slice none 0 0) (.slice none 0 0) .leaf .leaf _ _ (HS3.out.below BL7) HDN.out.2 (PA.one w3 y _ ⟨_, _, _, rfl⟩ HDN.out.1 98) ?_ (SSlP.nil _ _) (SSlP.nil _ _) ?_ ?_).mono ?_
      · intro z hz
        simp at hz
        subst hz
        exact HF3.out.below BL7
      · intro j hj; have := HL3.out; simp at hj; omega
      · intro j hj; have := HPL.out; omega
      have HG7 : Gr w (w3.alloc (.cells #[.int .i64 y.kind, .int .i64 y.num, .string y.name, .int .i64 y.op, .slice u1 u2 u3, .int .i64 (y.deep : Int)] 98)) pb := HG3.out.alloc _
      have HB7 := (BL7.block _ HL3.out).trans HB3.out
      clear BL7
      generalize (w3.alloc (.cells #[.int .i64 y.kind, .int .i64 y.num, .string y.name, .int .i64 y.op, .slice u1 u2 u3, .int .i64 (y.deep : Int)] 98)) = w7 at HG7 HB7 ⊢
      show ∀ e w', TPost w7 (fun j => w.heap.size < j) pb g c L b (mkS t ⟨1, ⟨t'.text.toArray⟩, 0, erow [y], .leaf, .leaf⟩ r i) e w' → _
      unfold ofPart at HP
      dsimp only at HP
      unfold mkS at HP ⊢
      by_cases h6 : 600 < i + 1
      · rw [if_pos h6] at HP ⊢
        rintro e w8 ⟨rfl, hg⟩
        refine ⟨rfl, ?_⟩
        rw [← HP.out]
        exact ⟨rfl, HG7.trans hg⟩
      · rw [if_neg h6] at HP ⊢
        intro e w8 hep
        obtain ⟨q1, q2, q3, b1, b2, b3, e1, e2, e3, rfl, hb8, hs1, hs2⟩ := hep.give HG7 HB7 (Nat.le_refl _) (fun j hj => ⟨by omega, by omega⟩) HPL.out
        rw [HP.out] at hs2
        have HS1' : Hid ((set6 w8 w.heap.size (.int .i64 1) (.string ⟨t'.text.toArray⟩) (.int .i64 0) (.slice q1 q2 q3) (.slice b1 b2 b3) (.slice e1 e2 e3)).heap[w.heap.size]? = some (.cells #[.int .i64 1, .string ⟨t'.text.toArray⟩, .int .i64 0, .slice q1 q2 q3, .slice b1 b2 b3, .slice e1 e2 e3] 39)) := hs1
        have HS2' : Hid (P (.returned (.agg #[.int .i64 1, .string ⟨t'.text.toArray⟩, .int .i64 0, .slice q1 q2 q3, .slice b1 b2 b3, .slice e1 e2 e3])) (set6 w8 w.heap.size (.int .i64 1) (.string ⟨t'.text.toArray⟩) (.int .i64 0) (.slice q1 q2 q3) (.slice b1 b2 b3) (.slice e1 e2 e3))) := hs2
        obtain ⟨⟨a0, a1, a2, a3, a4, a5⟩, z0, z1, z2, z3, z4, z5⟩ := z39_c hb8
        clear hs1 hs2 hb8 hep HG7 HB7
        refine hK _ _ ?_
        clear hK K
        refine wpAny_ready (rs := [9]) (by kernel_rfl) (by simp) ?_
        refine AllReady.cons rfl (fun K hK => ?_) AllReady.nil
        go_simp
        refine hK _ _ ?_
        clear hK K
        refine wpAny_done (by kernel_rfl) ?_ _
        go_wp2
        exact bodyPost_ret (ret_stmt 2 Tryd.results56 _ w.heap.size rfl _ _ _ _ _ _ _ HS1'.out) rfl HS2'.out
  · rename_i hK
    refine (HV2.out _ HS2.out.drew (HSG.out.gr HG2.out.drew)).mono ?_
    rintro e w3 ⟨u, rfl, hes, hp, hg, hd, hm⟩
    obtain ⟨u1, u2, u3, rfl⟩ := hes.sl
    unfold rxv rx
    refine hK _ _ ?_
    clear hK
    have hsz : W.heap.size ≤ w3.heap.size := hg.size
    have HB3 : Hid (w3.heap[w.heap.size]? = some z39) := (hg.blk (k := w.heap.size) (by have := HL2.out; show _ < W.heap.size; omega) HPL.out.1).trans HB2.out
    have T3 : w3.heap[w1.heap.size]? = some (tc4 t) := (hg.blk (k := w1.heap.size) (by have := HL2.out; show _ < W.heap.size; omega) HL1.out.2.1).trans HT2.out
    have U3 : w3.heap[w2.heap.size]? = some (tc4 t') := (hg.blk (k := w2.heap.size) (by have := HL2.out; show _ < W.heap.size; omega) HL2.out.2.2.1).trans HU2.out
    have HS3 : Hid (PS w3 pb g c L r 0 b i) := hp
    have HG3 : Hid (Gr w w3 pb) := HG2.out.drew.trans hg
    have HF3 : Hid (ESlP w3 (fun j => w.heap.size < j) (.slice u1 u2 u3) y.args) := ESlP.mono hes (fun j hj => by have := HL2.out; have : W.heap.size ≤ j := hj; omega)
    have HL3 : Hid (w.heap.size < w3.heap.size) := by show _ < _; have := HL2.out; omega
    have HDN : Hid (y.deep ≤ 48 ∧ i ≤ 600) := ⟨hd, hm⟩
    obtain ⟨t0', t1', t2', t3'⟩ := tc4_c T3
    obtain ⟨s0', s1', s2', s3'⟩ := tc4_c U3
    have hl23 : w2.heap.size < w3.heap.size := by have := HL2.out; omega
    have sa := fun A : Obj => tc4_c ((heap_alloc_old w3 A hl23).trans U3)
    have sa0 := fun A => (sa A).1
    have sa1 := fun A => (sa A).2.1
    have sa2 := fun A => (sa A).2.2.1
    have sa3 := fun A => (sa A).2.2.2
    clear sa hl23
    have hl13 : w1.heap.size < w3.heap.size := by have := HL2.out; omega
    have ta := fun A : Obj => tc4_c ((heap_alloc_old w3 A hl13).trans T3)
    have ta0 := fun A => (ta A).1
    have ta1 := fun A => (ta A).2.1
    have ta2 := fun A => (ta A).2.2.1
    have ta3 := fun A => (ta A).2.2.2
    clear ta hl13
    clear hp hg hes hd hm hsz T3 U3 t0 t1 t2 t3 s0 s1 s2 s3
    refine wpAny_ready (rs := [1, 3, 7]) (by kernel_rfl) (by simp) ?_
    refine AllReady.cons rfl (fun K hK => ?_) (AllReady.cons rfl (fun K hK => ?_) (AllReady.cons rfl (fun K hK => ?_) (AllReady.nil)))
    · go_simp
      refine hK _ _ ?_
      clear hK K
      refine wpAny_ready (rs := [3, 7]) (by kernel_rfl) (by simp) ?_
      refine AllReady.cons rfl (fun K hK => ?_) (AllReady.cons rfl (fun K hK => ?_) (AllReady.nil))
      · go_simp
        refine hK _ _ ?_
        clear hK K
        refine wpAny_ready (rs := [4, 7]) (by kernel_rfl) (by simp) ?_
        refine AllReady.cons rfl (fun K hK => ?_) (AllReady.cons rfl (fun K hK => ?_) (AllReady.nil))
        · go_simp
          refine hK _ _ ?_
          clear hK K
          refine wpAny_ready (rs := [7]) (by kernel_rfl) (by simp) ?_
          refine AllReady.cons rfl (fun K hK => ?_) AllReady.nil
          go_simp
          refine hK _ _ ?_
          clear hK K
          refine wpAny_ready (rs := [8]) (by kernel_rfl) (by simp) ?_
          refine AllReady.cons rfl (fun K hK => ?_) AllReady.nil
          go_simp
          have BL7 := (Below.refl w3.heap.size w3).alloc (Nat.le_refl _) (.cells #[.int .i64 y.kind, .int .i64 y.num, .string y.name, .int .i64 y.op, .slice u1 u2 u3, .int .i64 (y.deep : Int)] 98)
          refine (makeS_any (fun j => w.heap.size < j) pb g c L r b i t 1 ⟨t'.text.toArray⟩ 0 [(y, .slice u1 u2 u3)] (.slice none 0 0) (.slice none 0 0) .leaf .leaf _ _ (HS3.out.below BL7) HDN.out.2 (PA.one w3 y _ ⟨_, _, _, rfl⟩ HDN.out.1 98) ?_ (SSlP.nil _ _) (SSlP.nil _ _) ?_ ?_).mono ?_
          · intro z hz
            simp at hz
            subst hz
            exact HF3.out.below BL7
          · intro j hj; have := HL3.out; simp at hj; omega
          · intro j hj; have := HPL.out; omega
          have HG7 : Gr w (w3.alloc (.cells #[.int .i64 y.kind, .int .i64 y.num, .string y.name, .int .i64 y.op, .slice u1 u2 u3, .int .i64 (y.deep : Int)] 98)) pb := HG3.out.alloc _
          have HB7 := (BL7.block _ HL3.out).trans HB3.out
          clear BL7
          generalize (w3.alloc (.cells #[.int .i64 y.kind, .int .i64 y.num, .string y.name, .int .i64 y.op, .slice u1 u2 u3, .int .i64 (y.deep : Int)] 98)) = w7 at HG7 HB7 ⊢
          show ∀ e w', TPost w7 (fun j => w.heap.size < j) pb g c L b (mkS t ⟨1, ⟨t'.text.toArray⟩, 0, erow [y], .leaf, .leaf⟩ r i) e w' → _
          unfold ofPart at HP
          dsimp only at HP
          unfold mkS at HP ⊢
          by_cases h6 : 600 < i + 1
          · rw [if_pos h6] at HP ⊢
            rintro e w8 ⟨rfl, hg⟩
            refine ⟨rfl, ?_⟩
            rw [← HP.out]
            exact ⟨rfl, HG7.trans hg⟩
          · rw [if_neg h6] at HP ⊢
            intro e w8 hep
            obtain ⟨q1, q2, q3, b1, b2, b3, e1, e2, e3, rfl, hb8, hs1, hs2⟩ := hep.give HG7 HB7 (Nat.le_refl _) (fun j hj => ⟨by omega, by omega⟩) HPL.out
            rw [HP.out] at hs2
            have HS1' : Hid ((set6 w8 w.heap.size (.int .i64 1) (.string ⟨t'.text.toArray⟩) (.int .i64 0) (.slice q1 q2 q3) (.slice b1 b2 b3) (.slice e1 e2 e3)).heap[w.heap.size]? = some (.cells #[.int .i64 1, .string ⟨t'.text.toArray⟩, .int .i64 0, .slice q1 q2 q3, .slice b1 b2 b3, .slice e1 e2 e3] 39)) := hs1
            have HS2' : Hid (P (.returned (.agg #[.int .i64 1, .string ⟨t'.text.toArray⟩, .int .i64 0, .slice q1 q2 q3, .slice b1 b2 b3, .slice e1 e2 e3])) (set6 w8 w.heap.size (.int .i64 1) (.string ⟨t'.text.toArray⟩) (.int .i64 0) (.slice q1 q2 q3) (.slice b1 b2 b3) (.slice e1 e2 e3))) := hs2
            obtain ⟨⟨a0, a1, a2, a3, a4, a5⟩, z0, z1, z2, z3, z4, z5⟩ := z39_c hb8
            clear hs1 hs2 hb8 hep HG7 HB7
            refine hK _ _ ?_
            clear hK K
            refine wpAny_ready (rs := [9]) (by kernel_rfl) (by simp) ?_
            refine AllReady.cons rfl (fun K hK => ?_) AllReady.nil
            go_simp
            refine hK _ _ ?_
            clear hK K
            refine wpAny_done (by kernel_rfl) ?_ _
            go_wp2
            exact bodyPost_ret (ret_stmt 2 Tryd.results56 _ w.heap.size rfl _ _ _ _ _ _ _ HS1'.out) rfl HS2'.out
        · go_simp
          refine hK _ _ ?_
          clear hK K
          refine wpAny_ready (rs := [4]) (by kernel_rfl) (by simp) ?_
          refine AllReady.cons rfl (fun K hK => ?_) AllReady.nil
          go_simp
          refine hK _ _ ?_
          clear hK K
          refine wpAny_ready (rs := [8]) (by kernel_rfl) (by simp) ?_
          refine AllReady.cons rfl (fun K hK => ?_) AllReady.nil
          go_simp
          have BL7 := (Below.refl w3.heap.size w3).alloc (Nat.le_refl _) (.cells #[.int .i64 y.kind, .int .i64 y.num, .string y.name, .int .i64 y.op, .slice u1 u2 u3, .int .i64 (y.deep : Int)] 98)
          refine (makeS_any (fun j => w.heap.size < j) pb g c L r b i t 1 ⟨t'.text.toArray⟩ 0 [(y, .slice u1 u2 u3)] (.slice none 0 0) (.slice none 0 0) .leaf .leaf _ _ (HS3.out.below BL7) HDN.out.2 (PA.one w3 y _ ⟨_, _, _, rfl⟩ HDN.out.1 98) ?_ (SSlP.nil _ _) (SSlP.nil _ _) ?_ ?_).mono ?_
          · intro z hz
            simp at hz
            subst hz
            exact HF3.out.below BL7
          · intro j hj; have := HL3.out; simp at hj; omega
          · intro j hj; have := HPL.out; omega
          have HG7 : Gr w (w3.alloc (.cells #[.int .i64 y.kind, .int .i64 y.num, .string y.name, .int .i64 y.op, .slice u1 u2 u3, .int .i64 (y.deep : Int)] 98)) pb := HG3.out.alloc _
          have HB7 := (BL7.block _ HL3.out).trans HB3.out
          clear BL7
          generalize (w3.alloc (.cells #[.int .i64 y.kind, .int .i64 y.num, .string y.name, .int .i64 y.op, .slice u1 u2 u3, .int .i64 (y.deep : Int)] 98)) = w7 at HG7 HB7 ⊢
          show ∀ e w', TPost w7 (fun j => w.heap.size < j) pb g c L b (mkS t ⟨1, ⟨t'.text.toArray⟩, 0, erow [y], .leaf, .leaf⟩ r i) e w' → _
          unfold ofPart at HP
          dsimp only at HP
          unfold mkS at HP ⊢
          by_cases h6 : 600 < i + 1
          · rw [if_pos h6] at HP ⊢
            rintro e w8 ⟨rfl, hg⟩
            refine ⟨rfl, ?_⟩
            rw [← HP.out]
            exact ⟨rfl, HG7.trans hg⟩
          · rw [if_neg h6] at HP ⊢
            intro e w8 hep
            obtain ⟨q1, q2, q3, b1, b2, b3, e1, e2, e3, rfl, hb8, hs1, hs2⟩ := hep.give HG7 HB7 (Nat.le_refl _) (fun j hj => ⟨by omega, by omega⟩) HPL.out
            rw [HP.out] at hs2
            have HS1' : Hid ((set6 w8 w.heap.size (.int .i64 1) (.string ⟨t'.text.toArray⟩) (.int .i64 0) (.slice q1 q2 q3) (.slice b1 b2 b3) (.slice e1 e2 e3)).heap[w.heap.size]? = some (.cells #[.int .i64 1, .string ⟨t'.text.toArray⟩, .int .i64 0, .slice q1 q2 q3, .slice b1 b2 b3, .slice e1 e2 e3] 39)) := hs1
            have HS2' : Hid (P (.returned (.agg #[.int .i64 1, .string ⟨t'.text.toArray⟩, .int .i64 0, .slice q1 q2 q3, .slice b1 b2 b3, .slice e1 e2 e3])) (set6 w8 w.heap.size (.int .i64 1) (.string ⟨t'.text.toArray⟩) (.int .i64 0) (.slice q1 q2 q3) (.slice b1 b2 b3) (.slice e1 e2 e3))) := hs2
            obtain ⟨⟨a0, a1, a2, a3, a4, a5⟩, z0, z1, z2, z3, z4, z5⟩ := z39_c hb8
            clear hs1 hs2 hb8 hep HG7 HB7
            refine hK _ _ ?_
            clear hK K
            refine wpAny_ready (rs := [9]) (by kernel_rfl) (by simp) ?_
            refine AllReady.cons rfl (fun K hK => ?_) AllReady.nil
            go_simp
            refine hK _ _ ?_
            clear hK K
            refine wpAny_done (by kernel_rfl) ?_ _
            go_wp2
            exact bodyPost_ret (ret_stmt 2 Tryd.results56 _ w.heap.size rfl _ _ _ _ _ _ _ HS1'.out) rfl HS2'.out
      · go_simp
        refine hK _ _ ?_
        clear hK K
        refine wpAny_ready (rs := [3]) (by kernel_rfl) (by simp) ?_
        refine AllReady.cons rfl (fun K hK => ?_) AllReady.nil
        go_simp
        refine hK _ _ ?_
        clear hK K
        refine wpAny_ready (rs := [4]) (by kernel_rfl) (by simp) ?_
        refine AllReady.cons rfl (fun K hK => ?_) AllReady.nil
        go_simp
        refine hK _ _ ?_
        clear hK K
        refine wpAny_ready (rs := [8]) (by kernel_rfl) (by simp) ?_
        refine AllReady.cons rfl (fun K hK => ?_) AllReady.nil
        go_simp
        have BL7 := (Below.refl w3.heap.size w3).alloc (Nat.le_refl _) (.cells #[.int .i64 y.kind, .int .i64 y.num, .string y.name, .int .i64 y.op, .slice u1 u2 u3, .int .i64 (y.deep : Int)] 98)
        refine (makeS_any (fun j => w.heap.size < j) pb g c L r b i t 1 ⟨t'.text.toArray⟩ 0 [(y, .slice u1 u2 u3)] (.slice none 0 0) (.slice none 0 0) .leaf .leaf _ _ (HS3.out.below BL7) HDN.out.2 (PA.one w3 y _ ⟨_, _, _, rfl⟩ HDN.out.1 98) ?_ (SSlP.nil _ _) (SSlP.nil _ _) ?_ ?_).mono ?_
        · intro z hz
          simp at hz
          subst hz
          exact HF3.out.below BL7
        · intro j hj; have := HL3.out; simp at hj; omega
        · intro j hj; have := HPL.out; omega
        have HG7 : Gr w (w3.alloc (.cells #[.int .i64 y.kind, .int .i64 y.num, .string y.name, .int .i64 y.op, .slice u1 u2 u3, .int .i64 (y.deep : Int)] 98)) pb := HG3.out.alloc _
        have HB7 := (BL7.block _ HL3.out).trans HB3.out
        clear BL7
        generalize (w3.alloc (.cells #[.int .i64 y.kind, .int .i64 y.num, .string y.name, .int .i64 y.op, .slice u1 u2 u3, .int .i64 (y.deep : Int)] 98)) = w7 at HG7 HB7 ⊢
        show ∀ e w', TPost w7 (fun j => w.heap.size < j) pb g c L b (mkS t ⟨1, ⟨t'.text.toArray⟩, 0, erow [y], .leaf, .leaf⟩ r i) e w' → _
        unfold ofPart at HP
        dsimp only at HP
        unfold mkS at HP ⊢
        by_cases h6 : 600 < i + 1
        · rw [if_pos h6] at HP ⊢
          rintro e w8 ⟨rfl, hg⟩
          refine ⟨rfl, ?_⟩
          rw [← HP.out]
          exact ⟨rfl, HG7.trans hg⟩
        · rw [if_neg h6] at HP ⊢
          intro e w8 hep
          obtain ⟨q1, q2, q3, b1, b2, b3, e1, e2, e3, rfl, hb8, hs1, hs2⟩ := hep.give HG7 HB7 (Nat.le_refl _) (fun j hj => ⟨by omega, by omega⟩) HPL.out
          rw [HP.out] at hs2
          have HS1' : Hid ((set6 w8 w.heap.size (.int .i64 1) (.string ⟨t'.text.toArray⟩) (.int .i64 0) (.slice q1 q2 q3) (.slice b1 b2 b3) (.slice e1 e2 e3)).heap[w.heap.size]? = some (.cells #[.int .i64 1, .string ⟨t'.text.toArray⟩, .int .i64 0, .slice q1 q2 q3, .slice b1 b2 b3, .slice e1 e2 e3] 39)) := hs1
          have HS2' : Hid (P (.returned (.agg #[.int .i64 1, .string ⟨t'.text.toArray⟩, .int .i64 0, .slice q1 q2 q3, .slice b1 b2 b3, .slice e1 e2 e3])) (set6 w8 w.heap.size (.int .i64 1) (.string ⟨t'.text.toArray⟩) (.int .i64 0) (.slice q1 q2 q3) (.slice b1 b2 b3) (.slice e1 e2 e3))) := hs2
          obtain ⟨⟨a0, a1, a2, a3, a4, a5⟩, z0, z1, z2, z3, z4, z5⟩ := z39_c hb8
          clear hs1 hs2 hb8 hep HG7 HB7
          refine hK _ _ ?_
          clear hK K
          refine wpAny_ready (rs := [9]) (by kernel_rfl) (by simp) ?_
          refine AllReady.cons rfl (fun K hK => ?_) AllReady.nil
          go_simp
          refine hK _ _ ?_
          clear hK K
          refine wpAny_done (by kernel_rfl) ?_ _
          go_wp2
          exact bodyPost_ret (ret_stmt 2 Tryd.results56 _ w.heap.size rfl _ _ _ _ _ _ _ HS1'.out) rfl HS2'.out
    · go_simp
      refine hK _ _ ?_
      clear hK K
      refine wpAny_ready (rs := [1, 4, 7]) (by kernel_rfl) (by simp) ?_
      refine AllReady.cons rfl (fun K hK => ?_) (AllReady.cons rfl (fun K hK => ?_) (AllReady.cons rfl (fun K hK => ?_) (AllReady.nil)))
      · go_simp
        refine hK _ _ ?_
        clear hK K
        refine wpAny_ready (rs := [4, 7]) (by kernel_rfl) (by simp) ?_
        refine AllReady.cons rfl (fun K hK => ?_) (AllReady.cons rfl (fun K hK => ?_) (AllReady.nil))
        · go_simp
          refine hK _ _ ?_
          clear hK K
          refine wpAny_ready (rs := [7]) (by kernel_rfl) (by simp) ?_
          refine AllReady.cons rfl (fun K hK => ?_) AllReady.nil
          go_simp
          refine hK _ _ ?_
          clear hK K
          refine wpAny_ready (rs := [8]) (by kernel_rfl) (by simp) ?_
          refine AllReady.cons rfl (fun K hK => ?_) AllReady.nil
          go_simp
          have BL7 := (Below.refl w3.heap.size w3).alloc (Nat.le_refl _) (.cells #[.int .i64 y.kind, .int .i64 y.num, .string y.name, .int .i64 y.op, .slice u1 u2 u3, .int .i64 (y.deep : Int)] 98)
          refine (makeS_any (fun j => w.heap.size < j) pb g c L r b i t 1 ⟨t'.text.toArray⟩ 0 [(y, .slice u1 u2 u3)] (.slice none 0 0) (.slice none 0 0) .leaf .leaf _ _ (HS3.out.below BL7) HDN.out.2 (PA.one w3 y _ ⟨_, _, _, rfl⟩ HDN.out.1 98) ?_ (SSlP.nil _ _) (SSlP.nil _ _) ?_ ?_).mono ?_
          · intro z hz
            simp at hz
            subst hz
            exact HF3.out.below BL7
          · intro j hj; have := HL3.out; simp at hj; omega
          · intro j hj; have := HPL.out; omega
          have HG7 : Gr w (w3.alloc (.cells #[.int .i64 y.kind, .int .i64 y.num, .string y.name, .int .i64 y.op, .slice u1 u2 u3, .int .i64 (y.deep : Int)] 98)) pb := HG3.out.alloc _
          have HB7 := (BL7.block _ HL3.out).trans HB3.out
          clear BL7
          generalize (w3.alloc (.cells #[.int .i64 y.kind, .int .i64 y.num, .string y.name, .int .i64 y.op, .slice u1 u2 u3, .int .i64 (y.deep : Int)] 98)) = w7 at HG7 HB7 ⊢
          show ∀ e w', TPost w7 (fun j => w.heap.size < j) pb g c L b (mkS t ⟨1, ⟨t'.text.toArray⟩, 0, erow [y], .leaf, .leaf⟩ r i) e w' → _
          unfold ofPart at HP
          dsimp only at HP
          unfold mkS at HP ⊢
          by_cases h6 : 600 < i + 1
          · rw [if_pos h6] at HP ⊢
            rintro e w8 ⟨rfl, hg⟩
            refine ⟨rfl, ?_⟩
            rw [← HP.out]
            exact ⟨rfl, HG7.trans hg⟩
          · rw [if_neg h6] at HP ⊢
            intro e w8 hep
            obtain ⟨q1, q2, q3, b1, b2, b3, e1, e2, e3, rfl, hb8, hs1, hs2⟩ := hep.give HG7 HB7 (Nat.le_refl _) (fun j hj => ⟨by omega, by omega⟩) HPL.out
            rw [HP.out] at hs2
            have HS1' : Hid ((set6 w8 w.heap.size (.int .i64 1) (.string ⟨t'.text.toArray⟩) (.int .i64 0) (.slice q1 q2 q3) (.slice b1 b2 b3) (.slice e1 e2 e3)).heap[w.heap.size]? = some (.cells #[.int .i64 1, .string ⟨t'.text.toArray⟩, .int .i64 0, .slice q1 q2 q3, .slice b1 b2 b3, .slice e1 e2 e3] 39)) := hs1
            have HS2' : Hid (P (.returned (.agg #[.int .i64 1, .string ⟨t'.text.toArray⟩, .int .i64 0, .slice q1 q2 q3, .slice b1 b2 b3, .slice e1 e2 e3])) (set6 w8 w.heap.size (.int .i64 1) (.string ⟨t'.text.toArray⟩) (.int .i64 0) (.slice q1 q2 q3) (.slice b1 b2 b3) (.slice e1 e2 e3))) := hs2
            obtain ⟨⟨a0, a1, a2, a3, a4, a5⟩, z0, z1, z2, z3, z4, z5⟩ := z39_c hb8
            clear hs1 hs2 hb8 hep HG7 HB7
            refine hK _ _ ?_
            clear hK K
            refine wpAny_ready (rs := [9]) (by kernel_rfl) (by simp) ?_
            refine AllReady.cons rfl (fun K hK => ?_) AllReady.nil
            go_simp
            refine hK _ _ ?_
            clear hK K
            refine wpAny_done (by kernel_rfl) ?_ _
            go_wp2
            exact bodyPost_ret (ret_stmt 2 Tryd.results56 _ w.heap.size rfl _ _ _ _ _ _ _ HS1'.out) rfl HS2'.out
        · go_simp
          refine hK _ _ ?_
          clear hK K
          refine wpAny_ready (rs := [4]) (by kernel_rfl) (by simp) ?_
          refine AllReady.cons rfl (fun K hK => ?_) AllReady.nil
          go_simp
          refine hK _ _ ?_
          clear hK K
          refine wpAny_ready (rs := [8]) (by kernel_rfl) (by simp) ?_
          refine AllReady.cons rfl (fun K hK => ?_) AllReady.nil
          go_simp
          have BL7 := (Below.refl w3.heap.size w3).alloc (Nat.le_refl _) (.cells #[.int .i64 y.kind, .int .i64 y.num, .string y.name, .int .i64 y.op, .slice u1 u2 u3, .int .i64 (y.deep : Int)] 98)
          refine (makeS_any (fun j => w.heap.size < j) pb g c L r b i t 1 ⟨t'.text.toArray⟩ 0 [(y, .slice u1 u2 u3)] (.slice none 0 0) (.slice none 0 0) .leaf .leaf _ _ (HS3.out.below BL7) HDN.out.2 (PA.one w3 y _ ⟨_, _, _, rfl⟩ HDN.out.1 98) ?_ (SSlP.nil _ _) (SSlP.nil _ _) ?_ ?_).mono ?_
          · intro z hz
            simp at hz
            subst hz
            exact HF3.out.below BL7
          · intro j hj; have := HL3.out; simp at hj; omega
          · intro j hj; have := HPL.out; omega
          have HG7 : Gr w (w3.alloc (.cells #[.int .i64 y.kind, .int .i64 y.num, .string y.name, .int .i64 y.op, .slice u1 u2 u3, .int .i64 (y.deep : Int)] 98)) pb := HG3.out.alloc _
          have HB7 := (BL7.block _ HL3.out).trans HB3.out
          clear BL7
          generalize (w3.alloc (.cells #[.int .i64 y.kind, .int .i64 y.num, .string y.name, .int .i64 y.op, .slice u1 u2 u3, .int .i64 (y.deep : Int)] 98)) = w7 at HG7 HB7 ⊢
          show ∀ e w', TPost w7 (fun j => w.heap.size < j) pb g c L b (mkS t ⟨1, ⟨t'.text.toArray⟩, 0, erow [y], .leaf, .leaf⟩ r i) e w' → _
          unfold ofPart at HP
          dsimp only at HP
          unfold mkS at HP ⊢
          by_cases h6 : 600 < i + 1
          · rw [if_pos h6] at HP ⊢
            rintro e w8 ⟨rfl, hg⟩
            refine ⟨rfl, ?_⟩
            rw [← HP.out]
            exact ⟨rfl, HG7.trans hg⟩
          · rw [if_neg h6] at HP ⊢
            intro e w8 hep
            obtain ⟨q1, q2, q3, b1, b2, b3, e1, e2, e3, rfl, hb8, hs1, hs2⟩ := hep.give HG7 HB7 (Nat.le_refl _) (fun j hj => ⟨by omega, by omega⟩) HPL.out
            rw [HP.out] at hs2
            have HS1' : Hid ((set6 w8 w.heap.size (.int .i64 1) (.string ⟨t'.text.toArray⟩) (.int .i64 0) (.slice q1 q2 q3) (.slice b1 b2 b3) (.slice e1 e2 e3)).heap[w.heap.size]? = some (.cells #[.int .i64 1, .string ⟨t'.text.toArray⟩, .int .i64 0, .slice q1 q2 q3, .slice b1 b2 b3, .slice e1 e2 e3] 39)) := hs1
            have HS2' : Hid (P (.returned (.agg #[.int .i64 1, .string ⟨t'.text.toArray⟩, .int .i64 0, .slice q1 q2 q3, .slice b1 b2 b3, .slice e1 e2 e3])) (set6 w8 w.heap.size (.int .i64 1) (.string ⟨t'.text.toArray⟩) (.int .i64 0) (.slice q1 q2 q3) (.slice b1 b2 b3) (.slice e1 e2 e3))) := hs2
            obtain ⟨⟨a0, a1, a2, a3, a4, a5⟩, z0, z1, z2, z3, z4, z5⟩ := z39_c hb8
            clear hs1 hs2 hb8 hep HG7 HB7
            refine hK _ _ ?_
            clear hK K
            refine wpAny_ready (rs := [9]) (by kernel_rfl) (by simp) ?_
            refine AllReady.cons rfl (fun K hK => ?_) AllReady.nil
            go_simp
            refine hK _ _ ?_
            clear hK K
            refine wpAny_done (by kernel_rfl) ?_ _
            go_wp2
            exact bodyPost_ret (ret_stmt 2 Tryd.results56 _ w.heap.size rfl _ _ _ _ _ _ _ HS1'.out) rfl HS2'.out
      · go_simp
        refine hK _ _ ?_
        clear hK K
        refine wpAny_ready (rs := [1, 7]) (by kernel_rfl) (by simp) ?_
        refine AllReady.cons rfl (fun K hK => ?_) (AllReady.cons rfl (fun K hK => ?_) (AllReady.nil))
        · go_simp
          refine hK _ _ ?_
          clear hK K
          refine wpAny_ready (rs := [7]) (by kernel_rfl) (by simp) ?_
          refine AllReady.cons rfl (fun K hK => ?_) AllReady.nil
          go_simp
          refine hK _ _ ?_
          clear hK K
          refine wpAny_ready (rs := [8]) (by kernel_rfl) (by simp) ?_
          refine AllReady.cons rfl (fun K hK => ?_) AllReady.nil
          go_simp
          have BL7 := (Below.refl w3.heap.size w3).alloc (Nat.le_refl _) (.cells #[.int .i64 y.kind, .int .i64 y.num, .string y.name, .int .i64 y.op, .slice u1 u2 u3, .int .i64 (y.deep : Int)] 98)
          refine (makeS_any (fun j => w.heap.size < j) pb g c L r b i t 1 ⟨t'.text.toArray⟩ 0 [(y, .slice u1 u2 u3)] (.slice none 0 0) (.slice none 0 0) .leaf .leaf _ _ (HS3.out.below BL7) HDN.out.2 (PA.one w3 y _ ⟨_, _, _, rfl⟩ HDN.out.1 98) ?_ (SSlP.nil _ _) (SSlP.nil _ _) ?_ ?_).mono ?_
          · intro z hz
            simp at hz
            subst hz
            exact HF3.out.below BL7
          · intro j hj; have := HL3.out; simp at hj; omega
          · intro j hj; have := HPL.out; omega
          have HG7 : Gr w (w3.alloc (.cells #[.int .i64 y.kind, .int .i64 y.num, .string y.name, .int .i64 y.op, .slice u1 u2 u3, .int .i64 (y.deep : Int)] 98)) pb := HG3.out.alloc _
          have HB7 := (BL7.block _ HL3.out).trans HB3.out
          clear BL7
          generalize (w3.alloc (.cells #[.int .i64 y.kind, .int .i64 y.num, .string y.name, .int .i64 y.op, .slice u1 u2 u3, .int .i64 (y.deep : Int)] 98)) = w7 at HG7 HB7 ⊢
          show ∀ e w', TPost w7 (fun j => w.heap.size < j) pb g c L b (mkS t ⟨1, ⟨t'.text.toArray⟩, 0, erow [y], .leaf, .leaf⟩ r i) e w' → _
          unfold ofPart at HP
          dsimp only at HP
          unfold mkS at HP ⊢
          by_cases h6 : 600 < i + 1
          · rw [if_pos h6] at HP ⊢
            rintro e w8 ⟨rfl, hg⟩
            refine ⟨rfl, ?_⟩
            rw [← HP.out]
            exact ⟨rfl, HG7.trans hg⟩
          · rw [if_neg h6] at HP ⊢
            intro e w8 hep
            obtain ⟨q1, q2, q3, b1, b2, b3, e1, e2, e3, rfl, hb8, hs1, hs2⟩ := hep.give HG7 HB7 (Nat.le_refl _) (fun j hj => ⟨by omega, by omega⟩) HPL.out
            rw [HP.out] at hs2
            have HS1' : Hid ((set6 w8 w.heap.size (.int .i64 1) (.string ⟨t'.text.toArray⟩) (.int .i64 0) (.slice q1 q2 q3) (.slice b1 b2 b3) (.slice e1 e2 e3)).heap[w.heap.size]? = some (.cells #[.int .i64 1, .string ⟨t'.text.toArray⟩, .int .i64 0, .slice q1 q2 q3, .slice b1 b2 b3, .slice e1 e2 e3] 39)) := hs1
            have HS2' : Hid (P (.returned (.agg #[.int .i64 1, .string ⟨t'.text.toArray⟩, .int .i64 0, .slice q1 q2 q3, .slice b1 b2 b3, .slice e1 e2 e3])) (set6 w8 w.heap.size (.int .i64 1) (.string ⟨t'.text.toArray⟩) (.int .i64 0) (.slice q1 q2 q3) (.slice b1 b2 b3) (.slice e1 e2 e3))) := hs2
            obtain ⟨⟨a0, a1, a2, a3, a4, a5⟩, z0, z1, z2, z3, z4, z5⟩ := z39_c hb8
            clear hs1 hs2 hb8 hep HG7 HB7
            refine hK _ _ ?_
            clear hK K
            refine wpAny_ready (rs := [9]) (by kernel_rfl) (by simp) ?_
            refine AllReady.cons rfl (fun K hK => ?_) AllReady.nil
            go_simp
            refine hK _ _ ?_
            clear hK K
            refine wpAny_done (by kernel_rfl) ?_ _
            go_wp2
            exact bodyPost_ret (ret_stmt 2 Tryd.results56 _ w.heap.size rfl _ _ _ _ _ _ _ HS1'.out) rfl HS2'.out
        · go_simp
          refine hK _ _ ?_
          clear hK K
          refine wpAny_ready (rs := [1]) (by kernel_rfl) (by simp) ?_
          refine AllReady.cons rfl (fun K hK => ?_) AllReady.nil
          go_simp
          refine hK _ _ ?_
          clear hK K
          refine wpAny_ready (rs := [8]) (by kernel_rfl) (by simp) ?_
          refine AllReady.cons rfl (fun K hK => ?_) AllReady.nil
          go_simp
          have BL7 := (Below.refl w3.heap.size w3).alloc (Nat.le_refl _) (.cells #[.int .i64 y.kind, .int .i64 y.num, .string y.name, .int .i64 y.op, .slice u1 u2 u3, .int .i64 (y.deep : Int)] 98)
          refine (makeS_any (fun j => w.heap.size < j) pb g c L r b i t 1 ⟨t'.text.toArray⟩ 0 [(y, .slice u1 u2 u3)] (.slice none 0 0) (.slice none 0 0) .leaf .leaf _ _ (HS3.out.below BL7) HDN.out.2 (PA.one w3 y _ ⟨_, _, _, rfl⟩ HDN.out.1 98) ?_ (SSlP.nil _ _) (SSlP.nil _ _) ?_ ?_).mono ?_
          · intro z hz
            simp at hz
            subst hz
            exact HF3.out.below BL7
          · intro j hj; have := HL3.out; simp at hj; omega
          · intro j hj; have := HPL.out; omega
          have HG7 : Gr w (w3.alloc (.cells #[.int .i64 y.kind, .int .i64 y.num, .string y.name, .int .i64 y.op, .slice u1 u2 u3, .int .i64 (y.deep : Int)] 98)) pb := HG3.out.alloc _
          have HB7 := (BL7.block _ HL3.out).trans HB3.out
          clear BL7
          generalize (w3.alloc (.cells #[.int .i64 y.kind, .int .i64 y.num, .string y.name, .int .i64 y.op, .slice u1 u2 u3, .int .i64 (y.deep : Int)] 98)) = w7 at HG7 HB7 ⊢
          show ∀ e w', TPost w7 (fun j => w.heap.size < j) pb g c L b (mkS t ⟨1, ⟨t'.text.toArray⟩, 0, erow [y], .leaf, .leaf⟩ r i) e w' → _
          unfold ofPart at HP
          dsimp only at HP
          unfold mkS at HP ⊢
          by_cases h6 : 600 < i + 1
          · rw [if_pos h6] at HP ⊢
            rintro e w8 ⟨rfl, hg⟩
            refine ⟨rfl, ?_⟩
            rw [← HP.out]
            exact ⟨rfl, HG7.trans hg⟩
          · rw [if_neg h6] at HP ⊢
            intro e w8 hep
            obtain ⟨q1, q2, q3, b1, b2, b3, e1, e2, e3, rfl, hb8, hs1, hs2⟩ := hep.give HG7 HB7 (Nat.le_refl _) (fun j hj => ⟨by omega, by omega⟩) HPL.out
            rw [HP.out] at hs2
            have HS1' : Hid ((set6 w8 w.heap.size (.int .i64 1) (.string ⟨t'.text.toArray⟩) (.int .i64 0) (.slice q1 q2 q3) (.slice b1 b2 b3) (.slice e1 e2 e3)).heap[w.heap.size]? = some (.cells #[.int .i64 1, .string ⟨t'.text.toArray⟩, .int .i64 0, .slice q1 q2 q3, .slice b1 b2 b3, .slice e1 e2 e3] 39)) := hs1
            have HS2' : Hid (P (.returned (.agg #[.int .i64 1, .string ⟨t'.text.toArray⟩, .int .i64 0, .slice q1 q2 q3, .slice b1 b2 b3, .slice e1 e2 e3])) (set6 w8 w.heap.size (.int .i64 1) (.string ⟨t'.text.toArray⟩) (.int .i64 0) (.slice q1 q2 q3) (.slice b1 b2 b3) (.slice e1 e2 e3))) := hs2
            obtain ⟨⟨a0, a1, a2, a3, a4, a5⟩, z0, z1, z2, z3, z4, z5⟩ := z39_c hb8
            clear hs1 hs2 hb8 hep HG7 HB7
            refine hK _ _ ?_
            clear hK K
            refine wpAny_ready (rs := [9]) (by kernel_rfl) (by simp) ?_
            refine AllReady.cons rfl (fun K hK => ?_) AllReady.nil
            go_simp
            refine hK _ _ ?_
            clear hK K
            refine wpAny_done (by kernel_rfl) ?_ _
            go_wp2
            exact bodyPost_ret (ret_stmt 2 Tryd.results56 _ w.heap.size rfl _ _ _ _ _ _ _ HS1'.out) rfl HS2'.out
      · go_simp
        refine hK _ _ ?_
        clear hK K
        refine wpAny_ready (rs := [1, 4]) (by kernel_rfl) (by simp) ?_
        refine AllReady.cons rfl (fun K hK => ?_) (AllReady.cons rfl (fun K hK => ?_) (AllReady.nil))
        · go_simp
          refine hK _ _ ?_
          clear hK K
          refine wpAny_ready (rs := [4]) (by kernel_rfl) (by simp) ?_
          refine AllReady.cons rfl (fun K hK => ?_) AllReady.nil
          go_simp
          refine hK _ _ ?_
          clear hK K
          refine wpAny_ready (rs := [8]) (by kernel_rfl) (by simp) ?_
          refine AllReady.cons rfl (fun K hK => ?_) AllReady.nil
          go_simp
          have BL7 := (Below.refl w3.heap.size w3).alloc (Nat.le_refl _) (.cells #[.int .i64 y.kind, .int .i64 y.num, .string y.name, .int .i64 y.op, .slice u1 u2 u3, .int .i64 (y.deep : Int)] 98)
          refine (makeS_any (fun j => w.heap.size < j) pb g c L r b i t 1 ⟨t'.text.toArray⟩ 0 [(y, .slice u1 u2 u3)] (.slice none 0 0) (.slice none 0 0) .leaf .leaf _ _ (HS3.out.below BL7) HDN.out.2 (PA.one w3 y _ ⟨_, _, _, rfl⟩ HDN.out.1 98) ?_ (SSlP.nil _ _) (SSlP.nil _ _) ?_ ?_).mono ?_
          · intro z hz
            simp at hz
            subst hz
            exact HF3.out.below BL7
          · intro j hj; have := HL3.out; simp at hj; omega
          · intro j hj; have := HPL.out; omega
          have HG7 : Gr w (w3.alloc (.cells #[.int .i64 y.kind, .int .i64 y.num, .string y.name, .int .i64 y.op, .slice u1 u2 u3, .int .i64 (y.deep : Int)] 98)) pb := HG3.out.alloc _
          have HB7 := (BL7.block _ HL3.out).trans HB3.out
          clear BL7
          generalize (w3.alloc (.cells #[.int .i64 y.kind, .int .i64 y.num, .string y.name, .int .i64 y.op, .slice u1 u2 u3, .int .i64 (y.deep : Int)] 98)) = w7 at HG7 HB7 ⊢
          show ∀ e w', TPost w7 (fun j => w.heap.size < j) pb g c L b (mkS t ⟨1, ⟨t'.text.toArray⟩, 0, erow [y], .leaf, .leaf⟩ r i) e w' → _
          unfold ofPart at HP
          dsimp only at HP
          unfold mkS at HP ⊢
          by_cases h6 : 600 < i + 1
          · rw [if_pos h6] at HP ⊢
            rintro e w8 ⟨rfl, hg⟩
            refine ⟨rfl, ?_⟩
            rw [← HP.out]
            exact ⟨rfl, HG7.trans hg⟩
          · rw [if_neg h6] at HP ⊢
            intro e w8 hep
            obtain ⟨q1, q2, q3, b1, b2, b3, e1, e2, e3, rfl, hb8, hs1, hs2⟩ := hep.give HG7 HB7 (Nat.le_refl _) (fun j hj => ⟨by omega, by omega⟩) HPL.out
            rw [HP.out] at hs2
            have HS1' : Hid ((set6 w8 w.heap.size (.int .i64 1) (.string ⟨t'.text.toArray⟩) (.int .i64 0) (.slice q1 q2 q3) (.slice b1 b2 b3) (.slice e1 e2 e3)).heap[w.heap.size]? = some (.cells #[.int .i64 1, .string ⟨t'.text.toArray⟩, .int .i64 0, .slice q1 q2 q3, .slice b1 b2 b3, .slice e1 e2 e3] 39)) := hs1
            have HS2' : Hid (P (.returned (.agg #[.int .i64 1, .string ⟨t'.text.toArray⟩, .int .i64 0, .slice q1 q2 q3, .slice b1 b2 b3, .slice e1 e2 e3])) (set6 w8 w.heap.size (.int .i64 1) (.string ⟨t'.text.toArray⟩) (.int .i64 0) (.slice q1 q2 q3) (.slice b1 b2 b3) (.slice e1 e2 e3))) := hs2
            obtain ⟨⟨a0, a1, a2, a3, a4, a5⟩, z0, z1, z2, z3, z4, z5⟩ := z39_c hb8
            clear hs1 hs2 hb8 hep HG7 HB7
            refine hK _ _ ?_
            clear hK K
            refine wpAny_ready (rs := [9]) (by kernel_rfl) (by simp) ?_
            refine AllReady.cons rfl (fun K hK => ?_) AllReady.nil
            go_simp
            refine hK _ _ ?_
            clear hK K
            refine wpAny_done (by kernel_rfl) ?_ _
            go_wp2
            exact bodyPost_ret (ret_stmt 2 Tryd.results56 _ w.heap.size rfl _ _ _ _ _ _ _ HS1'.out) rfl HS2'.out
        · go_simp
          refine hK _ _ ?_
          clear hK K
          refine wpAny_ready (rs := [1]) (by kernel_rfl) (by simp) ?_
          refine AllReady.cons rfl (fun K hK => ?_) AllReady.nil
          go_simp
          refine hK _ _ ?_
          clear hK K
          refine wpAny_ready (rs := [8]) (by kernel_rfl) (by simp) ?_
          refine AllReady.cons rfl (fun K hK => ?_) AllReady.nil
          go_simp
          have BL7 := (Below.refl w3.heap.size w3).alloc (Nat.le_refl _) (.cells #[.int .i64 y.kind, .int .i64 y.num, .string y.name, .int .i64 y.op, .slice u1 u2 u3, .int .i64 (y.deep : Int)] 98)
          refine (makeS_any (fun j => w.heap.size < j) pb g c L r b i t 1 ⟨t'.text.toArray⟩ 0 [(y, .slice u1 u2 u3)] (.slice none 0 0) (.slice none 0 0) .leaf .leaf _ _ (HS3.out.below BL7) HDN.out.2 (PA.one w3 y _ ⟨_, _, _, rfl⟩ HDN.out.1 98) ?_ (SSlP.nil _ _) (SSlP.nil _ _) ?_ ?_).mono ?_
          · intro z hz
            simp at hz
            subst hz
            exact HF3.out.below BL7
          · intro j hj; have := HL3.out; simp at hj; omega
          · intro j hj; have := HPL.out; omega
          have HG7 : Gr w (w3.alloc (.cells #[.int .i64 y.kind, .int .i64 y.num, .string y.name, .int .i64 y.op, .slice u1 u2 u3, .int .i64 (y.deep : Int)] 98)) pb := HG3.out.alloc _
          have HB7 := (BL7.block _ HL3.out).trans HB3.out
          clear BL7
          generalize (w3.alloc (.cells #[.int .i64 y.kind, .int .i64 y.num, .string y.name, .int .i64 y.op, .slice u1 u2 u3, .int .i64 (y.deep : Int)] 98)) = w7 at HG7 HB7 ⊢
          show ∀ e w', TPost w7 (fun j => w.heap.size < j) pb g c L b (mkS t ⟨1, ⟨t'.text.toArray⟩, 0, erow [y], .leaf, .leaf⟩ r i) e w' → _
          unfold ofPart at HP
          dsimp only at HP
          unfold mkS at HP ⊢
          by_cases h6 : 600 < i + 1
          · rw [if_pos h6] at HP ⊢
            rintro e w8 ⟨rfl, hg⟩
            refine ⟨rfl, ?_⟩
            rw [← HP.out]
            exact ⟨rfl, HG7.trans hg⟩
          · rw [if_neg h6] at HP ⊢
            intro e w8 hep
            obtain ⟨q1, q2, q3, b1, b2, b3, e1, e2, e3, rfl, hb8, hs1, hs2⟩ := hep.give HG7 HB7 (Nat.le_refl _) (fun j hj => ⟨by omega, by omega⟩) HPL.out
            rw [HP.out] at hs2
            have HS1' : Hid ((set6 w8 w.heap.size (.int .i64 1) (.string ⟨t'.text.toArray⟩) (.int .i64 0) (.slice q1 q2 q3) (.slice b1 b2 b3) (.slice e1 e2 e3)).heap[w.heap.size]? = some (.cells #[.int .i64 1, .string ⟨t'.text.toArray⟩, .int .i64 0, .slice q1 q2 q3, .slice b1 b2 b3, .slice e1 e2 e3] 39)) := hs1
            have HS2' : Hid (P (.returned (.agg #[.int .i64 1, .string ⟨t'.text.toArray⟩, .int .i64 0, .slice q1 q2 q3, .slice b1 b2 b3, .slice e1 e2 e3])) (set6 w8 w.heap.size (.int .i64 1) (.string ⟨t'.text.toArray⟩) (.int .i64 0) (.slice q1 q2 q3) (.slice b1 b2 b3) (.slice e1 e2 e3))) := hs2
            obtain ⟨⟨a0, a1, a2, a3, a4, a5⟩, z0, z1, z2, z3, z4, z5⟩ := z39_c hb8
            clear hs1 hs2 hb8 hep HG7 HB7
            refine hK _ _ ?_
            clear hK K
            refine wpAny_ready (rs := [9]) (by kernel_rfl) (by simp) ?_
            refine AllReady.cons rfl (fun K hK => ?_) AllReady.nil
            go_simp
            refine hK _ _ ?_
            clear hK K
            refine wpAny_done (by kernel_rfl) ?_ _
            go_wp2
            exact bodyPost_ret (ret_stmt 2 Tryd.results56 _ w.heap.size rfl _ _ _ _ _ _ _ HS1'.out) rfl HS2'.out
    · go_simp
      refine hK _ _ ?_
      clear hK K
      refine wpAny_ready (rs := [1, 3]) (by kernel_rfl) (by simp) ?_
      refine AllReady.cons rfl (fun K hK => ?_) (AllReady.cons rfl (fun K hK => ?_) (AllReady.nil))
      · go_simp
        refine hK _ _ ?_
        clear hK K
        refine wpAny_ready (rs := [3]) (by kernel_rfl) (by simp) ?_
        refine AllReady.cons rfl (fun K hK => ?_) AllReady.nil
        go_simp
        refine hK _ _ ?_
        clear hK K
        refine wpAny_ready (rs := [4]) (by kernel_rfl) (by simp) ?_
        refine AllReady.cons rfl (fun K hK => ?_) AllReady.nil
        go_simp
        refine hK _ _ ?_
        clear hK K
        refine wpAny_ready (rs := [8]) (by kernel_rfl) (by simp) ?_
        refine AllReady.cons rfl (fun K hK => ?_) AllReady.nil
        go_simp
        have BL7 := (Below.refl w3.heap.size w3).alloc (Nat.le_refl _) (.cells #[.int .i64 y.kind, .int .i64 y.num, .string y.name, .int .i64 y.op, .slice u1 u2 u3, .int .i64 (y.deep : Int)] 98)
        refine (makeS_any (fun j => w.heap.size < j) pb g c L r b i t 1 ⟨t'.text.toArray⟩ 0 [(y, .slice u1 u2 u3)] (.slice none 0 0) (.slice none 0 0) .leaf .leaf _ _ (HS3.out.below BL7) HDN.out.2 (PA.one w3 y _ ⟨_, _, _, rfl⟩ HDN.out.1 98) ?_ (SSlP.nil _ _) (SSlP.nil _ _) ?_ ?_).mono ?_
        · intro z hz
          simp at hz
          subst hz
          exact HF3.out.below BL7
        · intro j hj; have := HL3.out; simp at hj; omega
        · intro j hj; have := HPL.out; omega
        have HG7 : Gr w (w3.alloc (.cells #[.int .i64 y.kind, .int .i64 y.num, .string y.name, .int .i64 y.op, .slice u1 u2 u3, .int .i64 (y.deep : Int)] 98)) pb := HG3.out.alloc _
        have HB7 := (BL7.block _ HL3.out).trans HB3.out
        clear BL7
        generalize (w3.alloc (.cells #[.int .i64 y.kind, .int .i64 y.num, .string y.name, .int .i64 y.op, .slice u1 u2 u3, .int .i64 (y.deep : Int)] 98)) = w7 at HG7 HB7 ⊢
        show ∀ e w', TPost w7 (fun j => w.heap.size < j) pb g c L b (mkS t ⟨1, ⟨t'.text.toArray⟩, 0, erow [y], .leaf, .leaf⟩ r i) e w' → _
        unfold ofPart at HP
        dsimp only at HP
        unfold mkS at HP ⊢
        by_cases h6 : 600 < i + 1
        · rw [if_pos h6] at HP ⊢
          rintro e w8 ⟨rfl, hg⟩
          refine ⟨rfl, ?_⟩
          rw [← HP.out]
          exact ⟨rfl, HG7.trans hg⟩
        · rw [if_neg h6] at HP ⊢
          intro e w8 hep
          obtain ⟨q1, q2, q3, b1, b2, b3, e1, e2, e3, rfl, hb8, hs1, hs2⟩ := hep.give HG7 HB7 (Nat.le_refl _) (fun j hj => ⟨by omega, by omega⟩) HPL.out
          rw [HP.out] at hs2
          have HS1' : Hid ((set6 w8 w.heap.size (.int .i64 1) (.string ⟨t'.text.toArray⟩) (.int .i64 0) (.slice q1 q2 q3) (.slice b1 b2 b3) (.slice e1 e2 e3)).heap[w.heap.size]? = some (.cells #[.int .i64 1, .string ⟨t'.text.toArray⟩, .int .i64 0, .slice q1 q2 q3, .slice b1 b2 b3, .slice e1 e2 e3] 39)) := hs1
          have HS2' : Hid (P (.returned (.agg #[.int .i64 1, .string ⟨t'.text.toArray⟩, .int .i64 0, .slice q1 q2 q3, .slice b1 b2 b3, .slice e1 e2 e3])) (set6 w8 w.heap.size (.int .i64 1) (.string ⟨t'.text.toArray⟩) (.int .i64 0) (.slice q1 q2 q3) (.slice b1 b2 b3) (.slice e1 e2 e3))) := hs2
          obtain ⟨⟨a0, a1, a2, a3, a4, a5⟩, z0, z1, z2, z3, z4, z5⟩ := z39_c hb8
          clear hs1 hs2 hb8 hep HG7 HB7
          refine hK _ _ ?_
          clear hK K
          refine wpAny_ready (rs := [9]) (by kernel_rfl) (by simp) ?_
          refine AllReady.cons rfl (fun K hK => ?_) AllReady.nil
          go_simp
          refine hK _ _ ?_
          clear hK K
          refine wpAny_done (by kernel_rfl) ?_ _
          go_wp2
          exact bodyPost_ret (ret_stmt 2 Tryd.results56 _ w.heap.size rfl _ _ _ _ _ _ _ HS1'.out) rfl HS2'.out
      · go_simp
        refine hK _ _ ?_
        clear hK K
        refine wpAny_ready (rs := [1, 4]) (by kernel_rfl) (by simp) ?_
        refine AllReady.cons rfl (fun K hK => ?_) (AllReady.cons rfl (fun K hK => ?_) (AllReady.nil))
        · go_simp
          refine hK _ _ ?_
          clear hK K
          refine wpAny_ready (rs := [4]) (by kernel_rfl) (by simp) ?_
          refine AllReady.cons rfl (fun K hK => ?_) AllReady.nil
          go_simp
          refine hK _ _ ?_
          clear hK K
          refine wpAny_ready (rs := [8]) (by kernel_rfl) (by simp) ?_
          refine AllReady.cons rfl (fun K hK => ?_) AllReady.nil
          go_simp
          have BL7 := (Below.refl w3.heap.size w3).alloc (Nat.le_refl _) (.cells #[.int .i64 y.kind, .int .i64 y.num, .string y.name, .int .i64 y.op, .slice u1 u2 u3, .int .i64 (y.deep : Int)] 98)
          refine (makeS_any (fun j => w.heap.size < j) pb g c L r b i t 1 ⟨t'.text.toArray⟩ 0 [(y, .slice u1 u2 u3)] (.slice none 0 0) (.slice none 0 0) .leaf .leaf _ _ (HS3.out.below BL7) HDN.out.2 (PA.one w3 y _ ⟨_, _, _, rfl⟩ HDN.out.1 98) ?_ (SSlP.nil _ _) (SSlP.nil _ _) ?_ ?_).mono ?_
          · intro z hz
            simp at hz
            subst hz
            exact HF3.out.below BL7
          · intro j hj; have := HL3.out; simp at hj; omega
          · intro j hj; have := HPL.out; omega
          have HG7 : Gr w (w3.alloc (.cells #[.int .i64 y.kind, .int .i64 y.num, .string y.name, .int .i64 y.op, .slice u1 u2 u3, .int .i64 (y.deep : Int)] 98)) pb := HG3.out.alloc _
          have HB7 := (BL7.block _ HL3.out).trans HB3.out
          clear BL7
          generalize (w3.alloc (.cells #[.int .i64 y.kind, .int .i64 y.num, .string y.name, .int .i64 y.op, .slice u1 u2 u3, .int .i64 (y.deep : Int)] 98)) = w7 at HG7 HB7 ⊢
          show ∀ e w', TPost w7 (fun j => w.heap.size < j) pb g c L b (mkS t ⟨1, ⟨t'.text.toArray⟩, 0, erow [y], .leaf, .leaf⟩ r i) e w' → _
          unfold ofPart at HP
          dsimp only at HP
          unfold mkS at HP ⊢
          by_cases h6 : 600 < i + 1
          · rw [if_pos h6] at HP ⊢
            rintro e w8 ⟨rfl, hg⟩
            refine ⟨rfl, ?_⟩
            rw [← HP.out]
            exact ⟨rfl, HG7.trans hg⟩
          · rw [if_neg h6] at HP ⊢
            intro e w8 hep
            obtain ⟨q1, q2, q3, b1, b2, b3, e1, e2, e3, rfl, hb8, hs1, hs2⟩ := hep.give HG7 HB7 (Nat.le_refl _) (fun j hj => ⟨by omega, by omega⟩) HPL.out
            rw [HP.out] at hs2
            have HS1' : Hid ((set6 w8 w.heap.size (.int .i64 1) (.string ⟨t'.text.toArray⟩) (.int .i64 0) (.slice q1 q2 q3) (.slice b1 b2 b3) (.slice e1 e2 e3)).heap[w.heap.size]? = some (.cells #[.int .i64 1, .string ⟨t'.text.toArray⟩, .int .i64 0, .slice q1 q2 q3, .slice b1 b2 b3, .slice e1 e2 e3] 39)) := hs1
            have HS2' : Hid (P (.returned (.agg #[.int .i64 1, .string ⟨t'.text.toArray⟩, .int .i64 0, .slice q1 q2 q3, .slice b1 b2 b3, .slice e1 e2 e3])) (set6 w8 w.heap.size (.int .i64 1) (.string ⟨t'.text.toArray⟩) (.int .i64 0) (.slice q1 q2 q3) (.slice b1 b2 b3) (.slice e1 e2 e3))) := hs2
            obtain ⟨⟨a0, a1, a2, a3, a4, a5⟩, z0, z1, z2, z3, z4, z5⟩ := z39_c hb8
            clear hs1 hs2 hb8 hep HG7 HB7
            refine hK _ _ ?_
            clear hK K
            refine wpAny_ready (rs := [9]) (by kernel_rfl) (by simp) ?_
            refine AllReady.cons rfl (fun K hK => ?_) AllReady.nil
            go_simp
            refine hK _ _ ?_
            clear hK K
            refine wpAny_done (by kernel_rfl) ?_ _
            go_wp2
            exact bodyPost_ret (ret_stmt 2 Tryd.results56 _ w.heap.size rfl _ _ _ _ _ _ _ HS1'.out) rfl HS2'.out
        · go_simp
          refine hK _ _ ?_
          clear hK K
          refine wpAny_ready (rs := [1]) (by kernel_rfl) (by simp) ?_
          refine AllReady.cons rfl (fun K hK => ?_) AllReady.nil
          go_simp
          refine hK _ _ ?_
          clear hK K
          refine wpAny_ready (rs := [8]) (by kernel_rfl) (by simp) ?_
          refine AllReady.cons rfl (fun K hK => ?_) AllReady.nil
          go_simp
          have BL7 := (Below.refl w3.heap.size w3).alloc (Nat.le_refl _) (.cells #[.int .i64 y.kind, .int .i64 y.num, .string y.name, .int .i64 y.op, .slice u1 u2 u3, .int .i64 (y.deep : Int)] 98)
          refine (makeS_any (fun j => w.heap.size < j) pb g c L r b i t 1 ⟨t'.text.toArray⟩ 0 [(y, .slice u1 u2 u3)] (.slice none 0 0) (.slice none 0 0) .leaf .leaf _ _ (HS3.out.below BL7) HDN.out.2 (PA.one w3 y _ ⟨_, _, _, rfl⟩ HDN.out.1 98) ?_ (SSlP.nil _ _) (SSlP.nil _ _) ?_ ?_).mono ?_
          · intro z hz
            simp at hz
            subst hz
            exact HF3.out.below BL7
          · intro j hj; have := HL3.out; simp at hj; omega
          · intro j hj; have := HPL.out; omega
          have HG7 : Gr w (w3.alloc (.cells #[.int .i64 y.kind, .int .i64 y.num, .string y.name, .int .i64 y.op, .slice u1 u2 u3, .int .i64 (y.deep : Int)] 98)) pb := HG3.out.alloc _
          have HB7 := (BL7.block _ HL3.out).trans HB3.out
          clear BL7
          generalize (w3.alloc (.cells #[.int .i64 y.kind, .int .i64 y.num, .string y.name, .int .i64 y.op, .slice u1 u2 u3, .int .i64 (y.deep : Int)] 98)) = w7 at HG7 HB7 ⊢
          show ∀ e w', TPost w7 (fun j => w.heap.size < j) pb g c L b (mkS t ⟨1, ⟨t'.text.toArray⟩, 0, erow [y], .leaf, .leaf⟩ r i) e w' → _
          unfold ofPart at HP
          dsimp only at HP
          unfold mkS at HP ⊢
          by_cases h6 : 600 < i + 1
          · rw [if_pos h6] at HP ⊢
            rintro e w8 ⟨rfl, hg⟩
            refine ⟨rfl, ?_⟩
            rw [← HP.out]
            exact ⟨rfl, HG7.trans hg⟩
          · rw [if_neg h6] at HP ⊢
            intro e w8 hep
            obtain ⟨q1, q2, q3, b1, b2, b3, e1, e2, e3, rfl, hb8, hs1, hs2⟩ := hep.give HG7 HB7 (Nat.le_refl _) (fun j hj => ⟨by omega, by omega⟩) HPL.out
            rw [HP.out] at hs2
            have HS1' : Hid ((set6 w8 w.heap.size (.int .i64 1) (.string ⟨t'.text.toArray⟩) (.int .i64 0) (.slice q1 q2 q3) (.slice b1 b2 b3) (.slice e1 e2 e3)).heap[w.heap.size]? = some (.cells #[.int .i64 1, .string ⟨t'.text.toArray⟩, .int .i64 0, .slice q1 q2 q3, .slice b1 b2 b3, .slice e1 e2 e3] 39)) := hs1
            have HS2' : Hid (P (.returned (.agg #[.int .i64 1, .string ⟨t'.text.toArray⟩, .int .i64 0, .slice q1 q2 q3, .slice b1 b2 b3, .slice e1 e2 e3])) (set6 w8 w.heap.size (.int .i64 1) (.string ⟨t'.text.toArray⟩) (.int .i64 0) (.slice q1 q2 q3) (.slice b1 b2 b3) (.slice e1 e2 e3))) := hs2
            obtain ⟨⟨a0, a1, a2, a3, a4, a5⟩, z0, z1, z2, z3, z4, z5⟩ := z39_c hb8
            clear hs1 hs2 hb8 hep HG7 HB7
            refine hK _ _ ?_
            clear hK K
            refine wpAny_ready (rs := [9]) (by kernel_rfl) (by simp) ?_
            refine AllReady.cons rfl (fun K hK => ?_) AllReady.nil
            go_simp
            refine hK _ _ ?_
            clear hK K
            refine wpAny_done (by kernel_rfl) ?_ _
            go_wp2
            exact bodyPost_ret (ret_stmt 2 Tryd.results56 _ w.heap.size rfl _ _ _ _ _ _ _ HS1'.out) rfl HS2'.out
end Go.Proofs.YtnofibjchhcmeabDoor
