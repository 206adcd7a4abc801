/- A block. -/
import Derived.Test.YtnofibjchhcmeabDoorSw
namespace Go.Proofs.YtnofibjchhcmeabDoor
open Go.RowKit Go.Maps
set_option linter.unusedVariables false

/-- what is known of statements within so many blocks, with so much fuel -/
def StB (pb g c : Nat) (L : List Tok) (b f : Nat) : Prop := ∀ p n W, PS W pb g c L p 0 b n → SG W pb → n ≤ 600 → (∀ k, stmtF L f 0 b p n ≠ .error (k, -1)) → Calls Tryd.prog 47 #[.pointer (some ⟨pb, 0, none⟩)] W (TPost W (fun j => W.heap.size ≤ j) pb g c L b (stmtF L f 0 b p n))
/-- what comes of a block -/
def BPost (w : World) (ok : Nat → Prop) (pb g c : Nat) (L : List Tok) (b : Nat) : TR → Ending → World → Prop
  | .error (k, er), e, w' => e = gaveUpT (k : Int) er ∧ Gr w w' pb
  | .ok (l, q, m), e, w' => ∃ v1 v2 v3, e = .returned (.slice v1 v2 v3) ∧ SSlP w' ok (.slice v1 v2 v3) (srow l) ∧ PS w' pb g c L q 0 b m ∧ Gr w w' pb ∧ m ≤ 600
theorem stmtF_row' (L : List Tok) (f b p n : Nat) : stmtF L (f + 1) 1 b p n = if (tk L p).text = [125] then .ok ([], p, n) else match stmtF L f 0 b p n with
    | .error e => .error e
    | .ok (x, q, m) => preT x (stmtF L f 1 b q m) := by
  rw [stmtF_row]
  split
  · rfl
  · rcases stmtF L f 0 b p n with e | ⟨x, q, m⟩
    · rfl
    · simp only
      rcases stmtF L f 1 b q m with e | ⟨l, r, i⟩ <;> rfl
/-- what stands in memory while a block is read -/
def BS (w : World) (pb g c : Nat) (L : List Tok) (b : Nat) (R : TR) (F : Nat) (u : Value) (wr : World) : Prop :=
  ∃ (acc : List RT) (q m f : Nat), f ≤ F ∧ preT (acc.map (·.x)) (stmtF L f 1 (b + 1) q m) = R ∧ acc.length ≤ q ∧ SOwn wr w.heap.size u acc ∧ (∀ y ∈ acc, TM wr (fun j => w.heap.size ≤ j ∧ some j ≠ u.ownBlock) y) ∧ PS wr pb g c L q 0 (b + 1) m ∧ m ≤ 600 ∧ Gr w wr pb

set_option maxRecDepth 100000 in
set_option maxHeartbeats 8000000 in
theorem block_any {pb g c : Nat} {L : List Tok} {b : Nat} (hE : TEnd L) (hLL : L.length ≤ 8193) (F : Nat) (hst : b < 12 → ∀ f, f < F → StB pb g c L (b + 1) f) (p n : Nat) (w : World) (h : PS w pb g c L p 0 b n) (hs : SG w pb) (hn : n ≤ 600) (hb12 : b ≤ 12) (hfd : ∀ k, blockP L (stmtF L F 1) b p n ≠ .error (k, -1)) :
    Calls Tryd.prog 82 #[.pointer (some ⟨pb, 0, none⟩)] w (BPost w (fun j => w.heap.size ≤ j) pb g c L b (blockP L (stmtF L F 1) b p n)) := by
  obtain ⟨P, hP⟩ : ∃ P, BPost w (fun j => w.heap.size ≤ j) pb g c L b (blockP L (stmtF L F 1) b p n) = P := ⟨_, rfl⟩
  have HP : Hid (BPost w (fun j => w.heap.size ≤ j) pb g c L b (blockP L (stmtF L F 1) b p n) = P) := hP
  rw [hP]
  have HFD : Hid (∀ k, blockP L (stmtF L F 1) b p n ≠ .error (k, -1)) := hfd
  have HST0 : Hid (b < 12 → ∀ f, f < F → StB pb g c L (b + 1) f) := hst
  have HPL : Hid (pb < w.heap.size ∧ g < w.heap.size ∧ L.length ≤ 1000000) := ⟨h.lt, h.gl, by omega⟩
  have HSG : Hid (SG w pb) := hs
  have HS0 : Hid (PS w pb g c L p 0 b n) := h
  obtain ⟨i0, hi, hz0, hz1, hz2⟩ := info_parts info39
  unfold blockP at HP HFD
  clear h hs hP hfd hst
  go_enter Tryd.func82, Tryd.ntmps82
  go_wp2_with fail
  by_cases e1 : ¬ (tk L p).text = [123]
  · rw [if_pos e1] at HP
    refine (take_no ⟨#[123]⟩ HS0.out e1).mono ?_
    rintro e w1 ⟨rfl, hg⟩
    refine ⟨rfl, ?_⟩
    rw [← HP.out]
    exact ⟨rfl, hg⟩
  rw [if_neg e1] at HP HFD
  replace e1 := Decidable.of_not_not e1
  refine (take_tk ⟨#[123]⟩ HS0.out e1 (hE.text (by rw [e1]; simp))).mono ?_
  rintro e w1 ⟨rfl, hp, hg⟩
  have HS1 : Hid (PS w1 pb g c L (p + 1) 0 b n) := hp
  have HG1 : Hid (Gr w w1 pb) := hg
  obtain ⟨t, ht⟩ : ∃ t, tk L p = t := ⟨_, rfl⟩
  rw [ht] at HP HFD ⊢
  have HEB : Hid (12 ≤ b → Calls Tryd.prog 95 #[.pointer (some ⟨pb, 0, none⟩), tv t] w1 fun e w' => e = gaveUpT (t.pos : Int) 41 ∧ Gr w1 w' pb) := fun h => enters_bad pb g c L (p + 1) 0 b n t w1 hp h (by omega)
  have HEO : Hid (b < 12 → Calls Tryd.prog 95 #[.pointer (some ⟨pb, 0, none⟩), tv t] w1 fun e w' => e = .returned (.tuple #[]) ∧ PS w' pb g c L (p + 1) 0 (b + 1) n ∧ Gr w1 w' pb) := fun h => enters_ok pb g c L (p + 1) 0 b n t w1 hp h
  unfold tv at HEB HEO ⊢
  clear hp hg e1 ht
  go_wp2_with fail
  by_cases e2 : 12 ≤ b
  · rw [if_pos e2] at HP
    refine (HEB.out e2).mono ?_
    rintro e w2 ⟨rfl, hg⟩
    refine ⟨rfl, ?_⟩
    rw [← HP.out]
    exact ⟨rfl, HG1.out.trans hg⟩
  rw [if_neg e2] at HP HFD
  have HST : Hid (∀ f, f < F → StB pb g c L (b + 1) f) := HST0.out (by omega)
  clear HST0
  refine (HEO.out (by omega)).mono ?_
  rintro e w2 ⟨rfl, hp, hg⟩
  obtain ⟨R, hR⟩ : ∃ R, stmtF L F 1 (b + 1) (p + 1) n = R := ⟨_, rfl⟩
  rw [hR] at HP HFD
  have HFR : Hid (∀ k, R ≠ .error (k, -1)) := by
    intro k e
    rw [e] at HFD
    exact HFD.out k rfl
  have X0 : Hid (BS w pb g c L b R F (.slice none 0 0) w2) := ⟨[], p + 1, n, F, Nat.le_refl _, by rw [← hR]; exact preT_nil _, Nat.zero_le _, SOwn.nil _ _, (by intro y hy; cases hy), hp, hn, HG1.out.trans hg⟩
  clear hp hg hR HFD HEB HEO HS1 HG1 HS0
  go_wp2
  go_loopw [3] (fun u wr => Hid (BS w pb g c L b R F u wr)) (fun _ wr => match wr.cell? ⟨pb, 0, none⟩ with | some (.slice _ k _) => k | _ => 0)
  case atStart => exact X0
  case round =>
    clear X0
    obtain ⟨acc, q, m, f, hfF, hR, hacc, hown, htm, hp, hm, hg⟩ := hrel.out
    clear hrel
    obtain ⟨f', rfl⟩ : ∃ f', f = f' + 1 := by
      rcases f with _ | f'
      · exfalso; refine HFR.out 0 ?_; rw [← hR]; rfl
      · exact ⟨f', rfl⟩
    rw [stmtF_row'] at hR
    have hlk := looksAt_tk ⟨#[125]⟩ hp
    obtain ⟨u31, u32, u33, rfl⟩ := hown.sl
    have HS1 : Hid (PS wr pb g c L q 0 (b + 1) m) := hp
    have HG1 : Hid (Gr w wr pb) := hg
    have HO1 : Hid (SOwn wr w.heap.size (.slice u31 u32 u33) acc) := hown
    have HT1 : Hid (∀ y ∈ acc, TM wr (fun j => w.heap.size ≤ j ∧ some j ≠ (Value.slice u31 u32 u33).ownBlock) y) := htm
    have HN : Hid (acc.length ≤ q ∧ m ≤ 600 ∧ q < L.length) := ⟨hacc, hm, hp.pl⟩
    clear hp hg hown htm hacc hm
    by_cases hk : (tk L q).text = [125]
    · rw [if_pos hk] at hR
      have HR : Hid (.ok (acc.map (·.x) ++ [], q, m) = R) := hR
      have hkb : ((tk L q).text == (⟨#[125]⟩ : ByteArray).data.toList) = true := by rw [hk]; rfl
      rw [hkb] at hlk
      have hq1 : q + 1 < L.length := hE.text (by rw [hk]; simp)
      clear hR hkb
      go_wp2_with fail
      refine hlk.mono ?_
      rintro e w3 ⟨rfl, hb3⟩
      have HS3 := HS1.out.below hb3
      have hnx := next_tk HS3 hq1
      obtain ⟨tq, htq⟩ : ∃ tq, tk L q = tq := ⟨_, rfl⟩
      rw [htq] at hnx
      unfold tv at hnx
      go_wp2_with fail
      refine hnx.mono ?_
      rintro e w4 ⟨rfl, hp4, hg4⟩
      have HP4 : Hid (PS w4 pb g c L (q + 1) 0 (b + 1) m) := hp4
      have HG4 : Hid (Gr w w4 pb) := (HG1.out.trans (Gr.below hb3)).trans hg4
      have hk4 : ∀ j, w.heap.size ≤ j → j < wr.heap.size → w4.heap[j]? = wr.heap[j]? := fun j h1 h2 => (hg4.block j (Nat.lt_of_lt_of_le h2 hb3.size) (by intro e; cases e; have := HPL.out; omega)).trans (hb3.block j h2)
      have HSS : Hid (SSlP w4 (fun j => w.heap.size ≤ j) (.slice u31 u32 u33) (srow (acc.map (·.x)))) := (HO1.out.keep hk4).ssl (fun k hk => hk) (fun y hy => ((HT1.out y hy).keep fun j hj => hk4 j hj.1).mono fun j hj => hj.1)
      have c2 := hp4.c2
      have f2 := hp4.f2
      have hl4 := hp4.lt
      have hcb : ((b + 1 : Nat) : Int) = (b : Int) + 1 := by omega
      rw [hcb] at c2
      have HF : Hid (P (.returned (.slice u31 u32 u33)) (w4.setCell ⟨pb, 2, none⟩ (.int .i64 (b : Int)))) := by
        show P _ _
        rw [← HP.out, ← HR.out]
        refine ⟨u31, u32, u33, rfl, ?_, HP4.out.set2 b, HG4.out.set 2 _, HN.out.2.1⟩
        rw [List.append_nil]
        exact HSS.out.keep fun j hj _ => Below.heap_setCell _ _ _ _ (by show j ≠ pb; have := HPL.out; omega)
      clear hp4 hg4 hb3 HS3 hnx hk4 hcb hlk
      go_wp2
      first | exact HF.out | (have := HF.out; simpa using this)
    · rw [if_neg hk] at hR
      have HR : Hid (preT (acc.map (·.x)) (match stmtF L f' 0 (b + 1) q m with | .error e => .error e | .ok (x, q, m) => preT x (stmtF L f' 1 (b + 1) q m)) = R) := hR
      have hkb : ((tk L q).text == (⟨#[125]⟩ : ByteArray).data.toList) = false := by simpa using hk
      rw [hkb] at hlk
      clear hR hkb
      go_wp2_with fail
      refine hlk.mono ?_
      rintro e w2 ⟨rfl, hb⟩
      have HS2 : Hid (PS w2 pb g c L q 0 (b + 1) m) := HS1.out.below hb
      have HG2 : Hid (Gr w w2 pb) := HG1.out.trans (Gr.below hb)
      have HO2 : Hid (SOwn w2 w.heap.size (.slice u31 u32 u33) acc) := HO1.out.keep fun j _ hj => hb.block j hj
      have HT2 : Hid (∀ y ∈ acc, TM w2 (fun j => w.heap.size ≤ j ∧ some j ≠ (Value.slice u31 u32 u33).ownBlock) y) := fun y hy => (HT1.out y hy).keep fun j _ hj => hb.block j hj
      obtain ⟨r1, er⟩ : ∃ r1, stmtF L f' 0 (b + 1) q m = r1 := ⟨_, rfl⟩
      rw [er] at HR
      have hfe : ∀ k, stmtF L f' 0 (b + 1) q m ≠ .error (k, -1) := by
        intro k e
        rw [er] at e
        rw [e] at HR
        exact HFR.out k HR.out.symm
      have hsc := HST.out f' (by omega) q m w2 HS2.out (HSG.out.gr HG2.out) HN.out.2.1 hfe
      rw [er] at hsc
      have HQ : Hid (∀ x q2 m2, r1 = .ok (x, q2, m2) → q + 1 ≤ q2) := fun x q2 m2 e => ((stmtF_fwd L _).1 _ _ _ _ _ _ (er.trans e)).1
      have HFF : Hid (f' + 1 ≤ F) := hfF
      clear hb hfe er hfF
      go_wp2_with fail
      refine hsc.mono ?_
      clear hsc hlk
      rcases r1 with ⟨k, ek⟩ | ⟨l, q2, m2⟩
      · rintro e w3 ⟨rfl, hg⟩
        refine ⟨rfl, ?_⟩
        rw [← HP.out, ← HR.out]
        exact ⟨rfl, HG2.out.trans hg⟩
      rcases l with _ | ⟨x, _ | ⟨y, l⟩⟩
      · intro e w8 hep; exact hep.elim
      · rintro e w3 ⟨v1, v2, v3, b1, b2, b3, e1, e2, e3, rfl, hes, hbs, hels, hp, hg, hm⟩
        have hgk : ∀ j, w.heap.size ≤ j → j < w2.heap.size → w3.heap[j]? = w2.heap[j]? := fun j h1 h2 => hg.block j h2 (by intro e; cases e; have := HPL.out; omega)
        have hs2 : w.heap.size ≤ w2.heap.size := HG2.out.size
        have HO3 : Hid (w3.ownsRow w.heap.size 39 6 (.slice u31 u32 u33) acc.length (scs acc)) := HO2.out.keep hgk
        have HT3 : Hid (∀ y ∈ acc, TM w3 (fun j => w.heap.size ≤ j ∧ some j ≠ (Value.slice u31 u32 u33).ownBlock) y) := fun y hy => (HT2.out y hy).keep fun j hj => hgk j hj.1
        have hgo : ∀ j, w2.heap.size ≤ j → w.heap.size ≤ j ∧ some j ≠ (Value.slice u31 u32 u33).ownBlock := fun j hj => ⟨Nat.le_trans hs2 hj, fun e => by have := (World.ownsRow.lt HO2.out j e.symm).2; omega⟩
        have HY3 : Hid (TM w3 (fun j => w.heap.size ≤ j ∧ some j ≠ (Value.slice u31 u32 u33).ownBlock) ⟨x, .slice v1 v2 v3, .slice b1 b2 b3, .slice e1 e2 e3⟩) := ⟨hes.mono hgo, hbs.mono hgo, hels.mono hgo⟩
        have HS3 : Hid (PS w3 pb g c L q2 0 (b + 1) m2) := hp
        have HG3 : Hid (Gr w w3 pb) := HG2.out.trans hg
        have HM3 : Hid (m2 ≤ 600 ∧ q + 1 ≤ q2 ∧ q2 < L.length ∧ w.heap.size ≤ w3.heap.size) := ⟨hm, HQ.out _ _ _ rfl, hp.pl, HG3.out.size⟩
        have HOL : Hid (∀ k, (Value.slice u31 u32 u33).ownBlock = some k → w.heap.size ≤ k ∧ k < w3.heap.size) := World.ownsRow.lt HO3.out
        clear hes hbs hels hp hg hgk hs2 hm
        go_wp2_with (at_builtin; refine wpList_append_own_at _ rfl _ _ 27 rfl w.heap.size 39 i0 (.agg #[.int .i64 0, .string ⟨#[]⟩, .int .i64 0, .slice none 0 0, .slice none 0 0, .slice none 0 0]) 6 104 Tryd.underlying27 hi hz0 hz1 hz2 rfl (by decide) _ _ _ rfl (World.ownsRow.alloc HO3.out _) ⟨w3.heap.size, 0, none⟩ 1 1 (scs [⟨x, .slice v1 v2 v3, .slice b1 b2 b3, .slice e1 e2 e3⟩]) rfl rfl ?c1 ?c2 ?c3 ?c4 ?c5 ?_)
        case c1 =>
          intro j u hj
          match j, hj with
          | 0, hj => simp [scs, sc] at hj; subst hj; simp [Addr.add]
          | 1, hj => simp [scs, sc] at hj; subst hj; simp [Addr.add]
          | 2, hj => simp [scs, sc] at hj; subst hj; simp [Addr.add]
          | 3, hj => simp [scs, sc] at hj; subst hj; simp [Addr.add]
          | 4, hj => simp [scs, sc] at hj; subst hj; simp [Addr.add]
          | 5, hj => simp [scs, sc] at hj; subst hj; simp [Addr.add]
        case c2 => exact sc_one _ ⟨_, _, _, rfl⟩ ⟨_, _, _, rfl⟩ ⟨_, _, _, rfl⟩
        case c3 => have := HN.out; have := HPL.out; unfold maxLen; omega
        case c4 => have := HN.out; have := HPL.out; omega
        case c5 => have := HM3.out; simp; omega
        intro v' w4 hown' hgrow _ hloc
        have hsz := hgrow.size
        simp at hsz
        have hbl : ∀ j, j < w3.heap.size → some j ≠ (Value.slice u31 u32 u33).ownBlock → w4.heap[j]? = w3.heap[j]? := fun j h1 h2 => (hgrow.block j (by simp; omega) h2).trans (heap_alloc_old _ _ h1)
        have hown2 : SOwn w4 w.heap.size v' (acc ++ [⟨x, .slice v1 v2 v3, .slice b1 b2 b3, .slice e1 e2 e3⟩]) := by
          show w4.ownsRow _ _ _ _ _ _
          rw [List.length_append, scs_app]
          exact hown'
        have hok : ∀ j, (w.heap.size ≤ j ∧ some j ≠ (Value.slice u31 u32 u33).ownBlock) → j < w3.heap.size → (w.heap.size ≤ j ∧ some j ≠ v'.ownBlock) := by
          intro j h1 h2
          refine ⟨h1.1, fun e => ?_⟩
          rcases hloc with h3 | h3
          · rw [h3] at e; exact h1.2 e
          · rw [h3] at e; cases e; omega
        have htm : ∀ y ∈ acc ++ [⟨x, .slice v1 v2 v3, .slice b1 b2 b3, .slice e1 e2 e3⟩], TM w4 (fun j => w.heap.size ≤ j ∧ some j ≠ v'.ownBlock) y := by
          intro y hy
          have h0 : TM w3 (fun j => w.heap.size ≤ j ∧ some j ≠ (Value.slice u31 u32 u33).ownBlock) y := by
            rcases List.mem_append.1 hy with h | h
            · exact HT3.out y h
            · simp at h; subst h; exact HY3.out
          exact (h0.keep' fun j h1 h2 => ⟨hbl j h2 h1.2, hok j h1 h2⟩)
        have hps : PS w4 pb g c L q2 0 (b + 1) m2 := by
          have e1 := hbl pb HS3.out.lt (fun e => by have := (HOL.out pb e.symm).1; have := HPL.out; omega)
          have e2 := hbl g HS3.out.gl (fun e => by have := (HOL.out g e.symm).1; have := HPL.out; omega)
          exact HS3.out.blocks e1 e2 (by omega)
        have hgr : Gr w w4 pb := ⟨hgrow.os.trans HG3.out.os, hgrow.tape.trans HG3.out.tape, hgrow.output.trans HG3.out.output, by have := HG3.out.size; omega, fun j h1 h2 => (hbl j (by have := HG3.out.size; omega) (fun e => by have := (HOL.out j e.symm).1; omega)).trans (HG3.out.block j h1 h2)⟩
        have HXN : Hid (BS w pb g c L b R F v' w4) := by
          refine ⟨acc ++ [⟨x, .slice v1 v2 v3, .slice b1 b2 b3, .slice e1 e2 e3⟩], q2, m2, f', by have := HFF.out; omega, ?_, ?_, hown2, htm, hps, HM3.out.1, hgr⟩
          · rw [← HR.out]
            show _ = preT (acc.map (·.x)) (preT [x] (stmtF L f' 1 (b + 1) q2 m2))
            rw [preT_pre, List.map_append]
            rfl
          · have := HN.out; have := HM3.out; simp; omega
        have HPN : Hid (w4.cell? ⟨pb, 0, none⟩ = some (.slice (some ⟨g, q2 * 4, none⟩) (L.length - q2) (c - q2))) := hps.c0
        have HPO : Hid (wr.cell? ⟨pb, 0, none⟩ = some (.slice (some ⟨g, q * 4, none⟩) (L.length - q) (c - q))) := HS1.out.c0
        clear hown' hgrow hloc hsz hbl hown2 hok htm hps hgr
        go_wp2
        go_roundw
        case rel => exact HXN
        case measure =>
          rw [HPN.out, HPO.out]
          have := HM3.out
          have := HN.out
          simp only
          omega
      · intro e w8 hep; exact hep.elim
end Go.Proofs.YtnofibjchhcmeabDoor
