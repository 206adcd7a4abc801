/- All expressions are read as the plain parser reads them. -/
import Derived.Test.YtnofibjchhcmeabDoorEc
namespace Go.Proofs.YtnofibjchhcmeabDoor
open Go.RowKit Go.Maps
set_option linter.unusedVariables false

/-- what is known of the expressions that are read within, whatever the rank -/
def ExAll (pb g c : Nat) (L : List Tok) (b f : Nat) : Prop := ∀ (least : Int) p o n W, 1 ≤ least → least ≤ 20 → PS W pb g c L p o b n → SG W pb → n ≤ 600 → o ≤ 48 → Fed (exprF L f (some (least, none)) p o n) → Calls Tryd.prog 93 #[.pointer (some ⟨pb, 0, none⟩), .int .i64 least] W (EPost W W.heap.size pb g c L o b (exprF L f (some (least, none)) p o n))
theorem rank_bd (t : List UInt8) : 0 ≤ (rankOf t).1 ∧ (rankOf t).1 ≤ 8 := by
  have : ∀ l : List (List UInt8 × Int × Int), (∀ x ∈ l, 0 ≤ x.2.1 ∧ x.2.1 ≤ 8) → 0 ≤ (rankGo t l).1 ∧ (rankGo t l).1 ≤ 8 := by
    intro l
    induction l with
    | nil => intro _; exact ⟨Int.le_refl 0, (by decide : (0 : Int) ≤ 8)⟩
    | cons x l ih =>
      intro h
      unfold rankGo
      split
      · exact h x (List.mem_cons_self ..)
      · exact ih (fun y hy => h y (List.mem_cons_of_mem _ hy))
  exact this signsL (by decide)
def contE (L : List Tok) (F : Nat) (least : Int) (o : Nat) : PR → PR
  | .error e => .error e
  | .ok (x, q, m) => exprF L F (some (least, some x)) q o m
theorem exprF_expr (L : List Tok) (F : Nat) (least : Int) (p o n : Nat) : exprF L (F + 1) (some (least, none)) p o n = contE L F least o (exprF L F none p o n) := by
  conv => lhs; unfold exprF
  unfold contE
  rcases exprF L F none p o n with e | ⟨x, q, m⟩ <;> rfl
/-- behind a right side -/
def contM (L : List Tok) (F : Nat) (least : Int) (o p : Nat) (x : PE) : PR → PR
  | .error e => .error e
  | .ok (y, q, m) => contE L F least o (mk' q (mkE (tk L p) 5 0 ⟨#[]⟩ (rankOf (tk L p).text).2 [x, y] m))
theorem exprF_loop (L : List Tok) (F : Nat) (least : Int) (x : PE) (p o n : Nat) : exprF L (F + 1) (some (least, some x)) p o n = if (rankOf (tk L p).text).1 < least then .ok (x, p, n) else contM L F least o p x (exprF L F (some ((rankOf (tk L p).text).1 + 1, none)) (p + 1) o n) := by
  conv => lhs; unfold exprF
  split
  · rfl
  · unfold contM
    rcases exprF L F (some ((rankOf (tk L p).text).1 + 1, none)) (p + 1) o n with e | ⟨y, q, m⟩
    · rfl
    · simp only
      rcases mkE (tk L p) 5 0 ⟨#[]⟩ (rankOf (tk L p).text).2 [x, y] m with e | ⟨z, i⟩ <;> rfl
theorem rank_tk {w : World} {pb : Nat} (t : List UInt8) (h : SG w pb) : Calls Tryd.prog 9 #[.string ⟨t.toArray⟩] w fun e w' => e = .returned (.tuple #[.int .i64 (rankOf t).1, .int .i64 (rankOf t).2]) ∧ Below w.heap.size w w' := by
  obtain ⟨_, A, ty, fr, h1, h2⟩ := h
  exact rank_any ⟨t.toArray⟩ w A h1 ty fr h2

theorem EAt.lt {w : World} {ok : Nat → Prop} {l : EL} {b o : Nat} (h : EAt w ok l b o) (hl : 0 < elen l) : b < w.heap.size := by
  cases l with
  | leaf => exact absurd hl (Nat.lt_irrefl 0)
  | inner i d v a r =>
    obtain ⟨k, n, s, p⟩ := d
    exact World.block_lt_of_cell? w ⟨b, o, none⟩ h.1
theorem EAt.mono' {w : World} {ok ok' : Nat → Prop} (hl : ∀ k, ok k → k < w.heap.size → ok' k) : ∀ {l : EL} {b o : Nat}, EAt w ok l b o → EAt w ok' l b o := by
  intro l
  induction l with
  | leaf => intro b o _; trivial
  | inner i d v a r iha ihr =>
    obtain ⟨k, n, s, p⟩ := d
    intro b o ⟨h1, h2, h3, h4, ⟨ad, cap, b', o', g1, g2, g3, g4, g5⟩, h7⟩
    exact ⟨h1, h2, h3, h4, ⟨ad, cap, b', o', g1, g2, g3, fun q => ⟨(g4 q).1, hl _ (g4 q).2 (g5.lt q)⟩, iha g5⟩, ihr h7⟩
theorem ESlP.mono' {w : World} {ok ok' : Nat → Prop} {v : Value} {l : EL} (h : ESlP w ok v l) (hl : ∀ k, ok k → k < w.heap.size → ok' k) : ESlP w ok' v l := by
  obtain ⟨ad, cap, b, o, h1, h2, h3, h4, h5⟩ := h
  exact ⟨ad, cap, b, o, h1, h2, h3, fun q => ⟨(h4 q).1, hl _ (h4 q).2 (h5.lt q)⟩, h5.mono' hl⟩
theorem give_partP {w W : World} {pb g c : Nat} {L : List Tok} {q o b m : Nat} {x : PE} {v : Value} {k : Nat} {ok : Nat → Prop} (hp : PS W pb g c L q o b m) (hg : Gr w W pb) (he : ESlP W ok v x.args) (hw : w.heap.size ≤ k) (hl : ∀ j, ok j → w.heap.size ≤ j ∧ j ≠ k) (hk : W.heap[k]? = some z98) (hpb : pb < w.heap.size) (hgl : g < w.heap.size) (hd : x.deep ≤ 48) (hm : m ≤ 600) :
    (set6 W k (.int .i64 x.kind) (.int .i64 x.num) (.string x.name) (.int .i64 x.op) v (.int .i64 (x.deep : Int))).heap[k]? = some (pc (rx x v)) ∧ EPost w w.heap.size pb g c L o b (.ok (x, q, m)) (.returned (rxv (rx x v))) (set6 W k (.int .i64 x.kind) (.int .i64 x.num) (.string x.name) (.int .i64 x.op) v (.int .i64 (x.deep : Int))) := by
  refine ⟨put6 hk, v, rfl, ?_, set6_ps hp (by omega) (by omega), set6_gr hg hw, hd, hm⟩
  exact (he.keep fun j h1 _ => set6_blk (hl j h1).2).mono fun j h1 => (hl j h1).1
/-- what stands in memory while signs and right sides are read; the left side lies in block k5 -/
def LS (w : World) (k5 pb g c : Nat) (L : List Tok) (o b : Nat) (least : Int) (F : Nat) (R : PR) (wr : World) : Prop :=
  ∃ x v1 v2 v3 q m f, f ≤ F ∧ exprF L f (some (least, some x)) q o m = R ∧ PS wr pb g c L q o b m ∧ m ≤ 600 ∧ x.deep ≤ 48 ∧ wr.heap[k5]? = some (pc (rx x (.slice v1 v2 v3))) ∧ wr.heap[w.heap.size]? = some z98 ∧ ESlP wr (fun k => w.heap.size < k ∧ k ≠ k5) (.slice v1 v2 v3) x.args ∧ Gr w wr pb

set_option maxRecDepth 100000 in
set_option maxHeartbeats 8000000 in
theorem expr_step {pb g c : Nat} {L : List Tok} {b : Nat} (hE : TEnd L) (F : Nat) (hon : OnOk pb g c L b (exprF L F none)) (hex : ∀ f, f < F → ExAll pb g c L b f) : ExAll pb g c L b (F + 1) := by
  intro least p o n w hl1 hl2 h hs hn ho hfd
  have HS0 : Hid (PS (w.alloc z98) pb g c L p o b n) := h.below ((Below.refl _ _).alloc (Nat.le_refl _) _)
  have HG0 : Hid (Gr w (w.alloc z98) pb) := (Gr.refl w pb).alloc _
  have HB0 : Hid ((w.alloc z98).heap[w.heap.size]? = some z98) := heap_alloc_new _ _
  have HPL : Hid (pb < w.heap.size ∧ g < w.heap.size) := ⟨h.lt, h.gl⟩
  have HSG : Hid (SG w pb) := hs
  have HEX : Hid (∀ f, f < F → ExAll pb g c L b f) := hex
  obtain ⟨R, hR⟩ : ∃ R, exprF L (F + 1) (some (least, none)) p o n = R := ⟨_, rfl⟩
  have HR : Hid (exprF L (F + 1) (some (least, none)) p o n = R) := hR
  rw [hR] at hfd ⊢
  have HFD : Hid (Fed R) := hfd
  obtain ⟨P, hP⟩ : ∃ P, EPost w w.heap.size pb g c L o b R = P := ⟨_, rfl⟩
  have HP : Hid (EPost w w.heap.size pb g c L o b R = P) := hP
  rw [hP]
  obtain ⟨r1, er⟩ : ∃ r1, exprF L F none p o n = r1 := ⟨_, rfl⟩
  rw [exprF_expr, er] at hR
  have HON : Hid (∀ V, PS V pb g c L p o b n → SG V pb → Calls Tryd.prog 100 #[.pointer (some ⟨pb, 0, none⟩)] V (EPost V V.heap.size pb g c L o b r1)) := fun V hV hS => by
    have hfe : Fed (exprF L F none p o n) := by
      rw [er]
      rcases r1 with e | x
      · rw [← hR] at hfd; exact hfd
      · exact fed_ok
    have := hon p o n V hV hS hn ho hfe
    rwa [er] at this
  have HR2 : Hid (contE L F least o r1 = R) := hR
  have HLE : Hid (1 ≤ least ∧ least ≤ 20) := ⟨hl1, hl2⟩
  unfold z98 at HS0 HG0 HB0
  clear h hs hP hR hfd hon hex er HR hl1 hl2
  go_enter Tryd.func93, Tryd.ntmps93
  go_wp2_with fail
  refine (HON.out _ HS0.out (HSG.out.gr HG0.out)).mono ?_
  rcases r1 with ⟨k, ek⟩ | ⟨x, q, m⟩
  · rintro e w1 ⟨rfl, hg⟩
    refine ⟨rfl, ?_⟩
    rw [← HP.out, ← HR2.out]
    exact ⟨rfl, HG0.out.trans hg⟩
  rintro e w1 ⟨v, rfl, hes, hp, hg, hd, hm⟩
  obtain ⟨v1, v2, v3, rfl⟩ := hes.sl
  have hs1 : w.heap.size < w1.heap.size := by have := hg.size; simp at this; omega
  have BL1 := (Below.refl w1.heap.size w1).alloc (Nat.le_refl _) (pc (rx x (.slice v1 v2 v3)))
  have L0 : Hid (LS w w1.heap.size pb g c L o b least F R (w1.alloc (pc (rx x (.slice v1 v2 v3))))) := by
    refine ⟨x, v1, v2, v3, q, m, F, Nat.le_refl _, HR2.out, hp.below BL1, hm, hd, heap_alloc_new _ _, (BL1.block _ hs1).trans ((hg.blk (by simp) HPL.out.1).trans HB0.out), ?_, (HG0.out.trans hg).alloc _⟩
    refine (ESlP.mono' hes fun k h1 h2 => ?_).below BL1
    have : (w.alloc z98).heap.size ≤ k := h1
    simp at this
    exact ⟨by omega, by omega⟩
  have HK5 : Hid (w.heap.size < w1.heap.size) := hs1
  have hfst := fld1
  clear hes hp hg hd hm BL1 hs1 HR2 HON HS0 HG0 HB0
  unfold rxv rx
  go_wp2
  go_loopw [6] (fun u wr => Hid (LS w w1.heap.size pb g c L o b least F R wr)) (fun _ wr => match wr.cell? ⟨pb, 0, none⟩ with | some (.slice _ k _) => k | _ => 0)
  case atStart => exact L0
  case round =>
    clear L0
    obtain ⟨x, v1, v2, v3, q, m, f, hf, hR, hp, hm, hd, hk5, hb, hes, hg⟩ := hrel.out
    clear hrel
    obtain ⟨f', rfl⟩ : ∃ f', f = f' + 1 := by
      rcases f with _ | f'
      · exfalso; refine HFD.out 0 ?_; rw [← hR]; rfl
      · exact ⟨f', rfl⟩
    rw [exprF_loop] at hR
    obtain ⟨t, ht⟩ : ∃ t, tk L q = t := ⟨_, rfl⟩
    have HLK := look_tk hp
    rw [ht] at HLK hR
    unfold tv at HLK
    obtain ⟨rk1, rk2, hrke⟩ : ∃ a b, rankOf t.text = (a, b) := ⟨_, _, rfl⟩
    have HRC : Hid (∀ W, SG W pb → Calls Tryd.prog 9 #[.string ⟨t.text.toArray⟩] W fun e w' => e = .returned (.tuple #[.int .i64 rk1, .int .i64 rk2]) ∧ Below W.heap.size W w') := fun W hW => by have := rank_tk t.text hW; rwa [hrke] at this
    have hrb := rank_bd t.text
    rw [hrke] at hR hrb
    simp only at hR hrb
    have HRKN : Hid (t.text = [] → rk1 = 0) := fun e => by rw [e, rank_nil] at hrke; cases hrke; rfl
    have HRK : Hid (rankOf t.text = (rk1, rk2)) := hrke
    clear hrke
    have HS1 : Hid (PS wr pb g c L q o b m) := hp
    have HKR : Hid (LS w w1.heap.size pb g c L o b least F R wr) := ⟨x, v1, v2, v3, q, m, f' + 1, hf, by rw [exprF_loop, ht, HRK.out]; exact hR, hp, hm, hd, hk5, hb, hes, hg⟩
    go_wp2_with fail
    refine HLK.mono ?_
    rintro e w2 ⟨rfl, hb2⟩
    have HB2 : Hid (Below wr.heap.size wr w2) := hb2
    have hSG2 : SG w2 pb := (HSG.out.gr hg).gr (Gr.below hb2)
    clear hb2
    go_wp2_with fail
    refine (HRC.out _ hSG2).mono ?_
    rintro e w3 ⟨rfl, hb3⟩
    have B3 : Below wr.heap.size wr w3 := HB2.out.trans (hb3.mono HB2.out.size)
    have hk5l : w1.heap.size < wr.heap.size := (Array.getElem?_eq_some_iff.1 hk5).1
    have K3 : w3.heap[w1.heap.size]? = some (pc (rx x (.slice v1 v2 v3))) := (B3.block _ hk5l).trans hk5
    have Z3 : w3.heap[w.heap.size]? = some z98 := (B3.block _ (by have := HK5.out; omega)).trans hb
    have E3 : ESlP w3 (fun k => w.heap.size < k ∧ k ≠ w1.heap.size) (.slice v1 v2 v3) x.args := hes.below B3
    have S3 : PS w3 pb g c L q o b m := hp.below B3
    have G3 : Gr w w3 pb := hg.trans (Gr.below B3)
    have HZ3 : Hid (w3.heap[w.heap.size]? = some z98) := Z3
    have HK3 : Hid (w3.heap[w1.heap.size]? = some (pc (rx x (.slice v1 v2 v3)))) := K3
    have HE3 : Hid (ESlP w3 (fun k => w.heap.size < k ∧ k ≠ w1.heap.size) (.slice v1 v2 v3) x.args) := E3
    have HS3 : Hid (PS w3 pb g c L q o b m) := S3
    have HG3 : Hid (Gr w w3 pb) := G3
    have HL3 : Hid (w1.heap.size < w3.heap.size ∧ wr.heap.size ≤ w3.heap.size) := ⟨by have := B3.size; omega, B3.size⟩
    have HMD : Hid (m ≤ 600 ∧ x.deep ≤ 48 ∧ f' < F) := ⟨hm, hd, by omega⟩
    have HRR : Hid ((if rk1 < least then .ok (x, q, m) else contM L f' least o q x (exprF L f' (some (rk1 + 1, none)) (q + 1) o m)) = R) := hR
    have HTK : Hid (tk L q = t) := ht
    by_cases hrk : rk1 < least
    · have HR3 : Hid (.ok (x, q, m) = R) := by have := HRR.out; rwa [if_pos hrk] at this
      obtain ⟨hs1, hs2⟩ := give_partP (k := w.heap.size) S3 G3 E3 (Nat.le_refl _) (fun k hk => ⟨by omega, by omega⟩) Z3 HPL.out.1 HPL.out.2 hd hm
      rw [HR3.out, HP.out] at hs2
      have HS1' : Hid ((set6 w3 w.heap.size (.int .i64 x.kind) (.int .i64 x.num) (.string x.name) (.int .i64 x.op) (.slice v1 v2 v3) (.int .i64 (x.deep : Int))).heap[w.heap.size]? = some (pc (rx x (.slice v1 v2 v3)))) := hs1
      have HS2' : Hid (P (.returned (rxv (rx x (.slice v1 v2 v3)))) (set6 w3 w.heap.size (.int .i64 x.kind) (.int .i64 x.num) (.string x.name) (.int .i64 x.op) (.slice v1 v2 v3) (.int .i64 (x.deep : Int)))) := hs2
      obtain ⟨a0, a1, a2, a3, a4, a5, b0, b1, b2, b3, b4, b5⟩ := z98_c Z3
      obtain ⟨d0, d1, d2, d3, d4, d5, _⟩ := pc_c K3
      unfold rx at d0 d1 d2 d3 d4 d5
      clear hs1 hs2 Z3 K3 E3 S3 G3 hb3 B3 hR HRR hes hb hk5 hg hp HLK hSG2
      go_wp2
      exact bodyPost_ret (ret_part 4 Tryd.results93 _ w.heap.size rfl _ (rx x (.slice v1 v2 v3)) HS1'.out) rfl HS2'.out
    · have HR3 : Hid (contM L f' least o q x (exprF L f' (some (rk1 + 1, none)) (q + 1) o m) = R) := by have := HRR.out; rwa [if_neg hrk] at this
      have hq1 : q + 1 < L.length := hE.text (by rw [ht]; intro e; have := HRKN.out e; have := HLE.out; omega)
      have hnx := next_tk S3 hq1
      rw [ht] at hnx
      unfold tv at hnx
      have hw : wrap64 (rk1 + 1) = rk1 + 1 := by unfold wrap64; omega
      clear Z3 K3 E3 S3 G3 hb3 B3 hR HRR hes hb hk5 hg hp HLK hSG2
      go_wp2_with fail
      refine hnx.mono ?_
      rintro e w4 ⟨rfl, hp4, hg4⟩
      have BL4 := (Below.refl w4.heap.size w4).alloc (Nat.le_refl _) (tc4 t)
      have hs4 : w3.heap.size ≤ w4.heap.size := hg4.size
      have HK4 : Hid ((w4.alloc (tc4 t)).heap[w1.heap.size]? = some (pc (rx x (.slice v1 v2 v3)))) := (BL4.block _ (by have := HL3.out; omega)).trans ((hg4.blk HL3.out.1 (by have := HK5.out; have := HPL.out; omega)).trans HK3.out)
      have HZ4 : Hid ((w4.alloc (tc4 t)).heap[w.heap.size]? = some z98) := (BL4.block _ (by have := HL3.out; have := HK5.out; omega)).trans ((hg4.blk (by have := HL3.out; have := HK5.out; omega) HPL.out.1).trans HZ3.out)
      have HT4 : Hid ((w4.alloc (tc4 t)).heap[w4.heap.size]? = some (tc4 t)) := heap_alloc_new _ _
      have HE4 : Hid (ESlP (w4.alloc (tc4 t)) (fun k => w.heap.size < k ∧ k ≠ w1.heap.size) (.slice v1 v2 v3) x.args) := (HE3.out.gr hg4 (fun k hk => by have := HPL.out; omega)).below BL4
      have HS4 : Hid (PS (w4.alloc (tc4 t)) pb g c L (q + 1) o b m) := hp4.below BL4
      have HG4 : Hid (Gr w (w4.alloc (tc4 t)) pb) := (HG3.out.trans hg4).alloc _
      have HL4 : Hid (w1.heap.size < w4.heap.size ∧ pb < w4.heap.size ∧ w.heap.size < w4.heap.size ∧ (w4.alloc (tc4 t)).heap.size = w4.heap.size + 1) := by have := HL3.out; have := HK5.out; have := HPL.out; exact ⟨by omega, by omega, by omega, by simp⟩
      obtain ⟨r2, er2⟩ : ∃ r2, exprF L f' (some (rk1 + 1, none)) (q + 1) o m = r2 := ⟨_, rfl⟩
      have HQ2 : Hid (∀ y q2 m2, r2 = .ok (y, q2, m2) → q + 2 ≤ q2) := fun y q2 m2 e => by have := ((exprF_fwd L f').2.1 (rk1 + 1) (q + 1) o m y q2 m2 (er2.trans e)).1; omega
      have hfe : Fed (exprF L f' (some (rk1 + 1, none)) (q + 1) o m) := by
        rw [er2]
        have := HFD.out
        rw [← HR3.out, er2] at this
        rcases r2 with e | y
        · exact this
        · exact fed_ok
      have hexc := HEX.out f' HMD.out.2.2 (rk1 + 1) (q + 1) o m _ (by omega) (by omega) HS4.out (HSG.out.gr HG4.out) HMD.out.1 ho hfe
      rw [er2] at hexc HR3
      unfold tc4 at hexc
      clear hp4 hg4 hs4 BL4 hfe er2 hnx
      go_wp2_with fail
      refine hexc.mono ?_
      clear hexc
      rcases r2 with ⟨k, ek⟩ | ⟨y, q2, m2⟩
      · rintro e w5 ⟨rfl, hg⟩
        refine ⟨rfl, ?_⟩
        rw [← HP.out, ← HR3.out]
        exact ⟨rfl, HG4.out.trans hg⟩
      rintro e w5 ⟨u, rfl, hes5, hp5, hg5, hd5, hm5⟩
      obtain ⟨u1, u2, u3, rfl⟩ := hes5.sl
      have hg5' : Gr (w4.alloc (tc4 t)) w5 pb := hg5
      have BL5 := (Below.refl w5.heap.size w5).alloc (Nat.le_refl _) (pc (rx y (.slice u1 u2 u3)))
      have hs5 : w4.heap.size + 1 ≤ w5.heap.size := by have := hg5'.size; have := HL4.out; omega
      have K5 : (w5.alloc (pc (rx y (.slice u1 u2 u3)))).heap[w1.heap.size]? = some (pc (rx x (.slice v1 v2 v3))) := (BL5.block _ (by have := HL4.out; omega)).trans ((hg5'.blk (by have := HL4.out; omega) (by have := HK5.out; have := HPL.out; omega)).trans HK4.out)
      have T5 : (w5.alloc (pc (rx y (.slice u1 u2 u3)))).heap[w4.heap.size]? = some (tc4 t) := (BL5.block _ (by omega)).trans ((hg5'.blk (by have := HL4.out; omega) HL4.out.2.1).trans HT4.out)
      have Y5 : (w5.alloc (pc (rx y (.slice u1 u2 u3)))).heap[w5.heap.size]? = some (pc (rx y (.slice u1 u2 u3))) := heap_alloc_new _ _
      have HZ5 : Hid ((w5.alloc (pc (rx y (.slice u1 u2 u3)))).heap[w.heap.size]? = some z98) := (BL5.block _ (by have := HL4.out; omega)).trans ((hg5'.blk (by have := HL4.out; omega) HPL.out.1).trans HZ4.out)
      have HK5' : Hid ((w5.alloc (pc (rx y (.slice u1 u2 u3)))).heap[w1.heap.size]? = some (pc (rx x (.slice v1 v2 v3)))) := K5
      have HE5 : Hid (ESlP (w5.alloc (pc (rx y (.slice u1 u2 u3)))) (fun k => w.heap.size < k ∧ k ≠ w1.heap.size) (.slice v1 v2 v3) x.args) := (HE4.out.gr hg5' (fun k hk => by have := HPL.out; omega)).below BL5
      have HF5 : Hid (ESlP (w5.alloc (pc (rx y (.slice u1 u2 u3)))) (fun k => w.heap.size < k ∧ k ≠ w1.heap.size) (.slice u1 u2 u3) y.args) := (ESlP.mono hes5 (fun k hk => by have h1 : (w4.alloc (tc4 t)).heap.size ≤ k := hk; have := HL4.out; exact ⟨by omega, by omega⟩)).below BL5
      have HS5 : Hid (PS (w5.alloc (pc (rx y (.slice u1 u2 u3)))) pb g c L q2 o b m2) := hp5.below BL5
      have HG5 : Hid (Gr w (w5.alloc (pc (rx y (.slice u1 u2 u3)))) pb) := (HG4.out.trans hg5').alloc _
      have HL5 : Hid (w1.heap.size < w5.heap.size ∧ w.heap.size < w5.heap.size ∧ (w5.alloc (pc (rx y (.slice u1 u2 u3)))).heap.size = w5.heap.size + 1) := by have := HL4.out; exact ⟨by omega, by omega, by simp⟩
      have HMD5 : Hid (y.deep ≤ 48 ∧ m2 ≤ 600) := ⟨hd5, hm5⟩
      have HQ3 : Hid (q + 2 ≤ q2) := HQ2.out y q2 m2 rfl
      obtain ⟨t0, t1, t2, t3⟩ := tc4_c T5
      obtain ⟨d0, d1, d2, d3, d4, d5, _⟩ := pc_c K5
      unfold pc rx at t0 t1 t2 t3 d0 d1 d2 d3 d4 d5
      dsimp only at t0 t1 t2 t3 d0 d1 d2 d3 d4 d5
      clear hes5 hp5 hg5 hg5' hd5 hm5 hs5 BL5 K5 T5 Y5 HQ2
      unfold rxv rx
      go_wp2_with fail
      have hok : (w5.alloc (pc (rx y (.slice u1 u2 u3)))).heap.size = w5.heap.size + 1 := HL5.out.2.2
      have BL7 := (Below.refl (w5.alloc (pc (rx y (.slice u1 u2 u3)))).heap.size (w5.alloc (pc (rx y (.slice u1 u2 u3))))).alloc (Nat.le_refl _) (.cells #[.int .i64 x.kind, .int .i64 x.num, .string x.name, .int .i64 x.op, .slice v1 v2 v3, .int .i64 (x.deep : Int), .int .i64 y.kind, .int .i64 y.num, .string y.name, .int .i64 y.op, .slice u1 u2 u3, .int .i64 (y.deep : Int)] 98)
      have hys : ∀ z ∈ [(x, Value.slice v1 v2 v3), (y, Value.slice u1 u2 u3)], ESlP ((w5.alloc (pc (rx y (.slice u1 u2 u3)))).alloc (.cells #[.int .i64 x.kind, .int .i64 x.num, .string x.name, .int .i64 x.op, .slice v1 v2 v3, .int .i64 (x.deep : Int), .int .i64 y.kind, .int .i64 y.num, .string y.name, .int .i64 y.op, .slice u1 u2 u3, .int .i64 (y.deep : Int)] 98)) (fun k => w.heap.size < k ∧ k ≠ w1.heap.size) z.2 z.1.args := by
        intro z hz
        simp at hz
        rcases hz with rfl | rfl
        · exact HE5.out.below BL7
        · exact HF5.out.below BL7
      have hpa := PA.two (w5.alloc (pc (rx y (.slice u1 u2 u3)))) x y (.slice v1 v2 v3) (.slice u1 u2 u3) ⟨_, _, _, rfl⟩ ⟨_, _, _, rfl⟩ HMD.out.2.1 HMD5.out.1 98
      rw [hok] at hpa
      have hmk := makeE_P (fun k => w.heap.size < k ∧ k ≠ w1.heap.size) pb g c L q2 o b m2 t 5 0 ⟨#[]⟩ rk2 [(x, .slice v1 v2 v3), (y, .slice u1 u2 u3)] _ _ (HS5.out.below BL7) HMD5.out.2 hpa hys (fun k hk => by have := HL5.out; simp at hk; exact ⟨by omega, by omega⟩) (fun k hk => by have := HPL.out; omega)
      have HG7 : Gr w ((w5.alloc (pc (rx y (.slice u1 u2 u3)))).alloc (.cells #[.int .i64 x.kind, .int .i64 x.num, .string x.name, .int .i64 x.op, .slice v1 v2 v3, .int .i64 (x.deep : Int), .int .i64 y.kind, .int .i64 y.num, .string y.name, .int .i64 y.op, .slice u1 u2 u3, .int .i64 (y.deep : Int)] 98)) pb := HG5.out.alloc _
      have HZ7 := (BL7.block _ (by have := HL5.out; omega)).trans HZ5.out
      have HK7 := (BL7.block _ (by have := HL5.out; omega)).trans HK5'.out
      have hres : contE L f' least o (mk' q2 (mkE t 5 0 ⟨#[]⟩ rk2 [x, y] m2)) = R := by
        have := HR3.out
        unfold contM at this
        dsimp only at this
        rw [HTK.out, HRK.out] at this
        exact this
      have hmk2 : Calls Tryd.prog 101 #[.pointer (some ⟨pb, 0, none⟩), tv t, .agg #[.int .i64 5, .int .i64 0, .string ⟨#[]⟩, .int .i64 rk2, .slice none 0 0], .slice (some ⟨w5.heap.size + 1, 0, none⟩) 2 2] ((w5.alloc (pc (rx y (.slice u1 u2 u3)))).alloc (.cells #[.int .i64 x.kind, .int .i64 x.num, .string x.name, .int .i64 x.op, .slice v1 v2 v3, .int .i64 (x.deep : Int), .int .i64 y.kind, .int .i64 y.num, .string y.name, .int .i64 y.op, .slice u1 u2 u3, .int .i64 (y.deep : Int)] 98)) (EPostP ((w5.alloc (pc (rx y (.slice u1 u2 u3)))).alloc (.cells #[.int .i64 x.kind, .int .i64 x.num, .string x.name, .int .i64 x.op, .slice v1 v2 v3, .int .i64 (x.deep : Int), .int .i64 y.kind, .int .i64 y.num, .string y.name, .int .i64 y.op, .slice u1 u2 u3, .int .i64 (y.deep : Int)] 98)) (fun k => w.heap.size < k ∧ k ≠ w1.heap.size) pb g c L o b (mk' q2 (mkE t 5 0 ⟨#[]⟩ rk2 [x, y] m2))) := hmk
      have hmi : ∀ z q3 m3, mk' q2 (mkE t 5 0 ⟨#[]⟩ rk2 [x, y] m2) = .ok (z, q3, m3) → q3 = q2 := fun z q3 m3 e => (mk'_ok e).1
      generalize mk' q2 (mkE t 5 0 ⟨#[]⟩ rk2 [x, y] m2) = res at hres hmk2 hmi
      refine (show Calls _ _ _ _ _ from hmk2).mono ?_
      clear hmk hmk2 hpa hys BL7 hok t0 t1 t2 t3 d0 d1 d2 d3 d4 d5
      generalize ((w5.alloc (pc (rx y (.slice u1 u2 u3)))).alloc (.cells #[.int .i64 x.kind, .int .i64 x.num, .string x.name, .int .i64 x.op, .slice v1 v2 v3, .int .i64 (x.deep : Int), .int .i64 y.kind, .int .i64 y.num, .string y.name, .int .i64 y.op, .slice u1 u2 u3, .int .i64 (y.deep : Int)] 98)) = w7 at HG7 HZ7 HK7 ⊢
      rcases res with ⟨k, ek⟩ | ⟨z, q3, m3⟩
      · rintro e w8 ⟨rfl, hg⟩
        refine ⟨rfl, ?_⟩
        rw [← HP.out, ← hres]
        exact ⟨rfl, HG7.trans hg⟩
      · rintro e w8 ⟨s, rfl, hes, hp, hg, hd, hm⟩
        obtain ⟨z1, z2, z3, rfl⟩ := hes.sl
        have hq3 : q3 = q2 := hmi z q3 m3 rfl
        have K8 : w8.heap[w1.heap.size]? = some (pc (rx x (.slice v1 v2 v3))) := (hg.blk (Array.getElem?_eq_some_iff.1 HK7).1 (by have := HK5.out; have := HPL.out; omega)).trans HK7
        have Z8 : w8.heap[w.heap.size]? = some z98 := (hg.blk (Array.getElem?_eq_some_iff.1 HZ7).1 HPL.out.1).trans HZ7
        have LN : LS w w1.heap.size pb g c L o b least F R (set6 w8 w1.heap.size (.int .i64 z.kind) (.int .i64 z.num) (.string z.name) (.int .i64 z.op) (.slice z1 z2 z3) (.int .i64 (z.deep : Int))) := by
          refine ⟨z, z1, z2, z3, q3, m3, f', by have := HMD.out; omega, hres, set6_ps hp (by have := HK5.out; have := HPL.out; omega) (by have := HK5.out; have := HPL.out; omega), hm, hd, put6 K8, (set6_blk (by have := HK5.out; omega)).trans Z8, hes.keep fun k hk _ => set6_blk hk.2, set6_gr (HG7.trans hg) (by have := HK5.out; omega)⟩
        have HLN : Hid (LS w w1.heap.size pb g c L o b least F R (set6 w8 w1.heap.size (.int .i64 z.kind) (.int .i64 z.num) (.string z.name) (.int .i64 z.op) (.slice z1 z2 z3) (.int .i64 (z.deep : Int)))) := LN
        have HPN : Hid ((set6 w8 w1.heap.size (.int .i64 z.kind) (.int .i64 z.num) (.string z.name) (.int .i64 z.op) (.slice z1 z2 z3) (.int .i64 (z.deep : Int))).cell? ⟨pb, 0, none⟩ = some (.slice (some ⟨g, q3 * 4, none⟩) (L.length - q3) (c - q3))) := (set6_ps hp (by have := HK5.out; have := HPL.out; omega) (by have := HK5.out; have := HPL.out; omega)).c0
        have HPO : Hid (wr.cell? ⟨pb, 0, none⟩ = some (.slice (some ⟨g, q * 4, none⟩) (L.length - q) (c - q))) := HS1.out.c0
        have HQL : Hid (q + 1 < L.length ∧ q + 2 ≤ q3) := ⟨hq1, by have := HQ3.out; omega⟩
        obtain ⟨d0, d1, d2, d3, d4, d5, b0, b1, b2, b3, b4, b5⟩ := pc_c K8
        unfold rx at d0 d1 d2 d3 d4 d5
        clear K8 Z8 LN hes hp hg hd hm HG7 HZ7 HK7 hres hmi
        unfold set6 at HLN HPN
        unfold rxv rx
        go_wp2
        go_roundw
        case rel => exact HLN
        case measure =>
          rw [HPN.out, HPO.out]
          have := HQL.out
          simp only
          omega
end Go.Proofs.YtnofibjchhcmeabDoor
namespace Go.Proofs.YtnofibjchhcmeabDoor
open Go.RowKit Go.Maps
set_option linter.unusedVariables false

/-- what is to be known of signs of one number -/
def SignedOk (pb g c : Nat) (L : List Tok) (b : Nat) : Prop := ∀ on, OnOk pb g c L b on → ∀ (op : Int) p o n w, PS w pb g c L p o b n → SG w pb → n ≤ 600 → o ≤ 48 → p + 1 < L.length → Fed (signedP L on op p o n) → Calls Tryd.prog 104 #[.pointer (some ⟨pb, 0, none⟩), .int .i64 op] w (EPost w w.heap.size pb g c L o b (signedP L on op p o n))
def NoSign (L : List Tok) : Prop := ∀ p, ¬ (tk L p).text = [45] ∧ ¬ (tk L p).text = [126] ∧ ¬ (tk L p).text = [33]
theorem one_step {pb g c : Nat} {L : List Tok} {b : Nat} (hE : TEnd L) (hsg : SignedOk pb g c L b ∨ NoSign L) (F : Nat) (hon : OnOk pb g c L b (exprF L F none)) (hex : ExAll pb g c L b F) : OnOk pb g c L b (exprF L (F + 1) none) := by
  have hex1 : ExOk pb g c L b (exprF L F (some (1, none))) := fun p o n W h1 h2 h3 h4 h5 => hex 1 p o n W (Int.le_refl 1) (by decide) h1 h2 h3 h4 h5
  have hfw : Fwd 1 (exprF L F (some (1, none))) := (exprF_fwd L F).2.1 1
  intro p o n w h hs hn ho hfd
  have e0 : exprF L (F + 1) none p o n = oneP L (exprF L F (some (1, none))) (exprF L F none) p o n := rfl
  rw [e0] at hfd ⊢
  unfold oneP at hfd ⊢
  by_cases k1 : (tk L p).kind = 1
  · rw [if_pos k1]; exact one_num hE p o n w h hn k1
  rw [if_neg k1] at hfd ⊢
  by_cases k2 : (tk L p).kind = 2
  · rw [if_pos k2]; exact one_name hE p o n w h hn k2
  rw [if_neg k2] at hfd ⊢
  by_cases t1 : (tk L p).text = [40]
  · rw [if_pos t1] at hfd ⊢
    exact one_paren p o n w _ h hs k1 k2 t1 fun V hV hS => within_any hE hex1 hfw ⟨#[40]⟩ ⟨#[41]⟩ (by simp) (by simp) p o n V hV hS hn ho hfd
  rw [if_neg t1] at hfd ⊢
  by_cases t2 : (tk L p).text = [109]
  · rw [if_pos t2] at hfd ⊢
    rw [memP_is] at hfd ⊢
    have hfw2 : Fed (withinP L (exprF L F (some (1, none))) [91] [93] (p + 1) o n) := by
      rcases e : withinP L (exprF L F (some (1, none))) [91] [93] (p + 1) o n with a | a
      · rw [e] at hfd; exact hfd
      · exact fed_ok
    exact one_mem p o n w _ hE (fun x q m e => (withinP_fwd hfw _ _ _ _ _ _ _ _ e).2 hn) h hs k1 k2 t2 fun V hV hS => within_any hE hex1 hfw ⟨#[91]⟩ ⟨#[93]⟩ (by simp) (by simp) (p + 1) o n V hV hS hn ho hfw2
  rw [if_neg t2] at hfd ⊢
  by_cases t3 : (tk L p).text = [109, 105, 110]
  · rw [if_pos t3] at hfd ⊢
    exact one_min p o n w _ h hs k1 k2 t3 fun V hV hS => pair_any hE hex1 hfw 17 p o n V hV hS hn ho (hE.text (by rw [t3]; simp)) hfd
  rw [if_neg t3] at hfd ⊢
  by_cases t4 : (tk L p).text = [109, 97, 120]
  · rw [if_pos t4] at hfd ⊢
    exact one_max p o n w _ h hs k1 k2 t4 fun V hV hS => pair_any hE hex1 hfw 18 p o n V hV hS hn ho (hE.text (by rw [t4]; simp)) hfd
  rw [if_neg t4] at hfd ⊢
  by_cases t5 : (tk L p).text = [45]
  · rw [if_pos t5] at hfd ⊢
    rcases hsg with hsg | hno
    · exact one_neg p o n w _ h hs k1 k2 t5 fun V hV hS => hsg _ hon 19 p o n V hV hS hn ho (hE.text (by rw [t5]; simp)) hfd
    · exact absurd t5 (hno p).1
  rw [if_neg t5] at hfd ⊢
  by_cases t6 : (tk L p).text = [126]
  · rw [if_pos t6] at hfd ⊢
    rcases hsg with hsg | hno
    · exact one_com p o n w _ h hs k1 k2 t6 fun V hV hS => hsg _ hon 20 p o n V hV hS hn ho (hE.text (by rw [t6]; simp)) hfd
    · exact absurd t6 (hno p).2.1
  rw [if_neg t6] at hfd ⊢
  by_cases t7 : (tk L p).text = [33]
  · rw [if_pos t7] at hfd ⊢
    rcases hsg with hsg | hno
    · exact one_not p o n w _ h hs k1 k2 t7 fun V hV hS => hsg _ hon 21 p o n V hV hS hn ho (hE.text (by rw [t7]; simp)) hfd
    · exact absurd t7 (hno p).2.2
  rw [if_neg t7] at hfd ⊢
  refine one_bad p o n w h hs k1 k2 ?_
  intro l hl
  simp at hl
  rcases hl with rfl | rfl | rfl | rfl | rfl | rfl | rfl
  · exact t1
  · exact t2
  · exact t3
  · exact t4
  · exact t5
  · exact t6
  · exact t7
theorem expr_both {pb g c : Nat} {L : List Tok} {b : Nat} (hE : TEnd L) (hsg : SignedOk pb g c L b ∨ NoSign L) : ∀ F, OnOk pb g c L b (exprF L F none) ∧ ExAll pb g c L b F := by
  intro F
  induction F using Nat.strongRecOn with
  | _ F ih =>
    rcases F with _ | F
    · exact ⟨fun p o n W _ _ _ _ h => absurd rfl (h 0), fun least p o n W _ _ _ _ _ _ h => absurd rfl (h 0)⟩
    · obtain ⟨i1, i2⟩ := ih F (Nat.lt_succ_self F)
      exact ⟨one_step hE hsg F i1 i2, expr_step hE F i1 (fun f hf => (ih f (Nat.lt_succ_of_lt hf)).2)⟩
/-- the expressions of statements -/
theorem ex1_any {pb g c : Nat} {L : List Tok} {b : Nat} (hE : TEnd L) (hsg : SignedOk pb g c L b ∨ NoSign L) : ExOk pb g c L b (ex1 L) := fun p o n W h1 h2 h3 h4 h5 => (expr_both hE hsg (3 * L.length + 2)).2 1 p o n W (Int.le_refl 1) (by decide) h1 h2 h3 h4 h5
theorem ex1_fed (L : List Tok) (p o n : Nat) : Fed (ex1 L p o n) := (exprF_fed L L.length p (by omega)).2.2 _ o n 1 (Nat.le_refl _) (Int.le_refl 1)
end Go.Proofs.YtnofibjchhcmeabDoor
