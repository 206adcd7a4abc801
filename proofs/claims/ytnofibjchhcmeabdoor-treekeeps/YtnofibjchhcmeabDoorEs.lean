/- A sign of one number. -/
import Derived.Test.YtnofibjchhcmeabDoorEc
import Derived.Test.YtnofibjchhcmeabDoorEx
import Derived.RegionDies
import Derived.Deep.CutRange
namespace Go.Proofs.YtnofibjchhcmeabDoor
open Go.RowKit Go.Maps
set_option linter.unusedVariables false
set_option linter.unusedSimpArgs false

theorem pa_block {W : World} {n : Nat} {x : PE} {v : Value} {T : TypeId} (hb : W.heap[n]? = some (.cells #[.int .i64 x.kind, .int .i64 x.num, .string x.name, .int .i64 x.op, v, .int .i64 (x.deep : Int)] T)) (hv : Sl v) (hd : x.deep ≤ 48) : PA W (.slice (some ⟨n, 0, none⟩) 1 1) (rxs [(x, v)]) := by
  refine ⟨⟨_, 1, n, rfl, Nat.le_refl _, by omega, fun _ => ⟨rfl, (Array.getElem?_eq_some_iff.1 hb).1⟩, fun i hi => ?_⟩, ?_, ?_⟩
  · have h0 : i = 0 := by simp [rxs] at hi; omega
    subst h0
    refine ⟨?_, ?_, ?_, ?_, ?_, ?_⟩
    · rw [cell_of_row _ _ _ _ _ _ hb]; rfl
    · rw [cell_of_row _ _ _ _ _ _ hb]; rfl
    · rw [cell_of_row _ _ _ _ _ _ hb]; rfl
    · rw [cell_of_row _ _ _ _ _ _ hb]; rfl
    · rw [cell_of_row _ _ _ _ _ _ hb]; rfl
    · rw [cell_of_row _ _ _ _ _ _ hb]; rfl
  · intro y hy; simp [rxs] at hy; subst hy; exact hv
  · intro y hy; simp [rxs] at hy; subst hy; show x.deep ≤ 1000; omega
/-- what stands behind a sign -/
structure Sg (w : World) (pb g c : Nat) (L : List Tok) (b : Nat) (t : Tok) (n1 : Nat) (q oo m : Nat) (V : World) : Prop where
  ps : PS V pb g c L q oo b m
  gr : Gr w V pb
  z : V.heap[w.heap.size]? = some z98
  tt : V.heap[n1]? = some (tc4 t)
  hp : pb < w.heap.size
  hg : g < w.heap.size
  h1 : w.heap.size < n1
theorem Sg.lt {w V : World} {pb g c : Nat} {L : List Tok} {b : Nat} {t : Tok} {n1 q oo m : Nat} (h : Sg w pb g c L b t n1 q oo m V) : w.heap.size < V.heap.size := (Array.getElem?_eq_some_iff.1 h.z).1
theorem Sg.call {w V V' : World} {pb g c : Nat} {L : List Tok} {b : Nat} {t : Tok} {n1 q oo m q' m' : Nat} (h : Sg w pb g c L b t n1 q oo m V) (hg : Gr V V' pb) (hp : PS V' pb g c L q' oo b m') : Sg w pb g c L b t n1 q' oo m' V' :=
  ⟨hp, h.gr.trans hg, (hg.blk h.lt h.hp).trans h.z, (hg.blk (Array.getElem?_eq_some_iff.1 h.tt).1 (Nat.lt_trans h.hp h.h1)).trans h.tt, h.hp, h.hg, h.h1⟩
theorem Sg.alloc {w V : World} {pb g c : Nat} {L : List Tok} {b : Nat} {t : Tok} {n1 q oo m : Nat} (h : Sg w pb g c L b t n1 q oo m V) (o : Obj) : Sg w pb g c L b t n1 q oo m (V.alloc o) :=
  h.call ((Gr.refl V pb).alloc o) (h.ps.below ((Below.refl _ _).alloc (Nat.le_refl _) _))
theorem Sg.drew {w V : World} {pb g c : Nat} {L : List Tok} {b : Nat} {t : Tok} {n1 q oo m : Nat} (h : Sg w pb g c L b t n1 q oo m V) : Sg w pb g c L b t n1 q oo m V.drew := h.call (Gr.refl V pb).drew h.ps.drew
theorem keepA {V : World} {k : Nat} {o : Obj} (h : V.heap[k]? = some o) (o' : Obj) : (V.alloc o').heap[k]? = some o := (heap_alloc_old _ _ (Array.getElem?_eq_some_iff.1 h).1).trans h
theorem keepG {V V' : World} {pb k : Nat} {o : Obj} (h : V.heap[k]? = some o) (hg : Gr V V' pb) (hk : pb < k) : V'.heap[k]? = some o := (hg.blk (Array.getElem?_eq_some_iff.1 h).1 hk).trans h
theorem PS.set6 {V : World} {pb g c p o b n k : Nat} {L : List Tok} (h : PS V pb g c L p o b n) (h1 : pb ≠ k) (h2 : g ≠ k) (a0 a1 a2 a3 a4 a5 : Value) : PS (set6 V k a0 a1 a2 a3 a4 a5) pb g c L p o b n :=
  (((((h.setNew h1 h2 a0).setNew h1 h2 a1).setNew h1 h2 a2).setNew h1 h2 a3).setNew h1 h2 a4).setNew h1 h2 a5
/-- behind the making: the expression lies in block k -/
def Sd (w : World) (pb g c : Nat) (L : List Tok) (b q oo m : Nat) (y : PE) (u : Value) (wx : World) : Prop :=
  ∃ k v1 v2 v3, u = .pointer (some ⟨k, 0, none⟩) ∧ PS wx pb g c L q oo b m ∧ Gr w wx pb ∧ wx.heap[w.heap.size]? = some z98 ∧ wx.heap[k]? = some (pc (rx y (.slice v1 v2 v3))) ∧ w.heap.size < k ∧ ESlP wx (fun j => w.heap.size < j) (.slice v1 v2 v3) y.args ∧ y.deep ≤ 48 ∧ m ≤ 600
theorem Sd.new {w V : World} {pb g c : Nat} {L : List Tok} {b q oo m : Nat} {y : PE} {v1 : Option Addr} {v2 v3 : Nat} (hp : PS V pb g c L q oo b m) (hg : Gr w V pb) (hz : V.heap[w.heap.size]? = some z98) (he : ESlP V (fun j => w.heap.size < j) (.slice v1 v2 v3) y.args) (hd : y.deep ≤ 48) (hm : m ≤ 600) :
    Sd w pb g c L b q oo m y (.pointer (some ⟨V.heap.size, 0, none⟩)) (V.alloc (.cells #[.int .i64 y.kind, .int .i64 y.num, .string y.name, .int .i64 y.op, .slice v1 v2 v3, .int .i64 (y.deep : Int)] 98)) := by
  have BL := (Below.refl V.heap.size V).alloc (Nat.le_refl _) (.cells #[.int .i64 y.kind, .int .i64 y.num, .string y.name, .int .i64 y.op, .slice v1 v2 v3, .int .i64 (y.deep : Int)] 98)
  have hl : w.heap.size < V.heap.size := (Array.getElem?_eq_some_iff.1 hz).1
  exact ⟨V.heap.size, v1, v2, v3, rfl, hp.below BL, hg.alloc _, (BL.block _ hl).trans hz, heap_alloc_new _ _, hl, he.below BL, hd, hm⟩
theorem Sd.mk {w V : World} {pb g c : Nat} {L : List Tok} {b q oo m k : Nat} {y : PE} {v1 : Option Addr} {v2 v3 : Nat} (hp : PS V pb g c L q oo b m) (hg : Gr w V pb) (hz : V.heap[w.heap.size]? = some z98) (hk : V.heap[k]? = some z98) (hk0 : w.heap.size < k) (hpb : pb < w.heap.size) (hgl : g < w.heap.size) (he : ESlP V (fun j => w.heap.size < j ∧ j ≠ k) (.slice v1 v2 v3) y.args) (hd : y.deep ≤ 48) (hm : m ≤ 600) :
    Sd w pb g c L b q oo m y (.pointer (some ⟨k, 0, none⟩)) (set6 V k (.int .i64 y.kind) (.int .i64 y.num) (.string y.name) (.int .i64 y.op) (.slice v1 v2 v3) (.int .i64 (y.deep : Int))) := by
  refine ⟨k, v1, v2, v3, rfl, hp.set6 (by omega) (by omega) _ _ _ _ _ _, set6_gr hg (by omega), (set6_blk (by omega)).trans hz, ?_, hk0, (he.keep fun j hj _ => set6_blk hj.2).mono fun j hj => hj.1, hd, hm⟩
  unfold z98 at hk
  exact put6 hk

set_option maxRecDepth 100000 in
set_option maxHeartbeats 16000000 in
theorem signed_any {pb g c : Nat} {L : List Tok} {b : Nat} {on : Nat → Nat → Nat → PR} (hE : TEnd L) (hx : OnOk pb g c L b on) (op : Int) (p o n : Nat) (w : World) (h : PS w pb g c L p o b n) (hs : SG w pb) (hn : n ≤ 600) (ho : o ≤ 48) (hp1 : p + 1 < L.length) (hfd : Fed (signedP L on op p o n)) :
    Calls Tryd.prog 104 #[.pointer (some ⟨pb, 0, none⟩), .int .i64 op] w (EPost w w.heap.size pb g c L o b (signedP L on op p o n)) := by
  have HS0 : Hid (PS (w.alloc z98) pb g c L p o b n) := h.below ((Below.refl _ _).alloc (Nat.le_refl _) _)
  have HG0 : Hid (Gr w (w.alloc z98) pb) := (Gr.refl w pb).alloc _
  have HB0 : Hid ((w.alloc z98).heap[w.heap.size]? = some z98) := heap_alloc_new _ _
  have HPL : Hid (pb < w.heap.size ∧ g < w.heap.size) := ⟨h.lt, h.gl⟩
  have HSG : Hid (SG w pb) := hs
  have HFD : Hid (Fed (signedP L on op p o n)) := hfd
  have HON : Hid (OnOk pb g c L b on) := hx
  obtain ⟨P, hP⟩ : ∃ P, EPost w w.heap.size pb g c L o b (signedP L on op p o n) = P := ⟨_, rfl⟩
  have HP : Hid (EPost w w.heap.size pb g c L o b (signedP L on op p o n) = P) := hP
  rw [hP]
  obtain ⟨t, ht⟩ : ∃ t, tk L p = t := ⟨_, rfl⟩
  have HLK : Hid (∀ W, PS W pb g c L p o b n → Calls Tryd.prog 46 #[.pointer (some ⟨pb, 0, none⟩)] W fun e w' => e = .returned (tv t) ∧ Below W.heap.size W w') := fun W hW => by have := look_tk hW; rwa [ht] at this
  have HOD : Hid (∀ W, 48 < o + 1 → PS W pb g c L p o b n → Calls Tryd.prog 92 #[.pointer (some ⟨pb, 0, none⟩), .string ⟨t.text.toArray⟩] W fun e w' => e = gaveUpT (t.pos : Int) 41 ∧ Gr W w' pb) := fun W h48 hW => by have := opens_tkD ⟨t.text.toArray⟩ hW (by rw [ht]) hp1 h48 ho; rwa [ht] at this
  have HOK : Hid (∀ W, ¬ 48 < o + 1 → PS W pb g c L p o b n → Calls Tryd.prog 92 #[.pointer (some ⟨pb, 0, none⟩), .string ⟨t.text.toArray⟩] W fun e w' => e = .returned (tv t) ∧ PS w' pb g c L (p + 1) (o + 1) b n ∧ Gr W w' pb) := fun W h48 hW => by have := opens_tk ⟨t.text.toArray⟩ hW (by rw [ht]) hp1 (by omega); rwa [ht] at this
  unfold signedP at HP HFD
  rw [ht] at HP HFD
  unfold z98 at HS0 HG0 HB0
  unfold tv at HLK HOK
  have k1 := fld1
  clear h hs hP ht hfd hx hp1
  go_enter Tryd.func104, Tryd.ntmps104
  go_wp2_with fail
  refine (HLK.out _ HS0.out).mono ?_
  rintro e w1 ⟨rfl, hb⟩
  have HS1 : Hid (PS w1 pb g c L p o b n) := HS0.out.below hb
  have HG1 : Hid (Gr w w1 pb) := HG0.out.trans (Gr.below hb)
  have HB1 : Hid (w1.heap[w.heap.size]? = some z98) := (hb.block _ (by simp)).trans HB0.out
  have HL1 : Hid (w.heap.size < w1.heap.size) := by show _ < _; have := hb.size; simp at this; omega
  clear hb
  go_wp2_with fail
  by_cases e2 : 48 < o + 1
  · rw [if_pos e2] at HP
    refine (HOD.out _ e2 HS1.out).mono ?_
    rintro e w2 ⟨rfl, hg⟩
    refine ⟨rfl, ?_⟩
    rw [← HP.out]
    exact ⟨rfl, HG1.out.trans hg⟩
  rw [if_neg e2] at HP HFD
  refine (HOK.out _ e2 HS1.out).mono ?_
  rintro e w2 ⟨rfl, hp, hg⟩
  have BL2 := (Below.refl w2.heap.size w2).alloc (Nat.le_refl _) (tc4 t)
  have HB2 : Hid ((w2.alloc (tc4 t)).heap[w.heap.size]? = some z98) := (BL2.block _ (by have := hg.size; have := HL1.out; omega)).trans ((hg.blk HL1.out HPL.out.1).trans HB1.out)
  have T2 : (w2.alloc (tc4 t)).heap[w2.heap.size]? = some (tc4 t) := heap_alloc_new _ _
  have HT2 : Hid ((w2.alloc (tc4 t)).heap[w2.heap.size]? = some (tc4 t)) := T2
  have HP2 : Hid (PS (w2.alloc (tc4 t)) pb g c L (p + 1) (o + 1) b n) := hp.below BL2
  have HG2 : Hid (Gr w (w2.alloc (tc4 t)) pb) := (HG1.out.trans hg).alloc _
  have HL2 : Hid (w.heap.size < w2.heap.size ∧ pb < w2.heap.size) := by have := hg.size; have := HL1.out; have := HPL.out; exact ⟨by omega, by omega⟩
  have HSZ2 : Hid ((w2.alloc (tc4 t)).heap.size = w2.heap.size + 1) := by show _ = _; simp
  clear hp hg BL2 HLK HOD HOK k1
  go_upto_region 2 with fail
  change Code.wp _ _ _ _ (w2.alloc (tc4 t))
  have HSG2 : Hid (Sg w pb g c L b t w2.heap.size (p + 1) (o + 1) n (w2.alloc (tc4 t))) := ⟨HP2.out, HG2.out, HB2.out, HT2.out, HPL.out.1, HPL.out.2, HL2.out.1⟩
  generalize w2.alloc (tc4 t) = W at HSG2 T2 ⊢
  have HRES : Hid (∃ r, on (p + 1) (o + 1) n = r) := ⟨_, rfl⟩
  obtain ⟨r, er⟩ := HRES.out
  have HC : Hid (∀ V, Sg w pb g c L b t w2.heap.size (p + 1) (o + 1) n V → Calls Tryd.prog 100 #[.pointer (some ⟨pb, 0, none⟩)] V (EPost V V.heap.size pb g c L (o + 1) b r)) := fun V hV => by
    have hfe : Fed (on (p + 1) (o + 1) n) := by
      rw [er] at HFD ⊢
      rcases r with e | ⟨x, q, m⟩
      · exact HFD.out
      · exact fed_ok
    have := HON.out (p + 1) (o + 1) n V hV.ps (HSG.out.gr hV.gr) hn (by omega) hfe
    rwa [er] at this
  rw [er] at HP
  clear er HRES HON HFD HS0 HG0 HB0 HS1 HG1 HB1 HL1 HB2 HT2 HP2 HG2 HSZ2 HL2
  generalize w2.heap.size = n1 at *
  obtain ⟨n0, hn0⟩ : ∃ n0, w.heap.size = n0 := ⟨_, rfl⟩
  obtain ⟨t0, t1, t2, t3⟩ := tc4_c T2
  have TA := fun A : Obj => tc4_c (keepA T2 A)
  have TA0 := fun A => (TA A).1
  have TA1 := fun A => (TA A).2.1
  have TA2 := fun A => (TA A).2.2.1
  have TA3 := fun A => (TA A).2.2.2
  have HD0 : Hid (Sg w pb g c L b t n1 (p + 1) (o + 1) n W.drew) := HSG2.out.drew
  have HD1 : Hid (Sg w pb g c L b t n1 (p + 1) (o + 1) n (W.drew.alloc z98)) := HSG2.out.drew.alloc _
  have HK1 : Hid ((W.drew.alloc z98).heap[W.heap.size]? = some z98 ∧ w.heap.size < W.heap.size) := ⟨heap_alloc_new _ _, HSG2.out.lt⟩
  clear TA T2 HSG2
  rw [hn0]
  rcases r with ⟨k, ek⟩ | ⟨x, q, m⟩
  · have HPE : Hid (∀ w', Gr w w' pb → P (gaveUpT (k : Int) ek) w') := fun w' hw => by rw [← HP.out]; exact ⟨rfl, hw⟩
    have HX0 := HC.out _ HD0.out
    have HX1 := HC.out _ HD1.out
    have HG0 : Hid (Gr w W.drew pb) := HD0.out.gr
    have HG1 : Hid (Gr w (W.drew.alloc z98) pb) := HD1.out.gr
    unfold z98 at HX1 HG1
    clear HC HD0 HD1 HK1
    go_region_dies
    all_goals
      first
        | (refine HX0.mono ?_
           rintro e w3 ⟨rfl, hg⟩
           exact ⟨rfl, HPE.out _ (HG0.out.trans hg)⟩)
        | (refine HX1.mono ?_
           rintro e w3 ⟨rfl, hg⟩
           exact ⟨rfl, HPE.out _ (HG1.out.trans hg)⟩)
  have HA : Hid (∀ V, Sg w pb g c L b t n1 (p + 1) (o + 1) n V → Calls Tryd.prog 100 #[.pointer (some ⟨pb, 0, none⟩)] V fun e w' => ∃ u1 u2 u3, e = .returned (.agg #[.int .i64 x.kind, .int .i64 x.num, .string x.name, .int .i64 x.op, .slice u1 u2 u3, .int .i64 (x.deep : Int)]) ∧ (Sg w pb g c L b t n1 q (o + 1) m w' ∧ ESlP w' (fun j => V.heap.size ≤ j) (.slice u1 u2 u3) x.args ∧ x.deep ≤ 48 ∧ m ≤ 600) ∧ Gr V w' pb) := fun V hV => (HC.out V hV).mono fun e w' ⟨v, he, hes, hp, hg, hd, hm⟩ => by
    obtain ⟨u1, u2, u3, rfl⟩ := hes.sl
    exact ⟨u1, u2, u3, he, ⟨hV.call hg hp, hes, hd, hm⟩, hg⟩
  have HM : Hid (∀ V k u1 u2 u3 (ok : Nat → Prop), Sg w pb g c L b t n1 q (o + 1) m V → m ≤ 600 → x.deep ≤ 48 → ESlP V ok (.slice u1 u2 u3) x.args → (∀ k, V.heap.size ≤ k → ok k) → (∀ k, ok k → pb < k) → V.heap[k]? = some (.cells #[.int .i64 x.kind, .int .i64 x.num, .string x.name, .int .i64 x.op, .slice u1 u2 u3, .int .i64 (x.deep : Int)] 98) → Calls Tryd.prog 101 #[.pointer (some ⟨pb, 0, none⟩), .agg #[.int .i64 t.kind, .string ⟨t.text.toArray⟩, .int .i64 t.num, .int .i64 (t.pos : Int)], .agg #[.int .i64 4, .int .i64 0, .string ⟨#[]⟩, .int .i64 op, .slice none 0 0], .slice (some ⟨k, 0, none⟩) 1 1] V (EPostP V ok pb g c L (o + 1) b (mk' q (mkE t 4 0 ⟨#[]⟩ op [x] m)))) := fun V k u1 u2 u3 ok hS hm hd he h1 h2 hk => makeE_P ok pb g c L q (o + 1) b m t 4 0 ⟨#[]⟩ op [(x, .slice u1 u2 u3)] _ V hS.ps hm (pa_block hk ⟨_, _, _, rfl⟩ hd) (fun y hy => by simp at hy; subst hy; exact he) h1 h2
  dsimp only at HP
  obtain ⟨RR, hRR⟩ : ∃ RR, mk' q (mkE t 4 0 ⟨#[]⟩ op [x] m) = RR := ⟨_, rfl⟩
  rw [hRR] at HP
  rw [hRR] at HM
  clear hRR HC
  rcases RR with ⟨k, ek⟩ | ⟨y, q', m'⟩
  · have HPE : Hid (∀ w', Gr w w' pb → P (gaveUpT (k : Int) ek) w') := fun w' hw => by rw [← HP.out]; exact ⟨rfl, hw⟩
    unfold z98 at HD1 HK1
    go_region_dies
    · rename_i hK
      refine (HA.out _ HD0.out).mono ?_
      rintro e w3 ⟨u1, u2, u3, rfl, ⟨hs3, he3, hd3, hm3⟩, hg3⟩
      refine hK _ _ ?_
      clear hK
      have HSv : Hid (Sg w pb g c L b t n1 q (o + 1) m w3) := hs3
      have HXv : Hid (ESlP w3 (fun j => w.heap.size < j) (.slice u1 u2 u3) x.args) := he3.mono fun j hj => by have h1 : W.heap.size ≤ j := hj; have := HK1.out.2; omega
      have HDv : Hid (x.deep ≤ 48 ∧ m ≤ 600) := ⟨hd3, hm3⟩
      clear hs3 he3 hd3 hm3 hg3
      obtain ⟨tb0, tb1, tb2, tb3⟩ := tc4_c HSv.out.tt
      refine wpAny_ready (rs := [6, 8]) (by kernel_rfl) (by simp) ?_
      refine AllReady.cons rfl (fun K hK => ?_) (AllReady.cons rfl (fun K hK => ?_) (AllReady.nil))
      · go_simp
        refine hK _ _ ?_
        clear hK K
        replace HSv : Hid (Sg w pb g c L b t n1 q (o + 1) m (w3.alloc (.cells #[.int .i64 x.kind, .int .i64 x.num, .string x.name, .int .i64 x.op, .slice u1 u2 u3, .int .i64 (x.deep : Int)] 98))) := HSv.out.alloc _
        replace HXv : Hid (ESlP (w3.alloc (.cells #[.int .i64 x.kind, .int .i64 x.num, .string x.name, .int .i64 x.op, .slice u1 u2 u3, .int .i64 (x.deep : Int)] 98)) (fun j => w.heap.size < j) (.slice u1 u2 u3) x.args) := HXv.out.keep fun j _ hj => heap_alloc_old _ _ hj
        have HCv : Hid ((w3.alloc (.cells #[.int .i64 x.kind, .int .i64 x.num, .string x.name, .int .i64 x.op, .slice u1 u2 u3, .int .i64 (x.deep : Int)] 98)).heap[w3.heap.size]? = some (.cells #[.int .i64 x.kind, .int .i64 x.num, .string x.name, .int .i64 x.op, .slice u1 u2 u3, .int .i64 (x.deep : Int)] 98)) := heap_alloc_new _ _
        refine wpAny_ready (rs := [7, 8]) (by kernel_rfl) (by simp) ?_
        refine AllReady.cons rfl (fun K hK => ?_) (AllReady.cons rfl (fun K hK => ?_) (AllReady.nil))
        · go_simp
          refine (HM.out (w3.alloc (.cells #[.int .i64 x.kind, .int .i64 x.num, .string x.name, .int .i64 x.op, .slice u1 u2 u3, .int .i64 (x.deep : Int)] 98)) _ _ _ _ (fun j => w.heap.size < j) HSv.out HDv.out.2 HDv.out.1 (HXv.out.mono fun j hj => hj) (fun k hk => by have := HSv.out.lt; omega) (fun k hk => by have := HPL.out; omega) HCv.out).mono ?_
          rintro e w8 ⟨rfl, hg⟩
          exact ⟨rfl, HPE.out _ (HSv.out.gr.trans hg)⟩
        · have HSv0 := HSv
          go_simp
          refine hK _ _ ?_
          clear hK K
          replace HSv : Hid (Sg w pb g c L b t n1 q (o + 1) m ((w3.alloc (.cells #[.int .i64 x.kind, .int .i64 x.num, .string x.name, .int .i64 x.op, .slice u1 u2 u3, .int .i64 (x.deep : Int)] 98)).alloc (.cells #[.int .i64 0, .int .i64 0, .string ⟨#[]⟩, .int .i64 0, .slice none 0 0, .int .i64 0] 98))) := HSv.out.alloc _
          replace HXv : Hid (ESlP ((w3.alloc (.cells #[.int .i64 x.kind, .int .i64 x.num, .string x.name, .int .i64 x.op, .slice u1 u2 u3, .int .i64 (x.deep : Int)] 98)).alloc (.cells #[.int .i64 0, .int .i64 0, .string ⟨#[]⟩, .int .i64 0, .slice none 0 0, .int .i64 0] 98)) (fun j => w.heap.size < j ∧ j ≠ w3.heap.size + 1) (.slice u1 u2 u3) x.args) := (HXv.out.mono' fun j hj hj2 => ⟨hj, by (try simp at hj2); omega⟩).keep fun j _ hj => heap_alloc_old _ _ hj
          replace HCv : Hid (((w3.alloc (.cells #[.int .i64 x.kind, .int .i64 x.num, .string x.name, .int .i64 x.op, .slice u1 u2 u3, .int .i64 (x.deep : Int)] 98)).alloc (.cells #[.int .i64 0, .int .i64 0, .string ⟨#[]⟩, .int .i64 0, .slice none 0 0, .int .i64 0] 98)).heap[w3.heap.size]? = some (.cells #[.int .i64 x.kind, .int .i64 x.num, .string x.name, .int .i64 x.op, .slice u1 u2 u3, .int .i64 (x.deep : Int)] 98)) := keepA HCv.out _
          have HEv : Hid (((w3.alloc (.cells #[.int .i64 x.kind, .int .i64 x.num, .string x.name, .int .i64 x.op, .slice u1 u2 u3, .int .i64 (x.deep : Int)] 98)).alloc (.cells #[.int .i64 0, .int .i64 0, .string ⟨#[]⟩, .int .i64 0, .slice none 0 0, .int .i64 0] 98)).heap[w3.heap.size + 1]? = some (.cells #[.int .i64 0, .int .i64 0, .string ⟨#[]⟩, .int .i64 0, .slice none 0 0, .int .i64 0] 98) ∧ w.heap.size < w3.heap.size + 1) := ⟨(by have h := heap_alloc_new (w3.alloc (.cells #[.int .i64 x.kind, .int .i64 x.num, .string x.name, .int .i64 x.op, .slice u1 u2 u3, .int .i64 (x.deep : Int)] 98)) (.cells #[.int .i64 0, .int .i64 0, .string ⟨#[]⟩, .int .i64 0, .slice none 0 0, .int .i64 0] 98); rw [show (w3.alloc (.cells #[.int .i64 x.kind, .int .i64 x.num, .string x.name, .int .i64 x.op, .slice u1 u2 u3, .int .i64 (x.deep : Int)] 98)).heap.size = w3.heap.size + 1 from by simp] at h; exact h), by have := HSv0.out.lt; (try simp at this); omega⟩
          refine wpAny_ready (rs := [7]) (by kernel_rfl) (by simp) ?_
          refine AllReady.cons rfl (fun K hK => ?_) AllReady.nil
          go_simp
          refine (HM.out ((w3.alloc (.cells #[.int .i64 x.kind, .int .i64 x.num, .string x.name, .int .i64 x.op, .slice u1 u2 u3, .int .i64 (x.deep : Int)] 98)).alloc (.cells #[.int .i64 0, .int .i64 0, .string ⟨#[]⟩, .int .i64 0, .slice none 0 0, .int .i64 0] 98)) _ _ _ _ (fun j => w.heap.size < j ∧ j ≠ w3.heap.size + 1) HSv.out HDv.out.2 HDv.out.1 (HXv.out.mono fun j hj => hj) (fun k hk => ⟨by have := HSv.out.lt; omega, by have := (Array.getElem?_eq_some_iff.1 HEv.out.1).1; omega⟩) (fun k hk => by have := HPL.out; omega) HCv.out).mono ?_
          rintro e w8 ⟨rfl, hg⟩
          exact ⟨rfl, HPE.out _ (HSv.out.gr.trans hg)⟩
      · have HSv0 := HSv
        go_simp
        refine hK _ _ ?_
        clear hK K
        replace HSv : Hid (Sg w pb g c L b t n1 q (o + 1) m (w3.alloc (.cells #[.int .i64 0, .int .i64 0, .string ⟨#[]⟩, .int .i64 0, .slice none 0 0, .int .i64 0] 98))) := HSv.out.alloc _
        replace HXv : Hid (ESlP (w3.alloc (.cells #[.int .i64 0, .int .i64 0, .string ⟨#[]⟩, .int .i64 0, .slice none 0 0, .int .i64 0] 98)) (fun j => w.heap.size < j ∧ j ≠ w3.heap.size) (.slice u1 u2 u3) x.args) := (HXv.out.mono' fun j hj hj2 => ⟨hj, by (try simp at hj2); omega⟩).keep fun j _ hj => heap_alloc_old _ _ hj
        have HEv : Hid ((w3.alloc (.cells #[.int .i64 0, .int .i64 0, .string ⟨#[]⟩, .int .i64 0, .slice none 0 0, .int .i64 0] 98)).heap[w3.heap.size]? = some (.cells #[.int .i64 0, .int .i64 0, .string ⟨#[]⟩, .int .i64 0, .slice none 0 0, .int .i64 0] 98) ∧ w.heap.size < w3.heap.size) := ⟨heap_alloc_new _ _, by have := HSv0.out.lt; (try simp at this); omega⟩
        refine wpAny_ready (rs := [6]) (by kernel_rfl) (by simp) ?_
        refine AllReady.cons rfl (fun K hK => ?_) AllReady.nil
        go_simp
        refine hK _ _ ?_
        clear hK K
        replace HSv : Hid (Sg w pb g c L b t n1 q (o + 1) m ((w3.alloc (.cells #[.int .i64 0, .int .i64 0, .string ⟨#[]⟩, .int .i64 0, .slice none 0 0, .int .i64 0] 98)).alloc (.cells #[.int .i64 x.kind, .int .i64 x.num, .string x.name, .int .i64 x.op, .slice u1 u2 u3, .int .i64 (x.deep : Int)] 98))) := HSv.out.alloc _
        replace HXv : Hid (ESlP ((w3.alloc (.cells #[.int .i64 0, .int .i64 0, .string ⟨#[]⟩, .int .i64 0, .slice none 0 0, .int .i64 0] 98)).alloc (.cells #[.int .i64 x.kind, .int .i64 x.num, .string x.name, .int .i64 x.op, .slice u1 u2 u3, .int .i64 (x.deep : Int)] 98)) (fun j => w.heap.size < j ∧ j ≠ w3.heap.size) (.slice u1 u2 u3) x.args) := HXv.out.keep fun j _ hj => heap_alloc_old _ _ hj
        have HCv : Hid (((w3.alloc (.cells #[.int .i64 0, .int .i64 0, .string ⟨#[]⟩, .int .i64 0, .slice none 0 0, .int .i64 0] 98)).alloc (.cells #[.int .i64 x.kind, .int .i64 x.num, .string x.name, .int .i64 x.op, .slice u1 u2 u3, .int .i64 (x.deep : Int)] 98)).heap[w3.heap.size + 1]? = some (.cells #[.int .i64 x.kind, .int .i64 x.num, .string x.name, .int .i64 x.op, .slice u1 u2 u3, .int .i64 (x.deep : Int)] 98)) := (by have h := heap_alloc_new (w3.alloc (.cells #[.int .i64 0, .int .i64 0, .string ⟨#[]⟩, .int .i64 0, .slice none 0 0, .int .i64 0] 98)) (.cells #[.int .i64 x.kind, .int .i64 x.num, .string x.name, .int .i64 x.op, .slice u1 u2 u3, .int .i64 (x.deep : Int)] 98); rw [show (w3.alloc (.cells #[.int .i64 0, .int .i64 0, .string ⟨#[]⟩, .int .i64 0, .slice none 0 0, .int .i64 0] 98)).heap.size = w3.heap.size + 1 from by simp] at h; exact h)
        replace HEv : Hid (((w3.alloc (.cells #[.int .i64 0, .int .i64 0, .string ⟨#[]⟩, .int .i64 0, .slice none 0 0, .int .i64 0] 98)).alloc (.cells #[.int .i64 x.kind, .int .i64 x.num, .string x.name, .int .i64 x.op, .slice u1 u2 u3, .int .i64 (x.deep : Int)] 98)).heap[w3.heap.size]? = some (.cells #[.int .i64 0, .int .i64 0, .string ⟨#[]⟩, .int .i64 0, .slice none 0 0, .int .i64 0] 98) ∧ w.heap.size < w3.heap.size) := ⟨keepA HEv.out.1 _, HEv.out.2⟩
        refine wpAny_ready (rs := [7]) (by kernel_rfl) (by simp) ?_
        refine AllReady.cons rfl (fun K hK => ?_) AllReady.nil
        go_simp
        refine (HM.out ((w3.alloc (.cells #[.int .i64 0, .int .i64 0, .string ⟨#[]⟩, .int .i64 0, .slice none 0 0, .int .i64 0] 98)).alloc (.cells #[.int .i64 x.kind, .int .i64 x.num, .string x.name, .int .i64 x.op, .slice u1 u2 u3, .int .i64 (x.deep : Int)] 98)) _ _ _ _ (fun j => w.heap.size < j ∧ j ≠ w3.heap.size) HSv.out HDv.out.2 HDv.out.1 (HXv.out.mono fun j hj => hj) (fun k hk => ⟨by have := HSv.out.lt; omega, by have := (Array.getElem?_eq_some_iff.1 HEv.out.1).1; omega⟩) (fun k hk => by have := HPL.out; omega) HCv.out).mono ?_
        rintro e w8 ⟨rfl, hg⟩
        exact ⟨rfl, HPE.out _ (HSv.out.gr.trans hg)⟩
    · rename_i hK
      refine (HA.out _ HD1.out).mono ?_
      rintro e w3 ⟨u1, u2, u3, rfl, ⟨hs3, he3, hd3, hm3⟩, hg3⟩
      refine hK _ _ ?_
      clear hK
      have HSv : Hid (Sg w pb g c L b t n1 q (o + 1) m w3) := hs3
      have HXv : Hid (ESlP w3 (fun j => w.heap.size < j ∧ j ≠ W.heap.size) (.slice u1 u2 u3) x.args) := he3.mono fun j hj => by have h1 : (W.drew.alloc (.cells #[.int .i64 0, .int .i64 0, .string ⟨#[]⟩, .int .i64 0, .slice none 0 0, .int .i64 0] 98)).heap.size ≤ j := hj; have h2 : (W.drew.alloc (.cells #[.int .i64 0, .int .i64 0, .string ⟨#[]⟩, .int .i64 0, .slice none 0 0, .int .i64 0] 98)).heap.size = W.heap.size + 1 := (by show (Array.push _ _).size = _; simp); have := HK1.out.2; exact ⟨by omega, by omega⟩
      have HDv : Hid (x.deep ≤ 48 ∧ m ≤ 600) := ⟨hd3, hm3⟩
      have HEv : Hid (w3.heap[W.heap.size]? = some (.cells #[.int .i64 0, .int .i64 0, .string ⟨#[]⟩, .int .i64 0, .slice none 0 0, .int .i64 0] 98) ∧ w.heap.size < W.heap.size) := ⟨keepG HK1.out.1 hg3 (by have := HK1.out.2; have := HPL.out; omega), HK1.out.2⟩
      clear hs3 he3 hd3 hm3 hg3
      obtain ⟨tb0, tb1, tb2, tb3⟩ := tc4_c HSv.out.tt
      refine wpAny_ready (rs := [6]) (by kernel_rfl) (by simp) ?_
      refine AllReady.cons rfl (fun K hK => ?_) AllReady.nil
      go_simp
      refine hK _ _ ?_
      clear hK K
      replace HSv : Hid (Sg w pb g c L b t n1 q (o + 1) m (w3.alloc (.cells #[.int .i64 x.kind, .int .i64 x.num, .string x.name, .int .i64 x.op, .slice u1 u2 u3, .int .i64 (x.deep : Int)] 98))) := HSv.out.alloc _
      replace HXv : Hid (ESlP (w3.alloc (.cells #[.int .i64 x.kind, .int .i64 x.num, .string x.name, .int .i64 x.op, .slice u1 u2 u3, .int .i64 (x.deep : Int)] 98)) (fun j => w.heap.size < j ∧ j ≠ W.heap.size) (.slice u1 u2 u3) x.args) := HXv.out.keep fun j _ hj => heap_alloc_old _ _ hj
      have HCv : Hid ((w3.alloc (.cells #[.int .i64 x.kind, .int .i64 x.num, .string x.name, .int .i64 x.op, .slice u1 u2 u3, .int .i64 (x.deep : Int)] 98)).heap[w3.heap.size]? = some (.cells #[.int .i64 x.kind, .int .i64 x.num, .string x.name, .int .i64 x.op, .slice u1 u2 u3, .int .i64 (x.deep : Int)] 98)) := heap_alloc_new _ _
      replace HEv : Hid ((w3.alloc (.cells #[.int .i64 x.kind, .int .i64 x.num, .string x.name, .int .i64 x.op, .slice u1 u2 u3, .int .i64 (x.deep : Int)] 98)).heap[W.heap.size]? = some (.cells #[.int .i64 0, .int .i64 0, .string ⟨#[]⟩, .int .i64 0, .slice none 0 0, .int .i64 0] 98) ∧ w.heap.size < W.heap.size) := ⟨keepA HEv.out.1 _, HEv.out.2⟩
      refine wpAny_ready (rs := [7]) (by kernel_rfl) (by simp) ?_
      refine AllReady.cons rfl (fun K hK => ?_) AllReady.nil
      go_simp
      refine (HM.out (w3.alloc (.cells #[.int .i64 x.kind, .int .i64 x.num, .string x.name, .int .i64 x.op, .slice u1 u2 u3, .int .i64 (x.deep : Int)] 98)) _ _ _ _ (fun j => w.heap.size < j ∧ j ≠ W.heap.size) HSv.out HDv.out.2 HDv.out.1 (HXv.out.mono fun j hj => hj) (fun k hk => ⟨by have := HSv.out.lt; omega, by have := (Array.getElem?_eq_some_iff.1 HEv.out.1).1; omega⟩) (fun k hk => by have := HPL.out; omega) HCv.out).mono ?_
      rintro e w8 ⟨rfl, hg⟩
      exact ⟨rfl, HPE.out _ (HSv.out.gr.trans hg)⟩
    · rename_i hK
      refine (HA.out _ HD0.out).mono ?_
      rintro e w3 ⟨u1, u2, u3, rfl, ⟨hs3, he3, hd3, hm3⟩, hg3⟩
      refine hK _ _ ?_
      clear hK
      have HSv : Hid (Sg w pb g c L b t n1 q (o + 1) m w3) := hs3
      have HXv : Hid (ESlP w3 (fun j => w.heap.size < j) (.slice u1 u2 u3) x.args) := he3.mono fun j hj => by have h1 : W.heap.size ≤ j := hj; have := HK1.out.2; omega
      have HDv : Hid (x.deep ≤ 48 ∧ m ≤ 600) := ⟨hd3, hm3⟩
      clear hs3 he3 hd3 hm3 hg3
      obtain ⟨tb0, tb1, tb2, tb3⟩ := tc4_c HSv.out.tt
      refine wpAny_ready (rs := [1, 6, 8]) (by kernel_rfl) (by simp) ?_
      refine AllReady.cons rfl (fun K hK => ?_) (AllReady.cons rfl (fun K hK => ?_) (AllReady.cons rfl (fun K hK => ?_) (AllReady.nil)))
      · go_simp
        refine hK _ _ ?_
        clear hK K
        refine wpAny_ready (rs := [6, 8]) (by kernel_rfl) (by simp) ?_
        refine AllReady.cons rfl (fun K hK => ?_) (AllReady.cons rfl (fun K hK => ?_) (AllReady.nil))
        · go_simp
          refine hK _ _ ?_
          clear hK K
          replace HSv : Hid (Sg w pb g c L b t n1 q (o + 1) m (w3.alloc (.cells #[.int .i64 x.kind, .int .i64 x.num, .string x.name, .int .i64 x.op, .slice u1 u2 u3, .int .i64 (x.deep : Int)] 98))) := HSv.out.alloc _
          replace HXv : Hid (ESlP (w3.alloc (.cells #[.int .i64 x.kind, .int .i64 x.num, .string x.name, .int .i64 x.op, .slice u1 u2 u3, .int .i64 (x.deep : Int)] 98)) (fun j => w.heap.size < j) (.slice u1 u2 u3) x.args) := HXv.out.keep fun j _ hj => heap_alloc_old _ _ hj
          have HCv : Hid ((w3.alloc (.cells #[.int .i64 x.kind, .int .i64 x.num, .string x.name, .int .i64 x.op, .slice u1 u2 u3, .int .i64 (x.deep : Int)] 98)).heap[w3.heap.size]? = some (.cells #[.int .i64 x.kind, .int .i64 x.num, .string x.name, .int .i64 x.op, .slice u1 u2 u3, .int .i64 (x.deep : Int)] 98)) := heap_alloc_new _ _
          refine wpAny_ready (rs := [7, 8]) (by kernel_rfl) (by simp) ?_
          refine AllReady.cons rfl (fun K hK => ?_) (AllReady.cons rfl (fun K hK => ?_) (AllReady.nil))
          · go_simp
            refine (HM.out (w3.alloc (.cells #[.int .i64 x.kind, .int .i64 x.num, .string x.name, .int .i64 x.op, .slice u1 u2 u3, .int .i64 (x.deep : Int)] 98)) _ _ _ _ (fun j => w.heap.size < j) HSv.out HDv.out.2 HDv.out.1 (HXv.out.mono fun j hj => hj) (fun k hk => by have := HSv.out.lt; omega) (fun k hk => by have := HPL.out; omega) HCv.out).mono ?_
            rintro e w8 ⟨rfl, hg⟩
            exact ⟨rfl, HPE.out _ (HSv.out.gr.trans hg)⟩
          · have HSv0 := HSv
            go_simp
            refine hK _ _ ?_
            clear hK K
            replace HSv : Hid (Sg w pb g c L b t n1 q (o + 1) m ((w3.alloc (.cells #[.int .i64 x.kind, .int .i64 x.num, .string x.name, .int .i64 x.op, .slice u1 u2 u3, .int .i64 (x.deep : Int)] 98)).alloc (.cells #[.int .i64 0, .int .i64 0, .string ⟨#[]⟩, .int .i64 0, .slice none 0 0, .int .i64 0] 98))) := HSv.out.alloc _
            replace HXv : Hid (ESlP ((w3.alloc (.cells #[.int .i64 x.kind, .int .i64 x.num, .string x.name, .int .i64 x.op, .slice u1 u2 u3, .int .i64 (x.deep : Int)] 98)).alloc (.cells #[.int .i64 0, .int .i64 0, .string ⟨#[]⟩, .int .i64 0, .slice none 0 0, .int .i64 0] 98)) (fun j => w.heap.size < j ∧ j ≠ w3.heap.size + 1) (.slice u1 u2 u3) x.args) := (HXv.out.mono' fun j hj hj2 => ⟨hj, by (try simp at hj2); omega⟩).keep fun j _ hj => heap_alloc_old _ _ hj
            replace HCv : Hid (((w3.alloc (.cells #[.int .i64 x.kind, .int .i64 x.num, .string x.name, .int .i64 x.op, .slice u1 u2 u3, .int .i64 (x.deep : Int)] 98)).alloc (.cells #[.int .i64 0, .int .i64 0, .string ⟨#[]⟩, .int .i64 0, .slice none 0 0, .int .i64 0] 98)).heap[w3.heap.size]? = some (.cells #[.int .i64 x.kind, .int .i64 x.num, .string x.name, .int .i64 x.op, .slice u1 u2 u3, .int .i64 (x.deep : Int)] 98)) := keepA HCv.out _
            have HEv : Hid (((w3.alloc (.cells #[.int .i64 x.kind, .int .i64 x.num, .string x.name, .int .i64 x.op, .slice u1 u2 u3, .int .i64 (x.deep : Int)] 98)).alloc (.cells #[.int .i64 0, .int .i64 0, .string ⟨#[]⟩, .int .i64 0, .slice none 0 0, .int .i64 0] 98)).heap[w3.heap.size + 1]? = some (.cells #[.int .i64 0, .int .i64 0, .string ⟨#[]⟩, .int .i64 0, .slice none 0 0, .int .i64 0] 98) ∧ w.heap.size < w3.heap.size + 1) := ⟨(by have h := heap_alloc_new (w3.alloc (.cells #[.int .i64 x.kind, .int .i64 x.num, .string x.name, .int .i64 x.op, .slice u1 u2 u3, .int .i64 (x.deep : Int)] 98)) (.cells #[.int .i64 0, .int .i64 0, .string ⟨#[]⟩, .int .i64 0, .slice none 0 0, .int .i64 0] 98); rw [show (w3.alloc (.cells #[.int .i64 x.kind, .int .i64 x.num, .string x.name, .int .i64 x.op, .slice u1 u2 u3, .int .i64 (x.deep : Int)] 98)).heap.size = w3.heap.size + 1 from by simp] at h; exact h), by have := HSv0.out.lt; (try simp at this); omega⟩
            refine wpAny_ready (rs := [7]) (by kernel_rfl) (by simp) ?_
            refine AllReady.cons rfl (fun K hK => ?_) AllReady.nil
            go_simp
            refine (HM.out ((w3.alloc (.cells #[.int .i64 x.kind, .int .i64 x.num, .string x.name, .int .i64 x.op, .slice u1 u2 u3, .int .i64 (x.deep : Int)] 98)).alloc (.cells #[.int .i64 0, .int .i64 0, .string ⟨#[]⟩, .int .i64 0, .slice none 0 0, .int .i64 0] 98)) _ _ _ _ (fun j => w.heap.size < j ∧ j ≠ w3.heap.size + 1) HSv.out HDv.out.2 HDv.out.1 (HXv.out.mono fun j hj => hj) (fun k hk => ⟨by have := HSv.out.lt; omega, by have := (Array.getElem?_eq_some_iff.1 HEv.out.1).1; omega⟩) (fun k hk => by have := HPL.out; omega) HCv.out).mono ?_
            rintro e w8 ⟨rfl, hg⟩
            exact ⟨rfl, HPE.out _ (HSv.out.gr.trans hg)⟩
        · have HSv0 := HSv
          go_simp
          refine hK _ _ ?_
          clear hK K
          replace HSv : Hid (Sg w pb g c L b t n1 q (o + 1) m (w3.alloc (.cells #[.int .i64 0, .int .i64 0, .string ⟨#[]⟩, .int .i64 0, .slice none 0 0, .int .i64 0] 98))) := HSv.out.alloc _
          replace HXv : Hid (ESlP (w3.alloc (.cells #[.int .i64 0, .int .i64 0, .string ⟨#[]⟩, .int .i64 0, .slice none 0 0, .int .i64 0] 98)) (fun j => w.heap.size < j ∧ j ≠ w3.heap.size) (.slice u1 u2 u3) x.args) := (HXv.out.mono' fun j hj hj2 => ⟨hj, by (try simp at hj2); omega⟩).keep fun j _ hj => heap_alloc_old _ _ hj
          have HEv : Hid ((w3.alloc (.cells #[.int .i64 0, .int .i64 0, .string ⟨#[]⟩, .int .i64 0, .slice none 0 0, .int .i64 0] 98)).heap[w3.heap.size]? = some (.cells #[.int .i64 0, .int .i64 0, .string ⟨#[]⟩, .int .i64 0, .slice none 0 0, .int .i64 0] 98) ∧ w.heap.size < w3.heap.size) := ⟨heap_alloc_new _ _, by have := HSv0.out.lt; (try simp at this); omega⟩
          refine wpAny_ready (rs := [6]) (by kernel_rfl) (by simp) ?_
          refine AllReady.cons rfl (fun K hK => ?_) AllReady.nil
          go_simp
          refine hK _ _ ?_
          clear hK K
          replace HSv : Hid (Sg w pb g c L b t n1 q (o + 1) m ((w3.alloc (.cells #[.int .i64 0, .int .i64 0, .string ⟨#[]⟩, .int .i64 0, .slice none 0 0, .int .i64 0] 98)).alloc (.cells #[.int .i64 x.kind, .int .i64 x.num, .string x.name, .int .i64 x.op, .slice u1 u2 u3, .int .i64 (x.deep : Int)] 98))) := HSv.out.alloc _
          replace HXv : Hid (ESlP ((w3.alloc (.cells #[.int .i64 0, .int .i64 0, .string ⟨#[]⟩, .int .i64 0, .slice none 0 0, .int .i64 0] 98)).alloc (.cells #[.int .i64 x.kind, .int .i64 x.num, .string x.name, .int .i64 x.op, .slice u1 u2 u3, .int .i64 (x.deep : Int)] 98)) (fun j => w.heap.size < j ∧ j ≠ w3.heap.size) (.slice u1 u2 u3) x.args) := HXv.out.keep fun j _ hj => heap_alloc_old _ _ hj
          have HCv : Hid (((w3.alloc (.cells #[.int .i64 0, .int .i64 0, .string ⟨#[]⟩, .int .i64 0, .slice none 0 0, .int .i64 0] 98)).alloc (.cells #[.int .i64 x.kind, .int .i64 x.num, .string x.name, .int .i64 x.op, .slice u1 u2 u3, .int .i64 (x.deep : Int)] 98)).heap[w3.heap.size + 1]? = some (.cells #[.int .i64 x.kind, .int .i64 x.num, .string x.name, .int .i64 x.op, .slice u1 u2 u3, .int .i64 (x.deep : Int)] 98)) := (by have h := heap_alloc_new (w3.alloc (.cells #[.int .i64 0, .int .i64 0, .string ⟨#[]⟩, .int .i64 0, .slice none 0 0, .int .i64 0] 98)) (.cells #[.int .i64 x.kind, .int .i64 x.num, .string x.name, .int .i64 x.op, .slice u1 u2 u3, .int .i64 (x.deep : Int)] 98); rw [show (w3.alloc (.cells #[.int .i64 0, .int .i64 0, .string ⟨#[]⟩, .int .i64 0, .slice none 0 0, .int .i64 0] 98)).heap.size = w3.heap.size + 1 from by simp] at h; exact h)
          replace HEv : Hid (((w3.alloc (.cells #[.int .i64 0, .int .i64 0, .string ⟨#[]⟩, .int .i64 0, .slice none 0 0, .int .i64 0] 98)).alloc (.cells #[.int .i64 x.kind, .int .i64 x.num, .string x.name, .int .i64 x.op, .slice u1 u2 u3, .int .i64 (x.deep : Int)] 98)).heap[w3.heap.size]? = some (.cells #[.int .i64 0, .int .i64 0, .string ⟨#[]⟩, .int .i64 0, .slice none 0 0, .int .i64 0] 98) ∧ w.heap.size < w3.heap.size) := ⟨keepA HEv.out.1 _, HEv.out.2⟩
          refine wpAny_ready (rs := [7]) (by kernel_rfl) (by simp) ?_
          refine AllReady.cons rfl (fun K hK => ?_) AllReady.nil
          go_simp
          refine (HM.out ((w3.alloc (.cells #[.int .i64 0, .int .i64 0, .string ⟨#[]⟩, .int .i64 0, .slice none 0 0, .int .i64 0] 98)).alloc (.cells #[.int .i64 x.kind, .int .i64 x.num, .string x.name, .int .i64 x.op, .slice u1 u2 u3, .int .i64 (x.deep : Int)] 98)) _ _ _ _ (fun j => w.heap.size < j ∧ j ≠ w3.heap.size) HSv.out HDv.out.2 HDv.out.1 (HXv.out.mono fun j hj => hj) (fun k hk => ⟨by have := HSv.out.lt; omega, by have := (Array.getElem?_eq_some_iff.1 HEv.out.1).1; omega⟩) (fun k hk => by have := HPL.out; omega) HCv.out).mono ?_
          rintro e w8 ⟨rfl, hg⟩
          exact ⟨rfl, HPE.out _ (HSv.out.gr.trans hg)⟩
      · go_simp
        refine hK _ _ ?_
        clear hK K
        replace HSv : Hid (Sg w pb g c L b t n1 q (o + 1) m (w3.alloc (.cells #[.int .i64 x.kind, .int .i64 x.num, .string x.name, .int .i64 x.op, .slice u1 u2 u3, .int .i64 (x.deep : Int)] 98))) := HSv.out.alloc _
        replace HXv : Hid (ESlP (w3.alloc (.cells #[.int .i64 x.kind, .int .i64 x.num, .string x.name, .int .i64 x.op, .slice u1 u2 u3, .int .i64 (x.deep : Int)] 98)) (fun j => w.heap.size < j) (.slice u1 u2 u3) x.args) := HXv.out.keep fun j _ hj => heap_alloc_old _ _ hj
        have HCv : Hid ((w3.alloc (.cells #[.int .i64 x.kind, .int .i64 x.num, .string x.name, .int .i64 x.op, .slice u1 u2 u3, .int .i64 (x.deep : Int)] 98)).heap[w3.heap.size]? = some (.cells #[.int .i64 x.kind, .int .i64 x.num, .string x.name, .int .i64 x.op, .slice u1 u2 u3, .int .i64 (x.deep : Int)] 98)) := heap_alloc_new _ _
        obtain ⟨ta0, ta1, ta2, ta3⟩ := tc4_c HSv.out.tt
        refine wpAny_ready (rs := [1, 8]) (by kernel_rfl) (by simp) ?_
        refine AllReady.cons rfl (fun K hK => ?_) (AllReady.cons rfl (fun K hK => ?_) (AllReady.nil))
        · go_simp
          refine hK _ _ ?_
          clear hK K
          refine wpAny_ready (rs := [7, 8]) (by kernel_rfl) (by simp) ?_
          refine AllReady.cons rfl (fun K hK => ?_) (AllReady.cons rfl (fun K hK => ?_) (AllReady.nil))
          · go_simp
            refine (HM.out (w3.alloc (.cells #[.int .i64 x.kind, .int .i64 x.num, .string x.name, .int .i64 x.op, .slice u1 u2 u3, .int .i64 (x.deep : Int)] 98)) _ _ _ _ (fun j => w.heap.size < j) HSv.out HDv.out.2 HDv.out.1 (HXv.out.mono fun j hj => hj) (fun k hk => by have := HSv.out.lt; omega) (fun k hk => by have := HPL.out; omega) HCv.out).mono ?_
            rintro e w8 ⟨rfl, hg⟩
            exact ⟨rfl, HPE.out _ (HSv.out.gr.trans hg)⟩
          · have HSv0 := HSv
            go_simp
            refine hK _ _ ?_
            clear hK K
            replace HSv : Hid (Sg w pb g c L b t n1 q (o + 1) m ((w3.alloc (.cells #[.int .i64 x.kind, .int .i64 x.num, .string x.name, .int .i64 x.op, .slice u1 u2 u3, .int .i64 (x.deep : Int)] 98)).alloc (.cells #[.int .i64 0, .int .i64 0, .string ⟨#[]⟩, .int .i64 0, .slice none 0 0, .int .i64 0] 98))) := HSv.out.alloc _
            replace HXv : Hid (ESlP ((w3.alloc (.cells #[.int .i64 x.kind, .int .i64 x.num, .string x.name, .int .i64 x.op, .slice u1 u2 u3, .int .i64 (x.deep : Int)] 98)).alloc (.cells #[.int .i64 0, .int .i64 0, .string ⟨#[]⟩, .int .i64 0, .slice none 0 0, .int .i64 0] 98)) (fun j => w.heap.size < j ∧ j ≠ w3.heap.size + 1) (.slice u1 u2 u3) x.args) := (HXv.out.mono' fun j hj hj2 => ⟨hj, by (try simp at hj2); omega⟩).keep fun j _ hj => heap_alloc_old _ _ hj
            replace HCv : Hid (((w3.alloc (.cells #[.int .i64 x.kind, .int .i64 x.num, .string x.name, .int .i64 x.op, .slice u1 u2 u3, .int .i64 (x.deep : Int)] 98)).alloc (.cells #[.int .i64 0, .int .i64 0, .string ⟨#[]⟩, .int .i64 0, .slice none 0 0, .int .i64 0] 98)).heap[w3.heap.size]? = some (.cells #[.int .i64 x.kind, .int .i64 x.num, .string x.name, .int .i64 x.op, .slice u1 u2 u3, .int .i64 (x.deep : Int)] 98)) := keepA HCv.out _
            have HEv : Hid (((w3.alloc (.cells #[.int .i64 x.kind, .int .i64 x.num, .string x.name, .int .i64 x.op, .slice u1 u2 u3, .int .i64 (x.deep : Int)] 98)).alloc (.cells #[.int .i64 0, .int .i64 0, .string ⟨#[]⟩, .int .i64 0, .slice none 0 0, .int .i64 0] 98)).heap[w3.heap.size + 1]? = some (.cells #[.int .i64 0, .int .i64 0, .string ⟨#[]⟩, .int .i64 0, .slice none 0 0, .int .i64 0] 98) ∧ w.heap.size < w3.heap.size + 1) := ⟨(by have h := heap_alloc_new (w3.alloc (.cells #[.int .i64 x.kind, .int .i64 x.num, .string x.name, .int .i64 x.op, .slice u1 u2 u3, .int .i64 (x.deep : Int)] 98)) (.cells #[.int .i64 0, .int .i64 0, .string ⟨#[]⟩, .int .i64 0, .slice none 0 0, .int .i64 0] 98); rw [show (w3.alloc (.cells #[.int .i64 x.kind, .int .i64 x.num, .string x.name, .int .i64 x.op, .slice u1 u2 u3, .int .i64 (x.deep : Int)] 98)).heap.size = w3.heap.size + 1 from by simp] at h; exact h), by have := HSv0.out.lt; (try simp at this); omega⟩
            refine wpAny_ready (rs := [7]) (by kernel_rfl) (by simp) ?_
            refine AllReady.cons rfl (fun K hK => ?_) AllReady.nil
            go_simp
            refine (HM.out ((w3.alloc (.cells #[.int .i64 x.kind, .int .i64 x.num, .string x.name, .int .i64 x.op, .slice u1 u2 u3, .int .i64 (x.deep : Int)] 98)).alloc (.cells #[.int .i64 0, .int .i64 0, .string ⟨#[]⟩, .int .i64 0, .slice none 0 0, .int .i64 0] 98)) _ _ _ _ (fun j => w.heap.size < j ∧ j ≠ w3.heap.size + 1) HSv.out HDv.out.2 HDv.out.1 (HXv.out.mono fun j hj => hj) (fun k hk => ⟨by have := HSv.out.lt; omega, by have := (Array.getElem?_eq_some_iff.1 HEv.out.1).1; omega⟩) (fun k hk => by have := HPL.out; omega) HCv.out).mono ?_
            rintro e w8 ⟨rfl, hg⟩
            exact ⟨rfl, HPE.out _ (HSv.out.gr.trans hg)⟩
        · have HSv0 := HSv
          go_simp
          refine hK _ _ ?_
          clear hK K
          replace HSv : Hid (Sg w pb g c L b t n1 q (o + 1) m ((w3.alloc (.cells #[.int .i64 x.kind, .int .i64 x.num, .string x.name, .int .i64 x.op, .slice u1 u2 u3, .int .i64 (x.deep : Int)] 98)).alloc (.cells #[.int .i64 0, .int .i64 0, .string ⟨#[]⟩, .int .i64 0, .slice none 0 0, .int .i64 0] 98))) := HSv.out.alloc _
          replace HXv : Hid (ESlP ((w3.alloc (.cells #[.int .i64 x.kind, .int .i64 x.num, .string x.name, .int .i64 x.op, .slice u1 u2 u3, .int .i64 (x.deep : Int)] 98)).alloc (.cells #[.int .i64 0, .int .i64 0, .string ⟨#[]⟩, .int .i64 0, .slice none 0 0, .int .i64 0] 98)) (fun j => w.heap.size < j ∧ j ≠ w3.heap.size + 1) (.slice u1 u2 u3) x.args) := (HXv.out.mono' fun j hj hj2 => ⟨hj, by (try simp at hj2); omega⟩).keep fun j _ hj => heap_alloc_old _ _ hj
          replace HCv : Hid (((w3.alloc (.cells #[.int .i64 x.kind, .int .i64 x.num, .string x.name, .int .i64 x.op, .slice u1 u2 u3, .int .i64 (x.deep : Int)] 98)).alloc (.cells #[.int .i64 0, .int .i64 0, .string ⟨#[]⟩, .int .i64 0, .slice none 0 0, .int .i64 0] 98)).heap[w3.heap.size]? = some (.cells #[.int .i64 x.kind, .int .i64 x.num, .string x.name, .int .i64 x.op, .slice u1 u2 u3, .int .i64 (x.deep : Int)] 98)) := keepA HCv.out _
          have HEv : Hid (((w3.alloc (.cells #[.int .i64 x.kind, .int .i64 x.num, .string x.name, .int .i64 x.op, .slice u1 u2 u3, .int .i64 (x.deep : Int)] 98)).alloc (.cells #[.int .i64 0, .int .i64 0, .string ⟨#[]⟩, .int .i64 0, .slice none 0 0, .int .i64 0] 98)).heap[w3.heap.size + 1]? = some (.cells #[.int .i64 0, .int .i64 0, .string ⟨#[]⟩, .int .i64 0, .slice none 0 0, .int .i64 0] 98) ∧ w.heap.size < w3.heap.size + 1) := ⟨(by have h := heap_alloc_new (w3.alloc (.cells #[.int .i64 x.kind, .int .i64 x.num, .string x.name, .int .i64 x.op, .slice u1 u2 u3, .int .i64 (x.deep : Int)] 98)) (.cells #[.int .i64 0, .int .i64 0, .string ⟨#[]⟩, .int .i64 0, .slice none 0 0, .int .i64 0] 98); rw [show (w3.alloc (.cells #[.int .i64 x.kind, .int .i64 x.num, .string x.name, .int .i64 x.op, .slice u1 u2 u3, .int .i64 (x.deep : Int)] 98)).heap.size = w3.heap.size + 1 from by simp] at h; exact h), by have := HSv0.out.lt; (try simp at this); omega⟩
          obtain ⟨ta0, ta1, ta2, ta3⟩ := tc4_c HSv.out.tt
          refine wpAny_ready (rs := [1]) (by kernel_rfl) (by simp) ?_
          refine AllReady.cons rfl (fun K hK => ?_) AllReady.nil
          go_simp
          refine hK _ _ ?_
          clear hK K
          refine wpAny_ready (rs := [7]) (by kernel_rfl) (by simp) ?_
          refine AllReady.cons rfl (fun K hK => ?_) AllReady.nil
          go_simp
          refine (HM.out ((w3.alloc (.cells #[.int .i64 x.kind, .int .i64 x.num, .string x.name, .int .i64 x.op, .slice u1 u2 u3, .int .i64 (x.deep : Int)] 98)).alloc (.cells #[.int .i64 0, .int .i64 0, .string ⟨#[]⟩, .int .i64 0, .slice none 0 0, .int .i64 0] 98)) _ _ _ _ (fun j => w.heap.size < j ∧ j ≠ w3.heap.size + 1) HSv.out HDv.out.2 HDv.out.1 (HXv.out.mono fun j hj => hj) (fun k hk => ⟨by have := HSv.out.lt; omega, by have := (Array.getElem?_eq_some_iff.1 HEv.out.1).1; omega⟩) (fun k hk => by have := HPL.out; omega) HCv.out).mono ?_
          rintro e w8 ⟨rfl, hg⟩
          exact ⟨rfl, HPE.out _ (HSv.out.gr.trans hg)⟩
      · have HSv0 := HSv
        go_simp
        refine hK _ _ ?_
        clear hK K
        replace HSv : Hid (Sg w pb g c L b t n1 q (o + 1) m (w3.alloc (.cells #[.int .i64 0, .int .i64 0, .string ⟨#[]⟩, .int .i64 0, .slice none 0 0, .int .i64 0] 98))) := HSv.out.alloc _
        replace HXv : Hid (ESlP (w3.alloc (.cells #[.int .i64 0, .int .i64 0, .string ⟨#[]⟩, .int .i64 0, .slice none 0 0, .int .i64 0] 98)) (fun j => w.heap.size < j ∧ j ≠ w3.heap.size) (.slice u1 u2 u3) x.args) := (HXv.out.mono' fun j hj hj2 => ⟨hj, by (try simp at hj2); omega⟩).keep fun j _ hj => heap_alloc_old _ _ hj
        have HEv : Hid ((w3.alloc (.cells #[.int .i64 0, .int .i64 0, .string ⟨#[]⟩, .int .i64 0, .slice none 0 0, .int .i64 0] 98)).heap[w3.heap.size]? = some (.cells #[.int .i64 0, .int .i64 0, .string ⟨#[]⟩, .int .i64 0, .slice none 0 0, .int .i64 0] 98) ∧ w.heap.size < w3.heap.size) := ⟨heap_alloc_new _ _, by have := HSv0.out.lt; (try simp at this); omega⟩
        obtain ⟨ta0, ta1, ta2, ta3⟩ := tc4_c HSv.out.tt
        refine wpAny_ready (rs := [1, 6]) (by kernel_rfl) (by simp) ?_
        refine AllReady.cons rfl (fun K hK => ?_) (AllReady.cons rfl (fun K hK => ?_) (AllReady.nil))
        · go_simp
          refine hK _ _ ?_
          clear hK K
          refine wpAny_ready (rs := [6]) (by kernel_rfl) (by simp) ?_
          refine AllReady.cons rfl (fun K hK => ?_) AllReady.nil
          go_simp
          refine hK _ _ ?_
          clear hK K
          replace HSv : Hid (Sg w pb g c L b t n1 q (o + 1) m ((w3.alloc (.cells #[.int .i64 0, .int .i64 0, .string ⟨#[]⟩, .int .i64 0, .slice none 0 0, .int .i64 0] 98)).alloc (.cells #[.int .i64 x.kind, .int .i64 x.num, .string x.name, .int .i64 x.op, .slice u1 u2 u3, .int .i64 (x.deep : Int)] 98))) := HSv.out.alloc _
          replace HXv : Hid (ESlP ((w3.alloc (.cells #[.int .i64 0, .int .i64 0, .string ⟨#[]⟩, .int .i64 0, .slice none 0 0, .int .i64 0] 98)).alloc (.cells #[.int .i64 x.kind, .int .i64 x.num, .string x.name, .int .i64 x.op, .slice u1 u2 u3, .int .i64 (x.deep : Int)] 98)) (fun j => w.heap.size < j ∧ j ≠ w3.heap.size) (.slice u1 u2 u3) x.args) := HXv.out.keep fun j _ hj => heap_alloc_old _ _ hj
          have HCv : Hid (((w3.alloc (.cells #[.int .i64 0, .int .i64 0, .string ⟨#[]⟩, .int .i64 0, .slice none 0 0, .int .i64 0] 98)).alloc (.cells #[.int .i64 x.kind, .int .i64 x.num, .string x.name, .int .i64 x.op, .slice u1 u2 u3, .int .i64 (x.deep : Int)] 98)).heap[w3.heap.size + 1]? = some (.cells #[.int .i64 x.kind, .int .i64 x.num, .string x.name, .int .i64 x.op, .slice u1 u2 u3, .int .i64 (x.deep : Int)] 98)) := (by have h := heap_alloc_new (w3.alloc (.cells #[.int .i64 0, .int .i64 0, .string ⟨#[]⟩, .int .i64 0, .slice none 0 0, .int .i64 0] 98)) (.cells #[.int .i64 x.kind, .int .i64 x.num, .string x.name, .int .i64 x.op, .slice u1 u2 u3, .int .i64 (x.deep : Int)] 98); rw [show (w3.alloc (.cells #[.int .i64 0, .int .i64 0, .string ⟨#[]⟩, .int .i64 0, .slice none 0 0, .int .i64 0] 98)).heap.size = w3.heap.size + 1 from by simp] at h; exact h)
          replace HEv : Hid (((w3.alloc (.cells #[.int .i64 0, .int .i64 0, .string ⟨#[]⟩, .int .i64 0, .slice none 0 0, .int .i64 0] 98)).alloc (.cells #[.int .i64 x.kind, .int .i64 x.num, .string x.name, .int .i64 x.op, .slice u1 u2 u3, .int .i64 (x.deep : Int)] 98)).heap[w3.heap.size]? = some (.cells #[.int .i64 0, .int .i64 0, .string ⟨#[]⟩, .int .i64 0, .slice none 0 0, .int .i64 0] 98) ∧ w.heap.size < w3.heap.size) := ⟨keepA HEv.out.1 _, HEv.out.2⟩
          refine wpAny_ready (rs := [7]) (by kernel_rfl) (by simp) ?_
          refine AllReady.cons rfl (fun K hK => ?_) AllReady.nil
          go_simp
          refine (HM.out ((w3.alloc (.cells #[.int .i64 0, .int .i64 0, .string ⟨#[]⟩, .int .i64 0, .slice none 0 0, .int .i64 0] 98)).alloc (.cells #[.int .i64 x.kind, .int .i64 x.num, .string x.name, .int .i64 x.op, .slice u1 u2 u3, .int .i64 (x.deep : Int)] 98)) _ _ _ _ (fun j => w.heap.size < j ∧ j ≠ w3.heap.size) HSv.out HDv.out.2 HDv.out.1 (HXv.out.mono fun j hj => hj) (fun k hk => ⟨by have := HSv.out.lt; omega, by have := (Array.getElem?_eq_some_iff.1 HEv.out.1).1; omega⟩) (fun k hk => by have := HPL.out; omega) HCv.out).mono ?_
          rintro e w8 ⟨rfl, hg⟩
          exact ⟨rfl, HPE.out _ (HSv.out.gr.trans hg)⟩
        · go_simp
          refine hK _ _ ?_
          clear hK K
          replace HSv : Hid (Sg w pb g c L b t n1 q (o + 1) m ((w3.alloc (.cells #[.int .i64 0, .int .i64 0, .string ⟨#[]⟩, .int .i64 0, .slice none 0 0, .int .i64 0] 98)).alloc (.cells #[.int .i64 x.kind, .int .i64 x.num, .string x.name, .int .i64 x.op, .slice u1 u2 u3, .int .i64 (x.deep : Int)] 98))) := HSv.out.alloc _
          replace HXv : Hid (ESlP ((w3.alloc (.cells #[.int .i64 0, .int .i64 0, .string ⟨#[]⟩, .int .i64 0, .slice none 0 0, .int .i64 0] 98)).alloc (.cells #[.int .i64 x.kind, .int .i64 x.num, .string x.name, .int .i64 x.op, .slice u1 u2 u3, .int .i64 (x.deep : Int)] 98)) (fun j => w.heap.size < j ∧ j ≠ w3.heap.size) (.slice u1 u2 u3) x.args) := HXv.out.keep fun j _ hj => heap_alloc_old _ _ hj
          have HCv : Hid (((w3.alloc (.cells #[.int .i64 0, .int .i64 0, .string ⟨#[]⟩, .int .i64 0, .slice none 0 0, .int .i64 0] 98)).alloc (.cells #[.int .i64 x.kind, .int .i64 x.num, .string x.name, .int .i64 x.op, .slice u1 u2 u3, .int .i64 (x.deep : Int)] 98)).heap[w3.heap.size + 1]? = some (.cells #[.int .i64 x.kind, .int .i64 x.num, .string x.name, .int .i64 x.op, .slice u1 u2 u3, .int .i64 (x.deep : Int)] 98)) := (by have h := heap_alloc_new (w3.alloc (.cells #[.int .i64 0, .int .i64 0, .string ⟨#[]⟩, .int .i64 0, .slice none 0 0, .int .i64 0] 98)) (.cells #[.int .i64 x.kind, .int .i64 x.num, .string x.name, .int .i64 x.op, .slice u1 u2 u3, .int .i64 (x.deep : Int)] 98); rw [show (w3.alloc (.cells #[.int .i64 0, .int .i64 0, .string ⟨#[]⟩, .int .i64 0, .slice none 0 0, .int .i64 0] 98)).heap.size = w3.heap.size + 1 from by simp] at h; exact h)
          replace HEv : Hid (((w3.alloc (.cells #[.int .i64 0, .int .i64 0, .string ⟨#[]⟩, .int .i64 0, .slice none 0 0, .int .i64 0] 98)).alloc (.cells #[.int .i64 x.kind, .int .i64 x.num, .string x.name, .int .i64 x.op, .slice u1 u2 u3, .int .i64 (x.deep : Int)] 98)).heap[w3.heap.size]? = some (.cells #[.int .i64 0, .int .i64 0, .string ⟨#[]⟩, .int .i64 0, .slice none 0 0, .int .i64 0] 98) ∧ w.heap.size < w3.heap.size) := ⟨keepA HEv.out.1 _, HEv.out.2⟩
          obtain ⟨ta0, ta1, ta2, ta3⟩ := tc4_c HSv.out.tt
          refine wpAny_ready (rs := [1]) (by kernel_rfl) (by simp) ?_
          refine AllReady.cons rfl (fun K hK => ?_) AllReady.nil
          go_simp
          refine hK _ _ ?_
          clear hK K
          refine wpAny_ready (rs := [7]) (by kernel_rfl) (by simp) ?_
          refine AllReady.cons rfl (fun K hK => ?_) AllReady.nil
          go_simp
          refine (HM.out ((w3.alloc (.cells #[.int .i64 0, .int .i64 0, .string ⟨#[]⟩, .int .i64 0, .slice none 0 0, .int .i64 0] 98)).alloc (.cells #[.int .i64 x.kind, .int .i64 x.num, .string x.name, .int .i64 x.op, .slice u1 u2 u3, .int .i64 (x.deep : Int)] 98)) _ _ _ _ (fun j => w.heap.size < j ∧ j ≠ w3.heap.size) HSv.out HDv.out.2 HDv.out.1 (HXv.out.mono fun j hj => hj) (fun k hk => ⟨by have := HSv.out.lt; omega, by have := (Array.getElem?_eq_some_iff.1 HEv.out.1).1; omega⟩) (fun k hk => by have := HPL.out; omega) HCv.out).mono ?_
          rintro e w8 ⟨rfl, hg⟩
          exact ⟨rfl, HPE.out _ (HSv.out.gr.trans hg)⟩
    · rename_i hK
      refine (HA.out _ HD1.out).mono ?_
      rintro e w3 ⟨u1, u2, u3, rfl, ⟨hs3, he3, hd3, hm3⟩, hg3⟩
      refine hK _ _ ?_
      clear hK
      have HSv : Hid (Sg w pb g c L b t n1 q (o + 1) m w3) := hs3
      have HXv : Hid (ESlP w3 (fun j => w.heap.size < j ∧ j ≠ W.heap.size) (.slice u1 u2 u3) x.args) := he3.mono fun j hj => by have h1 : (W.drew.alloc (.cells #[.int .i64 0, .int .i64 0, .string ⟨#[]⟩, .int .i64 0, .slice none 0 0, .int .i64 0] 98)).heap.size ≤ j := hj; have h2 : (W.drew.alloc (.cells #[.int .i64 0, .int .i64 0, .string ⟨#[]⟩, .int .i64 0, .slice none 0 0, .int .i64 0] 98)).heap.size = W.heap.size + 1 := (by show (Array.push _ _).size = _; simp); have := HK1.out.2; exact ⟨by omega, by omega⟩
      have HDv : Hid (x.deep ≤ 48 ∧ m ≤ 600) := ⟨hd3, hm3⟩
      have HEv : Hid (w3.heap[W.heap.size]? = some (.cells #[.int .i64 0, .int .i64 0, .string ⟨#[]⟩, .int .i64 0, .slice none 0 0, .int .i64 0] 98) ∧ w.heap.size < W.heap.size) := ⟨keepG HK1.out.1 hg3 (by have := HK1.out.2; have := HPL.out; omega), HK1.out.2⟩
      clear hs3 he3 hd3 hm3 hg3
      obtain ⟨tb0, tb1, tb2, tb3⟩ := tc4_c HSv.out.tt
      refine wpAny_ready (rs := [6]) (by kernel_rfl) (by simp) ?_
      refine AllReady.cons rfl (fun K hK => ?_) AllReady.nil
      go_simp
      refine hK _ _ ?_
      clear hK K
      replace HSv : Hid (Sg w pb g c L b t n1 q (o + 1) m (w3.alloc (.cells #[.int .i64 x.kind, .int .i64 x.num, .string x.name, .int .i64 x.op, .slice u1 u2 u3, .int .i64 (x.deep : Int)] 98))) := HSv.out.alloc _
      replace HXv : Hid (ESlP (w3.alloc (.cells #[.int .i64 x.kind, .int .i64 x.num, .string x.name, .int .i64 x.op, .slice u1 u2 u3, .int .i64 (x.deep : Int)] 98)) (fun j => w.heap.size < j ∧ j ≠ W.heap.size) (.slice u1 u2 u3) x.args) := HXv.out.keep fun j _ hj => heap_alloc_old _ _ hj
      have HCv : Hid ((w3.alloc (.cells #[.int .i64 x.kind, .int .i64 x.num, .string x.name, .int .i64 x.op, .slice u1 u2 u3, .int .i64 (x.deep : Int)] 98)).heap[w3.heap.size]? = some (.cells #[.int .i64 x.kind, .int .i64 x.num, .string x.name, .int .i64 x.op, .slice u1 u2 u3, .int .i64 (x.deep : Int)] 98)) := heap_alloc_new _ _
      replace HEv : Hid ((w3.alloc (.cells #[.int .i64 x.kind, .int .i64 x.num, .string x.name, .int .i64 x.op, .slice u1 u2 u3, .int .i64 (x.deep : Int)] 98)).heap[W.heap.size]? = some (.cells #[.int .i64 0, .int .i64 0, .string ⟨#[]⟩, .int .i64 0, .slice none 0 0, .int .i64 0] 98) ∧ w.heap.size < W.heap.size) := ⟨keepA HEv.out.1 _, HEv.out.2⟩
      refine wpAny_ready (rs := [7]) (by kernel_rfl) (by simp) ?_
      refine AllReady.cons rfl (fun K hK => ?_) AllReady.nil
      go_simp
      refine (HM.out (w3.alloc (.cells #[.int .i64 x.kind, .int .i64 x.num, .string x.name, .int .i64 x.op, .slice u1 u2 u3, .int .i64 (x.deep : Int)] 98)) _ _ _ _ (fun j => w.heap.size < j ∧ j ≠ W.heap.size) HSv.out HDv.out.2 HDv.out.1 (HXv.out.mono fun j hj => hj) (fun k hk => ⟨by have := HSv.out.lt; omega, by have := (Array.getElem?_eq_some_iff.1 HEv.out.1).1; omega⟩) (fun k hk => by have := HPL.out; omega) HCv.out).mono ?_
      rintro e w8 ⟨rfl, hg⟩
      exact ⟨rfl, HPE.out _ (HSv.out.gr.trans hg)⟩
    · rename_i hK
      refine (HA.out _ HD1.out).mono ?_
      rintro e w3 ⟨u1, u2, u3, rfl, ⟨hs3, he3, hd3, hm3⟩, hg3⟩
      refine hK _ _ ?_
      clear hK
      have HSv : Hid (Sg w pb g c L b t n1 q (o + 1) m w3) := hs3
      have HXv : Hid (ESlP w3 (fun j => w.heap.size < j ∧ j ≠ W.heap.size) (.slice u1 u2 u3) x.args) := he3.mono fun j hj => by have h1 : (W.drew.alloc (.cells #[.int .i64 0, .int .i64 0, .string ⟨#[]⟩, .int .i64 0, .slice none 0 0, .int .i64 0] 98)).heap.size ≤ j := hj; have h2 : (W.drew.alloc (.cells #[.int .i64 0, .int .i64 0, .string ⟨#[]⟩, .int .i64 0, .slice none 0 0, .int .i64 0] 98)).heap.size = W.heap.size + 1 := (by show (Array.push _ _).size = _; simp); have := HK1.out.2; exact ⟨by omega, by omega⟩
      have HDv : Hid (x.deep ≤ 48 ∧ m ≤ 600) := ⟨hd3, hm3⟩
      have HEv : Hid (w3.heap[W.heap.size]? = some (.cells #[.int .i64 0, .int .i64 0, .string ⟨#[]⟩, .int .i64 0, .slice none 0 0, .int .i64 0] 98) ∧ w.heap.size < W.heap.size) := ⟨keepG HK1.out.1 hg3 (by have := HK1.out.2; have := HPL.out; omega), HK1.out.2⟩
      clear hs3 he3 hd3 hm3 hg3
      obtain ⟨tb0, tb1, tb2, tb3⟩ := tc4_c HSv.out.tt
      refine wpAny_ready (rs := [1, 6]) (by kernel_rfl) (by simp) ?_
      refine AllReady.cons rfl (fun K hK => ?_) (AllReady.cons rfl (fun K hK => ?_) (AllReady.nil))
      · go_simp
        refine hK _ _ ?_
        clear hK K
        refine wpAny_ready (rs := [6]) (by kernel_rfl) (by simp) ?_
        refine AllReady.cons rfl (fun K hK => ?_) AllReady.nil
        go_simp
        refine hK _ _ ?_
        clear hK K
        replace HSv : Hid (Sg w pb g c L b t n1 q (o + 1) m (w3.alloc (.cells #[.int .i64 x.kind, .int .i64 x.num, .string x.name, .int .i64 x.op, .slice u1 u2 u3, .int .i64 (x.deep : Int)] 98))) := HSv.out.alloc _
        replace HXv : Hid (ESlP (w3.alloc (.cells #[.int .i64 x.kind, .int .i64 x.num, .string x.name, .int .i64 x.op, .slice u1 u2 u3, .int .i64 (x.deep : Int)] 98)) (fun j => w.heap.size < j ∧ j ≠ W.heap.size) (.slice u1 u2 u3) x.args) := HXv.out.keep fun j _ hj => heap_alloc_old _ _ hj
        have HCv : Hid ((w3.alloc (.cells #[.int .i64 x.kind, .int .i64 x.num, .string x.name, .int .i64 x.op, .slice u1 u2 u3, .int .i64 (x.deep : Int)] 98)).heap[w3.heap.size]? = some (.cells #[.int .i64 x.kind, .int .i64 x.num, .string x.name, .int .i64 x.op, .slice u1 u2 u3, .int .i64 (x.deep : Int)] 98)) := heap_alloc_new _ _
        replace HEv : Hid ((w3.alloc (.cells #[.int .i64 x.kind, .int .i64 x.num, .string x.name, .int .i64 x.op, .slice u1 u2 u3, .int .i64 (x.deep : Int)] 98)).heap[W.heap.size]? = some (.cells #[.int .i64 0, .int .i64 0, .string ⟨#[]⟩, .int .i64 0, .slice none 0 0, .int .i64 0] 98) ∧ w.heap.size < W.heap.size) := ⟨keepA HEv.out.1 _, HEv.out.2⟩
        refine wpAny_ready (rs := [7]) (by kernel_rfl) (by simp) ?_
        refine AllReady.cons rfl (fun K hK => ?_) AllReady.nil
        go_simp
        refine (HM.out (w3.alloc (.cells #[.int .i64 x.kind, .int .i64 x.num, .string x.name, .int .i64 x.op, .slice u1 u2 u3, .int .i64 (x.deep : Int)] 98)) _ _ _ _ (fun j => w.heap.size < j ∧ j ≠ W.heap.size) HSv.out HDv.out.2 HDv.out.1 (HXv.out.mono fun j hj => hj) (fun k hk => ⟨by have := HSv.out.lt; omega, by have := (Array.getElem?_eq_some_iff.1 HEv.out.1).1; omega⟩) (fun k hk => by have := HPL.out; omega) HCv.out).mono ?_
        rintro e w8 ⟨rfl, hg⟩
        exact ⟨rfl, HPE.out _ (HSv.out.gr.trans hg)⟩
      · go_simp
        refine hK _ _ ?_
        clear hK K
        replace HSv : Hid (Sg w pb g c L b t n1 q (o + 1) m (w3.alloc (.cells #[.int .i64 x.kind, .int .i64 x.num, .string x.name, .int .i64 x.op, .slice u1 u2 u3, .int .i64 (x.deep : Int)] 98))) := HSv.out.alloc _
        replace HXv : Hid (ESlP (w3.alloc (.cells #[.int .i64 x.kind, .int .i64 x.num, .string x.name, .int .i64 x.op, .slice u1 u2 u3, .int .i64 (x.deep : Int)] 98)) (fun j => w.heap.size < j ∧ j ≠ W.heap.size) (.slice u1 u2 u3) x.args) := HXv.out.keep fun j _ hj => heap_alloc_old _ _ hj
        have HCv : Hid ((w3.alloc (.cells #[.int .i64 x.kind, .int .i64 x.num, .string x.name, .int .i64 x.op, .slice u1 u2 u3, .int .i64 (x.deep : Int)] 98)).heap[w3.heap.size]? = some (.cells #[.int .i64 x.kind, .int .i64 x.num, .string x.name, .int .i64 x.op, .slice u1 u2 u3, .int .i64 (x.deep : Int)] 98)) := heap_alloc_new _ _
        replace HEv : Hid ((w3.alloc (.cells #[.int .i64 x.kind, .int .i64 x.num, .string x.name, .int .i64 x.op, .slice u1 u2 u3, .int .i64 (x.deep : Int)] 98)).heap[W.heap.size]? = some (.cells #[.int .i64 0, .int .i64 0, .string ⟨#[]⟩, .int .i64 0, .slice none 0 0, .int .i64 0] 98) ∧ w.heap.size < W.heap.size) := ⟨keepA HEv.out.1 _, HEv.out.2⟩
        obtain ⟨ta0, ta1, ta2, ta3⟩ := tc4_c HSv.out.tt
        refine wpAny_ready (rs := [1]) (by kernel_rfl) (by simp) ?_
        refine AllReady.cons rfl (fun K hK => ?_) AllReady.nil
        go_simp
        refine hK _ _ ?_
        clear hK K
        refine wpAny_ready (rs := [7]) (by kernel_rfl) (by simp) ?_
        refine AllReady.cons rfl (fun K hK => ?_) AllReady.nil
        go_simp
        refine (HM.out (w3.alloc (.cells #[.int .i64 x.kind, .int .i64 x.num, .string x.name, .int .i64 x.op, .slice u1 u2 u3, .int .i64 (x.deep : Int)] 98)) _ _ _ _ (fun j => w.heap.size < j ∧ j ≠ W.heap.size) HSv.out HDv.out.2 HDv.out.1 (HXv.out.mono fun j hj => hj) (fun k hk => ⟨by have := HSv.out.lt; omega, by have := (Array.getElem?_eq_some_iff.1 HEv.out.1).1; omega⟩) (fun k hk => by have := HPL.out; omega) HCv.out).mono ?_
        rintro e w8 ⟨rfl, hg⟩
        exact ⟨rfl, HPE.out _ (HSv.out.gr.trans hg)⟩
  go_cut [6] from 7 to 27 (fun u6 wx => Hid (Sd w pb g c L b q' (o + 1) m' y u6 wx))
  case first =>
    unfold z98 at HD1 HK1
    go_region_dies
    · rename_i hK
      refine (HA.out _ HD0.out).mono ?_
      rintro e w3 ⟨u1, u2, u3, rfl, ⟨hs3, he3, hd3, hm3⟩, hg3⟩
      refine hK _ _ ?_
      clear hK
      have HSv : Hid (Sg w pb g c L b t n1 q (o + 1) m w3) := hs3
      have HXv : Hid (ESlP w3 (fun j => w.heap.size < j) (.slice u1 u2 u3) x.args) := he3.mono fun j hj => by have h1 : W.heap.size ≤ j := hj; have := HK1.out.2; omega
      have HDv : Hid (x.deep ≤ 48 ∧ m ≤ 600) := ⟨hd3, hm3⟩
      clear hs3 he3 hd3 hm3 hg3
      obtain ⟨tb0, tb1, tb2, tb3⟩ := tc4_c HSv.out.tt
      refine wpAny_ready (rs := [6, 8]) (by kernel_rfl) (by simp) ?_
      refine AllReady.cons rfl (fun K hK => ?_) (AllReady.cons rfl (fun K hK => ?_) (AllReady.nil))
      · go_simp
        refine hK _ _ ?_
        clear hK K
        replace HSv : Hid (Sg w pb g c L b t n1 q (o + 1) m (w3.alloc (.cells #[.int .i64 x.kind, .int .i64 x.num, .string x.name, .int .i64 x.op, .slice u1 u2 u3, .int .i64 (x.deep : Int)] 98))) := HSv.out.alloc _
        replace HXv : Hid (ESlP (w3.alloc (.cells #[.int .i64 x.kind, .int .i64 x.num, .string x.name, .int .i64 x.op, .slice u1 u2 u3, .int .i64 (x.deep : Int)] 98)) (fun j => w.heap.size < j) (.slice u1 u2 u3) x.args) := HXv.out.keep fun j _ hj => heap_alloc_old _ _ hj
        have HCv : Hid ((w3.alloc (.cells #[.int .i64 x.kind, .int .i64 x.num, .string x.name, .int .i64 x.op, .slice u1 u2 u3, .int .i64 (x.deep : Int)] 98)).heap[w3.heap.size]? = some (.cells #[.int .i64 x.kind, .int .i64 x.num, .string x.name, .int .i64 x.op, .slice u1 u2 u3, .int .i64 (x.deep : Int)] 98)) := heap_alloc_new _ _
        refine wpAny_ready (rs := [7, 8]) (by kernel_rfl) (by simp) ?_
        refine AllReady.cons rfl (fun K hK => ?_) (AllReady.cons rfl (fun K hK => ?_) (AllReady.nil))
        · go_simp
          refine (HM.out (w3.alloc (.cells #[.int .i64 x.kind, .int .i64 x.num, .string x.name, .int .i64 x.op, .slice u1 u2 u3, .int .i64 (x.deep : Int)] 98)) _ _ _ _ (fun j => w.heap.size < j) HSv.out HDv.out.2 HDv.out.1 (HXv.out.mono fun j hj => hj) (fun k hk => by have := HSv.out.lt; omega) (fun k hk => by have := HPL.out; omega) HCv.out).mono ?_
          rintro e w8 ⟨v, rfl, hes, hp8, hg8, hd8, hm8⟩
          obtain ⟨v1, v2, v3, rfl⟩ := hes.sl
          unfold rxv rx
          dsimp only
          refine hK _ _ ?_
          clear hK K
          have HSv0 : Hid (Sg w pb g c L b t n1 q' (o + 1) m' w8) := HSv.out.call hg8 hp8
          clear HSv
          have HSv : Hid (Sg w pb g c L b t n1 q' (o + 1) m' w8) := HSv0
          clear HSv0
          have HYv : Hid (ESlP w8 (fun j => w.heap.size < j) (.slice v1 v2 v3) y.args) := hes
          have HDy : Hid (y.deep ≤ 48 ∧ m' ≤ 600) := ⟨hd8, hm8⟩
          clear hes hp8 hg8 hd8 hm8 HXv HCv
          refine wpAny_ready (rs := [8]) (by kernel_rfl) (by simp) ?_
          refine AllReady.cons rfl (fun K hK => ?_) AllReady.nil
          have HSv0 := HSv
          go_simp
          refine hK _ _ ?_
          clear hK K
          replace HSv : Hid (Sg w pb g c L b t n1 q' (o + 1) m' (w8.alloc (.cells #[.int .i64 0, .int .i64 0, .string ⟨#[]⟩, .int .i64 0, .slice none 0 0, .int .i64 0] 98))) := HSv.out.alloc _
          have HEv : Hid ((w8.alloc (.cells #[.int .i64 0, .int .i64 0, .string ⟨#[]⟩, .int .i64 0, .slice none 0 0, .int .i64 0] 98)).heap[w8.heap.size]? = some (.cells #[.int .i64 0, .int .i64 0, .string ⟨#[]⟩, .int .i64 0, .slice none 0 0, .int .i64 0] 98) ∧ w.heap.size < w8.heap.size) := ⟨heap_alloc_new _ _, by have := HSv0.out.lt; (try simp at this); omega⟩
          have HYw := HYv
          replace HYv : Hid (ESlP (w8.alloc (.cells #[.int .i64 0, .int .i64 0, .string ⟨#[]⟩, .int .i64 0, .slice none 0 0, .int .i64 0] 98)) (fun j => w.heap.size < j ∧ j ≠ w8.heap.size) (.slice v1 v2 v3) y.args) := (HYv.out.mono' fun j hj hj2 => ⟨hj, by omega⟩).keep fun j _ hj => heap_alloc_old _ _ hj
          refine wpAny_ready (rs := [9]) (by kernel_rfl) (by simp) ?_
          refine AllReady.cons rfl (fun K hK => ?_) AllReady.nil
          have HFIN : Hid (Sd w pb g c L b q' (o + 1) m' y (.pointer (some ⟨w8.heap.size, 0, none⟩)) (w8.alloc (.cells #[.int .i64 y.kind, .int .i64 y.num, .string y.name, .int .i64 y.op, .slice v1 v2 v3, .int .i64 (y.deep : Int)] 98))) := Sd.new HSv0.out.ps HSv0.out.gr HSv0.out.z HYw.out HDy.out.1 HDy.out.2
          go_simp
          refine hK _ _ ?_
          clear hK K
          refine wpAny_done (by kernel_rfl) ?_ _
          go_wp2_with fail
          go_meet
          exact HFIN.out
        · have HSv0 := HSv
          go_simp
          refine hK _ _ ?_
          clear hK K
          replace HSv : Hid (Sg w pb g c L b t n1 q (o + 1) m ((w3.alloc (.cells #[.int .i64 x.kind, .int .i64 x.num, .string x.name, .int .i64 x.op, .slice u1 u2 u3, .int .i64 (x.deep : Int)] 98)).alloc (.cells #[.int .i64 0, .int .i64 0, .string ⟨#[]⟩, .int .i64 0, .slice none 0 0, .int .i64 0] 98))) := HSv.out.alloc _
          replace HXv : Hid (ESlP ((w3.alloc (.cells #[.int .i64 x.kind, .int .i64 x.num, .string x.name, .int .i64 x.op, .slice u1 u2 u3, .int .i64 (x.deep : Int)] 98)).alloc (.cells #[.int .i64 0, .int .i64 0, .string ⟨#[]⟩, .int .i64 0, .slice none 0 0, .int .i64 0] 98)) (fun j => w.heap.size < j ∧ j ≠ w3.heap.size + 1) (.slice u1 u2 u3) x.args) := (HXv.out.mono' fun j hj hj2 => ⟨hj, by (try simp at hj2); omega⟩).keep fun j _ hj => heap_alloc_old _ _ hj
          replace HCv : Hid (((w3.alloc (.cells #[.int .i64 x.kind, .int .i64 x.num, .string x.name, .int .i64 x.op, .slice u1 u2 u3, .int .i64 (x.deep : Int)] 98)).alloc (.cells #[.int .i64 0, .int .i64 0, .string ⟨#[]⟩, .int .i64 0, .slice none 0 0, .int .i64 0] 98)).heap[w3.heap.size]? = some (.cells #[.int .i64 x.kind, .int .i64 x.num, .string x.name, .int .i64 x.op, .slice u1 u2 u3, .int .i64 (x.deep : Int)] 98)) := keepA HCv.out _
          have HEv : Hid (((w3.alloc (.cells #[.int .i64 x.kind, .int .i64 x.num, .string x.name, .int .i64 x.op, .slice u1 u2 u3, .int .i64 (x.deep : Int)] 98)).alloc (.cells #[.int .i64 0, .int .i64 0, .string ⟨#[]⟩, .int .i64 0, .slice none 0 0, .int .i64 0] 98)).heap[w3.heap.size + 1]? = some (.cells #[.int .i64 0, .int .i64 0, .string ⟨#[]⟩, .int .i64 0, .slice none 0 0, .int .i64 0] 98) ∧ w.heap.size < w3.heap.size + 1) := ⟨(by have h := heap_alloc_new (w3.alloc (.cells #[.int .i64 x.kind, .int .i64 x.num, .string x.name, .int .i64 x.op, .slice u1 u2 u3, .int .i64 (x.deep : Int)] 98)) (.cells #[.int .i64 0, .int .i64 0, .string ⟨#[]⟩, .int .i64 0, .slice none 0 0, .int .i64 0] 98); rw [show (w3.alloc (.cells #[.int .i64 x.kind, .int .i64 x.num, .string x.name, .int .i64 x.op, .slice u1 u2 u3, .int .i64 (x.deep : Int)] 98)).heap.size = w3.heap.size + 1 from by simp] at h; exact h), by have := HSv0.out.lt; (try simp at this); omega⟩
          refine wpAny_ready (rs := [7]) (by kernel_rfl) (by simp) ?_
          refine AllReady.cons rfl (fun K hK => ?_) AllReady.nil
          go_simp
          refine (HM.out ((w3.alloc (.cells #[.int .i64 x.kind, .int .i64 x.num, .string x.name, .int .i64 x.op, .slice u1 u2 u3, .int .i64 (x.deep : Int)] 98)).alloc (.cells #[.int .i64 0, .int .i64 0, .string ⟨#[]⟩, .int .i64 0, .slice none 0 0, .int .i64 0] 98)) _ _ _ _ (fun j => w.heap.size < j ∧ j ≠ w3.heap.size + 1) HSv.out HDv.out.2 HDv.out.1 (HXv.out.mono fun j hj => hj) (fun k hk => ⟨by have := HSv.out.lt; omega, by have := (Array.getElem?_eq_some_iff.1 HEv.out.1).1; omega⟩) (fun k hk => by have := HPL.out; omega) HCv.out).mono ?_
          rintro e w8 ⟨v, rfl, hes, hp8, hg8, hd8, hm8⟩
          obtain ⟨v1, v2, v3, rfl⟩ := hes.sl
          unfold rxv rx
          dsimp only
          refine hK _ _ ?_
          clear hK K
          have HSv0 : Hid (Sg w pb g c L b t n1 q' (o + 1) m' w8) := HSv.out.call hg8 hp8
          clear HSv
          have HSv : Hid (Sg w pb g c L b t n1 q' (o + 1) m' w8) := HSv0
          clear HSv0
          have HYv : Hid (ESlP w8 (fun j => w.heap.size < j ∧ j ≠ w3.heap.size + 1) (.slice v1 v2 v3) y.args) := hes
          have HDy : Hid (y.deep ≤ 48 ∧ m' ≤ 600) := ⟨hd8, hm8⟩
          replace HEv : Hid (w8.heap[w3.heap.size + 1]? = some (.cells #[.int .i64 0, .int .i64 0, .string ⟨#[]⟩, .int .i64 0, .slice none 0 0, .int .i64 0] 98) ∧ w.heap.size < w3.heap.size + 1) := ⟨keepG HEv.out.1 hg8 (by have := HEv.out.2; have := HPL.out; omega), HEv.out.2⟩
          clear hes hp8 hg8 hd8 hm8 HXv HCv
          refine wpAny_ready (rs := [9]) (by kernel_rfl) (by simp) ?_
          refine AllReady.cons rfl (fun K hK => ?_) AllReady.nil
          obtain ⟨a0, a1, a2, a3, a4, a5, b0, b1, b2, b3, b4, b5⟩ := z98_c HEv.out.1
          have HFIN : Hid (Sd w pb g c L b q' (o + 1) m' y (.pointer (some ⟨w3.heap.size + 1, 0, none⟩)) (set6 w8 (w3.heap.size + 1) (.int .i64 y.kind) (.int .i64 y.num) (.string y.name) (.int .i64 y.op) (.slice v1 v2 v3) (.int .i64 (y.deep : Int)))) := Sd.mk HSv.out.ps HSv.out.gr HSv.out.z HEv.out.1 HEv.out.2 HPL.out.1 HPL.out.2 (HYv.out.mono fun j hj => hj) HDy.out.1 HDy.out.2
          go_simp
          refine hK _ _ ?_
          clear hK K
          refine wpAny_done (by kernel_rfl) ?_ _
          go_wp2_with fail
          go_meet
          exact HFIN.out
      · have HSv0 := HSv
        go_simp
        refine hK _ _ ?_
        clear hK K
        replace HSv : Hid (Sg w pb g c L b t n1 q (o + 1) m (w3.alloc (.cells #[.int .i64 0, .int .i64 0, .string ⟨#[]⟩, .int .i64 0, .slice none 0 0, .int .i64 0] 98))) := HSv.out.alloc _
        replace HXv : Hid (ESlP (w3.alloc (.cells #[.int .i64 0, .int .i64 0, .string ⟨#[]⟩, .int .i64 0, .slice none 0 0, .int .i64 0] 98)) (fun j => w.heap.size < j ∧ j ≠ w3.heap.size) (.slice u1 u2 u3) x.args) := (HXv.out.mono' fun j hj hj2 => ⟨hj, by (try simp at hj2); omega⟩).keep fun j _ hj => heap_alloc_old _ _ hj
        have HEv : Hid ((w3.alloc (.cells #[.int .i64 0, .int .i64 0, .string ⟨#[]⟩, .int .i64 0, .slice none 0 0, .int .i64 0] 98)).heap[w3.heap.size]? = some (.cells #[.int .i64 0, .int .i64 0, .string ⟨#[]⟩, .int .i64 0, .slice none 0 0, .int .i64 0] 98) ∧ w.heap.size < w3.heap.size) := ⟨heap_alloc_new _ _, by have := HSv0.out.lt; (try simp at this); omega⟩
        refine wpAny_ready (rs := [6]) (by kernel_rfl) (by simp) ?_
        refine AllReady.cons rfl (fun K hK => ?_) AllReady.nil
        go_simp
        refine hK _ _ ?_
        clear hK K
        replace HSv : Hid (Sg w pb g c L b t n1 q (o + 1) m ((w3.alloc (.cells #[.int .i64 0, .int .i64 0, .string ⟨#[]⟩, .int .i64 0, .slice none 0 0, .int .i64 0] 98)).alloc (.cells #[.int .i64 x.kind, .int .i64 x.num, .string x.name, .int .i64 x.op, .slice u1 u2 u3, .int .i64 (x.deep : Int)] 98))) := HSv.out.alloc _
        replace HXv : Hid (ESlP ((w3.alloc (.cells #[.int .i64 0, .int .i64 0, .string ⟨#[]⟩, .int .i64 0, .slice none 0 0, .int .i64 0] 98)).alloc (.cells #[.int .i64 x.kind, .int .i64 x.num, .string x.name, .int .i64 x.op, .slice u1 u2 u3, .int .i64 (x.deep : Int)] 98)) (fun j => w.heap.size < j ∧ j ≠ w3.heap.size) (.slice u1 u2 u3) x.args) := HXv.out.keep fun j _ hj => heap_alloc_old _ _ hj
        have HCv : Hid (((w3.alloc (.cells #[.int .i64 0, .int .i64 0, .string ⟨#[]⟩, .int .i64 0, .slice none 0 0, .int .i64 0] 98)).alloc (.cells #[.int .i64 x.kind, .int .i64 x.num, .string x.name, .int .i64 x.op, .slice u1 u2 u3, .int .i64 (x.deep : Int)] 98)).heap[w3.heap.size + 1]? = some (.cells #[.int .i64 x.kind, .int .i64 x.num, .string x.name, .int .i64 x.op, .slice u1 u2 u3, .int .i64 (x.deep : Int)] 98)) := (by have h := heap_alloc_new (w3.alloc (.cells #[.int .i64 0, .int .i64 0, .string ⟨#[]⟩, .int .i64 0, .slice none 0 0, .int .i64 0] 98)) (.cells #[.int .i64 x.kind, .int .i64 x.num, .string x.name, .int .i64 x.op, .slice u1 u2 u3, .int .i64 (x.deep : Int)] 98); rw [show (w3.alloc (.cells #[.int .i64 0, .int .i64 0, .string ⟨#[]⟩, .int .i64 0, .slice none 0 0, .int .i64 0] 98)).heap.size = w3.heap.size + 1 from by simp] at h; exact h)
        replace HEv : Hid (((w3.alloc (.cells #[.int .i64 0, .int .i64 0, .string ⟨#[]⟩, .int .i64 0, .slice none 0 0, .int .i64 0] 98)).alloc (.cells #[.int .i64 x.kind, .int .i64 x.num, .string x.name, .int .i64 x.op, .slice u1 u2 u3, .int .i64 (x.deep : Int)] 98)).heap[w3.heap.size]? = some (.cells #[.int .i64 0, .int .i64 0, .string ⟨#[]⟩, .int .i64 0, .slice none 0 0, .int .i64 0] 98) ∧ w.heap.size < w3.heap.size) := ⟨keepA HEv.out.1 _, HEv.out.2⟩
        refine wpAny_ready (rs := [7]) (by kernel_rfl) (by simp) ?_
        refine AllReady.cons rfl (fun K hK => ?_) AllReady.nil
        go_simp
        refine (HM.out ((w3.alloc (.cells #[.int .i64 0, .int .i64 0, .string ⟨#[]⟩, .int .i64 0, .slice none 0 0, .int .i64 0] 98)).alloc (.cells #[.int .i64 x.kind, .int .i64 x.num, .string x.name, .int .i64 x.op, .slice u1 u2 u3, .int .i64 (x.deep : Int)] 98)) _ _ _ _ (fun j => w.heap.size < j ∧ j ≠ w3.heap.size) HSv.out HDv.out.2 HDv.out.1 (HXv.out.mono fun j hj => hj) (fun k hk => ⟨by have := HSv.out.lt; omega, by have := (Array.getElem?_eq_some_iff.1 HEv.out.1).1; omega⟩) (fun k hk => by have := HPL.out; omega) HCv.out).mono ?_
        rintro e w8 ⟨v, rfl, hes, hp8, hg8, hd8, hm8⟩
        obtain ⟨v1, v2, v3, rfl⟩ := hes.sl
        unfold rxv rx
        dsimp only
        refine hK _ _ ?_
        clear hK K
        have HSv0 : Hid (Sg w pb g c L b t n1 q' (o + 1) m' w8) := HSv.out.call hg8 hp8
        clear HSv
        have HSv : Hid (Sg w pb g c L b t n1 q' (o + 1) m' w8) := HSv0
        clear HSv0
        have HYv : Hid (ESlP w8 (fun j => w.heap.size < j ∧ j ≠ w3.heap.size) (.slice v1 v2 v3) y.args) := hes
        have HDy : Hid (y.deep ≤ 48 ∧ m' ≤ 600) := ⟨hd8, hm8⟩
        replace HEv : Hid (w8.heap[w3.heap.size]? = some (.cells #[.int .i64 0, .int .i64 0, .string ⟨#[]⟩, .int .i64 0, .slice none 0 0, .int .i64 0] 98) ∧ w.heap.size < w3.heap.size) := ⟨keepG HEv.out.1 hg8 (by have := HEv.out.2; have := HPL.out; omega), HEv.out.2⟩
        clear hes hp8 hg8 hd8 hm8 HXv HCv
        refine wpAny_ready (rs := [9]) (by kernel_rfl) (by simp) ?_
        refine AllReady.cons rfl (fun K hK => ?_) AllReady.nil
        obtain ⟨a0, a1, a2, a3, a4, a5, b0, b1, b2, b3, b4, b5⟩ := z98_c HEv.out.1
        have HFIN : Hid (Sd w pb g c L b q' (o + 1) m' y (.pointer (some ⟨w3.heap.size, 0, none⟩)) (set6 w8 (w3.heap.size) (.int .i64 y.kind) (.int .i64 y.num) (.string y.name) (.int .i64 y.op) (.slice v1 v2 v3) (.int .i64 (y.deep : Int)))) := Sd.mk HSv.out.ps HSv.out.gr HSv.out.z HEv.out.1 HEv.out.2 HPL.out.1 HPL.out.2 (HYv.out.mono fun j hj => hj) HDy.out.1 HDy.out.2
        go_simp
        refine hK _ _ ?_
        clear hK K
        refine wpAny_done (by kernel_rfl) ?_ _
        go_wp2_with fail
        go_meet
        exact HFIN.out
    · rename_i hK
      refine (HA.out _ HD1.out).mono ?_
      rintro e w3 ⟨u1, u2, u3, rfl, ⟨hs3, he3, hd3, hm3⟩, hg3⟩
      refine hK _ _ ?_
      clear hK
      have HSv : Hid (Sg w pb g c L b t n1 q (o + 1) m w3) := hs3
      have HXv : Hid (ESlP w3 (fun j => w.heap.size < j ∧ j ≠ W.heap.size) (.slice u1 u2 u3) x.args) := he3.mono fun j hj => by have h1 : (W.drew.alloc (.cells #[.int .i64 0, .int .i64 0, .string ⟨#[]⟩, .int .i64 0, .slice none 0 0, .int .i64 0] 98)).heap.size ≤ j := hj; have h2 : (W.drew.alloc (.cells #[.int .i64 0, .int .i64 0, .string ⟨#[]⟩, .int .i64 0, .slice none 0 0, .int .i64 0] 98)).heap.size = W.heap.size + 1 := (by show (Array.push _ _).size = _; simp); have := HK1.out.2; exact ⟨by omega, by omega⟩
      have HDv : Hid (x.deep ≤ 48 ∧ m ≤ 600) := ⟨hd3, hm3⟩
      have HEv : Hid (w3.heap[W.heap.size]? = some (.cells #[.int .i64 0, .int .i64 0, .string ⟨#[]⟩, .int .i64 0, .slice none 0 0, .int .i64 0] 98) ∧ w.heap.size < W.heap.size) := ⟨keepG HK1.out.1 hg3 (by have := HK1.out.2; have := HPL.out; omega), HK1.out.2⟩
      clear hs3 he3 hd3 hm3 hg3
      obtain ⟨tb0, tb1, tb2, tb3⟩ := tc4_c HSv.out.tt
      refine wpAny_ready (rs := [6]) (by kernel_rfl) (by simp) ?_
      refine AllReady.cons rfl (fun K hK => ?_) AllReady.nil
      go_simp
      refine hK _ _ ?_
      clear hK K
      replace HSv : Hid (Sg w pb g c L b t n1 q (o + 1) m (w3.alloc (.cells #[.int .i64 x.kind, .int .i64 x.num, .string x.name, .int .i64 x.op, .slice u1 u2 u3, .int .i64 (x.deep : Int)] 98))) := HSv.out.alloc _
      replace HXv : Hid (ESlP (w3.alloc (.cells #[.int .i64 x.kind, .int .i64 x.num, .string x.name, .int .i64 x.op, .slice u1 u2 u3, .int .i64 (x.deep : Int)] 98)) (fun j => w.heap.size < j ∧ j ≠ W.heap.size) (.slice u1 u2 u3) x.args) := HXv.out.keep fun j _ hj => heap_alloc_old _ _ hj
      have HCv : Hid ((w3.alloc (.cells #[.int .i64 x.kind, .int .i64 x.num, .string x.name, .int .i64 x.op, .slice u1 u2 u3, .int .i64 (x.deep : Int)] 98)).heap[w3.heap.size]? = some (.cells #[.int .i64 x.kind, .int .i64 x.num, .string x.name, .int .i64 x.op, .slice u1 u2 u3, .int .i64 (x.deep : Int)] 98)) := heap_alloc_new _ _
      replace HEv : Hid ((w3.alloc (.cells #[.int .i64 x.kind, .int .i64 x.num, .string x.name, .int .i64 x.op, .slice u1 u2 u3, .int .i64 (x.deep : Int)] 98)).heap[W.heap.size]? = some (.cells #[.int .i64 0, .int .i64 0, .string ⟨#[]⟩, .int .i64 0, .slice none 0 0, .int .i64 0] 98) ∧ w.heap.size < W.heap.size) := ⟨keepA HEv.out.1 _, HEv.out.2⟩
      refine wpAny_ready (rs := [7]) (by kernel_rfl) (by simp) ?_
      refine AllReady.cons rfl (fun K hK => ?_) AllReady.nil
      go_simp
      refine (HM.out (w3.alloc (.cells #[.int .i64 x.kind, .int .i64 x.num, .string x.name, .int .i64 x.op, .slice u1 u2 u3, .int .i64 (x.deep : Int)] 98)) _ _ _ _ (fun j => w.heap.size < j ∧ j ≠ W.heap.size) HSv.out HDv.out.2 HDv.out.1 (HXv.out.mono fun j hj => hj) (fun k hk => ⟨by have := HSv.out.lt; omega, by have := (Array.getElem?_eq_some_iff.1 HEv.out.1).1; omega⟩) (fun k hk => by have := HPL.out; omega) HCv.out).mono ?_
      rintro e w8 ⟨v, rfl, hes, hp8, hg8, hd8, hm8⟩
      obtain ⟨v1, v2, v3, rfl⟩ := hes.sl
      unfold rxv rx
      dsimp only
      refine hK _ _ ?_
      clear hK K
      have HSv0 : Hid (Sg w pb g c L b t n1 q' (o + 1) m' w8) := HSv.out.call hg8 hp8
      clear HSv
      have HSv : Hid (Sg w pb g c L b t n1 q' (o + 1) m' w8) := HSv0
      clear HSv0
      have HYv : Hid (ESlP w8 (fun j => w.heap.size < j ∧ j ≠ W.heap.size) (.slice v1 v2 v3) y.args) := hes
      have HDy : Hid (y.deep ≤ 48 ∧ m' ≤ 600) := ⟨hd8, hm8⟩
      replace HEv : Hid (w8.heap[W.heap.size]? = some (.cells #[.int .i64 0, .int .i64 0, .string ⟨#[]⟩, .int .i64 0, .slice none 0 0, .int .i64 0] 98) ∧ w.heap.size < W.heap.size) := ⟨keepG HEv.out.1 hg8 (by have := HEv.out.2; have := HPL.out; omega), HEv.out.2⟩
      clear hes hp8 hg8 hd8 hm8 HXv HCv
      refine wpAny_ready (rs := [9]) (by kernel_rfl) (by simp) ?_
      refine AllReady.cons rfl (fun K hK => ?_) AllReady.nil
      obtain ⟨a0, a1, a2, a3, a4, a5, b0, b1, b2, b3, b4, b5⟩ := z98_c HEv.out.1
      have HFIN : Hid (Sd w pb g c L b q' (o + 1) m' y (.pointer (some ⟨W.heap.size, 0, none⟩)) (set6 w8 (W.heap.size) (.int .i64 y.kind) (.int .i64 y.num) (.string y.name) (.int .i64 y.op) (.slice v1 v2 v3) (.int .i64 (y.deep : Int)))) := Sd.mk HSv.out.ps HSv.out.gr HSv.out.z HEv.out.1 HEv.out.2 HPL.out.1 HPL.out.2 (HYv.out.mono fun j hj => hj) HDy.out.1 HDy.out.2
      go_simp
      refine hK _ _ ?_
      clear hK K
      refine wpAny_done (by kernel_rfl) ?_ _
      go_wp2_with fail
      go_meet
      exact HFIN.out
    · rename_i hK
      refine (HA.out _ HD0.out).mono ?_
      rintro e w3 ⟨u1, u2, u3, rfl, ⟨hs3, he3, hd3, hm3⟩, hg3⟩
      refine hK _ _ ?_
      clear hK
      have HSv : Hid (Sg w pb g c L b t n1 q (o + 1) m w3) := hs3
      have HXv : Hid (ESlP w3 (fun j => w.heap.size < j) (.slice u1 u2 u3) x.args) := he3.mono fun j hj => by have h1 : W.heap.size ≤ j := hj; have := HK1.out.2; omega
      have HDv : Hid (x.deep ≤ 48 ∧ m ≤ 600) := ⟨hd3, hm3⟩
      clear hs3 he3 hd3 hm3 hg3
      obtain ⟨tb0, tb1, tb2, tb3⟩ := tc4_c HSv.out.tt
      refine wpAny_ready (rs := [1, 6, 8]) (by kernel_rfl) (by simp) ?_
      refine AllReady.cons rfl (fun K hK => ?_) (AllReady.cons rfl (fun K hK => ?_) (AllReady.cons rfl (fun K hK => ?_) (AllReady.nil)))
      · go_simp
        refine hK _ _ ?_
        clear hK K
        refine wpAny_ready (rs := [6, 8]) (by kernel_rfl) (by simp) ?_
        refine AllReady.cons rfl (fun K hK => ?_) (AllReady.cons rfl (fun K hK => ?_) (AllReady.nil))
        · go_simp
          refine hK _ _ ?_
          clear hK K
          replace HSv : Hid (Sg w pb g c L b t n1 q (o + 1) m (w3.alloc (.cells #[.int .i64 x.kind, .int .i64 x.num, .string x.name, .int .i64 x.op, .slice u1 u2 u3, .int .i64 (x.deep : Int)] 98))) := HSv.out.alloc _
          replace HXv : Hid (ESlP (w3.alloc (.cells #[.int .i64 x.kind, .int .i64 x.num, .string x.name, .int .i64 x.op, .slice u1 u2 u3, .int .i64 (x.deep : Int)] 98)) (fun j => w.heap.size < j) (.slice u1 u2 u3) x.args) := HXv.out.keep fun j _ hj => heap_alloc_old _ _ hj
          have HCv : Hid ((w3.alloc (.cells #[.int .i64 x.kind, .int .i64 x.num, .string x.name, .int .i64 x.op, .slice u1 u2 u3, .int .i64 (x.deep : Int)] 98)).heap[w3.heap.size]? = some (.cells #[.int .i64 x.kind, .int .i64 x.num, .string x.name, .int .i64 x.op, .slice u1 u2 u3, .int .i64 (x.deep : Int)] 98)) := heap_alloc_new _ _
          refine wpAny_ready (rs := [7, 8]) (by kernel_rfl) (by simp) ?_
          refine AllReady.cons rfl (fun K hK => ?_) (AllReady.cons rfl (fun K hK => ?_) (AllReady.nil))
          · go_simp
            refine (HM.out (w3.alloc (.cells #[.int .i64 x.kind, .int .i64 x.num, .string x.name, .int .i64 x.op, .slice u1 u2 u3, .int .i64 (x.deep : Int)] 98)) _ _ _ _ (fun j => w.heap.size < j) HSv.out HDv.out.2 HDv.out.1 (HXv.out.mono fun j hj => hj) (fun k hk => by have := HSv.out.lt; omega) (fun k hk => by have := HPL.out; omega) HCv.out).mono ?_
            rintro e w8 ⟨v, rfl, hes, hp8, hg8, hd8, hm8⟩
            obtain ⟨v1, v2, v3, rfl⟩ := hes.sl
            unfold rxv rx
            dsimp only
            refine hK _ _ ?_
            clear hK K
            have HSv0 : Hid (Sg w pb g c L b t n1 q' (o + 1) m' w8) := HSv.out.call hg8 hp8
            clear HSv
            have HSv : Hid (Sg w pb g c L b t n1 q' (o + 1) m' w8) := HSv0
            clear HSv0
            have HYv : Hid (ESlP w8 (fun j => w.heap.size < j) (.slice v1 v2 v3) y.args) := hes
            have HDy : Hid (y.deep ≤ 48 ∧ m' ≤ 600) := ⟨hd8, hm8⟩
            clear hes hp8 hg8 hd8 hm8 HXv HCv
            refine wpAny_ready (rs := [8]) (by kernel_rfl) (by simp) ?_
            refine AllReady.cons rfl (fun K hK => ?_) AllReady.nil
            have HSv0 := HSv
            go_simp
            refine hK _ _ ?_
            clear hK K
            replace HSv : Hid (Sg w pb g c L b t n1 q' (o + 1) m' (w8.alloc (.cells #[.int .i64 0, .int .i64 0, .string ⟨#[]⟩, .int .i64 0, .slice none 0 0, .int .i64 0] 98))) := HSv.out.alloc _
            have HEv : Hid ((w8.alloc (.cells #[.int .i64 0, .int .i64 0, .string ⟨#[]⟩, .int .i64 0, .slice none 0 0, .int .i64 0] 98)).heap[w8.heap.size]? = some (.cells #[.int .i64 0, .int .i64 0, .string ⟨#[]⟩, .int .i64 0, .slice none 0 0, .int .i64 0] 98) ∧ w.heap.size < w8.heap.size) := ⟨heap_alloc_new _ _, by have := HSv0.out.lt; (try simp at this); omega⟩
            have HYw := HYv
            replace HYv : Hid (ESlP (w8.alloc (.cells #[.int .i64 0, .int .i64 0, .string ⟨#[]⟩, .int .i64 0, .slice none 0 0, .int .i64 0] 98)) (fun j => w.heap.size < j ∧ j ≠ w8.heap.size) (.slice v1 v2 v3) y.args) := (HYv.out.mono' fun j hj hj2 => ⟨hj, by omega⟩).keep fun j _ hj => heap_alloc_old _ _ hj
            refine wpAny_ready (rs := [9]) (by kernel_rfl) (by simp) ?_
            refine AllReady.cons rfl (fun K hK => ?_) AllReady.nil
            have HFIN : Hid (Sd w pb g c L b q' (o + 1) m' y (.pointer (some ⟨w8.heap.size, 0, none⟩)) (w8.alloc (.cells #[.int .i64 y.kind, .int .i64 y.num, .string y.name, .int .i64 y.op, .slice v1 v2 v3, .int .i64 (y.deep : Int)] 98))) := Sd.new HSv0.out.ps HSv0.out.gr HSv0.out.z HYw.out HDy.out.1 HDy.out.2
            go_simp
            refine hK _ _ ?_
            clear hK K
            refine wpAny_done (by kernel_rfl) ?_ _
            go_wp2_with fail
            go_meet
            exact HFIN.out
          · have HSv0 := HSv
            go_simp
            refine hK _ _ ?_
            clear hK K
            replace HSv : Hid (Sg w pb g c L b t n1 q (o + 1) m ((w3.alloc (.cells #[.int .i64 x.kind, .int .i64 x.num, .string x.name, .int .i64 x.op, .slice u1 u2 u3, .int .i64 (x.deep : Int)] 98)).alloc (.cells #[.int .i64 0, .int .i64 0, .string ⟨#[]⟩, .int .i64 0, .slice none 0 0, .int .i64 0] 98))) := HSv.out.alloc _
            replace HXv : Hid (ESlP ((w3.alloc (.cells #[.int .i64 x.kind, .int .i64 x.num, .string x.name, .int .i64 x.op, .slice u1 u2 u3, .int .i64 (x.deep : Int)] 98)).alloc (.cells #[.int .i64 0, .int .i64 0, .string ⟨#[]⟩, .int .i64 0, .slice none 0 0, .int .i64 0] 98)) (fun j => w.heap.size < j ∧ j ≠ w3.heap.size + 1) (.slice u1 u2 u3) x.args) := (HXv.out.mono' fun j hj hj2 => ⟨hj, by (try simp at hj2); omega⟩).keep fun j _ hj => heap_alloc_old _ _ hj
            replace HCv : Hid (((w3.alloc (.cells #[.int .i64 x.kind, .int .i64 x.num, .string x.name, .int .i64 x.op, .slice u1 u2 u3, .int .i64 (x.deep : Int)] 98)).alloc (.cells #[.int .i64 0, .int .i64 0, .string ⟨#[]⟩, .int .i64 0, .slice none 0 0, .int .i64 0] 98)).heap[w3.heap.size]? = some (.cells #[.int .i64 x.kind, .int .i64 x.num, .string x.name, .int .i64 x.op, .slice u1 u2 u3, .int .i64 (x.deep : Int)] 98)) := keepA HCv.out _
            have HEv : Hid (((w3.alloc (.cells #[.int .i64 x.kind, .int .i64 x.num, .string x.name, .int .i64 x.op, .slice u1 u2 u3, .int .i64 (x.deep : Int)] 98)).alloc (.cells #[.int .i64 0, .int .i64 0, .string ⟨#[]⟩, .int .i64 0, .slice none 0 0, .int .i64 0] 98)).heap[w3.heap.size + 1]? = some (.cells #[.int .i64 0, .int .i64 0, .string ⟨#[]⟩, .int .i64 0, .slice none 0 0, .int .i64 0] 98) ∧ w.heap.size < w3.heap.size + 1) := ⟨(by have h := heap_alloc_new (w3.alloc (.cells #[.int .i64 x.kind, .int .i64 x.num, .string x.name, .int .i64 x.op, .slice u1 u2 u3, .int .i64 (x.deep : Int)] 98)) (.cells #[.int .i64 0, .int .i64 0, .string ⟨#[]⟩, .int .i64 0, .slice none 0 0, .int .i64 0] 98); rw [show (w3.alloc (.cells #[.int .i64 x.kind, .int .i64 x.num, .string x.name, .int .i64 x.op, .slice u1 u2 u3, .int .i64 (x.deep : Int)] 98)).heap.size = w3.heap.size + 1 from by simp] at h; exact h), by have := HSv0.out.lt; (try simp at this); omega⟩
            refine wpAny_ready (rs := [7]) (by kernel_rfl) (by simp) ?_
            refine AllReady.cons rfl (fun K hK => ?_) AllReady.nil
            go_simp
            refine (HM.out ((w3.alloc (.cells #[.int .i64 x.kind, .int .i64 x.num, .string x.name, .int .i64 x.op, .slice u1 u2 u3, .int .i64 (x.deep : Int)] 98)).alloc (.cells #[.int .i64 0, .int .i64 0, .string ⟨#[]⟩, .int .i64 0, .slice none 0 0, .int .i64 0] 98)) _ _ _ _ (fun j => w.heap.size < j ∧ j ≠ w3.heap.size + 1) HSv.out HDv.out.2 HDv.out.1 (HXv.out.mono fun j hj => hj) (fun k hk => ⟨by have := HSv.out.lt; omega, by have := (Array.getElem?_eq_some_iff.1 HEv.out.1).1; omega⟩) (fun k hk => by have := HPL.out; omega) HCv.out).mono ?_
            rintro e w8 ⟨v, rfl, hes, hp8, hg8, hd8, hm8⟩
            obtain ⟨v1, v2, v3, rfl⟩ := hes.sl
            unfold rxv rx
            dsimp only
            refine hK _ _ ?_
            clear hK K
            have HSv0 : Hid (Sg w pb g c L b t n1 q' (o + 1) m' w8) := HSv.out.call hg8 hp8
            clear HSv
            have HSv : Hid (Sg w pb g c L b t n1 q' (o + 1) m' w8) := HSv0
            clear HSv0
            have HYv : Hid (ESlP w8 (fun j => w.heap.size < j ∧ j ≠ w3.heap.size + 1) (.slice v1 v2 v3) y.args) := hes
            have HDy : Hid (y.deep ≤ 48 ∧ m' ≤ 600) := ⟨hd8, hm8⟩
            replace HEv : Hid (w8.heap[w3.heap.size + 1]? = some (.cells #[.int .i64 0, .int .i64 0, .string ⟨#[]⟩, .int .i64 0, .slice none 0 0, .int .i64 0] 98) ∧ w.heap.size < w3.heap.size + 1) := ⟨keepG HEv.out.1 hg8 (by have := HEv.out.2; have := HPL.out; omega), HEv.out.2⟩
            clear hes hp8 hg8 hd8 hm8 HXv HCv
            refine wpAny_ready (rs := [9]) (by kernel_rfl) (by simp) ?_
            refine AllReady.cons rfl (fun K hK => ?_) AllReady.nil
            obtain ⟨a0, a1, a2, a3, a4, a5, b0, b1, b2, b3, b4, b5⟩ := z98_c HEv.out.1
            have HFIN : Hid (Sd w pb g c L b q' (o + 1) m' y (.pointer (some ⟨w3.heap.size + 1, 0, none⟩)) (set6 w8 (w3.heap.size + 1) (.int .i64 y.kind) (.int .i64 y.num) (.string y.name) (.int .i64 y.op) (.slice v1 v2 v3) (.int .i64 (y.deep : Int)))) := Sd.mk HSv.out.ps HSv.out.gr HSv.out.z HEv.out.1 HEv.out.2 HPL.out.1 HPL.out.2 (HYv.out.mono fun j hj => hj) HDy.out.1 HDy.out.2
            go_simp
            refine hK _ _ ?_
            clear hK K
            refine wpAny_done (by kernel_rfl) ?_ _
            go_wp2_with fail
            go_meet
            exact HFIN.out
        · have HSv0 := HSv
          go_simp
          refine hK _ _ ?_
          clear hK K
          replace HSv : Hid (Sg w pb g c L b t n1 q (o + 1) m (w3.alloc (.cells #[.int .i64 0, .int .i64 0, .string ⟨#[]⟩, .int .i64 0, .slice none 0 0, .int .i64 0] 98))) := HSv.out.alloc _
          replace HXv : Hid (ESlP (w3.alloc (.cells #[.int .i64 0, .int .i64 0, .string ⟨#[]⟩, .int .i64 0, .slice none 0 0, .int .i64 0] 98)) (fun j => w.heap.size < j ∧ j ≠ w3.heap.size) (.slice u1 u2 u3) x.args) := (HXv.out.mono' fun j hj hj2 => ⟨hj, by (try simp at hj2); omega⟩).keep fun j _ hj => heap_alloc_old _ _ hj
          have HEv : Hid ((w3.alloc (.cells #[.int .i64 0, .int .i64 0, .string ⟨#[]⟩, .int .i64 0, .slice none 0 0, .int .i64 0] 98)).heap[w3.heap.size]? = some (.cells #[.int .i64 0, .int .i64 0, .string ⟨#[]⟩, .int .i64 0, .slice none 0 0, .int .i64 0] 98) ∧ w.heap.size < w3.heap.size) := ⟨heap_alloc_new _ _, by have := HSv0.out.lt; (try simp at this); omega⟩
          refine wpAny_ready (rs := [6]) (by kernel_rfl) (by simp) ?_
          refine AllReady.cons rfl (fun K hK => ?_) AllReady.nil
          go_simp
          refine hK _ _ ?_
          clear hK K
          replace HSv : Hid (Sg w pb g c L b t n1 q (o + 1) m ((w3.alloc (.cells #[.int .i64 0, .int .i64 0, .string ⟨#[]⟩, .int .i64 0, .slice none 0 0, .int .i64 0] 98)).alloc (.cells #[.int .i64 x.kind, .int .i64 x.num, .string x.name, .int .i64 x.op, .slice u1 u2 u3, .int .i64 (x.deep : Int)] 98))) := HSv.out.alloc _
          replace HXv : Hid (ESlP ((w3.alloc (.cells #[.int .i64 0, .int .i64 0, .string ⟨#[]⟩, .int .i64 0, .slice none 0 0, .int .i64 0] 98)).alloc (.cells #[.int .i64 x.kind, .int .i64 x.num, .string x.name, .int .i64 x.op, .slice u1 u2 u3, .int .i64 (x.deep : Int)] 98)) (fun j => w.heap.size < j ∧ j ≠ w3.heap.size) (.slice u1 u2 u3) x.args) := HXv.out.keep fun j _ hj => heap_alloc_old _ _ hj
          have HCv : Hid (((w3.alloc (.cells #[.int .i64 0, .int .i64 0, .string ⟨#[]⟩, .int .i64 0, .slice none 0 0, .int .i64 0] 98)).alloc (.cells #[.int .i64 x.kind, .int .i64 x.num, .string x.name, .int .i64 x.op, .slice u1 u2 u3, .int .i64 (x.deep : Int)] 98)).heap[w3.heap.size + 1]? = some (.cells #[.int .i64 x.kind, .int .i64 x.num, .string x.name, .int .i64 x.op, .slice u1 u2 u3, .int .i64 (x.deep : Int)] 98)) := (by have h := heap_alloc_new (w3.alloc (.cells #[.int .i64 0, .int .i64 0, .string ⟨#[]⟩, .int .i64 0, .slice none 0 0, .int .i64 0] 98)) (.cells #[.int .i64 x.kind, .int .i64 x.num, .string x.name, .int .i64 x.op, .slice u1 u2 u3, .int .i64 (x.deep : Int)] 98); rw [show (w3.alloc (.cells #[.int .i64 0, .int .i64 0, .string ⟨#[]⟩, .int .i64 0, .slice none 0 0, .int .i64 0] 98)).heap.size = w3.heap.size + 1 from by simp] at h; exact h)
          replace HEv : Hid (((w3.alloc (.cells #[.int .i64 0, .int .i64 0, .string ⟨#[]⟩, .int .i64 0, .slice none 0 0, .int .i64 0] 98)).alloc (.cells #[.int .i64 x.kind, .int .i64 x.num, .string x.name, .int .i64 x.op, .slice u1 u2 u3, .int .i64 (x.deep : Int)] 98)).heap[w3.heap.size]? = some (.cells #[.int .i64 0, .int .i64 0, .string ⟨#[]⟩, .int .i64 0, .slice none 0 0, .int .i64 0] 98) ∧ w.heap.size < w3.heap.size) := ⟨keepA HEv.out.1 _, HEv.out.2⟩
          refine wpAny_ready (rs := [7]) (by kernel_rfl) (by simp) ?_
          refine AllReady.cons rfl (fun K hK => ?_) AllReady.nil
          go_simp
          refine (HM.out ((w3.alloc (.cells #[.int .i64 0, .int .i64 0, .string ⟨#[]⟩, .int .i64 0, .slice none 0 0, .int .i64 0] 98)).alloc (.cells #[.int .i64 x.kind, .int .i64 x.num, .string x.name, .int .i64 x.op, .slice u1 u2 u3, .int .i64 (x.deep : Int)] 98)) _ _ _ _ (fun j => w.heap.size < j ∧ j ≠ w3.heap.size) HSv.out HDv.out.2 HDv.out.1 (HXv.out.mono fun j hj => hj) (fun k hk => ⟨by have := HSv.out.lt; omega, by have := (Array.getElem?_eq_some_iff.1 HEv.out.1).1; omega⟩) (fun k hk => by have := HPL.out; omega) HCv.out).mono ?_
          rintro e w8 ⟨v, rfl, hes, hp8, hg8, hd8, hm8⟩
          obtain ⟨v1, v2, v3, rfl⟩ := hes.sl
          unfold rxv rx
          dsimp only
          refine hK _ _ ?_
          clear hK K
          have HSv0 : Hid (Sg w pb g c L b t n1 q' (o + 1) m' w8) := HSv.out.call hg8 hp8
          clear HSv
          have HSv : Hid (Sg w pb g c L b t n1 q' (o + 1) m' w8) := HSv0
          clear HSv0
          have HYv : Hid (ESlP w8 (fun j => w.heap.size < j ∧ j ≠ w3.heap.size) (.slice v1 v2 v3) y.args) := hes
          have HDy : Hid (y.deep ≤ 48 ∧ m' ≤ 600) := ⟨hd8, hm8⟩
          replace HEv : Hid (w8.heap[w3.heap.size]? = some (.cells #[.int .i64 0, .int .i64 0, .string ⟨#[]⟩, .int .i64 0, .slice none 0 0, .int .i64 0] 98) ∧ w.heap.size < w3.heap.size) := ⟨keepG HEv.out.1 hg8 (by have := HEv.out.2; have := HPL.out; omega), HEv.out.2⟩
          clear hes hp8 hg8 hd8 hm8 HXv HCv
          refine wpAny_ready (rs := [9]) (by kernel_rfl) (by simp) ?_
          refine AllReady.cons rfl (fun K hK => ?_) AllReady.nil
          obtain ⟨a0, a1, a2, a3, a4, a5, b0, b1, b2, b3, b4, b5⟩ := z98_c HEv.out.1
          have HFIN : Hid (Sd w pb g c L b q' (o + 1) m' y (.pointer (some ⟨w3.heap.size, 0, none⟩)) (set6 w8 (w3.heap.size) (.int .i64 y.kind) (.int .i64 y.num) (.string y.name) (.int .i64 y.op) (.slice v1 v2 v3) (.int .i64 (y.deep : Int)))) := Sd.mk HSv.out.ps HSv.out.gr HSv.out.z HEv.out.1 HEv.out.2 HPL.out.1 HPL.out.2 (HYv.out.mono fun j hj => hj) HDy.out.1 HDy.out.2
          go_simp
          refine hK _ _ ?_
          clear hK K
          refine wpAny_done (by kernel_rfl) ?_ _
          go_wp2_with fail
          go_meet
          exact HFIN.out
      · go_simp
        refine hK _ _ ?_
        clear hK K
        replace HSv : Hid (Sg w pb g c L b t n1 q (o + 1) m (w3.alloc (.cells #[.int .i64 x.kind, .int .i64 x.num, .string x.name, .int .i64 x.op, .slice u1 u2 u3, .int .i64 (x.deep : Int)] 98))) := HSv.out.alloc _
        replace HXv : Hid (ESlP (w3.alloc (.cells #[.int .i64 x.kind, .int .i64 x.num, .string x.name, .int .i64 x.op, .slice u1 u2 u3, .int .i64 (x.deep : Int)] 98)) (fun j => w.heap.size < j) (.slice u1 u2 u3) x.args) := HXv.out.keep fun j _ hj => heap_alloc_old _ _ hj
        have HCv : Hid ((w3.alloc (.cells #[.int .i64 x.kind, .int .i64 x.num, .string x.name, .int .i64 x.op, .slice u1 u2 u3, .int .i64 (x.deep : Int)] 98)).heap[w3.heap.size]? = some (.cells #[.int .i64 x.kind, .int .i64 x.num, .string x.name, .int .i64 x.op, .slice u1 u2 u3, .int .i64 (x.deep : Int)] 98)) := heap_alloc_new _ _
        obtain ⟨ta0, ta1, ta2, ta3⟩ := tc4_c HSv.out.tt
        refine wpAny_ready (rs := [1, 8]) (by kernel_rfl) (by simp) ?_
        refine AllReady.cons rfl (fun K hK => ?_) (AllReady.cons rfl (fun K hK => ?_) (AllReady.nil))
        · go_simp
          refine hK _ _ ?_
          clear hK K
          refine wpAny_ready (rs := [7, 8]) (by kernel_rfl) (by simp) ?_
          refine AllReady.cons rfl (fun K hK => ?_) (AllReady.cons rfl (fun K hK => ?_) (AllReady.nil))
          · go_simp
            refine (HM.out (w3.alloc (.cells #[.int .i64 x.kind, .int .i64 x.num, .string x.name, .int .i64 x.op, .slice u1 u2 u3, .int .i64 (x.deep : Int)] 98)) _ _ _ _ (fun j => w.heap.size < j) HSv.out HDv.out.2 HDv.out.1 (HXv.out.mono fun j hj => hj) (fun k hk => by have := HSv.out.lt; omega) (fun k hk => by have := HPL.out; omega) HCv.out).mono ?_
            rintro e w8 ⟨v, rfl, hes, hp8, hg8, hd8, hm8⟩
            obtain ⟨v1, v2, v3, rfl⟩ := hes.sl
            unfold rxv rx
            dsimp only
            refine hK _ _ ?_
            clear hK K
            have HSv0 : Hid (Sg w pb g c L b t n1 q' (o + 1) m' w8) := HSv.out.call hg8 hp8
            clear HSv
            have HSv : Hid (Sg w pb g c L b t n1 q' (o + 1) m' w8) := HSv0
            clear HSv0
            have HYv : Hid (ESlP w8 (fun j => w.heap.size < j) (.slice v1 v2 v3) y.args) := hes
            have HDy : Hid (y.deep ≤ 48 ∧ m' ≤ 600) := ⟨hd8, hm8⟩
            clear hes hp8 hg8 hd8 hm8 HXv HCv
            refine wpAny_ready (rs := [8]) (by kernel_rfl) (by simp) ?_
            refine AllReady.cons rfl (fun K hK => ?_) AllReady.nil
            have HSv0 := HSv
            go_simp
            refine hK _ _ ?_
            clear hK K
            replace HSv : Hid (Sg w pb g c L b t n1 q' (o + 1) m' (w8.alloc (.cells #[.int .i64 0, .int .i64 0, .string ⟨#[]⟩, .int .i64 0, .slice none 0 0, .int .i64 0] 98))) := HSv.out.alloc _
            have HEv : Hid ((w8.alloc (.cells #[.int .i64 0, .int .i64 0, .string ⟨#[]⟩, .int .i64 0, .slice none 0 0, .int .i64 0] 98)).heap[w8.heap.size]? = some (.cells #[.int .i64 0, .int .i64 0, .string ⟨#[]⟩, .int .i64 0, .slice none 0 0, .int .i64 0] 98) ∧ w.heap.size < w8.heap.size) := ⟨heap_alloc_new _ _, by have := HSv0.out.lt; (try simp at this); omega⟩
            have HYw := HYv
            replace HYv : Hid (ESlP (w8.alloc (.cells #[.int .i64 0, .int .i64 0, .string ⟨#[]⟩, .int .i64 0, .slice none 0 0, .int .i64 0] 98)) (fun j => w.heap.size < j ∧ j ≠ w8.heap.size) (.slice v1 v2 v3) y.args) := (HYv.out.mono' fun j hj hj2 => ⟨hj, by omega⟩).keep fun j _ hj => heap_alloc_old _ _ hj
            refine wpAny_ready (rs := [9]) (by kernel_rfl) (by simp) ?_
            refine AllReady.cons rfl (fun K hK => ?_) AllReady.nil
            have HFIN : Hid (Sd w pb g c L b q' (o + 1) m' y (.pointer (some ⟨w8.heap.size, 0, none⟩)) (w8.alloc (.cells #[.int .i64 y.kind, .int .i64 y.num, .string y.name, .int .i64 y.op, .slice v1 v2 v3, .int .i64 (y.deep : Int)] 98))) := Sd.new HSv0.out.ps HSv0.out.gr HSv0.out.z HYw.out HDy.out.1 HDy.out.2
            go_simp
            refine hK _ _ ?_
            clear hK K
            refine wpAny_done (by kernel_rfl) ?_ _
            go_wp2_with fail
            go_meet
            exact HFIN.out
          · have HSv0 := HSv
            go_simp
            refine hK _ _ ?_
            clear hK K
            replace HSv : Hid (Sg w pb g c L b t n1 q (o + 1) m ((w3.alloc (.cells #[.int .i64 x.kind, .int .i64 x.num, .string x.name, .int .i64 x.op, .slice u1 u2 u3, .int .i64 (x.deep : Int)] 98)).alloc (.cells #[.int .i64 0, .int .i64 0, .string ⟨#[]⟩, .int .i64 0, .slice none 0 0, .int .i64 0] 98))) := HSv.out.alloc _
            replace HXv : Hid (ESlP ((w3.alloc (.cells #[.int .i64 x.kind, .int .i64 x.num, .string x.name, .int .i64 x.op, .slice u1 u2 u3, .int .i64 (x.deep : Int)] 98)).alloc (.cells #[.int .i64 0, .int .i64 0, .string ⟨#[]⟩, .int .i64 0, .slice none 0 0, .int .i64 0] 98)) (fun j => w.heap.size < j ∧ j ≠ w3.heap.size + 1) (.slice u1 u2 u3) x.args) := (HXv.out.mono' fun j hj hj2 => ⟨hj, by (try simp at hj2); omega⟩).keep fun j _ hj => heap_alloc_old _ _ hj
            replace HCv : Hid (((w3.alloc (.cells #[.int .i64 x.kind, .int .i64 x.num, .string x.name, .int .i64 x.op, .slice u1 u2 u3, .int .i64 (x.deep : Int)] 98)).alloc (.cells #[.int .i64 0, .int .i64 0, .string ⟨#[]⟩, .int .i64 0, .slice none 0 0, .int .i64 0] 98)).heap[w3.heap.size]? = some (.cells #[.int .i64 x.kind, .int .i64 x.num, .string x.name, .int .i64 x.op, .slice u1 u2 u3, .int .i64 (x.deep : Int)] 98)) := keepA HCv.out _
            have HEv : Hid (((w3.alloc (.cells #[.int .i64 x.kind, .int .i64 x.num, .string x.name, .int .i64 x.op, .slice u1 u2 u3, .int .i64 (x.deep : Int)] 98)).alloc (.cells #[.int .i64 0, .int .i64 0, .string ⟨#[]⟩, .int .i64 0, .slice none 0 0, .int .i64 0] 98)).heap[w3.heap.size + 1]? = some (.cells #[.int .i64 0, .int .i64 0, .string ⟨#[]⟩, .int .i64 0, .slice none 0 0, .int .i64 0] 98) ∧ w.heap.size < w3.heap.size + 1) := ⟨(by have h := heap_alloc_new (w3.alloc (.cells #[.int .i64 x.kind, .int .i64 x.num, .string x.name, .int .i64 x.op, .slice u1 u2 u3, .int .i64 (x.deep : Int)] 98)) (.cells #[.int .i64 0, .int .i64 0, .string ⟨#[]⟩, .int .i64 0, .slice none 0 0, .int .i64 0] 98); rw [show (w3.alloc (.cells #[.int .i64 x.kind, .int .i64 x.num, .string x.name, .int .i64 x.op, .slice u1 u2 u3, .int .i64 (x.deep : Int)] 98)).heap.size = w3.heap.size + 1 from by simp] at h; exact h), by have := HSv0.out.lt; (try simp at this); omega⟩
            refine wpAny_ready (rs := [7]) (by kernel_rfl) (by simp) ?_
            refine AllReady.cons rfl (fun K hK => ?_) AllReady.nil
            go_simp
            refine (HM.out ((w3.alloc (.cells #[.int .i64 x.kind, .int .i64 x.num, .string x.name, .int .i64 x.op, .slice u1 u2 u3, .int .i64 (x.deep : Int)] 98)).alloc (.cells #[.int .i64 0, .int .i64 0, .string ⟨#[]⟩, .int .i64 0, .slice none 0 0, .int .i64 0] 98)) _ _ _ _ (fun j => w.heap.size < j ∧ j ≠ w3.heap.size + 1) HSv.out HDv.out.2 HDv.out.1 (HXv.out.mono fun j hj => hj) (fun k hk => ⟨by have := HSv.out.lt; omega, by have := (Array.getElem?_eq_some_iff.1 HEv.out.1).1; omega⟩) (fun k hk => by have := HPL.out; omega) HCv.out).mono ?_
            rintro e w8 ⟨v, rfl, hes, hp8, hg8, hd8, hm8⟩
            obtain ⟨v1, v2, v3, rfl⟩ := hes.sl
            unfold rxv rx
            dsimp only
            refine hK _ _ ?_
            clear hK K
            have HSv0 : Hid (Sg w pb g c L b t n1 q' (o + 1) m' w8) := HSv.out.call hg8 hp8
            clear HSv
            have HSv : Hid (Sg w pb g c L b t n1 q' (o + 1) m' w8) := HSv0
            clear HSv0
            have HYv : Hid (ESlP w8 (fun j => w.heap.size < j ∧ j ≠ w3.heap.size + 1) (.slice v1 v2 v3) y.args) := hes
            have HDy : Hid (y.deep ≤ 48 ∧ m' ≤ 600) := ⟨hd8, hm8⟩
            replace HEv : Hid (w8.heap[w3.heap.size + 1]? = some (.cells #[.int .i64 0, .int .i64 0, .string ⟨#[]⟩, .int .i64 0, .slice none 0 0, .int .i64 0] 98) ∧ w.heap.size < w3.heap.size + 1) := ⟨keepG HEv.out.1 hg8 (by have := HEv.out.2; have := HPL.out; omega), HEv.out.2⟩
            clear hes hp8 hg8 hd8 hm8 HXv HCv
            refine wpAny_ready (rs := [9]) (by kernel_rfl) (by simp) ?_
            refine AllReady.cons rfl (fun K hK => ?_) AllReady.nil
            obtain ⟨a0, a1, a2, a3, a4, a5, b0, b1, b2, b3, b4, b5⟩ := z98_c HEv.out.1
            have HFIN : Hid (Sd w pb g c L b q' (o + 1) m' y (.pointer (some ⟨w3.heap.size + 1, 0, none⟩)) (set6 w8 (w3.heap.size + 1) (.int .i64 y.kind) (.int .i64 y.num) (.string y.name) (.int .i64 y.op) (.slice v1 v2 v3) (.int .i64 (y.deep : Int)))) := Sd.mk HSv.out.ps HSv.out.gr HSv.out.z HEv.out.1 HEv.out.2 HPL.out.1 HPL.out.2 (HYv.out.mono fun j hj => hj) HDy.out.1 HDy.out.2
            go_simp
            refine hK _ _ ?_
            clear hK K
            refine wpAny_done (by kernel_rfl) ?_ _
            go_wp2_with fail
            go_meet
            exact HFIN.out
        · have HSv0 := HSv
          go_simp
          refine hK _ _ ?_
          clear hK K
          replace HSv : Hid (Sg w pb g c L b t n1 q (o + 1) m ((w3.alloc (.cells #[.int .i64 x.kind, .int .i64 x.num, .string x.name, .int .i64 x.op, .slice u1 u2 u3, .int .i64 (x.deep : Int)] 98)).alloc (.cells #[.int .i64 0, .int .i64 0, .string ⟨#[]⟩, .int .i64 0, .slice none 0 0, .int .i64 0] 98))) := HSv.out.alloc _
          replace HXv : Hid (ESlP ((w3.alloc (.cells #[.int .i64 x.kind, .int .i64 x.num, .string x.name, .int .i64 x.op, .slice u1 u2 u3, .int .i64 (x.deep : Int)] 98)).alloc (.cells #[.int .i64 0, .int .i64 0, .string ⟨#[]⟩, .int .i64 0, .slice none 0 0, .int .i64 0] 98)) (fun j => w.heap.size < j ∧ j ≠ w3.heap.size + 1) (.slice u1 u2 u3) x.args) := (HXv.out.mono' fun j hj hj2 => ⟨hj, by (try simp at hj2); omega⟩).keep fun j _ hj => heap_alloc_old _ _ hj
          replace HCv : Hid (((w3.alloc (.cells #[.int .i64 x.kind, .int .i64 x.num, .string x.name, .int .i64 x.op, .slice u1 u2 u3, .int .i64 (x.deep : Int)] 98)).alloc (.cells #[.int .i64 0, .int .i64 0, .string ⟨#[]⟩, .int .i64 0, .slice none 0 0, .int .i64 0] 98)).heap[w3.heap.size]? = some (.cells #[.int .i64 x.kind, .int .i64 x.num, .string x.name, .int .i64 x.op, .slice u1 u2 u3, .int .i64 (x.deep : Int)] 98)) := keepA HCv.out _
          have HEv : Hid (((w3.alloc (.cells #[.int .i64 x.kind, .int .i64 x.num, .string x.name, .int .i64 x.op, .slice u1 u2 u3, .int .i64 (x.deep : Int)] 98)).alloc (.cells #[.int .i64 0, .int .i64 0, .string ⟨#[]⟩, .int .i64 0, .slice none 0 0, .int .i64 0] 98)).heap[w3.heap.size + 1]? = some (.cells #[.int .i64 0, .int .i64 0, .string ⟨#[]⟩, .int .i64 0, .slice none 0 0, .int .i64 0] 98) ∧ w.heap.size < w3.heap.size + 1) := ⟨(by have h := heap_alloc_new (w3.alloc (.cells #[.int .i64 x.kind, .int .i64 x.num, .string x.name, .int .i64 x.op, .slice u1 u2 u3, .int .i64 (x.deep : Int)] 98)) (.cells #[.int .i64 0, .int .i64 0, .string ⟨#[]⟩, .int .i64 0, .slice none 0 0, .int .i64 0] 98); rw [show (w3.alloc (.cells #[.int .i64 x.kind, .int .i64 x.num, .string x.name, .int .i64 x.op, .slice u1 u2 u3, .int .i64 (x.deep : Int)] 98)).heap.size = w3.heap.size + 1 from by simp] at h; exact h), by have := HSv0.out.lt; (try simp at this); omega⟩
          obtain ⟨ta0, ta1, ta2, ta3⟩ := tc4_c HSv.out.tt
          refine wpAny_ready (rs := [1]) (by kernel_rfl) (by simp) ?_
          refine AllReady.cons rfl (fun K hK => ?_) AllReady.nil
          go_simp
          refine hK _ _ ?_
          clear hK K
          refine wpAny_ready (rs := [7]) (by kernel_rfl) (by simp) ?_
          refine AllReady.cons rfl (fun K hK => ?_) AllReady.nil
          go_simp
          refine (HM.out ((w3.alloc (.cells #[.int .i64 x.kind, .int .i64 x.num, .string x.name, .int .i64 x.op, .slice u1 u2 u3, .int .i64 (x.deep : Int)] 98)).alloc (.cells #[.int .i64 0, .int .i64 0, .string ⟨#[]⟩, .int .i64 0, .slice none 0 0, .int .i64 0] 98)) _ _ _ _ (fun j => w.heap.size < j ∧ j ≠ w3.heap.size + 1) HSv.out HDv.out.2 HDv.out.1 (HXv.out.mono fun j hj => hj) (fun k hk => ⟨by have := HSv.out.lt; omega, by have := (Array.getElem?_eq_some_iff.1 HEv.out.1).1; omega⟩) (fun k hk => by have := HPL.out; omega) HCv.out).mono ?_
          rintro e w8 ⟨v, rfl, hes, hp8, hg8, hd8, hm8⟩
          obtain ⟨v1, v2, v3, rfl⟩ := hes.sl
          unfold rxv rx
          dsimp only
          refine hK _ _ ?_
          clear hK K
          have HSv0 : Hid (Sg w pb g c L b t n1 q' (o + 1) m' w8) := HSv.out.call hg8 hp8
          clear HSv
          have HSv : Hid (Sg w pb g c L b t n1 q' (o + 1) m' w8) := HSv0
          clear HSv0
          have HYv : Hid (ESlP w8 (fun j => w.heap.size < j ∧ j ≠ w3.heap.size + 1) (.slice v1 v2 v3) y.args) := hes
          have HDy : Hid (y.deep ≤ 48 ∧ m' ≤ 600) := ⟨hd8, hm8⟩
          replace HEv : Hid (w8.heap[w3.heap.size + 1]? = some (.cells #[.int .i64 0, .int .i64 0, .string ⟨#[]⟩, .int .i64 0, .slice none 0 0, .int .i64 0] 98) ∧ w.heap.size < w3.heap.size + 1) := ⟨keepG HEv.out.1 hg8 (by have := HEv.out.2; have := HPL.out; omega), HEv.out.2⟩
          clear hes hp8 hg8 hd8 hm8 HXv HCv
          refine wpAny_ready (rs := [9]) (by kernel_rfl) (by simp) ?_
          refine AllReady.cons rfl (fun K hK => ?_) AllReady.nil
          obtain ⟨a0, a1, a2, a3, a4, a5, b0, b1, b2, b3, b4, b5⟩ := z98_c HEv.out.1
          have HFIN : Hid (Sd w pb g c L b q' (o + 1) m' y (.pointer (some ⟨w3.heap.size + 1, 0, none⟩)) (set6 w8 (w3.heap.size + 1) (.int .i64 y.kind) (.int .i64 y.num) (.string y.name) (.int .i64 y.op) (.slice v1 v2 v3) (.int .i64 (y.deep : Int)))) := Sd.mk HSv.out.ps HSv.out.gr HSv.out.z HEv.out.1 HEv.out.2 HPL.out.1 HPL.out.2 (HYv.out.mono fun j hj => hj) HDy.out.1 HDy.out.2
          go_simp
          refine hK _ _ ?_
          clear hK K
          refine wpAny_done (by kernel_rfl) ?_ _
          go_wp2_with fail
          go_meet
          exact HFIN.out
      · have HSv0 := HSv
        go_simp
        refine hK _ _ ?_
        clear hK K
        replace HSv : Hid (Sg w pb g c L b t n1 q (o + 1) m (w3.alloc (.cells #[.int .i64 0, .int .i64 0, .string ⟨#[]⟩, .int .i64 0, .slice none 0 0, .int .i64 0] 98))) := HSv.out.alloc _
        replace HXv : Hid (ESlP (w3.alloc (.cells #[.int .i64 0, .int .i64 0, .string ⟨#[]⟩, .int .i64 0, .slice none 0 0, .int .i64 0] 98)) (fun j => w.heap.size < j ∧ j ≠ w3.heap.size) (.slice u1 u2 u3) x.args) := (HXv.out.mono' fun j hj hj2 => ⟨hj, by (try simp at hj2); omega⟩).keep fun j _ hj => heap_alloc_old _ _ hj
        have HEv : Hid ((w3.alloc (.cells #[.int .i64 0, .int .i64 0, .string ⟨#[]⟩, .int .i64 0, .slice none 0 0, .int .i64 0] 98)).heap[w3.heap.size]? = some (.cells #[.int .i64 0, .int .i64 0, .string ⟨#[]⟩, .int .i64 0, .slice none 0 0, .int .i64 0] 98) ∧ w.heap.size < w3.heap.size) := ⟨heap_alloc_new _ _, by have := HSv0.out.lt; (try simp at this); omega⟩
        obtain ⟨ta0, ta1, ta2, ta3⟩ := tc4_c HSv.out.tt
        refine wpAny_ready (rs := [1, 6]) (by kernel_rfl) (by simp) ?_
        refine AllReady.cons rfl (fun K hK => ?_) (AllReady.cons rfl (fun K hK => ?_) (AllReady.nil))
        · go_simp
          refine hK _ _ ?_
          clear hK K
          refine wpAny_ready (rs := [6]) (by kernel_rfl) (by simp) ?_
          refine AllReady.cons rfl (fun K hK => ?_) AllReady.nil
          go_simp
          refine hK _ _ ?_
          clear hK K
          replace HSv : Hid (Sg w pb g c L b t n1 q (o + 1) m ((w3.alloc (.cells #[.int .i64 0, .int .i64 0, .string ⟨#[]⟩, .int .i64 0, .slice none 0 0, .int .i64 0] 98)).alloc (.cells #[.int .i64 x.kind, .int .i64 x.num, .string x.name, .int .i64 x.op, .slice u1 u2 u3, .int .i64 (x.deep : Int)] 98))) := HSv.out.alloc _
          replace HXv : Hid (ESlP ((w3.alloc (.cells #[.int .i64 0, .int .i64 0, .string ⟨#[]⟩, .int .i64 0, .slice none 0 0, .int .i64 0] 98)).alloc (.cells #[.int .i64 x.kind, .int .i64 x.num, .string x.name, .int .i64 x.op, .slice u1 u2 u3, .int .i64 (x.deep : Int)] 98)) (fun j => w.heap.size < j ∧ j ≠ w3.heap.size) (.slice u1 u2 u3) x.args) := HXv.out.keep fun j _ hj => heap_alloc_old _ _ hj
          have HCv : Hid (((w3.alloc (.cells #[.int .i64 0, .int .i64 0, .string ⟨#[]⟩, .int .i64 0, .slice none 0 0, .int .i64 0] 98)).alloc (.cells #[.int .i64 x.kind, .int .i64 x.num, .string x.name, .int .i64 x.op, .slice u1 u2 u3, .int .i64 (x.deep : Int)] 98)).heap[w3.heap.size + 1]? = some (.cells #[.int .i64 x.kind, .int .i64 x.num, .string x.name, .int .i64 x.op, .slice u1 u2 u3, .int .i64 (x.deep : Int)] 98)) := (by have h := heap_alloc_new (w3.alloc (.cells #[.int .i64 0, .int .i64 0, .string ⟨#[]⟩, .int .i64 0, .slice none 0 0, .int .i64 0] 98)) (.cells #[.int .i64 x.kind, .int .i64 x.num, .string x.name, .int .i64 x.op, .slice u1 u2 u3, .int .i64 (x.deep : Int)] 98); rw [show (w3.alloc (.cells #[.int .i64 0, .int .i64 0, .string ⟨#[]⟩, .int .i64 0, .slice none 0 0, .int .i64 0] 98)).heap.size = w3.heap.size + 1 from by simp] at h; exact h)
          replace HEv : Hid (((w3.alloc (.cells #[.int .i64 0, .int .i64 0, .string ⟨#[]⟩, .int .i64 0, .slice none 0 0, .int .i64 0] 98)).alloc (.cells #[.int .i64 x.kind, .int .i64 x.num, .string x.name, .int .i64 x.op, .slice u1 u2 u3, .int .i64 (x.deep : Int)] 98)).heap[w3.heap.size]? = some (.cells #[.int .i64 0, .int .i64 0, .string ⟨#[]⟩, .int .i64 0, .slice none 0 0, .int .i64 0] 98) ∧ w.heap.size < w3.heap.size) := ⟨keepA HEv.out.1 _, HEv.out.2⟩
          refine wpAny_ready (rs := [7]) (by kernel_rfl) (by simp) ?_
          refine AllReady.cons rfl (fun K hK => ?_) AllReady.nil
          go_simp
          refine (HM.out ((w3.alloc (.cells #[.int .i64 0, .int .i64 0, .string ⟨#[]⟩, .int .i64 0, .slice none 0 0, .int .i64 0] 98)).alloc (.cells #[.int .i64 x.kind, .int .i64 x.num, .string x.name, .int .i64 x.op, .slice u1 u2 u3, .int .i64 (x.deep : Int)] 98)) _ _ _ _ (fun j => w.heap.size < j ∧ j ≠ w3.heap.size) HSv.out HDv.out.2 HDv.out.1 (HXv.out.mono fun j hj => hj) (fun k hk => ⟨by have := HSv.out.lt; omega, by have := (Array.getElem?_eq_some_iff.1 HEv.out.1).1; omega⟩) (fun k hk => by have := HPL.out; omega) HCv.out).mono ?_
          rintro e w8 ⟨v, rfl, hes, hp8, hg8, hd8, hm8⟩
          obtain ⟨v1, v2, v3, rfl⟩ := hes.sl
          unfold rxv rx
          dsimp only
          refine hK _ _ ?_
          clear hK K
          have HSv0 : Hid (Sg w pb g c L b t n1 q' (o + 1) m' w8) := HSv.out.call hg8 hp8
          clear HSv
          have HSv : Hid (Sg w pb g c L b t n1 q' (o + 1) m' w8) := HSv0
          clear HSv0
          have HYv : Hid (ESlP w8 (fun j => w.heap.size < j ∧ j ≠ w3.heap.size) (.slice v1 v2 v3) y.args) := hes
          have HDy : Hid (y.deep ≤ 48 ∧ m' ≤ 600) := ⟨hd8, hm8⟩
          replace HEv : Hid (w8.heap[w3.heap.size]? = some (.cells #[.int .i64 0, .int .i64 0, .string ⟨#[]⟩, .int .i64 0, .slice none 0 0, .int .i64 0] 98) ∧ w.heap.size < w3.heap.size) := ⟨keepG HEv.out.1 hg8 (by have := HEv.out.2; have := HPL.out; omega), HEv.out.2⟩
          clear hes hp8 hg8 hd8 hm8 HXv HCv
          refine wpAny_ready (rs := [9]) (by kernel_rfl) (by simp) ?_
          refine AllReady.cons rfl (fun K hK => ?_) AllReady.nil
          obtain ⟨a0, a1, a2, a3, a4, a5, b0, b1, b2, b3, b4, b5⟩ := z98_c HEv.out.1
          have HFIN : Hid (Sd w pb g c L b q' (o + 1) m' y (.pointer (some ⟨w3.heap.size, 0, none⟩)) (set6 w8 (w3.heap.size) (.int .i64 y.kind) (.int .i64 y.num) (.string y.name) (.int .i64 y.op) (.slice v1 v2 v3) (.int .i64 (y.deep : Int)))) := Sd.mk HSv.out.ps HSv.out.gr HSv.out.z HEv.out.1 HEv.out.2 HPL.out.1 HPL.out.2 (HYv.out.mono fun j hj => hj) HDy.out.1 HDy.out.2
          go_simp
          refine hK _ _ ?_
          clear hK K
          refine wpAny_done (by kernel_rfl) ?_ _
          go_wp2_with fail
          go_meet
          exact HFIN.out
        · go_simp
          refine hK _ _ ?_
          clear hK K
          replace HSv : Hid (Sg w pb g c L b t n1 q (o + 1) m ((w3.alloc (.cells #[.int .i64 0, .int .i64 0, .string ⟨#[]⟩, .int .i64 0, .slice none 0 0, .int .i64 0] 98)).alloc (.cells #[.int .i64 x.kind, .int .i64 x.num, .string x.name, .int .i64 x.op, .slice u1 u2 u3, .int .i64 (x.deep : Int)] 98))) := HSv.out.alloc _
          replace HXv : Hid (ESlP ((w3.alloc (.cells #[.int .i64 0, .int .i64 0, .string ⟨#[]⟩, .int .i64 0, .slice none 0 0, .int .i64 0] 98)).alloc (.cells #[.int .i64 x.kind, .int .i64 x.num, .string x.name, .int .i64 x.op, .slice u1 u2 u3, .int .i64 (x.deep : Int)] 98)) (fun j => w.heap.size < j ∧ j ≠ w3.heap.size) (.slice u1 u2 u3) x.args) := HXv.out.keep fun j _ hj => heap_alloc_old _ _ hj
          have HCv : Hid (((w3.alloc (.cells #[.int .i64 0, .int .i64 0, .string ⟨#[]⟩, .int .i64 0, .slice none 0 0, .int .i64 0] 98)).alloc (.cells #[.int .i64 x.kind, .int .i64 x.num, .string x.name, .int .i64 x.op, .slice u1 u2 u3, .int .i64 (x.deep : Int)] 98)).heap[w3.heap.size + 1]? = some (.cells #[.int .i64 x.kind, .int .i64 x.num, .string x.name, .int .i64 x.op, .slice u1 u2 u3, .int .i64 (x.deep : Int)] 98)) := (by have h := heap_alloc_new (w3.alloc (.cells #[.int .i64 0, .int .i64 0, .string ⟨#[]⟩, .int .i64 0, .slice none 0 0, .int .i64 0] 98)) (.cells #[.int .i64 x.kind, .int .i64 x.num, .string x.name, .int .i64 x.op, .slice u1 u2 u3, .int .i64 (x.deep : Int)] 98); rw [show (w3.alloc (.cells #[.int .i64 0, .int .i64 0, .string ⟨#[]⟩, .int .i64 0, .slice none 0 0, .int .i64 0] 98)).heap.size = w3.heap.size + 1 from by simp] at h; exact h)
          replace HEv : Hid (((w3.alloc (.cells #[.int .i64 0, .int .i64 0, .string ⟨#[]⟩, .int .i64 0, .slice none 0 0, .int .i64 0] 98)).alloc (.cells #[.int .i64 x.kind, .int .i64 x.num, .string x.name, .int .i64 x.op, .slice u1 u2 u3, .int .i64 (x.deep : Int)] 98)).heap[w3.heap.size]? = some (.cells #[.int .i64 0, .int .i64 0, .string ⟨#[]⟩, .int .i64 0, .slice none 0 0, .int .i64 0] 98) ∧ w.heap.size < w3.heap.size) := ⟨keepA HEv.out.1 _, HEv.out.2⟩
          obtain ⟨ta0, ta1, ta2, ta3⟩ := tc4_c HSv.out.tt
          refine wpAny_ready (rs := [1]) (by kernel_rfl) (by simp) ?_
          refine AllReady.cons rfl (fun K hK => ?_) AllReady.nil
          go_simp
          refine hK _ _ ?_
          clear hK K
          refine wpAny_ready (rs := [7]) (by kernel_rfl) (by simp) ?_
          refine AllReady.cons rfl (fun K hK => ?_) AllReady.nil
          go_simp
          refine (HM.out ((w3.alloc (.cells #[.int .i64 0, .int .i64 0, .string ⟨#[]⟩, .int .i64 0, .slice none 0 0, .int .i64 0] 98)).alloc (.cells #[.int .i64 x.kind, .int .i64 x.num, .string x.name, .int .i64 x.op, .slice u1 u2 u3, .int .i64 (x.deep : Int)] 98)) _ _ _ _ (fun j => w.heap.size < j ∧ j ≠ w3.heap.size) HSv.out HDv.out.2 HDv.out.1 (HXv.out.mono fun j hj => hj) (fun k hk => ⟨by have := HSv.out.lt; omega, by have := (Array.getElem?_eq_some_iff.1 HEv.out.1).1; omega⟩) (fun k hk => by have := HPL.out; omega) HCv.out).mono ?_
          rintro e w8 ⟨v, rfl, hes, hp8, hg8, hd8, hm8⟩
          obtain ⟨v1, v2, v3, rfl⟩ := hes.sl
          unfold rxv rx
          dsimp only
          refine hK _ _ ?_
          clear hK K
          have HSv0 : Hid (Sg w pb g c L b t n1 q' (o + 1) m' w8) := HSv.out.call hg8 hp8
          clear HSv
          have HSv : Hid (Sg w pb g c L b t n1 q' (o + 1) m' w8) := HSv0
          clear HSv0
          have HYv : Hid (ESlP w8 (fun j => w.heap.size < j ∧ j ≠ w3.heap.size) (.slice v1 v2 v3) y.args) := hes
          have HDy : Hid (y.deep ≤ 48 ∧ m' ≤ 600) := ⟨hd8, hm8⟩
          replace HEv : Hid (w8.heap[w3.heap.size]? = some (.cells #[.int .i64 0, .int .i64 0, .string ⟨#[]⟩, .int .i64 0, .slice none 0 0, .int .i64 0] 98) ∧ w.heap.size < w3.heap.size) := ⟨keepG HEv.out.1 hg8 (by have := HEv.out.2; have := HPL.out; omega), HEv.out.2⟩
          clear hes hp8 hg8 hd8 hm8 HXv HCv
          refine wpAny_ready (rs := [9]) (by kernel_rfl) (by simp) ?_
          refine AllReady.cons rfl (fun K hK => ?_) AllReady.nil
          obtain ⟨a0, a1, a2, a3, a4, a5, b0, b1, b2, b3, b4, b5⟩ := z98_c HEv.out.1
          have HFIN : Hid (Sd w pb g c L b q' (o + 1) m' y (.pointer (some ⟨w3.heap.size, 0, none⟩)) (set6 w8 (w3.heap.size) (.int .i64 y.kind) (.int .i64 y.num) (.string y.name) (.int .i64 y.op) (.slice v1 v2 v3) (.int .i64 (y.deep : Int)))) := Sd.mk HSv.out.ps HSv.out.gr HSv.out.z HEv.out.1 HEv.out.2 HPL.out.1 HPL.out.2 (HYv.out.mono fun j hj => hj) HDy.out.1 HDy.out.2
          go_simp
          refine hK _ _ ?_
          clear hK K
          refine wpAny_done (by kernel_rfl) ?_ _
          go_wp2_with fail
          go_meet
          exact HFIN.out
    · rename_i hK
      refine (HA.out _ HD1.out).mono ?_
      rintro e w3 ⟨u1, u2, u3, rfl, ⟨hs3, he3, hd3, hm3⟩, hg3⟩
      refine hK _ _ ?_
      clear hK
      have HSv : Hid (Sg w pb g c L b t n1 q (o + 1) m w3) := hs3
      have HXv : Hid (ESlP w3 (fun j => w.heap.size < j ∧ j ≠ W.heap.size) (.slice u1 u2 u3) x.args) := he3.mono fun j hj => by have h1 : (W.drew.alloc (.cells #[.int .i64 0, .int .i64 0, .string ⟨#[]⟩, .int .i64 0, .slice none 0 0, .int .i64 0] 98)).heap.size ≤ j := hj; have h2 : (W.drew.alloc (.cells #[.int .i64 0, .int .i64 0, .string ⟨#[]⟩, .int .i64 0, .slice none 0 0, .int .i64 0] 98)).heap.size = W.heap.size + 1 := (by show (Array.push _ _).size = _; simp); have := HK1.out.2; exact ⟨by omega, by omega⟩
      have HDv : Hid (x.deep ≤ 48 ∧ m ≤ 600) := ⟨hd3, hm3⟩
      have HEv : Hid (w3.heap[W.heap.size]? = some (.cells #[.int .i64 0, .int .i64 0, .string ⟨#[]⟩, .int .i64 0, .slice none 0 0, .int .i64 0] 98) ∧ w.heap.size < W.heap.size) := ⟨keepG HK1.out.1 hg3 (by have := HK1.out.2; have := HPL.out; omega), HK1.out.2⟩
      clear hs3 he3 hd3 hm3 hg3
      obtain ⟨tb0, tb1, tb2, tb3⟩ := tc4_c HSv.out.tt
      refine wpAny_ready (rs := [6]) (by kernel_rfl) (by simp) ?_
      refine AllReady.cons rfl (fun K hK => ?_) AllReady.nil
      go_simp
      refine hK _ _ ?_
      clear hK K
      replace HSv : Hid (Sg w pb g c L b t n1 q (o + 1) m (w3.alloc (.cells #[.int .i64 x.kind, .int .i64 x.num, .string x.name, .int .i64 x.op, .slice u1 u2 u3, .int .i64 (x.deep : Int)] 98))) := HSv.out.alloc _
      replace HXv : Hid (ESlP (w3.alloc (.cells #[.int .i64 x.kind, .int .i64 x.num, .string x.name, .int .i64 x.op, .slice u1 u2 u3, .int .i64 (x.deep : Int)] 98)) (fun j => w.heap.size < j ∧ j ≠ W.heap.size) (.slice u1 u2 u3) x.args) := HXv.out.keep fun j _ hj => heap_alloc_old _ _ hj
      have HCv : Hid ((w3.alloc (.cells #[.int .i64 x.kind, .int .i64 x.num, .string x.name, .int .i64 x.op, .slice u1 u2 u3, .int .i64 (x.deep : Int)] 98)).heap[w3.heap.size]? = some (.cells #[.int .i64 x.kind, .int .i64 x.num, .string x.name, .int .i64 x.op, .slice u1 u2 u3, .int .i64 (x.deep : Int)] 98)) := heap_alloc_new _ _
      replace HEv : Hid ((w3.alloc (.cells #[.int .i64 x.kind, .int .i64 x.num, .string x.name, .int .i64 x.op, .slice u1 u2 u3, .int .i64 (x.deep : Int)] 98)).heap[W.heap.size]? = some (.cells #[.int .i64 0, .int .i64 0, .string ⟨#[]⟩, .int .i64 0, .slice none 0 0, .int .i64 0] 98) ∧ w.heap.size < W.heap.size) := ⟨keepA HEv.out.1 _, HEv.out.2⟩
      refine wpAny_ready (rs := [7]) (by kernel_rfl) (by simp) ?_
      refine AllReady.cons rfl (fun K hK => ?_) AllReady.nil
      go_simp
      refine (HM.out (w3.alloc (.cells #[.int .i64 x.kind, .int .i64 x.num, .string x.name, .int .i64 x.op, .slice u1 u2 u3, .int .i64 (x.deep : Int)] 98)) _ _ _ _ (fun j => w.heap.size < j ∧ j ≠ W.heap.size) HSv.out HDv.out.2 HDv.out.1 (HXv.out.mono fun j hj => hj) (fun k hk => ⟨by have := HSv.out.lt; omega, by have := (Array.getElem?_eq_some_iff.1 HEv.out.1).1; omega⟩) (fun k hk => by have := HPL.out; omega) HCv.out).mono ?_
      rintro e w8 ⟨v, rfl, hes, hp8, hg8, hd8, hm8⟩
      obtain ⟨v1, v2, v3, rfl⟩ := hes.sl
      unfold rxv rx
      dsimp only
      refine hK _ _ ?_
      clear hK K
      have HSv0 : Hid (Sg w pb g c L b t n1 q' (o + 1) m' w8) := HSv.out.call hg8 hp8
      clear HSv
      have HSv : Hid (Sg w pb g c L b t n1 q' (o + 1) m' w8) := HSv0
      clear HSv0
      have HYv : Hid (ESlP w8 (fun j => w.heap.size < j ∧ j ≠ W.heap.size) (.slice v1 v2 v3) y.args) := hes
      have HDy : Hid (y.deep ≤ 48 ∧ m' ≤ 600) := ⟨hd8, hm8⟩
      replace HEv : Hid (w8.heap[W.heap.size]? = some (.cells #[.int .i64 0, .int .i64 0, .string ⟨#[]⟩, .int .i64 0, .slice none 0 0, .int .i64 0] 98) ∧ w.heap.size < W.heap.size) := ⟨keepG HEv.out.1 hg8 (by have := HEv.out.2; have := HPL.out; omega), HEv.out.2⟩
      clear hes hp8 hg8 hd8 hm8 HXv HCv
      refine wpAny_ready (rs := [9]) (by kernel_rfl) (by simp) ?_
      refine AllReady.cons rfl (fun K hK => ?_) AllReady.nil
      obtain ⟨a0, a1, a2, a3, a4, a5, b0, b1, b2, b3, b4, b5⟩ := z98_c HEv.out.1
      have HFIN : Hid (Sd w pb g c L b q' (o + 1) m' y (.pointer (some ⟨W.heap.size, 0, none⟩)) (set6 w8 (W.heap.size) (.int .i64 y.kind) (.int .i64 y.num) (.string y.name) (.int .i64 y.op) (.slice v1 v2 v3) (.int .i64 (y.deep : Int)))) := Sd.mk HSv.out.ps HSv.out.gr HSv.out.z HEv.out.1 HEv.out.2 HPL.out.1 HPL.out.2 (HYv.out.mono fun j hj => hj) HDy.out.1 HDy.out.2
      go_simp
      refine hK _ _ ?_
      clear hK K
      refine wpAny_done (by kernel_rfl) ?_ _
      go_wp2_with fail
      go_meet
      exact HFIN.out
    · rename_i hK
      refine (HA.out _ HD1.out).mono ?_
      rintro e w3 ⟨u1, u2, u3, rfl, ⟨hs3, he3, hd3, hm3⟩, hg3⟩
      refine hK _ _ ?_
      clear hK
      have HSv : Hid (Sg w pb g c L b t n1 q (o + 1) m w3) := hs3
      have HXv : Hid (ESlP w3 (fun j => w.heap.size < j ∧ j ≠ W.heap.size) (.slice u1 u2 u3) x.args) := he3.mono fun j hj => by have h1 : (W.drew.alloc (.cells #[.int .i64 0, .int .i64 0, .string ⟨#[]⟩, .int .i64 0, .slice none 0 0, .int .i64 0] 98)).heap.size ≤ j := hj; have h2 : (W.drew.alloc (.cells #[.int .i64 0, .int .i64 0, .string ⟨#[]⟩, .int .i64 0, .slice none 0 0, .int .i64 0] 98)).heap.size = W.heap.size + 1 := (by show (Array.push _ _).size = _; simp); have := HK1.out.2; exact ⟨by omega, by omega⟩
      have HDv : Hid (x.deep ≤ 48 ∧ m ≤ 600) := ⟨hd3, hm3⟩
      have HEv : Hid (w3.heap[W.heap.size]? = some (.cells #[.int .i64 0, .int .i64 0, .string ⟨#[]⟩, .int .i64 0, .slice none 0 0, .int .i64 0] 98) ∧ w.heap.size < W.heap.size) := ⟨keepG HK1.out.1 hg3 (by have := HK1.out.2; have := HPL.out; omega), HK1.out.2⟩
      clear hs3 he3 hd3 hm3 hg3
      obtain ⟨tb0, tb1, tb2, tb3⟩ := tc4_c HSv.out.tt
      refine wpAny_ready (rs := [1, 6]) (by kernel_rfl) (by simp) ?_
      refine AllReady.cons rfl (fun K hK => ?_) (AllReady.cons rfl (fun K hK => ?_) (AllReady.nil))
      · go_simp
        refine hK _ _ ?_
        clear hK K
        refine wpAny_ready (rs := [6]) (by kernel_rfl) (by simp) ?_
        refine AllReady.cons rfl (fun K hK => ?_) AllReady.nil
        go_simp
        refine hK _ _ ?_
        clear hK K
        replace HSv : Hid (Sg w pb g c L b t n1 q (o + 1) m (w3.alloc (.cells #[.int .i64 x.kind, .int .i64 x.num, .string x.name, .int .i64 x.op, .slice u1 u2 u3, .int .i64 (x.deep : Int)] 98))) := HSv.out.alloc _
        replace HXv : Hid (ESlP (w3.alloc (.cells #[.int .i64 x.kind, .int .i64 x.num, .string x.name, .int .i64 x.op, .slice u1 u2 u3, .int .i64 (x.deep : Int)] 98)) (fun j => w.heap.size < j ∧ j ≠ W.heap.size) (.slice u1 u2 u3) x.args) := HXv.out.keep fun j _ hj => heap_alloc_old _ _ hj
        have HCv : Hid ((w3.alloc (.cells #[.int .i64 x.kind, .int .i64 x.num, .string x.name, .int .i64 x.op, .slice u1 u2 u3, .int .i64 (x.deep : Int)] 98)).heap[w3.heap.size]? = some (.cells #[.int .i64 x.kind, .int .i64 x.num, .string x.name, .int .i64 x.op, .slice u1 u2 u3, .int .i64 (x.deep : Int)] 98)) := heap_alloc_new _ _
        replace HEv : Hid ((w3.alloc (.cells #[.int .i64 x.kind, .int .i64 x.num, .string x.name, .int .i64 x.op, .slice u1 u2 u3, .int .i64 (x.deep : Int)] 98)).heap[W.heap.size]? = some (.cells #[.int .i64 0, .int .i64 0, .string ⟨#[]⟩, .int .i64 0, .slice none 0 0, .int .i64 0] 98) ∧ w.heap.size < W.heap.size) := ⟨keepA HEv.out.1 _, HEv.out.2⟩
        refine wpAny_ready (rs := [7]) (by kernel_rfl) (by simp) ?_
        refine AllReady.cons rfl (fun K hK => ?_) AllReady.nil
        go_simp
        refine (HM.out (w3.alloc (.cells #[.int .i64 x.kind, .int .i64 x.num, .string x.name, .int .i64 x.op, .slice u1 u2 u3, .int .i64 (x.deep : Int)] 98)) _ _ _ _ (fun j => w.heap.size < j ∧ j ≠ W.heap.size) HSv.out HDv.out.2 HDv.out.1 (HXv.out.mono fun j hj => hj) (fun k hk => ⟨by have := HSv.out.lt; omega, by have := (Array.getElem?_eq_some_iff.1 HEv.out.1).1; omega⟩) (fun k hk => by have := HPL.out; omega) HCv.out).mono ?_
        rintro e w8 ⟨v, rfl, hes, hp8, hg8, hd8, hm8⟩
        obtain ⟨v1, v2, v3, rfl⟩ := hes.sl
        unfold rxv rx
        dsimp only
        refine hK _ _ ?_
        clear hK K
        have HSv0 : Hid (Sg w pb g c L b t n1 q' (o + 1) m' w8) := HSv.out.call hg8 hp8
        clear HSv
        have HSv : Hid (Sg w pb g c L b t n1 q' (o + 1) m' w8) := HSv0
        clear HSv0
        have HYv : Hid (ESlP w8 (fun j => w.heap.size < j ∧ j ≠ W.heap.size) (.slice v1 v2 v3) y.args) := hes
        have HDy : Hid (y.deep ≤ 48 ∧ m' ≤ 600) := ⟨hd8, hm8⟩
        replace HEv : Hid (w8.heap[W.heap.size]? = some (.cells #[.int .i64 0, .int .i64 0, .string ⟨#[]⟩, .int .i64 0, .slice none 0 0, .int .i64 0] 98) ∧ w.heap.size < W.heap.size) := ⟨keepG HEv.out.1 hg8 (by have := HEv.out.2; have := HPL.out; omega), HEv.out.2⟩
        clear hes hp8 hg8 hd8 hm8 HXv HCv
        refine wpAny_ready (rs := [9]) (by kernel_rfl) (by simp) ?_
        refine AllReady.cons rfl (fun K hK => ?_) AllReady.nil
        obtain ⟨a0, a1, a2, a3, a4, a5, b0, b1, b2, b3, b4, b5⟩ := z98_c HEv.out.1
        have HFIN : Hid (Sd w pb g c L b q' (o + 1) m' y (.pointer (some ⟨W.heap.size, 0, none⟩)) (set6 w8 (W.heap.size) (.int .i64 y.kind) (.int .i64 y.num) (.string y.name) (.int .i64 y.op) (.slice v1 v2 v3) (.int .i64 (y.deep : Int)))) := Sd.mk HSv.out.ps HSv.out.gr HSv.out.z HEv.out.1 HEv.out.2 HPL.out.1 HPL.out.2 (HYv.out.mono fun j hj => hj) HDy.out.1 HDy.out.2
        go_simp
        refine hK _ _ ?_
        clear hK K
        refine wpAny_done (by kernel_rfl) ?_ _
        go_wp2_with fail
        go_meet
        exact HFIN.out
      · go_simp
        refine hK _ _ ?_
        clear hK K
        replace HSv : Hid (Sg w pb g c L b t n1 q (o + 1) m (w3.alloc (.cells #[.int .i64 x.kind, .int .i64 x.num, .string x.name, .int .i64 x.op, .slice u1 u2 u3, .int .i64 (x.deep : Int)] 98))) := HSv.out.alloc _
        replace HXv : Hid (ESlP (w3.alloc (.cells #[.int .i64 x.kind, .int .i64 x.num, .string x.name, .int .i64 x.op, .slice u1 u2 u3, .int .i64 (x.deep : Int)] 98)) (fun j => w.heap.size < j ∧ j ≠ W.heap.size) (.slice u1 u2 u3) x.args) := HXv.out.keep fun j _ hj => heap_alloc_old _ _ hj
        have HCv : Hid ((w3.alloc (.cells #[.int .i64 x.kind, .int .i64 x.num, .string x.name, .int .i64 x.op, .slice u1 u2 u3, .int .i64 (x.deep : Int)] 98)).heap[w3.heap.size]? = some (.cells #[.int .i64 x.kind, .int .i64 x.num, .string x.name, .int .i64 x.op, .slice u1 u2 u3, .int .i64 (x.deep : Int)] 98)) := heap_alloc_new _ _
        replace HEv : Hid ((w3.alloc (.cells #[.int .i64 x.kind, .int .i64 x.num, .string x.name, .int .i64 x.op, .slice u1 u2 u3, .int .i64 (x.deep : Int)] 98)).heap[W.heap.size]? = some (.cells #[.int .i64 0, .int .i64 0, .string ⟨#[]⟩, .int .i64 0, .slice none 0 0, .int .i64 0] 98) ∧ w.heap.size < W.heap.size) := ⟨keepA HEv.out.1 _, HEv.out.2⟩
        obtain ⟨ta0, ta1, ta2, ta3⟩ := tc4_c HSv.out.tt
        refine wpAny_ready (rs := [1]) (by kernel_rfl) (by simp) ?_
        refine AllReady.cons rfl (fun K hK => ?_) AllReady.nil
        go_simp
        refine hK _ _ ?_
        clear hK K
        refine wpAny_ready (rs := [7]) (by kernel_rfl) (by simp) ?_
        refine AllReady.cons rfl (fun K hK => ?_) AllReady.nil
        go_simp
        refine (HM.out (w3.alloc (.cells #[.int .i64 x.kind, .int .i64 x.num, .string x.name, .int .i64 x.op, .slice u1 u2 u3, .int .i64 (x.deep : Int)] 98)) _ _ _ _ (fun j => w.heap.size < j ∧ j ≠ W.heap.size) HSv.out HDv.out.2 HDv.out.1 (HXv.out.mono fun j hj => hj) (fun k hk => ⟨by have := HSv.out.lt; omega, by have := (Array.getElem?_eq_some_iff.1 HEv.out.1).1; omega⟩) (fun k hk => by have := HPL.out; omega) HCv.out).mono ?_
        rintro e w8 ⟨v, rfl, hes, hp8, hg8, hd8, hm8⟩
        obtain ⟨v1, v2, v3, rfl⟩ := hes.sl
        unfold rxv rx
        dsimp only
        refine hK _ _ ?_
        clear hK K
        have HSv0 : Hid (Sg w pb g c L b t n1 q' (o + 1) m' w8) := HSv.out.call hg8 hp8
        clear HSv
        have HSv : Hid (Sg w pb g c L b t n1 q' (o + 1) m' w8) := HSv0
        clear HSv0
        have HYv : Hid (ESlP w8 (fun j => w.heap.size < j ∧ j ≠ W.heap.size) (.slice v1 v2 v3) y.args) := hes
        have HDy : Hid (y.deep ≤ 48 ∧ m' ≤ 600) := ⟨hd8, hm8⟩
        replace HEv : Hid (w8.heap[W.heap.size]? = some (.cells #[.int .i64 0, .int .i64 0, .string ⟨#[]⟩, .int .i64 0, .slice none 0 0, .int .i64 0] 98) ∧ w.heap.size < W.heap.size) := ⟨keepG HEv.out.1 hg8 (by have := HEv.out.2; have := HPL.out; omega), HEv.out.2⟩
        clear hes hp8 hg8 hd8 hm8 HXv HCv
        refine wpAny_ready (rs := [9]) (by kernel_rfl) (by simp) ?_
        refine AllReady.cons rfl (fun K hK => ?_) AllReady.nil
        obtain ⟨a0, a1, a2, a3, a4, a5, b0, b1, b2, b3, b4, b5⟩ := z98_c HEv.out.1
        have HFIN : Hid (Sd w pb g c L b q' (o + 1) m' y (.pointer (some ⟨W.heap.size, 0, none⟩)) (set6 w8 (W.heap.size) (.int .i64 y.kind) (.int .i64 y.num) (.string y.name) (.int .i64 y.op) (.slice v1 v2 v3) (.int .i64 (y.deep : Int)))) := Sd.mk HSv.out.ps HSv.out.gr HSv.out.z HEv.out.1 HEv.out.2 HPL.out.1 HPL.out.2 (HYv.out.mono fun j hj => hj) HDy.out.1 HDy.out.2
        go_simp
        refine hK _ _ ?_
        clear hK K
        refine wpAny_done (by kernel_rfl) ?_ _
        go_wp2_with fail
        go_meet
        exact HFIN.out
  case rest =>
  obtain ⟨k, v1, v2, v3, rfl, hp, hg, hz, hk, hk0, he, hd, hm⟩ := hcut.out
  have HS3 : Hid (PS (wc.setCell ⟨pb, 1, none⟩ (.int .i64 (o : Int))) pb g c L q' o b m') := hp.set1 o
  have HG3 : Hid (Gr w (wc.setCell ⟨pb, 1, none⟩ (.int .i64 (o : Int))) pb) := hg.set 1 _
  have hne : ∀ j, j ≠ pb → (wc.setCell ⟨pb, 1, none⟩ (.int .i64 (o : Int))).heap[j]? = wc.heap[j]? := fun j hj => Below.heap_setCell _ _ _ _ hj
  have HZ3 : Hid ((wc.setCell ⟨pb, 1, none⟩ (.int .i64 (o : Int))).heap[w.heap.size]? = some z98) := (hne _ (by have := HPL.out; omega)).trans hz
  have HX3 : Hid ((wc.setCell ⟨pb, 1, none⟩ (.int .i64 (o : Int))).heap[k]? = some (pc (rx y (.slice v1 v2 v3)))) := (hne _ (by have := HPL.out; omega)).trans hk
  have HE3 : Hid (ESlP (wc.setCell ⟨pb, 1, none⟩ (.int .i64 (o : Int))) (fun j => w.heap.size < j) (.slice v1 v2 v3) y.args) := he.keep fun j hj _ => hne j (by have := HPL.out; omega)
  have HDM : Hid (y.deep ≤ 48 ∧ m' ≤ 600 ∧ w.heap.size < k) := ⟨hd, hm, hk0⟩
  have c1 := hp.c1
  have f1 := hp.f1
  have hcb : ((o + 1 : Nat) : Int) = (o : Int) + 1 := by omega
  rw [hcb] at c1
  have k1 := fld1
  have ho9 : (o : Int) ≤ 48 := by omega
  have hoe : (o : Int) + 1 - 1 = (o : Int) := by omega
  clear hp hg hz hk he hd hm hne hcut
  go_upto_region 4 with fail
  try rw [hoe]
  generalize wc.setCell ⟨pb, 1, none⟩ (.int .i64 (o : Int)) = w5 at HS3 HG3 HZ3 HX3 HE3 ⊢
  clear c1 f1 k1
  obtain ⟨HF5, HF6⟩ := give_partP (k := w.heap.size) (ok := fun j => w.heap.size < j) HS3.out HG3.out HE3.out (Nat.le_refl _) (fun j hj => ⟨by omega, by omega⟩) HZ3.out HPL.out.1 HPL.out.2 HDM.out.1 HDM.out.2.1
  rw [HP.out] at HF6
  have HF5' : Hid ((set6 w5 w.heap.size (.int .i64 y.kind) (.int .i64 y.num) (.string y.name) (.int .i64 y.op) (.slice v1 v2 v3) (.int .i64 (y.deep : Int))).heap[w.heap.size]? = some (pc (rx y (.slice v1 v2 v3)))) := HF5
  have HF6' : Hid (P (.returned (rxv (rx y (.slice v1 v2 v3)))) (set6 w5 w.heap.size (.int .i64 y.kind) (.int .i64 y.num) (.string y.name) (.int .i64 y.op) (.slice v1 v2 v3) (.int .i64 (y.deep : Int)))) := HF6
  obtain ⟨a0, a1, a2, a3, a4, a5, b0, b1, b2, b3, b4, b5⟩ := z98_c HZ3.out
  obtain ⟨d0, d1, d2, d3, d4, d5, _⟩ := pc_c HX3.out
  unfold rx at d0 d1 d2 d3 d4 d5
  dsimp only at d0 d1 d2 d3 d4 d5
  rw [hn0] at a0 a1 a2 a3 a4 a5 b0 b1 b2 b3 b4 b5 HF5' HF6'
  clear HF5 HF6
  go_wp2
  exact bodyPost_ret (ret_part 4 Tryd.results104 _ n0 rfl _ (rx y (.slice v1 v2 v3)) HF5'.out) rfl HF6'.out
end Go.Proofs.YtnofibjchhcmeabDoor
