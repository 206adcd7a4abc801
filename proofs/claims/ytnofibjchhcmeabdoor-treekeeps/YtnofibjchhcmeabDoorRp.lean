/- A while. -/
import Derived.Test.YtnofibjchhcmeabDoorCh
import Derived.RegionDies
import Derived.Deep.RegionHeld3
namespace Go.Proofs.YtnofibjchhcmeabDoor
open Go.RowKit Go.Maps
set_option linter.unusedVariables false
set_option linter.unusedSimpArgs false

theorem PA.of_block {W : World} {n : Nat} {x : PE} {v : Value} {T : TypeId} (hb : W.heap[n]? = some (.cells #[.int .i64 x.kind, .int .i64 x.num, .string x.name, .int .i64 x.op, v, .int .i64 (x.deep : Int)] T)) (hv : Sl v) (hd : x.deep ≤ 48) : PA W (.slice (some ⟨n, 0, none⟩) 1 1) (rxs [(x, v)]) := by
  refine ⟨⟨_, 1, n, rfl, Nat.le_refl _, by omega, fun _ => ⟨rfl, (Array.getElem?_eq_some_iff.1 hb).1⟩, fun i hi => ?_⟩, ?_, ?_⟩
  · have h0 : i = 0 := by simp [rxs] at hi; omega
    subst h0
    refine ⟨?_, ?_, ?_, ?_, ?_, ?_⟩
    · rw [cell_of_row _ _ _ _ _ _ hb]; rfl
    · rw [cell_of_row _ _ _ _ _ _ hb]; rfl
    · rw [cell_of_row _ _ _ _ _ _ hb]; rfl
    · rw [cell_of_row _ _ _ _ _ _ hb]; rfl
    · rw [cell_of_row _ _ _ _ _ _ hb]; rfl
    · rw [cell_of_row _ _ _ _ _ _ hb]; rfl
  · intro y hy; simp [rxs] at hy; subst hy; exact hv
  · intro y hy; simp [rxs] at hy; subst hy; show x.deep ≤ 1000; omega
/-- behind the block -/
def repeatB (t : Tok) (x : PE) : TR → TR
  | .error e => .error e
  | .ok (l, r, i) => mkS t ⟨7, ⟨#[]⟩, 0, erow [x], srow l, .leaf⟩ r i
/-- behind the test -/
def repeatW (L : List Tok) (row : Nat → Nat → Nat → TR) (b : Nat) (t : Tok) : PR → TR
  | .error e => .error e
  | .ok (x, q, m) => repeatB t x (blockP L row b q m)
theorem repeatP_is (L : List Tok) (row : Nat → Nat → Nat → TR) (b p n : Nat) : repeatP L row b p n = repeatW L row b (tk L p) (withinT L [40] [41] (p + 1) n) := by
  unfold repeatP repeatW
  rcases withinT L [40] [41] (p + 1) n with e | ⟨x, q, m⟩
  · rfl
  · simp only
    unfold repeatB
    rcases blockP L row b q m with e | ⟨l, r, i⟩ <;> rfl
/-- what stands while a block is read -/
structure Rb (w : World) (pb g c : Nat) (L : List Tok) (b : Nat) (t : Tok) (n1 n2 : Nat) (x : PE) (u : Value) (q m : Nat) (V : World) : Prop where
  ps : PS V pb g c L q 0 b m
  gr : Gr w V pb
  z : V.heap[w.heap.size]? = some z39
  tt : V.heap[n1]? = some (tc4 t)
  xx : V.heap[n2]? = some (pc (rx x u))
  es : ESlP V (fun j => w.heap.size < j) u x.args
  hp : pb < w.heap.size
  h1 : w.heap.size < n1
  h2 : w.heap.size < n2
theorem Rb.lt {w V : World} {pb g c : Nat} {L : List Tok} {b : Nat} {t : Tok} {n1 n2 : Nat} {x : PE} {u : Value} {q m : Nat} (h : Rb w pb g c L b t n1 n2 x u q m V) : w.heap.size < V.heap.size := (Array.getElem?_eq_some_iff.1 h.z).1
theorem Rb.call {w V V' : World} {pb g c : Nat} {L : List Tok} {b : Nat} {t : Tok} {n1 n2 : Nat} {x : PE} {u : Value} {q m q' m' : Nat} (h : Rb w pb g c L b t n1 n2 x u q m V) (hg : Gr V V' pb) (hp : PS V' pb g c L q' 0 b m') : Rb w pb g c L b t n1 n2 x u q' m' V' :=
  ⟨hp, h.gr.trans hg, (hg.blk h.lt h.hp).trans h.z, (hg.blk (Array.getElem?_eq_some_iff.1 h.tt).1 (Nat.lt_trans h.hp h.h1)).trans h.tt, (hg.blk (Array.getElem?_eq_some_iff.1 h.xx).1 (Nat.lt_trans h.hp h.h2)).trans h.xx, h.es.gr hg (fun k hk => Nat.lt_trans h.hp hk), h.hp, h.h1, h.h2⟩
theorem Rb.alloc {w V : World} {pb g c : Nat} {L : List Tok} {b : Nat} {t : Tok} {n1 n2 : Nat} {x : PE} {u : Value} {q m : Nat} (h : Rb w pb g c L b t n1 n2 x u q m V) (o : Obj) : Rb w pb g c L b t n1 n2 x u q m (V.alloc o) :=
  h.call ((Gr.refl V pb).alloc o) (h.ps.below ((Below.refl _ _).alloc (Nat.le_refl _) _))
theorem Rb.drew {w V : World} {pb g c : Nat} {L : List Tok} {b : Nat} {t : Tok} {n1 n2 : Nat} {x : PE} {u : Value} {q m : Nat} (h : Rb w pb g c L b t n1 n2 x u q m V) : Rb w pb g c L b t n1 n2 x u q m V.drew := h.call (Gr.refl V pb).drew h.ps.drew
theorem Rb.cells {w V : World} {pb g c : Nat} {L : List Tok} {b : Nat} {t : Tok} {n1 n2 : Nat} {x : PE} {v1 : Option Addr} {v2 v3 : Nat} {q m : Nat} (h : Rb w pb g c L b t n1 n2 x (.slice v1 v2 v3) q m V) : V.cell? ⟨n1, 0, none⟩ = some (.int .i64 t.kind) ∧ V.cell? ⟨n1, 1, none⟩ = some (.string ⟨t.text.toArray⟩) ∧ V.cell? ⟨n1, 2, none⟩ = some (.int .i64 t.num) ∧ V.cell? ⟨n1, 3, none⟩ = some (.int .i64 (t.pos : Int)) ∧ V.cell? ⟨n2, 0, none⟩ = some (.int .i64 x.kind) ∧ V.cell? ⟨n2, 1, none⟩ = some (.int .i64 x.num) ∧ V.cell? ⟨n2, 2, none⟩ = some (.string x.name) ∧ V.cell? ⟨n2, 3, none⟩ = some (.int .i64 x.op) ∧ V.cell? ⟨n2, 4, none⟩ = some (.slice v1 v2 v3) ∧ V.cell? ⟨n2, 5, none⟩ = some (.int .i64 (x.deep : Int)) := by
  obtain ⟨t0, t1, t2, t3⟩ := tc4_c h.tt
  obtain ⟨d0, d1, d2, d3, d4, d5, _⟩ := pc_c h.xx
  exact ⟨t0, t1, t2, t3, d0, d1, d2, d3, d4, d5⟩

set_option maxRecDepth 100000 in
set_option maxHeartbeats 8000000 in
theorem repeat_any {pb g c : Nat} {L : List Tok} {b : Nat} (hE : TEnd L) (hx : ExOk pb g c L b (ex1 L)) (row : Nat → Nat → Nat → TR) (p n : Nat) (w : World) (h : PS w pb g c L p 0 b n) (hs : SG w pb) (hn : n ≤ 600) (hp1 : p + 1 < L.length)
    (hblk : ∀ q m W, PS W pb g c L q 0 b m → SG W pb → m ≤ 600 → FedT (blockP L row b q m) → Calls Tryd.prog 82 #[.pointer (some ⟨pb, 0, none⟩)] W (BPost W (fun j => W.heap.size ≤ j) pb g c L b (blockP L row b q m)))
    (hfd : FedT (repeatP L row b p n)) :
    Calls Tryd.prog 62 #[.pointer (some ⟨pb, 0, none⟩)] w (TPost w (fun j => w.heap.size ≤ j) pb g c L b (repeatP L row b p n)) := by
  rw [repeatP_is] at hfd ⊢
  have HS0 : Hid (PS (w.alloc z39) pb g c L p 0 b n) := h.below ((Below.refl _ _).alloc (Nat.le_refl _) _)
  have HG0 : Hid (Gr w (w.alloc z39) pb) := (Gr.refl w pb).alloc _
  have HB0 : Hid ((w.alloc z39).heap[w.heap.size]? = some z39) := heap_alloc_new _ _
  have HPL : Hid (pb < w.heap.size ∧ g < w.heap.size) := ⟨h.lt, h.gl⟩
  have HSG : Hid (SG w pb) := hs
  have HBK : Hid (∀ q m W, PS W pb g c L q 0 b m → SG W pb → m ≤ 600 → FedT (blockP L row b q m) → Calls Tryd.prog 82 #[.pointer (some ⟨pb, 0, none⟩)] W (BPost W (fun j => W.heap.size ≤ j) pb g c L b (blockP L row b q m))) := hblk
  obtain ⟨t, ht⟩ : ∃ t, tk L p = t := ⟨_, rfl⟩
  have HNX : Hid (∀ W, PS W pb g c L p 0 b n → Calls Tryd.prog 75 #[.pointer (some ⟨pb, 0, none⟩)] W fun e w' => e = .returned (tv t) ∧ PS w' pb g c L (p + 1) 0 b n ∧ Gr W w' pb) := fun W hW => by have := next_tk hW hp1; rwa [ht] at this
  obtain ⟨R, hR⟩ : ∃ R, withinT L [40] [41] (p + 1) n = R := ⟨_, rfl⟩
  have HWI : Hid (∀ W, PS W pb g c L (p + 1) 0 b n → SG W pb → Calls Tryd.prog 79 #[.pointer (some ⟨pb, 0, none⟩), .string ⟨#[40]⟩, .string ⟨#[41]⟩] W (EPost W W.heap.size pb g c L 0 b R)) := fun W hW hS => by have := within_any hE hx (ex1_fwd L) ⟨#[40]⟩ ⟨#[41]⟩ (by simp) (by simp) (p + 1) 0 n W hW hS hn (by omega) (withinP_fed fun _ => ex1_fed L _ _ _); exact hR ▸ this
  rw [ht, hR] at hfd ⊢
  have HFD : Hid (FedT (repeatW L row b t R)) := hfd
  obtain ⟨P, hP⟩ : ∃ P, TPost w (fun j => w.heap.size ≤ j) pb g c L b (repeatW L row b t R) = P := ⟨_, rfl⟩
  have HP : Hid (TPost w (fun j => w.heap.size ≤ j) pb g c L b (repeatW L row b t R) = P) := hP
  rw [hP]
  unfold tv at HNX
  unfold z39 at HS0 HG0 HB0
  clear h ht hp1 hs hR hx hblk hfd hP
  go_enter Tryd.func62, Tryd.ntmps62
  go_wp2_with fail
  refine (HNX.out _ HS0.out).mono ?_
  rintro e w1 ⟨rfl, hp, hg⟩
  have hs1 : w.heap.size < w1.heap.size := by have := hg.size; simp at this; omega
  have BL1 := (Below.refl w1.heap.size w1).alloc (Nat.le_refl _) (tc4 t)
  have HS1 : Hid (PS (w1.alloc (tc4 t)) pb g c L (p + 1) 0 b n) := hp.below BL1
  have HG1 : Hid (Gr w (w1.alloc (tc4 t)) pb) := (HG0.out.trans hg).alloc _
  have HB1 : Hid ((w1.alloc (tc4 t)).heap[w.heap.size]? = some z39) := (BL1.block _ hs1).trans ((hg.blk (by simp) HPL.out.1).trans HB0.out)
  have HT1 : Hid ((w1.alloc (tc4 t)).heap[w1.heap.size]? = some (tc4 t)) := heap_alloc_new _ _
  have HL1 : Hid (w.heap.size < w1.heap.size ∧ pb < w1.heap.size ∧ (w1.alloc (tc4 t)).heap.size = w1.heap.size + 1) := ⟨hs1, by have := HPL.out; omega, by simp⟩
  clear hp hg BL1 hs1 HNX
  go_wp2_with fail
  refine (HWI.out _ HS1.out (HSG.out.gr HG1.out)).mono ?_
  rcases R with ⟨k, ek⟩ | ⟨x, q, m⟩
  · rintro e w2 ⟨rfl, hg⟩
    refine ⟨rfl, ?_⟩
    rw [← HP.out]
    exact ⟨rfl, HG1.out.trans hg⟩
  rintro e w2 ⟨v, rfl, hes, hp, hg, hd, hm⟩
  obtain ⟨v1, v2, v3, rfl⟩ := hes.sl
  have hg' : Gr (w1.alloc (tc4 t)) w2 pb := hg
  have BL2 := (Below.refl w2.heap.size w2).alloc (Nat.le_refl _) (pc (rx x (.slice v1 v2 v3)))
  have hs2 : w1.heap.size + 1 ≤ w2.heap.size := by have := hg'.size; have := HL1.out; omega
  have HRB : Hid (Rb w pb g c L b t w1.heap.size w2.heap.size x (.slice v1 v2 v3) q m (w2.alloc (pc (rx x (.slice v1 v2 v3))))) := by
    have hl := HL1.out
    have hpl := HPL.out
    exact ⟨hp.below BL2, (HG1.out.trans hg').alloc _, (BL2.block _ (by omega)).trans ((hg'.blk (by omega) hpl.1).trans HB1.out), (BL2.block _ (by omega)).trans ((hg'.blk (by omega) hl.2.1).trans HT1.out), heap_alloc_new _ _, (ESlP.mono hes (fun j hj => by have : (w1.alloc (tc4 t)).heap.size ≤ j := hj; omega)).below BL2, hpl.1, hl.1, by omega⟩
  have HDM : Hid (x.deep ≤ 48 ∧ m ≤ 600) := ⟨hd, hm⟩
  clear hp hg hg' hes hd hm BL2 hs2 HWI HS0 HG0 HB0 HS1 HG1 HB1 HT1
  obtain ⟨r1, hr1⟩ : ∃ r1, blockP L row b q m = r1 := ⟨_, rfl⟩
  have HP2 : Hid (TPost w (fun j => w.heap.size ≤ j) pb g c L b (repeatB t x r1) = P) := by show _ = _; rw [← HP.out, ← hr1]; rfl
  have HFD2 : Hid (FedT (repeatB t x r1)) := by have := HFD.out; rw [← hr1]; exact this
  have HB82 : Hid (∀ V, Rb w pb g c L b t w1.heap.size w2.heap.size x (.slice v1 v2 v3) q m V → Calls Tryd.prog 82 #[.pointer (some ⟨pb, 0, none⟩)] V (BPost V (fun j => V.heap.size ≤ j) pb g c L b r1)) := fun V hV => by
    have hf : FedT (blockP L row b q m) := by
      rw [hr1]
      rcases r1 with e | y
      · exact HFD2.out
      · intro k e; cases e
    have := HBK.out q m V hV.ps (HSG.out.gr hV.gr) HDM.out.2 hf
    rwa [hr1] at this
  clear hr1 HP HFD HBK
  unfold rxv rx
  go_upto_region 3 with fail
  change Code.wp _ _ _ _ (w2.alloc (pc (rx x (.slice v1 v2 v3))))
  generalize w2.alloc (pc (rx x (.slice v1 v2 v3))) = W at HRB ⊢
  obtain ⟨n0, hn0⟩ : ∃ n0, w.heap.size = n0 := ⟨_, rfl⟩
  generalize w1.heap.size = n1 at *
  generalize w2.heap.size = n2 at *
  have h01 := HRB.out.h1
  have h02 := HRB.out.h2
  rw [hn0] at h01 h02
  obtain ⟨t0, t1, t2, t3, d0, d1, d2, d3, d4, d5⟩ := HRB.out.cells
  rcases r1 with ⟨k, ek⟩ | ⟨l, r, i⟩
  · have HPE : Hid (∀ w', Gr w w' pb → P (gaveUpT (k : Int) ek) w') := fun w' hw => by rw [← HP2.out]; exact ⟨rfl, hw⟩
    have HD0 := HRB.out.drew
    have HD1 := HD0.alloc (.cells #[.int .i64 x.kind, .int .i64 x.num, .string x.name, .int .i64 x.op, .slice v1 v2 v3, .int .i64 (x.deep : Int)] 98)
    obtain ⟨k0, k1, k2, k3, k4, k5, k6, k7, k8, k9⟩ := (HRB.out.alloc (.cells #[.int .i64 x.kind, .int .i64 x.num, .string x.name, .int .i64 x.op, .slice v1 v2 v3, .int .i64 (x.deep : Int)] 98)).cells
    have HX0 := HB82.out _ HD0
    have HX1 := HB82.out _ HD1
    have HG0 : Hid (Gr w W.drew pb) := HD0.gr
    have HG1 : Hid (Gr w (W.drew.alloc (.cells #[.int .i64 x.kind, .int .i64 x.num, .string x.name, .int .i64 x.op, .slice v1 v2 v3, .int .i64 (x.deep : Int)] 98)) pb) := HD1.gr
    clear HD0 HD1 HB82
    go_region_dies
    all_goals
      first
        | (refine HX0.mono ?_
           rintro e w3 ⟨rfl, hg⟩
           exact ⟨rfl, HPE.out _ (HG0.out.trans hg)⟩)
        | (refine HX1.mono ?_
           rintro e w3 ⟨rfl, hg⟩
           exact ⟨rfl, HPE.out _ (HG1.out.trans hg)⟩)
  have HD0 : Hid (Rb w pb g c L b t n1 n2 x (.slice v1 v2 v3) q m W.drew) := HRB.out.drew
  have HD1 : Hid (Rb w pb g c L b t n1 n2 x (.slice v1 v2 v3) q m (W.drew.alloc (.cells #[.int .i64 x.kind, .int .i64 x.num, .string x.name, .int .i64 x.op, .slice v1 v2 v3, .int .i64 (x.deep : Int)] 98))) := HRB.out.drew.alloc _
  have HK1 : Hid ((W.drew.alloc (.cells #[.int .i64 x.kind, .int .i64 x.num, .string x.name, .int .i64 x.op, .slice v1 v2 v3, .int .i64 (x.deep : Int)] 98)).heap[W.heap.size]? = some (.cells #[.int .i64 x.kind, .int .i64 x.num, .string x.name, .int .i64 x.op, .slice v1 v2 v3, .int .i64 (x.deep : Int)] 98)) := heap_alloc_new _ _
  obtain ⟨k0, k1, k2, k3, k4, k5, k6, k7, k8, k9⟩ := (HRB.out.alloc (.cells #[.int .i64 x.kind, .int .i64 x.num, .string x.name, .int .i64 x.op, .slice v1 v2 v3, .int .i64 (x.deep : Int)] 98)).cells
  have HA82 : Hid (∀ V, Hid (Rb w pb g c L b t n1 n2 x (.slice v1 v2 v3) q m V) → Calls Tryd.prog 82 #[.pointer (some ⟨pb, 0, none⟩)] V fun e w' => ∃ b1 b2 b3, e = .returned (.slice b1 b2 b3) ∧ (w'.cell? ⟨n1, 0, none⟩ = some (.int .i64 t.kind) ∧ w'.cell? ⟨n1, 1, none⟩ = some (.string ⟨t.text.toArray⟩) ∧ w'.cell? ⟨n1, 2, none⟩ = some (.int .i64 t.num) ∧ w'.cell? ⟨n1, 3, none⟩ = some (.int .i64 (t.pos : Int)) ∧ w'.cell? ⟨n2, 0, none⟩ = some (.int .i64 x.kind) ∧ w'.cell? ⟨n2, 1, none⟩ = some (.int .i64 x.num) ∧ w'.cell? ⟨n2, 2, none⟩ = some (.string x.name) ∧ w'.cell? ⟨n2, 3, none⟩ = some (.int .i64 x.op) ∧ w'.cell? ⟨n2, 4, none⟩ = some (.slice v1 v2 v3) ∧ w'.cell? ⟨n2, 5, none⟩ = some (.int .i64 (x.deep : Int))) ∧ (Rb w pb g c L b t n1 n2 x (.slice v1 v2 v3) r i w' ∧ SSlP w' (fun j => w.heap.size < j) (.slice b1 b2 b3) (srow l) ∧ i ≤ 600) ∧ (∀ k o, pb < k → V.heap[k]? = some o → w'.heap[k]? = some o)) := fun V hV => (HB82.out V hV.out).mono fun e w' ⟨b1, b2, b3, he, hss, hp, hg, hm⟩ => ⟨b1, b2, b3, he, (hV.out.call hg hp).cells, ⟨hV.out.call hg hp, hss.mono fun j hj => Nat.lt_of_lt_of_le hV.out.lt hj, hm⟩, fun k o hk ho => (hg.blk (Array.getElem?_eq_some_iff.1 ho).1 hk).trans ho⟩
  have HWP : Hid (pb < W.heap.size) := HRB.out.ps.lt
  unfold repeatB at HP2
  dsimp only at HP2
  unfold mkS at HP2
  have HM76 : Hid (∀ V k b1 b2 b3, (Rb w pb g c L b t n1 n2 x (.slice v1 v2 v3) r i V ∧ SSlP V (fun j => w.heap.size < j) (.slice b1 b2 b3) (srow l) ∧ i ≤ 600) → V.heap[k]? = some (.cells #[.int .i64 x.kind, .int .i64 x.num, .string x.name, .int .i64 x.op, .slice v1 v2 v3, .int .i64 (x.deep : Int)] 98) → Calls Tryd.prog 76 #[.pointer (some ⟨pb, 0, none⟩), .agg #[.int .i64 t.kind, .string ⟨t.text.toArray⟩, .int .i64 t.num, .int .i64 (t.pos : Int)], .agg #[.int .i64 7, .string ⟨#[]⟩, .int .i64 0, .slice none 0 0, .slice b1 b2 b3, .slice none 0 0], .slice (some ⟨k, 0, none⟩) 1 1] V (TPost V (fun j => w.heap.size < j) pb g c L b (mkS t ⟨7, ⟨#[]⟩, 0, erow [x], srow l, .leaf⟩ r i))) := fun V k b1 b2 b3 ⟨hR, hV, hi⟩ hk => makeS_any (fun j => w.heap.size < j) pb g c L r b i t 7 ⟨#[]⟩ 0 [(x, .slice v1 v2 v3)] (.slice b1 b2 b3) (.slice none 0 0) (srow l) .leaf _ V hR.ps hi (PA.of_block hk ⟨_, _, _, rfl⟩ HDM.out.1) (fun y hy => by simp at hy; subst hy; exact hR.es) hV (SSlP.nil _ _) (fun j hj => Nat.lt_of_lt_of_le hR.lt hj) (fun j hj => Nat.lt_trans hR.hp hj)
  unfold mkS at HM76
  clear HB82 HFD2 HRB HSG
  rw [hn0]
  go_region_dies
  · rename_i hK
    refine (HA82.out _ HD0).mono ?_
    rintro e w3 ⟨b1, b2, b3, rfl, hS3, hR3, hk3⟩
    refine hK _ _ ?_
    clear hK
    have HR3 : Hid (Rb w pb g c L b t n1 n2 x (.slice v1 v2 v3) r i w3 ∧ SSlP w3 (fun j => w.heap.size < j) (.slice b1 b2 b3) (srow l) ∧ i ≤ 600) := hR3
    skip
    obtain ⟨t0', t1', t2', t3', d0', d1', d2', d3', d4', d5'⟩ := hS3
    have HAL := fun A : Obj => (hR3.1.alloc A).cells
    have ta0 := fun A => (HAL A).1
    have ta1 := fun A => (HAL A).2.1
    have ta2 := fun A => (HAL A).2.2.1
    have ta3 := fun A => (HAL A).2.2.2.1
    clear HAL hR3 hk3 t0 t1 t2 t3 d0 d1 d2 d3 d4 d5
    refine wpAny_take (i := 4) (v := ?_) rfl (by kernel_rfl) (by kernel_rfl) (by kernel_rfl) (fun _ _ _ h => h) (Or.inl ⟨by rfl, ?_⟩) ?_
    rotate_left
    · intro w
      go_simp
      with_reducible rfl
    refine wpAny_ready (rs := [5]) (by kernel_rfl) (by simp) ?_
    refine AllReady.cons rfl (fun K hK => ?_) AllReady.nil
    go_simp
    refine hK _ _ ?_
    clear hK K
    refine wpAny_ready (rs := [6]) (by kernel_rfl) (by simp) ?_
    refine AllReady.cons rfl (fun K hK => ?_) AllReady.nil
    go_simp
    refine hK _ _ ?_
    clear hK K
    refine wpAny_ready (rs := [7]) (by kernel_rfl) (by simp) ?_
    refine AllReady.cons rfl (fun K hK => ?_) AllReady.nil
    go_simp
    have HV : Rb w pb g c L b t n1 n2 x (.slice v1 v2 v3) r i (w3.alloc (.cells #[.int .i64 x.kind, .int .i64 x.num, .string x.name, .int .i64 x.op, .slice v1 v2 v3, .int .i64 (x.deep : Int)] 98)) ∧ SSlP (w3.alloc (.cells #[.int .i64 x.kind, .int .i64 x.num, .string x.name, .int .i64 x.op, .slice v1 v2 v3, .int .i64 (x.deep : Int)] 98)) (fun j => w.heap.size < j) (.slice b1 b2 b3) (srow l) ∧ i ≤ 600 := ⟨HR3.out.1.alloc _, HR3.out.2.1.keep (fun j _ hj => heap_alloc_old _ _ hj), HR3.out.2.2⟩
    refine (HM76.out (w3.alloc (.cells #[.int .i64 x.kind, .int .i64 x.num, .string x.name, .int .i64 x.op, .slice v1 v2 v3, .int .i64 (x.deep : Int)] 98)) _ _ _ _ HV (heap_alloc_new _ _)).mono ?_
    have HV1 := HV.1
    clear HV
    by_cases h6 : 600 < i + 1
    · rw [if_pos h6] at HP2 ⊢
      rintro e w8 ⟨rfl, hg⟩
      refine ⟨rfl, ?_⟩
      rw [← HP2.out]
      exact ⟨rfl, HV1.gr.trans hg⟩
    · rw [if_neg h6] at HP2 ⊢
      intro e w8 hep
      obtain ⟨q1, q2, q3, c1, c2, c3, e1, e2, e3, rfl, hb8, hs1, hs2⟩ := hep.give HV1.gr HV1.z (Nat.le_refl _) (fun j hj => ⟨by omega, by omega⟩) HPL.out
      rw [HP2.out] at hs2
      rw [hn0] at hb8 hs1 hs2
      have HS1' : Hid ((set6 w8 n0 (.int .i64 7) (.string ⟨#[]⟩) (.int .i64 0) (.slice q1 q2 q3) (.slice c1 c2 c3) (.slice e1 e2 e3)).heap[n0]? = some (.cells #[.int .i64 7, .string ⟨#[]⟩, .int .i64 0, .slice q1 q2 q3, .slice c1 c2 c3, .slice e1 e2 e3] 39)) := hs1
      have HS2' : Hid (P (.returned (.agg #[.int .i64 7, .string ⟨#[]⟩, .int .i64 0, .slice q1 q2 q3, .slice c1 c2 c3, .slice e1 e2 e3])) (set6 w8 n0 (.int .i64 7) (.string ⟨#[]⟩) (.int .i64 0) (.slice q1 q2 q3) (.slice c1 c2 c3) (.slice e1 e2 e3))) := hs2
      obtain ⟨⟨a0, a1, a2, a3, a4, a5⟩, z0, z1, z2, z3, z4, z5⟩ := z39_c hb8
      clear hs1 hs2 hb8 hep HV1
      refine hK _ _ ?_
      clear hK K
      refine wpAny_ready (rs := [8]) (by kernel_rfl) (by simp) ?_
      refine AllReady.cons rfl (fun K hK => ?_) AllReady.nil
      go_simp
      refine hK _ _ ?_
      clear hK K
      refine wpAny_done (by kernel_rfl) ?_ _
      go_wp2
      exact bodyPost_ret (ret_stmt 2 Tryd.results62 _ n0 rfl _ _ _ _ _ _ _ HS1'.out) rfl HS2'.out
  · rename_i hK
    refine (HA82.out _ HD0).mono ?_
    rintro e w3 ⟨b1, b2, b3, rfl, hS3, hR3, hk3⟩
    refine hK _ _ ?_
    clear hK
    have HR3 : Hid (Rb w pb g c L b t n1 n2 x (.slice v1 v2 v3) r i w3 ∧ SSlP w3 (fun j => w.heap.size < j) (.slice b1 b2 b3) (srow l) ∧ i ≤ 600) := hR3
    skip
    obtain ⟨t0', t1', t2', t3', d0', d1', d2', d3', d4', d5'⟩ := hS3
    have HAL := fun A : Obj => (hR3.1.alloc A).cells
    have ta0 := fun A => (HAL A).1
    have ta1 := fun A => (HAL A).2.1
    have ta2 := fun A => (HAL A).2.2.1
    have ta3 := fun A => (HAL A).2.2.2.1
    clear HAL hR3 hk3 t0 t1 t2 t3 d0 d1 d2 d3 d4 d5
    refine wpAny_take (i := 4) (v := ?_) rfl (by kernel_rfl) (by kernel_rfl) (by kernel_rfl) (fun _ _ _ h => h) (Or.inl ⟨by rfl, ?_⟩) ?_
    rotate_left
    · intro w
      go_simp
      with_reducible rfl
    refine wpAny_ready (rs := [6]) (by kernel_rfl) (by simp) ?_
    refine AllReady.cons rfl (fun K hK => ?_) AllReady.nil
    go_simp
    refine hK _ _ ?_
    clear hK K
    refine wpAny_ready (rs := [7]) (by kernel_rfl) (by simp) ?_
    refine AllReady.cons rfl (fun K hK => ?_) AllReady.nil
    go_simp
    have HV : Rb w pb g c L b t n1 n2 x (.slice v1 v2 v3) r i (w3.alloc (.cells #[.int .i64 x.kind, .int .i64 x.num, .string x.name, .int .i64 x.op, .slice v1 v2 v3, .int .i64 (x.deep : Int)] 98)) ∧ SSlP (w3.alloc (.cells #[.int .i64 x.kind, .int .i64 x.num, .string x.name, .int .i64 x.op, .slice v1 v2 v3, .int .i64 (x.deep : Int)] 98)) (fun j => w.heap.size < j) (.slice b1 b2 b3) (srow l) ∧ i ≤ 600 := ⟨HR3.out.1.alloc _, HR3.out.2.1.keep (fun j _ hj => heap_alloc_old _ _ hj), HR3.out.2.2⟩
    refine (HM76.out (w3.alloc (.cells #[.int .i64 x.kind, .int .i64 x.num, .string x.name, .int .i64 x.op, .slice v1 v2 v3, .int .i64 (x.deep : Int)] 98)) _ _ _ _ HV (heap_alloc_new _ _)).mono ?_
    have HV1 := HV.1
    clear HV
    by_cases h6 : 600 < i + 1
    · rw [if_pos h6] at HP2 ⊢
      rintro e w8 ⟨rfl, hg⟩
      refine ⟨rfl, ?_⟩
      rw [← HP2.out]
      exact ⟨rfl, HV1.gr.trans hg⟩
    · rw [if_neg h6] at HP2 ⊢
      intro e w8 hep
      obtain ⟨q1, q2, q3, c1, c2, c3, e1, e2, e3, rfl, hb8, hs1, hs2⟩ := hep.give HV1.gr HV1.z (Nat.le_refl _) (fun j hj => ⟨by omega, by omega⟩) HPL.out
      rw [HP2.out] at hs2
      rw [hn0] at hb8 hs1 hs2
      have HS1' : Hid ((set6 w8 n0 (.int .i64 7) (.string ⟨#[]⟩) (.int .i64 0) (.slice q1 q2 q3) (.slice c1 c2 c3) (.slice e1 e2 e3)).heap[n0]? = some (.cells #[.int .i64 7, .string ⟨#[]⟩, .int .i64 0, .slice q1 q2 q3, .slice c1 c2 c3, .slice e1 e2 e3] 39)) := hs1
      have HS2' : Hid (P (.returned (.agg #[.int .i64 7, .string ⟨#[]⟩, .int .i64 0, .slice q1 q2 q3, .slice c1 c2 c3, .slice e1 e2 e3])) (set6 w8 n0 (.int .i64 7) (.string ⟨#[]⟩) (.int .i64 0) (.slice q1 q2 q3) (.slice c1 c2 c3) (.slice e1 e2 e3))) := hs2
      obtain ⟨⟨a0, a1, a2, a3, a4, a5⟩, z0, z1, z2, z3, z4, z5⟩ := z39_c hb8
      clear hs1 hs2 hb8 hep HV1
      refine hK _ _ ?_
      clear hK K
      refine wpAny_ready (rs := [8]) (by kernel_rfl) (by simp) ?_
      refine AllReady.cons rfl (fun K hK => ?_) AllReady.nil
      go_simp
      refine hK _ _ ?_
      clear hK K
      refine wpAny_done (by kernel_rfl) ?_ _
      go_wp2
      exact bodyPost_ret (ret_stmt 2 Tryd.results62 _ n0 rfl _ _ _ _ _ _ _ HS1'.out) rfl HS2'.out
  · rename_i hK
    refine (HA82.out _ HD1).mono ?_
    rintro e w3 ⟨b1, b2, b3, rfl, hS3, hR3, hk3⟩
    refine hK _ _ ?_
    clear hK
    have HR3 : Hid (Rb w pb g c L b t n1 n2 x (.slice v1 v2 v3) r i w3 ∧ SSlP w3 (fun j => w.heap.size < j) (.slice b1 b2 b3) (srow l) ∧ i ≤ 600) := hR3
    have HKB : Hid (w3.heap[W.heap.size]? = some (.cells #[.int .i64 x.kind, .int .i64 x.num, .string x.name, .int .i64 x.op, .slice v1 v2 v3, .int .i64 (x.deep : Int)] 98)) := hk3 _ _ HWP.out HK1.out
    obtain ⟨t0', t1', t2', t3', d0', d1', d2', d3', d4', d5'⟩ := hS3
    have HAL := fun A : Obj => (hR3.1.alloc A).cells
    have ta0 := fun A => (HAL A).1
    have ta1 := fun A => (HAL A).2.1
    have ta2 := fun A => (HAL A).2.2.1
    have ta3 := fun A => (HAL A).2.2.2.1
    clear HAL hR3 hk3 t0 t1 t2 t3 d0 d1 d2 d3 d4 d5
    refine wpAny_take (i := 4) (v := ?_) rfl (by kernel_rfl) (by kernel_rfl) (by kernel_rfl) (fun _ _ _ h => h) (Or.inl ⟨by rfl, ?_⟩) ?_
    rotate_left
    · intro w
      go_simp
      with_reducible rfl
    refine wpAny_ready (rs := [7]) (by kernel_rfl) (by simp) ?_
    refine AllReady.cons rfl (fun K hK => ?_) AllReady.nil
    go_simp
    have HV : Rb w pb g c L b t n1 n2 x (.slice v1 v2 v3) r i w3 ∧ SSlP w3 (fun j => w.heap.size < j) (.slice b1 b2 b3) (srow l) ∧ i ≤ 600 := HR3.out
    refine (HM76.out w3 _ _ _ _ HV HKB.out).mono ?_
    have HV1 := HV.1
    clear HV
    by_cases h6 : 600 < i + 1
    · rw [if_pos h6] at HP2 ⊢
      rintro e w8 ⟨rfl, hg⟩
      refine ⟨rfl, ?_⟩
      rw [← HP2.out]
      exact ⟨rfl, HV1.gr.trans hg⟩
    · rw [if_neg h6] at HP2 ⊢
      intro e w8 hep
      obtain ⟨q1, q2, q3, c1, c2, c3, e1, e2, e3, rfl, hb8, hs1, hs2⟩ := hep.give HV1.gr HV1.z (Nat.le_refl _) (fun j hj => ⟨by omega, by omega⟩) HPL.out
      rw [HP2.out] at hs2
      rw [hn0] at hb8 hs1 hs2
      have HS1' : Hid ((set6 w8 n0 (.int .i64 7) (.string ⟨#[]⟩) (.int .i64 0) (.slice q1 q2 q3) (.slice c1 c2 c3) (.slice e1 e2 e3)).heap[n0]? = some (.cells #[.int .i64 7, .string ⟨#[]⟩, .int .i64 0, .slice q1 q2 q3, .slice c1 c2 c3, .slice e1 e2 e3] 39)) := hs1
      have HS2' : Hid (P (.returned (.agg #[.int .i64 7, .string ⟨#[]⟩, .int .i64 0, .slice q1 q2 q3, .slice c1 c2 c3, .slice e1 e2 e3])) (set6 w8 n0 (.int .i64 7) (.string ⟨#[]⟩) (.int .i64 0) (.slice q1 q2 q3) (.slice c1 c2 c3) (.slice e1 e2 e3))) := hs2
      obtain ⟨⟨a0, a1, a2, a3, a4, a5⟩, z0, z1, z2, z3, z4, z5⟩ := z39_c hb8
      clear hs1 hs2 hb8 hep HV1
      refine hK _ _ ?_
      clear hK K
      refine wpAny_ready (rs := [8]) (by kernel_rfl) (by simp) ?_
      refine AllReady.cons rfl (fun K hK => ?_) AllReady.nil
      go_simp
      refine hK _ _ ?_
      clear hK K
      refine wpAny_done (by kernel_rfl) ?_ _
      go_wp2
      exact bodyPost_ret (ret_stmt 2 Tryd.results62 _ n0 rfl _ _ _ _ _ _ _ HS1'.out) rfl HS2'.out
  · rename_i hK
    refine (HA82.out _ HD0).mono ?_
    rintro e w3 ⟨b1, b2, b3, rfl, hS3, hR3, hk3⟩
    refine hK _ _ ?_
    clear hK
    have HR3 : Hid (Rb w pb g c L b t n1 n2 x (.slice v1 v2 v3) r i w3 ∧ SSlP w3 (fun j => w.heap.size < j) (.slice b1 b2 b3) (srow l) ∧ i ≤ 600) := hR3
    skip
    obtain ⟨t0', t1', t2', t3', d0', d1', d2', d3', d4', d5'⟩ := hS3
    have HAL := fun A : Obj => (hR3.1.alloc A).cells
    have ta0 := fun A => (HAL A).1
    have ta1 := fun A => (HAL A).2.1
    have ta2 := fun A => (HAL A).2.2.1
    have ta3 := fun A => (HAL A).2.2.2.1
    clear HAL hR3 hk3 t0 t1 t2 t3 d0 d1 d2 d3 d4 d5
    refine wpAny_take (i := 4) (v := ?_) rfl (by kernel_rfl) (by kernel_rfl) (by kernel_rfl) (fun _ _ _ h => h) (Or.inl ⟨by rfl, ?_⟩) ?_
    rotate_left
    · intro w
      go_simp
      with_reducible rfl
    refine wpAny_ready (rs := [1, 5]) (by kernel_rfl) (by simp) ?_
    refine AllReady.cons rfl (fun K hK => ?_) (AllReady.cons rfl (fun K hK => ?_) (AllReady.nil))
    · go_simp
      refine hK _ _ ?_
      clear hK K
      refine wpAny_ready (rs := [5]) (by kernel_rfl) (by simp) ?_
      refine AllReady.cons rfl (fun K hK => ?_) AllReady.nil
      go_simp
      refine hK _ _ ?_
      clear hK K
      refine wpAny_ready (rs := [6]) (by kernel_rfl) (by simp) ?_
      refine AllReady.cons rfl (fun K hK => ?_) AllReady.nil
      go_simp
      refine hK _ _ ?_
      clear hK K
      refine wpAny_ready (rs := [7]) (by kernel_rfl) (by simp) ?_
      refine AllReady.cons rfl (fun K hK => ?_) AllReady.nil
      go_simp
      have HV : Rb w pb g c L b t n1 n2 x (.slice v1 v2 v3) r i (w3.alloc (.cells #[.int .i64 x.kind, .int .i64 x.num, .string x.name, .int .i64 x.op, .slice v1 v2 v3, .int .i64 (x.deep : Int)] 98)) ∧ SSlP (w3.alloc (.cells #[.int .i64 x.kind, .int .i64 x.num, .string x.name, .int .i64 x.op, .slice v1 v2 v3, .int .i64 (x.deep : Int)] 98)) (fun j => w.heap.size < j) (.slice b1 b2 b3) (srow l) ∧ i ≤ 600 := ⟨HR3.out.1.alloc _, HR3.out.2.1.keep (fun j _ hj => heap_alloc_old _ _ hj), HR3.out.2.2⟩
      refine (HM76.out (w3.alloc (.cells #[.int .i64 x.kind, .int .i64 x.num, .string x.name, .int .i64 x.op, .slice v1 v2 v3, .int .i64 (x.deep : Int)] 98)) _ _ _ _ HV (heap_alloc_new _ _)).mono ?_
      have HV1 := HV.1
      clear HV
      by_cases h6 : 600 < i + 1
      · rw [if_pos h6] at HP2 ⊢
        rintro e w8 ⟨rfl, hg⟩
        refine ⟨rfl, ?_⟩
        rw [← HP2.out]
        exact ⟨rfl, HV1.gr.trans hg⟩
      · rw [if_neg h6] at HP2 ⊢
        intro e w8 hep
        obtain ⟨q1, q2, q3, c1, c2, c3, e1, e2, e3, rfl, hb8, hs1, hs2⟩ := hep.give HV1.gr HV1.z (Nat.le_refl _) (fun j hj => ⟨by omega, by omega⟩) HPL.out
        rw [HP2.out] at hs2
        rw [hn0] at hb8 hs1 hs2
        have HS1' : Hid ((set6 w8 n0 (.int .i64 7) (.string ⟨#[]⟩) (.int .i64 0) (.slice q1 q2 q3) (.slice c1 c2 c3) (.slice e1 e2 e3)).heap[n0]? = some (.cells #[.int .i64 7, .string ⟨#[]⟩, .int .i64 0, .slice q1 q2 q3, .slice c1 c2 c3, .slice e1 e2 e3] 39)) := hs1
        have HS2' : Hid (P (.returned (.agg #[.int .i64 7, .string ⟨#[]⟩, .int .i64 0, .slice q1 q2 q3, .slice c1 c2 c3, .slice e1 e2 e3])) (set6 w8 n0 (.int .i64 7) (.string ⟨#[]⟩) (.int .i64 0) (.slice q1 q2 q3) (.slice c1 c2 c3) (.slice e1 e2 e3))) := hs2
        obtain ⟨⟨a0, a1, a2, a3, a4, a5⟩, z0, z1, z2, z3, z4, z5⟩ := z39_c hb8
        clear hs1 hs2 hb8 hep HV1
        refine hK _ _ ?_
        clear hK K
        refine wpAny_ready (rs := [8]) (by kernel_rfl) (by simp) ?_
        refine AllReady.cons rfl (fun K hK => ?_) AllReady.nil
        go_simp
        refine hK _ _ ?_
        clear hK K
        refine wpAny_done (by kernel_rfl) ?_ _
        go_wp2
        exact bodyPost_ret (ret_stmt 2 Tryd.results62 _ n0 rfl _ _ _ _ _ _ _ HS1'.out) rfl HS2'.out
    · go_simp
      refine hK _ _ ?_
      clear hK K
      refine wpAny_ready (rs := [1, 6]) (by kernel_rfl) (by simp) ?_
      refine AllReady.cons rfl (fun K hK => ?_) (AllReady.cons rfl (fun K hK => ?_) (AllReady.nil))
      · go_simp
        refine hK _ _ ?_
        clear hK K
        refine wpAny_ready (rs := [6]) (by kernel_rfl) (by simp) ?_
        refine AllReady.cons rfl (fun K hK => ?_) AllReady.nil
        go_simp
        refine hK _ _ ?_
        clear hK K
        refine wpAny_ready (rs := [7]) (by kernel_rfl) (by simp) ?_
        refine AllReady.cons rfl (fun K hK => ?_) AllReady.nil
        go_simp
        have HV : Rb w pb g c L b t n1 n2 x (.slice v1 v2 v3) r i (w3.alloc (.cells #[.int .i64 x.kind, .int .i64 x.num, .string x.name, .int .i64 x.op, .slice v1 v2 v3, .int .i64 (x.deep : Int)] 98)) ∧ SSlP (w3.alloc (.cells #[.int .i64 x.kind, .int .i64 x.num, .string x.name, .int .i64 x.op, .slice v1 v2 v3, .int .i64 (x.deep : Int)] 98)) (fun j => w.heap.size < j) (.slice b1 b2 b3) (srow l) ∧ i ≤ 600 := ⟨HR3.out.1.alloc _, HR3.out.2.1.keep (fun j _ hj => heap_alloc_old _ _ hj), HR3.out.2.2⟩
        refine (HM76.out (w3.alloc (.cells #[.int .i64 x.kind, .int .i64 x.num, .string x.name, .int .i64 x.op, .slice v1 v2 v3, .int .i64 (x.deep : Int)] 98)) _ _ _ _ HV (heap_alloc_new _ _)).mono ?_
        have HV1 := HV.1
        clear HV
        by_cases h6 : 600 < i + 1
        · rw [if_pos h6] at HP2 ⊢
          rintro e w8 ⟨rfl, hg⟩
          refine ⟨rfl, ?_⟩
          rw [← HP2.out]
          exact ⟨rfl, HV1.gr.trans hg⟩
        · rw [if_neg h6] at HP2 ⊢
          intro e w8 hep
          obtain ⟨q1, q2, q3, c1, c2, c3, e1, e2, e3, rfl, hb8, hs1, hs2⟩ := hep.give HV1.gr HV1.z (Nat.le_refl _) (fun j hj => ⟨by omega, by omega⟩) HPL.out
          rw [HP2.out] at hs2
          rw [hn0] at hb8 hs1 hs2
          have HS1' : Hid ((set6 w8 n0 (.int .i64 7) (.string ⟨#[]⟩) (.int .i64 0) (.slice q1 q2 q3) (.slice c1 c2 c3) (.slice e1 e2 e3)).heap[n0]? = some (.cells #[.int .i64 7, .string ⟨#[]⟩, .int .i64 0, .slice q1 q2 q3, .slice c1 c2 c3, .slice e1 e2 e3] 39)) := hs1
          have HS2' : Hid (P (.returned (.agg #[.int .i64 7, .string ⟨#[]⟩, .int .i64 0, .slice q1 q2 q3, .slice c1 c2 c3, .slice e1 e2 e3])) (set6 w8 n0 (.int .i64 7) (.string ⟨#[]⟩) (.int .i64 0) (.slice q1 q2 q3) (.slice c1 c2 c3) (.slice e1 e2 e3))) := hs2
          obtain ⟨⟨a0, a1, a2, a3, a4, a5⟩, z0, z1, z2, z3, z4, z5⟩ := z39_c hb8
          clear hs1 hs2 hb8 hep HV1
          refine hK _ _ ?_
          clear hK K
          refine wpAny_ready (rs := [8]) (by kernel_rfl) (by simp) ?_
          refine AllReady.cons rfl (fun K hK => ?_) AllReady.nil
          go_simp
          refine hK _ _ ?_
          clear hK K
          refine wpAny_done (by kernel_rfl) ?_ _
          go_wp2
          exact bodyPost_ret (ret_stmt 2 Tryd.results62 _ n0 rfl _ _ _ _ _ _ _ HS1'.out) rfl HS2'.out
      · go_simp
        refine hK _ _ ?_
        clear hK K
        refine wpAny_ready (rs := [1]) (by kernel_rfl) (by simp) ?_
        refine AllReady.cons rfl (fun K hK => ?_) AllReady.nil
        go_simp
        refine hK _ _ ?_
        clear hK K
        refine wpAny_ready (rs := [7]) (by kernel_rfl) (by simp) ?_
        refine AllReady.cons rfl (fun K hK => ?_) AllReady.nil
        go_simp
        have HV : Rb w pb g c L b t n1 n2 x (.slice v1 v2 v3) r i (w3.alloc (.cells #[.int .i64 x.kind, .int .i64 x.num, .string x.name, .int .i64 x.op, .slice v1 v2 v3, .int .i64 (x.deep : Int)] 98)) ∧ SSlP (w3.alloc (.cells #[.int .i64 x.kind, .int .i64 x.num, .string x.name, .int .i64 x.op, .slice v1 v2 v3, .int .i64 (x.deep : Int)] 98)) (fun j => w.heap.size < j) (.slice b1 b2 b3) (srow l) ∧ i ≤ 600 := ⟨HR3.out.1.alloc _, HR3.out.2.1.keep (fun j _ hj => heap_alloc_old _ _ hj), HR3.out.2.2⟩
        refine (HM76.out (w3.alloc (.cells #[.int .i64 x.kind, .int .i64 x.num, .string x.name, .int .i64 x.op, .slice v1 v2 v3, .int .i64 (x.deep : Int)] 98)) _ _ _ _ HV (heap_alloc_new _ _)).mono ?_
        have HV1 := HV.1
        clear HV
        by_cases h6 : 600 < i + 1
        · rw [if_pos h6] at HP2 ⊢
          rintro e w8 ⟨rfl, hg⟩
          refine ⟨rfl, ?_⟩
          rw [← HP2.out]
          exact ⟨rfl, HV1.gr.trans hg⟩
        · rw [if_neg h6] at HP2 ⊢
          intro e w8 hep
          obtain ⟨q1, q2, q3, c1, c2, c3, e1, e2, e3, rfl, hb8, hs1, hs2⟩ := hep.give HV1.gr HV1.z (Nat.le_refl _) (fun j hj => ⟨by omega, by omega⟩) HPL.out
          rw [HP2.out] at hs2
          rw [hn0] at hb8 hs1 hs2
          have HS1' : Hid ((set6 w8 n0 (.int .i64 7) (.string ⟨#[]⟩) (.int .i64 0) (.slice q1 q2 q3) (.slice c1 c2 c3) (.slice e1 e2 e3)).heap[n0]? = some (.cells #[.int .i64 7, .string ⟨#[]⟩, .int .i64 0, .slice q1 q2 q3, .slice c1 c2 c3, .slice e1 e2 e3] 39)) := hs1
          have HS2' : Hid (P (.returned (.agg #[.int .i64 7, .string ⟨#[]⟩, .int .i64 0, .slice q1 q2 q3, .slice c1 c2 c3, .slice e1 e2 e3])) (set6 w8 n0 (.int .i64 7) (.string ⟨#[]⟩) (.int .i64 0) (.slice q1 q2 q3) (.slice c1 c2 c3) (.slice e1 e2 e3))) := hs2
          obtain ⟨⟨a0, a1, a2, a3, a4, a5⟩, z0, z1, z2, z3, z4, z5⟩ := z39_c hb8
          clear hs1 hs2 hb8 hep HV1
          refine hK _ _ ?_
          clear hK K
          refine wpAny_ready (rs := [8]) (by kernel_rfl) (by simp) ?_
          refine AllReady.cons rfl (fun K hK => ?_) AllReady.nil
          go_simp
          refine hK _ _ ?_
          clear hK K
          refine wpAny_done (by kernel_rfl) ?_ _
          go_wp2
          exact bodyPost_ret (ret_stmt 2 Tryd.results62 _ n0 rfl _ _ _ _ _ _ _ HS1'.out) rfl HS2'.out
  · rename_i hK
    refine (HA82.out _ HD0).mono ?_
    rintro e w3 ⟨b1, b2, b3, rfl, hS3, hR3, hk3⟩
    refine hK _ _ ?_
    clear hK
    have HR3 : Hid (Rb w pb g c L b t n1 n2 x (.slice v1 v2 v3) r i w3 ∧ SSlP w3 (fun j => w.heap.size < j) (.slice b1 b2 b3) (srow l) ∧ i ≤ 600) := hR3
    skip
    obtain ⟨t0', t1', t2', t3', d0', d1', d2', d3', d4', d5'⟩ := hS3
    have HAL := fun A : Obj => (hR3.1.alloc A).cells
    have ta0 := fun A => (HAL A).1
    have ta1 := fun A => (HAL A).2.1
    have ta2 := fun A => (HAL A).2.2.1
    have ta3 := fun A => (HAL A).2.2.2.1
    clear HAL hR3 hk3 t0 t1 t2 t3 d0 d1 d2 d3 d4 d5
    refine wpAny_take (i := 4) (v := ?_) rfl (by kernel_rfl) (by kernel_rfl) (by kernel_rfl) (fun _ _ _ h => h) (Or.inl ⟨by rfl, ?_⟩) ?_
    rotate_left
    · intro w
      go_simp
      with_reducible rfl
    refine wpAny_ready (rs := [6]) (by kernel_rfl) (by simp) ?_
    refine AllReady.cons rfl (fun K hK => ?_) AllReady.nil
    go_simp
    refine hK _ _ ?_
    clear hK K
    refine wpAny_ready (rs := [7]) (by kernel_rfl) (by simp) ?_
    refine AllReady.cons rfl (fun K hK => ?_) AllReady.nil
    go_simp
    have HV : Rb w pb g c L b t n1 n2 x (.slice v1 v2 v3) r i (w3.alloc (.cells #[.int .i64 x.kind, .int .i64 x.num, .string x.name, .int .i64 x.op, .slice v1 v2 v3, .int .i64 (x.deep : Int)] 98)) ∧ SSlP (w3.alloc (.cells #[.int .i64 x.kind, .int .i64 x.num, .string x.name, .int .i64 x.op, .slice v1 v2 v3, .int .i64 (x.deep : Int)] 98)) (fun j => w.heap.size < j) (.slice b1 b2 b3) (srow l) ∧ i ≤ 600 := ⟨HR3.out.1.alloc _, HR3.out.2.1.keep (fun j _ hj => heap_alloc_old _ _ hj), HR3.out.2.2⟩
    refine (HM76.out (w3.alloc (.cells #[.int .i64 x.kind, .int .i64 x.num, .string x.name, .int .i64 x.op, .slice v1 v2 v3, .int .i64 (x.deep : Int)] 98)) _ _ _ _ HV (heap_alloc_new _ _)).mono ?_
    have HV1 := HV.1
    clear HV
    by_cases h6 : 600 < i + 1
    · rw [if_pos h6] at HP2 ⊢
      rintro e w8 ⟨rfl, hg⟩
      refine ⟨rfl, ?_⟩
      rw [← HP2.out]
      exact ⟨rfl, HV1.gr.trans hg⟩
    · rw [if_neg h6] at HP2 ⊢
      intro e w8 hep
      obtain ⟨q1, q2, q3, c1, c2, c3, e1, e2, e3, rfl, hb8, hs1, hs2⟩ := hep.give HV1.gr HV1.z (Nat.le_refl _) (fun j hj => ⟨by omega, by omega⟩) HPL.out
      rw [HP2.out] at hs2
      rw [hn0] at hb8 hs1 hs2
      have HS1' : Hid ((set6 w8 n0 (.int .i64 7) (.string ⟨#[]⟩) (.int .i64 0) (.slice q1 q2 q3) (.slice c1 c2 c3) (.slice e1 e2 e3)).heap[n0]? = some (.cells #[.int .i64 7, .string ⟨#[]⟩, .int .i64 0, .slice q1 q2 q3, .slice c1 c2 c3, .slice e1 e2 e3] 39)) := hs1
      have HS2' : Hid (P (.returned (.agg #[.int .i64 7, .string ⟨#[]⟩, .int .i64 0, .slice q1 q2 q3, .slice c1 c2 c3, .slice e1 e2 e3])) (set6 w8 n0 (.int .i64 7) (.string ⟨#[]⟩) (.int .i64 0) (.slice q1 q2 q3) (.slice c1 c2 c3) (.slice e1 e2 e3))) := hs2
      obtain ⟨⟨a0, a1, a2, a3, a4, a5⟩, z0, z1, z2, z3, z4, z5⟩ := z39_c hb8
      clear hs1 hs2 hb8 hep HV1
      refine hK _ _ ?_
      clear hK K
      refine wpAny_ready (rs := [8]) (by kernel_rfl) (by simp) ?_
      refine AllReady.cons rfl (fun K hK => ?_) AllReady.nil
      go_simp
      refine hK _ _ ?_
      clear hK K
      refine wpAny_done (by kernel_rfl) ?_ _
      go_wp2
      exact bodyPost_ret (ret_stmt 2 Tryd.results62 _ n0 rfl _ _ _ _ _ _ _ HS1'.out) rfl HS2'.out
  · rename_i hK
    refine (HA82.out _ HD1).mono ?_
    rintro e w3 ⟨b1, b2, b3, rfl, hS3, hR3, hk3⟩
    refine hK _ _ ?_
    clear hK
    have HR3 : Hid (Rb w pb g c L b t n1 n2 x (.slice v1 v2 v3) r i w3 ∧ SSlP w3 (fun j => w.heap.size < j) (.slice b1 b2 b3) (srow l) ∧ i ≤ 600) := hR3
    have HKB : Hid (w3.heap[W.heap.size]? = some (.cells #[.int .i64 x.kind, .int .i64 x.num, .string x.name, .int .i64 x.op, .slice v1 v2 v3, .int .i64 (x.deep : Int)] 98)) := hk3 _ _ HWP.out HK1.out
    obtain ⟨t0', t1', t2', t3', d0', d1', d2', d3', d4', d5'⟩ := hS3
    have HAL := fun A : Obj => (hR3.1.alloc A).cells
    have ta0 := fun A => (HAL A).1
    have ta1 := fun A => (HAL A).2.1
    have ta2 := fun A => (HAL A).2.2.1
    have ta3 := fun A => (HAL A).2.2.2.1
    clear HAL hR3 hk3 t0 t1 t2 t3 d0 d1 d2 d3 d4 d5
    refine wpAny_take (i := 4) (v := ?_) rfl (by kernel_rfl) (by kernel_rfl) (by kernel_rfl) (fun _ _ _ h => h) (Or.inl ⟨by rfl, ?_⟩) ?_
    rotate_left
    · intro w
      go_simp
      with_reducible rfl
    refine wpAny_ready (rs := [7]) (by kernel_rfl) (by simp) ?_
    refine AllReady.cons rfl (fun K hK => ?_) AllReady.nil
    go_simp
    have HV : Rb w pb g c L b t n1 n2 x (.slice v1 v2 v3) r i w3 ∧ SSlP w3 (fun j => w.heap.size < j) (.slice b1 b2 b3) (srow l) ∧ i ≤ 600 := HR3.out
    refine (HM76.out w3 _ _ _ _ HV HKB.out).mono ?_
    have HV1 := HV.1
    clear HV
    by_cases h6 : 600 < i + 1
    · rw [if_pos h6] at HP2 ⊢
      rintro e w8 ⟨rfl, hg⟩
      refine ⟨rfl, ?_⟩
      rw [← HP2.out]
      exact ⟨rfl, HV1.gr.trans hg⟩
    · rw [if_neg h6] at HP2 ⊢
      intro e w8 hep
      obtain ⟨q1, q2, q3, c1, c2, c3, e1, e2, e3, rfl, hb8, hs1, hs2⟩ := hep.give HV1.gr HV1.z (Nat.le_refl _) (fun j hj => ⟨by omega, by omega⟩) HPL.out
      rw [HP2.out] at hs2
      rw [hn0] at hb8 hs1 hs2
      have HS1' : Hid ((set6 w8 n0 (.int .i64 7) (.string ⟨#[]⟩) (.int .i64 0) (.slice q1 q2 q3) (.slice c1 c2 c3) (.slice e1 e2 e3)).heap[n0]? = some (.cells #[.int .i64 7, .string ⟨#[]⟩, .int .i64 0, .slice q1 q2 q3, .slice c1 c2 c3, .slice e1 e2 e3] 39)) := hs1
      have HS2' : Hid (P (.returned (.agg #[.int .i64 7, .string ⟨#[]⟩, .int .i64 0, .slice q1 q2 q3, .slice c1 c2 c3, .slice e1 e2 e3])) (set6 w8 n0 (.int .i64 7) (.string ⟨#[]⟩) (.int .i64 0) (.slice q1 q2 q3) (.slice c1 c2 c3) (.slice e1 e2 e3))) := hs2
      obtain ⟨⟨a0, a1, a2, a3, a4, a5⟩, z0, z1, z2, z3, z4, z5⟩ := z39_c hb8
      clear hs1 hs2 hb8 hep HV1
      refine hK _ _ ?_
      clear hK K
      refine wpAny_ready (rs := [8]) (by kernel_rfl) (by simp) ?_
      refine AllReady.cons rfl (fun K hK => ?_) AllReady.nil
      go_simp
      refine hK _ _ ?_
      clear hK K
      refine wpAny_done (by kernel_rfl) ?_ _
      go_wp2
      exact bodyPost_ret (ret_stmt 2 Tryd.results62 _ n0 rfl _ _ _ _ _ _ _ HS1'.out) rfl HS2'.out
  · rename_i hK
    refine (HA82.out _ HD0).mono ?_
    rintro e w3 ⟨b1, b2, b3, rfl, hS3, hR3, hk3⟩
    refine hK _ _ ?_
    clear hK
    have HR3 : Hid (Rb w pb g c L b t n1 n2 x (.slice v1 v2 v3) r i w3 ∧ SSlP w3 (fun j => w.heap.size < j) (.slice b1 b2 b3) (srow l) ∧ i ≤ 600) := hR3
    skip
    obtain ⟨t0', t1', t2', t3', d0', d1', d2', d3', d4', d5'⟩ := hS3
    have HAL := fun A : Obj => (hR3.1.alloc A).cells
    have ta0 := fun A => (HAL A).1
    have ta1 := fun A => (HAL A).2.1
    have ta2 := fun A => (HAL A).2.2.1
    have ta3 := fun A => (HAL A).2.2.2.1
    clear HAL hR3 hk3 t0 t1 t2 t3 d0 d1 d2 d3 d4 d5
    refine wpAny_take (i := 4) (v := ?_) rfl (by kernel_rfl) (by kernel_rfl) (by kernel_rfl) (fun _ _ _ h => h) (Or.inl ⟨by rfl, ?_⟩) ?_
    rotate_left
    · intro w
      go_simp
      with_reducible rfl
    refine wpAny_ready (rs := [1, 6]) (by kernel_rfl) (by simp) ?_
    refine AllReady.cons rfl (fun K hK => ?_) (AllReady.cons rfl (fun K hK => ?_) (AllReady.nil))
    · go_simp
      refine hK _ _ ?_
      clear hK K
      refine wpAny_ready (rs := [6]) (by kernel_rfl) (by simp) ?_
      refine AllReady.cons rfl (fun K hK => ?_) AllReady.nil
      go_simp
      refine hK _ _ ?_
      clear hK K
      refine wpAny_ready (rs := [7]) (by kernel_rfl) (by simp) ?_
      refine AllReady.cons rfl (fun K hK => ?_) AllReady.nil
      go_simp
      have HV : Rb w pb g c L b t n1 n2 x (.slice v1 v2 v3) r i (w3.alloc (.cells #[.int .i64 x.kind, .int .i64 x.num, .string x.name, .int .i64 x.op, .slice v1 v2 v3, .int .i64 (x.deep : Int)] 98)) ∧ SSlP (w3.alloc (.cells #[.int .i64 x.kind, .int .i64 x.num, .string x.name, .int .i64 x.op, .slice v1 v2 v3, .int .i64 (x.deep : Int)] 98)) (fun j => w.heap.size < j) (.slice b1 b2 b3) (srow l) ∧ i ≤ 600 := ⟨HR3.out.1.alloc _, HR3.out.2.1.keep (fun j _ hj => heap_alloc_old _ _ hj), HR3.out.2.2⟩
      refine (HM76.out (w3.alloc (.cells #[.int .i64 x.kind, .int .i64 x.num, .string x.name, .int .i64 x.op, .slice v1 v2 v3, .int .i64 (x.deep : Int)] 98)) _ _ _ _ HV (heap_alloc_new _ _)).mono ?_
      have HV1 := HV.1
      clear HV
      by_cases h6 : 600 < i + 1
      · rw [if_pos h6] at HP2 ⊢
        rintro e w8 ⟨rfl, hg⟩
        refine ⟨rfl, ?_⟩
        rw [← HP2.out]
        exact ⟨rfl, HV1.gr.trans hg⟩
      · rw [if_neg h6] at HP2 ⊢
        intro e w8 hep
        obtain ⟨q1, q2, q3, c1, c2, c3, e1, e2, e3, rfl, hb8, hs1, hs2⟩ := hep.give HV1.gr HV1.z (Nat.le_refl _) (fun j hj => ⟨by omega, by omega⟩) HPL.out
        rw [HP2.out] at hs2
        rw [hn0] at hb8 hs1 hs2
        have HS1' : Hid ((set6 w8 n0 (.int .i64 7) (.string ⟨#[]⟩) (.int .i64 0) (.slice q1 q2 q3) (.slice c1 c2 c3) (.slice e1 e2 e3)).heap[n0]? = some (.cells #[.int .i64 7, .string ⟨#[]⟩, .int .i64 0, .slice q1 q2 q3, .slice c1 c2 c3, .slice e1 e2 e3] 39)) := hs1
        have HS2' : Hid (P (.returned (.agg #[.int .i64 7, .string ⟨#[]⟩, .int .i64 0, .slice q1 q2 q3, .slice c1 c2 c3, .slice e1 e2 e3])) (set6 w8 n0 (.int .i64 7) (.string ⟨#[]⟩) (.int .i64 0) (.slice q1 q2 q3) (.slice c1 c2 c3) (.slice e1 e2 e3))) := hs2
        obtain ⟨⟨a0, a1, a2, a3, a4, a5⟩, z0, z1, z2, z3, z4, z5⟩ := z39_c hb8
        clear hs1 hs2 hb8 hep HV1
        refine hK _ _ ?_
        clear hK K
        refine wpAny_ready (rs := [8]) (by kernel_rfl) (by simp) ?_
        refine AllReady.cons rfl (fun K hK => ?_) AllReady.nil
        go_simp
        refine hK _ _ ?_
        clear hK K
        refine wpAny_done (by kernel_rfl) ?_ _
        go_wp2
        exact bodyPost_ret (ret_stmt 2 Tryd.results62 _ n0 rfl _ _ _ _ _ _ _ HS1'.out) rfl HS2'.out
    · go_simp
      refine hK _ _ ?_
      clear hK K
      refine wpAny_ready (rs := [1]) (by kernel_rfl) (by simp) ?_
      refine AllReady.cons rfl (fun K hK => ?_) AllReady.nil
      go_simp
      refine hK _ _ ?_
      clear hK K
      refine wpAny_ready (rs := [7]) (by kernel_rfl) (by simp) ?_
      refine AllReady.cons rfl (fun K hK => ?_) AllReady.nil
      go_simp
      have HV : Rb w pb g c L b t n1 n2 x (.slice v1 v2 v3) r i (w3.alloc (.cells #[.int .i64 x.kind, .int .i64 x.num, .string x.name, .int .i64 x.op, .slice v1 v2 v3, .int .i64 (x.deep : Int)] 98)) ∧ SSlP (w3.alloc (.cells #[.int .i64 x.kind, .int .i64 x.num, .string x.name, .int .i64 x.op, .slice v1 v2 v3, .int .i64 (x.deep : Int)] 98)) (fun j => w.heap.size < j) (.slice b1 b2 b3) (srow l) ∧ i ≤ 600 := ⟨HR3.out.1.alloc _, HR3.out.2.1.keep (fun j _ hj => heap_alloc_old _ _ hj), HR3.out.2.2⟩
      refine (HM76.out (w3.alloc (.cells #[.int .i64 x.kind, .int .i64 x.num, .string x.name, .int .i64 x.op, .slice v1 v2 v3, .int .i64 (x.deep : Int)] 98)) _ _ _ _ HV (heap_alloc_new _ _)).mono ?_
      have HV1 := HV.1
      clear HV
      by_cases h6 : 600 < i + 1
      · rw [if_pos h6] at HP2 ⊢
        rintro e w8 ⟨rfl, hg⟩
        refine ⟨rfl, ?_⟩
        rw [← HP2.out]
        exact ⟨rfl, HV1.gr.trans hg⟩
      · rw [if_neg h6] at HP2 ⊢
        intro e w8 hep
        obtain ⟨q1, q2, q3, c1, c2, c3, e1, e2, e3, rfl, hb8, hs1, hs2⟩ := hep.give HV1.gr HV1.z (Nat.le_refl _) (fun j hj => ⟨by omega, by omega⟩) HPL.out
        rw [HP2.out] at hs2
        rw [hn0] at hb8 hs1 hs2
        have HS1' : Hid ((set6 w8 n0 (.int .i64 7) (.string ⟨#[]⟩) (.int .i64 0) (.slice q1 q2 q3) (.slice c1 c2 c3) (.slice e1 e2 e3)).heap[n0]? = some (.cells #[.int .i64 7, .string ⟨#[]⟩, .int .i64 0, .slice q1 q2 q3, .slice c1 c2 c3, .slice e1 e2 e3] 39)) := hs1
        have HS2' : Hid (P (.returned (.agg #[.int .i64 7, .string ⟨#[]⟩, .int .i64 0, .slice q1 q2 q3, .slice c1 c2 c3, .slice e1 e2 e3])) (set6 w8 n0 (.int .i64 7) (.string ⟨#[]⟩) (.int .i64 0) (.slice q1 q2 q3) (.slice c1 c2 c3) (.slice e1 e2 e3))) := hs2
        obtain ⟨⟨a0, a1, a2, a3, a4, a5⟩, z0, z1, z2, z3, z4, z5⟩ := z39_c hb8
        clear hs1 hs2 hb8 hep HV1
        refine hK _ _ ?_
        clear hK K
        refine wpAny_ready (rs := [8]) (by kernel_rfl) (by simp) ?_
        refine AllReady.cons rfl (fun K hK => ?_) AllReady.nil
        go_simp
        refine hK _ _ ?_
        clear hK K
        refine wpAny_done (by kernel_rfl) ?_ _
        go_wp2
        exact bodyPost_ret (ret_stmt 2 Tryd.results62 _ n0 rfl _ _ _ _ _ _ _ HS1'.out) rfl HS2'.out
  · rename_i hK
    refine (HA82.out _ HD1).mono ?_
    rintro e w3 ⟨b1, b2, b3, rfl, hS3, hR3, hk3⟩
    refine hK _ _ ?_
    clear hK
    have HR3 : Hid (Rb w pb g c L b t n1 n2 x (.slice v1 v2 v3) r i w3 ∧ SSlP w3 (fun j => w.heap.size < j) (.slice b1 b2 b3) (srow l) ∧ i ≤ 600) := hR3
    have HKB : Hid (w3.heap[W.heap.size]? = some (.cells #[.int .i64 x.kind, .int .i64 x.num, .string x.name, .int .i64 x.op, .slice v1 v2 v3, .int .i64 (x.deep : Int)] 98)) := hk3 _ _ HWP.out HK1.out
    obtain ⟨t0', t1', t2', t3', d0', d1', d2', d3', d4', d5'⟩ := hS3
    have HAL := fun A : Obj => (hR3.1.alloc A).cells
    have ta0 := fun A => (HAL A).1
    have ta1 := fun A => (HAL A).2.1
    have ta2 := fun A => (HAL A).2.2.1
    have ta3 := fun A => (HAL A).2.2.2.1
    clear HAL hR3 hk3 t0 t1 t2 t3 d0 d1 d2 d3 d4 d5
    refine wpAny_take (i := 4) (v := ?_) rfl (by kernel_rfl) (by kernel_rfl) (by kernel_rfl) (fun _ _ _ h => h) (Or.inl ⟨by rfl, ?_⟩) ?_
    rotate_left
    · intro w
      go_simp
      with_reducible rfl
    refine wpAny_ready (rs := [7]) (by kernel_rfl) (by simp) ?_
    refine AllReady.cons rfl (fun K hK => ?_) AllReady.nil
    go_simp
    have HV : Rb w pb g c L b t n1 n2 x (.slice v1 v2 v3) r i w3 ∧ SSlP w3 (fun j => w.heap.size < j) (.slice b1 b2 b3) (srow l) ∧ i ≤ 600 := HR3.out
    refine (HM76.out w3 _ _ _ _ HV HKB.out).mono ?_
    have HV1 := HV.1
    clear HV
    by_cases h6 : 600 < i + 1
    · rw [if_pos h6] at HP2 ⊢
      rintro e w8 ⟨rfl, hg⟩
      refine ⟨rfl, ?_⟩
      rw [← HP2.out]
      exact ⟨rfl, HV1.gr.trans hg⟩
    · rw [if_neg h6] at HP2 ⊢
      intro e w8 hep
      obtain ⟨q1, q2, q3, c1, c2, c3, e1, e2, e3, rfl, hb8, hs1, hs2⟩ := hep.give HV1.gr HV1.z (Nat.le_refl _) (fun j hj => ⟨by omega, by omega⟩) HPL.out
      rw [HP2.out] at hs2
      rw [hn0] at hb8 hs1 hs2
      have HS1' : Hid ((set6 w8 n0 (.int .i64 7) (.string ⟨#[]⟩) (.int .i64 0) (.slice q1 q2 q3) (.slice c1 c2 c3) (.slice e1 e2 e3)).heap[n0]? = some (.cells #[.int .i64 7, .string ⟨#[]⟩, .int .i64 0, .slice q1 q2 q3, .slice c1 c2 c3, .slice e1 e2 e3] 39)) := hs1
      have HS2' : Hid (P (.returned (.agg #[.int .i64 7, .string ⟨#[]⟩, .int .i64 0, .slice q1 q2 q3, .slice c1 c2 c3, .slice e1 e2 e3])) (set6 w8 n0 (.int .i64 7) (.string ⟨#[]⟩) (.int .i64 0) (.slice q1 q2 q3) (.slice c1 c2 c3) (.slice e1 e2 e3))) := hs2
      obtain ⟨⟨a0, a1, a2, a3, a4, a5⟩, z0, z1, z2, z3, z4, z5⟩ := z39_c hb8
      clear hs1 hs2 hb8 hep HV1
      refine hK _ _ ?_
      clear hK K
      refine wpAny_ready (rs := [8]) (by kernel_rfl) (by simp) ?_
      refine AllReady.cons rfl (fun K hK => ?_) AllReady.nil
      go_simp
      refine hK _ _ ?_
      clear hK K
      refine wpAny_done (by kernel_rfl) ?_ _
      go_wp2
      exact bodyPost_ret (ret_stmt 2 Tryd.results62 _ n0 rfl _ _ _ _ _ _ _ HS1'.out) rfl HS2'.out
  · rename_i hK
    refine (HA82.out _ HD1).mono ?_
    rintro e w3 ⟨b1, b2, b3, rfl, hS3, hR3, hk3⟩
    refine hK _ _ ?_
    clear hK
    have HR3 : Hid (Rb w pb g c L b t n1 n2 x (.slice v1 v2 v3) r i w3 ∧ SSlP w3 (fun j => w.heap.size < j) (.slice b1 b2 b3) (srow l) ∧ i ≤ 600) := hR3
    have HKB : Hid (w3.heap[W.heap.size]? = some (.cells #[.int .i64 x.kind, .int .i64 x.num, .string x.name, .int .i64 x.op, .slice v1 v2 v3, .int .i64 (x.deep : Int)] 98)) := hk3 _ _ HWP.out HK1.out
    obtain ⟨t0', t1', t2', t3', d0', d1', d2', d3', d4', d5'⟩ := hS3
    have HAL := fun A : Obj => (hR3.1.alloc A).cells
    have ta0 := fun A => (HAL A).1
    have ta1 := fun A => (HAL A).2.1
    have ta2 := fun A => (HAL A).2.2.1
    have ta3 := fun A => (HAL A).2.2.2.1
    clear HAL hR3 hk3 t0 t1 t2 t3 d0 d1 d2 d3 d4 d5
    refine wpAny_take (i := 4) (v := ?_) rfl (by kernel_rfl) (by kernel_rfl) (by kernel_rfl) (fun _ _ _ h => h) (Or.inl ⟨by rfl, ?_⟩) ?_
    rotate_left
    · intro w
      go_simp
      with_reducible rfl
    refine wpAny_ready (rs := [1]) (by kernel_rfl) (by simp) ?_
    refine AllReady.cons rfl (fun K hK => ?_) AllReady.nil
    go_simp
    refine hK _ _ ?_
    clear hK K
    refine wpAny_ready (rs := [7]) (by kernel_rfl) (by simp) ?_
    refine AllReady.cons rfl (fun K hK => ?_) AllReady.nil
    go_simp
    have HV : Rb w pb g c L b t n1 n2 x (.slice v1 v2 v3) r i w3 ∧ SSlP w3 (fun j => w.heap.size < j) (.slice b1 b2 b3) (srow l) ∧ i ≤ 600 := HR3.out
    refine (HM76.out w3 _ _ _ _ HV HKB.out).mono ?_
    have HV1 := HV.1
    clear HV
    by_cases h6 : 600 < i + 1
    · rw [if_pos h6] at HP2 ⊢
      rintro e w8 ⟨rfl, hg⟩
      refine ⟨rfl, ?_⟩
      rw [← HP2.out]
      exact ⟨rfl, HV1.gr.trans hg⟩
    · rw [if_neg h6] at HP2 ⊢
      intro e w8 hep
      obtain ⟨q1, q2, q3, c1, c2, c3, e1, e2, e3, rfl, hb8, hs1, hs2⟩ := hep.give HV1.gr HV1.z (Nat.le_refl _) (fun j hj => ⟨by omega, by omega⟩) HPL.out
      rw [HP2.out] at hs2
      rw [hn0] at hb8 hs1 hs2
      have HS1' : Hid ((set6 w8 n0 (.int .i64 7) (.string ⟨#[]⟩) (.int .i64 0) (.slice q1 q2 q3) (.slice c1 c2 c3) (.slice e1 e2 e3)).heap[n0]? = some (.cells #[.int .i64 7, .string ⟨#[]⟩, .int .i64 0, .slice q1 q2 q3, .slice c1 c2 c3, .slice e1 e2 e3] 39)) := hs1
      have HS2' : Hid (P (.returned (.agg #[.int .i64 7, .string ⟨#[]⟩, .int .i64 0, .slice q1 q2 q3, .slice c1 c2 c3, .slice e1 e2 e3])) (set6 w8 n0 (.int .i64 7) (.string ⟨#[]⟩) (.int .i64 0) (.slice q1 q2 q3) (.slice c1 c2 c3) (.slice e1 e2 e3))) := hs2
      obtain ⟨⟨a0, a1, a2, a3, a4, a5⟩, z0, z1, z2, z3, z4, z5⟩ := z39_c hb8
      clear hs1 hs2 hb8 hep HV1
      refine hK _ _ ?_
      clear hK K
      refine wpAny_ready (rs := [8]) (by kernel_rfl) (by simp) ?_
      refine AllReady.cons rfl (fun K hK => ?_) AllReady.nil
      go_simp
      refine hK _ _ ?_
      clear hK K
      refine wpAny_done (by kernel_rfl) ?_ _
      go_wp2
      exact bodyPost_ret (ret_stmt 2 Tryd.results62 _ n0 rfl _ _ _ _ _ _ _ HS1'.out) rfl HS2'.out
end Go.Proofs.YtnofibjchhcmeabDoor
