/- An if. -/
import Derived.Test.YtnofibjchhcmeabDoorOt
import Derived.Deep.CutRange
namespace Go.Proofs.YtnofibjchhcmeabDoor
open Go.RowKit Go.Maps
set_option linter.unusedVariables false

def FedT (r : TR) : Prop := ∀ k, r ≠ .error (k, -1)
/-- behind the two blocks -/
def chooseE (t : Tok) (x : PE) (l : List PT) : TR → TR
  | .error e => .error e
  | .ok (l2, r2, i2) => mkS t ⟨6, ⟨#[]⟩, 0, erow [x], srow l, srow l2⟩ r2 i2
/-- behind the first block -/
def chooseB (L : List Tok) (row ch : Nat → Nat → Nat → TR) (b : Nat) (t : Tok) (x : PE) : TR → TR
  | .error e => .error e
  | .ok (l, r, i) => if (tk L r).text = [101, 108, 115, 101] then chooseE t x l (otherP L row ch b (r + 1) i) else mkS t ⟨6, ⟨#[]⟩, 0, erow [x], srow l, .leaf⟩ r i
/-- behind the test -/
def chooseW (L : List Tok) (row ch : Nat → Nat → Nat → TR) (b : Nat) (t : Tok) : PR → TR
  | .error e => .error e
  | .ok (x, q, m) => chooseB L row ch b t x (blockP L row b q m)
theorem chooseP_is (L : List Tok) (row ch : Nat → Nat → Nat → TR) (b p n : Nat) : chooseP L row ch b p n = chooseW L row ch b (tk L p) (withinT L [40] [41] (p + 1) n) := by
  unfold chooseP chooseW
  rcases withinT L [40] [41] (p + 1) n with e | ⟨x, q, m⟩
  · rfl
  · simp only
    unfold chooseB
    rcases blockP L row b q m with e | ⟨l, r, i⟩
    · rfl
    · simp only
      split
      · unfold chooseE
        rcases otherP L row ch b (r + 1) i with e | ⟨l2, r2, i2⟩ <;> rfl
      · rfl

set_option maxRecDepth 100000 in
set_option maxHeartbeats 8000000 in
theorem choose_any {pb g c : Nat} {L : List Tok} {b : Nat} (hE : TEnd L) (hx : ExOk pb g c L b (ex1 L)) (row ch : Nat → Nat → Nat → TR) (p n : Nat) (w : World) (h : PS w pb g c L p 0 b n) (hs : SG w pb) (hn : n ≤ 600) (hp1 : p + 1 < L.length)
    (hblk : ∀ q m W, PS W pb g c L q 0 b m → SG W pb → m ≤ 600 → FedT (blockP L row b q m) → Calls Tryd.prog 82 #[.pointer (some ⟨pb, 0, none⟩)] W (BPost W (fun j => W.heap.size ≤ j) pb g c L b (blockP L row b q m)))
    (hoth : ∀ q m W, PS W pb g c L q 0 b m → SG W pb → m ≤ 600 → FedT (otherP L row ch b q m) → Calls Tryd.prog 84 #[.pointer (some ⟨pb, 0, none⟩)] W (BPost W (fun j => W.heap.size ≤ j) pb g c L b (otherP L row ch b q m)))
    (hfd : FedT (chooseP L row ch b p n)) :
    Calls Tryd.prog 61 #[.pointer (some ⟨pb, 0, none⟩)] w (TPost w (fun j => w.heap.size ≤ j) pb g c L b (chooseP L row ch b p n)) := by
  rw [chooseP_is] at hfd ⊢
  have HS0 : Hid (PS (w.alloc z39) pb g c L p 0 b n) := h.below ((Below.refl _ _).alloc (Nat.le_refl _) _)
  have HG0 : Hid (Gr w (w.alloc z39) pb) := (Gr.refl w pb).alloc _
  have HB0 : Hid ((w.alloc z39).heap[w.heap.size]? = some z39) := heap_alloc_new _ _
  have HPL : Hid (pb < w.heap.size ∧ g < w.heap.size) := ⟨h.lt, h.gl⟩
  have HSG : Hid (SG w pb) := hs
  have HBK : Hid (∀ q m W, PS W pb g c L q 0 b m → SG W pb → m ≤ 600 → FedT (blockP L row b q m) → Calls Tryd.prog 82 #[.pointer (some ⟨pb, 0, none⟩)] W (BPost W (fun j => W.heap.size ≤ j) pb g c L b (blockP L row b q m))) := hblk
  have HOT : Hid (∀ q m W, PS W pb g c L q 0 b m → SG W pb → m ≤ 600 → FedT (otherP L row ch b q m) → Calls Tryd.prog 84 #[.pointer (some ⟨pb, 0, none⟩)] W (BPost W (fun j => W.heap.size ≤ j) pb g c L b (otherP L row ch b q m))) := hoth
  obtain ⟨t, ht⟩ : ∃ t, tk L p = t := ⟨_, rfl⟩
  have HNX : Hid (∀ W, PS W pb g c L p 0 b n → Calls Tryd.prog 75 #[.pointer (some ⟨pb, 0, none⟩)] W fun e w' => e = .returned (tv t) ∧ PS w' pb g c L (p + 1) 0 b n ∧ Gr W w' pb) := fun W hW => by have := next_tk hW hp1; rwa [ht] at this
  obtain ⟨R, hR⟩ : ∃ R, withinT L [40] [41] (p + 1) n = R := ⟨_, rfl⟩
  have HWI : Hid (∀ W, PS W pb g c L (p + 1) 0 b n → SG W pb → Calls Tryd.prog 79 #[.pointer (some ⟨pb, 0, none⟩), .string ⟨#[40]⟩, .string ⟨#[41]⟩] W (EPost W W.heap.size pb g c L 0 b R)) := fun W hW hS => by have := within_any hE hx (ex1_fwd L) ⟨#[40]⟩ ⟨#[41]⟩ (by simp) (by simp) (p + 1) 0 n W hW hS hn (by omega) (withinP_fed fun _ => ex1_fed L _ _ _); exact hR ▸ this
  rw [ht, hR] at hfd ⊢
  have HFD : Hid (FedT (chooseW L row ch b t R)) := hfd
  obtain ⟨P, hP⟩ : ∃ P, TPost w (fun j => w.heap.size ≤ j) pb g c L b (chooseW L row ch b t R) = P := ⟨_, rfl⟩
  have HP : Hid (TPost w (fun j => w.heap.size ≤ j) pb g c L b (chooseW L row ch b t R) = P) := hP
  rw [hP]
  unfold tv at HNX
  unfold z39 at HS0 HG0 HB0
  clear h ht hp1 hs hR hx hblk hoth hfd hP
  go_enter Tryd.func61, Tryd.ntmps61
  go_wp2_with fail
  refine (HNX.out _ HS0.out).mono ?_
  rintro e w1 ⟨rfl, hp, hg⟩
  have hs1 : w.heap.size < w1.heap.size := by have := hg.size; simp at this; omega
  have BL1 := (Below.refl w1.heap.size w1).alloc (Nat.le_refl _) (tc4 t)
  have HS1 : Hid (PS (w1.alloc (tc4 t)) pb g c L (p + 1) 0 b n) := hp.below BL1
  have HG1 : Hid (Gr w (w1.alloc (tc4 t)) pb) := (HG0.out.trans hg).alloc _
  have HB1 : Hid ((w1.alloc (tc4 t)).heap[w.heap.size]? = some z39) := (BL1.block _ hs1).trans ((hg.blk (by simp) HPL.out.1).trans HB0.out)
  have HT1 : Hid ((w1.alloc (tc4 t)).heap[w1.heap.size]? = some (tc4 t)) := heap_alloc_new _ _
  have HL1 : Hid (w.heap.size < w1.heap.size ∧ pb < w1.heap.size ∧ (w1.alloc (tc4 t)).heap.size = w1.heap.size + 1) := ⟨hs1, by have := HPL.out; omega, by simp⟩
  clear hp hg BL1 hs1 HNX
  go_wp2_with fail
  refine (HWI.out _ HS1.out (HSG.out.gr HG1.out)).mono ?_
  rcases R with ⟨k, ek⟩ | ⟨x, q, m⟩
  · rintro e w2 ⟨rfl, hg⟩
    refine ⟨rfl, ?_⟩
    rw [← HP.out]
    exact ⟨rfl, HG1.out.trans hg⟩
  rintro e w2 ⟨v, rfl, hes, hp, hg, hd, hm⟩
  obtain ⟨v1, v2, v3, rfl⟩ := hes.sl
  have hg' : Gr (w1.alloc (tc4 t)) w2 pb := hg
  have BL2 := (Below.refl w2.heap.size w2).alloc (Nat.le_refl _) (pc (rx x (.slice v1 v2 v3)))
  have hs2 : w1.heap.size + 1 ≤ w2.heap.size := by have := hg'.size; have := HL1.out; omega
  have HS2 : Hid (PS (w2.alloc (pc (rx x (.slice v1 v2 v3)))) pb g c L q 0 b m) := hp.below BL2
  have HG2 : Hid (Gr w (w2.alloc (pc (rx x (.slice v1 v2 v3)))) pb) := (HG1.out.trans hg').alloc _
  have HB2 : Hid ((w2.alloc (pc (rx x (.slice v1 v2 v3)))).heap[w.heap.size]? = some z39) := (BL2.block _ (by have := HL1.out; omega)).trans ((hg'.blk (by have := HL1.out; omega) HPL.out.1).trans HB1.out)
  have HT2 : Hid ((w2.alloc (pc (rx x (.slice v1 v2 v3)))).heap[w1.heap.size]? = some (tc4 t)) := (BL2.block _ (by omega)).trans ((hg'.blk (by have := HL1.out; omega) HL1.out.2.1).trans HT1.out)
  have HX2 : Hid ((w2.alloc (pc (rx x (.slice v1 v2 v3)))).heap[w2.heap.size]? = some (pc (rx x (.slice v1 v2 v3)))) := heap_alloc_new _ _
  have HE2 : Hid (ESlP (w2.alloc (pc (rx x (.slice v1 v2 v3)))) (fun j => w.heap.size < j) (.slice v1 v2 v3) x.args) := (ESlP.mono hes (fun j hj => by have := HL1.out; have : (w1.alloc (tc4 t)).heap.size ≤ j := hj; omega)).below BL2
  have HL2 : Hid (w.heap.size < w2.heap.size ∧ w1.heap.size < w2.heap.size ∧ pb < w2.heap.size ∧ (w2.alloc (pc (rx x (.slice v1 v2 v3)))).heap.size = w2.heap.size + 1) := by have := HL1.out; exact ⟨by omega, by omega, by omega, by simp⟩
  have HDM : Hid (x.deep ≤ 48 ∧ m ≤ 600) := ⟨hd, hm⟩
  clear hp hg hg' hes hd hm BL2 hs2 HWI
  obtain ⟨r1, hr1⟩ : ∃ r1, blockP L row b q m = r1 := ⟨_, rfl⟩
  have HP2 : Hid (TPost w (fun j => w.heap.size ≤ j) pb g c L b (chooseB L row ch b t x r1) = P) := by show _ = _; rw [← HP.out, ← hr1]; rfl
  have HFD2 : Hid (FedT (chooseB L row ch b t x r1)) := by have := HFD.out; rw [← hr1]; exact this
  have HB82 : Hid (∀ W, PS W pb g c L q 0 b m → SG W pb → Calls Tryd.prog 82 #[.pointer (some ⟨pb, 0, none⟩)] W (BPost W (fun j => W.heap.size ≤ j) pb g c L b r1)) := fun W h1 h2 => by
    have hf : FedT (blockP L row b q m) := by
      rw [hr1]
      rcases r1 with e | y
      · exact HFD2.out
      · intro k e; cases e
    have := HBK.out q m W h1 h2 HDM.out.2 hf
    rwa [hr1] at this
  clear hr1 HP HFD HBK
  unfold rxv rx
  go_wp2_with fail
  refine (HB82.out _ HS2.out (HSG.out.gr HG2.out)).mono ?_
  rcases r1 with ⟨k, ek⟩ | ⟨l, r, i⟩
  · rintro e w3 ⟨rfl, hg⟩
    refine ⟨rfl, ?_⟩
    rw [← HP2.out]
    exact ⟨rfl, HG2.out.trans hg⟩
  rintro e w3 ⟨b1, b2, b3, rfl, hss, hp, hg, hm⟩
  have hg' : Gr (w2.alloc (pc (rx x (.slice v1 v2 v3)))) w3 pb := hg
  have BL3 := (Below.refl w3.heap.size w3).alloc (Nat.le_refl _) (.cells #[.int .i64 6, .string ⟨#[]⟩, .int .i64 0, .slice none 0 0, .slice b1 b2 b3, .slice none 0 0] 39)
  have hs3 : w2.heap.size + 1 ≤ w3.heap.size := by have := hg'.size; have := HL2.out; omega
  have HS3 : Hid (PS (w3.alloc (.cells #[.int .i64 6, .string ⟨#[]⟩, .int .i64 0, .slice none 0 0, .slice b1 b2 b3, .slice none 0 0] 39)) pb g c L r 0 b i) := hp.below BL3
  have HG3 : Hid (Gr w (w3.alloc (.cells #[.int .i64 6, .string ⟨#[]⟩, .int .i64 0, .slice none 0 0, .slice b1 b2 b3, .slice none 0 0] 39)) pb) := (HG2.out.trans hg').alloc _
  have HB3 : Hid ((w3.alloc (.cells #[.int .i64 6, .string ⟨#[]⟩, .int .i64 0, .slice none 0 0, .slice b1 b2 b3, .slice none 0 0] 39)).heap[w.heap.size]? = some z39) := (BL3.block _ (by have := HL2.out; omega)).trans ((hg'.blk (by have := HL2.out; omega) HPL.out.1).trans HB2.out)
  have HT3 : Hid ((w3.alloc (.cells #[.int .i64 6, .string ⟨#[]⟩, .int .i64 0, .slice none 0 0, .slice b1 b2 b3, .slice none 0 0] 39)).heap[w1.heap.size]? = some (tc4 t)) := (BL3.block _ (by have := HL2.out; omega)).trans ((hg'.blk (by have := HL2.out; omega) HL1.out.2.1).trans HT2.out)
  have HX3 : Hid ((w3.alloc (.cells #[.int .i64 6, .string ⟨#[]⟩, .int .i64 0, .slice none 0 0, .slice b1 b2 b3, .slice none 0 0] 39)).heap[w2.heap.size]? = some (pc (rx x (.slice v1 v2 v3)))) := (BL3.block _ (by omega)).trans ((hg'.blk (by have := HL2.out; omega) HL2.out.2.2.1).trans HX2.out)
  have HY3 : Hid ((w3.alloc (.cells #[.int .i64 6, .string ⟨#[]⟩, .int .i64 0, .slice none 0 0, .slice b1 b2 b3, .slice none 0 0] 39)).heap[w3.heap.size]? = some (.cells #[.int .i64 6, .string ⟨#[]⟩, .int .i64 0, .slice none 0 0, .slice b1 b2 b3, .slice none 0 0] 39)) := heap_alloc_new _ _
  have HE3 : Hid (ESlP (w3.alloc (.cells #[.int .i64 6, .string ⟨#[]⟩, .int .i64 0, .slice none 0 0, .slice b1 b2 b3, .slice none 0 0] 39)) (fun j => w.heap.size < j) (.slice v1 v2 v3) x.args) := (HE2.out.gr hg' (fun j hj => by have := HPL.out; omega)).below BL3
  have HEb : Hid (ESlP (w3.alloc (.cells #[.int .i64 6, .string ⟨#[]⟩, .int .i64 0, .slice none 0 0, .slice b1 b2 b3, .slice none 0 0] 39)) (fun j => w.heap.size < j ∧ j ≠ w3.heap.size) (.slice v1 v2 v3) x.args) := (ESlP.mono' (HE2.out.gr hg' (fun j hj => by have := HPL.out; omega)) (fun j hj hj2 => ⟨hj, by omega⟩)).below BL3
  have HV3 : Hid (SSlP (w3.alloc (.cells #[.int .i64 6, .string ⟨#[]⟩, .int .i64 0, .slice none 0 0, .slice b1 b2 b3, .slice none 0 0] 39)) (fun j => w.heap.size < j ∧ j ≠ w3.heap.size) (.slice b1 b2 b3) (srow l)) := (SSlP.mono' hss (fun j hj hj2 => by have := HL2.out; have : (w2.alloc (pc (rx x (.slice v1 v2 v3)))).heap.size ≤ j := hj; exact ⟨by omega, by omega⟩)).keep fun j _ hj => BL3.block j hj
  have HL3 : Hid (w.heap.size < w3.heap.size ∧ w1.heap.size < w3.heap.size ∧ w2.heap.size < w3.heap.size ∧ pb < w3.heap.size ∧ (w3.alloc (.cells #[.int .i64 6, .string ⟨#[]⟩, .int .i64 0, .slice none 0 0, .slice b1 b2 b3, .slice none 0 0] 39)).heap.size = w3.heap.size + 1) := by have := HL2.out; exact ⟨by omega, by omega, by omega, by omega, by simp⟩
  have HMI3 : Hid (i ≤ 600) := hm
  have hlk := looksAt_tk ⟨#[101, 108, 115, 101]⟩ HS3.out
  clear hp hg hg' hss hm BL3 hs3 HB82
  go_wp2_with fail
  unfold chooseB at HP2 HFD2
  dsimp only at HP2 HFD2
  by_cases e3 : (tk L r).text = [101, 108, 115, 101]
  · rw [if_pos e3] at HP2 HFD2
    have hkb : ((tk L r).text == (⟨#[101, 108, 115, 101]⟩ : ByteArray).data.toList) = true := by rw [e3]; rfl
    rw [hkb] at hlk
    have hr1 : r + 1 < L.length := hE.text (by rw [e3]; simp)
    refine hlk.mono ?_
    rintro e wa ⟨rfl, hba⟩
    have hba' : Below (w3.alloc (.cells #[.int .i64 6, .string ⟨#[]⟩, .int .i64 0, .slice none 0 0, .slice b1 b2 b3, .slice none 0 0] 39)).heap.size (w3.alloc (.cells #[.int .i64 6, .string ⟨#[]⟩, .int .i64 0, .slice none 0 0, .slice b1 b2 b3, .slice none 0 0] 39)) wa := hba
    have hnx := next_tk (HS3.out.below hba') hr1
    obtain ⟨tq, htq⟩ : ∃ tq, tk L r = tq := ⟨_, rfl⟩
    rw [htq] at hnx
    unfold tv at hnx
    go_wp2_with fail
    refine hnx.mono ?_
    rintro e wb ⟨rfl, hpb, hgb⟩
    obtain ⟨ro, hro⟩ : ∃ ro, otherP L row ch b (r + 1) i = ro := ⟨_, rfl⟩
    rw [hro] at HP2 HFD2
    have hfo : FedT (otherP L row ch b (r + 1) i) := by
      rw [hro]
      rcases ro with e | y
      · exact HFD2.out
      · intro k e; cases e
    have HG5 : Hid (Gr w wb pb) := (HG3.out.trans (Gr.below hba')).trans hgb
    have hot := HOT.out (r + 1) i wb hpb (HSG.out.gr HG5.out) HMI3.out hfo
    rw [hro] at hot
    have hk5 : ∀ j, pb < j → j < (w3.alloc (.cells #[.int .i64 6, .string ⟨#[]⟩, .int .i64 0, .slice none 0 0, .slice b1 b2 b3, .slice none 0 0] 39)).heap.size → wb.heap[j]? = (w3.alloc (.cells #[.int .i64 6, .string ⟨#[]⟩, .int .i64 0, .slice none 0 0, .slice b1 b2 b3, .slice none 0 0] 39)).heap[j]? := fun j h1 h2 => (hgb.blk (Nat.lt_of_lt_of_le h2 hba'.size) h1).trans (hba'.block j h2)
    have HK5 : Hid (∀ j, pb < j → j < (w3.alloc (.cells #[.int .i64 6, .string ⟨#[]⟩, .int .i64 0, .slice none 0 0, .slice b1 b2 b3, .slice none 0 0] 39)).heap.size → wb.heap[j]? = (w3.alloc (.cells #[.int .i64 6, .string ⟨#[]⟩, .int .i64 0, .slice none 0 0, .slice b1 b2 b3, .slice none 0 0] 39)).heap[j]?) := hk5
    have HSb : Hid ((w3.alloc (.cells #[.int .i64 6, .string ⟨#[]⟩, .int .i64 0, .slice none 0 0, .slice b1 b2 b3, .slice none 0 0] 39)).heap.size ≤ wb.heap.size) := Nat.le_trans hba'.size hgb.size
    clear hba hba' hpb hgb hnx htq hlk hkb hfo hk5 hro
    go_wp2_with fail
    refine hot.mono ?_
    clear hot
    rcases ro with ⟨k, ek⟩ | ⟨l2, r2, i2⟩
    · rintro e w6 ⟨rfl, hg⟩
      refine ⟨rfl, ?_⟩
      rw [← HP2.out]
      exact ⟨rfl, HG5.out.trans hg⟩
    rintro e w6 ⟨c1, c2, c3, rfl, hss, hp, hg, hm⟩
    have hk6 : ∀ j, pb < j → j < (w3.alloc (.cells #[.int .i64 6, .string ⟨#[]⟩, .int .i64 0, .slice none 0 0, .slice b1 b2 b3, .slice none 0 0] 39)).heap.size → w6.heap[j]? = (w3.alloc (.cells #[.int .i64 6, .string ⟨#[]⟩, .int .i64 0, .slice none 0 0, .slice b1 b2 b3, .slice none 0 0] 39)).heap[j]? := fun j h1 h2 => (hg.blk (Nat.lt_of_lt_of_le h2 HSb.out) h1).trans (HK5.out j h1 h2)
    have Y6 := (hk6 w3.heap.size (by have := HL3.out; omega) (by have := HL3.out; omega)).trans HY3.out
    have hne : ∀ j, j ≠ w3.heap.size → (w6.setCell ⟨w3.heap.size, 5, none⟩ (.slice c1 c2 c3)).heap[j]? = w6.heap[j]? := fun j hj => Below.heap_setCell _ _ _ _ hj
    have HY : Hid ((w6.setCell ⟨w3.heap.size, 5, none⟩ (.slice c1 c2 c3)).heap[w3.heap.size]? = some (.cells #[.int .i64 6, .string ⟨#[]⟩, .int .i64 0, .slice none 0 0, .slice b1 b2 b3, .slice c1 c2 c3] 39)) := heap_setCell_same w6 w3.heap.size 5 _ 39 (.slice c1 c2 c3) Y6
    have HS4 : Hid (PS (w6.setCell ⟨w3.heap.size, 5, none⟩ (.slice c1 c2 c3)) pb g c L r2 0 b i2) := hp.setNew (by have := HL3.out; omega) (by have := HL3.out; have := HPL.out; omega) _
    have HG4 : Hid (Gr w (w6.setCell ⟨w3.heap.size, 5, none⟩ (.slice c1 c2 c3)) pb) := (HG5.out.trans hg).setNew (by have := HL3.out; omega) _
    have HB4 : Hid ((w6.setCell ⟨w3.heap.size, 5, none⟩ (.slice c1 c2 c3)).heap[w.heap.size]? = some z39) := (hne _ (by have := HL3.out; omega)).trans ((hk6 _ HPL.out.1 (by have := HL3.out; omega)).trans HB3.out)
    have HT4 : Hid ((w6.setCell ⟨w3.heap.size, 5, none⟩ (.slice c1 c2 c3)).heap[w1.heap.size]? = some (tc4 t)) := (hne _ (by have := HL3.out; omega)).trans ((hk6 _ HL1.out.2.1 (by have := HL3.out; omega)).trans HT3.out)
    have HX4 : Hid ((w6.setCell ⟨w3.heap.size, 5, none⟩ (.slice c1 c2 c3)).heap[w2.heap.size]? = some (pc (rx x (.slice v1 v2 v3)))) := (hne _ (by have := HL3.out; omega)).trans ((hk6 _ HL2.out.2.2.1 (by have := HL3.out; omega)).trans HX3.out)
    have HE4 : Hid (ESlP (w6.setCell ⟨w3.heap.size, 5, none⟩ (.slice c1 c2 c3)) (fun j => w.heap.size < j) (.slice v1 v2 v3) x.args) := (HEb.out.keep fun j hj hj2 => (hne j hj.2).trans (hk6 j (by have := HPL.out; omega) hj2)).mono fun j hj => hj.1
    have HV4 : Hid (SSlP (w6.setCell ⟨w3.heap.size, 5, none⟩ (.slice c1 c2 c3)) (fun j => w.heap.size < j) (.slice b1 b2 b3) (srow l)) := (HV3.out.keep fun j hj hj2 => (hne j hj.2).trans (hk6 j (by have := HPL.out; omega) hj2)).mono fun j hj => hj.1
    have HW4 : Hid (SSlP (w6.setCell ⟨w3.heap.size, 5, none⟩ (.slice c1 c2 c3)) (fun j => w.heap.size < j) (.slice c1 c2 c3) (srow l2)) := (hss.keep fun j hj _ => hne j (by have := HSb.out; have := HL3.out; have : wb.heap.size ≤ j := hj; omega)).mono fun j hj => by have := HSb.out; have := HL3.out; have : wb.heap.size ≤ j := hj; omega
    have HLW : Hid (w.heap.size < (w6.setCell ⟨w3.heap.size, 5, none⟩ (.slice c1 c2 c3)).heap.size) := by show _ < _; have := hg.size; have := HSb.out; have := HL3.out; simp [World.setCell]; omega
    have HMI : Hid (i2 ≤ 600) := hm
    obtain ⟨m0, m1, m2, m3, m4, m5⟩ := c6 Y6
    have mf := frozen_of_row w6 w3.heap.size 5 _ _ Y6
    unfold chooseE at HP2
    dsimp only at HP2
    clear hss hp hg hm hk6 hne Y6 HK5
    go_upto_region 7 with fail
    clear m0 m1 m2 m3 m4 m5 mf
    generalize (w6.setCell ⟨w3.heap.size, 5, none⟩ (.slice c1 c2 c3)) = w4 at HY HS4 HG4 HB4 HT4 HX4 HE4 HV4 HW4 HLW ⊢
    obtain ⟨t0, t1, t2, t3⟩ := tc4_c HT4.out
    obtain ⟨d0, d1, d2, d3, d4, d5, _⟩ := pc_c HX4.out
    unfold rx at d0 d1 d2 d3 d4 d5
    dsimp only at d0 d1 d2 d3 d4 d5
    obtain ⟨y0, y1, y2, y3, y4, y5⟩ := c6 HY.out
    go_wp2_with fail
    have BL7 := (Below.refl w4.heap.size w4).alloc (Nat.le_refl _) (.cells #[.int .i64 x.kind, .int .i64 x.num, .string x.name, .int .i64 x.op, .slice v1 v2 v3, .int .i64 (x.deep : Int)] 98)
    have hk7 : ∀ j, j < w4.heap.size → (w4.alloc (.cells #[.int .i64 x.kind, .int .i64 x.num, .string x.name, .int .i64 x.op, .slice v1 v2 v3, .int .i64 (x.deep : Int)] 98)).heap[j]? = w4.heap[j]? := fun j hj => BL7.block j hj
    refine (makeS_any (fun j => w.heap.size < j) pb g c L r2 b i2 t 6 ⟨#[]⟩ 0 [(x, .slice v1 v2 v3)] (.slice b1 b2 b3) (.slice c1 c2 c3) (srow l) (srow l2) _ _ (HS4.out.below BL7) HMI.out (PA.one w4 x _ ⟨_, _, _, rfl⟩ HDM.out.1 98) ?_ (HV4.out.keep fun j _ hj => hk7 j hj) (HW4.out.keep fun j _ hj => hk7 j hj) ?_ ?_).mono ?_
    · intro z hz
      simp at hz
      subst hz
      exact HE4.out.below BL7
    · intro j hj; have := HLW.out; simp at hj; omega
    · intro j hj; have := HPL.out; omega
    have HG7 : Gr w (w4.alloc (.cells #[.int .i64 x.kind, .int .i64 x.num, .string x.name, .int .i64 x.op, .slice v1 v2 v3, .int .i64 (x.deep : Int)] 98)) pb := HG4.out.alloc _
    have HB7 := (BL7.block _ HLW.out).trans HB4.out
    clear BL7 hk7
    generalize (w4.alloc (.cells #[.int .i64 x.kind, .int .i64 x.num, .string x.name, .int .i64 x.op, .slice v1 v2 v3, .int .i64 (x.deep : Int)] 98)) = w7 at HG7 HB7 ⊢
    show ∀ e w', TPost w7 (fun j => w.heap.size < j) pb g c L b (mkS t ⟨6, ⟨#[]⟩, 0, erow [x], srow l, srow l2⟩ r2 i2) e w' → _
    unfold mkS at HP2 ⊢
    by_cases h6 : 600 < i2 + 1
    · rw [if_pos h6] at HP2 ⊢
      rintro e w8 ⟨rfl, hg⟩
      refine ⟨rfl, ?_⟩
      rw [← HP2.out]
      exact ⟨rfl, HG7.trans hg⟩
    · rw [if_neg h6] at HP2 ⊢
      intro e w8 hep
      obtain ⟨q1, q2, q3, f1, f2, f3, e1, e2, e3, rfl, hb8, hs1, hs2⟩ := hep.give HG7 HB7 (Nat.le_refl _) (fun j hj => ⟨by omega, by omega⟩) HPL.out
      rw [HP2.out] at hs2
      have HS1' : Hid ((set6 w8 w.heap.size (.int .i64 6) (.string ⟨#[]⟩) (.int .i64 0) (.slice q1 q2 q3) (.slice f1 f2 f3) (.slice e1 e2 e3)).heap[w.heap.size]? = some (.cells #[.int .i64 6, .string ⟨#[]⟩, .int .i64 0, .slice q1 q2 q3, .slice f1 f2 f3, .slice e1 e2 e3] 39)) := hs1
      have HS2' : Hid (P (.returned (.agg #[.int .i64 6, .string ⟨#[]⟩, .int .i64 0, .slice q1 q2 q3, .slice f1 f2 f3, .slice e1 e2 e3])) (set6 w8 w.heap.size (.int .i64 6) (.string ⟨#[]⟩) (.int .i64 0) (.slice q1 q2 q3) (.slice f1 f2 f3) (.slice e1 e2 e3))) := hs2
      obtain ⟨⟨a0, a1, a2, a3, a4, a5⟩, z0, z1, z2, z3, z4, z5⟩ := z39_c hb8
      clear hs1 hs2 hb8 hep HG7 HB7
      go_wp2
      exact bodyPost_ret (ret_stmt 2 Tryd.results61 _ w.heap.size rfl _ _ _ _ _ _ _ HS1'.out) rfl HS2'.out
  · rw [if_neg e3] at HP2
    have hkb : ((tk L r).text == (⟨#[101, 108, 115, 101]⟩ : ByteArray).data.toList) = false := by simpa using e3
    rw [hkb] at hlk
    refine hlk.mono ?_
    rintro e w4 ⟨rfl, hb4⟩
    have hb4' : Below (w3.alloc (.cells #[.int .i64 6, .string ⟨#[]⟩, .int .i64 0, .slice none 0 0, .slice b1 b2 b3, .slice none 0 0] 39)).heap.size (w3.alloc (.cells #[.int .i64 6, .string ⟨#[]⟩, .int .i64 0, .slice none 0 0, .slice b1 b2 b3, .slice none 0 0] 39)) w4 := hb4
    have HS4 : Hid (PS w4 pb g c L r 0 b i) := HS3.out.below hb4'
    have HG4 : Hid (Gr w w4 pb) := HG3.out.trans (Gr.below hb4')
    have HB4 : Hid (w4.heap[w.heap.size]? = some z39) := (hb4'.block _ (by have := HL3.out; omega)).trans HB3.out
    have HT4 : Hid (w4.heap[w1.heap.size]? = some (tc4 t)) := (hb4'.block _ (by have := HL3.out; omega)).trans HT3.out
    have HX4 : Hid (w4.heap[w2.heap.size]? = some (pc (rx x (.slice v1 v2 v3)))) := (hb4'.block _ (by have := HL3.out; omega)).trans HX3.out
    have HY : Hid (w4.heap[w3.heap.size]? = some (.cells #[.int .i64 6, .string ⟨#[]⟩, .int .i64 0, .slice none 0 0, .slice b1 b2 b3, .slice none 0 0] 39)) := (hb4'.block _ (by have := HL3.out; omega)).trans HY3.out
    have HE4 : Hid (ESlP w4 (fun j => w.heap.size < j) (.slice v1 v2 v3) x.args) := HE3.out.below hb4'
    have HV4 : Hid (SSlP w4 (fun j => w.heap.size < j) (.slice b1 b2 b3) (srow l)) := (HV3.out.keep fun j _ hj => hb4'.block j hj).mono fun j hj => hj.1
    have HLW : Hid (w.heap.size < w4.heap.size) := by show _ < _; have := hb4'.size; have := HL3.out; omega
    have HMI : Hid (i ≤ 600) := HMI3
    clear hb4 hb4' hlk hkb
    obtain ⟨t0, t1, t2, t3⟩ := tc4_c HT4.out
    obtain ⟨d0, d1, d2, d3, d4, d5, _⟩ := pc_c HX4.out
    unfold rx at d0 d1 d2 d3 d4 d5
    dsimp only at d0 d1 d2 d3 d4 d5
    obtain ⟨y0, y1, y2, y3, y4, y5⟩ := c6 HY.out
    go_wp2_with fail
    have BL7 := (Below.refl w4.heap.size w4).alloc (Nat.le_refl _) (.cells #[.int .i64 x.kind, .int .i64 x.num, .string x.name, .int .i64 x.op, .slice v1 v2 v3, .int .i64 (x.deep : Int)] 98)
    have hk7 : ∀ j, j < w4.heap.size → (w4.alloc (.cells #[.int .i64 x.kind, .int .i64 x.num, .string x.name, .int .i64 x.op, .slice v1 v2 v3, .int .i64 (x.deep : Int)] 98)).heap[j]? = w4.heap[j]? := fun j hj => BL7.block j hj
    refine (makeS_any (fun j => w.heap.size < j) pb g c L r b i t 6 ⟨#[]⟩ 0 [(x, .slice v1 v2 v3)] (.slice b1 b2 b3) (.slice none 0 0) (srow l) (.leaf) _ _ (HS4.out.below BL7) HMI.out (PA.one w4 x _ ⟨_, _, _, rfl⟩ HDM.out.1 98) ?_ (HV4.out.keep fun j _ hj => hk7 j hj) (SSlP.nil _ _) ?_ ?_).mono ?_
    · intro z hz
      simp at hz
      subst hz
      exact HE4.out.below BL7
    · intro j hj; have := HLW.out; simp at hj; omega
    · intro j hj; have := HPL.out; omega
    have HG7 : Gr w (w4.alloc (.cells #[.int .i64 x.kind, .int .i64 x.num, .string x.name, .int .i64 x.op, .slice v1 v2 v3, .int .i64 (x.deep : Int)] 98)) pb := HG4.out.alloc _
    have HB7 := (BL7.block _ HLW.out).trans HB4.out
    clear BL7 hk7
    generalize (w4.alloc (.cells #[.int .i64 x.kind, .int .i64 x.num, .string x.name, .int .i64 x.op, .slice v1 v2 v3, .int .i64 (x.deep : Int)] 98)) = w7 at HG7 HB7 ⊢
    show ∀ e w', TPost w7 (fun j => w.heap.size < j) pb g c L b (mkS t ⟨6, ⟨#[]⟩, 0, erow [x], srow l, .leaf⟩ r i) e w' → _
    unfold mkS at HP2 ⊢
    by_cases h6 : 600 < i + 1
    · rw [if_pos h6] at HP2 ⊢
      rintro e w8 ⟨rfl, hg⟩
      refine ⟨rfl, ?_⟩
      rw [← HP2.out]
      exact ⟨rfl, HG7.trans hg⟩
    · rw [if_neg h6] at HP2 ⊢
      intro e w8 hep
      obtain ⟨q1, q2, q3, c1, c2, c3, e1, e2, e3, rfl, hb8, hs1, hs2⟩ := hep.give HG7 HB7 (Nat.le_refl _) (fun j hj => ⟨by omega, by omega⟩) HPL.out
      rw [HP2.out] at hs2
      have HS1' : Hid ((set6 w8 w.heap.size (.int .i64 6) (.string ⟨#[]⟩) (.int .i64 0) (.slice q1 q2 q3) (.slice c1 c2 c3) (.slice e1 e2 e3)).heap[w.heap.size]? = some (.cells #[.int .i64 6, .string ⟨#[]⟩, .int .i64 0, .slice q1 q2 q3, .slice c1 c2 c3, .slice e1 e2 e3] 39)) := hs1
      have HS2' : Hid (P (.returned (.agg #[.int .i64 6, .string ⟨#[]⟩, .int .i64 0, .slice q1 q2 q3, .slice c1 c2 c3, .slice e1 e2 e3])) (set6 w8 w.heap.size (.int .i64 6) (.string ⟨#[]⟩) (.int .i64 0) (.slice q1 q2 q3) (.slice c1 c2 c3) (.slice e1 e2 e3))) := hs2
      obtain ⟨⟨a0, a1, a2, a3, a4, a5⟩, z0, z1, z2, z3, z4, z5⟩ := z39_c hb8
      clear hs1 hs2 hb8 hep HG7 HB7
      go_wp2
      exact bodyPost_ret (ret_stmt 2 Tryd.results61 _ w.heap.size rfl _ _ _ _ _ _ _ HS1'.out) rfl HS2'.out
end Go.Proofs.YtnofibjchhcmeabDoor
