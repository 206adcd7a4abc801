/- One expression: a word of memory; none. -/
import Derived.Test.YtnofibjchhcmeabDoorEb
namespace Go.Proofs.YtnofibjchhcmeabDoor
open Go.RowKit Go.Maps
set_option linter.unusedVariables false

def memR (t : Tok) : PR → PR
  | .error e => .error e
  | .ok (x, q, m) => mk' q (mkE t 3 0 ⟨#[]⟩ 0 [x] m)
theorem memP_is (L : List Tok) (ex : Nat → Nat → Nat → PR) (p o n : Nat) : memP L ex p o n = memR (tk L p) (withinP L ex [91] [93] (p + 1) o n) := by
  unfold memP memR
  rcases withinP L ex [91] [93] (p + 1) o n with e | ⟨x, q, m⟩ <;> rfl

set_option maxRecDepth 100000 in
set_option maxHeartbeats 4000000 in
theorem one_mem {pb g c : Nat} {L : List Tok} {b : Nat} (p o n : Nat) (w : World) (R : PR) (hE : TEnd L) (hfw : ∀ x q m, R = .ok (x, q, m) → m ≤ 600) (h : PS w pb g c L p o b n) (hsg : SG w pb) (hk1 : ¬ (tk L p).kind = 1) (hk2 : ¬ (tk L p).kind = 2) (htx : (tk L p).text = [109])
    (hc : ∀ V, PS V pb g c L (p + 1) o b n → SG V pb → Calls Tryd.prog 79 #[.pointer (some ⟨pb, 0, none⟩), .string ⟨#[91]⟩, .string ⟨#[93]⟩] V (EPost V V.heap.size pb g c L o b R)) :
    Calls Tryd.prog 100 #[.pointer (some ⟨pb, 0, none⟩)] w (EPost w w.heap.size pb g c L o b (memR (tk L p) R)) := by
  have hp1 : p + 1 < L.length := hE.text (by rw [htx]; simp)
  have HS0 : Hid (PS (w.alloc z98) pb g c L p o b n) := h.below ((Below.refl _ _).alloc (Nat.le_refl _) _)
  have HG0 : Hid (Gr w (w.alloc z98) pb) := (Gr.refl w pb).alloc _
  have HB0 : Hid ((w.alloc z98).heap[w.heap.size]? = some z98) := heap_alloc_new _ _
  have HPL : Hid (pb < w.heap.size ∧ g < w.heap.size) := ⟨h.lt, h.gl⟩
  have HSG : Hid (SG w pb) := hsg
  have HC : Hid (∀ V, PS V pb g c L (p + 1) o b n → SG V pb → Calls Tryd.prog 79 #[.pointer (some ⟨pb, 0, none⟩), .string ⟨#[91]⟩, .string ⟨#[93]⟩] V (EPost V V.heap.size pb g c L o b R)) := hc
  obtain ⟨t, ht⟩ : ∃ t, tk L p = t := ⟨_, rfl⟩
  rw [ht] at hk1 hk2 htx ⊢
  have HNX : Hid (∀ W, PS W pb g c L p o b n → Calls Tryd.prog 75 #[.pointer (some ⟨pb, 0, none⟩)] W fun e w' => e = .returned (tv t) ∧ PS w' pb g c L (p + 1) o b n ∧ Gr W w' pb) := fun W hW => by have := next_tk hW hp1; rwa [ht] at this
  have HFW : Hid (∀ x q m, R = .ok (x, q, m) → m ≤ 600) := hfw
  have HLK : Hid (∀ W, PS W pb g c L p o b n → Calls Tryd.prog 46 #[.pointer (some ⟨pb, 0, none⟩)] W fun e w' => e = .returned (tv t) ∧ Below W.heap.size W w') := fun W hW => by have := look_tk hW; rwa [ht] at this
  obtain ⟨P, hP⟩ : ∃ P, EPost w w.heap.size pb g c L o b (memR t R) = P := ⟨_, rfl⟩
  have HP : Hid (EPost w w.heap.size pb g c L o b (memR t R) = P) := hP
  rw [hP]
  obtain ⟨kd, tx, nm, ps⟩ := t
  simp only at hk1 hk2 htx
  subst htx
  unfold tv at HLK HNX
  dsimp only at HLK HNX
  unfold z98 at HS0 HG0 HB0
  have k1 := fld1
  clear h hP ht hc hsg hp1 hfw
  go_enter Tryd.func100, Tryd.ntmps100
  go_wp2_with fail
  refine (HLK.out _ HS0.out).mono ?_
  rintro e w1 ⟨rfl, hb⟩
  have BL1 := (Below.refl w1.heap.size w1).alloc (Nat.le_refl _) (tc4 ⟨kd, [109], nm, ps⟩)
  have hs1 : w.heap.size < w1.heap.size := by have := hb.size; simp at this; omega
  have HS1 : Hid (PS (w1.alloc (tc4 ⟨kd, [109], nm, ps⟩)) pb g c L p o b n) := (HS0.out.below hb).below BL1
  have HG1 : Hid (Gr w (w1.alloc (tc4 ⟨kd, [109], nm, ps⟩)) pb) := (HG0.out.trans (Gr.below hb)).alloc _
  have HB1 : Hid ((w1.alloc (tc4 ⟨kd, [109], nm, ps⟩)).heap[w.heap.size]? = some z98) := (BL1.block _ hs1).trans ((hb.block _ (by simp)).trans HB0.out)
  have HL1 : Hid (w.heap.size < w1.heap.size ∧ pb < w1.heap.size ∧ (w1.alloc (tc4 ⟨kd, [109], nm, ps⟩)).heap.size = w1.heap.size + 1) := by have := HPL.out; exact ⟨hs1, by omega, by simp⟩
  clear hb BL1 hs1
  go_wp2_with fail
  refine (HLK.out _ HS1.out).mono ?_
  rintro e w2 ⟨rfl, hb⟩
  have HS2 : Hid (PS w2 pb g c L p o b n) := HS1.out.below hb
  have HG2 : Hid (Gr w w2 pb) := HG1.out.trans (Gr.below hb)
  have HB2 : Hid (w2.heap[w.heap.size]? = some z98) := (hb.block _ (by have := HL1.out; omega)).trans HB1.out
  have HL2 : Hid (w.heap.size < w2.heap.size) := by show _ < _; have := hb.size; have := HL1.out; omega
  clear hb
  go_wp2_with fail
  refine (HNX.out _ HS2.out).mono ?_
  rintro e w3 ⟨rfl, hp, hg⟩
  have HS3 : Hid (PS w3 pb g c L (p + 1) o b n) := hp
  have HG3 : Hid (Gr w w3 pb) := HG2.out.trans hg
  have HB3 : Hid (w3.heap[w.heap.size]? = some z98) := (hg.blk HL2.out HPL.out.1).trans HB2.out
  have HL3 : Hid (w.heap.size < w3.heap.size) := Nat.lt_of_lt_of_le HL2.out hg.size
  clear hp hg
  go_wp2_with fail
  refine (HC.out _ HS3.out (HSG.out.gr HG3.out)).mono ?_
  rcases R with ⟨k, ek⟩ | ⟨x, q, m⟩
  · rintro e w8 ⟨rfl, hg⟩
    refine ⟨rfl, ?_⟩
    rw [← HP.out]
    exact ⟨rfl, HG3.out.trans hg⟩
  rintro e w4 ⟨v, rfl, hes, hp, hg, hd, hm⟩
  obtain ⟨v1, v2, v3, rfl⟩ := hes.sl
  have HS4 : Hid (PS w4 pb g c L q o b m) := hp
  have HG4 : Hid (Gr w w4 pb) := HG3.out.trans hg
  have HB4 : Hid (w4.heap[w.heap.size]? = some z98) := (hg.blk HL3.out HPL.out.1).trans HB3.out
  have HL4 : Hid (w.heap.size < w4.heap.size) := Nat.lt_of_lt_of_le HL3.out hg.size
  have HE4 : Hid (ESl w4 (w.heap.size + 1) (.slice v1 v2 v3) x.args) := hes.mono (by have := HL3.out; omega)
  have HDM : Hid (x.deep ≤ 48 ∧ m ≤ 600) := ⟨hd, hm⟩
  clear hp hg hes hd hm
  unfold rxv rx
  go_wp2_with fail
  have BL7 := (Below.refl w4.heap.size w4).alloc (Nat.le_refl _) (.cells #[.int .i64 x.kind, .int .i64 x.num, .string x.name, .int .i64 x.op, .slice v1 v2 v3, .int .i64 (x.deep : Int)] 98)
  refine (makeE_any (w.heap.size + 1) pb g c L q o b m ⟨kd, [109], nm, ps⟩ 3 0 ⟨#[]⟩ 0 [(x, .slice v1 v2 v3)] _ _ (HS4.out.below BL7) HDM.out.2 (PA.one w4 x _ ⟨_, _, _, rfl⟩ HDM.out.1 98) ?_ ?_ ?_).mono ?_
  · intro z hz
    simp at hz
    subst hz
    exact HE4.out.below BL7
  · have := HL4.out; simp; omega
  · have := HPL.out; omega
  have HG7 : Gr w (w4.alloc (.cells #[.int .i64 x.kind, .int .i64 x.num, .string x.name, .int .i64 x.op, .slice v1 v2 v3, .int .i64 (x.deep : Int)] 98)) pb := HG4.out.alloc _
  have HB7 := (BL7.block _ HL4.out).trans HB4.out
  clear BL7
  generalize (w4.alloc (.cells #[.int .i64 x.kind, .int .i64 x.num, .string x.name, .int .i64 x.op, .slice v1 v2 v3, .int .i64 (x.deep : Int)] 98)) = w7 at HG7 HB7 ⊢
  show ∀ e w', EPost w7 (w.heap.size + 1) pb g c L o b (mk' q (mkE ⟨kd, [109], nm, ps⟩ 3 0 ⟨#[]⟩ 0 [x] m)) e w' → _
  unfold memR at HP
  dsimp only at HP
  generalize mk' q (mkE ⟨kd, [109], nm, ps⟩ 3 0 ⟨#[]⟩ 0 [x] m) = res at HP ⊢
  rcases res with ⟨k, ek⟩ | ⟨z, q2, m2⟩
  · rintro e w8 ⟨rfl, hg⟩
    refine ⟨rfl, ?_⟩
    rw [← HP.out]
    exact ⟨rfl, HG7.trans hg⟩
  · intro e w8 hep
    obtain ⟨z1, z2, z3, rfl, hb8, hs1, hs2⟩ := hep.give HG7 HB7 (Nat.le_refl _) (by omega) HPL.out
    rw [HP.out] at hs2
    have HS1' : Hid ((set6 w8 w.heap.size (.int .i64 z.kind) (.int .i64 z.num) (.string z.name) (.int .i64 z.op) (.slice z1 z2 z3) (.int .i64 (z.deep : Int))).heap[w.heap.size]? = some (pc (rx z (.slice z1 z2 z3)))) := hs1
    have HS2' : Hid (P (.returned (rxv (rx z (.slice z1 z2 z3)))) (set6 w8 w.heap.size (.int .i64 z.kind) (.int .i64 z.num) (.string z.name) (.int .i64 z.op) (.slice z1 z2 z3) (.int .i64 (z.deep : Int)))) := hs2
    obtain ⟨a0, a1, a2, a3, a4, a5, b0, b1, b2, b3, b4, b5⟩ := z98_c hb8
    clear hs1 hs2 hb8 hep HG7 HB7
    unfold rxv rx
    go_wp2
    exact bodyPost_ret (ret_part 2 Tryd.results100 _ w.heap.size rfl _ (rx z (.slice z1 z2 z3)) HS1'.out) rfl HS2'.out
set_option maxRecDepth 100000 in
set_option maxHeartbeats 4000000 in
theorem one_bad {pb g c : Nat} {L : List Tok} {b : Nat} (p o n : Nat) (w : World) (h : PS w pb g c L p o b n) (hsg : SG w pb) (hk1 : ¬ (tk L p).kind = 1) (hk2 : ¬ (tk L p).kind = 2) (hq : ∀ l ∈ [[40], [109], [109, 105, 110], [109, 97, 120], [45], [126], [33]], ¬ (tk L p).text = l) :
    Calls Tryd.prog 100 #[.pointer (some ⟨pb, 0, none⟩)] w (EPost w w.heap.size pb g c L o b (.error ((tk L p).pos, 40))) := by
  have HS0 : Hid (PS (w.alloc z98) pb g c L p o b n) := h.below ((Below.refl _ _).alloc (Nat.le_refl _) _)
  have HG0 : Hid (Gr w (w.alloc z98) pb) := (Gr.refl w pb).alloc _
  have HB0 : Hid ((w.alloc z98).heap[w.heap.size]? = some z98) := heap_alloc_new _ _
  have HPL : Hid (pb < w.heap.size ∧ g < w.heap.size) := ⟨h.lt, h.gl⟩
  have HSG : Hid (SG w pb) := hsg
  obtain ⟨t, ht⟩ : ∃ t, tk L p = t := ⟨_, rfl⟩
  rw [ht] at hk1 hk2 hq ⊢
  have HCS : Hid (∀ W, PS W pb g c L p o b n → Calls Tryd.prog 63 #[.pointer (some ⟨pb, 0, none⟩)] W fun e w' => e = gaveUpT (t.pos : Int) 40 ∧ Below W.heap.size W w') := fun W hW => by have := stand_tk hW; rwa [ht] at this
  have HLK : Hid (∀ W, PS W pb g c L p o b n → Calls Tryd.prog 46 #[.pointer (some ⟨pb, 0, none⟩)] W fun e w' => e = .returned (tv t) ∧ Below W.heap.size W w') := fun W hW => by have := look_tk hW; rwa [ht] at this
  obtain ⟨P, hP⟩ : ∃ P, EPost w w.heap.size pb g c L o b (.error (t.pos, 40)) = P := ⟨_, rfl⟩
  have HP : Hid (EPost w w.heap.size pb g c L o b (.error (t.pos, 40)) = P) := hP
  rw [hP]
  obtain ⟨kd, tx, nm, ps⟩ := t
  simp only at hk1 hk2 hq
  have hqq : ∀ l ∈ [[40], [109], [109, 105, 110], [109, 97, 120], [45], [126], [33]], (tx == l) = false := by
    intro l hl
    have := hq l hl
    simpa using this
  have q1 := hqq [40] (by simp)
  have q2 := hqq [109] (by simp)
  have q3 := hqq [109, 105, 110] (by simp)
  have q4 := hqq [109, 97, 120] (by simp)
  have q5 := hqq [45] (by simp)
  have q6 := hqq [126] (by simp)
  have q7 := hqq [33] (by simp)
  clear hqq hq
  unfold tv at HLK
  dsimp only at HLK
  unfold z98 at HS0 HG0 HB0
  have k1 := fld1
  clear h hP ht hsg
  go_enter Tryd.func100, Tryd.ntmps100
  go_wp2_with fail
  refine (HLK.out _ HS0.out).mono ?_
  rintro e w1 ⟨rfl, hb⟩
  have BL1 := (Below.refl w1.heap.size w1).alloc (Nat.le_refl _) (tc4 ⟨kd, tx, nm, ps⟩)
  have hs1 : w.heap.size < w1.heap.size := by have := hb.size; simp at this; omega
  have HS1 : Hid (PS (w1.alloc (tc4 ⟨kd, tx, nm, ps⟩)) pb g c L p o b n) := (HS0.out.below hb).below BL1
  have HG1 : Hid (Gr w (w1.alloc (tc4 ⟨kd, tx, nm, ps⟩)) pb) := (HG0.out.trans (Gr.below hb)).alloc _
  have HB1 : Hid ((w1.alloc (tc4 ⟨kd, tx, nm, ps⟩)).heap[w.heap.size]? = some z98) := (BL1.block _ hs1).trans ((hb.block _ (by simp)).trans HB0.out)
  have HL1 : Hid (w.heap.size < w1.heap.size ∧ pb < w1.heap.size ∧ (w1.alloc (tc4 ⟨kd, tx, nm, ps⟩)).heap.size = w1.heap.size + 1) := by have := HPL.out; exact ⟨hs1, by omega, by simp⟩
  clear hb BL1 hs1
  go_wp2_with fail
  refine (HLK.out _ HS1.out).mono ?_
  rintro e w2 ⟨rfl, hb⟩
  have HS2 : Hid (PS w2 pb g c L p o b n) := HS1.out.below hb
  have HG2 : Hid (Gr w w2 pb) := HG1.out.trans (Gr.below hb)
  have HB2 : Hid (w2.heap[w.heap.size]? = some z98) := (hb.block _ (by have := HL1.out; omega)).trans HB1.out
  have HL2 : Hid (w.heap.size < w2.heap.size) := by show _ < _; have := hb.size; have := HL1.out; omega
  clear hb
  go_wp2_with fail
  refine (HCS.out _ HS2.out).mono ?_
  rintro e w3 ⟨rfl, hb⟩
  refine ⟨rfl, ?_⟩
  rw [← HP.out]
  exact ⟨rfl, HG2.out.trans (Gr.below hb)⟩
end Go.Proofs.YtnofibjchhcmeabDoor
