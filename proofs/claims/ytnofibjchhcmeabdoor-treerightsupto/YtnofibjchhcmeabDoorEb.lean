/- One expression: in brackets, of two, behind a sign; none. -/
import Derived.Test.YtnofibjchhcmeabDoorEo
namespace Go.Proofs.YtnofibjchhcmeabDoor
open Go.RowKit Go.Maps
set_option linter.unusedVariables false

set_option maxRecDepth 100000 in
set_option maxHeartbeats 4000000 in
theorem one_paren {pb g c : Nat} {L : List Tok} {b : Nat} (p o n : Nat) (w : World) (R : PR) (h : PS w pb g c L p o b n) (hsg : SG w pb) (hk1 : ¬ (tk L p).kind = 1) (hk2 : ¬ (tk L p).kind = 2) (htx : (tk L p).text = [40])
    (hc : ∀ V, PS V pb g c L p o b n → SG V pb → Calls Tryd.prog 79 #[.pointer (some ⟨pb, 0, none⟩), .string ⟨#[40]⟩, .string ⟨#[41]⟩] V (EPost V V.heap.size pb g c L o b R)) :
    Calls Tryd.prog 100 #[.pointer (some ⟨pb, 0, none⟩)] w (EPost w w.heap.size pb g c L o b R) := by
  have HS0 : Hid (PS (w.alloc z98) pb g c L p o b n) := h.below ((Below.refl _ _).alloc (Nat.le_refl _) _)
  have HG0 : Hid (Gr w (w.alloc z98) pb) := (Gr.refl w pb).alloc _
  have HB0 : Hid ((w.alloc z98).heap[w.heap.size]? = some z98) := heap_alloc_new _ _
  have HPL : Hid (pb < w.heap.size ∧ g < w.heap.size) := ⟨h.lt, h.gl⟩
  have HSG : Hid (SG w pb) := hsg
  have HC : Hid (∀ V, PS V pb g c L p o b n → SG V pb → Calls Tryd.prog 79 #[.pointer (some ⟨pb, 0, none⟩), .string ⟨#[40]⟩, .string ⟨#[41]⟩] V (EPost V V.heap.size pb g c L o b R)) := hc
  obtain ⟨t, ht⟩ : ∃ t, tk L p = t := ⟨_, rfl⟩
  rw [ht] at hk1 hk2 htx
  have HLK : Hid (∀ W, PS W pb g c L p o b n → Calls Tryd.prog 46 #[.pointer (some ⟨pb, 0, none⟩)] W fun e w' => e = .returned (tv t) ∧ Below W.heap.size W w') := fun W hW => by have := look_tk hW; rwa [ht] at this
  obtain ⟨P, hP⟩ : ∃ P, EPost w w.heap.size pb g c L o b R = P := ⟨_, rfl⟩
  have HP : Hid (EPost w w.heap.size pb g c L o b R = P) := hP
  rw [hP]
  obtain ⟨kd, tx, nm, ps⟩ := t
  simp only at hk1 hk2 htx
  subst htx
  unfold tv at HLK
  dsimp only at HLK
  unfold z98 at HS0 HG0 HB0
  have k1 := fld1
  clear h hP ht hc hsg
  go_enter Tryd.func100, Tryd.ntmps100
  go_wp2_with fail
  refine (HLK.out _ HS0.out).mono ?_
  rintro e w1 ⟨rfl, hb⟩
  have BL1 := (Below.refl w1.heap.size w1).alloc (Nat.le_refl _) (tc4 ⟨kd, [40], nm, ps⟩)
  have hs1 : w.heap.size < w1.heap.size := by have := hb.size; simp at this; omega
  have HS1 : Hid (PS (w1.alloc (tc4 ⟨kd, [40], nm, ps⟩)) pb g c L p o b n) := (HS0.out.below hb).below BL1
  have HG1 : Hid (Gr w (w1.alloc (tc4 ⟨kd, [40], nm, ps⟩)) pb) := (HG0.out.trans (Gr.below hb)).alloc _
  have HB1 : Hid ((w1.alloc (tc4 ⟨kd, [40], nm, ps⟩)).heap[w.heap.size]? = some z98) := (BL1.block _ hs1).trans ((hb.block _ (by simp)).trans HB0.out)
  have HL1 : Hid (w.heap.size < w1.heap.size ∧ pb < w1.heap.size ∧ (w1.alloc (tc4 ⟨kd, [40], nm, ps⟩)).heap.size = w1.heap.size + 1) := by have := HPL.out; exact ⟨hs1, by omega, by simp⟩
  clear hb BL1 hs1
  go_wp2_with fail
  refine (HLK.out _ HS1.out).mono ?_
  rintro e w2 ⟨rfl, hb⟩
  have HS2 : Hid (PS w2 pb g c L p o b n) := HS1.out.below hb
  have HG2 : Hid (Gr w w2 pb) := HG1.out.trans (Gr.below hb)
  have HB2 : Hid (w2.heap[w.heap.size]? = some z98) := (hb.block _ (by have := HL1.out; omega)).trans HB1.out
  have HL2 : Hid (w.heap.size < w2.heap.size) := by show _ < _; have := hb.size; have := HL1.out; omega
  clear hb
  go_wp2_with fail
  refine (HC.out _ HS2.out (HSG.out.gr HG2.out)).mono ?_
  rcases R with ⟨k, ek⟩ | ⟨z, q2, m2⟩
  · rintro e w8 ⟨rfl, hg⟩
    refine ⟨rfl, ?_⟩
    rw [← HP.out]
    exact ⟨rfl, HG2.out.trans hg⟩
  · intro e w8 hep
    obtain ⟨z1, z2, z3, rfl, hb8, hs1, hs2⟩ := hep.give HG2.out HB2.out (Nat.le_refl _) HL2.out HPL.out
    rw [HP.out] at hs2
    have HS1' : Hid ((set6 w8 w.heap.size (.int .i64 z.kind) (.int .i64 z.num) (.string z.name) (.int .i64 z.op) (.slice z1 z2 z3) (.int .i64 (z.deep : Int))).heap[w.heap.size]? = some (pc (rx z (.slice z1 z2 z3)))) := hs1
    have HS2' : Hid (P (.returned (rxv (rx z (.slice z1 z2 z3)))) (set6 w8 w.heap.size (.int .i64 z.kind) (.int .i64 z.num) (.string z.name) (.int .i64 z.op) (.slice z1 z2 z3) (.int .i64 (z.deep : Int)))) := hs2
    obtain ⟨a0, a1, a2, a3, a4, a5, b0, b1, b2, b3, b4, b5⟩ := z98_c hb8
    clear hs1 hs2 hb8 hep
    unfold rxv rx
    go_wp2
    exact bodyPost_ret (ret_part 2 Tryd.results100 _ w.heap.size rfl _ (rx z (.slice z1 z2 z3)) HS1'.out) rfl HS2'.out
set_option maxRecDepth 100000 in
set_option maxHeartbeats 4000000 in
theorem one_min {pb g c : Nat} {L : List Tok} {b : Nat} (p o n : Nat) (w : World) (R : PR) (h : PS w pb g c L p o b n) (hsg : SG w pb) (hk1 : ¬ (tk L p).kind = 1) (hk2 : ¬ (tk L p).kind = 2) (htx : (tk L p).text = [109, 105, 110])
    (hc : ∀ V, PS V pb g c L p o b n → SG V pb → Calls Tryd.prog 103 #[.pointer (some ⟨pb, 0, none⟩), .int .i64 17] V (EPost V V.heap.size pb g c L o b R)) :
    Calls Tryd.prog 100 #[.pointer (some ⟨pb, 0, none⟩)] w (EPost w w.heap.size pb g c L o b R) := by
  have HS0 : Hid (PS (w.alloc z98) pb g c L p o b n) := h.below ((Below.refl _ _).alloc (Nat.le_refl _) _)
  have HG0 : Hid (Gr w (w.alloc z98) pb) := (Gr.refl w pb).alloc _
  have HB0 : Hid ((w.alloc z98).heap[w.heap.size]? = some z98) := heap_alloc_new _ _
  have HPL : Hid (pb < w.heap.size ∧ g < w.heap.size) := ⟨h.lt, h.gl⟩
  have HSG : Hid (SG w pb) := hsg
  have HC : Hid (∀ V, PS V pb g c L p o b n → SG V pb → Calls Tryd.prog 103 #[.pointer (some ⟨pb, 0, none⟩), .int .i64 17] V (EPost V V.heap.size pb g c L o b R)) := hc
  obtain ⟨t, ht⟩ : ∃ t, tk L p = t := ⟨_, rfl⟩
  rw [ht] at hk1 hk2 htx
  have HLK : Hid (∀ W, PS W pb g c L p o b n → Calls Tryd.prog 46 #[.pointer (some ⟨pb, 0, none⟩)] W fun e w' => e = .returned (tv t) ∧ Below W.heap.size W w') := fun W hW => by have := look_tk hW; rwa [ht] at this
  obtain ⟨P, hP⟩ : ∃ P, EPost w w.heap.size pb g c L o b R = P := ⟨_, rfl⟩
  have HP : Hid (EPost w w.heap.size pb g c L o b R = P) := hP
  rw [hP]
  obtain ⟨kd, tx, nm, ps⟩ := t
  simp only at hk1 hk2 htx
  subst htx
  unfold tv at HLK
  dsimp only at HLK
  unfold z98 at HS0 HG0 HB0
  have k1 := fld1
  clear h hP ht hc hsg
  go_enter Tryd.func100, Tryd.ntmps100
  go_wp2_with fail
  refine (HLK.out _ HS0.out).mono ?_
  rintro e w1 ⟨rfl, hb⟩
  have BL1 := (Below.refl w1.heap.size w1).alloc (Nat.le_refl _) (tc4 ⟨kd, [109, 105, 110], nm, ps⟩)
  have hs1 : w.heap.size < w1.heap.size := by have := hb.size; simp at this; omega
  have HS1 : Hid (PS (w1.alloc (tc4 ⟨kd, [109, 105, 110], nm, ps⟩)) pb g c L p o b n) := (HS0.out.below hb).below BL1
  have HG1 : Hid (Gr w (w1.alloc (tc4 ⟨kd, [109, 105, 110], nm, ps⟩)) pb) := (HG0.out.trans (Gr.below hb)).alloc _
  have HB1 : Hid ((w1.alloc (tc4 ⟨kd, [109, 105, 110], nm, ps⟩)).heap[w.heap.size]? = some z98) := (BL1.block _ hs1).trans ((hb.block _ (by simp)).trans HB0.out)
  have HL1 : Hid (w.heap.size < w1.heap.size ∧ pb < w1.heap.size ∧ (w1.alloc (tc4 ⟨kd, [109, 105, 110], nm, ps⟩)).heap.size = w1.heap.size + 1) := by have := HPL.out; exact ⟨hs1, by omega, by simp⟩
  clear hb BL1 hs1
  go_wp2_with fail
  refine (HLK.out _ HS1.out).mono ?_
  rintro e w2 ⟨rfl, hb⟩
  have HS2 : Hid (PS w2 pb g c L p o b n) := HS1.out.below hb
  have HG2 : Hid (Gr w w2 pb) := HG1.out.trans (Gr.below hb)
  have HB2 : Hid (w2.heap[w.heap.size]? = some z98) := (hb.block _ (by have := HL1.out; omega)).trans HB1.out
  have HL2 : Hid (w.heap.size < w2.heap.size) := by show _ < _; have := hb.size; have := HL1.out; omega
  clear hb
  go_wp2_with fail
  refine (HC.out _ HS2.out (HSG.out.gr HG2.out)).mono ?_
  rcases R with ⟨k, ek⟩ | ⟨z, q2, m2⟩
  · rintro e w8 ⟨rfl, hg⟩
    refine ⟨rfl, ?_⟩
    rw [← HP.out]
    exact ⟨rfl, HG2.out.trans hg⟩
  · intro e w8 hep
    obtain ⟨z1, z2, z3, rfl, hb8, hs1, hs2⟩ := hep.give HG2.out HB2.out (Nat.le_refl _) HL2.out HPL.out
    rw [HP.out] at hs2
    have HS1' : Hid ((set6 w8 w.heap.size (.int .i64 z.kind) (.int .i64 z.num) (.string z.name) (.int .i64 z.op) (.slice z1 z2 z3) (.int .i64 (z.deep : Int))).heap[w.heap.size]? = some (pc (rx z (.slice z1 z2 z3)))) := hs1
    have HS2' : Hid (P (.returned (rxv (rx z (.slice z1 z2 z3)))) (set6 w8 w.heap.size (.int .i64 z.kind) (.int .i64 z.num) (.string z.name) (.int .i64 z.op) (.slice z1 z2 z3) (.int .i64 (z.deep : Int)))) := hs2
    obtain ⟨a0, a1, a2, a3, a4, a5, b0, b1, b2, b3, b4, b5⟩ := z98_c hb8
    clear hs1 hs2 hb8 hep
    unfold rxv rx
    go_wp2
    exact bodyPost_ret (ret_part 2 Tryd.results100 _ w.heap.size rfl _ (rx z (.slice z1 z2 z3)) HS1'.out) rfl HS2'.out
set_option maxRecDepth 100000 in
set_option maxHeartbeats 4000000 in
theorem one_max {pb g c : Nat} {L : List Tok} {b : Nat} (p o n : Nat) (w : World) (R : PR) (h : PS w pb g c L p o b n) (hsg : SG w pb) (hk1 : ¬ (tk L p).kind = 1) (hk2 : ¬ (tk L p).kind = 2) (htx : (tk L p).text = [109, 97, 120])
    (hc : ∀ V, PS V pb g c L p o b n → SG V pb → Calls Tryd.prog 103 #[.pointer (some ⟨pb, 0, none⟩), .int .i64 18] V (EPost V V.heap.size pb g c L o b R)) :
    Calls Tryd.prog 100 #[.pointer (some ⟨pb, 0, none⟩)] w (EPost w w.heap.size pb g c L o b R) := by
  have HS0 : Hid (PS (w.alloc z98) pb g c L p o b n) := h.below ((Below.refl _ _).alloc (Nat.le_refl _) _)
  have HG0 : Hid (Gr w (w.alloc z98) pb) := (Gr.refl w pb).alloc _
  have HB0 : Hid ((w.alloc z98).heap[w.heap.size]? = some z98) := heap_alloc_new _ _
  have HPL : Hid (pb < w.heap.size ∧ g < w.heap.size) := ⟨h.lt, h.gl⟩
  have HSG : Hid (SG w pb) := hsg
  have HC : Hid (∀ V, PS V pb g c L p o b n → SG V pb → Calls Tryd.prog 103 #[.pointer (some ⟨pb, 0, none⟩), .int .i64 18] V (EPost V V.heap.size pb g c L o b R)) := hc
  obtain ⟨t, ht⟩ : ∃ t, tk L p = t := ⟨_, rfl⟩
  rw [ht] at hk1 hk2 htx
  have HLK : Hid (∀ W, PS W pb g c L p o b n → Calls Tryd.prog 46 #[.pointer (some ⟨pb, 0, none⟩)] W fun e w' => e = .returned (tv t) ∧ Below W.heap.size W w') := fun W hW => by have := look_tk hW; rwa [ht] at this
  obtain ⟨P, hP⟩ : ∃ P, EPost w w.heap.size pb g c L o b R = P := ⟨_, rfl⟩
  have HP : Hid (EPost w w.heap.size pb g c L o b R = P) := hP
  rw [hP]
  obtain ⟨kd, tx, nm, ps⟩ := t
  simp only at hk1 hk2 htx
  subst htx
  unfold tv at HLK
  dsimp only at HLK
  unfold z98 at HS0 HG0 HB0
  have k1 := fld1
  clear h hP ht hc hsg
  go_enter Tryd.func100, Tryd.ntmps100
  go_wp2_with fail
  refine (HLK.out _ HS0.out).mono ?_
  rintro e w1 ⟨rfl, hb⟩
  have BL1 := (Below.refl w1.heap.size w1).alloc (Nat.le_refl _) (tc4 ⟨kd, [109, 97, 120], nm, ps⟩)
  have hs1 : w.heap.size < w1.heap.size := by have := hb.size; simp at this; omega
  have HS1 : Hid (PS (w1.alloc (tc4 ⟨kd, [109, 97, 120], nm, ps⟩)) pb g c L p o b n) := (HS0.out.below hb).below BL1
  have HG1 : Hid (Gr w (w1.alloc (tc4 ⟨kd, [109, 97, 120], nm, ps⟩)) pb) := (HG0.out.trans (Gr.below hb)).alloc _
  have HB1 : Hid ((w1.alloc (tc4 ⟨kd, [109, 97, 120], nm, ps⟩)).heap[w.heap.size]? = some z98) := (BL1.block _ hs1).trans ((hb.block _ (by simp)).trans HB0.out)
  have HL1 : Hid (w.heap.size < w1.heap.size ∧ pb < w1.heap.size ∧ (w1.alloc (tc4 ⟨kd, [109, 97, 120], nm, ps⟩)).heap.size = w1.heap.size + 1) := by have := HPL.out; exact ⟨hs1, by omega, by simp⟩
  clear hb BL1 hs1
  go_wp2_with fail
  refine (HLK.out _ HS1.out).mono ?_
  rintro e w2 ⟨rfl, hb⟩
  have HS2 : Hid (PS w2 pb g c L p o b n) := HS1.out.below hb
  have HG2 : Hid (Gr w w2 pb) := HG1.out.trans (Gr.below hb)
  have HB2 : Hid (w2.heap[w.heap.size]? = some z98) := (hb.block _ (by have := HL1.out; omega)).trans HB1.out
  have HL2 : Hid (w.heap.size < w2.heap.size) := by show _ < _; have := hb.size; have := HL1.out; omega
  clear hb
  go_wp2_with fail
  refine (HC.out _ HS2.out (HSG.out.gr HG2.out)).mono ?_
  rcases R with ⟨k, ek⟩ | ⟨z, q2, m2⟩
  · rintro e w8 ⟨rfl, hg⟩
    refine ⟨rfl, ?_⟩
    rw [← HP.out]
    exact ⟨rfl, HG2.out.trans hg⟩
  · intro e w8 hep
    obtain ⟨z1, z2, z3, rfl, hb8, hs1, hs2⟩ := hep.give HG2.out HB2.out (Nat.le_refl _) HL2.out HPL.out
    rw [HP.out] at hs2
    have HS1' : Hid ((set6 w8 w.heap.size (.int .i64 z.kind) (.int .i64 z.num) (.string z.name) (.int .i64 z.op) (.slice z1 z2 z3) (.int .i64 (z.deep : Int))).heap[w.heap.size]? = some (pc (rx z (.slice z1 z2 z3)))) := hs1
    have HS2' : Hid (P (.returned (rxv (rx z (.slice z1 z2 z3)))) (set6 w8 w.heap.size (.int .i64 z.kind) (.int .i64 z.num) (.string z.name) (.int .i64 z.op) (.slice z1 z2 z3) (.int .i64 (z.deep : Int)))) := hs2
    obtain ⟨a0, a1, a2, a3, a4, a5, b0, b1, b2, b3, b4, b5⟩ := z98_c hb8
    clear hs1 hs2 hb8 hep
    unfold rxv rx
    go_wp2
    exact bodyPost_ret (ret_part 2 Tryd.results100 _ w.heap.size rfl _ (rx z (.slice z1 z2 z3)) HS1'.out) rfl HS2'.out
set_option maxRecDepth 100000 in
set_option maxHeartbeats 4000000 in
theorem one_neg {pb g c : Nat} {L : List Tok} {b : Nat} (p o n : Nat) (w : World) (R : PR) (h : PS w pb g c L p o b n) (hsg : SG w pb) (hk1 : ¬ (tk L p).kind = 1) (hk2 : ¬ (tk L p).kind = 2) (htx : (tk L p).text = [45])
    (hc : ∀ V, PS V pb g c L p o b n → SG V pb → Calls Tryd.prog 104 #[.pointer (some ⟨pb, 0, none⟩), .int .i64 19] V (EPost V V.heap.size pb g c L o b R)) :
    Calls Tryd.prog 100 #[.pointer (some ⟨pb, 0, none⟩)] w (EPost w w.heap.size pb g c L o b R) := by
  have HS0 : Hid (PS (w.alloc z98) pb g c L p o b n) := h.below ((Below.refl _ _).alloc (Nat.le_refl _) _)
  have HG0 : Hid (Gr w (w.alloc z98) pb) := (Gr.refl w pb).alloc _
  have HB0 : Hid ((w.alloc z98).heap[w.heap.size]? = some z98) := heap_alloc_new _ _
  have HPL : Hid (pb < w.heap.size ∧ g < w.heap.size) := ⟨h.lt, h.gl⟩
  have HSG : Hid (SG w pb) := hsg
  have HC : Hid (∀ V, PS V pb g c L p o b n → SG V pb → Calls Tryd.prog 104 #[.pointer (some ⟨pb, 0, none⟩), .int .i64 19] V (EPost V V.heap.size pb g c L o b R)) := hc
  obtain ⟨t, ht⟩ : ∃ t, tk L p = t := ⟨_, rfl⟩
  rw [ht] at hk1 hk2 htx
  have HLK : Hid (∀ W, PS W pb g c L p o b n → Calls Tryd.prog 46 #[.pointer (some ⟨pb, 0, none⟩)] W fun e w' => e = .returned (tv t) ∧ Below W.heap.size W w') := fun W hW => by have := look_tk hW; rwa [ht] at this
  obtain ⟨P, hP⟩ : ∃ P, EPost w w.heap.size pb g c L o b R = P := ⟨_, rfl⟩
  have HP : Hid (EPost w w.heap.size pb g c L o b R = P) := hP
  rw [hP]
  obtain ⟨kd, tx, nm, ps⟩ := t
  simp only at hk1 hk2 htx
  subst htx
  unfold tv at HLK
  dsimp only at HLK
  unfold z98 at HS0 HG0 HB0
  have k1 := fld1
  clear h hP ht hc hsg
  go_enter Tryd.func100, Tryd.ntmps100
  go_wp2_with fail
  refine (HLK.out _ HS0.out).mono ?_
  rintro e w1 ⟨rfl, hb⟩
  have BL1 := (Below.refl w1.heap.size w1).alloc (Nat.le_refl _) (tc4 ⟨kd, [45], nm, ps⟩)
  have hs1 : w.heap.size < w1.heap.size := by have := hb.size; simp at this; omega
  have HS1 : Hid (PS (w1.alloc (tc4 ⟨kd, [45], nm, ps⟩)) pb g c L p o b n) := (HS0.out.below hb).below BL1
  have HG1 : Hid (Gr w (w1.alloc (tc4 ⟨kd, [45], nm, ps⟩)) pb) := (HG0.out.trans (Gr.below hb)).alloc _
  have HB1 : Hid ((w1.alloc (tc4 ⟨kd, [45], nm, ps⟩)).heap[w.heap.size]? = some z98) := (BL1.block _ hs1).trans ((hb.block _ (by simp)).trans HB0.out)
  have HL1 : Hid (w.heap.size < w1.heap.size ∧ pb < w1.heap.size ∧ (w1.alloc (tc4 ⟨kd, [45], nm, ps⟩)).heap.size = w1.heap.size + 1) := by have := HPL.out; exact ⟨hs1, by omega, by simp⟩
  clear hb BL1 hs1
  go_wp2_with fail
  refine (HLK.out _ HS1.out).mono ?_
  rintro e w2 ⟨rfl, hb⟩
  have HS2 : Hid (PS w2 pb g c L p o b n) := HS1.out.below hb
  have HG2 : Hid (Gr w w2 pb) := HG1.out.trans (Gr.below hb)
  have HB2 : Hid (w2.heap[w.heap.size]? = some z98) := (hb.block _ (by have := HL1.out; omega)).trans HB1.out
  have HL2 : Hid (w.heap.size < w2.heap.size) := by show _ < _; have := hb.size; have := HL1.out; omega
  clear hb
  go_wp2_with fail
  refine (HC.out _ HS2.out (HSG.out.gr HG2.out)).mono ?_
  rcases R with ⟨k, ek⟩ | ⟨z, q2, m2⟩
  · rintro e w8 ⟨rfl, hg⟩
    refine ⟨rfl, ?_⟩
    rw [← HP.out]
    exact ⟨rfl, HG2.out.trans hg⟩
  · intro e w8 hep
    obtain ⟨z1, z2, z3, rfl, hb8, hs1, hs2⟩ := hep.give HG2.out HB2.out (Nat.le_refl _) HL2.out HPL.out
    rw [HP.out] at hs2
    have HS1' : Hid ((set6 w8 w.heap.size (.int .i64 z.kind) (.int .i64 z.num) (.string z.name) (.int .i64 z.op) (.slice z1 z2 z3) (.int .i64 (z.deep : Int))).heap[w.heap.size]? = some (pc (rx z (.slice z1 z2 z3)))) := hs1
    have HS2' : Hid (P (.returned (rxv (rx z (.slice z1 z2 z3)))) (set6 w8 w.heap.size (.int .i64 z.kind) (.int .i64 z.num) (.string z.name) (.int .i64 z.op) (.slice z1 z2 z3) (.int .i64 (z.deep : Int)))) := hs2
    obtain ⟨a0, a1, a2, a3, a4, a5, b0, b1, b2, b3, b4, b5⟩ := z98_c hb8
    clear hs1 hs2 hb8 hep
    unfold rxv rx
    go_wp2
    exact bodyPost_ret (ret_part 2 Tryd.results100 _ w.heap.size rfl _ (rx z (.slice z1 z2 z3)) HS1'.out) rfl HS2'.out
set_option maxRecDepth 100000 in
set_option maxHeartbeats 4000000 in
theorem one_com {pb g c : Nat} {L : List Tok} {b : Nat} (p o n : Nat) (w : World) (R : PR) (h : PS w pb g c L p o b n) (hsg : SG w pb) (hk1 : ¬ (tk L p).kind = 1) (hk2 : ¬ (tk L p).kind = 2) (htx : (tk L p).text = [126])
    (hc : ∀ V, PS V pb g c L p o b n → SG V pb → Calls Tryd.prog 104 #[.pointer (some ⟨pb, 0, none⟩), .int .i64 20] V (EPost V V.heap.size pb g c L o b R)) :
    Calls Tryd.prog 100 #[.pointer (some ⟨pb, 0, none⟩)] w (EPost w w.heap.size pb g c L o b R) := by
  have HS0 : Hid (PS (w.alloc z98) pb g c L p o b n) := h.below ((Below.refl _ _).alloc (Nat.le_refl _) _)
  have HG0 : Hid (Gr w (w.alloc z98) pb) := (Gr.refl w pb).alloc _
  have HB0 : Hid ((w.alloc z98).heap[w.heap.size]? = some z98) := heap_alloc_new _ _
  have HPL : Hid (pb < w.heap.size ∧ g < w.heap.size) := ⟨h.lt, h.gl⟩
  have HSG : Hid (SG w pb) := hsg
  have HC : Hid (∀ V, PS V pb g c L p o b n → SG V pb → Calls Tryd.prog 104 #[.pointer (some ⟨pb, 0, none⟩), .int .i64 20] V (EPost V V.heap.size pb g c L o b R)) := hc
  obtain ⟨t, ht⟩ : ∃ t, tk L p = t := ⟨_, rfl⟩
  rw [ht] at hk1 hk2 htx
  have HLK : Hid (∀ W, PS W pb g c L p o b n → Calls Tryd.prog 46 #[.pointer (some ⟨pb, 0, none⟩)] W fun e w' => e = .returned (tv t) ∧ Below W.heap.size W w') := fun W hW => by have := look_tk hW; rwa [ht] at this
  obtain ⟨P, hP⟩ : ∃ P, EPost w w.heap.size pb g c L o b R = P := ⟨_, rfl⟩
  have HP : Hid (EPost w w.heap.size pb g c L o b R = P) := hP
  rw [hP]
  obtain ⟨kd, tx, nm, ps⟩ := t
  simp only at hk1 hk2 htx
  subst htx
  unfold tv at HLK
  dsimp only at HLK
  unfold z98 at HS0 HG0 HB0
  have k1 := fld1
  clear h hP ht hc hsg
  go_enter Tryd.func100, Tryd.ntmps100
  go_wp2_with fail
  refine (HLK.out _ HS0.out).mono ?_
  rintro e w1 ⟨rfl, hb⟩
  have BL1 := (Below.refl w1.heap.size w1).alloc (Nat.le_refl _) (tc4 ⟨kd, [126], nm, ps⟩)
  have hs1 : w.heap.size < w1.heap.size := by have := hb.size; simp at this; omega
  have HS1 : Hid (PS (w1.alloc (tc4 ⟨kd, [126], nm, ps⟩)) pb g c L p o b n) := (HS0.out.below hb).below BL1
  have HG1 : Hid (Gr w (w1.alloc (tc4 ⟨kd, [126], nm, ps⟩)) pb) := (HG0.out.trans (Gr.below hb)).alloc _
  have HB1 : Hid ((w1.alloc (tc4 ⟨kd, [126], nm, ps⟩)).heap[w.heap.size]? = some z98) := (BL1.block _ hs1).trans ((hb.block _ (by simp)).trans HB0.out)
  have HL1 : Hid (w.heap.size < w1.heap.size ∧ pb < w1.heap.size ∧ (w1.alloc (tc4 ⟨kd, [126], nm, ps⟩)).heap.size = w1.heap.size + 1) := by have := HPL.out; exact ⟨hs1, by omega, by simp⟩
  clear hb BL1 hs1
  go_wp2_with fail
  refine (HLK.out _ HS1.out).mono ?_
  rintro e w2 ⟨rfl, hb⟩
  have HS2 : Hid (PS w2 pb g c L p o b n) := HS1.out.below hb
  have HG2 : Hid (Gr w w2 pb) := HG1.out.trans (Gr.below hb)
  have HB2 : Hid (w2.heap[w.heap.size]? = some z98) := (hb.block _ (by have := HL1.out; omega)).trans HB1.out
  have HL2 : Hid (w.heap.size < w2.heap.size) := by show _ < _; have := hb.size; have := HL1.out; omega
  clear hb
  go_wp2_with fail
  refine (HC.out _ HS2.out (HSG.out.gr HG2.out)).mono ?_
  rcases R with ⟨k, ek⟩ | ⟨z, q2, m2⟩
  · rintro e w8 ⟨rfl, hg⟩
    refine ⟨rfl, ?_⟩
    rw [← HP.out]
    exact ⟨rfl, HG2.out.trans hg⟩
  · intro e w8 hep
    obtain ⟨z1, z2, z3, rfl, hb8, hs1, hs2⟩ := hep.give HG2.out HB2.out (Nat.le_refl _) HL2.out HPL.out
    rw [HP.out] at hs2
    have HS1' : Hid ((set6 w8 w.heap.size (.int .i64 z.kind) (.int .i64 z.num) (.string z.name) (.int .i64 z.op) (.slice z1 z2 z3) (.int .i64 (z.deep : Int))).heap[w.heap.size]? = some (pc (rx z (.slice z1 z2 z3)))) := hs1
    have HS2' : Hid (P (.returned (rxv (rx z (.slice z1 z2 z3)))) (set6 w8 w.heap.size (.int .i64 z.kind) (.int .i64 z.num) (.string z.name) (.int .i64 z.op) (.slice z1 z2 z3) (.int .i64 (z.deep : Int)))) := hs2
    obtain ⟨a0, a1, a2, a3, a4, a5, b0, b1, b2, b3, b4, b5⟩ := z98_c hb8
    clear hs1 hs2 hb8 hep
    unfold rxv rx
    go_wp2
    exact bodyPost_ret (ret_part 2 Tryd.results100 _ w.heap.size rfl _ (rx z (.slice z1 z2 z3)) HS1'.out) rfl HS2'.out
set_option maxRecDepth 100000 in
set_option maxHeartbeats 4000000 in
theorem one_not {pb g c : Nat} {L : List Tok} {b : Nat} (p o n : Nat) (w : World) (R : PR) (h : PS w pb g c L p o b n) (hsg : SG w pb) (hk1 : ¬ (tk L p).kind = 1) (hk2 : ¬ (tk L p).kind = 2) (htx : (tk L p).text = [33])
    (hc : ∀ V, PS V pb g c L p o b n → SG V pb → Calls Tryd.prog 104 #[.pointer (some ⟨pb, 0, none⟩), .int .i64 21] V (EPost V V.heap.size pb g c L o b R)) :
    Calls Tryd.prog 100 #[.pointer (some ⟨pb, 0, none⟩)] w (EPost w w.heap.size pb g c L o b R) := by
  have HS0 : Hid (PS (w.alloc z98) pb g c L p o b n) := h.below ((Below.refl _ _).alloc (Nat.le_refl _) _)
  have HG0 : Hid (Gr w (w.alloc z98) pb) := (Gr.refl w pb).alloc _
  have HB0 : Hid ((w.alloc z98).heap[w.heap.size]? = some z98) := heap_alloc_new _ _
  have HPL : Hid (pb < w.heap.size ∧ g < w.heap.size) := ⟨h.lt, h.gl⟩
  have HSG : Hid (SG w pb) := hsg
  have HC : Hid (∀ V, PS V pb g c L p o b n → SG V pb → Calls Tryd.prog 104 #[.pointer (some ⟨pb, 0, none⟩), .int .i64 21] V (EPost V V.heap.size pb g c L o b R)) := hc
  obtain ⟨t, ht⟩ : ∃ t, tk L p = t := ⟨_, rfl⟩
  rw [ht] at hk1 hk2 htx
  have HLK : Hid (∀ W, PS W pb g c L p o b n → Calls Tryd.prog 46 #[.pointer (some ⟨pb, 0, none⟩)] W fun e w' => e = .returned (tv t) ∧ Below W.heap.size W w') := fun W hW => by have := look_tk hW; rwa [ht] at this
  obtain ⟨P, hP⟩ : ∃ P, EPost w w.heap.size pb g c L o b R = P := ⟨_, rfl⟩
  have HP : Hid (EPost w w.heap.size pb g c L o b R = P) := hP
  rw [hP]
  obtain ⟨kd, tx, nm, ps⟩ := t
  simp only at hk1 hk2 htx
  subst htx
  unfold tv at HLK
  dsimp only at HLK
  unfold z98 at HS0 HG0 HB0
  have k1 := fld1
  clear h hP ht hc hsg
  go_enter Tryd.func100, Tryd.ntmps100
  go_wp2_with fail
  refine (HLK.out _ HS0.out).mono ?_
  rintro e w1 ⟨rfl, hb⟩
  have BL1 := (Below.refl w1.heap.size w1).alloc (Nat.le_refl _) (tc4 ⟨kd, [33], nm, ps⟩)
  have hs1 : w.heap.size < w1.heap.size := by have := hb.size; simp at this; omega
  have HS1 : Hid (PS (w1.alloc (tc4 ⟨kd, [33], nm, ps⟩)) pb g c L p o b n) := (HS0.out.below hb).below BL1
  have HG1 : Hid (Gr w (w1.alloc (tc4 ⟨kd, [33], nm, ps⟩)) pb) := (HG0.out.trans (Gr.below hb)).alloc _
  have HB1 : Hid ((w1.alloc (tc4 ⟨kd, [33], nm, ps⟩)).heap[w.heap.size]? = some z98) := (BL1.block _ hs1).trans ((hb.block _ (by simp)).trans HB0.out)
  have HL1 : Hid (w.heap.size < w1.heap.size ∧ pb < w1.heap.size ∧ (w1.alloc (tc4 ⟨kd, [33], nm, ps⟩)).heap.size = w1.heap.size + 1) := by have := HPL.out; exact ⟨hs1, by omega, by simp⟩
  clear hb BL1 hs1
  go_wp2_with fail
  refine (HLK.out _ HS1.out).mono ?_
  rintro e w2 ⟨rfl, hb⟩
  have HS2 : Hid (PS w2 pb g c L p o b n) := HS1.out.below hb
  have HG2 : Hid (Gr w w2 pb) := HG1.out.trans (Gr.below hb)
  have HB2 : Hid (w2.heap[w.heap.size]? = some z98) := (hb.block _ (by have := HL1.out; omega)).trans HB1.out
  have HL2 : Hid (w.heap.size < w2.heap.size) := by show _ < _; have := hb.size; have := HL1.out; omega
  clear hb
  go_wp2_with fail
  refine (HC.out _ HS2.out (HSG.out.gr HG2.out)).mono ?_
  rcases R with ⟨k, ek⟩ | ⟨z, q2, m2⟩
  · rintro e w8 ⟨rfl, hg⟩
    refine ⟨rfl, ?_⟩
    rw [← HP.out]
    exact ⟨rfl, HG2.out.trans hg⟩
  · intro e w8 hep
    obtain ⟨z1, z2, z3, rfl, hb8, hs1, hs2⟩ := hep.give HG2.out HB2.out (Nat.le_refl _) HL2.out HPL.out
    rw [HP.out] at hs2
    have HS1' : Hid ((set6 w8 w.heap.size (.int .i64 z.kind) (.int .i64 z.num) (.string z.name) (.int .i64 z.op) (.slice z1 z2 z3) (.int .i64 (z.deep : Int))).heap[w.heap.size]? = some (pc (rx z (.slice z1 z2 z3)))) := hs1
    have HS2' : Hid (P (.returned (rxv (rx z (.slice z1 z2 z3)))) (set6 w8 w.heap.size (.int .i64 z.kind) (.int .i64 z.num) (.string z.name) (.int .i64 z.op) (.slice z1 z2 z3) (.int .i64 (z.deep : Int)))) := hs2
    obtain ⟨a0, a1, a2, a3, a4, a5, b0, b1, b2, b3, b4, b5⟩ := z98_c hb8
    clear hs1 hs2 hb8 hep
    unfold rxv rx
    go_wp2
    exact bodyPost_ret (ret_part 2 Tryd.results100 _ w.heap.size rfl _ (rx z (.slice z1 z2 z3)) HS1'.out) rfl HS2'.out
end Go.Proofs.YtnofibjchhcmeabDoor
