/- A statement: which one it is. -/
import Derived.Test.YtnofibjchhcmeabDoorSu
namespace Go.Proofs.YtnofibjchhcmeabDoor
open Go.RowKit Go.Maps
set_option linter.unusedVariables false

set_option maxRecDepth 100000 in
set_option maxHeartbeats 4000000 in
theorem stmt_set {pb g c : Nat} {L : List Tok} {b : Nat} (p n : Nat) (w : World) (R : TR) (h : PS w pb g c L p 0 b n) (hsg : SG w pb) (hk2 : (tk L p).kind = 2)
    (hc : ∀ V, PS V pb g c L p 0 b n → SG V pb → Calls Tryd.prog 55 #[.pointer (some ⟨pb, 0, none⟩)] V (TPost V (fun j => V.heap.size ≤ j) pb g c L b R)) :
    Calls Tryd.prog 47 #[.pointer (some ⟨pb, 0, none⟩)] w (TPost w (fun j => w.heap.size ≤ j) pb g c L b R) := by
  have HS0 : Hid (PS (w.alloc z39) pb g c L p 0 b n) := h.below ((Below.refl _ _).alloc (Nat.le_refl _) _)
  have HG0 : Hid (Gr w (w.alloc z39) pb) := (Gr.refl w pb).alloc _
  have HB0 : Hid ((w.alloc z39).heap[w.heap.size]? = some z39) := heap_alloc_new _ _
  have HPL : Hid (pb < w.heap.size ∧ g < w.heap.size) := ⟨h.lt, h.gl⟩
  have HSG : Hid (SG w pb) := hsg
  have HC : Hid (∀ V, PS V pb g c L p 0 b n → SG V pb → Calls Tryd.prog 55 #[.pointer (some ⟨pb, 0, none⟩)] V (TPost V (fun j => V.heap.size ≤ j) pb g c L b R)) := hc
  obtain ⟨t, ht⟩ : ∃ t, tk L p = t := ⟨_, rfl⟩
  rw [ht] at hk2
  have HLK : Hid (∀ W, PS W pb g c L p 0 b n → Calls Tryd.prog 46 #[.pointer (some ⟨pb, 0, none⟩)] W fun e w' => e = .returned (tv t) ∧ Below W.heap.size W w') := fun W hW => by have := look_tk hW; rwa [ht] at this
  obtain ⟨P, hP⟩ : ∃ P, TPost w (fun j => w.heap.size ≤ j) pb g c L b R = P := ⟨_, rfl⟩
  have HP : Hid (TPost w (fun j => w.heap.size ≤ j) pb g c L b R = P) := hP
  rw [hP]
  obtain ⟨kd, tx, nm, ps⟩ := t
  simp only at hk2
  subst hk2
  unfold tv at HLK
  dsimp only at HLK
  unfold z39 at HS0 HG0 HB0
  have k0 := fld0
  have k1 := fld1
  clear h hP ht hc hsg
  go_enter Tryd.func47, Tryd.ntmps47
  go_wp2_with fail
  refine (HLK.out _ HS0.out).mono ?_
  rintro e w1 ⟨rfl, hb⟩
  have HS1 : Hid (PS w1 pb g c L p 0 b n) := HS0.out.below hb
  have HG1 : Hid (Gr w w1 pb) := HG0.out.trans (Gr.below hb)
  have HB1 : Hid (w1.heap[w.heap.size]? = some z39) := (hb.block _ (by simp)).trans HB0.out
  have HL1 : Hid (w.heap.size < w1.heap.size) := by show _ < _; have := hb.size; simp at this; omega
  clear hb
  go_wp2_with fail
  refine (HC.out _ HS1.out (HSG.out.gr HG1.out)).mono ?_
  rcases R with ⟨k, ek⟩ | ⟨l, q2, m2⟩
  · rintro e w8 ⟨rfl, hg⟩
    refine ⟨rfl, ?_⟩
    rw [← HP.out]
    exact ⟨rfl, HG1.out.trans hg⟩
  · rcases l with _ | ⟨x, _ | ⟨y, l⟩⟩
    · intro e w8 hep; exact hep.elim
    · intro e w8 hep
      obtain ⟨v1, v2, v3, b1, b2, b3, e1, e2, e3, rfl, hb8, hs1, hs2⟩ := hep.give HG1.out HB1.out (Nat.le_refl _) (fun j hj => by have := HL1.out; exact ⟨by omega, by omega⟩) HPL.out
      rw [HP.out] at hs2
      have HS1' : Hid ((set6 w8 w.heap.size (.int .i64 x.kind) (.string x.name) (.int .i64 x.cell) (.slice v1 v2 v3) (.slice b1 b2 b3) (.slice e1 e2 e3)).heap[w.heap.size]? = some (.cells #[.int .i64 x.kind, .string x.name, .int .i64 x.cell, .slice v1 v2 v3, .slice b1 b2 b3, .slice e1 e2 e3] 39)) := hs1
      have HS2' : Hid (P (.returned (.agg #[.int .i64 x.kind, .string x.name, .int .i64 x.cell, .slice v1 v2 v3, .slice b1 b2 b3, .slice e1 e2 e3])) (set6 w8 w.heap.size (.int .i64 x.kind) (.string x.name) (.int .i64 x.cell) (.slice v1 v2 v3) (.slice b1 b2 b3) (.slice e1 e2 e3))) := hs2
      obtain ⟨⟨a0, a1, a2, a3, a4, a5⟩, z0, z1, z2, z3, z4, z5⟩ := z39_c hb8
      clear hs1 hs2 hb8 hep
      go_wp2
      exact bodyPost_ret (ret_stmt 2 Tryd.results47 _ w.heap.size rfl _ _ _ _ _ _ _ HS1'.out) rfl HS2'.out
    · intro e w8 hep; exact hep.elim
set_option maxRecDepth 100000 in
set_option maxHeartbeats 4000000 in
theorem stmt_var {pb g c : Nat} {L : List Tok} {b : Nat} (p n : Nat) (w : World) (R : TR) (h : PS w pb g c L p 0 b n) (hsg : SG w pb) (hk2 : ¬ (tk L p).kind = 2) (htx : (tk L p).text = [118, 97, 114])
    (hc : ∀ V, PS V pb g c L p 0 b n → SG V pb → Calls Tryd.prog 56 #[.pointer (some ⟨pb, 0, none⟩)] V (TPost V (fun j => V.heap.size ≤ j) pb g c L b R)) :
    Calls Tryd.prog 47 #[.pointer (some ⟨pb, 0, none⟩)] w (TPost w (fun j => w.heap.size ≤ j) pb g c L b R) := by
  have HS0 : Hid (PS (w.alloc z39) pb g c L p 0 b n) := h.below ((Below.refl _ _).alloc (Nat.le_refl _) _)
  have HG0 : Hid (Gr w (w.alloc z39) pb) := (Gr.refl w pb).alloc _
  have HB0 : Hid ((w.alloc z39).heap[w.heap.size]? = some z39) := heap_alloc_new _ _
  have HPL : Hid (pb < w.heap.size ∧ g < w.heap.size) := ⟨h.lt, h.gl⟩
  have HSG : Hid (SG w pb) := hsg
  have HC : Hid (∀ V, PS V pb g c L p 0 b n → SG V pb → Calls Tryd.prog 56 #[.pointer (some ⟨pb, 0, none⟩)] V (TPost V (fun j => V.heap.size ≤ j) pb g c L b R)) := hc
  obtain ⟨t, ht⟩ : ∃ t, tk L p = t := ⟨_, rfl⟩
  rw [ht] at hk2 htx
  have HLK : Hid (∀ W, PS W pb g c L p 0 b n → Calls Tryd.prog 46 #[.pointer (some ⟨pb, 0, none⟩)] W fun e w' => e = .returned (tv t) ∧ Below W.heap.size W w') := fun W hW => by have := look_tk hW; rwa [ht] at this
  obtain ⟨P, hP⟩ : ∃ P, TPost w (fun j => w.heap.size ≤ j) pb g c L b R = P := ⟨_, rfl⟩
  have HP : Hid (TPost w (fun j => w.heap.size ≤ j) pb g c L b R = P) := hP
  rw [hP]
  obtain ⟨kd, tx, nm, ps⟩ := t
  simp only at hk2 htx
  subst htx
  unfold tv at HLK
  dsimp only at HLK
  unfold z39 at HS0 HG0 HB0
  have k0 := fld0
  have k1 := fld1
  clear h hP ht hc hsg
  go_enter Tryd.func47, Tryd.ntmps47
  go_wp2_with fail
  refine (HLK.out _ HS0.out).mono ?_
  rintro e w1 ⟨rfl, hb⟩
  have HS1 : Hid (PS w1 pb g c L p 0 b n) := HS0.out.below hb
  have HG1 : Hid (Gr w w1 pb) := HG0.out.trans (Gr.below hb)
  have HB1 : Hid (w1.heap[w.heap.size]? = some z39) := (hb.block _ (by simp)).trans HB0.out
  have HL1 : Hid (w.heap.size < w1.heap.size) := by show _ < _; have := hb.size; simp at this; omega
  clear hb
  go_wp2_with fail
  refine (HLK.out _ HS1.out).mono ?_
  rintro e w2 ⟨rfl, hb⟩
  have HS2 : Hid (PS w2 pb g c L p 0 b n) := HS1.out.below hb
  have HG2 : Hid (Gr w w2 pb) := HG1.out.trans (Gr.below hb)
  have HB2 : Hid (w2.heap[w.heap.size]? = some z39) := (hb.block _ HL1.out).trans HB1.out
  have HL2 : Hid (w.heap.size < w2.heap.size) := Nat.lt_of_lt_of_le HL1.out hb.size
  clear hb
  go_wp2_with fail
  refine (HC.out _ HS2.out (HSG.out.gr HG2.out)).mono ?_
  rcases R with ⟨k, ek⟩ | ⟨l, q2, m2⟩
  · rintro e w8 ⟨rfl, hg⟩
    refine ⟨rfl, ?_⟩
    rw [← HP.out]
    exact ⟨rfl, HG2.out.trans hg⟩
  · rcases l with _ | ⟨x, _ | ⟨y, l⟩⟩
    · intro e w8 hep; exact hep.elim
    · intro e w8 hep
      obtain ⟨v1, v2, v3, b1, b2, b3, e1, e2, e3, rfl, hb8, hs1, hs2⟩ := hep.give HG2.out HB2.out (Nat.le_refl _) (fun j hj => by have := HL2.out; exact ⟨by omega, by omega⟩) HPL.out
      rw [HP.out] at hs2
      have HS1' : Hid ((set6 w8 w.heap.size (.int .i64 x.kind) (.string x.name) (.int .i64 x.cell) (.slice v1 v2 v3) (.slice b1 b2 b3) (.slice e1 e2 e3)).heap[w.heap.size]? = some (.cells #[.int .i64 x.kind, .string x.name, .int .i64 x.cell, .slice v1 v2 v3, .slice b1 b2 b3, .slice e1 e2 e3] 39)) := hs1
      have HS2' : Hid (P (.returned (.agg #[.int .i64 x.kind, .string x.name, .int .i64 x.cell, .slice v1 v2 v3, .slice b1 b2 b3, .slice e1 e2 e3])) (set6 w8 w.heap.size (.int .i64 x.kind) (.string x.name) (.int .i64 x.cell) (.slice v1 v2 v3) (.slice b1 b2 b3) (.slice e1 e2 e3))) := hs2
      obtain ⟨⟨a0, a1, a2, a3, a4, a5⟩, z0, z1, z2, z3, z4, z5⟩ := z39_c hb8
      clear hs1 hs2 hb8 hep
      go_wp2
      exact bodyPost_ret (ret_stmt 2 Tryd.results47 _ w.heap.size rfl _ _ _ _ _ _ _ HS1'.out) rfl HS2'.out
    · intro e w8 hep; exact hep.elim
set_option maxRecDepth 100000 in
set_option maxHeartbeats 4000000 in
theorem stmt_m {pb g c : Nat} {L : List Tok} {b : Nat} (p n : Nat) (w : World) (R : TR) (h : PS w pb g c L p 0 b n) (hsg : SG w pb) (hk2 : ¬ (tk L p).kind = 2) (htx : (tk L p).text = [109])
    (hc : ∀ V, PS V pb g c L p 0 b n → SG V pb → Calls Tryd.prog 57 #[.pointer (some ⟨pb, 0, none⟩)] V (TPost V (fun j => V.heap.size ≤ j) pb g c L b R)) :
    Calls Tryd.prog 47 #[.pointer (some ⟨pb, 0, none⟩)] w (TPost w (fun j => w.heap.size ≤ j) pb g c L b R) := by
  have HS0 : Hid (PS (w.alloc z39) pb g c L p 0 b n) := h.below ((Below.refl _ _).alloc (Nat.le_refl _) _)
  have HG0 : Hid (Gr w (w.alloc z39) pb) := (Gr.refl w pb).alloc _
  have HB0 : Hid ((w.alloc z39).heap[w.heap.size]? = some z39) := heap_alloc_new _ _
  have HPL : Hid (pb < w.heap.size ∧ g < w.heap.size) := ⟨h.lt, h.gl⟩
  have HSG : Hid (SG w pb) := hsg
  have HC : Hid (∀ V, PS V pb g c L p 0 b n → SG V pb → Calls Tryd.prog 57 #[.pointer (some ⟨pb, 0, none⟩)] V (TPost V (fun j => V.heap.size ≤ j) pb g c L b R)) := hc
  obtain ⟨t, ht⟩ : ∃ t, tk L p = t := ⟨_, rfl⟩
  rw [ht] at hk2 htx
  have HLK : Hid (∀ W, PS W pb g c L p 0 b n → Calls Tryd.prog 46 #[.pointer (some ⟨pb, 0, none⟩)] W fun e w' => e = .returned (tv t) ∧ Below W.heap.size W w') := fun W hW => by have := look_tk hW; rwa [ht] at this
  obtain ⟨P, hP⟩ : ∃ P, TPost w (fun j => w.heap.size ≤ j) pb g c L b R = P := ⟨_, rfl⟩
  have HP : Hid (TPost w (fun j => w.heap.size ≤ j) pb g c L b R = P) := hP
  rw [hP]
  obtain ⟨kd, tx, nm, ps⟩ := t
  simp only at hk2 htx
  subst htx
  unfold tv at HLK
  dsimp only at HLK
  unfold z39 at HS0 HG0 HB0
  have k0 := fld0
  have k1 := fld1
  clear h hP ht hc hsg
  go_enter Tryd.func47, Tryd.ntmps47
  go_wp2_with fail
  refine (HLK.out _ HS0.out).mono ?_
  rintro e w1 ⟨rfl, hb⟩
  have HS1 : Hid (PS w1 pb g c L p 0 b n) := HS0.out.below hb
  have HG1 : Hid (Gr w w1 pb) := HG0.out.trans (Gr.below hb)
  have HB1 : Hid (w1.heap[w.heap.size]? = some z39) := (hb.block _ (by simp)).trans HB0.out
  have HL1 : Hid (w.heap.size < w1.heap.size) := by show _ < _; have := hb.size; simp at this; omega
  clear hb
  go_wp2_with fail
  refine (HLK.out _ HS1.out).mono ?_
  rintro e w2 ⟨rfl, hb⟩
  have HS2 : Hid (PS w2 pb g c L p 0 b n) := HS1.out.below hb
  have HG2 : Hid (Gr w w2 pb) := HG1.out.trans (Gr.below hb)
  have HB2 : Hid (w2.heap[w.heap.size]? = some z39) := (hb.block _ HL1.out).trans HB1.out
  have HL2 : Hid (w.heap.size < w2.heap.size) := Nat.lt_of_lt_of_le HL1.out hb.size
  clear hb
  go_wp2_with fail
  refine (HC.out _ HS2.out (HSG.out.gr HG2.out)).mono ?_
  rcases R with ⟨k, ek⟩ | ⟨l, q2, m2⟩
  · rintro e w8 ⟨rfl, hg⟩
    refine ⟨rfl, ?_⟩
    rw [← HP.out]
    exact ⟨rfl, HG2.out.trans hg⟩
  · rcases l with _ | ⟨x, _ | ⟨y, l⟩⟩
    · intro e w8 hep; exact hep.elim
    · intro e w8 hep
      obtain ⟨v1, v2, v3, b1, b2, b3, e1, e2, e3, rfl, hb8, hs1, hs2⟩ := hep.give HG2.out HB2.out (Nat.le_refl _) (fun j hj => by have := HL2.out; exact ⟨by omega, by omega⟩) HPL.out
      rw [HP.out] at hs2
      have HS1' : Hid ((set6 w8 w.heap.size (.int .i64 x.kind) (.string x.name) (.int .i64 x.cell) (.slice v1 v2 v3) (.slice b1 b2 b3) (.slice e1 e2 e3)).heap[w.heap.size]? = some (.cells #[.int .i64 x.kind, .string x.name, .int .i64 x.cell, .slice v1 v2 v3, .slice b1 b2 b3, .slice e1 e2 e3] 39)) := hs1
      have HS2' : Hid (P (.returned (.agg #[.int .i64 x.kind, .string x.name, .int .i64 x.cell, .slice v1 v2 v3, .slice b1 b2 b3, .slice e1 e2 e3])) (set6 w8 w.heap.size (.int .i64 x.kind) (.string x.name) (.int .i64 x.cell) (.slice v1 v2 v3) (.slice b1 b2 b3) (.slice e1 e2 e3))) := hs2
      obtain ⟨⟨a0, a1, a2, a3, a4, a5⟩, z0, z1, z2, z3, z4, z5⟩ := z39_c hb8
      clear hs1 hs2 hb8 hep
      go_wp2
      exact bodyPost_ret (ret_stmt 2 Tryd.results47 _ w.heap.size rfl _ _ _ _ _ _ _ HS1'.out) rfl HS2'.out
    · intro e w8 hep; exact hep.elim
set_option maxRecDepth 100000 in
set_option maxHeartbeats 4000000 in
theorem stmt_emit {pb g c : Nat} {L : List Tok} {b : Nat} (p n : Nat) (w : World) (R : TR) (h : PS w pb g c L p 0 b n) (hsg : SG w pb) (hk2 : ¬ (tk L p).kind = 2) (htx : (tk L p).text = [101, 109, 105, 116])
    (hc : ∀ V, PS V pb g c L p 0 b n → SG V pb → Calls Tryd.prog 58 #[.pointer (some ⟨pb, 0, none⟩), .int .i64 4] V (TPost V (fun j => V.heap.size ≤ j) pb g c L b R)) :
    Calls Tryd.prog 47 #[.pointer (some ⟨pb, 0, none⟩)] w (TPost w (fun j => w.heap.size ≤ j) pb g c L b R) := by
  have HS0 : Hid (PS (w.alloc z39) pb g c L p 0 b n) := h.below ((Below.refl _ _).alloc (Nat.le_refl _) _)
  have HG0 : Hid (Gr w (w.alloc z39) pb) := (Gr.refl w pb).alloc _
  have HB0 : Hid ((w.alloc z39).heap[w.heap.size]? = some z39) := heap_alloc_new _ _
  have HPL : Hid (pb < w.heap.size ∧ g < w.heap.size) := ⟨h.lt, h.gl⟩
  have HSG : Hid (SG w pb) := hsg
  have HC : Hid (∀ V, PS V pb g c L p 0 b n → SG V pb → Calls Tryd.prog 58 #[.pointer (some ⟨pb, 0, none⟩), .int .i64 4] V (TPost V (fun j => V.heap.size ≤ j) pb g c L b R)) := hc
  obtain ⟨t, ht⟩ : ∃ t, tk L p = t := ⟨_, rfl⟩
  rw [ht] at hk2 htx
  have HLK : Hid (∀ W, PS W pb g c L p 0 b n → Calls Tryd.prog 46 #[.pointer (some ⟨pb, 0, none⟩)] W fun e w' => e = .returned (tv t) ∧ Below W.heap.size W w') := fun W hW => by have := look_tk hW; rwa [ht] at this
  obtain ⟨P, hP⟩ : ∃ P, TPost w (fun j => w.heap.size ≤ j) pb g c L b R = P := ⟨_, rfl⟩
  have HP : Hid (TPost w (fun j => w.heap.size ≤ j) pb g c L b R = P) := hP
  rw [hP]
  obtain ⟨kd, tx, nm, ps⟩ := t
  simp only at hk2 htx
  subst htx
  unfold tv at HLK
  dsimp only at HLK
  unfold z39 at HS0 HG0 HB0
  have k0 := fld0
  have k1 := fld1
  clear h hP ht hc hsg
  go_enter Tryd.func47, Tryd.ntmps47
  go_wp2_with fail
  refine (HLK.out _ HS0.out).mono ?_
  rintro e w1 ⟨rfl, hb⟩
  have HS1 : Hid (PS w1 pb g c L p 0 b n) := HS0.out.below hb
  have HG1 : Hid (Gr w w1 pb) := HG0.out.trans (Gr.below hb)
  have HB1 : Hid (w1.heap[w.heap.size]? = some z39) := (hb.block _ (by simp)).trans HB0.out
  have HL1 : Hid (w.heap.size < w1.heap.size) := by show _ < _; have := hb.size; simp at this; omega
  clear hb
  go_wp2_with fail
  refine (HLK.out _ HS1.out).mono ?_
  rintro e w2 ⟨rfl, hb⟩
  have HS2 : Hid (PS w2 pb g c L p 0 b n) := HS1.out.below hb
  have HG2 : Hid (Gr w w2 pb) := HG1.out.trans (Gr.below hb)
  have HB2 : Hid (w2.heap[w.heap.size]? = some z39) := (hb.block _ HL1.out).trans HB1.out
  have HL2 : Hid (w.heap.size < w2.heap.size) := Nat.lt_of_lt_of_le HL1.out hb.size
  clear hb
  go_wp2_with fail
  refine (HC.out _ HS2.out (HSG.out.gr HG2.out)).mono ?_
  rcases R with ⟨k, ek⟩ | ⟨l, q2, m2⟩
  · rintro e w8 ⟨rfl, hg⟩
    refine ⟨rfl, ?_⟩
    rw [← HP.out]
    exact ⟨rfl, HG2.out.trans hg⟩
  · rcases l with _ | ⟨x, _ | ⟨y, l⟩⟩
    · intro e w8 hep; exact hep.elim
    · intro e w8 hep
      obtain ⟨v1, v2, v3, b1, b2, b3, e1, e2, e3, rfl, hb8, hs1, hs2⟩ := hep.give HG2.out HB2.out (Nat.le_refl _) (fun j hj => by have := HL2.out; exact ⟨by omega, by omega⟩) HPL.out
      rw [HP.out] at hs2
      have HS1' : Hid ((set6 w8 w.heap.size (.int .i64 x.kind) (.string x.name) (.int .i64 x.cell) (.slice v1 v2 v3) (.slice b1 b2 b3) (.slice e1 e2 e3)).heap[w.heap.size]? = some (.cells #[.int .i64 x.kind, .string x.name, .int .i64 x.cell, .slice v1 v2 v3, .slice b1 b2 b3, .slice e1 e2 e3] 39)) := hs1
      have HS2' : Hid (P (.returned (.agg #[.int .i64 x.kind, .string x.name, .int .i64 x.cell, .slice v1 v2 v3, .slice b1 b2 b3, .slice e1 e2 e3])) (set6 w8 w.heap.size (.int .i64 x.kind) (.string x.name) (.int .i64 x.cell) (.slice v1 v2 v3) (.slice b1 b2 b3) (.slice e1 e2 e3))) := hs2
      obtain ⟨⟨a0, a1, a2, a3, a4, a5⟩, z0, z1, z2, z3, z4, z5⟩ := z39_c hb8
      clear hs1 hs2 hb8 hep
      go_wp2
      exact bodyPost_ret (ret_stmt 2 Tryd.results47 _ w.heap.size rfl _ _ _ _ _ _ _ HS1'.out) rfl HS2'.out
    · intro e w8 hep; exact hep.elim
set_option maxRecDepth 100000 in
set_option maxHeartbeats 4000000 in
theorem stmt_fail {pb g c : Nat} {L : List Tok} {b : Nat} (p n : Nat) (w : World) (R : TR) (h : PS w pb g c L p 0 b n) (hsg : SG w pb) (hk2 : ¬ (tk L p).kind = 2) (htx : (tk L p).text = [102, 97, 105, 108])
    (hc : ∀ V, PS V pb g c L p 0 b n → SG V pb → Calls Tryd.prog 58 #[.pointer (some ⟨pb, 0, none⟩), .int .i64 8] V (TPost V (fun j => V.heap.size ≤ j) pb g c L b R)) :
    Calls Tryd.prog 47 #[.pointer (some ⟨pb, 0, none⟩)] w (TPost w (fun j => w.heap.size ≤ j) pb g c L b R) := by
  have HS0 : Hid (PS (w.alloc z39) pb g c L p 0 b n) := h.below ((Below.refl _ _).alloc (Nat.le_refl _) _)
  have HG0 : Hid (Gr w (w.alloc z39) pb) := (Gr.refl w pb).alloc _
  have HB0 : Hid ((w.alloc z39).heap[w.heap.size]? = some z39) := heap_alloc_new _ _
  have HPL : Hid (pb < w.heap.size ∧ g < w.heap.size) := ⟨h.lt, h.gl⟩
  have HSG : Hid (SG w pb) := hsg
  have HC : Hid (∀ V, PS V pb g c L p 0 b n → SG V pb → Calls Tryd.prog 58 #[.pointer (some ⟨pb, 0, none⟩), .int .i64 8] V (TPost V (fun j => V.heap.size ≤ j) pb g c L b R)) := hc
  obtain ⟨t, ht⟩ : ∃ t, tk L p = t := ⟨_, rfl⟩
  rw [ht] at hk2 htx
  have HLK : Hid (∀ W, PS W pb g c L p 0 b n → Calls Tryd.prog 46 #[.pointer (some ⟨pb, 0, none⟩)] W fun e w' => e = .returned (tv t) ∧ Below W.heap.size W w') := fun W hW => by have := look_tk hW; rwa [ht] at this
  obtain ⟨P, hP⟩ : ∃ P, TPost w (fun j => w.heap.size ≤ j) pb g c L b R = P := ⟨_, rfl⟩
  have HP : Hid (TPost w (fun j => w.heap.size ≤ j) pb g c L b R = P) := hP
  rw [hP]
  obtain ⟨kd, tx, nm, ps⟩ := t
  simp only at hk2 htx
  subst htx
  unfold tv at HLK
  dsimp only at HLK
  unfold z39 at HS0 HG0 HB0
  have k0 := fld0
  have k1 := fld1
  clear h hP ht hc hsg
  go_enter Tryd.func47, Tryd.ntmps47
  go_wp2_with fail
  refine (HLK.out _ HS0.out).mono ?_
  rintro e w1 ⟨rfl, hb⟩
  have HS1 : Hid (PS w1 pb g c L p 0 b n) := HS0.out.below hb
  have HG1 : Hid (Gr w w1 pb) := HG0.out.trans (Gr.below hb)
  have HB1 : Hid (w1.heap[w.heap.size]? = some z39) := (hb.block _ (by simp)).trans HB0.out
  have HL1 : Hid (w.heap.size < w1.heap.size) := by show _ < _; have := hb.size; simp at this; omega
  clear hb
  go_wp2_with fail
  refine (HLK.out _ HS1.out).mono ?_
  rintro e w2 ⟨rfl, hb⟩
  have HS2 : Hid (PS w2 pb g c L p 0 b n) := HS1.out.below hb
  have HG2 : Hid (Gr w w2 pb) := HG1.out.trans (Gr.below hb)
  have HB2 : Hid (w2.heap[w.heap.size]? = some z39) := (hb.block _ HL1.out).trans HB1.out
  have HL2 : Hid (w.heap.size < w2.heap.size) := Nat.lt_of_lt_of_le HL1.out hb.size
  clear hb
  go_wp2_with fail
  refine (HC.out _ HS2.out (HSG.out.gr HG2.out)).mono ?_
  rcases R with ⟨k, ek⟩ | ⟨l, q2, m2⟩
  · rintro e w8 ⟨rfl, hg⟩
    refine ⟨rfl, ?_⟩
    rw [← HP.out]
    exact ⟨rfl, HG2.out.trans hg⟩
  · rcases l with _ | ⟨x, _ | ⟨y, l⟩⟩
    · intro e w8 hep; exact hep.elim
    · intro e w8 hep
      obtain ⟨v1, v2, v3, b1, b2, b3, e1, e2, e3, rfl, hb8, hs1, hs2⟩ := hep.give HG2.out HB2.out (Nat.le_refl _) (fun j hj => by have := HL2.out; exact ⟨by omega, by omega⟩) HPL.out
      rw [HP.out] at hs2
      have HS1' : Hid ((set6 w8 w.heap.size (.int .i64 x.kind) (.string x.name) (.int .i64 x.cell) (.slice v1 v2 v3) (.slice b1 b2 b3) (.slice e1 e2 e3)).heap[w.heap.size]? = some (.cells #[.int .i64 x.kind, .string x.name, .int .i64 x.cell, .slice v1 v2 v3, .slice b1 b2 b3, .slice e1 e2 e3] 39)) := hs1
      have HS2' : Hid (P (.returned (.agg #[.int .i64 x.kind, .string x.name, .int .i64 x.cell, .slice v1 v2 v3, .slice b1 b2 b3, .slice e1 e2 e3])) (set6 w8 w.heap.size (.int .i64 x.kind) (.string x.name) (.int .i64 x.cell) (.slice v1 v2 v3) (.slice b1 b2 b3) (.slice e1 e2 e3))) := hs2
      obtain ⟨⟨a0, a1, a2, a3, a4, a5⟩, z0, z1, z2, z3, z4, z5⟩ := z39_c hb8
      clear hs1 hs2 hb8 hep
      go_wp2
      exact bodyPost_ret (ret_stmt 2 Tryd.results47 _ w.heap.size rfl _ _ _ _ _ _ _ HS1'.out) rfl HS2'.out
    · intro e w8 hep; exact hep.elim
set_option maxRecDepth 100000 in
set_option maxHeartbeats 4000000 in
theorem stmt_into {pb g c : Nat} {L : List Tok} {b : Nat} (p n : Nat) (w : World) (R : TR) (h : PS w pb g c L p 0 b n) (hsg : SG w pb) (hk2 : ¬ (tk L p).kind = 2) (htx : (tk L p).text = [105, 110, 116, 111])
    (hc : ∀ V, PS V pb g c L p 0 b n → SG V pb → Calls Tryd.prog 59 #[.pointer (some ⟨pb, 0, none⟩)] V (TPost V (fun j => V.heap.size ≤ j) pb g c L b R)) :
    Calls Tryd.prog 47 #[.pointer (some ⟨pb, 0, none⟩)] w (TPost w (fun j => w.heap.size ≤ j) pb g c L b R) := by
  have HS0 : Hid (PS (w.alloc z39) pb g c L p 0 b n) := h.below ((Below.refl _ _).alloc (Nat.le_refl _) _)
  have HG0 : Hid (Gr w (w.alloc z39) pb) := (Gr.refl w pb).alloc _
  have HB0 : Hid ((w.alloc z39).heap[w.heap.size]? = some z39) := heap_alloc_new _ _
  have HPL : Hid (pb < w.heap.size ∧ g < w.heap.size) := ⟨h.lt, h.gl⟩
  have HSG : Hid (SG w pb) := hsg
  have HC : Hid (∀ V, PS V pb g c L p 0 b n → SG V pb → Calls Tryd.prog 59 #[.pointer (some ⟨pb, 0, none⟩)] V (TPost V (fun j => V.heap.size ≤ j) pb g c L b R)) := hc
  obtain ⟨t, ht⟩ : ∃ t, tk L p = t := ⟨_, rfl⟩
  rw [ht] at hk2 htx
  have HLK : Hid (∀ W, PS W pb g c L p 0 b n → Calls Tryd.prog 46 #[.pointer (some ⟨pb, 0, none⟩)] W fun e w' => e = .returned (tv t) ∧ Below W.heap.size W w') := fun W hW => by have := look_tk hW; rwa [ht] at this
  obtain ⟨P, hP⟩ : ∃ P, TPost w (fun j => w.heap.size ≤ j) pb g c L b R = P := ⟨_, rfl⟩
  have HP : Hid (TPost w (fun j => w.heap.size ≤ j) pb g c L b R = P) := hP
  rw [hP]
  obtain ⟨kd, tx, nm, ps⟩ := t
  simp only at hk2 htx
  subst htx
  unfold tv at HLK
  dsimp only at HLK
  unfold z39 at HS0 HG0 HB0
  have k0 := fld0
  have k1 := fld1
  clear h hP ht hc hsg
  go_enter Tryd.func47, Tryd.ntmps47
  go_wp2_with fail
  refine (HLK.out _ HS0.out).mono ?_
  rintro e w1 ⟨rfl, hb⟩
  have HS1 : Hid (PS w1 pb g c L p 0 b n) := HS0.out.below hb
  have HG1 : Hid (Gr w w1 pb) := HG0.out.trans (Gr.below hb)
  have HB1 : Hid (w1.heap[w.heap.size]? = some z39) := (hb.block _ (by simp)).trans HB0.out
  have HL1 : Hid (w.heap.size < w1.heap.size) := by show _ < _; have := hb.size; simp at this; omega
  clear hb
  go_wp2_with fail
  refine (HLK.out _ HS1.out).mono ?_
  rintro e w2 ⟨rfl, hb⟩
  have HS2 : Hid (PS w2 pb g c L p 0 b n) := HS1.out.below hb
  have HG2 : Hid (Gr w w2 pb) := HG1.out.trans (Gr.below hb)
  have HB2 : Hid (w2.heap[w.heap.size]? = some z39) := (hb.block _ HL1.out).trans HB1.out
  have HL2 : Hid (w.heap.size < w2.heap.size) := Nat.lt_of_lt_of_le HL1.out hb.size
  clear hb
  go_wp2_with fail
  refine (HC.out _ HS2.out (HSG.out.gr HG2.out)).mono ?_
  rcases R with ⟨k, ek⟩ | ⟨l, q2, m2⟩
  · rintro e w8 ⟨rfl, hg⟩
    refine ⟨rfl, ?_⟩
    rw [← HP.out]
    exact ⟨rfl, HG2.out.trans hg⟩
  · rcases l with _ | ⟨x, _ | ⟨y, l⟩⟩
    · intro e w8 hep; exact hep.elim
    · intro e w8 hep
      obtain ⟨v1, v2, v3, b1, b2, b3, e1, e2, e3, rfl, hb8, hs1, hs2⟩ := hep.give HG2.out HB2.out (Nat.le_refl _) (fun j hj => by have := HL2.out; exact ⟨by omega, by omega⟩) HPL.out
      rw [HP.out] at hs2
      have HS1' : Hid ((set6 w8 w.heap.size (.int .i64 x.kind) (.string x.name) (.int .i64 x.cell) (.slice v1 v2 v3) (.slice b1 b2 b3) (.slice e1 e2 e3)).heap[w.heap.size]? = some (.cells #[.int .i64 x.kind, .string x.name, .int .i64 x.cell, .slice v1 v2 v3, .slice b1 b2 b3, .slice e1 e2 e3] 39)) := hs1
      have HS2' : Hid (P (.returned (.agg #[.int .i64 x.kind, .string x.name, .int .i64 x.cell, .slice v1 v2 v3, .slice b1 b2 b3, .slice e1 e2 e3])) (set6 w8 w.heap.size (.int .i64 x.kind) (.string x.name) (.int .i64 x.cell) (.slice v1 v2 v3) (.slice b1 b2 b3) (.slice e1 e2 e3))) := hs2
      obtain ⟨⟨a0, a1, a2, a3, a4, a5⟩, z0, z1, z2, z3, z4, z5⟩ := z39_c hb8
      clear hs1 hs2 hb8 hep
      go_wp2
      exact bodyPost_ret (ret_stmt 2 Tryd.results47 _ w.heap.size rfl _ _ _ _ _ _ _ HS1'.out) rfl HS2'.out
    · intro e w8 hep; exact hep.elim
set_option maxRecDepth 100000 in
set_option maxHeartbeats 4000000 in
theorem stmt_stop {pb g c : Nat} {L : List Tok} {b : Nat} (p n : Nat) (w : World) (R : TR) (h : PS w pb g c L p 0 b n) (hsg : SG w pb) (hk2 : ¬ (tk L p).kind = 2) (htx : (tk L p).text = [115, 116, 111, 112])
    (hc : ∀ V, PS V pb g c L p 0 b n → SG V pb → Calls Tryd.prog 60 #[.pointer (some ⟨pb, 0, none⟩)] V (TPost V (fun j => V.heap.size ≤ j) pb g c L b R)) :
    Calls Tryd.prog 47 #[.pointer (some ⟨pb, 0, none⟩)] w (TPost w (fun j => w.heap.size ≤ j) pb g c L b R) := by
  have HS0 : Hid (PS (w.alloc z39) pb g c L p 0 b n) := h.below ((Below.refl _ _).alloc (Nat.le_refl _) _)
  have HG0 : Hid (Gr w (w.alloc z39) pb) := (Gr.refl w pb).alloc _
  have HB0 : Hid ((w.alloc z39).heap[w.heap.size]? = some z39) := heap_alloc_new _ _
  have HPL : Hid (pb < w.heap.size ∧ g < w.heap.size) := ⟨h.lt, h.gl⟩
  have HSG : Hid (SG w pb) := hsg
  have HC : Hid (∀ V, PS V pb g c L p 0 b n → SG V pb → Calls Tryd.prog 60 #[.pointer (some ⟨pb, 0, none⟩)] V (TPost V (fun j => V.heap.size ≤ j) pb g c L b R)) := hc
  obtain ⟨t, ht⟩ : ∃ t, tk L p = t := ⟨_, rfl⟩
  rw [ht] at hk2 htx
  have HLK : Hid (∀ W, PS W pb g c L p 0 b n → Calls Tryd.prog 46 #[.pointer (some ⟨pb, 0, none⟩)] W fun e w' => e = .returned (tv t) ∧ Below W.heap.size W w') := fun W hW => by have := look_tk hW; rwa [ht] at this
  obtain ⟨P, hP⟩ : ∃ P, TPost w (fun j => w.heap.size ≤ j) pb g c L b R = P := ⟨_, rfl⟩
  have HP : Hid (TPost w (fun j => w.heap.size ≤ j) pb g c L b R = P) := hP
  rw [hP]
  obtain ⟨kd, tx, nm, ps⟩ := t
  simp only at hk2 htx
  subst htx
  unfold tv at HLK
  dsimp only at HLK
  unfold z39 at HS0 HG0 HB0
  have k0 := fld0
  have k1 := fld1
  clear h hP ht hc hsg
  go_enter Tryd.func47, Tryd.ntmps47
  go_wp2_with fail
  refine (HLK.out _ HS0.out).mono ?_
  rintro e w1 ⟨rfl, hb⟩
  have HS1 : Hid (PS w1 pb g c L p 0 b n) := HS0.out.below hb
  have HG1 : Hid (Gr w w1 pb) := HG0.out.trans (Gr.below hb)
  have HB1 : Hid (w1.heap[w.heap.size]? = some z39) := (hb.block _ (by simp)).trans HB0.out
  have HL1 : Hid (w.heap.size < w1.heap.size) := by show _ < _; have := hb.size; simp at this; omega
  clear hb
  go_wp2_with fail
  refine (HLK.out _ HS1.out).mono ?_
  rintro e w2 ⟨rfl, hb⟩
  have HS2 : Hid (PS w2 pb g c L p 0 b n) := HS1.out.below hb
  have HG2 : Hid (Gr w w2 pb) := HG1.out.trans (Gr.below hb)
  have HB2 : Hid (w2.heap[w.heap.size]? = some z39) := (hb.block _ HL1.out).trans HB1.out
  have HL2 : Hid (w.heap.size < w2.heap.size) := Nat.lt_of_lt_of_le HL1.out hb.size
  clear hb
  go_wp2_with fail
  refine (HC.out _ HS2.out (HSG.out.gr HG2.out)).mono ?_
  rcases R with ⟨k, ek⟩ | ⟨l, q2, m2⟩
  · rintro e w8 ⟨rfl, hg⟩
    refine ⟨rfl, ?_⟩
    rw [← HP.out]
    exact ⟨rfl, HG2.out.trans hg⟩
  · rcases l with _ | ⟨x, _ | ⟨y, l⟩⟩
    · intro e w8 hep; exact hep.elim
    · intro e w8 hep
      obtain ⟨v1, v2, v3, b1, b2, b3, e1, e2, e3, rfl, hb8, hs1, hs2⟩ := hep.give HG2.out HB2.out (Nat.le_refl _) (fun j hj => by have := HL2.out; exact ⟨by omega, by omega⟩) HPL.out
      rw [HP.out] at hs2
      have HS1' : Hid ((set6 w8 w.heap.size (.int .i64 x.kind) (.string x.name) (.int .i64 x.cell) (.slice v1 v2 v3) (.slice b1 b2 b3) (.slice e1 e2 e3)).heap[w.heap.size]? = some (.cells #[.int .i64 x.kind, .string x.name, .int .i64 x.cell, .slice v1 v2 v3, .slice b1 b2 b3, .slice e1 e2 e3] 39)) := hs1
      have HS2' : Hid (P (.returned (.agg #[.int .i64 x.kind, .string x.name, .int .i64 x.cell, .slice v1 v2 v3, .slice b1 b2 b3, .slice e1 e2 e3])) (set6 w8 w.heap.size (.int .i64 x.kind) (.string x.name) (.int .i64 x.cell) (.slice v1 v2 v3) (.slice b1 b2 b3) (.slice e1 e2 e3))) := hs2
      obtain ⟨⟨a0, a1, a2, a3, a4, a5⟩, z0, z1, z2, z3, z4, z5⟩ := z39_c hb8
      clear hs1 hs2 hb8 hep
      go_wp2
      exact bodyPost_ret (ret_stmt 2 Tryd.results47 _ w.heap.size rfl _ _ _ _ _ _ _ HS1'.out) rfl HS2'.out
    · intro e w8 hep; exact hep.elim
set_option maxRecDepth 100000 in
set_option maxHeartbeats 4000000 in
theorem stmt_if {pb g c : Nat} {L : List Tok} {b : Nat} (p n : Nat) (w : World) (R : TR) (h : PS w pb g c L p 0 b n) (hsg : SG w pb) (hk2 : ¬ (tk L p).kind = 2) (htx : (tk L p).text = [105, 102])
    (hc : ∀ V, PS V pb g c L p 0 b n → SG V pb → Calls Tryd.prog 61 #[.pointer (some ⟨pb, 0, none⟩)] V (TPost V (fun j => V.heap.size ≤ j) pb g c L b R)) :
    Calls Tryd.prog 47 #[.pointer (some ⟨pb, 0, none⟩)] w (TPost w (fun j => w.heap.size ≤ j) pb g c L b R) := by
  have HS0 : Hid (PS (w.alloc z39) pb g c L p 0 b n) := h.below ((Below.refl _ _).alloc (Nat.le_refl _) _)
  have HG0 : Hid (Gr w (w.alloc z39) pb) := (Gr.refl w pb).alloc _
  have HB0 : Hid ((w.alloc z39).heap[w.heap.size]? = some z39) := heap_alloc_new _ _
  have HPL : Hid (pb < w.heap.size ∧ g < w.heap.size) := ⟨h.lt, h.gl⟩
  have HSG : Hid (SG w pb) := hsg
  have HC : Hid (∀ V, PS V pb g c L p 0 b n → SG V pb → Calls Tryd.prog 61 #[.pointer (some ⟨pb, 0, none⟩)] V (TPost V (fun j => V.heap.size ≤ j) pb g c L b R)) := hc
  obtain ⟨t, ht⟩ : ∃ t, tk L p = t := ⟨_, rfl⟩
  rw [ht] at hk2 htx
  have HLK : Hid (∀ W, PS W pb g c L p 0 b n → Calls Tryd.prog 46 #[.pointer (some ⟨pb, 0, none⟩)] W fun e w' => e = .returned (tv t) ∧ Below W.heap.size W w') := fun W hW => by have := look_tk hW; rwa [ht] at this
  obtain ⟨P, hP⟩ : ∃ P, TPost w (fun j => w.heap.size ≤ j) pb g c L b R = P := ⟨_, rfl⟩
  have HP : Hid (TPost w (fun j => w.heap.size ≤ j) pb g c L b R = P) := hP
  rw [hP]
  obtain ⟨kd, tx, nm, ps⟩ := t
  simp only at hk2 htx
  subst htx
  unfold tv at HLK
  dsimp only at HLK
  unfold z39 at HS0 HG0 HB0
  have k0 := fld0
  have k1 := fld1
  clear h hP ht hc hsg
  go_enter Tryd.func47, Tryd.ntmps47
  go_wp2_with fail
  refine (HLK.out _ HS0.out).mono ?_
  rintro e w1 ⟨rfl, hb⟩
  have HS1 : Hid (PS w1 pb g c L p 0 b n) := HS0.out.below hb
  have HG1 : Hid (Gr w w1 pb) := HG0.out.trans (Gr.below hb)
  have HB1 : Hid (w1.heap[w.heap.size]? = some z39) := (hb.block _ (by simp)).trans HB0.out
  have HL1 : Hid (w.heap.size < w1.heap.size) := by show _ < _; have := hb.size; simp at this; omega
  clear hb
  go_wp2_with fail
  refine (HLK.out _ HS1.out).mono ?_
  rintro e w2 ⟨rfl, hb⟩
  have HS2 : Hid (PS w2 pb g c L p 0 b n) := HS1.out.below hb
  have HG2 : Hid (Gr w w2 pb) := HG1.out.trans (Gr.below hb)
  have HB2 : Hid (w2.heap[w.heap.size]? = some z39) := (hb.block _ HL1.out).trans HB1.out
  have HL2 : Hid (w.heap.size < w2.heap.size) := Nat.lt_of_lt_of_le HL1.out hb.size
  clear hb
  go_wp2_with fail
  refine (HC.out _ HS2.out (HSG.out.gr HG2.out)).mono ?_
  rcases R with ⟨k, ek⟩ | ⟨l, q2, m2⟩
  · rintro e w8 ⟨rfl, hg⟩
    refine ⟨rfl, ?_⟩
    rw [← HP.out]
    exact ⟨rfl, HG2.out.trans hg⟩
  · rcases l with _ | ⟨x, _ | ⟨y, l⟩⟩
    · intro e w8 hep; exact hep.elim
    · intro e w8 hep
      obtain ⟨v1, v2, v3, b1, b2, b3, e1, e2, e3, rfl, hb8, hs1, hs2⟩ := hep.give HG2.out HB2.out (Nat.le_refl _) (fun j hj => by have := HL2.out; exact ⟨by omega, by omega⟩) HPL.out
      rw [HP.out] at hs2
      have HS1' : Hid ((set6 w8 w.heap.size (.int .i64 x.kind) (.string x.name) (.int .i64 x.cell) (.slice v1 v2 v3) (.slice b1 b2 b3) (.slice e1 e2 e3)).heap[w.heap.size]? = some (.cells #[.int .i64 x.kind, .string x.name, .int .i64 x.cell, .slice v1 v2 v3, .slice b1 b2 b3, .slice e1 e2 e3] 39)) := hs1
      have HS2' : Hid (P (.returned (.agg #[.int .i64 x.kind, .string x.name, .int .i64 x.cell, .slice v1 v2 v3, .slice b1 b2 b3, .slice e1 e2 e3])) (set6 w8 w.heap.size (.int .i64 x.kind) (.string x.name) (.int .i64 x.cell) (.slice v1 v2 v3) (.slice b1 b2 b3) (.slice e1 e2 e3))) := hs2
      obtain ⟨⟨a0, a1, a2, a3, a4, a5⟩, z0, z1, z2, z3, z4, z5⟩ := z39_c hb8
      clear hs1 hs2 hb8 hep
      go_wp2
      exact bodyPost_ret (ret_stmt 2 Tryd.results47 _ w.heap.size rfl _ _ _ _ _ _ _ HS1'.out) rfl HS2'.out
    · intro e w8 hep; exact hep.elim
set_option maxRecDepth 100000 in
set_option maxHeartbeats 4000000 in
theorem stmt_while {pb g c : Nat} {L : List Tok} {b : Nat} (p n : Nat) (w : World) (R : TR) (h : PS w pb g c L p 0 b n) (hsg : SG w pb) (hk2 : ¬ (tk L p).kind = 2) (htx : (tk L p).text = [119, 104, 105, 108, 101])
    (hc : ∀ V, PS V pb g c L p 0 b n → SG V pb → Calls Tryd.prog 62 #[.pointer (some ⟨pb, 0, none⟩)] V (TPost V (fun j => V.heap.size ≤ j) pb g c L b R)) :
    Calls Tryd.prog 47 #[.pointer (some ⟨pb, 0, none⟩)] w (TPost w (fun j => w.heap.size ≤ j) pb g c L b R) := by
  have HS0 : Hid (PS (w.alloc z39) pb g c L p 0 b n) := h.below ((Below.refl _ _).alloc (Nat.le_refl _) _)
  have HG0 : Hid (Gr w (w.alloc z39) pb) := (Gr.refl w pb).alloc _
  have HB0 : Hid ((w.alloc z39).heap[w.heap.size]? = some z39) := heap_alloc_new _ _
  have HPL : Hid (pb < w.heap.size ∧ g < w.heap.size) := ⟨h.lt, h.gl⟩
  have HSG : Hid (SG w pb) := hsg
  have HC : Hid (∀ V, PS V pb g c L p 0 b n → SG V pb → Calls Tryd.prog 62 #[.pointer (some ⟨pb, 0, none⟩)] V (TPost V (fun j => V.heap.size ≤ j) pb g c L b R)) := hc
  obtain ⟨t, ht⟩ : ∃ t, tk L p = t := ⟨_, rfl⟩
  rw [ht] at hk2 htx
  have HLK : Hid (∀ W, PS W pb g c L p 0 b n → Calls Tryd.prog 46 #[.pointer (some ⟨pb, 0, none⟩)] W fun e w' => e = .returned (tv t) ∧ Below W.heap.size W w') := fun W hW => by have := look_tk hW; rwa [ht] at this
  obtain ⟨P, hP⟩ : ∃ P, TPost w (fun j => w.heap.size ≤ j) pb g c L b R = P := ⟨_, rfl⟩
  have HP : Hid (TPost w (fun j => w.heap.size ≤ j) pb g c L b R = P) := hP
  rw [hP]
  obtain ⟨kd, tx, nm, ps⟩ := t
  simp only at hk2 htx
  subst htx
  unfold tv at HLK
  dsimp only at HLK
  unfold z39 at HS0 HG0 HB0
  have k0 := fld0
  have k1 := fld1
  clear h hP ht hc hsg
  go_enter Tryd.func47, Tryd.ntmps47
  go_wp2_with fail
  refine (HLK.out _ HS0.out).mono ?_
  rintro e w1 ⟨rfl, hb⟩
  have HS1 : Hid (PS w1 pb g c L p 0 b n) := HS0.out.below hb
  have HG1 : Hid (Gr w w1 pb) := HG0.out.trans (Gr.below hb)
  have HB1 : Hid (w1.heap[w.heap.size]? = some z39) := (hb.block _ (by simp)).trans HB0.out
  have HL1 : Hid (w.heap.size < w1.heap.size) := by show _ < _; have := hb.size; simp at this; omega
  clear hb
  go_wp2_with fail
  refine (HLK.out _ HS1.out).mono ?_
  rintro e w2 ⟨rfl, hb⟩
  have HS2 : Hid (PS w2 pb g c L p 0 b n) := HS1.out.below hb
  have HG2 : Hid (Gr w w2 pb) := HG1.out.trans (Gr.below hb)
  have HB2 : Hid (w2.heap[w.heap.size]? = some z39) := (hb.block _ HL1.out).trans HB1.out
  have HL2 : Hid (w.heap.size < w2.heap.size) := Nat.lt_of_lt_of_le HL1.out hb.size
  clear hb
  go_wp2_with fail
  refine (HC.out _ HS2.out (HSG.out.gr HG2.out)).mono ?_
  rcases R with ⟨k, ek⟩ | ⟨l, q2, m2⟩
  · rintro e w8 ⟨rfl, hg⟩
    refine ⟨rfl, ?_⟩
    rw [← HP.out]
    exact ⟨rfl, HG2.out.trans hg⟩
  · rcases l with _ | ⟨x, _ | ⟨y, l⟩⟩
    · intro e w8 hep; exact hep.elim
    · intro e w8 hep
      obtain ⟨v1, v2, v3, b1, b2, b3, e1, e2, e3, rfl, hb8, hs1, hs2⟩ := hep.give HG2.out HB2.out (Nat.le_refl _) (fun j hj => by have := HL2.out; exact ⟨by omega, by omega⟩) HPL.out
      rw [HP.out] at hs2
      have HS1' : Hid ((set6 w8 w.heap.size (.int .i64 x.kind) (.string x.name) (.int .i64 x.cell) (.slice v1 v2 v3) (.slice b1 b2 b3) (.slice e1 e2 e3)).heap[w.heap.size]? = some (.cells #[.int .i64 x.kind, .string x.name, .int .i64 x.cell, .slice v1 v2 v3, .slice b1 b2 b3, .slice e1 e2 e3] 39)) := hs1
      have HS2' : Hid (P (.returned (.agg #[.int .i64 x.kind, .string x.name, .int .i64 x.cell, .slice v1 v2 v3, .slice b1 b2 b3, .slice e1 e2 e3])) (set6 w8 w.heap.size (.int .i64 x.kind) (.string x.name) (.int .i64 x.cell) (.slice v1 v2 v3) (.slice b1 b2 b3) (.slice e1 e2 e3))) := hs2
      obtain ⟨⟨a0, a1, a2, a3, a4, a5⟩, z0, z1, z2, z3, z4, z5⟩ := z39_c hb8
      clear hs1 hs2 hb8 hep
      go_wp2
      exact bodyPost_ret (ret_stmt 2 Tryd.results47 _ w.heap.size rfl _ _ _ _ _ _ _ HS1'.out) rfl HS2'.out
    · intro e w8 hep; exact hep.elim
set_option maxRecDepth 100000 in
set_option maxHeartbeats 4000000 in
theorem stmt_bad {pb g c : Nat} {L : List Tok} {b : Nat} (p n : Nat) (w : World) (h : PS w pb g c L p 0 b n) (hsg : SG w pb) (hk2 : ¬ (tk L p).kind = 2) (hq : ∀ l ∈ [[118, 97, 114], [109], [101, 109, 105, 116], [102, 97, 105, 108], [105, 110, 116, 111], [115, 116, 111, 112], [105, 102], [119, 104, 105, 108, 101]], ¬ (tk L p).text = l) :
    Calls Tryd.prog 47 #[.pointer (some ⟨pb, 0, none⟩)] w (TPost w (fun j => w.heap.size ≤ j) pb g c L b (.error ((tk L p).pos, 40))) := by
  have HS0 : Hid (PS (w.alloc z39) pb g c L p 0 b n) := h.below ((Below.refl _ _).alloc (Nat.le_refl _) _)
  have HG0 : Hid (Gr w (w.alloc z39) pb) := (Gr.refl w pb).alloc _
  have HB0 : Hid ((w.alloc z39).heap[w.heap.size]? = some z39) := heap_alloc_new _ _
  have HPL : Hid (pb < w.heap.size ∧ g < w.heap.size) := ⟨h.lt, h.gl⟩
  have HSG : Hid (SG w pb) := hsg
  obtain ⟨t, ht⟩ : ∃ t, tk L p = t := ⟨_, rfl⟩
  rw [ht] at hk2 hq ⊢
  have HCS : Hid (∀ W, PS W pb g c L p 0 b n → Calls Tryd.prog 63 #[.pointer (some ⟨pb, 0, none⟩)] W fun e w' => e = gaveUpT (t.pos : Int) 40 ∧ Below W.heap.size W w') := fun W hW => by have := stand_tk hW; rwa [ht] at this
  have HLK : Hid (∀ W, PS W pb g c L p 0 b n → Calls Tryd.prog 46 #[.pointer (some ⟨pb, 0, none⟩)] W fun e w' => e = .returned (tv t) ∧ Below W.heap.size W w') := fun W hW => by have := look_tk hW; rwa [ht] at this
  obtain ⟨P, hP⟩ : ∃ P, TPost w (fun j => w.heap.size ≤ j) pb g c L b (.error (t.pos, 40)) = P := ⟨_, rfl⟩
  have HP : Hid (TPost w (fun j => w.heap.size ≤ j) pb g c L b (.error (t.pos, 40)) = P) := hP
  rw [hP]
  obtain ⟨kd, tx, nm, ps⟩ := t
  simp only at hk2 hq
  have hqq : ∀ l ∈ [[118, 97, 114], [109], [101, 109, 105, 116], [102, 97, 105, 108], [105, 110, 116, 111], [115, 116, 111, 112], [105, 102], [119, 104, 105, 108, 101]], (tx == l) = false := by
    intro l hl
    have := hq l hl
    simpa using this
  have q0 := hqq [118, 97, 114] (by simp)
  have q1 := hqq [109] (by simp)
  have q2 := hqq [101, 109, 105, 116] (by simp)
  have q3 := hqq [102, 97, 105, 108] (by simp)
  have q4 := hqq [105, 110, 116, 111] (by simp)
  have q5 := hqq [115, 116, 111, 112] (by simp)
  have q6 := hqq [105, 102] (by simp)
  have q7 := hqq [119, 104, 105, 108, 101] (by simp)
  clear hqq hq
  unfold tv at HLK
  dsimp only at HLK
  unfold z39 at HS0 HG0 HB0
  have k0 := fld0
  have k1 := fld1
  clear h hP ht hsg
  go_enter Tryd.func47, Tryd.ntmps47
  go_wp2_with fail
  refine (HLK.out _ HS0.out).mono ?_
  rintro e w1 ⟨rfl, hb⟩
  have HS1 : Hid (PS w1 pb g c L p 0 b n) := HS0.out.below hb
  have HG1 : Hid (Gr w w1 pb) := HG0.out.trans (Gr.below hb)
  have HB1 : Hid (w1.heap[w.heap.size]? = some z39) := (hb.block _ (by simp)).trans HB0.out
  have HL1 : Hid (w.heap.size < w1.heap.size) := by show _ < _; have := hb.size; simp at this; omega
  clear hb
  go_wp2_with fail
  refine (HLK.out _ HS1.out).mono ?_
  rintro e w2 ⟨rfl, hb⟩
  have HS2 : Hid (PS w2 pb g c L p 0 b n) := HS1.out.below hb
  have HG2 : Hid (Gr w w2 pb) := HG1.out.trans (Gr.below hb)
  have HB2 : Hid (w2.heap[w.heap.size]? = some z39) := (hb.block _ HL1.out).trans HB1.out
  have HL2 : Hid (w.heap.size < w2.heap.size) := Nat.lt_of_lt_of_le HL1.out hb.size
  clear hb
  go_wp2_with fail
  refine (HCS.out _ HS2.out).mono ?_
  rintro e w3 ⟨rfl, hb⟩
  refine ⟨rfl, ?_⟩
  rw [← HP.out]
  exact ⟨rfl, HG2.out.trans (Gr.below hb)⟩
end Go.Proofs.YtnofibjchhcmeabDoor
