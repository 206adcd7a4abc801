/- One expression: a number, a name. -/
import Derived.Test.YtnofibjchhcmeabDoorEp
import Derived.RegionDies
namespace Go.Proofs.YtnofibjchhcmeabDoor
open Go.RowKit Go.Maps
set_option linter.unusedVariables false

def OnOk (pb g c : Nat) (L : List Tok) (b : Nat) (on : Nat → Nat → Nat → PR) : Prop := ∀ p o n W, PS W pb g c L p o b n → SG W pb → n ≤ 600 → o ≤ 48 → Fed (on p o n) → Calls Tryd.prog 100 #[.pointer (some ⟨pb, 0, none⟩)] W (EPost W W.heap.size pb g c L o b (on p o n))
theorem SG.drew {w : World} {pb : Nat} (h : SG w pb) : SG w.drew pb := h

set_option maxRecDepth 100000 in
set_option maxHeartbeats 4000000 in
theorem one_num {pb g c : Nat} {L : List Tok} {b : Nat} (hE : TEnd L) (p o n : Nat) (w : World) (h : PS w pb g c L p o b n) (hn : n ≤ 600) (hk : (tk L p).kind = 1) :
    Calls Tryd.prog 100 #[.pointer (some ⟨pb, 0, none⟩)] w (EPost w w.heap.size pb g c L o b (mk' (p + 1) (mkE (tk L p) 1 (tk L p).num ⟨#[]⟩ 0 [] n))) := by
  have hp1 : p + 1 < L.length := hE.kind (by rw [hk]; decide)
  have HS0 : Hid (PS (w.alloc z98) pb g c L p o b n) := h.below ((Below.refl _ _).alloc (Nat.le_refl _) _)
  have HG0 : Hid (Gr w (w.alloc z98) pb) := (Gr.refl w pb).alloc _
  have HB0 : Hid ((w.alloc z98).heap[w.heap.size]? = some z98) := heap_alloc_new _ _
  have HPL : Hid (pb < w.heap.size ∧ g < w.heap.size) := ⟨h.lt, h.gl⟩
  obtain ⟨t, ht⟩ : ∃ t, tk L p = t := ⟨_, rfl⟩
  rw [ht] at hk ⊢
  have HLK : Hid (∀ W, PS W pb g c L p o b n → Calls Tryd.prog 46 #[.pointer (some ⟨pb, 0, none⟩)] W fun e w' => e = .returned (tv t) ∧ Below W.heap.size W w') := fun W hW => by have := look_tk hW; rwa [ht] at this
  have HNX : Hid (∀ W, PS W pb g c L p o b n → Calls Tryd.prog 75 #[.pointer (some ⟨pb, 0, none⟩)] W fun e w' => e = .returned (tv t) ∧ PS w' pb g c L (p + 1) o b n ∧ Gr W w' pb) := fun W hW => by have := next_tk hW hp1; rwa [ht] at this
  have HMK : Hid (∀ V, PS V pb g c L (p + 1) o b n → w.heap.size + 1 ≤ V.heap.size → Calls Tryd.prog 101 #[.pointer (some ⟨pb, 0, none⟩), tv t, .agg #[.int .i64 1, .int .i64 t.num, .string ⟨#[]⟩, .int .i64 0, .slice none 0 0], .slice none 0 0] V (EPost V (w.heap.size + 1) pb g c L o b (mk' (p + 1) (mkE t 1 t.num ⟨#[]⟩ 0 [] n)))) := fun V hV hl => makeE_any (w.heap.size + 1) pb g c L (p + 1) o b n t 1 t.num ⟨#[]⟩ 0 [] _ V hV hn (PA.nil V) (by intro y hy; cases hy) hl (by have := HPL.out; omega)
  obtain ⟨P, hP⟩ : ∃ P, EPost w w.heap.size pb g c L o b (mk' (p + 1) (mkE t 1 t.num ⟨#[]⟩ 0 [] n)) = P := ⟨_, rfl⟩
  have HP : Hid (EPost w w.heap.size pb g c L o b (mk' (p + 1) (mkE t 1 t.num ⟨#[]⟩ 0 [] n)) = P) := hP
  rw [hP]
  generalize mk' (p + 1) (mkE t 1 t.num ⟨#[]⟩ 0 [] n) = res at HMK HP
  obtain ⟨kd, tx, nm, ps⟩ := t
  simp only at hk
  subst hk
  unfold tv at HLK HNX HMK
  dsimp only at HLK HNX HMK HP
  unfold z98 at HS0 HG0 HB0
  clear h hP ht hp1
  go_enter Tryd.func100, Tryd.ntmps100
  go_wp2_with fail
  refine (HLK.out _ HS0.out).mono ?_
  rintro e w1 ⟨rfl, hb⟩
  have BL1 := (Below.refl w1.heap.size w1).alloc (Nat.le_refl _) (tc4 ⟨1, tx, nm, ps⟩)
  have hs1 : w.heap.size < w1.heap.size := by have := hb.size; simp at this; omega
  have HS1 : Hid (PS (w1.alloc (tc4 ⟨1, tx, nm, ps⟩)) pb g c L p o b n) := (HS0.out.below hb).below BL1
  have HG1 : Hid (Gr w (w1.alloc (tc4 ⟨1, tx, nm, ps⟩)) pb) := (HG0.out.trans (Gr.below hb)).alloc _
  have HB1 : Hid ((w1.alloc (tc4 ⟨1, tx, nm, ps⟩)).heap[w.heap.size]? = some z98) := (BL1.block _ hs1).trans ((hb.block _ (by simp)).trans HB0.out)
  have HL1 : Hid (w.heap.size < w1.heap.size ∧ pb < w1.heap.size ∧ (w1.alloc (tc4 ⟨1, tx, nm, ps⟩)).heap.size = w1.heap.size + 1) := by have := HPL.out; exact ⟨hs1, by omega, by simp⟩
  have T1 : (w1.alloc (tc4 ⟨1, tx, nm, ps⟩)).heap[w1.heap.size]? = some (tc4 ⟨1, tx, nm, ps⟩) := heap_alloc_new _ _
  have HT1 : Hid ((w1.alloc (tc4 ⟨1, tx, nm, ps⟩)).heap[w1.heap.size]? = some (tc4 ⟨1, tx, nm, ps⟩)) := T1
  clear hb BL1 hs1
  go_wp2_with fail
  change Code.wp _ _ _ _ (w1.alloc (tc4 ⟨1, tx, nm, ps⟩))
  generalize w1.alloc (tc4 ⟨1, tx, nm, ps⟩) = W at *
  obtain ⟨t0, t1, t2, t3⟩ := tc4_c T1
  go_region_dies
  · rename_i hK
    refine (HNX.out _ HS1.out.drew).mono ?_
    rintro e w3 ⟨rfl, hp, hg⟩
    refine hK _ _ ?_
    clear hK
    have hsz : W.heap.size ≤ w3.heap.size := hg.size
    have HB3 : Hid (w3.heap[w.heap.size]? = some z98) := (hg.blk (k := w.heap.size) (by have := HL1.out; show _ < W.heap.size; omega) HPL.out.1).trans HB1.out
    have T3 : w3.heap[w1.heap.size]? = some (tc4 ⟨1, tx, nm, ps⟩) := (hg.blk (k := w1.heap.size) (by have := HL1.out; show _ < W.heap.size; omega) HL1.out.2.1).trans HT1.out
    have HP3 : Hid (PS w3 pb g c L (p + 1) o b n) := hp
    have HG3 : Hid (Gr w w3 pb) := HG1.out.drew.trans hg
    have HS3 : Hid (w.heap.size + 1 ≤ w3.heap.size) := by show _ ≤ _; have := HL1.out; omega
    obtain ⟨r0, r1, r2, r3⟩ := tc4_c T3
    clear hp hg t0 t1 t2 t3 hsz
    refine wpAny_ready (rs := [4]) (by kernel_rfl) (by simp) ?_
    refine AllReady.cons rfl (fun K hK => ?_) AllReady.nil
    go_simp
    refine hK _ _ ?_
    clear hK K
    refine wpAny_ready (rs := [5]) (by kernel_rfl) (by simp) ?_
    refine AllReady.cons rfl (fun K hK => ?_) AllReady.nil
    go_simp
    refine hK _ _ ?_
    clear hK K
    refine wpAny_ready (rs := [6]) (by kernel_rfl) (by simp) ?_
    refine AllReady.cons rfl (fun K hK => ?_) AllReady.nil
    go_simp
    refine (HMK.out _ HP3.out HS3.out).mono ?_
    rcases res with ⟨k, ek⟩ | ⟨z, q2, m2⟩
    · rintro e w8 ⟨rfl, hg⟩
      refine ⟨rfl, ?_⟩
      rw [← HP.out]
      exact ⟨rfl, HG3.out.trans hg⟩
    · intro e w8 hep
      obtain ⟨z1, z2, z3, rfl, hb8, hs1, hs2⟩ := hep.give HG3.out HB3.out (Nat.le_refl _) (by omega) HPL.out
      rw [HP.out] at hs2
      have HS1' : Hid ((set6 w8 w.heap.size (.int .i64 z.kind) (.int .i64 z.num) (.string z.name) (.int .i64 z.op) (.slice z1 z2 z3) (.int .i64 (z.deep : Int))).heap[w.heap.size]? = some (pc (rx z (.slice z1 z2 z3)))) := hs1
      have HS2' : Hid (P (.returned (rxv (rx z (.slice z1 z2 z3)))) (set6 w8 w.heap.size (.int .i64 z.kind) (.int .i64 z.num) (.string z.name) (.int .i64 z.op) (.slice z1 z2 z3) (.int .i64 (z.deep : Int)))) := hs2
      obtain ⟨a0, a1, a2, a3, a4, a5, b0, b1, b2, b3, b4, b5⟩ := z98_c hb8
      clear hs1 hs2 hb8 hep
      unfold rxv rx
      refine hK _ _ ?_
      clear hK K
      refine wpAny_ready (rs := [7]) (by kernel_rfl) (by simp) ?_
      refine AllReady.cons rfl (fun K hK => ?_) AllReady.nil
      go_simp
      refine hK _ _ ?_
      clear hK K
      refine wpAny_done (by kernel_rfl) ?_ _
      go_wp2
      exact bodyPost_ret (ret_part 2 Tryd.results100 _ w.heap.size rfl _ (rx z (.slice z1 z2 z3)) HS1'.out) rfl HS2'.out
  · rename_i hK
    refine (HNX.out _ HS1.out.drew).mono ?_
    rintro e w3 ⟨rfl, hp, hg⟩
    refine hK _ _ ?_
    clear hK
    have hsz : W.heap.size ≤ w3.heap.size := hg.size
    have HB3 : Hid (w3.heap[w.heap.size]? = some z98) := (hg.blk (k := w.heap.size) (by have := HL1.out; show _ < W.heap.size; omega) HPL.out.1).trans HB1.out
    have T3 : w3.heap[w1.heap.size]? = some (tc4 ⟨1, tx, nm, ps⟩) := (hg.blk (k := w1.heap.size) (by have := HL1.out; show _ < W.heap.size; omega) HL1.out.2.1).trans HT1.out
    have HP3 : Hid (PS w3 pb g c L (p + 1) o b n) := hp
    have HG3 : Hid (Gr w w3 pb) := HG1.out.drew.trans hg
    have HS3 : Hid (w.heap.size + 1 ≤ w3.heap.size) := by show _ ≤ _; have := HL1.out; omega
    obtain ⟨r0, r1, r2, r3⟩ := tc4_c T3
    clear hp hg t0 t1 t2 t3 hsz
    refine wpAny_ready (rs := [6]) (by kernel_rfl) (by simp) ?_
    refine AllReady.cons rfl (fun K hK => ?_) AllReady.nil
    go_simp
    refine (HMK.out _ HP3.out HS3.out).mono ?_
    rcases res with ⟨k, ek⟩ | ⟨z, q2, m2⟩
    · rintro e w8 ⟨rfl, hg⟩
      refine ⟨rfl, ?_⟩
      rw [← HP.out]
      exact ⟨rfl, HG3.out.trans hg⟩
    · intro e w8 hep
      obtain ⟨z1, z2, z3, rfl, hb8, hs1, hs2⟩ := hep.give HG3.out HB3.out (Nat.le_refl _) (by omega) HPL.out
      rw [HP.out] at hs2
      have HS1' : Hid ((set6 w8 w.heap.size (.int .i64 z.kind) (.int .i64 z.num) (.string z.name) (.int .i64 z.op) (.slice z1 z2 z3) (.int .i64 (z.deep : Int))).heap[w.heap.size]? = some (pc (rx z (.slice z1 z2 z3)))) := hs1
      have HS2' : Hid (P (.returned (rxv (rx z (.slice z1 z2 z3)))) (set6 w8 w.heap.size (.int .i64 z.kind) (.int .i64 z.num) (.string z.name) (.int .i64 z.op) (.slice z1 z2 z3) (.int .i64 (z.deep : Int)))) := hs2
      obtain ⟨a0, a1, a2, a3, a4, a5, b0, b1, b2, b3, b4, b5⟩ := z98_c hb8
      clear hs1 hs2 hb8 hep
      unfold rxv rx
      refine hK _ _ ?_
      clear hK K
      refine wpAny_ready (rs := [7]) (by kernel_rfl) (by simp) ?_
      refine AllReady.cons rfl (fun K hK => ?_) AllReady.nil
      go_simp
      refine hK _ _ ?_
      clear hK K
      refine wpAny_done (by kernel_rfl) ?_ _
      go_wp2
      exact bodyPost_ret (ret_part 2 Tryd.results100 _ w.heap.size rfl _ (rx z (.slice z1 z2 z3)) HS1'.out) rfl HS2'.out
set_option maxRecDepth 100000 in
set_option maxHeartbeats 4000000 in
theorem one_name {pb g c : Nat} {L : List Tok} {b : Nat} (hE : TEnd L) (p o n : Nat) (w : World) (h : PS w pb g c L p o b n) (hn : n ≤ 600) (hk : (tk L p).kind = 2) :
    Calls Tryd.prog 100 #[.pointer (some ⟨pb, 0, none⟩)] w (EPost w w.heap.size pb g c L o b (mk' (p + 1) (mkE (tk L p) 2 0 ⟨(tk L p).text.toArray⟩ 0 [] n))) := by
  have hp1 : p + 1 < L.length := hE.kind (by rw [hk]; decide)
  have HS0 : Hid (PS (w.alloc z98) pb g c L p o b n) := h.below ((Below.refl _ _).alloc (Nat.le_refl _) _)
  have HG0 : Hid (Gr w (w.alloc z98) pb) := (Gr.refl w pb).alloc _
  have HB0 : Hid ((w.alloc z98).heap[w.heap.size]? = some z98) := heap_alloc_new _ _
  have HPL : Hid (pb < w.heap.size ∧ g < w.heap.size) := ⟨h.lt, h.gl⟩
  obtain ⟨t, ht⟩ : ∃ t, tk L p = t := ⟨_, rfl⟩
  rw [ht] at hk ⊢
  have HLK : Hid (∀ W, PS W pb g c L p o b n → Calls Tryd.prog 46 #[.pointer (some ⟨pb, 0, none⟩)] W fun e w' => e = .returned (tv t) ∧ Below W.heap.size W w') := fun W hW => by have := look_tk hW; rwa [ht] at this
  have HNX : Hid (∀ W, PS W pb g c L p o b n → Calls Tryd.prog 75 #[.pointer (some ⟨pb, 0, none⟩)] W fun e w' => e = .returned (tv t) ∧ PS w' pb g c L (p + 1) o b n ∧ Gr W w' pb) := fun W hW => by have := next_tk hW hp1; rwa [ht] at this
  have HMK : Hid (∀ V, PS V pb g c L (p + 1) o b n → w.heap.size + 1 ≤ V.heap.size → Calls Tryd.prog 101 #[.pointer (some ⟨pb, 0, none⟩), tv t, .agg #[.int .i64 2, .int .i64 0, .string ⟨t.text.toArray⟩, .int .i64 0, .slice none 0 0], .slice none 0 0] V (EPost V (w.heap.size + 1) pb g c L o b (mk' (p + 1) (mkE t 2 0 ⟨t.text.toArray⟩ 0 [] n)))) := fun V hV hl => makeE_any (w.heap.size + 1) pb g c L (p + 1) o b n t 2 0 ⟨t.text.toArray⟩ 0 [] _ V hV hn (PA.nil V) (by intro y hy; cases hy) hl (by have := HPL.out; omega)
  obtain ⟨P, hP⟩ : ∃ P, EPost w w.heap.size pb g c L o b (mk' (p + 1) (mkE t 2 0 ⟨t.text.toArray⟩ 0 [] n)) = P := ⟨_, rfl⟩
  have HP : Hid (EPost w w.heap.size pb g c L o b (mk' (p + 1) (mkE t 2 0 ⟨t.text.toArray⟩ 0 [] n)) = P) := hP
  rw [hP]
  generalize mk' (p + 1) (mkE t 2 0 ⟨t.text.toArray⟩ 0 [] n) = res at HMK HP
  obtain ⟨kd, tx, nm, ps⟩ := t
  simp only at hk
  subst hk
  unfold tv at HLK HNX HMK
  dsimp only at HLK HNX HMK HP
  unfold z98 at HS0 HG0 HB0
  clear h hP ht hp1
  go_enter Tryd.func100, Tryd.ntmps100
  go_wp2_with fail
  refine (HLK.out _ HS0.out).mono ?_
  rintro e w1 ⟨rfl, hb⟩
  have BL1 := (Below.refl w1.heap.size w1).alloc (Nat.le_refl _) (tc4 ⟨2, tx, nm, ps⟩)
  have hs1 : w.heap.size < w1.heap.size := by have := hb.size; simp at this; omega
  have HS1 : Hid (PS (w1.alloc (tc4 ⟨2, tx, nm, ps⟩)) pb g c L p o b n) := (HS0.out.below hb).below BL1
  have HG1 : Hid (Gr w (w1.alloc (tc4 ⟨2, tx, nm, ps⟩)) pb) := (HG0.out.trans (Gr.below hb)).alloc _
  have HB1 : Hid ((w1.alloc (tc4 ⟨2, tx, nm, ps⟩)).heap[w.heap.size]? = some z98) := (BL1.block _ hs1).trans ((hb.block _ (by simp)).trans HB0.out)
  have HL1 : Hid (w.heap.size < w1.heap.size ∧ pb < w1.heap.size ∧ (w1.alloc (tc4 ⟨2, tx, nm, ps⟩)).heap.size = w1.heap.size + 1) := by have := HPL.out; exact ⟨hs1, by omega, by simp⟩
  have T1 : (w1.alloc (tc4 ⟨2, tx, nm, ps⟩)).heap[w1.heap.size]? = some (tc4 ⟨2, tx, nm, ps⟩) := heap_alloc_new _ _
  have HT1 : Hid ((w1.alloc (tc4 ⟨2, tx, nm, ps⟩)).heap[w1.heap.size]? = some (tc4 ⟨2, tx, nm, ps⟩)) := T1
  clear hb BL1 hs1
  go_wp2_with fail
  change Code.wp _ _ _ _ (w1.alloc (tc4 ⟨2, tx, nm, ps⟩))
  generalize w1.alloc (tc4 ⟨2, tx, nm, ps⟩) = W at *
  obtain ⟨t0, t1, t2, t3⟩ := tc4_c T1
  go_region_dies
  · rename_i hK
    refine (HNX.out _ HS1.out.drew).mono ?_
    rintro e w3 ⟨rfl, hp, hg⟩
    refine hK _ _ ?_
    clear hK
    have hsz : W.heap.size ≤ w3.heap.size := hg.size
    have HB3 : Hid (w3.heap[w.heap.size]? = some z98) := (hg.blk (k := w.heap.size) (by have := HL1.out; show _ < W.heap.size; omega) HPL.out.1).trans HB1.out
    have T3 : w3.heap[w1.heap.size]? = some (tc4 ⟨2, tx, nm, ps⟩) := (hg.blk (k := w1.heap.size) (by have := HL1.out; show _ < W.heap.size; omega) HL1.out.2.1).trans HT1.out
    have HP3 : Hid (PS w3 pb g c L (p + 1) o b n) := hp
    have HG3 : Hid (Gr w w3 pb) := HG1.out.drew.trans hg
    have HS3 : Hid (w.heap.size + 1 ≤ w3.heap.size) := by show _ ≤ _; have := HL1.out; omega
    obtain ⟨r0, r1, r2, r3⟩ := tc4_c T3
    clear hp hg t0 t1 t2 t3 hsz
    refine wpAny_ready (rs := [4]) (by kernel_rfl) (by simp) ?_
    refine AllReady.cons rfl (fun K hK => ?_) AllReady.nil
    go_simp
    refine hK _ _ ?_
    clear hK K
    refine wpAny_ready (rs := [5]) (by kernel_rfl) (by simp) ?_
    refine AllReady.cons rfl (fun K hK => ?_) AllReady.nil
    go_simp
    refine hK _ _ ?_
    clear hK K
    refine wpAny_ready (rs := [6]) (by kernel_rfl) (by simp) ?_
    refine AllReady.cons rfl (fun K hK => ?_) AllReady.nil
    go_simp
    refine (HMK.out _ HP3.out HS3.out).mono ?_
    rcases res with ⟨k, ek⟩ | ⟨z, q2, m2⟩
    · rintro e w8 ⟨rfl, hg⟩
      refine ⟨rfl, ?_⟩
      rw [← HP.out]
      exact ⟨rfl, HG3.out.trans hg⟩
    · intro e w8 hep
      obtain ⟨z1, z2, z3, rfl, hb8, hs1, hs2⟩ := hep.give HG3.out HB3.out (Nat.le_refl _) (by omega) HPL.out
      rw [HP.out] at hs2
      have HS1' : Hid ((set6 w8 w.heap.size (.int .i64 z.kind) (.int .i64 z.num) (.string z.name) (.int .i64 z.op) (.slice z1 z2 z3) (.int .i64 (z.deep : Int))).heap[w.heap.size]? = some (pc (rx z (.slice z1 z2 z3)))) := hs1
      have HS2' : Hid (P (.returned (rxv (rx z (.slice z1 z2 z3)))) (set6 w8 w.heap.size (.int .i64 z.kind) (.int .i64 z.num) (.string z.name) (.int .i64 z.op) (.slice z1 z2 z3) (.int .i64 (z.deep : Int)))) := hs2
      obtain ⟨a0, a1, a2, a3, a4, a5, b0, b1, b2, b3, b4, b5⟩ := z98_c hb8
      clear hs1 hs2 hb8 hep
      unfold rxv rx
      refine hK _ _ ?_
      clear hK K
      refine wpAny_ready (rs := [7]) (by kernel_rfl) (by simp) ?_
      refine AllReady.cons rfl (fun K hK => ?_) AllReady.nil
      go_simp
      refine hK _ _ ?_
      clear hK K
      refine wpAny_done (by kernel_rfl) ?_ _
      go_wp2
      exact bodyPost_ret (ret_part 2 Tryd.results100 _ w.heap.size rfl _ (rx z (.slice z1 z2 z3)) HS1'.out) rfl HS2'.out
  · rename_i hK
    refine (HNX.out _ HS1.out.drew).mono ?_
    rintro e w3 ⟨rfl, hp, hg⟩
    refine hK _ _ ?_
    clear hK
    have hsz : W.heap.size ≤ w3.heap.size := hg.size
    have HB3 : Hid (w3.heap[w.heap.size]? = some z98) := (hg.blk (k := w.heap.size) (by have := HL1.out; show _ < W.heap.size; omega) HPL.out.1).trans HB1.out
    have T3 : w3.heap[w1.heap.size]? = some (tc4 ⟨2, tx, nm, ps⟩) := (hg.blk (k := w1.heap.size) (by have := HL1.out; show _ < W.heap.size; omega) HL1.out.2.1).trans HT1.out
    have HP3 : Hid (PS w3 pb g c L (p + 1) o b n) := hp
    have HG3 : Hid (Gr w w3 pb) := HG1.out.drew.trans hg
    have HS3 : Hid (w.heap.size + 1 ≤ w3.heap.size) := by show _ ≤ _; have := HL1.out; omega
    obtain ⟨r0, r1, r2, r3⟩ := tc4_c T3
    clear hp hg t0 t1 t2 t3 hsz
    refine wpAny_ready (rs := [6]) (by kernel_rfl) (by simp) ?_
    refine AllReady.cons rfl (fun K hK => ?_) AllReady.nil
    go_simp
    refine (HMK.out _ HP3.out HS3.out).mono ?_
    rcases res with ⟨k, ek⟩ | ⟨z, q2, m2⟩
    · rintro e w8 ⟨rfl, hg⟩
      refine ⟨rfl, ?_⟩
      rw [← HP.out]
      exact ⟨rfl, HG3.out.trans hg⟩
    · intro e w8 hep
      obtain ⟨z1, z2, z3, rfl, hb8, hs1, hs2⟩ := hep.give HG3.out HB3.out (Nat.le_refl _) (by omega) HPL.out
      rw [HP.out] at hs2
      have HS1' : Hid ((set6 w8 w.heap.size (.int .i64 z.kind) (.int .i64 z.num) (.string z.name) (.int .i64 z.op) (.slice z1 z2 z3) (.int .i64 (z.deep : Int))).heap[w.heap.size]? = some (pc (rx z (.slice z1 z2 z3)))) := hs1
      have HS2' : Hid (P (.returned (rxv (rx z (.slice z1 z2 z3)))) (set6 w8 w.heap.size (.int .i64 z.kind) (.int .i64 z.num) (.string z.name) (.int .i64 z.op) (.slice z1 z2 z3) (.int .i64 (z.deep : Int)))) := hs2
      obtain ⟨a0, a1, a2, a3, a4, a5, b0, b1, b2, b3, b4, b5⟩ := z98_c hb8
      clear hs1 hs2 hb8 hep
      unfold rxv rx
      refine hK _ _ ?_
      clear hK K
      refine wpAny_ready (rs := [7]) (by kernel_rfl) (by simp) ?_
      refine AllReady.cons rfl (fun K hK => ?_) AllReady.nil
      go_simp
      refine hK _ _ ?_
      clear hK K
      refine wpAny_done (by kernel_rfl) ?_ _
      go_wp2
      exact bodyPost_ret (ret_part 2 Tryd.results100 _ w.heap.size rfl _ (rx z (.slice z1 z2 z3)) HS1'.out) rfl HS2'.out
end Go.Proofs.YtnofibjchhcmeabDoor
