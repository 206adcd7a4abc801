/- A stop. -/
import Derived.Test.YtnofibjchhcmeabDoorSu
namespace Go.Proofs.YtnofibjchhcmeabDoor
open Go.RowKit Go.Maps
set_option linter.unusedVariables false

set_option maxRecDepth 100000 in
set_option maxHeartbeats 4000000 in
theorem stop_any {pb g c : Nat} {L : List Tok} {b : Nat} (hE : TEnd L) (p n : Nat) (w : World) (h : PS w pb g c L p 0 b n) (hn : n ≤ 600) (hp1 : p + 1 < L.length) :
    Calls Tryd.prog 60 #[.pointer (some ⟨pb, 0, none⟩)] w (TPost w (fun j => w.heap.size ≤ j) pb g c L b (stopP L p n)) := by
  have HS0 : Hid (PS (w.alloc z39) pb g c L p 0 b n) := h.below ((Below.refl _ _).alloc (Nat.le_refl _) _)
  have HG0 : Hid (Gr w (w.alloc z39) pb) := (Gr.refl w pb).alloc _
  have HB0 : Hid ((w.alloc z39).heap[w.heap.size]? = some z39) := heap_alloc_new _ _
  have HPL : Hid (pb < w.heap.size ∧ g < w.heap.size) := ⟨h.lt, h.gl⟩
  obtain ⟨t, ht⟩ : ∃ t, tk L p = t := ⟨_, rfl⟩
  have HNX : Hid (∀ W, PS W pb g c L p 0 b n → Calls Tryd.prog 75 #[.pointer (some ⟨pb, 0, none⟩)] W fun e w' => e = .returned (tv t) ∧ PS w' pb g c L (p + 1) 0 b n ∧ Gr W w' pb) := fun W hW => by have := next_tk hW hp1; rwa [ht] at this
  unfold stopP
  rw [ht]
  obtain ⟨P, hP⟩ : ∃ P, TPost w (fun j => w.heap.size ≤ j) pb g c L b (if ¬ (tk L (p + 1)).text = [59] then .error ((tk L (p + 1)).pos, 40) else mkS t ⟨9, ⟨#[]⟩, 0, .leaf, .leaf, .leaf⟩ (p + 2) n) = P := ⟨_, rfl⟩
  have HP : Hid (TPost w (fun j => w.heap.size ≤ j) pb g c L b (if ¬ (tk L (p + 1)).text = [59] then .error ((tk L (p + 1)).pos, 40) else mkS t ⟨9, ⟨#[]⟩, 0, .leaf, .leaf, .leaf⟩ (p + 2) n) = P) := hP
  rw [hP]
  unfold tv at HNX
  unfold z39 at HS0 HG0 HB0
  clear h ht hp1 hP
  go_enter Tryd.func60, Tryd.ntmps60
  go_wp2_with fail
  refine (HNX.out _ HS0.out).mono ?_
  rintro e w1 ⟨rfl, hp, hg⟩
  have hs1 : w.heap.size < w1.heap.size := by have := hg.size; simp at this; omega
  have BL1 := (Below.refl w1.heap.size w1).alloc (Nat.le_refl _) (tc4 t)
  have HS2 : Hid (PS (w1.alloc (tc4 t)) pb g c L (p + 1) 0 b n) := hp.below BL1
  have HG2 : Hid (Gr w (w1.alloc (tc4 t)) pb) := (HG0.out.trans hg).alloc _
  have HB2 : Hid ((w1.alloc (tc4 t)).heap[w.heap.size]? = some z39) := (BL1.block _ hs1).trans ((hg.blk (by simp) HPL.out.1).trans HB0.out)
  have HT2 : Hid ((w1.alloc (tc4 t)).heap[w1.heap.size]? = some (tc4 t)) := heap_alloc_new _ _
  have HL2 : Hid (w.heap.size < w1.heap.size ∧ pb < w1.heap.size ∧ (w1.alloc (tc4 t)).heap.size = w1.heap.size + 1) := ⟨hs1, by have := HPL.out; omega, by simp⟩
  clear hp hg BL1 hs1 HNX
  go_wp2_with fail
  by_cases e3 : ¬ (tk L (p + 1)).text = [59]
  · rw [if_pos e3] at HP
    refine (take_no ⟨#[59]⟩ HS2.out e3).mono ?_
    rintro e w4 ⟨rfl, hg⟩
    refine ⟨rfl, ?_⟩
    rw [← HP.out]
    exact ⟨rfl, HG2.out.trans hg⟩
  rw [if_neg e3] at HP
  replace e3 := Decidable.of_not_not e3
  refine (take_tk ⟨#[59]⟩ HS2.out e3 (hE.text (by rw [e3]; simp))).mono ?_
  rintro e w3 ⟨rfl, hp, hg⟩
  have hg' : Gr (w1.alloc (tc4 t)) w3 pb := hg
  have HB3 : w3.heap[w.heap.size]? = some z39 := (hg'.blk (by have := HL2.out; omega) HPL.out.1).trans HB2.out
  have T3 : w3.heap[w1.heap.size]? = some (tc4 t) := (hg'.blk (by have := HL2.out; omega) HL2.out.2.1).trans HT2.out
  have HG3 : Gr w w3 pb := HG2.out.trans hg'
  have HL3 : Hid (w.heap.size < w3.heap.size) := by show _ < _; have := hg'.size; have := HL2.out; omega
  have hmk := makeS_any (fun j => w.heap.size < j) pb g c L (p + 2) b n t 9 ⟨#[]⟩ 0 [] (.slice none 0 0) (.slice none 0 0) .leaf .leaf (.slice none 0 0) w3 hp hn (PA.nil w3) (by intro y hy; cases hy) (SSlP.nil _ _) (SSlP.nil _ _) (fun j hj => by have := HL3.out; omega) (fun j hj => by have := HPL.out; omega)
  obtain ⟨t0, t1, t2, t3⟩ := tc4_c T3
  obtain ⟨tq, htq⟩ : ∃ tq, tk L (p + 1) = tq := ⟨_, rfl⟩
  rw [htq]
  unfold tv at hmk ⊢
  clear hp hg hg' T3 e3 htq
  go_wp2_with fail
  refine hmk.mono ?_
  clear hmk
  show ∀ e w', TPost w3 (fun j => w.heap.size < j) pb g c L b (mkS t ⟨9, ⟨#[]⟩, 0, .leaf, .leaf, .leaf⟩ (p + 2) n) e w' → _
  unfold mkS at HP ⊢
  by_cases h6 : 600 < n + 1
  · rw [if_pos h6] at HP ⊢
    rintro e w8 ⟨rfl, hg⟩
    refine ⟨rfl, ?_⟩
    rw [← HP.out]
    exact ⟨rfl, HG3.trans hg⟩
  · rw [if_neg h6] at HP ⊢
    intro e w8 hep
    obtain ⟨q1, q2, q3, b1, b2, b3, e1, e2, e3, rfl, hb8, hs1, hs2⟩ := hep.give HG3 HB3 (Nat.le_refl _) (fun j hj => ⟨by omega, by omega⟩) HPL.out
    rw [HP.out] at hs2
    have HS1' : Hid ((set6 w8 w.heap.size (.int .i64 9) (.string ⟨#[]⟩) (.int .i64 0) (.slice q1 q2 q3) (.slice b1 b2 b3) (.slice e1 e2 e3)).heap[w.heap.size]? = some (.cells #[.int .i64 9, .string ⟨#[]⟩, .int .i64 0, .slice q1 q2 q3, .slice b1 b2 b3, .slice e1 e2 e3] 39)) := hs1
    have HS2' : Hid (P (.returned (.agg #[.int .i64 9, .string ⟨#[]⟩, .int .i64 0, .slice q1 q2 q3, .slice b1 b2 b3, .slice e1 e2 e3])) (set6 w8 w.heap.size (.int .i64 9) (.string ⟨#[]⟩) (.int .i64 0) (.slice q1 q2 q3) (.slice b1 b2 b3) (.slice e1 e2 e3))) := hs2
    obtain ⟨⟨a0, a1, a2, a3, a4, a5⟩, z0, z1, z2, z3, z4, z5⟩ := z39_c hb8
    clear hs1 hs2 hb8 hep HG3 HB3
    go_wp2
    exact bodyPost_ret (ret_stmt 2 Tryd.results60 _ w.heap.size rfl _ _ _ _ _ _ _ HS1'.out) rfl HS2'.out
end Go.Proofs.YtnofibjchhcmeabDoor
