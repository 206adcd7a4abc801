/- What stands behind a statement's sign =. -/
import Derived.Test.YtnofibjchhcmeabDoorSu
namespace Go.Proofs.YtnofibjchhcmeabDoor
open Go.RowKit Go.Maps
set_option linter.unusedVariables false

set_option maxRecDepth 100000 in
set_option maxHeartbeats 4000000 in
theorem pvalue_any {pb g c : Nat} {L : List Tok} {b : Nat} (hE : TEnd L) (hx : ExOk pb g c L b (ex1 L)) (p n : Nat) (w : World) (h : PS w pb g c L p 0 b n) (hs : SG w pb) (hn : n ≤ 600) :
    Calls Tryd.prog 77 #[.pointer (some ⟨pb, 0, none⟩)] w (EPost w w.heap.size pb g c L 0 b (valueP L p n)) := by
  have HS0 : Hid (PS (w.alloc z98) pb g c L p 0 b n) := h.below ((Below.refl _ _).alloc (Nat.le_refl _) _)
  have HG0 : Hid (Gr w (w.alloc z98) pb) := (Gr.refl w pb).alloc _
  have HB0 : Hid ((w.alloc z98).heap[w.heap.size]? = some z98) := heap_alloc_new _ _
  have HPL : Hid (pb < w.heap.size ∧ g < w.heap.size) := ⟨h.lt, h.gl⟩
  have HSG : Hid (SG w pb) := hs
  unfold valueP
  by_cases e1 : ¬ (tk L p).text = [61]
  · rw [if_pos e1]
    unfold z98 at HS0 HG0 HB0
    go_enter Tryd.func77, Tryd.ntmps77
    go_wp2_with fail
    refine (take_no ⟨#[61]⟩ HS0.out e1).mono ?_
    rintro e w1 ⟨rfl, hg⟩
    exact ⟨rfl, rfl, HG0.out.trans hg⟩
  rw [if_neg e1]
  replace e1 := Decidable.of_not_not e1
  have HTK : Hid (∀ W, PS W pb g c L p 0 b n → Calls Tryd.prog 81 #[.pointer (some ⟨pb, 0, none⟩), .string ⟨#[61]⟩] W fun e w' => e = .returned (tv (tk L p)) ∧ PS w' pb g c L (p + 1) 0 b n ∧ Gr W w' pb) := fun W hW => take_tk ⟨#[61]⟩ hW e1 (hE.text (by rw [e1]; simp))
  unfold tv at HTK
  generalize tk L p = tp at HTK
  obtain ⟨R, hR⟩ : ∃ R, lastP L (p + 1) n = R := ⟨_, rfl⟩
  have HLA : Hid (∀ W, PS W pb g c L (p + 1) 0 b n → SG W pb → Calls Tryd.prog 80 #[.pointer (some ⟨pb, 0, none⟩)] W (EPost W W.heap.size pb g c L 0 b R)) := fun W hW hS => by have := last_any hE hx (p + 1) n W hW hS hn; rwa [hR] at this
  rw [hR]
  obtain ⟨P, hP⟩ : ∃ P, EPost w w.heap.size pb g c L 0 b R = P := ⟨_, rfl⟩
  have HP : Hid (EPost w w.heap.size pb g c L 0 b R = P) := hP
  rw [hP]
  unfold z98 at HS0 HG0 HB0
  clear h hs hP hR hx
  go_enter Tryd.func77, Tryd.ntmps77
  go_wp2_with fail
  refine (HTK.out _ HS0.out).mono ?_
  rintro e w3 ⟨rfl, hp, hg⟩
  have HS3 : Hid (PS w3 pb g c L (p + 1) 0 b n) := hp
  have HG3 : Hid (Gr w w3 pb) := HG0.out.trans hg
  have HB3 : Hid (w3.heap[w.heap.size]? = some z98) := (hg.blk (by simp) HPL.out.1).trans HB0.out
  have HL3 : Hid (w.heap.size < w3.heap.size) := by show _ < _; have := hg.size; simp at this; omega
  clear hp hg
  go_wp2_with fail
  refine (HLA.out _ HS3.out (HSG.out.gr HG3.out)).mono ?_
  rcases R with ⟨k, ek⟩ | ⟨z, q2, m2⟩
  · rintro e w8 ⟨rfl, hg⟩
    refine ⟨rfl, ?_⟩
    rw [← HP.out]
    exact ⟨rfl, HG3.out.trans hg⟩
  · intro e w8 hep
    obtain ⟨z1, z2, z3, rfl, hb8, hs1, hs2⟩ := EPost.give hep HG3.out HB3.out (Nat.le_refl _) HL3.out HPL.out
    rw [HP.out] at hs2
    have HS1' : Hid ((set6 w8 w.heap.size (.int .i64 z.kind) (.int .i64 z.num) (.string z.name) (.int .i64 z.op) (.slice z1 z2 z3) (.int .i64 (z.deep : Int))).heap[w.heap.size]? = some (pc (rx z (.slice z1 z2 z3)))) := hs1
    have HS2' : Hid (P (.returned (rxv (rx z (.slice z1 z2 z3)))) (set6 w8 w.heap.size (.int .i64 z.kind) (.int .i64 z.num) (.string z.name) (.int .i64 z.op) (.slice z1 z2 z3) (.int .i64 (z.deep : Int)))) := hs2
    obtain ⟨a0, a1, a2, a3, a4, a5, b0, b1, b2, b3, b4, b5⟩ := z98_c hb8
    clear hs1 hs2 hb8 hep
    unfold rxv rx
    go_wp2
    exact bodyPost_ret (ret_part 2 Tryd.results77 _ w.heap.size rfl _ (rx z (.slice z1 z2 z3)) HS1'.out) rfl HS2'.out
end Go.Proofs.YtnofibjchhcmeabDoor
