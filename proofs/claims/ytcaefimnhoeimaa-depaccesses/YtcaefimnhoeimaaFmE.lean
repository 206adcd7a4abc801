/- Where an access goes. -/
import Derived.Test.YtcaefimnhoeimaaFmD
import Derived.Test.YtcaefimnhoeimaaLst
import Derived.Test.YtcaefimnhoeimaaFb
namespace Go.Proofs.Ytcaefimnhoeimaa
open Go.RowKit
set_option linter.unusedVariables false
set_option linter.unusedSimpArgs false

set_option maxRecDepth 100000 in
set_option maxHeartbeats 1000000 in
theorem moved_any (f : Fm) (hf : OkF f) (n : Int) (w : World) : Calls Try.prog 26 #[fv f, .int .i64 n] w (FP (movedF f n) w) := by
  have HN : Hid (∀ w, Calls Try.prog 39 #[.int .i64 n] w (FP (numF n) w)) := fun w => number_any n w
  have HT : Hid (∀ w, Calls Try.prog 43 #[.int .i64 1, fv f, fv (numF n)] w (FP (movedF f n) w)) := fun w => ofTwo_any 1 f (numF n) hf (okF_kept _ _) w
  generalize movedF f n = h at HT ⊢
  generalize numF n = g at HN HT
  clear hf
  obtain ⟨k, a, c⟩ := f
  obtain ⟨gk, ga', gc⟩ := g
  obtain ⟨hk, ha, hc⟩ := h
  unfold fv at HT ⊢
  simp only at HT ⊢
  go_enter Try.func26, Try.ntmps26
  go_wp2_with fail
  generalize hW : (w.alloc _).alloc _ = W
  have h1 : W.heap[w.heap.size]? = some (.cells #[.bool k, .int .i64 a, .int .i64 c] 30) := by rw [← hW]; exact two_old _ _ _
  have h2 : W.heap[w.heap.size + 1]? = some (.cells #[.bool false, .int .i64 0, .int .i64 0] 30) := by rw [← hW]; exact two_new _ _ _
  have HB : Hid (Below w.heap.size w W ∧ W.heap[w.heap.size + 1]? = some (.cells #[.bool false, .int .i64 0, .int .i64 0] 30) ∧ w.heap.size + 2 ≤ W.heap.size) := ⟨by rw [← hW]; exact bl2 _ _ _, h2, by rw [← hW]; simp⟩
  obtain ⟨c0, c1, c2, f0⟩ := all3 h1
  clear hW h1 h2 f0
  refine WE.start (fun w' => w'.cell? ⟨w.heap.size, 0, none⟩ = some (.bool k) ∧ w'.cell? ⟨w.heap.size, 1, none⟩ = some (.int .i64 a) ∧ w'.cell? ⟨w.heap.size, 2, none⟩ = some (.int .i64 c)) 4 5 #[false, false, false, false, false] rfl rfl (by kernel_rfl) ⟨c0, c1, c2⟩ (fun hS => ?_)
  refine WE.take (i := 0) (v := ?_) rfl (by kernel_rfl) (fun _ _ _ h => h) (Or.inl ⟨by rfl, ?_⟩) hS ?_
  rotate_left
  · intro w1 hSw; obtain ⟨s0, s1, s2⟩ := hSw; go_simp; first | done | rfl
  try simp only [List.getElem_toArray, List.getElem_cons_zero, List.getElem_cons_succ, Act.put, List.setIfInBounds_toArray, List.set_cons_zero, List.set_cons_succ]
  refine WE.take (i := 1) (v := ?_) rfl (by kernel_rfl) (fun _ _ _ h => h) (Or.inl ⟨by rfl, ?_⟩) hS ?_
  rotate_left
  · intro w1 hSw; obtain ⟨s0, s1, s2⟩ := hSw; go_simp; first | done | rfl
  try simp only [List.getElem_toArray, List.getElem_cons_zero, List.getElem_cons_succ, Act.put, List.setIfInBounds_toArray, List.set_cons_zero, List.set_cons_succ]
  refine WE.step (i := 2) rfl (by kernel_rfl) (fun K hK => ?_)
  rw [if_pos (by rfl)]
  go_simp
  refine (HN.out _).mono ?_
  rintro e w4 ⟨rfl, hb9⟩
  have HBw4 : Hid (Below w.heap.size w w4 ∧ w4.heap[w.heap.size + 1]? = some (.cells #[.bool false, .int .i64 0, .int .i64 0] 30) ∧ w.heap.size + 2 ≤ w4.heap.size) := ⟨HB.out.1.drew.trans (hb9.mono HB.out.1.size), (hb9.block _ (by have := HB.out.2.2; simp; omega)).trans HB.out.2.1, by have := hb9.size; have := HB.out.2.2; simp at *; omega⟩
  have hS9 : (fun w' => w'.cell? ⟨w.heap.size, 0, none⟩ = some (.bool k) ∧ w'.cell? ⟨w.heap.size, 1, none⟩ = some (.int .i64 a) ∧ w'.cell? ⟨w.heap.size, 2, none⟩ = some (.int .i64 c)) w4 := by
    have bc : ∀ p v, W.drew.cell? p = some v → w4.cell? p = some v := fun p v hp => (hb9.cell (p := p) (World.block_lt_of_cell? _ _ hp)).trans hp
    obtain ⟨s0, s1, s2⟩ := hS
    exact ⟨bc _ _ s0, bc _ _ s1, bc _ _ s2⟩
  refine hK _ _ hS9 ?_
  clear hb9

  unfold fv
  clear hK K hS
  have hS := hS9
  clear hS9
  try simp only [List.getElem_toArray, List.getElem_cons_zero, List.getElem_cons_succ, Act.put, List.setIfInBounds_toArray, List.set_cons_zero, List.set_cons_succ]
  refine WE.step (i := 3) rfl (by kernel_rfl) (fun K hK => ?_)
  rw [if_pos (by rfl)]
  go_simp
  refine (HT.out _).mono ?_
  rintro e w5 ⟨rfl, hb9⟩
  have HBw5 : Hid (Below w.heap.size w w5 ∧ w5.heap[w.heap.size + 1]? = some (.cells #[.bool false, .int .i64 0, .int .i64 0] 30) ∧ w.heap.size + 2 ≤ w5.heap.size) := ⟨HBw4.out.1.trans (hb9.mono HBw4.out.1.size), (hb9.block _ (by have := HBw4.out.2.2; omega)).trans HBw4.out.2.1, by have := hb9.size; have := HBw4.out.2.2; omega⟩
  have hS9 : (fun w' => w'.cell? ⟨w.heap.size, 0, none⟩ = some (.bool k) ∧ w'.cell? ⟨w.heap.size, 1, none⟩ = some (.int .i64 a) ∧ w'.cell? ⟨w.heap.size, 2, none⟩ = some (.int .i64 c)) w5 := by
    have bc : ∀ p v, w4.cell? p = some v → w5.cell? p = some v := fun p v hp => (hb9.cell (p := p) (World.block_lt_of_cell? _ _ hp)).trans hp
    obtain ⟨s0, s1, s2⟩ := hS
    exact ⟨bc _ _ s0, bc _ _ s1, bc _ _ s2⟩
  refine hK _ _ hS9 ?_
  clear hb9

  unfold fv
  clear hK K hS
  have hS := hS9
  clear hS9
  try simp only [List.getElem_toArray, List.getElem_cons_zero, List.getElem_cons_succ, Act.put, List.setIfInBounds_toArray, List.set_cons_zero, List.set_cons_succ]
  obtain ⟨d0, d1, d2, g0⟩ := all3 HBw5.out.2.1
  refine WE.last rfl (by kernel_rfl) (fun K hK => ?_)
  rw [if_pos (by rfl)]
  go_simp
  refine hK _ _ ?_
  clear hK K
  go_wp2_with fail
  refine bodyPost_ret (ret_f Try.results26 _ (w.heap.size + 1) rfl _ _ _ _ (put3 HBw5.out.2.1 _ _ _)) rfl ?_
  exact ⟨rfl, put3_below HBw5.out.1 (by omega) _ _ _⟩
end Go.Proofs.Ytcaefimnhoeimaa
