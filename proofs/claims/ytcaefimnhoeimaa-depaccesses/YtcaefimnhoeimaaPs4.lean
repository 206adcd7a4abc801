/- An instruction is gone by: what the registers are behind it. -/
import Derived.Test.YtcaefimnhoeimaaFb
namespace Go.Proofs.Ytcaefimnhoeimaa
open Go.RowKit
set_option linter.unusedVariables false
set_option linter.unusedSimpArgs false

set_option maxRecDepth 100000 in
set_option maxHeartbeats 4000000 in
theorem pass_4 (fb : Nat) (R : List Fm) (op xa xb xc xk : Int) (ha : 0 ≤ xa ∧ xa < 16) (hb : 0 ≤ xb ∧ xb < 16) (w : World) (h : FB w fb R) : Calls Try.prog 27 #[.pointer (some ⟨fb, 0, none⟩), .agg #[.int .i64 4, .int .i64 op, .int .i64 xa, .int .i64 xb, .int .i64 xc, .int .i64 xk]] w (PaP fb (R.set xa.toNat (oneF op (rgF R xb))) w) := by
  obtain ⟨n, rfl⟩ : ∃ n : Nat, xa = n := ⟨xa.toNat, by omega⟩
  have hn : n < 16 := by omega
  obtain ⟨p, rfl⟩ : ∃ p : Nat, xb = p := ⟨xb.toNat, by omega⟩
  have hp : p < 16 := by omega
  rw [Int.toNat_natCast]
  obtain ⟨g, hg⟩ : ∃ g, rgF R (p : Int) = g := ⟨_, rfl⟩
  have HG : Hid (rgF R (p : Int) = g) := hg
  have HOG : OkF g := by rw [← hg]; exact h.ok.rg _
  rw [hg]
  clear hg
  have HK : Hid (∀ w, Calls Try.prog 44 #[.int .i64 op, fv g] w (FP (oneF op g) w)) := fun w => ofOne_any op g HOG w
  have HO : Hid (OkF (oneF op g)) := okF_one _ _
  generalize oneF op g = f at HK HO ⊢
  obtain ⟨bk, ba, bc⟩ := g
  unfold fv at HK
  clear HOG
  obtain ⟨fk, fa, fc⟩ := f
  have H : Hid (∀ o, FB (w.alloc o) fb R) := fun o => h.alloc o
  have hlt := h.lt
  clear h
  go_enter Try.func27, Try.ntmps27
  go_wp2_with fail
  generalize hW : w.alloc _ = W
  have HW : Hid (FB W fb R) := by show FB _ _ _; rw [← hW]; exact H.out _
  have b1 : W.cell? ⟨w.heap.size, 1, none⟩ = some (.int .i64 op) := by rw [← hW]; exact (cell_of_row _ _ 1 _ _ _ (heap_alloc_new w _)).trans rfl
  have b2 : W.cell? ⟨w.heap.size, 2, none⟩ = some (.int .i64 (n : Int)) := by rw [← hW]; exact (cell_of_row _ _ 2 _ _ _ (heap_alloc_new w _)).trans rfl
  have b3 : W.cell? ⟨w.heap.size, 3, none⟩ = some (.int .i64 (p : Int)) := by rw [← hW]; exact (cell_of_row _ _ 3 _ _ _ (heap_alloc_new w _)).trans rfl
  have HS : Hid (W.heap.size = w.heap.size + 1) := by show _ = _; rw [← hW]; simp
  have HC : Hid (Ch fb w W) := by show Ch _ _ _; rw [← hW]; exact (Ch.refl _ _).alloc _
  clear hW
  obtain ⟨g0, g1, g2⟩ := HW.out.c p hp
  rw [HG.out] at g0 g1 g2
  refine WE.start (fun w' => w'.cell? ⟨w.heap.size, 1, none⟩ = some (.int .i64 op) ∧ w'.cell? ⟨w.heap.size, 2, none⟩ = some (.int .i64 (n : Int)) ∧ w'.cell? ⟨w.heap.size, 3, none⟩ = some (.int .i64 (p : Int)) ∧ w'.cell? ⟨fb, p * 3, none⟩ = some (.bool bk) ∧ w'.cell? ⟨fb, p * 3 + 1, none⟩ = some (.int .i64 ba) ∧ w'.cell? ⟨fb, p * 3 + 2, none⟩ = some (.int .i64 bc)) 14 15 #[false, false, false, false, false, false, false, false, false, false, false, false, false, false, false] rfl rfl (by kernel_rfl) ⟨b1, b2, b3, g0, g1, g2⟩ (fun hS => ?_)
  refine WE.take (i := 0) (v := ?_) rfl (by kernel_rfl) (fun _ _ _ h => h) (Or.inl ⟨by rfl, ?_⟩) hS ?_
  rotate_left
  · intro w1 hSw; obtain ⟨s0, s1, s2, s3, s4, s5⟩ := hSw; go_simp; first | done | rfl
  simp only [Act.put, List.setIfInBounds_toArray, List.set_cons_zero, List.set_cons_succ]
  refine WE.take (i := 1) (v := ?_) rfl (by kernel_rfl) (fun _ _ _ h => h) (Or.inl ⟨by rfl, ?_⟩) hS ?_
  rotate_left
  · intro w1 hSw; obtain ⟨s0, s1, s2, s3, s4, s5⟩ := hSw; go_simp; first | done | rfl
  simp only [Act.put, List.setIfInBounds_toArray, List.set_cons_zero, List.set_cons_succ]
  refine WE.take (i := 2) (v := ?_) rfl (by kernel_rfl) (fun _ _ _ h => h) (Or.inl ⟨by rfl, ?_⟩) hS ?_
  rotate_left
  · intro w1 hSw; obtain ⟨s0, s1, s2, s3, s4, s5⟩ := hSw; go_simp; first | done | rfl
  simp only [Act.put, List.setIfInBounds_toArray, List.set_cons_zero, List.set_cons_succ]
  refine WE.take (i := 3) (v := ?_) rfl (by kernel_rfl) (fun _ _ _ h => h) (Or.inl ⟨by rfl, ?_⟩) hS ?_
  rotate_left
  · intro w1 hSw; obtain ⟨s0, s1, s2, s3, s4, s5⟩ := hSw; go_simp; first | done | rfl
  simp only [Act.put, List.setIfInBounds_toArray, List.set_cons_zero, List.set_cons_succ]
  refine WE.take (i := 4) (v := ?_) rfl (by kernel_rfl) (fun _ _ _ h => h) (Or.inl ⟨by rfl, ?_⟩) hS ?_
  rotate_left
  · intro w1 hSw; obtain ⟨s0, s1, s2, s3, s4, s5⟩ := hSw; go_simp; first | done | rfl
  simp only [Act.put, List.setIfInBounds_toArray, List.set_cons_zero, List.set_cons_succ]
  refine WE.take (i := 5) (v := ?_) rfl (by kernel_rfl) (fun _ _ _ h => h) (Or.inl ⟨by rfl, ?_⟩) hS ?_
  rotate_left
  · intro w1 hSw; obtain ⟨s0, s1, s2, s3, s4, s5⟩ := hSw; go_simp; first | done | rfl
  simp only [Act.put, List.setIfInBounds_toArray, List.set_cons_zero, List.set_cons_succ]
  refine WE.take (i := 6) (v := ?_) rfl (by kernel_rfl) (fun _ _ _ h => h) (Or.inl ⟨by rfl, ?_⟩) hS ?_
  rotate_left
  · intro w1 hSw; obtain ⟨s0, s1, s2, s3, s4, s5⟩ := hSw; go_simp; first | done | rfl
  simp only [Act.put, List.setIfInBounds_toArray, List.set_cons_zero, List.set_cons_succ]
  refine WE.take (i := 7) (v := ?_) rfl (by kernel_rfl) (fun _ _ _ h => h) (Or.inl ⟨by rfl, ?_⟩) hS ?_
  rotate_left
  · intro w1 hSw; obtain ⟨s0, s1, s2, s3, s4, s5⟩ := hSw; go_simp; first | done | rfl
  simp only [Act.put, List.setIfInBounds_toArray, List.set_cons_zero, List.set_cons_succ]
  refine WE.take (i := 8) (v := ?_) rfl (by kernel_rfl) (fun _ _ _ h => h) (Or.inl ⟨by rfl, ?_⟩) hS ?_
  rotate_left
  · intro w1 hSw; obtain ⟨s0, s1, s2, s3, s4, s5⟩ := hSw; go_simp; first | done | rfl
  simp only [Act.put, List.setIfInBounds_toArray, List.set_cons_zero, List.set_cons_succ]
  refine WE.take (i := 9) (v := ?_) rfl (by kernel_rfl) (fun _ _ _ h => h) (Or.inl ⟨by rfl, ?_⟩) hS ?_
  rotate_left
  · intro w1 hSw; obtain ⟨s0, s1, s2, s3, s4, s5⟩ := hSw; go_simp; first | done | rfl
  simp only [Act.put, List.setIfInBounds_toArray, List.set_cons_zero, List.set_cons_succ]
  refine WE.take (i := 10) (v := ?_) rfl (by kernel_rfl) (fun _ _ _ h => h) (Or.inl ⟨by rfl, ?_⟩) hS ?_
  rotate_left
  · intro w1 hSw; obtain ⟨s0, s1, s2, s3, s4, s5⟩ := hSw; go_simp; first | done | rfl
  simp only [Act.put, List.setIfInBounds_toArray, List.set_cons_zero, List.set_cons_succ]
  refine WE.take (i := 12) (v := ?_) rfl (by kernel_rfl) (fun _ _ _ h => h) (Or.inl ⟨by rfl, ?_⟩) hS ?_
  rotate_left
  · intro w1 hSw; obtain ⟨s0, s1, s2, s3, s4, s5⟩ := hSw; go_simp; first | done | rfl
  simp only [Act.put, List.setIfInBounds_toArray, List.set_cons_zero, List.set_cons_succ]
  refine WE.step (i := 11) rfl (by kernel_rfl) (fun K hK => ?_)
  rw [if_pos (by rfl)]
  go_simp
  refine (HK.out _).mono ?_
  rintro e w9 ⟨rfl, hb9⟩
  have HF9 : Hid (FB w9 fb R) := HW.out.drew.below hb9
  have HC9 : Hid (Ch fb w w9) := (HC.out.drew).trans (Ch.of hb9)
  have hS9 : (fun w' => w'.cell? ⟨w.heap.size, 1, none⟩ = some (.int .i64 op) ∧ w'.cell? ⟨w.heap.size, 2, none⟩ = some (.int .i64 (n : Int)) ∧ w'.cell? ⟨w.heap.size, 3, none⟩ = some (.int .i64 (p : Int)) ∧ w'.cell? ⟨fb, p * 3, none⟩ = some (.bool bk) ∧ w'.cell? ⟨fb, p * 3 + 1, none⟩ = some (.int .i64 ba) ∧ w'.cell? ⟨fb, p * 3 + 2, none⟩ = some (.int .i64 bc)) w9 := by
    have hz := HS.out
    have bc : ∀ p v, W.drew.cell? p = some v → w9.cell? p = some v := fun p v hp => (hb9.cell (p := p) (World.block_lt_of_cell? _ _ hp)).trans hp
    obtain ⟨s0, s1, s2, s3, s4, s5⟩ := hS
    exact ⟨bc _ _ s0, bc _ _ s1, bc _ _ s2, bc _ _ s3, bc _ _ s4, bc _ _ s5⟩
  refine hK _ _ hS9 ?_
  clear hK K hS hb9
  have hS := hS9
  clear hS9
  unfold fv
  simp only [Act.put, List.setIfInBounds_toArray, List.set_cons_zero, List.set_cons_succ]
  obtain ⟨y0, y1, y2⟩ := HF9.out.c n hn
  have yf := HF9.out.frz
  refine WE.take (i := 13) (v := ?_) rfl (by kernel_rfl) (fun _ _ _ h => h) (Or.inl ⟨by rfl, ?_⟩) hS ?_
  rotate_left
  · intro w1 hSw; obtain ⟨s0, s1, s2, s3, s4, s5⟩ := hSw; go_simp; first | done | rfl
  simp only [Act.put, List.setIfInBounds_toArray, List.set_cons_zero, List.set_cons_succ]
  refine WE.last rfl (by kernel_rfl) (fun K hK => ?_)
  rw [if_pos (by rfl)]
  go_simp
  refine hK _ _ ?_
  clear hK K
  go_wp2_with fail
  go_end0
  exact ⟨rfl, HF9.out.put n ⟨fk, fa, fc⟩ HO.out, HC9.out.put n _ _ _⟩
end Go.Proofs.Ytcaefimnhoeimaa
