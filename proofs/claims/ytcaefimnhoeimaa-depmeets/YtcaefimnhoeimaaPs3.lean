/- An instruction is gone by: what the registers are behind it. -/
import Derived.Test.YtcaefimnhoeimaaFb
namespace Go.Proofs.Ytcaefimnhoeimaa
open Go.RowKit
set_option linter.unusedVariables false
set_option linter.unusedSimpArgs false

set_option maxRecDepth 100000 in
set_option maxHeartbeats 4000000 in
theorem pass_3 (fb : Nat) (R : List Fm) (op xa xb xc xk : Int) (ha : 0 ≤ xa ∧ xa < 16) (hb : 0 ≤ xb ∧ xb < 16) (w : World) (h : FB w fb R) : Calls Try.prog 27 #[.pointer (some ⟨fb, 0, none⟩), .agg #[.int .i64 3, .int .i64 op, .int .i64 xa, .int .i64 xb, .int .i64 xc, .int .i64 xk]] w (PaP fb (R.set xa.toNat (rgF R xb)) w) := by
  obtain ⟨n, rfl⟩ : ∃ n : Nat, xa = n := ⟨xa.toNat, by omega⟩
  have hn : n < 16 := by omega
  obtain ⟨p, rfl⟩ : ∃ p : Nat, xb = p := ⟨xb.toNat, by omega⟩
  have hp : p < 16 := by omega
  rw [Int.toNat_natCast]
  have HO : Hid (OkF (rgF R (p : Int))) := h.ok.rg _
  obtain ⟨g, hg⟩ : ∃ g, rgF R (p : Int) = g := ⟨_, rfl⟩
  have HG : Hid (rgF R (p : Int) = g) := hg
  rw [hg] at HO ⊢
  clear hg
  obtain ⟨bk, ba, bc⟩ := g
  have H : Hid (∀ o, FB (w.alloc o) fb R) := fun o => h.alloc o
  have hlt := h.lt
  clear h
  go_enter Try.func27, Try.ntmps27
  go_wp2_with fail
  generalize hW : w.alloc _ = W
  have HW : Hid (FB W fb R) := by show FB _ _ _; rw [← hW]; exact H.out _
  have b2 : W.cell? ⟨w.heap.size, 2, none⟩ = some (.int .i64 (n : Int)) := by rw [← hW]; exact (cell_of_row _ _ 2 _ _ _ (heap_alloc_new w _)).trans rfl
  have b3 : W.cell? ⟨w.heap.size, 3, none⟩ = some (.int .i64 (p : Int)) := by rw [← hW]; exact (cell_of_row _ _ 3 _ _ _ (heap_alloc_new w _)).trans rfl
  have HS : Hid (W.heap.size = w.heap.size + 1) := by show _ = _; rw [← hW]; simp
  have HC : Hid (Ch fb w W) := by show Ch _ _ _; rw [← hW]; exact (Ch.refl _ _).alloc _
  clear hW
  obtain ⟨g0, g1, g2⟩ := HW.out.c p hp
  rw [HG.out] at g0 g1 g2
  refine WE.start (fun w' => w'.cell? ⟨w.heap.size, 2, none⟩ = some (.int .i64 (n : Int)) ∧ w'.cell? ⟨w.heap.size, 3, none⟩ = some (.int .i64 (p : Int)) ∧ w'.cell? ⟨fb, p * 3, none⟩ = some (.bool bk) ∧ w'.cell? ⟨fb, p * 3 + 1, none⟩ = some (.int .i64 ba) ∧ w'.cell? ⟨fb, p * 3 + 2, none⟩ = some (.int .i64 bc)) 11 12 #[false, false, false, false, false, false, false, false, false, false, false, false] rfl rfl (by kernel_rfl) ⟨b2, b3, g0, g1, g2⟩ (fun hS => ?_)
  refine WE.take (i := 0) (v := ?_) rfl (by kernel_rfl) (fun _ _ _ h => h) (Or.inl ⟨by rfl, ?_⟩) hS ?_
  rotate_left
  · intro w1 hSw; obtain ⟨s0, s1, s2, s3, s4⟩ := hSw; go_simp; first | done | rfl
  simp only [Act.put, List.setIfInBounds_toArray, List.set_cons_zero, List.set_cons_succ]
  refine WE.take (i := 1) (v := ?_) rfl (by kernel_rfl) (fun _ _ _ h => h) (Or.inl ⟨by rfl, ?_⟩) hS ?_
  rotate_left
  · intro w1 hSw; obtain ⟨s0, s1, s2, s3, s4⟩ := hSw; go_simp; first | done | rfl
  simp only [Act.put, List.setIfInBounds_toArray, List.set_cons_zero, List.set_cons_succ]
  refine WE.take (i := 2) (v := ?_) rfl (by kernel_rfl) (fun _ _ _ h => h) (Or.inl ⟨by rfl, ?_⟩) hS ?_
  rotate_left
  · intro w1 hSw; obtain ⟨s0, s1, s2, s3, s4⟩ := hSw; go_simp; first | done | rfl
  simp only [Act.put, List.setIfInBounds_toArray, List.set_cons_zero, List.set_cons_succ]
  refine WE.take (i := 3) (v := ?_) rfl (by kernel_rfl) (fun _ _ _ h => h) (Or.inl ⟨by rfl, ?_⟩) hS ?_
  rotate_left
  · intro w1 hSw; obtain ⟨s0, s1, s2, s3, s4⟩ := hSw; go_simp; first | done | rfl
  simp only [Act.put, List.setIfInBounds_toArray, List.set_cons_zero, List.set_cons_succ]
  refine WE.take (i := 4) (v := ?_) rfl (by kernel_rfl) (fun _ _ _ h => h) (Or.inl ⟨by rfl, ?_⟩) hS ?_
  rotate_left
  · intro w1 hSw; obtain ⟨s0, s1, s2, s3, s4⟩ := hSw; go_simp; first | done | rfl
  simp only [Act.put, List.setIfInBounds_toArray, List.set_cons_zero, List.set_cons_succ]
  refine WE.take (i := 5) (v := ?_) rfl (by kernel_rfl) (fun _ _ _ h => h) (Or.inl ⟨by rfl, ?_⟩) hS ?_
  rotate_left
  · intro w1 hSw; obtain ⟨s0, s1, s2, s3, s4⟩ := hSw; go_simp; first | done | rfl
  simp only [Act.put, List.setIfInBounds_toArray, List.set_cons_zero, List.set_cons_succ]
  refine WE.take (i := 6) (v := ?_) rfl (by kernel_rfl) (fun _ _ _ h => h) (Or.inl ⟨by rfl, ?_⟩) hS ?_
  rotate_left
  · intro w1 hSw; obtain ⟨s0, s1, s2, s3, s4⟩ := hSw; go_simp; first | done | rfl
  simp only [Act.put, List.setIfInBounds_toArray, List.set_cons_zero, List.set_cons_succ]
  refine WE.take (i := 7) (v := ?_) rfl (by kernel_rfl) (fun _ _ _ h => h) (Or.inl ⟨by rfl, ?_⟩) hS ?_
  rotate_left
  · intro w1 hSw; obtain ⟨s0, s1, s2, s3, s4⟩ := hSw; go_simp; first | done | rfl
  simp only [Act.put, List.setIfInBounds_toArray, List.set_cons_zero, List.set_cons_succ]
  refine WE.take (i := 8) (v := ?_) rfl (by kernel_rfl) (fun _ _ _ h => h) (Or.inl ⟨by rfl, ?_⟩) hS ?_
  rotate_left
  · intro w1 hSw; obtain ⟨s0, s1, s2, s3, s4⟩ := hSw; go_simp; first | done | rfl
  simp only [Act.put, List.setIfInBounds_toArray, List.set_cons_zero, List.set_cons_succ]
  refine WE.take (i := 9) (v := ?_) rfl (by kernel_rfl) (fun _ _ _ h => h) (Or.inl ⟨by rfl, ?_⟩) hS ?_
  rotate_left
  · intro w1 hSw; obtain ⟨s0, s1, s2, s3, s4⟩ := hSw; go_simp; first | done | rfl
  simp only [Act.put, List.setIfInBounds_toArray, List.set_cons_zero, List.set_cons_succ]
  refine WE.take (i := 10) (v := ?_) rfl (by kernel_rfl) (fun _ _ _ h => h) (Or.inl ⟨by rfl, ?_⟩) hS ?_
  rotate_left
  · intro w1 hSw; obtain ⟨s0, s1, s2, s3, s4⟩ := hSw; go_simp; first | done | rfl
  simp only [Act.put, List.setIfInBounds_toArray, List.set_cons_zero, List.set_cons_succ]
  have HF9 : Hid (FB W.drew fb R) := HW.out.drew
  have HC9 : Hid (Ch fb w W.drew) := HC.out.drew
  obtain ⟨y0, y1, y2⟩ := HW.out.c n hn
  have yf := HW.out.frz
  refine WE.last rfl (by kernel_rfl) (fun K hK => ?_)
  rw [if_pos (by rfl)]
  go_simp
  refine hK _ _ ?_
  clear hK K
  go_wp2_with fail
  go_end0
  exact ⟨rfl, HF9.out.put n ⟨bk, ba, bc⟩ HO.out, HC9.out.put n _ _ _⟩
end Go.Proofs.Ytcaefimnhoeimaa
