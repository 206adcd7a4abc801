/- May one go on behind an instruction? -/
import Derived.Test.YtcaefimnhoeimaaFb
namespace Go.Proofs.Ytcaefimnhoeimaa
open Go.RowKit
set_option linter.unusedVariables false
set_option linter.unusedSimpArgs false
theorem below_drew {B : Nat} {w W : World} (h : Below B w W) : Below B w W.drew := ⟨h.os, h.tape, h.output, h.size, h.block⟩

set_option maxRecDepth 100000 in
set_option maxHeartbeats 4000000 in
theorem goes_0 (fb : Nat) (R : List Fm) (op xa xb xc xk : Int) (hc : 0 ≤ xc ∧ xc < 16) (ho : ¬ (op = 4 ∨ op = 5)) (w : World) (h : FB w fb R) : Calls Try.prog 25 #[.pointer (some ⟨fb, 0, none⟩), .agg #[.int .i64 5, .int .i64 op, .int .i64 xa, .int .i64 xb, .int .i64 xc, .int .i64 xk]] w fun e w' => e = .returned (.bool true) ∧ Below w.heap.size w w' := by
  obtain ⟨q, rfl⟩ : ∃ q : Nat, xc = q := ⟨xc.toNat, by omega⟩
  have hq : q < 16 := by omega
  have HD : Hid (∀ w, Calls Try.prog 41 #[.int .i64 op] w fun e w' => e = .returned (.bool false) ∧ w' = w) := fun w => by
    have := divides_any op w
    rw [show decide (op = 4 ∨ op = 5) = false by simpa using ho] at this
    exact this
  clear ho
  obtain ⟨e, he⟩ : ∃ e, rgF R (q : Int) = e := ⟨_, rfl⟩
  have HE : Hid (rgF R (q : Int) = e) := he
  clear he
  obtain ⟨ck, ca, cc⟩ := e
  have H : Hid (∀ o, FB (w.alloc o) fb R) := fun o => h.alloc o
  have hlt := h.lt
  clear h
  go_enter Try.func25, Try.ntmps25
  go_wp2_with fail
  generalize hW : w.alloc _ = W
  have HW : Hid (FB W fb R) := by show FB _ _ _; rw [← hW]; exact H.out _
  have b1 : W.cell? ⟨w.heap.size, 1, none⟩ = some (.int .i64 op) := by rw [← hW]; exact (cell_of_row _ _ 1 _ _ _ (heap_alloc_new w _)).trans rfl
  have b4 : W.cell? ⟨w.heap.size, 4, none⟩ = some (.int .i64 (q : Int)) := by rw [← hW]; exact (cell_of_row _ _ 4 _ _ _ (heap_alloc_new w _)).trans rfl
  have HB : Hid (Below w.heap.size w W) := by show Below _ _ _; rw [← hW]; exact bl1 _ _
  clear hW
  obtain ⟨e0, e1, e2⟩ := HW.out.c q hq
  rw [HE.out] at e0 e1 e2
  refine WE.start (fun w' => w'.cell? ⟨w.heap.size, 1, none⟩ = some (.int .i64 op) ∧ w'.cell? ⟨w.heap.size, 4, none⟩ = some (.int .i64 (q : Int)) ∧ w'.cell? ⟨fb, q * 3, none⟩ = some (.bool ck) ∧ w'.cell? ⟨fb, q * 3 + 1, none⟩ = some (.int .i64 ca) ∧ w'.cell? ⟨fb, q * 3 + 2, none⟩ = some (.int .i64 cc)) 23 24 #[false, false, false, false, false, false, false, false, false, false, false, false, false, false, false, false, false, false, false, false, false, false, false, false] rfl rfl (by kernel_rfl) ⟨b1, b4, e0, e1, e2⟩ (fun hS => ?_)
  refine WE.take (i := 0) (v := ?_) rfl (by kernel_rfl) (fun _ _ _ h => h) (Or.inl ⟨by rfl, ?_⟩) hS ?_
  rotate_left
  · intro w1 hSw; obtain ⟨s0, s1, s2, s3, s4⟩ := hSw; go_simp; first | done | rfl
  try simp only [List.getElem_toArray, List.getElem_cons_zero, List.getElem_cons_succ, Act.put, List.setIfInBounds_toArray, List.set_cons_zero, List.set_cons_succ]
  refine WE.take (i := 1) (v := ?_) rfl (by kernel_rfl) (fun _ _ _ h => h) (Or.inl ⟨by rfl, ?_⟩) hS ?_
  rotate_left
  · intro w1 hSw; obtain ⟨s0, s1, s2, s3, s4⟩ := hSw; go_simp; first | done | rfl
  try simp only [List.getElem_toArray, List.getElem_cons_zero, List.getElem_cons_succ, Act.put, List.setIfInBounds_toArray, List.set_cons_zero, List.set_cons_succ]
  refine WE.step (i := 2) rfl (by kernel_rfl) (fun K hK => ?_)
  rw [if_pos (by rfl)]
  go_simp
  refine (HD.out _).mono ?_
  rintro e w4 ⟨rfl, hw4⟩; rw [hw4]; clear hw4 w4
  refine hK _ _ hS ?_
  clear hK K
  try simp only [List.getElem_toArray, List.getElem_cons_zero, List.getElem_cons_succ, Act.put, List.setIfInBounds_toArray, List.set_cons_zero, List.set_cons_succ]
  refine WE.take (i := 3) (v := ?_) rfl (by kernel_rfl) (fun _ _ _ h => h) (Or.inl ⟨by rfl, ?_⟩) hS ?_
  rotate_left
  · intro w1 hSw; obtain ⟨s0, s1, s2, s3, s4⟩ := hSw; go_simp; first | done | rfl
  try simp only [List.getElem_toArray, List.getElem_cons_zero, List.getElem_cons_succ, Act.put, List.setIfInBounds_toArray, List.set_cons_zero, List.set_cons_succ]
  refine WE.take (i := 4) (v := ?_) rfl (by kernel_rfl) (fun _ _ _ h => h) (Or.inl ⟨by rfl, ?_⟩) hS ?_
  rotate_left
  · intro w1 hSw; obtain ⟨s0, s1, s2, s3, s4⟩ := hSw; go_simp; first | done | rfl
  try simp only [List.getElem_toArray, List.getElem_cons_zero, List.getElem_cons_succ, Act.put, List.setIfInBounds_toArray, List.set_cons_zero, List.set_cons_succ]
  refine WE.take (i := 5) (v := undef) rfl (by kernel_rfl) (fun _ _ _ h => h) (Or.inr ⟨by rfl, rfl⟩) hS ?_
  try simp only [List.getElem_toArray, List.getElem_cons_zero, List.getElem_cons_succ, Act.put, List.setIfInBounds_toArray, List.set_cons_zero, List.set_cons_succ]
  refine WE.take (i := 6) (v := undef) rfl (by kernel_rfl) (fun _ _ _ h => h) (Or.inr ⟨by rfl, rfl⟩) hS ?_
  try simp only [List.getElem_toArray, List.getElem_cons_zero, List.getElem_cons_succ, Act.put, List.setIfInBounds_toArray, List.set_cons_zero, List.set_cons_succ]
  refine WE.take (i := 7) (v := undef) rfl (by kernel_rfl) (fun _ _ _ h => h) (Or.inr ⟨by rfl, rfl⟩) hS ?_
  try simp only [List.getElem_toArray, List.getElem_cons_zero, List.getElem_cons_succ, Act.put, List.setIfInBounds_toArray, List.set_cons_zero, List.set_cons_succ]
  refine WE.take (i := 8) (v := undef) rfl (by kernel_rfl) (fun _ _ _ h => h) (Or.inr ⟨by rfl, rfl⟩) hS ?_
  try simp only [List.getElem_toArray, List.getElem_cons_zero, List.getElem_cons_succ, Act.put, List.setIfInBounds_toArray, List.set_cons_zero, List.set_cons_succ]
  refine WE.take (i := 9) (v := undef) rfl (by kernel_rfl) (fun _ _ _ h => h) (Or.inr ⟨by rfl, rfl⟩) hS ?_
  try simp only [List.getElem_toArray, List.getElem_cons_zero, List.getElem_cons_succ, Act.put, List.setIfInBounds_toArray, List.set_cons_zero, List.set_cons_succ]
  refine WE.take (i := 10) (v := undef) rfl (by kernel_rfl) (fun _ _ _ h => h) (Or.inr ⟨by rfl, rfl⟩) hS ?_
  try simp only [List.getElem_toArray, List.getElem_cons_zero, List.getElem_cons_succ, Act.put, List.setIfInBounds_toArray, List.set_cons_zero, List.set_cons_succ]
  refine WE.take (i := 11) (v := undef) rfl (by kernel_rfl) (fun _ _ _ h => h) (Or.inr ⟨by rfl, rfl⟩) hS ?_
  try simp only [List.getElem_toArray, List.getElem_cons_zero, List.getElem_cons_succ, Act.put, List.setIfInBounds_toArray, List.set_cons_zero, List.set_cons_succ]
  refine WE.take (i := 12) (v := undef) rfl (by kernel_rfl) (fun _ _ _ h => h) (Or.inr ⟨by rfl, rfl⟩) hS ?_
  try simp only [List.getElem_toArray, List.getElem_cons_zero, List.getElem_cons_succ, Act.put, List.setIfInBounds_toArray, List.set_cons_zero, List.set_cons_succ]
  refine WE.take (i := 13) (v := undef) rfl (by kernel_rfl) (fun _ _ _ h => h) (Or.inr ⟨by rfl, rfl⟩) hS ?_
  try simp only [List.getElem_toArray, List.getElem_cons_zero, List.getElem_cons_succ, Act.put, List.setIfInBounds_toArray, List.set_cons_zero, List.set_cons_succ]
  refine WE.take (i := 14) (v := undef) rfl (by kernel_rfl) (fun _ _ _ h => h) (Or.inr ⟨by rfl, rfl⟩) hS ?_
  try simp only [List.getElem_toArray, List.getElem_cons_zero, List.getElem_cons_succ, Act.put, List.setIfInBounds_toArray, List.set_cons_zero, List.set_cons_succ]
  refine WE.take (i := 15) (v := undef) rfl (by kernel_rfl) (fun _ _ _ h => h) (Or.inr ⟨by rfl, rfl⟩) hS ?_
  try simp only [List.getElem_toArray, List.getElem_cons_zero, List.getElem_cons_succ, Act.put, List.setIfInBounds_toArray, List.set_cons_zero, List.set_cons_succ]
  refine WE.take (i := 16) (v := undef) rfl (by kernel_rfl) (fun _ _ _ h => h) (Or.inr ⟨by rfl, rfl⟩) hS ?_
  try simp only [List.getElem_toArray, List.getElem_cons_zero, List.getElem_cons_succ, Act.put, List.setIfInBounds_toArray, List.set_cons_zero, List.set_cons_succ]
  refine WE.take (i := 17) (v := undef) rfl (by kernel_rfl) (fun _ _ _ h => h) (Or.inr ⟨by rfl, rfl⟩) hS ?_
  try simp only [List.getElem_toArray, List.getElem_cons_zero, List.getElem_cons_succ, Act.put, List.setIfInBounds_toArray, List.set_cons_zero, List.set_cons_succ]
  refine WE.take (i := 18) (v := undef) rfl (by kernel_rfl) (fun _ _ _ h => h) (Or.inr ⟨by rfl, rfl⟩) hS ?_
  try simp only [List.getElem_toArray, List.getElem_cons_zero, List.getElem_cons_succ, Act.put, List.setIfInBounds_toArray, List.set_cons_zero, List.set_cons_succ]
  refine WE.take (i := 19) (v := undef) rfl (by kernel_rfl) (fun _ _ _ h => h) (Or.inr ⟨by rfl, rfl⟩) hS ?_
  try simp only [List.getElem_toArray, List.getElem_cons_zero, List.getElem_cons_succ, Act.put, List.setIfInBounds_toArray, List.set_cons_zero, List.set_cons_succ]
  refine WE.take (i := 20) (v := undef) rfl (by kernel_rfl) (fun _ _ _ h => h) (Or.inr ⟨by rfl, rfl⟩) hS ?_
  try simp only [List.getElem_toArray, List.getElem_cons_zero, List.getElem_cons_succ, Act.put, List.setIfInBounds_toArray, List.set_cons_zero, List.set_cons_succ]
  refine WE.take (i := 21) (v := undef) rfl (by kernel_rfl) (fun _ _ _ h => h) (Or.inr ⟨by rfl, rfl⟩) hS ?_
  try simp only [List.getElem_toArray, List.getElem_cons_zero, List.getElem_cons_succ, Act.put, List.setIfInBounds_toArray, List.set_cons_zero, List.set_cons_succ]
  refine WE.take (i := 22) (v := ?_) rfl (by kernel_rfl) (fun _ _ _ h => h) (Or.inl ⟨by rfl, ?_⟩) hS ?_
  rotate_left
  · intro w1 hSw; obtain ⟨s0, s1, s2, s3, s4⟩ := hSw; go_simp; first | done | rfl
  try simp only [List.getElem_toArray, List.getElem_cons_zero, List.getElem_cons_succ, Act.put, List.setIfInBounds_toArray, List.set_cons_zero, List.set_cons_succ]
  refine WE.last rfl (by kernel_rfl) (fun K hK => ?_)
  rw [if_pos (by rfl)]
  go_simp
  refine hK _ _ ?_
  clear hK K
  go_wp2_with fail
  go_ret
  exact ⟨rfl, below_drew HB.out⟩

set_option maxRecDepth 100000 in
set_option maxHeartbeats 4000000 in
theorem goes_1 (fb : Nat) (R : List Fm) (op xa xb xc xk : Int) (hc : 0 ≤ xc ∧ xc < 16) (ho : op = 4 ∨ op = 5) (hn : isNumB (rgF R xc) = false) (w : World) (h : FB w fb R) : Calls Try.prog 25 #[.pointer (some ⟨fb, 0, none⟩), .agg #[.int .i64 5, .int .i64 op, .int .i64 xa, .int .i64 xb, .int .i64 xc, .int .i64 xk]] w fun e w' => e = .returned (.bool false) ∧ Below w.heap.size w w' := by
  obtain ⟨q, rfl⟩ : ∃ q : Nat, xc = q := ⟨xc.toNat, by omega⟩
  have hq : q < 16 := by omega
  have HD : Hid (∀ w, Calls Try.prog 41 #[.int .i64 op] w fun e w' => e = .returned (.bool true) ∧ w' = w) := fun w => by
    have := divides_any op w
    rw [show decide (op = 4 ∨ op = 5) = true by simpa using ho] at this
    exact this
  clear ho
  obtain ⟨e, he⟩ : ∃ e, rgF R (q : Int) = e := ⟨_, rfl⟩
  have HE : Hid (rgF R (q : Int) = e) := he
  rw [he] at hn 
  have HN : Hid (∀ w, Calls Try.prog 42 #[fv e] w fun e w' => e = .returned (.bool false) ∧ Below w.heap.size w w') := fun w => by
    have := isNumber_any e w
    rw [hn] at this
    exact this
  clear hn
  clear he
  obtain ⟨ck, ca, cc⟩ := e
  unfold fv at HN
  have H : Hid (∀ o, FB (w.alloc o) fb R) := fun o => h.alloc o
  have hlt := h.lt
  clear h
  go_enter Try.func25, Try.ntmps25
  go_wp2_with fail
  generalize hW : w.alloc _ = W
  have HW : Hid (FB W fb R) := by show FB _ _ _; rw [← hW]; exact H.out _
  have b1 : W.cell? ⟨w.heap.size, 1, none⟩ = some (.int .i64 op) := by rw [← hW]; exact (cell_of_row _ _ 1 _ _ _ (heap_alloc_new w _)).trans rfl
  have b4 : W.cell? ⟨w.heap.size, 4, none⟩ = some (.int .i64 (q : Int)) := by rw [← hW]; exact (cell_of_row _ _ 4 _ _ _ (heap_alloc_new w _)).trans rfl
  have HB : Hid (Below w.heap.size w W) := by show Below _ _ _; rw [← hW]; exact bl1 _ _
  clear hW
  obtain ⟨e0, e1, e2⟩ := HW.out.c q hq
  rw [HE.out] at e0 e1 e2
  refine WE.start (fun w' => w'.cell? ⟨w.heap.size, 1, none⟩ = some (.int .i64 op) ∧ w'.cell? ⟨w.heap.size, 4, none⟩ = some (.int .i64 (q : Int)) ∧ w'.cell? ⟨fb, q * 3, none⟩ = some (.bool ck) ∧ w'.cell? ⟨fb, q * 3 + 1, none⟩ = some (.int .i64 ca) ∧ w'.cell? ⟨fb, q * 3 + 2, none⟩ = some (.int .i64 cc)) 23 24 #[false, false, false, false, false, false, false, false, false, false, false, false, false, false, false, false, false, false, false, false, false, false, false, false] rfl rfl (by kernel_rfl) ⟨b1, b4, e0, e1, e2⟩ (fun hS => ?_)
  refine WE.take (i := 0) (v := ?_) rfl (by kernel_rfl) (fun _ _ _ h => h) (Or.inl ⟨by rfl, ?_⟩) hS ?_
  rotate_left
  · intro w1 hSw; obtain ⟨s0, s1, s2, s3, s4⟩ := hSw; go_simp; first | done | rfl
  try simp only [List.getElem_toArray, List.getElem_cons_zero, List.getElem_cons_succ, Act.put, List.setIfInBounds_toArray, List.set_cons_zero, List.set_cons_succ]
  refine WE.take (i := 1) (v := ?_) rfl (by kernel_rfl) (fun _ _ _ h => h) (Or.inl ⟨by rfl, ?_⟩) hS ?_
  rotate_left
  · intro w1 hSw; obtain ⟨s0, s1, s2, s3, s4⟩ := hSw; go_simp; first | done | rfl
  try simp only [List.getElem_toArray, List.getElem_cons_zero, List.getElem_cons_succ, Act.put, List.setIfInBounds_toArray, List.set_cons_zero, List.set_cons_succ]
  refine WE.step (i := 2) rfl (by kernel_rfl) (fun K hK => ?_)
  rw [if_pos (by rfl)]
  go_simp
  refine (HD.out _).mono ?_
  rintro e w4 ⟨rfl, hw4⟩; rw [hw4]; clear hw4 w4
  refine hK _ _ hS ?_
  clear hK K
  try simp only [List.getElem_toArray, List.getElem_cons_zero, List.getElem_cons_succ, Act.put, List.setIfInBounds_toArray, List.set_cons_zero, List.set_cons_succ]
  refine WE.take (i := 3) (v := ?_) rfl (by kernel_rfl) (fun _ _ _ h => h) (Or.inl ⟨by rfl, ?_⟩) hS ?_
  rotate_left
  · intro w1 hSw; obtain ⟨s0, s1, s2, s3, s4⟩ := hSw; go_simp; first | done | rfl
  try simp only [List.getElem_toArray, List.getElem_cons_zero, List.getElem_cons_succ, Act.put, List.setIfInBounds_toArray, List.set_cons_zero, List.set_cons_succ]
  refine WE.take (i := 4) (v := ?_) rfl (by kernel_rfl) (fun _ _ _ h => h) (Or.inl ⟨by rfl, ?_⟩) hS ?_
  rotate_left
  · intro w1 hSw; obtain ⟨s0, s1, s2, s3, s4⟩ := hSw; go_simp; first | done | rfl
  try simp only [List.getElem_toArray, List.getElem_cons_zero, List.getElem_cons_succ, Act.put, List.setIfInBounds_toArray, List.set_cons_zero, List.set_cons_succ]
  refine WE.take (i := 5) (v := ?_) rfl (by kernel_rfl) (fun _ _ _ h => h) (Or.inl ⟨by rfl, ?_⟩) hS ?_
  rotate_left
  · intro w1 hSw; obtain ⟨s0, s1, s2, s3, s4⟩ := hSw; go_simp; first | done | rfl
  try simp only [List.getElem_toArray, List.getElem_cons_zero, List.getElem_cons_succ, Act.put, List.setIfInBounds_toArray, List.set_cons_zero, List.set_cons_succ]
  refine WE.take (i := 6) (v := ?_) rfl (by kernel_rfl) (fun _ _ _ h => h) (Or.inl ⟨by rfl, ?_⟩) hS ?_
  rotate_left
  · intro w1 hSw; obtain ⟨s0, s1, s2, s3, s4⟩ := hSw; go_simp; first | done | rfl
  try simp only [List.getElem_toArray, List.getElem_cons_zero, List.getElem_cons_succ, Act.put, List.setIfInBounds_toArray, List.set_cons_zero, List.set_cons_succ]
  refine WE.take (i := 7) (v := ?_) rfl (by kernel_rfl) (fun _ _ _ h => h) (Or.inl ⟨by rfl, ?_⟩) hS ?_
  rotate_left
  · intro w1 hSw; obtain ⟨s0, s1, s2, s3, s4⟩ := hSw; go_simp; first | done | rfl
  try simp only [List.getElem_toArray, List.getElem_cons_zero, List.getElem_cons_succ, Act.put, List.setIfInBounds_toArray, List.set_cons_zero, List.set_cons_succ]
  refine WE.take (i := 8) (v := ?_) rfl (by kernel_rfl) (fun _ _ _ h => h) (Or.inl ⟨by rfl, ?_⟩) hS ?_
  rotate_left
  · intro w1 hSw; obtain ⟨s0, s1, s2, s3, s4⟩ := hSw; go_simp; first | done | rfl
  try simp only [List.getElem_toArray, List.getElem_cons_zero, List.getElem_cons_succ, Act.put, List.setIfInBounds_toArray, List.set_cons_zero, List.set_cons_succ]
  refine WE.take (i := 9) (v := ?_) rfl (by kernel_rfl) (fun _ _ _ h => h) (Or.inl ⟨by rfl, ?_⟩) hS ?_
  rotate_left
  · intro w1 hSw; obtain ⟨s0, s1, s2, s3, s4⟩ := hSw; go_simp; first | done | rfl
  try simp only [List.getElem_toArray, List.getElem_cons_zero, List.getElem_cons_succ, Act.put, List.setIfInBounds_toArray, List.set_cons_zero, List.set_cons_succ]
  refine WE.take (i := 10) (v := ?_) rfl (by kernel_rfl) (fun _ _ _ h => h) (Or.inl ⟨by rfl, ?_⟩) hS ?_
  rotate_left
  · intro w1 hSw; obtain ⟨s0, s1, s2, s3, s4⟩ := hSw; go_simp; first | done | rfl
  try simp only [List.getElem_toArray, List.getElem_cons_zero, List.getElem_cons_succ, Act.put, List.setIfInBounds_toArray, List.set_cons_zero, List.set_cons_succ]
  refine WE.step (i := 11) rfl (by kernel_rfl) (fun K hK => ?_)
  rw [if_pos (by rfl)]
  go_simp
  refine (HN.out _).mono ?_
  rintro e w9 ⟨rfl, hb9⟩
  have HB9 : Hid (Below w.heap.size w w9) := (below_drew HB.out).trans (hb9.mono HB.out.size)
  have hS9 : (fun w' => w'.cell? ⟨w.heap.size, 1, none⟩ = some (.int .i64 op) ∧ w'.cell? ⟨w.heap.size, 4, none⟩ = some (.int .i64 (q : Int)) ∧ w'.cell? ⟨fb, q * 3, none⟩ = some (.bool ck) ∧ w'.cell? ⟨fb, q * 3 + 1, none⟩ = some (.int .i64 ca) ∧ w'.cell? ⟨fb, q * 3 + 2, none⟩ = some (.int .i64 cc)) w9 := by
    have bc : ∀ p v, W.drew.cell? p = some v → w9.cell? p = some v := fun p v hp => (hb9.cell (p := p) (World.block_lt_of_cell? _ _ hp)).trans hp
    obtain ⟨s0, s1, s2, s3, s4⟩ := hS
    exact ⟨bc _ _ s0, bc _ _ s1, bc _ _ s2, bc _ _ s3, bc _ _ s4⟩
  refine hK _ _ hS9 ?_
  clear hK K hS hb9
  have hS := hS9
  clear hS9
  try simp only [List.getElem_toArray, List.getElem_cons_zero, List.getElem_cons_succ, Act.put, List.setIfInBounds_toArray, List.set_cons_zero, List.set_cons_succ]
  refine WE.take (i := 12) (v := ?_) rfl (by kernel_rfl) (fun _ _ _ h => h) (Or.inl ⟨by rfl, ?_⟩) hS ?_
  rotate_left
  · intro w1 hSw; obtain ⟨s0, s1, s2, s3, s4⟩ := hSw; go_simp; first | done | rfl
  try simp only [List.getElem_toArray, List.getElem_cons_zero, List.getElem_cons_succ, Act.put, List.setIfInBounds_toArray, List.set_cons_zero, List.set_cons_succ]
  refine WE.take (i := 13) (v := undef) rfl (by kernel_rfl) (fun _ _ _ h => h) (Or.inr ⟨by rfl, rfl⟩) hS ?_
  try simp only [List.getElem_toArray, List.getElem_cons_zero, List.getElem_cons_succ, Act.put, List.setIfInBounds_toArray, List.set_cons_zero, List.set_cons_succ]
  refine WE.take (i := 14) (v := undef) rfl (by kernel_rfl) (fun _ _ _ h => h) (Or.inr ⟨by rfl, rfl⟩) hS ?_
  try simp only [List.getElem_toArray, List.getElem_cons_zero, List.getElem_cons_succ, Act.put, List.setIfInBounds_toArray, List.set_cons_zero, List.set_cons_succ]
  refine WE.take (i := 15) (v := undef) rfl (by kernel_rfl) (fun _ _ _ h => h) (Or.inr ⟨by rfl, rfl⟩) hS ?_
  try simp only [List.getElem_toArray, List.getElem_cons_zero, List.getElem_cons_succ, Act.put, List.setIfInBounds_toArray, List.set_cons_zero, List.set_cons_succ]
  refine WE.take (i := 16) (v := undef) rfl (by kernel_rfl) (fun _ _ _ h => h) (Or.inr ⟨by rfl, rfl⟩) hS ?_
  try simp only [List.getElem_toArray, List.getElem_cons_zero, List.getElem_cons_succ, Act.put, List.setIfInBounds_toArray, List.set_cons_zero, List.set_cons_succ]
  refine WE.take (i := 17) (v := undef) rfl (by kernel_rfl) (fun _ _ _ h => h) (Or.inr ⟨by rfl, rfl⟩) hS ?_
  try simp only [List.getElem_toArray, List.getElem_cons_zero, List.getElem_cons_succ, Act.put, List.setIfInBounds_toArray, List.set_cons_zero, List.set_cons_succ]
  refine WE.take (i := 18) (v := undef) rfl (by kernel_rfl) (fun _ _ _ h => h) (Or.inr ⟨by rfl, rfl⟩) hS ?_
  try simp only [List.getElem_toArray, List.getElem_cons_zero, List.getElem_cons_succ, Act.put, List.setIfInBounds_toArray, List.set_cons_zero, List.set_cons_succ]
  refine WE.take (i := 19) (v := undef) rfl (by kernel_rfl) (fun _ _ _ h => h) (Or.inr ⟨by rfl, rfl⟩) hS ?_
  try simp only [List.getElem_toArray, List.getElem_cons_zero, List.getElem_cons_succ, Act.put, List.setIfInBounds_toArray, List.set_cons_zero, List.set_cons_succ]
  refine WE.take (i := 20) (v := undef) rfl (by kernel_rfl) (fun _ _ _ h => h) (Or.inr ⟨by rfl, rfl⟩) hS ?_
  try simp only [List.getElem_toArray, List.getElem_cons_zero, List.getElem_cons_succ, Act.put, List.setIfInBounds_toArray, List.set_cons_zero, List.set_cons_succ]
  refine WE.take (i := 21) (v := ?_) rfl (by kernel_rfl) (fun _ _ _ h => h) (Or.inl ⟨by rfl, ?_⟩) hS ?_
  rotate_left
  · intro w1 hSw; obtain ⟨s0, s1, s2, s3, s4⟩ := hSw; go_simp; first | done | rfl
  try simp only [List.getElem_toArray, List.getElem_cons_zero, List.getElem_cons_succ, Act.put, List.setIfInBounds_toArray, List.set_cons_zero, List.set_cons_succ]
  refine WE.take (i := 22) (v := ?_) rfl (by kernel_rfl) (fun _ _ _ h => h) (Or.inl ⟨by rfl, ?_⟩) hS ?_
  rotate_left
  · intro w1 hSw; obtain ⟨s0, s1, s2, s3, s4⟩ := hSw; go_simp; first | done | rfl
  try simp only [List.getElem_toArray, List.getElem_cons_zero, List.getElem_cons_succ, Act.put, List.setIfInBounds_toArray, List.set_cons_zero, List.set_cons_succ]
  refine WE.last rfl (by kernel_rfl) (fun K hK => ?_)
  rw [if_pos (by rfl)]
  go_simp
  refine hK _ _ ?_
  clear hK K
  go_wp2_with fail
  go_ret
  exact ⟨rfl, HB9.out⟩

set_option maxRecDepth 100000 in
set_option maxHeartbeats 4000000 in
theorem goes_2 (fb : Nat) (R : List Fm) (op xa xb xc xk : Int) (hc : 0 ≤ xc ∧ xc < 16) (ho : op = 4 ∨ op = 5) (hn : isNumB (rgF R xc) = true) (z : Bool) (hz : ((rgF R xc).c != 0) = z) (w : World) (h : FB w fb R) : Calls Try.prog 25 #[.pointer (some ⟨fb, 0, none⟩), .agg #[.int .i64 5, .int .i64 op, .int .i64 xa, .int .i64 xb, .int .i64 xc, .int .i64 xk]] w fun e w' => e = .returned (.bool z) ∧ Below w.heap.size w w' := by
  obtain ⟨q, rfl⟩ : ∃ q : Nat, xc = q := ⟨xc.toNat, by omega⟩
  have hq : q < 16 := by omega
  have HD : Hid (∀ w, Calls Try.prog 41 #[.int .i64 op] w fun e w' => e = .returned (.bool true) ∧ w' = w) := fun w => by
    have := divides_any op w
    rw [show decide (op = 4 ∨ op = 5) = true by simpa using ho] at this
    exact this
  clear ho
  obtain ⟨e, he⟩ : ∃ e, rgF R (q : Int) = e := ⟨_, rfl⟩
  have HE : Hid (rgF R (q : Int) = e) := he
  rw [he] at hn hz
  have HN : Hid (∀ w, Calls Try.prog 42 #[fv e] w fun e w' => e = .returned (.bool true) ∧ Below w.heap.size w w') := fun w => by
    have := isNumber_any e w
    rw [hn] at this
    exact this
  clear hn
  clear he
  obtain ⟨ck, ca, cc⟩ := e
  unfold fv at HN
  simp only at hz
  have H : Hid (∀ o, FB (w.alloc o) fb R) := fun o => h.alloc o
  have hlt := h.lt
  clear h
  go_enter Try.func25, Try.ntmps25
  go_wp2_with fail
  generalize hW : w.alloc _ = W
  have HW : Hid (FB W fb R) := by show FB _ _ _; rw [← hW]; exact H.out _
  have b1 : W.cell? ⟨w.heap.size, 1, none⟩ = some (.int .i64 op) := by rw [← hW]; exact (cell_of_row _ _ 1 _ _ _ (heap_alloc_new w _)).trans rfl
  have b4 : W.cell? ⟨w.heap.size, 4, none⟩ = some (.int .i64 (q : Int)) := by rw [← hW]; exact (cell_of_row _ _ 4 _ _ _ (heap_alloc_new w _)).trans rfl
  have HB : Hid (Below w.heap.size w W) := by show Below _ _ _; rw [← hW]; exact bl1 _ _
  clear hW
  obtain ⟨e0, e1, e2⟩ := HW.out.c q hq
  rw [HE.out] at e0 e1 e2
  refine WE.start (fun w' => w'.cell? ⟨w.heap.size, 1, none⟩ = some (.int .i64 op) ∧ w'.cell? ⟨w.heap.size, 4, none⟩ = some (.int .i64 (q : Int)) ∧ w'.cell? ⟨fb, q * 3, none⟩ = some (.bool ck) ∧ w'.cell? ⟨fb, q * 3 + 1, none⟩ = some (.int .i64 ca) ∧ w'.cell? ⟨fb, q * 3 + 2, none⟩ = some (.int .i64 cc)) 23 24 #[false, false, false, false, false, false, false, false, false, false, false, false, false, false, false, false, false, false, false, false, false, false, false, false] rfl rfl (by kernel_rfl) ⟨b1, b4, e0, e1, e2⟩ (fun hS => ?_)
  refine WE.take (i := 0) (v := ?_) rfl (by kernel_rfl) (fun _ _ _ h => h) (Or.inl ⟨by rfl, ?_⟩) hS ?_
  rotate_left
  · intro w1 hSw; obtain ⟨s0, s1, s2, s3, s4⟩ := hSw; go_simp; first | done | rfl
  try simp only [List.getElem_toArray, List.getElem_cons_zero, List.getElem_cons_succ, Act.put, List.setIfInBounds_toArray, List.set_cons_zero, List.set_cons_succ]
  refine WE.take (i := 1) (v := ?_) rfl (by kernel_rfl) (fun _ _ _ h => h) (Or.inl ⟨by rfl, ?_⟩) hS ?_
  rotate_left
  · intro w1 hSw; obtain ⟨s0, s1, s2, s3, s4⟩ := hSw; go_simp; first | done | rfl
  try simp only [List.getElem_toArray, List.getElem_cons_zero, List.getElem_cons_succ, Act.put, List.setIfInBounds_toArray, List.set_cons_zero, List.set_cons_succ]
  refine WE.step (i := 2) rfl (by kernel_rfl) (fun K hK => ?_)
  rw [if_pos (by rfl)]
  go_simp
  refine (HD.out _).mono ?_
  rintro e w4 ⟨rfl, hw4⟩; rw [hw4]; clear hw4 w4
  refine hK _ _ hS ?_
  clear hK K
  try simp only [List.getElem_toArray, List.getElem_cons_zero, List.getElem_cons_succ, Act.put, List.setIfInBounds_toArray, List.set_cons_zero, List.set_cons_succ]
  refine WE.take (i := 3) (v := ?_) rfl (by kernel_rfl) (fun _ _ _ h => h) (Or.inl ⟨by rfl, ?_⟩) hS ?_
  rotate_left
  · intro w1 hSw; obtain ⟨s0, s1, s2, s3, s4⟩ := hSw; go_simp; first | done | rfl
  try simp only [List.getElem_toArray, List.getElem_cons_zero, List.getElem_cons_succ, Act.put, List.setIfInBounds_toArray, List.set_cons_zero, List.set_cons_succ]
  refine WE.take (i := 4) (v := ?_) rfl (by kernel_rfl) (fun _ _ _ h => h) (Or.inl ⟨by rfl, ?_⟩) hS ?_
  rotate_left
  · intro w1 hSw; obtain ⟨s0, s1, s2, s3, s4⟩ := hSw; go_simp; first | done | rfl
  try simp only [List.getElem_toArray, List.getElem_cons_zero, List.getElem_cons_succ, Act.put, List.setIfInBounds_toArray, List.set_cons_zero, List.set_cons_succ]
  refine WE.take (i := 5) (v := ?_) rfl (by kernel_rfl) (fun _ _ _ h => h) (Or.inl ⟨by rfl, ?_⟩) hS ?_
  rotate_left
  · intro w1 hSw; obtain ⟨s0, s1, s2, s3, s4⟩ := hSw; go_simp; first | done | rfl
  try simp only [List.getElem_toArray, List.getElem_cons_zero, List.getElem_cons_succ, Act.put, List.setIfInBounds_toArray, List.set_cons_zero, List.set_cons_succ]
  refine WE.take (i := 6) (v := ?_) rfl (by kernel_rfl) (fun _ _ _ h => h) (Or.inl ⟨by rfl, ?_⟩) hS ?_
  rotate_left
  · intro w1 hSw; obtain ⟨s0, s1, s2, s3, s4⟩ := hSw; go_simp; first | done | rfl
  try simp only [List.getElem_toArray, List.getElem_cons_zero, List.getElem_cons_succ, Act.put, List.setIfInBounds_toArray, List.set_cons_zero, List.set_cons_succ]
  refine WE.take (i := 7) (v := ?_) rfl (by kernel_rfl) (fun _ _ _ h => h) (Or.inl ⟨by rfl, ?_⟩) hS ?_
  rotate_left
  · intro w1 hSw; obtain ⟨s0, s1, s2, s3, s4⟩ := hSw; go_simp; first | done | rfl
  try simp only [List.getElem_toArray, List.getElem_cons_zero, List.getElem_cons_succ, Act.put, List.setIfInBounds_toArray, List.set_cons_zero, List.set_cons_succ]
  refine WE.take (i := 8) (v := ?_) rfl (by kernel_rfl) (fun _ _ _ h => h) (Or.inl ⟨by rfl, ?_⟩) hS ?_
  rotate_left
  · intro w1 hSw; obtain ⟨s0, s1, s2, s3, s4⟩ := hSw; go_simp; first | done | rfl
  try simp only [List.getElem_toArray, List.getElem_cons_zero, List.getElem_cons_succ, Act.put, List.setIfInBounds_toArray, List.set_cons_zero, List.set_cons_succ]
  refine WE.take (i := 9) (v := ?_) rfl (by kernel_rfl) (fun _ _ _ h => h) (Or.inl ⟨by rfl, ?_⟩) hS ?_
  rotate_left
  · intro w1 hSw; obtain ⟨s0, s1, s2, s3, s4⟩ := hSw; go_simp; first | done | rfl
  try simp only [List.getElem_toArray, List.getElem_cons_zero, List.getElem_cons_succ, Act.put, List.setIfInBounds_toArray, List.set_cons_zero, List.set_cons_succ]
  refine WE.take (i := 10) (v := ?_) rfl (by kernel_rfl) (fun _ _ _ h => h) (Or.inl ⟨by rfl, ?_⟩) hS ?_
  rotate_left
  · intro w1 hSw; obtain ⟨s0, s1, s2, s3, s4⟩ := hSw; go_simp; first | done | rfl
  try simp only [List.getElem_toArray, List.getElem_cons_zero, List.getElem_cons_succ, Act.put, List.setIfInBounds_toArray, List.set_cons_zero, List.set_cons_succ]
  refine WE.step (i := 11) rfl (by kernel_rfl) (fun K hK => ?_)
  rw [if_pos (by rfl)]
  go_simp
  refine (HN.out _).mono ?_
  rintro e w9 ⟨rfl, hb9⟩
  have HB9 : Hid (Below w.heap.size w w9) := (below_drew HB.out).trans (hb9.mono HB.out.size)
  have hS9 : (fun w' => w'.cell? ⟨w.heap.size, 1, none⟩ = some (.int .i64 op) ∧ w'.cell? ⟨w.heap.size, 4, none⟩ = some (.int .i64 (q : Int)) ∧ w'.cell? ⟨fb, q * 3, none⟩ = some (.bool ck) ∧ w'.cell? ⟨fb, q * 3 + 1, none⟩ = some (.int .i64 ca) ∧ w'.cell? ⟨fb, q * 3 + 2, none⟩ = some (.int .i64 cc)) w9 := by
    have bc : ∀ p v, W.drew.cell? p = some v → w9.cell? p = some v := fun p v hp => (hb9.cell (p := p) (World.block_lt_of_cell? _ _ hp)).trans hp
    obtain ⟨s0, s1, s2, s3, s4⟩ := hS
    exact ⟨bc _ _ s0, bc _ _ s1, bc _ _ s2, bc _ _ s3, bc _ _ s4⟩
  refine hK _ _ hS9 ?_
  clear hK K hS hb9
  have hS := hS9
  clear hS9
  try simp only [List.getElem_toArray, List.getElem_cons_zero, List.getElem_cons_succ, Act.put, List.setIfInBounds_toArray, List.set_cons_zero, List.set_cons_succ]
  refine WE.take (i := 12) (v := ?_) rfl (by kernel_rfl) (fun _ _ _ h => h) (Or.inl ⟨by rfl, ?_⟩) hS ?_
  rotate_left
  · intro w1 hSw; obtain ⟨s0, s1, s2, s3, s4⟩ := hSw; go_simp; first | done | rfl
  try simp only [List.getElem_toArray, List.getElem_cons_zero, List.getElem_cons_succ, Act.put, List.setIfInBounds_toArray, List.set_cons_zero, List.set_cons_succ]
  refine WE.take (i := 13) (v := ?_) rfl (by kernel_rfl) (fun _ _ _ h => h) (Or.inl ⟨by rfl, ?_⟩) hS ?_
  rotate_left
  · intro w1 hSw; obtain ⟨s0, s1, s2, s3, s4⟩ := hSw; go_simp; first | done | rfl
  try simp only [List.getElem_toArray, List.getElem_cons_zero, List.getElem_cons_succ, Act.put, List.setIfInBounds_toArray, List.set_cons_zero, List.set_cons_succ]
  refine WE.take (i := 14) (v := ?_) rfl (by kernel_rfl) (fun _ _ _ h => h) (Or.inl ⟨by rfl, ?_⟩) hS ?_
  rotate_left
  · intro w1 hSw; obtain ⟨s0, s1, s2, s3, s4⟩ := hSw; go_simp; first | done | rfl
  try simp only [List.getElem_toArray, List.getElem_cons_zero, List.getElem_cons_succ, Act.put, List.setIfInBounds_toArray, List.set_cons_zero, List.set_cons_succ]
  refine WE.take (i := 15) (v := ?_) rfl (by kernel_rfl) (fun _ _ _ h => h) (Or.inl ⟨by rfl, ?_⟩) hS ?_
  rotate_left
  · intro w1 hSw; obtain ⟨s0, s1, s2, s3, s4⟩ := hSw; go_simp; first | done | rfl
  try simp only [List.getElem_toArray, List.getElem_cons_zero, List.getElem_cons_succ, Act.put, List.setIfInBounds_toArray, List.set_cons_zero, List.set_cons_succ]
  refine WE.take (i := 16) (v := ?_) rfl (by kernel_rfl) (fun _ _ _ h => h) (Or.inl ⟨by rfl, ?_⟩) hS ?_
  rotate_left
  · intro w1 hSw; obtain ⟨s0, s1, s2, s3, s4⟩ := hSw; go_simp; first | done | rfl
  try simp only [List.getElem_toArray, List.getElem_cons_zero, List.getElem_cons_succ, Act.put, List.setIfInBounds_toArray, List.set_cons_zero, List.set_cons_succ]
  refine WE.take (i := 17) (v := ?_) rfl (by kernel_rfl) (fun _ _ _ h => h) (Or.inl ⟨by rfl, ?_⟩) hS ?_
  rotate_left
  · intro w1 hSw; obtain ⟨s0, s1, s2, s3, s4⟩ := hSw; go_simp; first | done | rfl
  try simp only [List.getElem_toArray, List.getElem_cons_zero, List.getElem_cons_succ, Act.put, List.setIfInBounds_toArray, List.set_cons_zero, List.set_cons_succ]
  refine WE.take (i := 18) (v := ?_) rfl (by kernel_rfl) (fun _ _ _ h => h) (Or.inl ⟨by rfl, ?_⟩) hS ?_
  rotate_left
  · intro w1 hSw; obtain ⟨s0, s1, s2, s3, s4⟩ := hSw; go_simp; first | done | rfl
  try simp only [List.getElem_toArray, List.getElem_cons_zero, List.getElem_cons_succ, Act.put, List.setIfInBounds_toArray, List.set_cons_zero, List.set_cons_succ]
  refine WE.take (i := 19) (v := ?_) rfl (by kernel_rfl) (fun _ _ _ h => h) (Or.inl ⟨by rfl, ?_⟩) hS ?_
  rotate_left
  · intro w1 hSw; obtain ⟨s0, s1, s2, s3, s4⟩ := hSw; go_simp; first | done | rfl
  try simp only [List.getElem_toArray, List.getElem_cons_zero, List.getElem_cons_succ, Act.put, List.setIfInBounds_toArray, List.set_cons_zero, List.set_cons_succ]
  refine WE.take (i := 20) (v := ?_) rfl (by kernel_rfl) (fun _ _ _ h => h) (Or.inl ⟨by rfl, ?_⟩) hS ?_
  rotate_left
  · intro w1 hSw; obtain ⟨s0, s1, s2, s3, s4⟩ := hSw; go_simp; first | done | rfl
  try simp only [List.getElem_toArray, List.getElem_cons_zero, List.getElem_cons_succ, Act.put, List.setIfInBounds_toArray, List.set_cons_zero, List.set_cons_succ]
  refine WE.take (i := 21) (v := ?_) rfl (by kernel_rfl) (fun _ _ _ h => h) (Or.inl ⟨by rfl, ?_⟩) hS ?_
  rotate_left
  · intro w1 hSw; obtain ⟨s0, s1, s2, s3, s4⟩ := hSw; go_simp; first | done | rfl
  try simp only [List.getElem_toArray, List.getElem_cons_zero, List.getElem_cons_succ, Act.put, List.setIfInBounds_toArray, List.set_cons_zero, List.set_cons_succ]
  refine WE.take (i := 22) (v := ?_) rfl (by kernel_rfl) (fun _ _ _ h => h) (Or.inl ⟨by rfl, ?_⟩) hS ?_
  rotate_left
  · intro w1 hSw; obtain ⟨s0, s1, s2, s3, s4⟩ := hSw; go_simp; first | done | rfl
  try simp only [List.getElem_toArray, List.getElem_cons_zero, List.getElem_cons_succ, Act.put, List.setIfInBounds_toArray, List.set_cons_zero, List.set_cons_succ]
  refine WE.last rfl (by kernel_rfl) (fun K hK => ?_)
  rw [if_pos (by rfl)]
  go_simp
  refine hK _ _ ?_
  clear hK K
  go_wp2_with fail
  go_ret
  exact ⟨rfl, HB9.out⟩
end Go.Proofs.Ytcaefimnhoeimaa
