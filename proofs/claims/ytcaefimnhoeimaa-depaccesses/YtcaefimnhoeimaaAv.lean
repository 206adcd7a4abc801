/- The chapter's last examples; the walk of the law on rows of numbers that meet. -/
import Derived.Test.YtcaefimnhoeimaaAc
import Derived.Test.YtcaefimnhoeimaaMtA
namespace Go.Proofs.Ytcaefimnhoeimaa
open Go.RowKit Go.Maps
set_option linter.unusedVariables false

def C0 : List In := [⟨2, 0, 3, 0, 0, 7⟩, ⟨7, 0, 3, 1, 0, 0⟩, ⟨1, 0, 0, 0, 0, 0⟩]
theorem acc0 : accR C0 0 = some [(true, ⟨true, 1, 0⟩)] := by kernel_rfl
theorem eq32 (W : World) : (binOp .eql 32 (.agg #[.bool true, .bool true, .int .i64 1, .int .i64 0]) (.agg #[.bool true, .bool true, .int .i64 1, .int .i64 0])).run Try.prog W = .ok (.bool true) W := by kernel_rfl
theorem m1 : meetB 0 2 1 2 9 = false := by decide +kernel
theorem m2 : meetB 0 1 3 (-1) 4 = true := by decide +kernel
theorem AZ.one {w : World} {base : Nat} {v : Value} {b : Bool} {f : Fm} (h : AZ w base v [(b, f)]) : ∃ g cap, v = .slice (some ⟨g, 0, none⟩) 1 cap ∧ w.cell? ⟨g, 0, none⟩ = some (.bool b) ∧ w.cell? ⟨g, 1, none⟩ = some (.bool f.k) ∧ w.cell? ⟨g, 2, none⟩ = some (.int .i64 f.a) ∧ w.cell? ⟨g, 3, none⟩ = some (.int .i64 f.c) ∧ 1 ≤ cap ∧ cap ≤ maxLen := by
  have hc := fun g => World.ownsRow.cells h (g := g)
  rcases h.2 with ⟨rfl, h0⟩ | ⟨g, cap, cur, rfl, h2, h3, h4, h5, _⟩
  · simp at h0
  · refine ⟨g, cap, rfl, ?_, ?_, ?_, ?_, h4, h5⟩
    · have := hc g rfl 0 _ rfl; rw [addn] at this; exact this
    · have := hc g rfl 1 _ rfl; rw [addn] at this; exact this
    · have := hc g rfl 2 _ rfl; rw [addn] at this; exact this
    · have := hc g rfl 3 _ rfl; rw [addn] at this; exact this
set_option maxRecDepth 100000 in
set_option maxHeartbeats 4000000 in
theorem alive_any (w : World) : Calls Try.prog 7 #[] w fun e w' => e = .returned (.bool true) ∧ Below w.heap.size w w' := by
  have HA : Hid (∀ (v : Value) (W : World), ISl W v C0 → Calls Try.prog 5 #[v, .int .i64 0] W (ToP (some [(true, ⟨true, 1, 0⟩)]) W)) := fun v W hv => by
    have := accesses_any C0 0 v W hv
    rw [acc0] at this; exact this
  have HM1 : Hid (∀ W, Calls Try.prog 8 #[.int .i64 0, .int .i64 2, .int .i64 1, .int .i64 2, .int .i64 9] W fun e w' => e = .returned (.bool false) ∧ ∃ k, w' = W.drewN k) := fun W => by have := meet_any 0 2 1 2 9 W; rw [m1] at this; exact this
  have HM2 : Hid (∀ W, Calls Try.prog 8 #[.int .i64 0, .int .i64 1, .int .i64 3, .int .i64 (-1), .int .i64 4] W fun e w' => e = .returned (.bool true) ∧ ∃ k, w' = W.drewN k) := fun W => by have := meet_any 0 1 3 (-1) 4 W; rw [m2] at this; exact this
  have HQ := eq32
  go_enter Try.func7, Try.ntmps7
  go_wp2_with fail
  refine (HA.out _ _ ?_).mono ?_
  · refine ⟨_, 3, w.heap.size, 0, rfl, by decide, by unfold maxLen; omega, fun _ => rfl, fun i hi => ?_⟩
    have hg := heap_alloc_new w (.cells #[.int .i64 2, .int .i64 0, .int .i64 3, .int .i64 0, .int .i64 0, .int .i64 7, .int .i64 7, .int .i64 0, .int .i64 3, .int .i64 1, .int .i64 0, .int .i64 0, .int .i64 1, .int .i64 0, .int .i64 0, .int .i64 0, .int .i64 0, .int .i64 0] 53)
    match i, hi with
    | 0, _ => exact ⟨(cell_of_row _ _ 0 _ _ _ hg).trans rfl, (cell_of_row _ _ 1 _ _ _ hg).trans rfl, (cell_of_row _ _ 2 _ _ _ hg).trans rfl, (cell_of_row _ _ 3 _ _ _ hg).trans rfl, (cell_of_row _ _ 4 _ _ _ hg).trans rfl, (cell_of_row _ _ 5 _ _ _ hg).trans rfl⟩
    | 1, _ => exact ⟨(cell_of_row _ _ 6 _ _ _ hg).trans rfl, (cell_of_row _ _ 7 _ _ _ hg).trans rfl, (cell_of_row _ _ 8 _ _ _ hg).trans rfl, (cell_of_row _ _ 9 _ _ _ hg).trans rfl, (cell_of_row _ _ 10 _ _ _ hg).trans rfl, (cell_of_row _ _ 11 _ _ _ hg).trans rfl⟩
    | 2, _ => exact ⟨(cell_of_row _ _ 12 _ _ _ hg).trans rfl, (cell_of_row _ _ 13 _ _ _ hg).trans rfl, (cell_of_row _ _ 14 _ _ _ hg).trans rfl, (cell_of_row _ _ 15 _ _ _ hg).trans rfl, (cell_of_row _ _ 16 _ _ _ hg).trans rfl, (cell_of_row _ _ 17 _ _ _ hg).trans rfl⟩
    | j + 3, h => exact absurd h (by simp [C0])
  · rintro e w2 ⟨hb2, v, rfl, haz⟩
    obtain ⟨g, cap, rfl, c0, c1, c2, c3, hc1, hc2⟩ := haz.one
    have HB2 : Hid (Below w.heap.size w w2) := (bl1 w _).trans (hb2.mono (by simp))
    simp only at c0 c1 c2 c3
    unfold maxLen at hc2
    clear haz hb2
    go_wp2_with fail
    refine (HM1.out _).mono ?_
    rintro e w4 ⟨rfl, k4, hw4⟩; rw [hw4]; clear hw4 w4
    go_wp2_with fail
    refine (HM2.out _).mono ?_
    rintro e w5 ⟨rfl, k5, hw5⟩; rw [hw5]; clear hw5 w5
    go_wp2_with fail
    go_ret
    exact ⟨rfl, below_drewN HB2.out _⟩
def MB (a x b y n : Int) (r : Bool) : Prop := meetB a x b y n = r
def LQ (w : World) (a x b y n : Int) (W : World) : Prop := W.heap[w.heap.size]? = some (.cells #[.int .i64 a, .int .i64 x, .int .i64 b, .int .i64 y, .int .i64 n] 39) ∧ Below w.heap.size w W
set_option maxRecDepth 100000 in
set_option maxHeartbeats 8000000 in
theorem meets_walk (a x b y n : Int) (w : World) : Calls Try.prog 4 #[.agg #[.int .i64 a, .int .i64 x, .int .i64 b, .int .i64 y, .int .i64 n]] w fun e w' => e = .returned (.bool true) ∧ Below w.heap.size w w' := by
  obtain ⟨r, hr⟩ : ∃ r, meetB a x b y n = r := ⟨_, rfl⟩
  have HM : Hid (∀ (a' x' b' y' : Int) (W : World), MB a' x' b' y' n r → Calls Try.prog 8 #[.int .i64 a', .int .i64 x', .int .i64 b', .int .i64 y', .int .i64 n] W fun e w' => e = .returned (.bool r) ∧ ∃ k, w' = W.drewN k) := fun a' x' b' y' W h => by
    have := meet_any a' x' b' y' n W
    rw [show meetB a' x' b' y' n = r from h] at this
    exact this
  have B1 : MB a x b y n r := hr
  have B2 : MB b y a x n r := (meetB_swap b y a x n).trans hr
  have HR : Hid (∀ W, Calls Try.prog 9 #[.int .i64 a, .int .i64 x, .int .i64 b, .int .i64 y, .int .i64 n] W fun e w' => e = .returned (.bool r) ∧ w' = W) := fun W => by rw [← hr]; exact rmeet_any a x b y n W
  clear hr
  have g1 : (r == r) = true := by simp
  go_enter Try.func4, Try.ntmps4
  go_wp2_with fail
  generalize hW : w.alloc _ = W
  have HG : Hid (W.heap[w.heap.size]? = some (.cells #[.int .i64 a, .int .i64 x, .int .i64 b, .int .i64 y, .int .i64 n] 39)) := by show _ = _; rw [← hW]; exact heap_alloc_new _ _
  have HB : Hid (Below w.heap.size w W) := by show Below _ _ _; rw [← hW]; exact bl1 _ _
  clear hW
  have c0 : W.cell? ⟨w.heap.size, 0, none⟩ = some (.int .i64 a) := (cell_of_row _ _ 0 _ _ _ HG.out).trans rfl
  have c1 : W.cell? ⟨w.heap.size, 1, none⟩ = some (.int .i64 x) := (cell_of_row _ _ 1 _ _ _ HG.out).trans rfl
  have c2 : W.cell? ⟨w.heap.size, 2, none⟩ = some (.int .i64 b) := (cell_of_row _ _ 2 _ _ _ HG.out).trans rfl
  have c3 : W.cell? ⟨w.heap.size, 3, none⟩ = some (.int .i64 y) := (cell_of_row _ _ 3 _ _ _ HG.out).trans rfl
  have c4 : W.cell? ⟨w.heap.size, 4, none⟩ = some (.int .i64 n) := (cell_of_row _ _ 4 _ _ _ HG.out).trans rfl
  have HKP : Hid (∀ w1 w2 : World, (w1.cell? ⟨w.heap.size, 0, none⟩ = some (.int .i64 a) ∧ w1.cell? ⟨w.heap.size, 1, none⟩ = some (.int .i64 x) ∧ w1.cell? ⟨w.heap.size, 2, none⟩ = some (.int .i64 b) ∧ w1.cell? ⟨w.heap.size, 3, none⟩ = some (.int .i64 y) ∧ w1.cell? ⟨w.heap.size, 4, none⟩ = some (.int .i64 n)) → Below w1.heap.size w1 w2 → (w2.cell? ⟨w.heap.size, 0, none⟩ = some (.int .i64 a) ∧ w2.cell? ⟨w.heap.size, 1, none⟩ = some (.int .i64 x) ∧ w2.cell? ⟨w.heap.size, 2, none⟩ = some (.int .i64 b) ∧ w2.cell? ⟨w.heap.size, 3, none⟩ = some (.int .i64 y) ∧ w2.cell? ⟨w.heap.size, 4, none⟩ = some (.int .i64 n))) := by
    intro w1 w2 h hb
    have bc : ∀ p v, w1.cell? p = some v → w2.cell? p = some v := fun p v hp => (hb.cell (p := p) (World.block_lt_of_cell? _ _ hp)).trans hp
    exact ⟨bc _ _ h.1, bc _ _ h.2.1, bc _ _ h.2.2.1, bc _ _ h.2.2.2.1, bc _ _ h.2.2.2.2⟩
  have HAL : Hid (∀ W, Calls Try.prog 7 #[] W fun e w' => e = .returned (.bool true) ∧ Below W.heap.size W w') := fun W => alive_any W
  go_region_held3 (fun w' => w'.cell? ⟨w.heap.size, 0, none⟩ = some (.int .i64 a) ∧ w'.cell? ⟨w.heap.size, 1, none⟩ = some (.int .i64 x) ∧ w'.cell? ⟨w.heap.size, 2, none⟩ = some (.int .i64 b) ∧ w'.cell? ⟨w.heap.size, 3, none⟩ = some (.int .i64 y) ∧ w'.cell? ⟨w.heap.size, 4, none⟩ = some (.int .i64 n)) (first | assumption | go_keep) (first | (go_at_call 8; refine (HM.out _ _ _ _ _ (by assumption)).mono ?_; rintro e w4 ⟨rfl, k4, hw4⟩; rw [hw4]; clear hw4 w4) | (go_at_call 9; refine (HR.out _).mono ?_; rintro e w4 ⟨rfl, hw4⟩; rw [hw4]; clear hw4 w4) | (go_at_call 7; refine (HAL.out _).mono ?_; rintro e w6 ⟨rfl, hb6⟩; have hS6 := HKP.out _ _ ⟨by assumption, by assumption, by assumption, by assumption, by assumption⟩ hb6))
  go_wp2_with fail
  go_ret
  refine ⟨rfl, Below.trans (b := _) ?_ (hb6.mono ?_)⟩
  · exact ⟨HB.out.os, HB.out.tape, HB.out.output, HB.out.size, HB.out.block⟩
  · exact HB.out.size
end Go.Proofs.Ytcaefimnhoeimaa
