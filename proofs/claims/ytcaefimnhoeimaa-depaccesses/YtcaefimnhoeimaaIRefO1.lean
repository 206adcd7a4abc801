/- The document's One, some kinds. -/
import Derived.Test.YtcaefimnhoeimaaIRefO
namespace Go.Proofs.Ytcaefimnhoeimaa
open Go.RowKit
set_option linter.unusedVariables false
set_option linter.unusedSimpArgs false

set_option maxRecDepth 100000 in
set_option maxHeartbeats 4000000 in
theorem refOne_1 (op a b c k cells long : Int) (w : World) : Calls Try.prog 28 #[iv ⟨1, op, a, b, c, k⟩, .int .i64 cells, .int .i64 long] w fun e w' => e = .returned (.int .i64 (oneC ⟨1, op, a, b, c, k⟩ cells long)) ∧ Below w.heap.size w w' := by
  obtain ⟨R, hR⟩ : ∃ R, oneC ⟨1, op, a, b, c, k⟩ cells long = R := ⟨_, rfl⟩
  rw [hR]
  rw [oneC_1] at hR
  have HR : Hid _ := hR
  clear hR
  have ea : hasI ⟨#[]⟩ 97 = false := by decide
  have eb : hasI ⟨#[]⟩ 98 = false := by decide
  have ec : hasI ⟨#[]⟩ 99 = false := by decide
  have ek : hasI ⟨#[]⟩ 107 = false := by decide
  have eo : hasI ⟨#[]⟩ 111 = false := by decide
  have ep : hasI ⟨#[]⟩ 112 = false := by decide
  have er : hasI ⟨#[]⟩ 114 = false := by decide
  have et : hasI ⟨#[]⟩ 116 = false := by decide
  unfold iv
  go_enter Try.func28, Try.ntmps28
  go_wp2_with fail
  refine (refParts_1 _).mono ?_
  rintro e w1 ⟨rfl, b1⟩
  have S1 : Hid (Six w1 w.heap.size ⟨1, op, a, b, c, k⟩) := (Six.new w _).block (b1.block _ (Six.new w ⟨1, op, a, b, c, k⟩).lt) b1.size
  have B1 : Hid (Below w.heap.size w w1) := ((Below.refl _ _).alloc (Nat.le_refl _) _).trans (b1.mono (by simp))
  obtain ⟨x0, x1, x2, x3, x4, x5, _⟩ := S1.out
  clear b1
  go_wp2_with (first | (go_at_call 46; refine (has_gen _ _ _ (by decide) (by decide) (by decide)).mono ?_; rintro e w' ⟨rfl, rfl⟩; first | rw [ea] | rw [eb] | rw [ec] | rw [ek] | rw [eo] | rw [ep] | rw [er] | rw [et]) | (go_at_call 47; refine (bad_any _ _).mono ?_; rintro e w' ⟨rfl, rfl⟩) | fail)
  all_goals (go_ret; refine ⟨ret_i ?_, B1.out⟩; rw [← HR.out]; clear S1 B1 x0 x1 x2 x3 x4 x5; (try simp only [bne_iff_ne, bne_eq_false_iff_eq, ne_eq] at *); first | rfl | ((repeat' split) <;> omega))
set_option maxRecDepth 100000 in
set_option maxHeartbeats 4000000 in
theorem refOne_2 (op a b c k cells long : Int) (w : World) : Calls Try.prog 28 #[iv ⟨2, op, a, b, c, k⟩, .int .i64 cells, .int .i64 long] w fun e w' => e = .returned (.int .i64 (oneC ⟨2, op, a, b, c, k⟩ cells long)) ∧ Below w.heap.size w w' := by
  obtain ⟨R, hR⟩ : ∃ R, oneC ⟨2, op, a, b, c, k⟩ cells long = R := ⟨_, rfl⟩
  rw [hR]
  rw [oneC_2] at hR
  have HR : Hid _ := hR
  clear hR
  have ea : hasI ⟨#[97, 107]⟩ 97 = true := by decide
  have eb : hasI ⟨#[97, 107]⟩ 98 = false := by decide
  have ec : hasI ⟨#[97, 107]⟩ 99 = false := by decide
  have ek : hasI ⟨#[97, 107]⟩ 107 = true := by decide
  have eo : hasI ⟨#[97, 107]⟩ 111 = false := by decide
  have ep : hasI ⟨#[97, 107]⟩ 112 = false := by decide
  have er : hasI ⟨#[97, 107]⟩ 114 = false := by decide
  have et : hasI ⟨#[97, 107]⟩ 116 = false := by decide
  unfold iv
  go_enter Try.func28, Try.ntmps28
  go_wp2_with fail
  refine (refParts_2 _).mono ?_
  rintro e w1 ⟨rfl, b1⟩
  have S1 : Hid (Six w1 w.heap.size ⟨2, op, a, b, c, k⟩) := (Six.new w _).block (b1.block _ (Six.new w ⟨2, op, a, b, c, k⟩).lt) b1.size
  have B1 : Hid (Below w.heap.size w w1) := ((Below.refl _ _).alloc (Nat.le_refl _) _).trans (b1.mono (by simp))
  obtain ⟨x0, x1, x2, x3, x4, x5, _⟩ := S1.out
  clear b1
  go_wp2_with (first | (go_at_call 46; refine (has_gen _ _ _ (by decide) (by decide) (by decide)).mono ?_; rintro e w' ⟨rfl, rfl⟩; first | rw [ea] | rw [eb] | rw [ec] | rw [ek] | rw [eo] | rw [ep] | rw [er] | rw [et]) | (go_at_call 47; refine (bad_any _ _).mono ?_; rintro e w' ⟨rfl, rfl⟩) | fail)
  all_goals (go_ret; refine ⟨ret_i ?_, B1.out⟩; rw [← HR.out]; clear S1 B1 x0 x1 x2 x3 x4 x5; (try simp only [bne_iff_ne, bne_eq_false_iff_eq, ne_eq] at *); first | rfl | ((repeat' split) <;> omega))
set_option maxRecDepth 100000 in
set_option maxHeartbeats 4000000 in
theorem refOne_3 (op a b c k cells long : Int) (w : World) : Calls Try.prog 28 #[iv ⟨3, op, a, b, c, k⟩, .int .i64 cells, .int .i64 long] w fun e w' => e = .returned (.int .i64 (oneC ⟨3, op, a, b, c, k⟩ cells long)) ∧ Below w.heap.size w w' := by
  obtain ⟨R, hR⟩ : ∃ R, oneC ⟨3, op, a, b, c, k⟩ cells long = R := ⟨_, rfl⟩
  rw [hR]
  rw [oneC_3] at hR
  have HR : Hid _ := hR
  clear hR
  have ea : hasI ⟨#[97, 98]⟩ 97 = true := by decide
  have eb : hasI ⟨#[97, 98]⟩ 98 = true := by decide
  have ec : hasI ⟨#[97, 98]⟩ 99 = false := by decide
  have ek : hasI ⟨#[97, 98]⟩ 107 = false := by decide
  have eo : hasI ⟨#[97, 98]⟩ 111 = false := by decide
  have ep : hasI ⟨#[97, 98]⟩ 112 = false := by decide
  have er : hasI ⟨#[97, 98]⟩ 114 = false := by decide
  have et : hasI ⟨#[97, 98]⟩ 116 = false := by decide
  unfold iv
  go_enter Try.func28, Try.ntmps28
  go_wp2_with fail
  refine (refParts_3 _).mono ?_
  rintro e w1 ⟨rfl, b1⟩
  have S1 : Hid (Six w1 w.heap.size ⟨3, op, a, b, c, k⟩) := (Six.new w _).block (b1.block _ (Six.new w ⟨3, op, a, b, c, k⟩).lt) b1.size
  have B1 : Hid (Below w.heap.size w w1) := ((Below.refl _ _).alloc (Nat.le_refl _) _).trans (b1.mono (by simp))
  obtain ⟨x0, x1, x2, x3, x4, x5, _⟩ := S1.out
  clear b1
  go_wp2_with (first | (go_at_call 46; refine (has_gen _ _ _ (by decide) (by decide) (by decide)).mono ?_; rintro e w' ⟨rfl, rfl⟩; first | rw [ea] | rw [eb] | rw [ec] | rw [ek] | rw [eo] | rw [ep] | rw [er] | rw [et]) | (go_at_call 47; refine (bad_any _ _).mono ?_; rintro e w' ⟨rfl, rfl⟩) | fail)
  all_goals (go_ret; refine ⟨ret_i ?_, B1.out⟩; rw [← HR.out]; clear S1 B1 x0 x1 x2 x3 x4 x5; (try simp only [bne_iff_ne, bne_eq_false_iff_eq, ne_eq] at *); first | rfl | ((repeat' split) <;> omega))
end Go.Proofs.Ytcaefimnhoeimaa
