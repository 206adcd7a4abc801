/- The document's One, some kinds. -/
import Derived.Test.YtcaefimnhoeimaaIRefO
namespace Go.Proofs.Ytcaefimnhoeimaa
open Go.RowKit
set_option linter.unusedVariables false
set_option linter.unusedSimpArgs false

set_option maxRecDepth 100000 in
set_option maxHeartbeats 4000000 in
theorem refOne_9 (op a b c k cells long : Int) (w : World) : Calls Try.prog 28 #[iv ⟨9, op, a, b, c, k⟩, .int .i64 cells, .int .i64 long] w fun e w' => e = .returned (.int .i64 (oneC ⟨9, op, a, b, c, k⟩ cells long)) ∧ Below w.heap.size w w' := by
  obtain ⟨R, hR⟩ : ∃ R, oneC ⟨9, op, a, b, c, k⟩ cells long = R := ⟨_, rfl⟩
  rw [hR]
  rw [oneC_9] at hR
  have HR : Hid _ := hR
  clear hR
  have ea : hasI ⟨#[97]⟩ 97 = true := by decide
  have eb : hasI ⟨#[97]⟩ 98 = false := by decide
  have ec : hasI ⟨#[97]⟩ 99 = false := by decide
  have ek : hasI ⟨#[97]⟩ 107 = false := by decide
  have eo : hasI ⟨#[97]⟩ 111 = false := by decide
  have ep : hasI ⟨#[97]⟩ 112 = false := by decide
  have er : hasI ⟨#[97]⟩ 114 = false := by decide
  have et : hasI ⟨#[97]⟩ 116 = false := by decide
  unfold iv
  go_enter Try.func28, Try.ntmps28
  go_wp2_with fail
  refine (refParts_9 _).mono ?_
  rintro e w1 ⟨rfl, b1⟩
  have S1 : Hid (Six w1 w.heap.size ⟨9, op, a, b, c, k⟩) := (Six.new w _).block (b1.block _ (Six.new w ⟨9, op, a, b, c, k⟩).lt) b1.size
  have B1 : Hid (Below w.heap.size w w1) := ((Below.refl _ _).alloc (Nat.le_refl _) _).trans (b1.mono (by simp))
  obtain ⟨x0, x1, x2, x3, x4, x5, _⟩ := S1.out
  clear b1
  go_wp2_with (first | (go_at_call 46; refine (has_gen _ _ _ (by decide) (by decide) (by decide)).mono ?_; rintro e w' ⟨rfl, rfl⟩; first | rw [ea] | rw [eb] | rw [ec] | rw [ek] | rw [eo] | rw [ep] | rw [er] | rw [et]) | (go_at_call 47; refine (bad_any _ _).mono ?_; rintro e w' ⟨rfl, rfl⟩) | fail)
  all_goals (go_ret; refine ⟨ret_i ?_, B1.out⟩; rw [← HR.out]; clear S1 B1 x0 x1 x2 x3 x4 x5; (try simp only [bne_iff_ne, bne_eq_false_iff_eq, ne_eq] at *); first | rfl | ((repeat' split) <;> omega))
set_option maxRecDepth 100000 in
set_option maxHeartbeats 4000000 in
theorem refOne_10 (op a b c k cells long : Int) (w : World) : Calls Try.prog 28 #[iv ⟨10, op, a, b, c, k⟩, .int .i64 cells, .int .i64 long] w fun e w' => e = .returned (.int .i64 (oneC ⟨10, op, a, b, c, k⟩ cells long)) ∧ Below w.heap.size w w' := by
  obtain ⟨R, hR⟩ : ∃ R, oneC ⟨10, op, a, b, c, k⟩ cells long = R := ⟨_, rfl⟩
  rw [hR]
  rw [oneC_10] at hR
  have HR : Hid _ := hR
  clear hR
  have ea : hasI ⟨#[116]⟩ 97 = false := by decide
  have eb : hasI ⟨#[116]⟩ 98 = false := by decide
  have ec : hasI ⟨#[116]⟩ 99 = false := by decide
  have ek : hasI ⟨#[116]⟩ 107 = false := by decide
  have eo : hasI ⟨#[116]⟩ 111 = false := by decide
  have ep : hasI ⟨#[116]⟩ 112 = false := by decide
  have er : hasI ⟨#[116]⟩ 114 = false := by decide
  have et : hasI ⟨#[116]⟩ 116 = true := by decide
  unfold iv
  go_enter Try.func28, Try.ntmps28
  go_wp2_with fail
  refine (refParts_10 _).mono ?_
  rintro e w1 ⟨rfl, b1⟩
  have S1 : Hid (Six w1 w.heap.size ⟨10, op, a, b, c, k⟩) := (Six.new w _).block (b1.block _ (Six.new w ⟨10, op, a, b, c, k⟩).lt) b1.size
  have B1 : Hid (Below w.heap.size w w1) := ((Below.refl _ _).alloc (Nat.le_refl _) _).trans (b1.mono (by simp))
  obtain ⟨x0, x1, x2, x3, x4, x5, _⟩ := S1.out
  clear b1
  go_wp2_with (first | (go_at_call 46; refine (has_gen _ _ _ (by decide) (by decide) (by decide)).mono ?_; rintro e w' ⟨rfl, rfl⟩; first | rw [ea] | rw [eb] | rw [ec] | rw [ek] | rw [eo] | rw [ep] | rw [er] | rw [et]) | (go_at_call 47; refine (bad_any _ _).mono ?_; rintro e w' ⟨rfl, rfl⟩) | fail)
  all_goals (go_ret; refine ⟨ret_i ?_, B1.out⟩; rw [← HR.out]; clear S1 B1 x0 x1 x2 x3 x4 x5; (try simp only [bne_iff_ne, bne_eq_false_iff_eq, ne_eq] at *); first | rfl | ((repeat' split) <;> omega))
set_option maxRecDepth 100000 in
set_option maxHeartbeats 4000000 in
theorem refOne_11 (op a b c k cells long : Int) (w : World) : Calls Try.prog 28 #[iv ⟨11, op, a, b, c, k⟩, .int .i64 cells, .int .i64 long] w fun e w' => e = .returned (.int .i64 (oneC ⟨11, op, a, b, c, k⟩ cells long)) ∧ Below w.heap.size w w' := by
  obtain ⟨R, hR⟩ : ∃ R, oneC ⟨11, op, a, b, c, k⟩ cells long = R := ⟨_, rfl⟩
  rw [hR]
  rw [oneC_11] at hR
  have HR : Hid _ := hR
  clear hR
  have ea : hasI ⟨#[97, 116]⟩ 97 = true := by decide
  have eb : hasI ⟨#[97, 116]⟩ 98 = false := by decide
  have ec : hasI ⟨#[97, 116]⟩ 99 = false := by decide
  have ek : hasI ⟨#[97, 116]⟩ 107 = false := by decide
  have eo : hasI ⟨#[97, 116]⟩ 111 = false := by decide
  have ep : hasI ⟨#[97, 116]⟩ 112 = false := by decide
  have er : hasI ⟨#[97, 116]⟩ 114 = false := by decide
  have et : hasI ⟨#[97, 116]⟩ 116 = true := by decide
  unfold iv
  go_enter Try.func28, Try.ntmps28
  go_wp2_with fail
  refine (refParts_11 _).mono ?_
  rintro e w1 ⟨rfl, b1⟩
  have S1 : Hid (Six w1 w.heap.size ⟨11, op, a, b, c, k⟩) := (Six.new w _).block (b1.block _ (Six.new w ⟨11, op, a, b, c, k⟩).lt) b1.size
  have B1 : Hid (Below w.heap.size w w1) := ((Below.refl _ _).alloc (Nat.le_refl _) _).trans (b1.mono (by simp))
  obtain ⟨x0, x1, x2, x3, x4, x5, _⟩ := S1.out
  clear b1
  go_wp2_with (first | (go_at_call 46; refine (has_gen _ _ _ (by decide) (by decide) (by decide)).mono ?_; rintro e w' ⟨rfl, rfl⟩; first | rw [ea] | rw [eb] | rw [ec] | rw [ek] | rw [eo] | rw [ep] | rw [er] | rw [et]) | (go_at_call 47; refine (bad_any _ _).mono ?_; rintro e w' ⟨rfl, rfl⟩) | fail)
  all_goals (go_ret; refine ⟨ret_i ?_, B1.out⟩; rw [← HR.out]; clear S1 B1 x0 x1 x2 x3 x4 x5; (try simp only [bne_iff_ne, bne_eq_false_iff_eq, ne_eq] at *); first | rfl | ((repeat' split) <;> omega))
end Go.Proofs.Ytcaefimnhoeimaa
