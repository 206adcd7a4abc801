/- The document's One, some kinds. -/
import Derived.Test.YtcaefimnhoeimaaIRefO
namespace Go.Proofs.Ytcaefimnhoeimaa
open Go.RowKit
set_option linter.unusedVariables false
set_option linter.unusedSimpArgs false

set_option maxRecDepth 100000 in
set_option maxHeartbeats 4000000 in
theorem refOne_6 (op a b c k cells long : Int) (w : World) : Calls Try.prog 28 #[iv ⟨6, op, a, b, c, k⟩, .int .i64 cells, .int .i64 long] w fun e w' => e = .returned (.int .i64 (oneC ⟨6, op, a, b, c, k⟩ cells long)) ∧ Below w.heap.size w w' := by
  obtain ⟨R, hR⟩ : ∃ R, oneC ⟨6, op, a, b, c, k⟩ cells long = R := ⟨_, rfl⟩
  rw [hR]
  rw [oneC_6] at hR
  have HR : Hid _ := hR
  clear hR
  have ea : hasI ⟨#[97, 98, 107]⟩ 97 = true := by decide
  have eb : hasI ⟨#[97, 98, 107]⟩ 98 = true := by decide
  have ec : hasI ⟨#[97, 98, 107]⟩ 99 = false := by decide
  have ek : hasI ⟨#[97, 98, 107]⟩ 107 = true := by decide
  have eo : hasI ⟨#[97, 98, 107]⟩ 111 = false := by decide
  have ep : hasI ⟨#[97, 98, 107]⟩ 112 = false := by decide
  have er : hasI ⟨#[97, 98, 107]⟩ 114 = false := by decide
  have et : hasI ⟨#[97, 98, 107]⟩ 116 = false := by decide
  unfold iv
  go_enter Try.func28, Try.ntmps28
  go_wp2_with fail
  refine (refParts_6 _).mono ?_
  rintro e w1 ⟨rfl, b1⟩
  have S1 : Hid (Six w1 w.heap.size ⟨6, op, a, b, c, k⟩) := (Six.new w _).block (b1.block _ (Six.new w ⟨6, op, a, b, c, k⟩).lt) b1.size
  have B1 : Hid (Below w.heap.size w w1) := ((Below.refl _ _).alloc (Nat.le_refl _) _).trans (b1.mono (by simp))
  obtain ⟨x0, x1, x2, x3, x4, x5, _⟩ := S1.out
  clear b1
  go_wp2_with (first | (go_at_call 46; refine (has_gen _ _ _ (by decide) (by decide) (by decide)).mono ?_; rintro e w' ⟨rfl, rfl⟩; first | rw [ea] | rw [eb] | rw [ec] | rw [ek] | rw [eo] | rw [ep] | rw [er] | rw [et]) | (go_at_call 47; refine (bad_any _ _).mono ?_; rintro e w' ⟨rfl, rfl⟩) | fail)
  all_goals (go_ret; refine ⟨ret_i ?_, B1.out⟩; rw [← HR.out]; clear S1 B1 x0 x1 x2 x3 x4 x5; (try simp only [bne_iff_ne, bne_eq_false_iff_eq, ne_eq] at *); first | rfl | ((repeat' split) <;> omega))
set_option maxRecDepth 100000 in
set_option maxHeartbeats 4000000 in
theorem refOne_7 (op a b c k cells long : Int) (w : World) : Calls Try.prog 28 #[iv ⟨7, op, a, b, c, k⟩, .int .i64 cells, .int .i64 long] w fun e w' => e = .returned (.int .i64 (oneC ⟨7, op, a, b, c, k⟩ cells long)) ∧ Below w.heap.size w w' := by
  obtain ⟨R, hR⟩ : ∃ R, oneC ⟨7, op, a, b, c, k⟩ cells long = R := ⟨_, rfl⟩
  rw [hR]
  rw [oneC_7] at hR
  have HR : Hid _ := hR
  clear hR
  have ea : hasI ⟨#[97, 98, 107]⟩ 97 = true := by decide
  have eb : hasI ⟨#[97, 98, 107]⟩ 98 = true := by decide
  have ec : hasI ⟨#[97, 98, 107]⟩ 99 = false := by decide
  have ek : hasI ⟨#[97, 98, 107]⟩ 107 = true := by decide
  have eo : hasI ⟨#[97, 98, 107]⟩ 111 = false := by decide
  have ep : hasI ⟨#[97, 98, 107]⟩ 112 = false := by decide
  have er : hasI ⟨#[97, 98, 107]⟩ 114 = false := by decide
  have et : hasI ⟨#[97, 98, 107]⟩ 116 = false := by decide
  unfold iv
  go_enter Try.func28, Try.ntmps28
  go_wp2_with fail
  refine (refParts_7 _).mono ?_
  rintro e w1 ⟨rfl, b1⟩
  have S1 : Hid (Six w1 w.heap.size ⟨7, op, a, b, c, k⟩) := (Six.new w _).block (b1.block _ (Six.new w ⟨7, op, a, b, c, k⟩).lt) b1.size
  have B1 : Hid (Below w.heap.size w w1) := ((Below.refl _ _).alloc (Nat.le_refl _) _).trans (b1.mono (by simp))
  obtain ⟨x0, x1, x2, x3, x4, x5, _⟩ := S1.out
  clear b1
  go_wp2_with (first | (go_at_call 46; refine (has_gen _ _ _ (by decide) (by decide) (by decide)).mono ?_; rintro e w' ⟨rfl, rfl⟩; first | rw [ea] | rw [eb] | rw [ec] | rw [ek] | rw [eo] | rw [ep] | rw [er] | rw [et]) | (go_at_call 47; refine (bad_any _ _).mono ?_; rintro e w' ⟨rfl, rfl⟩) | fail)
  all_goals (go_ret; refine ⟨ret_i ?_, B1.out⟩; rw [← HR.out]; clear S1 B1 x0 x1 x2 x3 x4 x5; (try simp only [bne_iff_ne, bne_eq_false_iff_eq, ne_eq] at *); first | rfl | ((repeat' split) <;> omega))
set_option maxRecDepth 100000 in
set_option maxHeartbeats 4000000 in
theorem refOne_8 (op a b c k cells long : Int) (w : World) : Calls Try.prog 28 #[iv ⟨8, op, a, b, c, k⟩, .int .i64 cells, .int .i64 long] w fun e w' => e = .returned (.int .i64 (oneC ⟨8, op, a, b, c, k⟩ cells long)) ∧ Below w.heap.size w w' := by
  obtain ⟨R, hR⟩ : ∃ R, oneC ⟨8, op, a, b, c, k⟩ cells long = R := ⟨_, rfl⟩
  rw [hR]
  rw [oneC_8] at hR
  have HR : Hid _ := hR
  clear hR
  have ea : hasI ⟨#[97, 114]⟩ 97 = true := by decide
  have eb : hasI ⟨#[97, 114]⟩ 98 = false := by decide
  have ec : hasI ⟨#[97, 114]⟩ 99 = false := by decide
  have ek : hasI ⟨#[97, 114]⟩ 107 = false := by decide
  have eo : hasI ⟨#[97, 114]⟩ 111 = false := by decide
  have ep : hasI ⟨#[97, 114]⟩ 112 = false := by decide
  have er : hasI ⟨#[97, 114]⟩ 114 = true := by decide
  have et : hasI ⟨#[97, 114]⟩ 116 = false := by decide
  unfold iv
  go_enter Try.func28, Try.ntmps28
  go_wp2_with fail
  refine (refParts_8 _).mono ?_
  rintro e w1 ⟨rfl, b1⟩
  have S1 : Hid (Six w1 w.heap.size ⟨8, op, a, b, c, k⟩) := (Six.new w _).block (b1.block _ (Six.new w ⟨8, op, a, b, c, k⟩).lt) b1.size
  have B1 : Hid (Below w.heap.size w w1) := ((Below.refl _ _).alloc (Nat.le_refl _) _).trans (b1.mono (by simp))
  obtain ⟨x0, x1, x2, x3, x4, x5, _⟩ := S1.out
  clear b1
  go_wp2_with (first | (go_at_call 46; refine (has_gen _ _ _ (by decide) (by decide) (by decide)).mono ?_; rintro e w' ⟨rfl, rfl⟩; first | rw [ea] | rw [eb] | rw [ec] | rw [ek] | rw [eo] | rw [ep] | rw [er] | rw [et]) | (go_at_call 47; refine (bad_any _ _).mono ?_; rintro e w' ⟨rfl, rfl⟩) | fail)
  all_goals (go_ret; refine ⟨ret_i ?_, B1.out⟩; rw [← HR.out]; clear S1 B1 x0 x1 x2 x3 x4 x5; (try simp only [bne_iff_ne, bne_eq_false_iff_eq, ne_eq] at *); first | rfl | ((repeat' split) <;> omega))
end Go.Proofs.Ytcaefimnhoeimaa
