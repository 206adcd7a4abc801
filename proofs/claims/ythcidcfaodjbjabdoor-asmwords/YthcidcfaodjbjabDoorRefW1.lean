/- What the document's Word answers, some kinds. -/
import Derived.Test.YthcidcfaodjbjabDoorWord
import Derived.Test.YthcidcfaodjbjabDoorIRef
import Derived.Test.YthcidcfaodjbjabDoorRefW0
namespace Go.Proofs.YthcidcfaodjbjabDoor
open Go.RowKit
set_option linter.unusedVariables false
set_option linter.unusedSimpArgs false
set_option maxRecDepth 100000 in
set_option maxHeartbeats 4000000 in
theorem refWord_1 (p a b c k : Int) (w : World) : Calls Tryd.prog 7 #[iv ⟨1, p, a, b, c, k⟩] w fun e w' => e = .returned (.tuple #[.string ⟨(wordOf ⟨1, p, a, b, c, k⟩).1.toArray⟩, .string ⟨(wordOf ⟨1, p, a, b, c, k⟩).2.toArray⟩]) ∧ Below w.heap.size w w' := by
  rw [show wordOf ⟨1, p, a, b, c, k⟩ = ([104, 97, 108, 116], []) by simp [wordOf, bareI, wordGo, saysL]]
  unfold iv
  go_enter Tryd.func7, Tryd.ntmps7
  go_wp2_with fail
  refine (refParts_1 _).mono ?_
  rintro e w1 ⟨rfl, b1⟩
  have B1 : Hid (Below w.heap.size w w1) := ((((Below.refl _ _).alloc (Nat.le_refl _) _).alloc (by simp) _).alloc (by simp; omega) _).trans (b1.mono (by simp; omega))
  have g0 : w1.cell? ⟨w.heap.size, 0, none⟩ = some (.int .i64 1) := (cell_of_row w1 w.heap.size 0 _ _ _ ((b1.block _ (by simp; omega)).trans (three_0 w _ _ _))).trans rfl
  have g1 : w1.cell? ⟨w.heap.size, 1, none⟩ = some (.int .i64 p) := (cell_of_row w1 w.heap.size 1 _ _ _ ((b1.block _ (by simp; omega)).trans (three_0 w _ _ _))).trans rfl
  have g2 : w1.cell? ⟨w.heap.size + 1 + 1, 0, none⟩ = some (.string ⟨#[104, 97, 108, 116]⟩) := (cell_of_row w1 (w.heap.size + 1 + 1) 0 _ _ _ ((b1.block _ (by simp)).trans (three_2 w _ _ _))).trans rfl
  clear b1
  go_wp2
  go_ret2
  exact ⟨rfl, B1.out⟩
set_option maxRecDepth 100000 in
set_option maxHeartbeats 4000000 in
theorem refWord_2 (p a b c k : Int) (w : World) : Calls Tryd.prog 7 #[iv ⟨2, p, a, b, c, k⟩] w fun e w' => e = .returned (.tuple #[.string ⟨(wordOf ⟨2, p, a, b, c, k⟩).1.toArray⟩, .string ⟨(wordOf ⟨2, p, a, b, c, k⟩).2.toArray⟩]) ∧ Below w.heap.size w w' := by
  rw [show wordOf ⟨2, p, a, b, c, k⟩ = ([99, 111, 110, 115, 116], [97, 107]) by simp [wordOf, bareI, wordGo, saysL]]
  have e116 : ((((⟨#[97, 107]⟩ : ByteArray)[1]).toNat : Int) == 116) = false := by rfl
  unfold iv
  go_enter Tryd.func7, Tryd.ntmps7
  go_wp2_with fail
  refine (refParts_2 _).mono ?_
  rintro e w1 ⟨rfl, b1⟩
  have B1 : Hid (Below w.heap.size w w1) := ((((Below.refl _ _).alloc (Nat.le_refl _) _).alloc (by simp) _).alloc (by simp; omega) _).trans (b1.mono (by simp; omega))
  have g0 : w1.cell? ⟨w.heap.size, 0, none⟩ = some (.int .i64 2) := (cell_of_row w1 w.heap.size 0 _ _ _ ((b1.block _ (by simp; omega)).trans (three_0 w _ _ _))).trans rfl
  have g1 : w1.cell? ⟨w.heap.size, 1, none⟩ = some (.int .i64 p) := (cell_of_row w1 w.heap.size 1 _ _ _ ((b1.block _ (by simp; omega)).trans (three_0 w _ _ _))).trans rfl
  have g2 : w1.cell? ⟨w.heap.size + 1 + 1, 1, none⟩ = some (.string ⟨#[99, 111, 110, 115, 116]⟩) := (cell_of_row w1 (w.heap.size + 1 + 1) 1 _ _ _ ((b1.block _ (by simp)).trans (three_2 w _ _ _))).trans rfl
  clear b1
  go_wp2
  go_ret2
  exact ⟨rfl, B1.out⟩
set_option maxRecDepth 100000 in
set_option maxHeartbeats 4000000 in
theorem refWord_3 (p a b c k : Int) (w : World) : Calls Tryd.prog 7 #[iv ⟨3, p, a, b, c, k⟩] w fun e w' => e = .returned (.tuple #[.string ⟨(wordOf ⟨3, p, a, b, c, k⟩).1.toArray⟩, .string ⟨(wordOf ⟨3, p, a, b, c, k⟩).2.toArray⟩]) ∧ Below w.heap.size w w' := by
  rw [show wordOf ⟨3, p, a, b, c, k⟩ = ([109, 111, 118, 101], [97, 98]) by simp [wordOf, bareI, wordGo, saysL]]
  have e116 : ((((⟨#[97, 98]⟩ : ByteArray)[1]).toNat : Int) == 116) = false := by rfl
  unfold iv
  go_enter Tryd.func7, Tryd.ntmps7
  go_wp2_with fail
  refine (refParts_3 _).mono ?_
  rintro e w1 ⟨rfl, b1⟩
  have B1 : Hid (Below w.heap.size w w1) := ((((Below.refl _ _).alloc (Nat.le_refl _) _).alloc (by simp) _).alloc (by simp; omega) _).trans (b1.mono (by simp; omega))
  have g0 : w1.cell? ⟨w.heap.size, 0, none⟩ = some (.int .i64 3) := (cell_of_row w1 w.heap.size 0 _ _ _ ((b1.block _ (by simp; omega)).trans (three_0 w _ _ _))).trans rfl
  have g1 : w1.cell? ⟨w.heap.size, 1, none⟩ = some (.int .i64 p) := (cell_of_row w1 w.heap.size 1 _ _ _ ((b1.block _ (by simp; omega)).trans (three_0 w _ _ _))).trans rfl
  have g2 : w1.cell? ⟨w.heap.size + 1 + 1, 2, none⟩ = some (.string ⟨#[109, 111, 118, 101]⟩) := (cell_of_row w1 (w.heap.size + 1 + 1) 2 _ _ _ ((b1.block _ (by simp)).trans (three_2 w _ _ _))).trans rfl
  clear b1
  go_wp2
  go_ret2
  exact ⟨rfl, B1.out⟩
set_option maxRecDepth 100000 in
set_option maxHeartbeats 4000000 in
theorem refWord_6 (p a b c k : Int) (w : World) : Calls Tryd.prog 7 #[iv ⟨6, p, a, b, c, k⟩] w fun e w' => e = .returned (.tuple #[.string ⟨(wordOf ⟨6, p, a, b, c, k⟩).1.toArray⟩, .string ⟨(wordOf ⟨6, p, a, b, c, k⟩).2.toArray⟩]) ∧ Below w.heap.size w w' := by
  rw [show wordOf ⟨6, p, a, b, c, k⟩ = ([108, 111, 97, 100], [97, 98, 107]) by simp [wordOf, bareI, wordGo, saysL]]
  have e116 : ((((⟨#[97, 98, 107]⟩ : ByteArray)[2]).toNat : Int) == 116) = false := by rfl
  unfold iv
  go_enter Tryd.func7, Tryd.ntmps7
  go_wp2_with fail
  refine (refParts_6 _).mono ?_
  rintro e w1 ⟨rfl, b1⟩
  have B1 : Hid (Below w.heap.size w w1) := ((((Below.refl _ _).alloc (Nat.le_refl _) _).alloc (by simp) _).alloc (by simp; omega) _).trans (b1.mono (by simp; omega))
  have g0 : w1.cell? ⟨w.heap.size, 0, none⟩ = some (.int .i64 6) := (cell_of_row w1 w.heap.size 0 _ _ _ ((b1.block _ (by simp; omega)).trans (three_0 w _ _ _))).trans rfl
  have g1 : w1.cell? ⟨w.heap.size, 1, none⟩ = some (.int .i64 p) := (cell_of_row w1 w.heap.size 1 _ _ _ ((b1.block _ (by simp; omega)).trans (three_0 w _ _ _))).trans rfl
  have g2 : w1.cell? ⟨w.heap.size + 1 + 1, 5, none⟩ = some (.string ⟨#[108, 111, 97, 100]⟩) := (cell_of_row w1 (w.heap.size + 1 + 1) 5 _ _ _ ((b1.block _ (by simp)).trans (three_2 w _ _ _))).trans rfl
  clear b1
  go_wp2
  go_ret2
  exact ⟨rfl, B1.out⟩
set_option maxRecDepth 100000 in
set_option maxHeartbeats 4000000 in
theorem refWord_7 (p a b c k : Int) (w : World) : Calls Tryd.prog 7 #[iv ⟨7, p, a, b, c, k⟩] w fun e w' => e = .returned (.tuple #[.string ⟨(wordOf ⟨7, p, a, b, c, k⟩).1.toArray⟩, .string ⟨(wordOf ⟨7, p, a, b, c, k⟩).2.toArray⟩]) ∧ Below w.heap.size w w' := by
  rw [show wordOf ⟨7, p, a, b, c, k⟩ = ([115, 116, 111, 114, 101], [97, 98, 107]) by simp [wordOf, bareI, wordGo, saysL]]
  have e116 : ((((⟨#[97, 98, 107]⟩ : ByteArray)[2]).toNat : Int) == 116) = false := by rfl
  unfold iv
  go_enter Tryd.func7, Tryd.ntmps7
  go_wp2_with fail
  refine (refParts_7 _).mono ?_
  rintro e w1 ⟨rfl, b1⟩
  have B1 : Hid (Below w.heap.size w w1) := ((((Below.refl _ _).alloc (Nat.le_refl _) _).alloc (by simp) _).alloc (by simp; omega) _).trans (b1.mono (by simp; omega))
  have g0 : w1.cell? ⟨w.heap.size, 0, none⟩ = some (.int .i64 7) := (cell_of_row w1 w.heap.size 0 _ _ _ ((b1.block _ (by simp; omega)).trans (three_0 w _ _ _))).trans rfl
  have g1 : w1.cell? ⟨w.heap.size, 1, none⟩ = some (.int .i64 p) := (cell_of_row w1 w.heap.size 1 _ _ _ ((b1.block _ (by simp; omega)).trans (three_0 w _ _ _))).trans rfl
  have g2 : w1.cell? ⟨w.heap.size + 1 + 1, 6, none⟩ = some (.string ⟨#[115, 116, 111, 114, 101]⟩) := (cell_of_row w1 (w.heap.size + 1 + 1) 6 _ _ _ ((b1.block _ (by simp)).trans (three_2 w _ _ _))).trans rfl
  clear b1
  go_wp2
  go_ret2
  exact ⟨rfl, B1.out⟩
set_option maxRecDepth 100000 in
set_option maxHeartbeats 4000000 in
theorem refWord_8 (p a b c k : Int) (w : World) : Calls Tryd.prog 7 #[iv ⟨8, p, a, b, c, k⟩] w fun e w' => e = .returned (.tuple #[.string ⟨(wordOf ⟨8, p, a, b, c, k⟩).1.toArray⟩, .string ⟨(wordOf ⟨8, p, a, b, c, k⟩).2.toArray⟩]) ∧ Below w.heap.size w w' := by
  rw [show wordOf ⟨8, p, a, b, c, k⟩ = ([105, 110, 116, 111], [97, 114]) by simp [wordOf, bareI, wordGo, saysL]]
  have e116 : ((((⟨#[97, 114]⟩ : ByteArray)[1]).toNat : Int) == 116) = false := by rfl
  unfold iv
  go_enter Tryd.func7, Tryd.ntmps7
  go_wp2_with fail
  refine (refParts_8 _).mono ?_
  rintro e w1 ⟨rfl, b1⟩
  have B1 : Hid (Below w.heap.size w w1) := ((((Below.refl _ _).alloc (Nat.le_refl _) _).alloc (by simp) _).alloc (by simp; omega) _).trans (b1.mono (by simp; omega))
  have g0 : w1.cell? ⟨w.heap.size, 0, none⟩ = some (.int .i64 8) := (cell_of_row w1 w.heap.size 0 _ _ _ ((b1.block _ (by simp; omega)).trans (three_0 w _ _ _))).trans rfl
  have g1 : w1.cell? ⟨w.heap.size, 1, none⟩ = some (.int .i64 p) := (cell_of_row w1 w.heap.size 1 _ _ _ ((b1.block _ (by simp; omega)).trans (three_0 w _ _ _))).trans rfl
  have g2 : w1.cell? ⟨w.heap.size + 1 + 1, 7, none⟩ = some (.string ⟨#[105, 110, 116, 111]⟩) := (cell_of_row w1 (w.heap.size + 1 + 1) 7 _ _ _ ((b1.block _ (by simp)).trans (three_2 w _ _ _))).trans rfl
  clear b1
  go_wp2
  go_ret2
  exact ⟨rfl, B1.out⟩
end Go.Proofs.YthcidcfaodjbjabDoor
