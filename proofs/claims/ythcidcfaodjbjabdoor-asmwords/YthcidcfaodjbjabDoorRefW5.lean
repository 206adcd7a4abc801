/- What the document's Word answers, some kinds. -/
import Derived.Test.YthcidcfaodjbjabDoorWord
import Derived.Test.YthcidcfaodjbjabDoorIRef
import Derived.Test.YthcidcfaodjbjabDoorRefW0
namespace Go.Proofs.YthcidcfaodjbjabDoor
open Go.RowKit
set_option linter.unusedVariables false
set_option linter.unusedSimpArgs false
set_option maxRecDepth 100000 in
set_option maxHeartbeats 4000000 in
theorem refWord_5_13 (a b c k : Int) (w : World) : Calls Tryd.prog 7 #[iv ⟨5, 13, a, b, c, k⟩] w fun e w' => e = .returned (.tuple #[.string ⟨(wordOf ⟨5, 13, a, b, c, k⟩).1.toArray⟩, .string ⟨(wordOf ⟨5, 13, a, b, c, k⟩).2.toArray⟩]) ∧ Below w.heap.size w w' := by
  rw [show wordOf ⟨5, 13, a, b, c, k⟩ = ([108, 116], [97, 98, 99]) by simp [wordOf, bareI, wordGo, saysL]]
  have e116 : ((((⟨#[111, 97, 98, 99]⟩ : ByteArray)[3]).toNat : Int) == 116) = false := by rfl
  unfold iv
  go_enter Tryd.func7, Tryd.ntmps7
  go_wp2_with fail
  refine (refParts_5 _).mono ?_
  rintro e w1 ⟨rfl, b1⟩
  have B1 : Hid (Below w.heap.size w w1) := ((((Below.refl _ _).alloc (Nat.le_refl _) _).alloc (by simp) _).alloc (by simp; omega) _).trans (b1.mono (by simp; omega))
  have g0 : w1.cell? ⟨w.heap.size, 0, none⟩ = some (.int .i64 5) := (cell_of_row w1 w.heap.size 0 _ _ _ ((b1.block _ (by simp; omega)).trans (three_0 w _ _ _))).trans rfl
  have g1 : w1.cell? ⟨w.heap.size, 1, none⟩ = some (.int .i64 13) := (cell_of_row w1 w.heap.size 1 _ _ _ ((b1.block _ (by simp; omega)).trans (three_0 w _ _ _))).trans rfl
  have g2 : w1.cell? ⟨w.heap.size + 1, 12, none⟩ = some (.string ⟨#[108, 116]⟩) := (cell_of_row w1 (w.heap.size + 1) 12 _ _ _ ((b1.block _ (by simp)).trans (three_1 w _ _ _))).trans rfl
  clear b1
  go_wp2_with fail
  go_quiet (fail)
  go_wp2
  go_ret2
  exact ⟨rfl, below_drewN B1.out _⟩
set_option maxRecDepth 100000 in
set_option maxHeartbeats 4000000 in
theorem refWord_5_14 (a b c k : Int) (w : World) : Calls Tryd.prog 7 #[iv ⟨5, 14, a, b, c, k⟩] w fun e w' => e = .returned (.tuple #[.string ⟨(wordOf ⟨5, 14, a, b, c, k⟩).1.toArray⟩, .string ⟨(wordOf ⟨5, 14, a, b, c, k⟩).2.toArray⟩]) ∧ Below w.heap.size w w' := by
  rw [show wordOf ⟨5, 14, a, b, c, k⟩ = ([108, 101], [97, 98, 99]) by simp [wordOf, bareI, wordGo, saysL]]
  have e116 : ((((⟨#[111, 97, 98, 99]⟩ : ByteArray)[3]).toNat : Int) == 116) = false := by rfl
  unfold iv
  go_enter Tryd.func7, Tryd.ntmps7
  go_wp2_with fail
  refine (refParts_5 _).mono ?_
  rintro e w1 ⟨rfl, b1⟩
  have B1 : Hid (Below w.heap.size w w1) := ((((Below.refl _ _).alloc (Nat.le_refl _) _).alloc (by simp) _).alloc (by simp; omega) _).trans (b1.mono (by simp; omega))
  have g0 : w1.cell? ⟨w.heap.size, 0, none⟩ = some (.int .i64 5) := (cell_of_row w1 w.heap.size 0 _ _ _ ((b1.block _ (by simp; omega)).trans (three_0 w _ _ _))).trans rfl
  have g1 : w1.cell? ⟨w.heap.size, 1, none⟩ = some (.int .i64 14) := (cell_of_row w1 w.heap.size 1 _ _ _ ((b1.block _ (by simp; omega)).trans (three_0 w _ _ _))).trans rfl
  have g2 : w1.cell? ⟨w.heap.size + 1, 13, none⟩ = some (.string ⟨#[108, 101]⟩) := (cell_of_row w1 (w.heap.size + 1) 13 _ _ _ ((b1.block _ (by simp)).trans (three_1 w _ _ _))).trans rfl
  clear b1
  go_wp2_with fail
  go_quiet (fail)
  go_wp2
  go_ret2
  exact ⟨rfl, below_drewN B1.out _⟩
set_option maxRecDepth 100000 in
set_option maxHeartbeats 4000000 in
theorem refWord_5_15 (a b c k : Int) (w : World) : Calls Tryd.prog 7 #[iv ⟨5, 15, a, b, c, k⟩] w fun e w' => e = .returned (.tuple #[.string ⟨(wordOf ⟨5, 15, a, b, c, k⟩).1.toArray⟩, .string ⟨(wordOf ⟨5, 15, a, b, c, k⟩).2.toArray⟩]) ∧ Below w.heap.size w w' := by
  rw [show wordOf ⟨5, 15, a, b, c, k⟩ = ([103, 116], [97, 98, 99]) by simp [wordOf, bareI, wordGo, saysL]]
  have e116 : ((((⟨#[111, 97, 98, 99]⟩ : ByteArray)[3]).toNat : Int) == 116) = false := by rfl
  unfold iv
  go_enter Tryd.func7, Tryd.ntmps7
  go_wp2_with fail
  refine (refParts_5 _).mono ?_
  rintro e w1 ⟨rfl, b1⟩
  have B1 : Hid (Below w.heap.size w w1) := ((((Below.refl _ _).alloc (Nat.le_refl _) _).alloc (by simp) _).alloc (by simp; omega) _).trans (b1.mono (by simp; omega))
  have g0 : w1.cell? ⟨w.heap.size, 0, none⟩ = some (.int .i64 5) := (cell_of_row w1 w.heap.size 0 _ _ _ ((b1.block _ (by simp; omega)).trans (three_0 w _ _ _))).trans rfl
  have g1 : w1.cell? ⟨w.heap.size, 1, none⟩ = some (.int .i64 15) := (cell_of_row w1 w.heap.size 1 _ _ _ ((b1.block _ (by simp; omega)).trans (three_0 w _ _ _))).trans rfl
  have g2 : w1.cell? ⟨w.heap.size + 1, 14, none⟩ = some (.string ⟨#[103, 116]⟩) := (cell_of_row w1 (w.heap.size + 1) 14 _ _ _ ((b1.block _ (by simp)).trans (three_1 w _ _ _))).trans rfl
  clear b1
  go_wp2_with fail
  go_quiet (fail)
  go_wp2
  go_ret2
  exact ⟨rfl, below_drewN B1.out _⟩
set_option maxRecDepth 100000 in
set_option maxHeartbeats 4000000 in
theorem refWord_5_16 (a b c k : Int) (w : World) : Calls Tryd.prog 7 #[iv ⟨5, 16, a, b, c, k⟩] w fun e w' => e = .returned (.tuple #[.string ⟨(wordOf ⟨5, 16, a, b, c, k⟩).1.toArray⟩, .string ⟨(wordOf ⟨5, 16, a, b, c, k⟩).2.toArray⟩]) ∧ Below w.heap.size w w' := by
  rw [show wordOf ⟨5, 16, a, b, c, k⟩ = ([103, 101], [97, 98, 99]) by simp [wordOf, bareI, wordGo, saysL]]
  have e116 : ((((⟨#[111, 97, 98, 99]⟩ : ByteArray)[3]).toNat : Int) == 116) = false := by rfl
  unfold iv
  go_enter Tryd.func7, Tryd.ntmps7
  go_wp2_with fail
  refine (refParts_5 _).mono ?_
  rintro e w1 ⟨rfl, b1⟩
  have B1 : Hid (Below w.heap.size w w1) := ((((Below.refl _ _).alloc (Nat.le_refl _) _).alloc (by simp) _).alloc (by simp; omega) _).trans (b1.mono (by simp; omega))
  have g0 : w1.cell? ⟨w.heap.size, 0, none⟩ = some (.int .i64 5) := (cell_of_row w1 w.heap.size 0 _ _ _ ((b1.block _ (by simp; omega)).trans (three_0 w _ _ _))).trans rfl
  have g1 : w1.cell? ⟨w.heap.size, 1, none⟩ = some (.int .i64 16) := (cell_of_row w1 w.heap.size 1 _ _ _ ((b1.block _ (by simp; omega)).trans (three_0 w _ _ _))).trans rfl
  have g2 : w1.cell? ⟨w.heap.size + 1, 15, none⟩ = some (.string ⟨#[103, 101]⟩) := (cell_of_row w1 (w.heap.size + 1) 15 _ _ _ ((b1.block _ (by simp)).trans (three_1 w _ _ _))).trans rfl
  clear b1
  go_wp2_with fail
  go_quiet (fail)
  go_wp2
  go_ret2
  exact ⟨rfl, below_drewN B1.out _⟩
set_option maxRecDepth 100000 in
set_option maxHeartbeats 4000000 in
theorem refWord_5_17 (a b c k : Int) (w : World) : Calls Tryd.prog 7 #[iv ⟨5, 17, a, b, c, k⟩] w fun e w' => e = .returned (.tuple #[.string ⟨(wordOf ⟨5, 17, a, b, c, k⟩).1.toArray⟩, .string ⟨(wordOf ⟨5, 17, a, b, c, k⟩).2.toArray⟩]) ∧ Below w.heap.size w w' := by
  rw [show wordOf ⟨5, 17, a, b, c, k⟩ = ([109, 105, 110], [97, 98, 99]) by simp [wordOf, bareI, wordGo, saysL]]
  have e116 : ((((⟨#[111, 97, 98, 99]⟩ : ByteArray)[3]).toNat : Int) == 116) = false := by rfl
  unfold iv
  go_enter Tryd.func7, Tryd.ntmps7
  go_wp2_with fail
  refine (refParts_5 _).mono ?_
  rintro e w1 ⟨rfl, b1⟩
  have B1 : Hid (Below w.heap.size w w1) := ((((Below.refl _ _).alloc (Nat.le_refl _) _).alloc (by simp) _).alloc (by simp; omega) _).trans (b1.mono (by simp; omega))
  have g0 : w1.cell? ⟨w.heap.size, 0, none⟩ = some (.int .i64 5) := (cell_of_row w1 w.heap.size 0 _ _ _ ((b1.block _ (by simp; omega)).trans (three_0 w _ _ _))).trans rfl
  have g1 : w1.cell? ⟨w.heap.size, 1, none⟩ = some (.int .i64 17) := (cell_of_row w1 w.heap.size 1 _ _ _ ((b1.block _ (by simp; omega)).trans (three_0 w _ _ _))).trans rfl
  have g2 : w1.cell? ⟨w.heap.size + 1, 16, none⟩ = some (.string ⟨#[109, 105, 110]⟩) := (cell_of_row w1 (w.heap.size + 1) 16 _ _ _ ((b1.block _ (by simp)).trans (three_1 w _ _ _))).trans rfl
  clear b1
  go_wp2_with fail
  go_quiet (fail)
  go_wp2
  go_ret2
  exact ⟨rfl, below_drewN B1.out _⟩
set_option maxRecDepth 100000 in
set_option maxHeartbeats 4000000 in
theorem refWord_5_18 (a b c k : Int) (w : World) : Calls Tryd.prog 7 #[iv ⟨5, 18, a, b, c, k⟩] w fun e w' => e = .returned (.tuple #[.string ⟨(wordOf ⟨5, 18, a, b, c, k⟩).1.toArray⟩, .string ⟨(wordOf ⟨5, 18, a, b, c, k⟩).2.toArray⟩]) ∧ Below w.heap.size w w' := by
  rw [show wordOf ⟨5, 18, a, b, c, k⟩ = ([109, 97, 120], [97, 98, 99]) by simp [wordOf, bareI, wordGo, saysL]]
  have e116 : ((((⟨#[111, 97, 98, 99]⟩ : ByteArray)[3]).toNat : Int) == 116) = false := by rfl
  unfold iv
  go_enter Tryd.func7, Tryd.ntmps7
  go_wp2_with fail
  refine (refParts_5 _).mono ?_
  rintro e w1 ⟨rfl, b1⟩
  have B1 : Hid (Below w.heap.size w w1) := ((((Below.refl _ _).alloc (Nat.le_refl _) _).alloc (by simp) _).alloc (by simp; omega) _).trans (b1.mono (by simp; omega))
  have g0 : w1.cell? ⟨w.heap.size, 0, none⟩ = some (.int .i64 5) := (cell_of_row w1 w.heap.size 0 _ _ _ ((b1.block _ (by simp; omega)).trans (three_0 w _ _ _))).trans rfl
  have g1 : w1.cell? ⟨w.heap.size, 1, none⟩ = some (.int .i64 18) := (cell_of_row w1 w.heap.size 1 _ _ _ ((b1.block _ (by simp; omega)).trans (three_0 w _ _ _))).trans rfl
  have g2 : w1.cell? ⟨w.heap.size + 1, 17, none⟩ = some (.string ⟨#[109, 97, 120]⟩) := (cell_of_row w1 (w.heap.size + 1) 17 _ _ _ ((b1.block _ (by simp)).trans (three_1 w _ _ _))).trans rfl
  clear b1
  go_wp2_with fail
  go_quiet (fail)
  go_wp2
  go_ret2
  exact ⟨rfl, below_drewN B1.out _⟩
end Go.Proofs.YthcidcfaodjbjabDoor
