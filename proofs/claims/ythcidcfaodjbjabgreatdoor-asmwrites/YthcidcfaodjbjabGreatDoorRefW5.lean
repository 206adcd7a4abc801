/- What the document's Word answers, some kinds. -/
import Derived.Test.YthcidcfaodjbjabGreatDoorWord
import Derived.Test.YthcidcfaodjbjabGreatDoorIRef
import Derived.Test.YthcidcfaodjbjabGreatDoorRefW0
namespace Go.Proofs.YthcidcfaodjbjabGreatDoor
open Go.RowKit
set_option linter.unusedVariables false
set_option linter.unusedSimpArgs false
set_option maxRecDepth 100000 in
set_option maxHeartbeats 4000000 in
theorem refWord_5_6 (a b c k : Int) (w : World) : Calls Tryz.prog 31 #[iv ⟨5, 6, a, b, c, k⟩] w fun e w' => e = .returned (.tuple #[.string ⟨(wordOf ⟨5, 6, a, b, c, k⟩).1.toArray⟩, .string ⟨(wordOf ⟨5, 6, a, b, c, k⟩).2.toArray⟩]) ∧ Below w.heap.size w w' := by
  rw [show wordOf ⟨5, 6, a, b, c, k⟩ = ([97, 110, 100], [97, 98, 99]) by simp [wordOf, bareI, wordGo, saysL]]
  have e116 : ((((⟨#[111, 97, 98, 99]⟩ : ByteArray)[3]).toNat : Int) == 116) = false := by rfl
  unfold iv
  go_enter Tryz.func31, Tryz.ntmps31
  go_wp2_with fail
  refine (refParts_5 _).mono ?_
  rintro e w1 ⟨rfl, b1⟩
  have B1 : Hid (Below w.heap.size w w1) := ((((Below.refl _ _).alloc (Nat.le_refl _) _).alloc (by simp) _).alloc (by simp; omega) _).trans (b1.mono (by simp; omega))
  have g0 : w1.cell? ⟨w.heap.size, 0, none⟩ = some (.int .i64 5) := (cell_of_row w1 w.heap.size 0 _ _ _ ((b1.block _ (by simp; omega)).trans (three_0 w _ _ _))).trans rfl
  have g1 : w1.cell? ⟨w.heap.size, 1, none⟩ = some (.int .i64 6) := (cell_of_row w1 w.heap.size 1 _ _ _ ((b1.block _ (by simp; omega)).trans (three_0 w _ _ _))).trans rfl
  have g2 : w1.cell? ⟨w.heap.size + 1, 5, none⟩ = some (.string ⟨#[97, 110, 100]⟩) := (cell_of_row w1 (w.heap.size + 1) 5 _ _ _ ((b1.block _ (by simp)).trans (three_1 w _ _ _))).trans rfl
  clear b1
  go_wp2_with fail
  go_quiet (fail)
  go_wp2
  go_ret2
  exact ⟨rfl, below_drewN B1.out _⟩
set_option maxRecDepth 100000 in
set_option maxHeartbeats 4000000 in
theorem refWord_5_7 (a b c k : Int) (w : World) : Calls Tryz.prog 31 #[iv ⟨5, 7, a, b, c, k⟩] w fun e w' => e = .returned (.tuple #[.string ⟨(wordOf ⟨5, 7, a, b, c, k⟩).1.toArray⟩, .string ⟨(wordOf ⟨5, 7, a, b, c, k⟩).2.toArray⟩]) ∧ Below w.heap.size w w' := by
  rw [show wordOf ⟨5, 7, a, b, c, k⟩ = ([111, 114], [97, 98, 99]) by simp [wordOf, bareI, wordGo, saysL]]
  have e116 : ((((⟨#[111, 97, 98, 99]⟩ : ByteArray)[3]).toNat : Int) == 116) = false := by rfl
  unfold iv
  go_enter Tryz.func31, Tryz.ntmps31
  go_wp2_with fail
  refine (refParts_5 _).mono ?_
  rintro e w1 ⟨rfl, b1⟩
  have B1 : Hid (Below w.heap.size w w1) := ((((Below.refl _ _).alloc (Nat.le_refl _) _).alloc (by simp) _).alloc (by simp; omega) _).trans (b1.mono (by simp; omega))
  have g0 : w1.cell? ⟨w.heap.size, 0, none⟩ = some (.int .i64 5) := (cell_of_row w1 w.heap.size 0 _ _ _ ((b1.block _ (by simp; omega)).trans (three_0 w _ _ _))).trans rfl
  have g1 : w1.cell? ⟨w.heap.size, 1, none⟩ = some (.int .i64 7) := (cell_of_row w1 w.heap.size 1 _ _ _ ((b1.block _ (by simp; omega)).trans (three_0 w _ _ _))).trans rfl
  have g2 : w1.cell? ⟨w.heap.size + 1, 6, none⟩ = some (.string ⟨#[111, 114]⟩) := (cell_of_row w1 (w.heap.size + 1) 6 _ _ _ ((b1.block _ (by simp)).trans (three_1 w _ _ _))).trans rfl
  clear b1
  go_wp2_with fail
  go_quiet (fail)
  go_wp2
  go_ret2
  exact ⟨rfl, below_drewN B1.out _⟩
set_option maxRecDepth 100000 in
set_option maxHeartbeats 4000000 in
theorem refWord_5_8 (a b c k : Int) (w : World) : Calls Tryz.prog 31 #[iv ⟨5, 8, a, b, c, k⟩] w fun e w' => e = .returned (.tuple #[.string ⟨(wordOf ⟨5, 8, a, b, c, k⟩).1.toArray⟩, .string ⟨(wordOf ⟨5, 8, a, b, c, k⟩).2.toArray⟩]) ∧ Below w.heap.size w w' := by
  rw [show wordOf ⟨5, 8, a, b, c, k⟩ = ([120, 111, 114], [97, 98, 99]) by simp [wordOf, bareI, wordGo, saysL]]
  have e116 : ((((⟨#[111, 97, 98, 99]⟩ : ByteArray)[3]).toNat : Int) == 116) = false := by rfl
  unfold iv
  go_enter Tryz.func31, Tryz.ntmps31
  go_wp2_with fail
  refine (refParts_5 _).mono ?_
  rintro e w1 ⟨rfl, b1⟩
  have B1 : Hid (Below w.heap.size w w1) := ((((Below.refl _ _).alloc (Nat.le_refl _) _).alloc (by simp) _).alloc (by simp; omega) _).trans (b1.mono (by simp; omega))
  have g0 : w1.cell? ⟨w.heap.size, 0, none⟩ = some (.int .i64 5) := (cell_of_row w1 w.heap.size 0 _ _ _ ((b1.block _ (by simp; omega)).trans (three_0 w _ _ _))).trans rfl
  have g1 : w1.cell? ⟨w.heap.size, 1, none⟩ = some (.int .i64 8) := (cell_of_row w1 w.heap.size 1 _ _ _ ((b1.block _ (by simp; omega)).trans (three_0 w _ _ _))).trans rfl
  have g2 : w1.cell? ⟨w.heap.size + 1, 7, none⟩ = some (.string ⟨#[120, 111, 114]⟩) := (cell_of_row w1 (w.heap.size + 1) 7 _ _ _ ((b1.block _ (by simp)).trans (three_1 w _ _ _))).trans rfl
  clear b1
  go_wp2_with fail
  go_quiet (fail)
  go_wp2
  go_ret2
  exact ⟨rfl, below_drewN B1.out _⟩
set_option maxRecDepth 100000 in
set_option maxHeartbeats 4000000 in
theorem refWord_5_9 (a b c k : Int) (w : World) : Calls Tryz.prog 31 #[iv ⟨5, 9, a, b, c, k⟩] w fun e w' => e = .returned (.tuple #[.string ⟨(wordOf ⟨5, 9, a, b, c, k⟩).1.toArray⟩, .string ⟨(wordOf ⟨5, 9, a, b, c, k⟩).2.toArray⟩]) ∧ Below w.heap.size w w' := by
  rw [show wordOf ⟨5, 9, a, b, c, k⟩ = ([115, 104, 108], [97, 98, 99]) by simp [wordOf, bareI, wordGo, saysL]]
  have e116 : ((((⟨#[111, 97, 98, 99]⟩ : ByteArray)[3]).toNat : Int) == 116) = false := by rfl
  unfold iv
  go_enter Tryz.func31, Tryz.ntmps31
  go_wp2_with fail
  refine (refParts_5 _).mono ?_
  rintro e w1 ⟨rfl, b1⟩
  have B1 : Hid (Below w.heap.size w w1) := ((((Below.refl _ _).alloc (Nat.le_refl _) _).alloc (by simp) _).alloc (by simp; omega) _).trans (b1.mono (by simp; omega))
  have g0 : w1.cell? ⟨w.heap.size, 0, none⟩ = some (.int .i64 5) := (cell_of_row w1 w.heap.size 0 _ _ _ ((b1.block _ (by simp; omega)).trans (three_0 w _ _ _))).trans rfl
  have g1 : w1.cell? ⟨w.heap.size, 1, none⟩ = some (.int .i64 9) := (cell_of_row w1 w.heap.size 1 _ _ _ ((b1.block _ (by simp; omega)).trans (three_0 w _ _ _))).trans rfl
  have g2 : w1.cell? ⟨w.heap.size + 1, 8, none⟩ = some (.string ⟨#[115, 104, 108]⟩) := (cell_of_row w1 (w.heap.size + 1) 8 _ _ _ ((b1.block _ (by simp)).trans (three_1 w _ _ _))).trans rfl
  clear b1
  go_wp2_with fail
  go_quiet (fail)
  go_wp2
  go_ret2
  exact ⟨rfl, below_drewN B1.out _⟩
set_option maxRecDepth 100000 in
set_option maxHeartbeats 4000000 in
theorem refWord_5_10 (a b c k : Int) (w : World) : Calls Tryz.prog 31 #[iv ⟨5, 10, a, b, c, k⟩] w fun e w' => e = .returned (.tuple #[.string ⟨(wordOf ⟨5, 10, a, b, c, k⟩).1.toArray⟩, .string ⟨(wordOf ⟨5, 10, a, b, c, k⟩).2.toArray⟩]) ∧ Below w.heap.size w w' := by
  rw [show wordOf ⟨5, 10, a, b, c, k⟩ = ([115, 104, 114], [97, 98, 99]) by simp [wordOf, bareI, wordGo, saysL]]
  have e116 : ((((⟨#[111, 97, 98, 99]⟩ : ByteArray)[3]).toNat : Int) == 116) = false := by rfl
  unfold iv
  go_enter Tryz.func31, Tryz.ntmps31
  go_wp2_with fail
  refine (refParts_5 _).mono ?_
  rintro e w1 ⟨rfl, b1⟩
  have B1 : Hid (Below w.heap.size w w1) := ((((Below.refl _ _).alloc (Nat.le_refl _) _).alloc (by simp) _).alloc (by simp; omega) _).trans (b1.mono (by simp; omega))
  have g0 : w1.cell? ⟨w.heap.size, 0, none⟩ = some (.int .i64 5) := (cell_of_row w1 w.heap.size 0 _ _ _ ((b1.block _ (by simp; omega)).trans (three_0 w _ _ _))).trans rfl
  have g1 : w1.cell? ⟨w.heap.size, 1, none⟩ = some (.int .i64 10) := (cell_of_row w1 w.heap.size 1 _ _ _ ((b1.block _ (by simp; omega)).trans (three_0 w _ _ _))).trans rfl
  have g2 : w1.cell? ⟨w.heap.size + 1, 9, none⟩ = some (.string ⟨#[115, 104, 114]⟩) := (cell_of_row w1 (w.heap.size + 1) 9 _ _ _ ((b1.block _ (by simp)).trans (three_1 w _ _ _))).trans rfl
  clear b1
  go_wp2_with fail
  go_quiet (fail)
  go_wp2
  go_ret2
  exact ⟨rfl, below_drewN B1.out _⟩
set_option maxRecDepth 100000 in
set_option maxHeartbeats 4000000 in
theorem refWord_5_11 (a b c k : Int) (w : World) : Calls Tryz.prog 31 #[iv ⟨5, 11, a, b, c, k⟩] w fun e w' => e = .returned (.tuple #[.string ⟨(wordOf ⟨5, 11, a, b, c, k⟩).1.toArray⟩, .string ⟨(wordOf ⟨5, 11, a, b, c, k⟩).2.toArray⟩]) ∧ Below w.heap.size w w' := by
  rw [show wordOf ⟨5, 11, a, b, c, k⟩ = ([101, 113], [97, 98, 99]) by simp [wordOf, bareI, wordGo, saysL]]
  have e116 : ((((⟨#[111, 97, 98, 99]⟩ : ByteArray)[3]).toNat : Int) == 116) = false := by rfl
  unfold iv
  go_enter Tryz.func31, Tryz.ntmps31
  go_wp2_with fail
  refine (refParts_5 _).mono ?_
  rintro e w1 ⟨rfl, b1⟩
  have B1 : Hid (Below w.heap.size w w1) := ((((Below.refl _ _).alloc (Nat.le_refl _) _).alloc (by simp) _).alloc (by simp; omega) _).trans (b1.mono (by simp; omega))
  have g0 : w1.cell? ⟨w.heap.size, 0, none⟩ = some (.int .i64 5) := (cell_of_row w1 w.heap.size 0 _ _ _ ((b1.block _ (by simp; omega)).trans (three_0 w _ _ _))).trans rfl
  have g1 : w1.cell? ⟨w.heap.size, 1, none⟩ = some (.int .i64 11) := (cell_of_row w1 w.heap.size 1 _ _ _ ((b1.block _ (by simp; omega)).trans (three_0 w _ _ _))).trans rfl
  have g2 : w1.cell? ⟨w.heap.size + 1, 10, none⟩ = some (.string ⟨#[101, 113]⟩) := (cell_of_row w1 (w.heap.size + 1) 10 _ _ _ ((b1.block _ (by simp)).trans (three_1 w _ _ _))).trans rfl
  clear b1
  go_wp2_with fail
  go_quiet (fail)
  go_wp2
  go_ret2
  exact ⟨rfl, below_drewN B1.out _⟩
set_option maxRecDepth 100000 in
set_option maxHeartbeats 4000000 in
theorem refWord_5_12 (a b c k : Int) (w : World) : Calls Tryz.prog 31 #[iv ⟨5, 12, a, b, c, k⟩] w fun e w' => e = .returned (.tuple #[.string ⟨(wordOf ⟨5, 12, a, b, c, k⟩).1.toArray⟩, .string ⟨(wordOf ⟨5, 12, a, b, c, k⟩).2.toArray⟩]) ∧ Below w.heap.size w w' := by
  rw [show wordOf ⟨5, 12, a, b, c, k⟩ = ([110, 101], [97, 98, 99]) by simp [wordOf, bareI, wordGo, saysL]]
  have e116 : ((((⟨#[111, 97, 98, 99]⟩ : ByteArray)[3]).toNat : Int) == 116) = false := by rfl
  unfold iv
  go_enter Tryz.func31, Tryz.ntmps31
  go_wp2_with fail
  refine (refParts_5 _).mono ?_
  rintro e w1 ⟨rfl, b1⟩
  have B1 : Hid (Below w.heap.size w w1) := ((((Below.refl _ _).alloc (Nat.le_refl _) _).alloc (by simp) _).alloc (by simp; omega) _).trans (b1.mono (by simp; omega))
  have g0 : w1.cell? ⟨w.heap.size, 0, none⟩ = some (.int .i64 5) := (cell_of_row w1 w.heap.size 0 _ _ _ ((b1.block _ (by simp; omega)).trans (three_0 w _ _ _))).trans rfl
  have g1 : w1.cell? ⟨w.heap.size, 1, none⟩ = some (.int .i64 12) := (cell_of_row w1 w.heap.size 1 _ _ _ ((b1.block _ (by simp; omega)).trans (three_0 w _ _ _))).trans rfl
  have g2 : w1.cell? ⟨w.heap.size + 1, 11, none⟩ = some (.string ⟨#[110, 101]⟩) := (cell_of_row w1 (w.heap.size + 1) 11 _ _ _ ((b1.block _ (by simp)).trans (three_1 w _ _ _))).trans rfl
  clear b1
  go_wp2_with fail
  go_quiet (fail)
  go_wp2
  go_ret2
  exact ⟨rfl, below_drewN B1.out _⟩
end Go.Proofs.YthcidcfaodjbjabGreatDoor
namespace Go.Proofs.YthcidcfaodjbjabGreatDoor
open Go.RowKit
set_option linter.unusedVariables false
set_option linter.unusedSimpArgs false
set_option maxRecDepth 100000 in
set_option maxHeartbeats 4000000 in
theorem refWord_5_13 (a b c k : Int) (w : World) : Calls Tryz.prog 31 #[iv ⟨5, 13, a, b, c, k⟩] w fun e w' => e = .returned (.tuple #[.string ⟨(wordOf ⟨5, 13, a, b, c, k⟩).1.toArray⟩, .string ⟨(wordOf ⟨5, 13, a, b, c, k⟩).2.toArray⟩]) ∧ Below w.heap.size w w' := by
  rw [show wordOf ⟨5, 13, a, b, c, k⟩ = ([108, 116], [97, 98, 99]) by simp [wordOf, bareI, wordGo, saysL]]
  have e116 : ((((⟨#[111, 97, 98, 99]⟩ : ByteArray)[3]).toNat : Int) == 116) = false := by rfl
  unfold iv
  go_enter Tryz.func31, Tryz.ntmps31
  go_wp2_with fail
  refine (refParts_5 _).mono ?_
  rintro e w1 ⟨rfl, b1⟩
  have B1 : Hid (Below w.heap.size w w1) := ((((Below.refl _ _).alloc (Nat.le_refl _) _).alloc (by simp) _).alloc (by simp; omega) _).trans (b1.mono (by simp; omega))
  have g0 : w1.cell? ⟨w.heap.size, 0, none⟩ = some (.int .i64 5) := (cell_of_row w1 w.heap.size 0 _ _ _ ((b1.block _ (by simp; omega)).trans (three_0 w _ _ _))).trans rfl
  have g1 : w1.cell? ⟨w.heap.size, 1, none⟩ = some (.int .i64 13) := (cell_of_row w1 w.heap.size 1 _ _ _ ((b1.block _ (by simp; omega)).trans (three_0 w _ _ _))).trans rfl
  have g2 : w1.cell? ⟨w.heap.size + 1, 12, none⟩ = some (.string ⟨#[108, 116]⟩) := (cell_of_row w1 (w.heap.size + 1) 12 _ _ _ ((b1.block _ (by simp)).trans (three_1 w _ _ _))).trans rfl
  clear b1
  go_wp2_with fail
  go_quiet (fail)
  go_wp2
  go_ret2
  exact ⟨rfl, below_drewN B1.out _⟩
set_option maxRecDepth 100000 in
set_option maxHeartbeats 4000000 in
theorem refWord_5_14 (a b c k : Int) (w : World) : Calls Tryz.prog 31 #[iv ⟨5, 14, a, b, c, k⟩] w fun e w' => e = .returned (.tuple #[.string ⟨(wordOf ⟨5, 14, a, b, c, k⟩).1.toArray⟩, .string ⟨(wordOf ⟨5, 14, a, b, c, k⟩).2.toArray⟩]) ∧ Below w.heap.size w w' := by
  rw [show wordOf ⟨5, 14, a, b, c, k⟩ = ([108, 101], [97, 98, 99]) by simp [wordOf, bareI, wordGo, saysL]]
  have e116 : ((((⟨#[111, 97, 98, 99]⟩ : ByteArray)[3]).toNat : Int) == 116) = false := by rfl
  unfold iv
  go_enter Tryz.func31, Tryz.ntmps31
  go_wp2_with fail
  refine (refParts_5 _).mono ?_
  rintro e w1 ⟨rfl, b1⟩
  have B1 : Hid (Below w.heap.size w w1) := ((((Below.refl _ _).alloc (Nat.le_refl _) _).alloc (by simp) _).alloc (by simp; omega) _).trans (b1.mono (by simp; omega))
  have g0 : w1.cell? ⟨w.heap.size, 0, none⟩ = some (.int .i64 5) := (cell_of_row w1 w.heap.size 0 _ _ _ ((b1.block _ (by simp; omega)).trans (three_0 w _ _ _))).trans rfl
  have g1 : w1.cell? ⟨w.heap.size, 1, none⟩ = some (.int .i64 14) := (cell_of_row w1 w.heap.size 1 _ _ _ ((b1.block _ (by simp; omega)).trans (three_0 w _ _ _))).trans rfl
  have g2 : w1.cell? ⟨w.heap.size + 1, 13, none⟩ = some (.string ⟨#[108, 101]⟩) := (cell_of_row w1 (w.heap.size + 1) 13 _ _ _ ((b1.block _ (by simp)).trans (three_1 w _ _ _))).trans rfl
  clear b1
  go_wp2_with fail
  go_quiet (fail)
  go_wp2
  go_ret2
  exact ⟨rfl, below_drewN B1.out _⟩
set_option maxRecDepth 100000 in
set_option maxHeartbeats 4000000 in
theorem refWord_5_15 (a b c k : Int) (w : World) : Calls Tryz.prog 31 #[iv ⟨5, 15, a, b, c, k⟩] w fun e w' => e = .returned (.tuple #[.string ⟨(wordOf ⟨5, 15, a, b, c, k⟩).1.toArray⟩, .string ⟨(wordOf ⟨5, 15, a, b, c, k⟩).2.toArray⟩]) ∧ Below w.heap.size w w' := by
  rw [show wordOf ⟨5, 15, a, b, c, k⟩ = ([103, 116], [97, 98, 99]) by simp [wordOf, bareI, wordGo, saysL]]
  have e116 : ((((⟨#[111, 97, 98, 99]⟩ : ByteArray)[3]).toNat : Int) == 116) = false := by rfl
  unfold iv
  go_enter Tryz.func31, Tryz.ntmps31
  go_wp2_with fail
  refine (refParts_5 _).mono ?_
  rintro e w1 ⟨rfl, b1⟩
  have B1 : Hid (Below w.heap.size w w1) := ((((Below.refl _ _).alloc (Nat.le_refl _) _).alloc (by simp) _).alloc (by simp; omega) _).trans (b1.mono (by simp; omega))
  have g0 : w1.cell? ⟨w.heap.size, 0, none⟩ = some (.int .i64 5) := (cell_of_row w1 w.heap.size 0 _ _ _ ((b1.block _ (by simp; omega)).trans (three_0 w _ _ _))).trans rfl
  have g1 : w1.cell? ⟨w.heap.size, 1, none⟩ = some (.int .i64 15) := (cell_of_row w1 w.heap.size 1 _ _ _ ((b1.block _ (by simp; omega)).trans (three_0 w _ _ _))).trans rfl
  have g2 : w1.cell? ⟨w.heap.size + 1, 14, none⟩ = some (.string ⟨#[103, 116]⟩) := (cell_of_row w1 (w.heap.size + 1) 14 _ _ _ ((b1.block _ (by simp)).trans (three_1 w _ _ _))).trans rfl
  clear b1
  go_wp2_with fail
  go_quiet (fail)
  go_wp2
  go_ret2
  exact ⟨rfl, below_drewN B1.out _⟩
set_option maxRecDepth 100000 in
set_option maxHeartbeats 4000000 in
theorem refWord_5_16 (a b c k : Int) (w : World) : Calls Tryz.prog 31 #[iv ⟨5, 16, a, b, c, k⟩] w fun e w' => e = .returned (.tuple #[.string ⟨(wordOf ⟨5, 16, a, b, c, k⟩).1.toArray⟩, .string ⟨(wordOf ⟨5, 16, a, b, c, k⟩).2.toArray⟩]) ∧ Below w.heap.size w w' := by
  rw [show wordOf ⟨5, 16, a, b, c, k⟩ = ([103, 101], [97, 98, 99]) by simp [wordOf, bareI, wordGo, saysL]]
  have e116 : ((((⟨#[111, 97, 98, 99]⟩ : ByteArray)[3]).toNat : Int) == 116) = false := by rfl
  unfold iv
  go_enter Tryz.func31, Tryz.ntmps31
  go_wp2_with fail
  refine (refParts_5 _).mono ?_
  rintro e w1 ⟨rfl, b1⟩
  have B1 : Hid (Below w.heap.size w w1) := ((((Below.refl _ _).alloc (Nat.le_refl _) _).alloc (by simp) _).alloc (by simp; omega) _).trans (b1.mono (by simp; omega))
  have g0 : w1.cell? ⟨w.heap.size, 0, none⟩ = some (.int .i64 5) := (cell_of_row w1 w.heap.size 0 _ _ _ ((b1.block _ (by simp; omega)).trans (three_0 w _ _ _))).trans rfl
  have g1 : w1.cell? ⟨w.heap.size, 1, none⟩ = some (.int .i64 16) := (cell_of_row w1 w.heap.size 1 _ _ _ ((b1.block _ (by simp; omega)).trans (three_0 w _ _ _))).trans rfl
  have g2 : w1.cell? ⟨w.heap.size + 1, 15, none⟩ = some (.string ⟨#[103, 101]⟩) := (cell_of_row w1 (w.heap.size + 1) 15 _ _ _ ((b1.block _ (by simp)).trans (three_1 w _ _ _))).trans rfl
  clear b1
  go_wp2_with fail
  go_quiet (fail)
  go_wp2
  go_ret2
  exact ⟨rfl, below_drewN B1.out _⟩
set_option maxRecDepth 100000 in
set_option maxHeartbeats 4000000 in
theorem refWord_5_17 (a b c k : Int) (w : World) : Calls Tryz.prog 31 #[iv ⟨5, 17, a, b, c, k⟩] w fun e w' => e = .returned (.tuple #[.string ⟨(wordOf ⟨5, 17, a, b, c, k⟩).1.toArray⟩, .string ⟨(wordOf ⟨5, 17, a, b, c, k⟩).2.toArray⟩]) ∧ Below w.heap.size w w' := by
  rw [show wordOf ⟨5, 17, a, b, c, k⟩ = ([109, 105, 110], [97, 98, 99]) by simp [wordOf, bareI, wordGo, saysL]]
  have e116 : ((((⟨#[111, 97, 98, 99]⟩ : ByteArray)[3]).toNat : Int) == 116) = false := by rfl
  unfold iv
  go_enter Tryz.func31, Tryz.ntmps31
  go_wp2_with fail
  refine (refParts_5 _).mono ?_
  rintro e w1 ⟨rfl, b1⟩
  have B1 : Hid (Below w.heap.size w w1) := ((((Below.refl _ _).alloc (Nat.le_refl _) _).alloc (by simp) _).alloc (by simp; omega) _).trans (b1.mono (by simp; omega))
  have g0 : w1.cell? ⟨w.heap.size, 0, none⟩ = some (.int .i64 5) := (cell_of_row w1 w.heap.size 0 _ _ _ ((b1.block _ (by simp; omega)).trans (three_0 w _ _ _))).trans rfl
  have g1 : w1.cell? ⟨w.heap.size, 1, none⟩ = some (.int .i64 17) := (cell_of_row w1 w.heap.size 1 _ _ _ ((b1.block _ (by simp; omega)).trans (three_0 w _ _ _))).trans rfl
  have g2 : w1.cell? ⟨w.heap.size + 1, 16, none⟩ = some (.string ⟨#[109, 105, 110]⟩) := (cell_of_row w1 (w.heap.size + 1) 16 _ _ _ ((b1.block _ (by simp)).trans (three_1 w _ _ _))).trans rfl
  clear b1
  go_wp2_with fail
  go_quiet (fail)
  go_wp2
  go_ret2
  exact ⟨rfl, below_drewN B1.out _⟩
set_option maxRecDepth 100000 in
set_option maxHeartbeats 4000000 in
theorem refWord_5_18 (a b c k : Int) (w : World) : Calls Tryz.prog 31 #[iv ⟨5, 18, a, b, c, k⟩] w fun e w' => e = .returned (.tuple #[.string ⟨(wordOf ⟨5, 18, a, b, c, k⟩).1.toArray⟩, .string ⟨(wordOf ⟨5, 18, a, b, c, k⟩).2.toArray⟩]) ∧ Below w.heap.size w w' := by
  rw [show wordOf ⟨5, 18, a, b, c, k⟩ = ([109, 97, 120], [97, 98, 99]) by simp [wordOf, bareI, wordGo, saysL]]
  have e116 : ((((⟨#[111, 97, 98, 99]⟩ : ByteArray)[3]).toNat : Int) == 116) = false := by rfl
  unfold iv
  go_enter Tryz.func31, Tryz.ntmps31
  go_wp2_with fail
  refine (refParts_5 _).mono ?_
  rintro e w1 ⟨rfl, b1⟩
  have B1 : Hid (Below w.heap.size w w1) := ((((Below.refl _ _).alloc (Nat.le_refl _) _).alloc (by simp) _).alloc (by simp; omega) _).trans (b1.mono (by simp; omega))
  have g0 : w1.cell? ⟨w.heap.size, 0, none⟩ = some (.int .i64 5) := (cell_of_row w1 w.heap.size 0 _ _ _ ((b1.block _ (by simp; omega)).trans (three_0 w _ _ _))).trans rfl
  have g1 : w1.cell? ⟨w.heap.size, 1, none⟩ = some (.int .i64 18) := (cell_of_row w1 w.heap.size 1 _ _ _ ((b1.block _ (by simp; omega)).trans (three_0 w _ _ _))).trans rfl
  have g2 : w1.cell? ⟨w.heap.size + 1, 17, none⟩ = some (.string ⟨#[109, 97, 120]⟩) := (cell_of_row w1 (w.heap.size + 1) 17 _ _ _ ((b1.block _ (by simp)).trans (three_1 w _ _ _))).trans rfl
  clear b1
  go_wp2_with fail
  go_quiet (fail)
  go_wp2
  go_ret2
  exact ⟨rfl, below_drewN B1.out _⟩
end Go.Proofs.YthcidcfaodjbjabGreatDoor
