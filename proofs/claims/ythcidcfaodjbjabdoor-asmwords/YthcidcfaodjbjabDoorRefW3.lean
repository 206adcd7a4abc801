/- What the document's Word answers, some kinds. -/
import Derived.Test.YthcidcfaodjbjabDoorWord
import Derived.Test.YthcidcfaodjbjabDoorIRef
import Derived.Test.YthcidcfaodjbjabDoorRefW0
namespace Go.Proofs.YthcidcfaodjbjabDoor
open Go.RowKit
set_option linter.unusedVariables false
set_option linter.unusedSimpArgs false
set_option maxRecDepth 100000 in
set_option maxHeartbeats 4000000 in
theorem refWord_4_19 (a b c k : Int) (w : World) : Calls Tryd.prog 7 #[iv ⟨4, 19, a, b, c, k⟩] w fun e w' => e = .returned (.tuple #[.string ⟨(wordOf ⟨4, 19, a, b, c, k⟩).1.toArray⟩, .string ⟨(wordOf ⟨4, 19, a, b, c, k⟩).2.toArray⟩]) ∧ Below w.heap.size w w' := by
  rw [show wordOf ⟨4, 19, a, b, c, k⟩ = ([110, 101, 103], [97, 98]) by simp [wordOf, bareI, wordGo, saysL]]
  have e116 : ((((⟨#[112, 97, 98]⟩ : ByteArray)[2]).toNat : Int) == 116) = false := by rfl
  unfold iv
  go_enter Tryd.func7, Tryd.ntmps7
  go_wp2_with fail
  refine (refParts_4 _).mono ?_
  rintro e w1 ⟨rfl, b1⟩
  have B1 : Hid (Below w.heap.size w w1) := ((((Below.refl _ _).alloc (Nat.le_refl _) _).alloc (by simp) _).alloc (by simp; omega) _).trans (b1.mono (by simp; omega))
  have g0 : w1.cell? ⟨w.heap.size, 0, none⟩ = some (.int .i64 4) := (cell_of_row w1 w.heap.size 0 _ _ _ ((b1.block _ (by simp; omega)).trans (three_0 w _ _ _))).trans rfl
  have g1 : w1.cell? ⟨w.heap.size, 1, none⟩ = some (.int .i64 19) := (cell_of_row w1 w.heap.size 1 _ _ _ ((b1.block _ (by simp; omega)).trans (three_0 w _ _ _))).trans rfl
  have g2 : w1.cell? ⟨w.heap.size + 1, 18, none⟩ = some (.string ⟨#[110, 101, 103]⟩) := (cell_of_row w1 (w.heap.size + 1) 18 _ _ _ ((b1.block _ (by simp)).trans (three_1 w _ _ _))).trans rfl
  clear b1
  go_wp2_with fail
  go_quiet (fail)
  go_wp2
  go_ret2
  exact ⟨rfl, below_drewN B1.out _⟩
set_option maxRecDepth 100000 in
set_option maxHeartbeats 4000000 in
theorem refWord_4_20 (a b c k : Int) (w : World) : Calls Tryd.prog 7 #[iv ⟨4, 20, a, b, c, k⟩] w fun e w' => e = .returned (.tuple #[.string ⟨(wordOf ⟨4, 20, a, b, c, k⟩).1.toArray⟩, .string ⟨(wordOf ⟨4, 20, a, b, c, k⟩).2.toArray⟩]) ∧ Below w.heap.size w w' := by
  rw [show wordOf ⟨4, 20, a, b, c, k⟩ = ([99, 111, 109], [97, 98]) by simp [wordOf, bareI, wordGo, saysL]]
  have e116 : ((((⟨#[112, 97, 98]⟩ : ByteArray)[2]).toNat : Int) == 116) = false := by rfl
  unfold iv
  go_enter Tryd.func7, Tryd.ntmps7
  go_wp2_with fail
  refine (refParts_4 _).mono ?_
  rintro e w1 ⟨rfl, b1⟩
  have B1 : Hid (Below w.heap.size w w1) := ((((Below.refl _ _).alloc (Nat.le_refl _) _).alloc (by simp) _).alloc (by simp; omega) _).trans (b1.mono (by simp; omega))
  have g0 : w1.cell? ⟨w.heap.size, 0, none⟩ = some (.int .i64 4) := (cell_of_row w1 w.heap.size 0 _ _ _ ((b1.block _ (by simp; omega)).trans (three_0 w _ _ _))).trans rfl
  have g1 : w1.cell? ⟨w.heap.size, 1, none⟩ = some (.int .i64 20) := (cell_of_row w1 w.heap.size 1 _ _ _ ((b1.block _ (by simp; omega)).trans (three_0 w _ _ _))).trans rfl
  have g2 : w1.cell? ⟨w.heap.size + 1, 19, none⟩ = some (.string ⟨#[99, 111, 109]⟩) := (cell_of_row w1 (w.heap.size + 1) 19 _ _ _ ((b1.block _ (by simp)).trans (three_1 w _ _ _))).trans rfl
  clear b1
  go_wp2_with fail
  go_quiet (fail)
  go_wp2
  go_ret2
  exact ⟨rfl, below_drewN B1.out _⟩
set_option maxRecDepth 100000 in
set_option maxHeartbeats 4000000 in
theorem refWord_4_21 (a b c k : Int) (w : World) : Calls Tryd.prog 7 #[iv ⟨4, 21, a, b, c, k⟩] w fun e w' => e = .returned (.tuple #[.string ⟨(wordOf ⟨4, 21, a, b, c, k⟩).1.toArray⟩, .string ⟨(wordOf ⟨4, 21, a, b, c, k⟩).2.toArray⟩]) ∧ Below w.heap.size w w' := by
  rw [show wordOf ⟨4, 21, a, b, c, k⟩ = ([110, 111, 116], [97, 98]) by simp [wordOf, bareI, wordGo, saysL]]
  have e116 : ((((⟨#[112, 97, 98]⟩ : ByteArray)[2]).toNat : Int) == 116) = false := by rfl
  unfold iv
  go_enter Tryd.func7, Tryd.ntmps7
  go_wp2_with fail
  refine (refParts_4 _).mono ?_
  rintro e w1 ⟨rfl, b1⟩
  have B1 : Hid (Below w.heap.size w w1) := ((((Below.refl _ _).alloc (Nat.le_refl _) _).alloc (by simp) _).alloc (by simp; omega) _).trans (b1.mono (by simp; omega))
  have g0 : w1.cell? ⟨w.heap.size, 0, none⟩ = some (.int .i64 4) := (cell_of_row w1 w.heap.size 0 _ _ _ ((b1.block _ (by simp; omega)).trans (three_0 w _ _ _))).trans rfl
  have g1 : w1.cell? ⟨w.heap.size, 1, none⟩ = some (.int .i64 21) := (cell_of_row w1 w.heap.size 1 _ _ _ ((b1.block _ (by simp; omega)).trans (three_0 w _ _ _))).trans rfl
  have g2 : w1.cell? ⟨w.heap.size + 1, 20, none⟩ = some (.string ⟨#[110, 111, 116]⟩) := (cell_of_row w1 (w.heap.size + 1) 20 _ _ _ ((b1.block _ (by simp)).trans (three_1 w _ _ _))).trans rfl
  clear b1
  go_wp2_with fail
  go_quiet (fail)
  go_wp2
  go_ret2
  exact ⟨rfl, below_drewN B1.out _⟩
set_option maxRecDepth 100000 in
set_option maxHeartbeats 4000000 in
theorem refWord_5_1 (a b c k : Int) (w : World) : Calls Tryd.prog 7 #[iv ⟨5, 1, a, b, c, k⟩] w fun e w' => e = .returned (.tuple #[.string ⟨(wordOf ⟨5, 1, a, b, c, k⟩).1.toArray⟩, .string ⟨(wordOf ⟨5, 1, a, b, c, k⟩).2.toArray⟩]) ∧ Below w.heap.size w w' := by
  rw [show wordOf ⟨5, 1, a, b, c, k⟩ = ([97, 100, 100], [97, 98, 99]) by simp [wordOf, bareI, wordGo, saysL]]
  have e116 : ((((⟨#[111, 97, 98, 99]⟩ : ByteArray)[3]).toNat : Int) == 116) = false := by rfl
  unfold iv
  go_enter Tryd.func7, Tryd.ntmps7
  go_wp2_with fail
  refine (refParts_5 _).mono ?_
  rintro e w1 ⟨rfl, b1⟩
  have B1 : Hid (Below w.heap.size w w1) := ((((Below.refl _ _).alloc (Nat.le_refl _) _).alloc (by simp) _).alloc (by simp; omega) _).trans (b1.mono (by simp; omega))
  have g0 : w1.cell? ⟨w.heap.size, 0, none⟩ = some (.int .i64 5) := (cell_of_row w1 w.heap.size 0 _ _ _ ((b1.block _ (by simp; omega)).trans (three_0 w _ _ _))).trans rfl
  have g1 : w1.cell? ⟨w.heap.size, 1, none⟩ = some (.int .i64 1) := (cell_of_row w1 w.heap.size 1 _ _ _ ((b1.block _ (by simp; omega)).trans (three_0 w _ _ _))).trans rfl
  have g2 : w1.cell? ⟨w.heap.size + 1, 0, none⟩ = some (.string ⟨#[97, 100, 100]⟩) := (cell_of_row w1 (w.heap.size + 1) 0 _ _ _ ((b1.block _ (by simp)).trans (three_1 w _ _ _))).trans rfl
  clear b1
  go_wp2_with fail
  go_quiet (fail)
  go_wp2
  go_ret2
  exact ⟨rfl, below_drewN B1.out _⟩
set_option maxRecDepth 100000 in
set_option maxHeartbeats 4000000 in
theorem refWord_5_2 (a b c k : Int) (w : World) : Calls Tryd.prog 7 #[iv ⟨5, 2, a, b, c, k⟩] w fun e w' => e = .returned (.tuple #[.string ⟨(wordOf ⟨5, 2, a, b, c, k⟩).1.toArray⟩, .string ⟨(wordOf ⟨5, 2, a, b, c, k⟩).2.toArray⟩]) ∧ Below w.heap.size w w' := by
  rw [show wordOf ⟨5, 2, a, b, c, k⟩ = ([115, 117, 98], [97, 98, 99]) by simp [wordOf, bareI, wordGo, saysL]]
  have e116 : ((((⟨#[111, 97, 98, 99]⟩ : ByteArray)[3]).toNat : Int) == 116) = false := by rfl
  unfold iv
  go_enter Tryd.func7, Tryd.ntmps7
  go_wp2_with fail
  refine (refParts_5 _).mono ?_
  rintro e w1 ⟨rfl, b1⟩
  have B1 : Hid (Below w.heap.size w w1) := ((((Below.refl _ _).alloc (Nat.le_refl _) _).alloc (by simp) _).alloc (by simp; omega) _).trans (b1.mono (by simp; omega))
  have g0 : w1.cell? ⟨w.heap.size, 0, none⟩ = some (.int .i64 5) := (cell_of_row w1 w.heap.size 0 _ _ _ ((b1.block _ (by simp; omega)).trans (three_0 w _ _ _))).trans rfl
  have g1 : w1.cell? ⟨w.heap.size, 1, none⟩ = some (.int .i64 2) := (cell_of_row w1 w.heap.size 1 _ _ _ ((b1.block _ (by simp; omega)).trans (three_0 w _ _ _))).trans rfl
  have g2 : w1.cell? ⟨w.heap.size + 1, 1, none⟩ = some (.string ⟨#[115, 117, 98]⟩) := (cell_of_row w1 (w.heap.size + 1) 1 _ _ _ ((b1.block _ (by simp)).trans (three_1 w _ _ _))).trans rfl
  clear b1
  go_wp2_with fail
  go_quiet (fail)
  go_wp2
  go_ret2
  exact ⟨rfl, below_drewN B1.out _⟩
set_option maxRecDepth 100000 in
set_option maxHeartbeats 4000000 in
theorem refWord_5_3 (a b c k : Int) (w : World) : Calls Tryd.prog 7 #[iv ⟨5, 3, a, b, c, k⟩] w fun e w' => e = .returned (.tuple #[.string ⟨(wordOf ⟨5, 3, a, b, c, k⟩).1.toArray⟩, .string ⟨(wordOf ⟨5, 3, a, b, c, k⟩).2.toArray⟩]) ∧ Below w.heap.size w w' := by
  rw [show wordOf ⟨5, 3, a, b, c, k⟩ = ([109, 117, 108], [97, 98, 99]) by simp [wordOf, bareI, wordGo, saysL]]
  have e116 : ((((⟨#[111, 97, 98, 99]⟩ : ByteArray)[3]).toNat : Int) == 116) = false := by rfl
  unfold iv
  go_enter Tryd.func7, Tryd.ntmps7
  go_wp2_with fail
  refine (refParts_5 _).mono ?_
  rintro e w1 ⟨rfl, b1⟩
  have B1 : Hid (Below w.heap.size w w1) := ((((Below.refl _ _).alloc (Nat.le_refl _) _).alloc (by simp) _).alloc (by simp; omega) _).trans (b1.mono (by simp; omega))
  have g0 : w1.cell? ⟨w.heap.size, 0, none⟩ = some (.int .i64 5) := (cell_of_row w1 w.heap.size 0 _ _ _ ((b1.block _ (by simp; omega)).trans (three_0 w _ _ _))).trans rfl
  have g1 : w1.cell? ⟨w.heap.size, 1, none⟩ = some (.int .i64 3) := (cell_of_row w1 w.heap.size 1 _ _ _ ((b1.block _ (by simp; omega)).trans (three_0 w _ _ _))).trans rfl
  have g2 : w1.cell? ⟨w.heap.size + 1, 2, none⟩ = some (.string ⟨#[109, 117, 108]⟩) := (cell_of_row w1 (w.heap.size + 1) 2 _ _ _ ((b1.block _ (by simp)).trans (three_1 w _ _ _))).trans rfl
  clear b1
  go_wp2_with fail
  go_quiet (fail)
  go_wp2
  go_ret2
  exact ⟨rfl, below_drewN B1.out _⟩
set_option maxRecDepth 100000 in
set_option maxHeartbeats 4000000 in
theorem refWord_5_4 (a b c k : Int) (w : World) : Calls Tryd.prog 7 #[iv ⟨5, 4, a, b, c, k⟩] w fun e w' => e = .returned (.tuple #[.string ⟨(wordOf ⟨5, 4, a, b, c, k⟩).1.toArray⟩, .string ⟨(wordOf ⟨5, 4, a, b, c, k⟩).2.toArray⟩]) ∧ Below w.heap.size w w' := by
  rw [show wordOf ⟨5, 4, a, b, c, k⟩ = ([100, 105, 118], [97, 98, 99]) by simp [wordOf, bareI, wordGo, saysL]]
  have e116 : ((((⟨#[111, 97, 98, 99]⟩ : ByteArray)[3]).toNat : Int) == 116) = false := by rfl
  unfold iv
  go_enter Tryd.func7, Tryd.ntmps7
  go_wp2_with fail
  refine (refParts_5 _).mono ?_
  rintro e w1 ⟨rfl, b1⟩
  have B1 : Hid (Below w.heap.size w w1) := ((((Below.refl _ _).alloc (Nat.le_refl _) _).alloc (by simp) _).alloc (by simp; omega) _).trans (b1.mono (by simp; omega))
  have g0 : w1.cell? ⟨w.heap.size, 0, none⟩ = some (.int .i64 5) := (cell_of_row w1 w.heap.size 0 _ _ _ ((b1.block _ (by simp; omega)).trans (three_0 w _ _ _))).trans rfl
  have g1 : w1.cell? ⟨w.heap.size, 1, none⟩ = some (.int .i64 4) := (cell_of_row w1 w.heap.size 1 _ _ _ ((b1.block _ (by simp; omega)).trans (three_0 w _ _ _))).trans rfl
  have g2 : w1.cell? ⟨w.heap.size + 1, 3, none⟩ = some (.string ⟨#[100, 105, 118]⟩) := (cell_of_row w1 (w.heap.size + 1) 3 _ _ _ ((b1.block _ (by simp)).trans (three_1 w _ _ _))).trans rfl
  clear b1
  go_wp2_with fail
  go_quiet (fail)
  go_wp2
  go_ret2
  exact ⟨rfl, below_drewN B1.out _⟩
set_option maxRecDepth 100000 in
set_option maxHeartbeats 4000000 in
theorem refWord_5_5 (a b c k : Int) (w : World) : Calls Tryd.prog 7 #[iv ⟨5, 5, a, b, c, k⟩] w fun e w' => e = .returned (.tuple #[.string ⟨(wordOf ⟨5, 5, a, b, c, k⟩).1.toArray⟩, .string ⟨(wordOf ⟨5, 5, a, b, c, k⟩).2.toArray⟩]) ∧ Below w.heap.size w w' := by
  rw [show wordOf ⟨5, 5, a, b, c, k⟩ = ([114, 101, 109], [97, 98, 99]) by simp [wordOf, bareI, wordGo, saysL]]
  have e116 : ((((⟨#[111, 97, 98, 99]⟩ : ByteArray)[3]).toNat : Int) == 116) = false := by rfl
  unfold iv
  go_enter Tryd.func7, Tryd.ntmps7
  go_wp2_with fail
  refine (refParts_5 _).mono ?_
  rintro e w1 ⟨rfl, b1⟩
  have B1 : Hid (Below w.heap.size w w1) := ((((Below.refl _ _).alloc (Nat.le_refl _) _).alloc (by simp) _).alloc (by simp; omega) _).trans (b1.mono (by simp; omega))
  have g0 : w1.cell? ⟨w.heap.size, 0, none⟩ = some (.int .i64 5) := (cell_of_row w1 w.heap.size 0 _ _ _ ((b1.block _ (by simp; omega)).trans (three_0 w _ _ _))).trans rfl
  have g1 : w1.cell? ⟨w.heap.size, 1, none⟩ = some (.int .i64 5) := (cell_of_row w1 w.heap.size 1 _ _ _ ((b1.block _ (by simp; omega)).trans (three_0 w _ _ _))).trans rfl
  have g2 : w1.cell? ⟨w.heap.size + 1, 4, none⟩ = some (.string ⟨#[114, 101, 109]⟩) := (cell_of_row w1 (w.heap.size + 1) 4 _ _ _ ((b1.block _ (by simp)).trans (three_1 w _ _ _))).trans rfl
  clear b1
  go_wp2_with fail
  go_quiet (fail)
  go_wp2
  go_ret2
  exact ⟨rfl, below_drewN B1.out _⟩
end Go.Proofs.YthcidcfaodjbjabDoor
