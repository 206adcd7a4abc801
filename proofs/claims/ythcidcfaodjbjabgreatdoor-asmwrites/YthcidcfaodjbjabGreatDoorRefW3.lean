/- What the document's Word answers, some kinds. -/
import Derived.Test.YthcidcfaodjbjabGreatDoorWord
import Derived.Test.YthcidcfaodjbjabGreatDoorIRef
import Derived.Test.YthcidcfaodjbjabGreatDoorRefW0
namespace Go.Proofs.YthcidcfaodjbjabGreatDoor
open Go.RowKit
set_option linter.unusedVariables false
set_option linter.unusedSimpArgs false
set_option maxRecDepth 100000 in
set_option maxHeartbeats 4000000 in
theorem refWord_1 (p a b c k : Int) (w : World) : Calls Tryz.prog 31 #[iv ⟨1, p, a, b, c, k⟩] w fun e w' => e = .returned (.tuple #[.string ⟨(wordOf ⟨1, p, a, b, c, k⟩).1.toArray⟩, .string ⟨(wordOf ⟨1, p, a, b, c, k⟩).2.toArray⟩]) ∧ Below w.heap.size w w' := by
  rw [show wordOf ⟨1, p, a, b, c, k⟩ = ([104, 97, 108, 116], []) by simp [wordOf, bareI, wordGo, saysL]]
  unfold iv
  go_enter Tryz.func31, Tryz.ntmps31
  go_wp2_with fail
  refine (refParts_1 _).mono ?_
  rintro e w1 ⟨rfl, b1⟩
  have B1 : Hid (Below w.heap.size w w1) := ((((Below.refl _ _).alloc (Nat.le_refl _) _).alloc (by simp) _).alloc (by simp; omega) _).trans (b1.mono (by simp; omega))
  have g0 : w1.cell? ⟨w.heap.size, 0, none⟩ = some (.int .i64 1) := (cell_of_row w1 w.heap.size 0 _ _ _ ((b1.block _ (by simp; omega)).trans (three_0 w _ _ _))).trans rfl
  have g1 : w1.cell? ⟨w.heap.size, 1, none⟩ = some (.int .i64 p) := (cell_of_row w1 w.heap.size 1 _ _ _ ((b1.block _ (by simp; omega)).trans (three_0 w _ _ _))).trans rfl
  have g2 : w1.cell? ⟨w.heap.size + 1 + 1, 0, none⟩ = some (.string ⟨#[104, 97, 108, 116]⟩) := (cell_of_row w1 (w.heap.size + 1 + 1) 0 _ _ _ ((b1.block _ (by simp)).trans (three_2 w _ _ _))).trans rfl
  clear b1
  go_wp2
  go_ret2
  exact ⟨rfl, B1.out⟩
set_option maxRecDepth 100000 in
set_option maxHeartbeats 4000000 in
theorem refWord_2 (p a b c k : Int) (w : World) : Calls Tryz.prog 31 #[iv ⟨2, p, a, b, c, k⟩] w fun e w' => e = .returned (.tuple #[.string ⟨(wordOf ⟨2, p, a, b, c, k⟩).1.toArray⟩, .string ⟨(wordOf ⟨2, p, a, b, c, k⟩).2.toArray⟩]) ∧ Below w.heap.size w w' := by
  rw [show wordOf ⟨2, p, a, b, c, k⟩ = ([99, 111, 110, 115, 116], [97, 107]) by simp [wordOf, bareI, wordGo, saysL]]
  have e116 : ((((⟨#[97, 107]⟩ : ByteArray)[1]).toNat : Int) == 116) = false := by rfl
  unfold iv
  go_enter Tryz.func31, Tryz.ntmps31
  go_wp2_with fail
  refine (refParts_2 _).mono ?_
  rintro e w1 ⟨rfl, b1⟩
  have B1 : Hid (Below w.heap.size w w1) := ((((Below.refl _ _).alloc (Nat.le_refl _) _).alloc (by simp) _).alloc (by simp; omega) _).trans (b1.mono (by simp; omega))
  have g0 : w1.cell? ⟨w.heap.size, 0, none⟩ = some (.int .i64 2) := (cell_of_row w1 w.heap.size 0 _ _ _ ((b1.block _ (by simp; omega)).trans (three_0 w _ _ _))).trans rfl
  have g1 : w1.cell? ⟨w.heap.size, 1, none⟩ = some (.int .i64 p) := (cell_of_row w1 w.heap.size 1 _ _ _ ((b1.block _ (by simp; omega)).trans (three_0 w _ _ _))).trans rfl
  have g2 : w1.cell? ⟨w.heap.size + 1 + 1, 1, none⟩ = some (.string ⟨#[99, 111, 110, 115, 116]⟩) := (cell_of_row w1 (w.heap.size + 1 + 1) 1 _ _ _ ((b1.block _ (by simp)).trans (three_2 w _ _ _))).trans rfl
  clear b1
  go_wp2
  go_ret2
  exact ⟨rfl, B1.out⟩
set_option maxRecDepth 100000 in
set_option maxHeartbeats 4000000 in
theorem refWord_3 (p a b c k : Int) (w : World) : Calls Tryz.prog 31 #[iv ⟨3, p, a, b, c, k⟩] w fun e w' => e = .returned (.tuple #[.string ⟨(wordOf ⟨3, p, a, b, c, k⟩).1.toArray⟩, .string ⟨(wordOf ⟨3, p, a, b, c, k⟩).2.toArray⟩]) ∧ Below w.heap.size w w' := by
  rw [show wordOf ⟨3, p, a, b, c, k⟩ = ([109, 111, 118, 101], [97, 98]) by simp [wordOf, bareI, wordGo, saysL]]
  have e116 : ((((⟨#[97, 98]⟩ : ByteArray)[1]).toNat : Int) == 116) = false := by rfl
  unfold iv
  go_enter Tryz.func31, Tryz.ntmps31
  go_wp2_with fail
  refine (refParts_3 _).mono ?_
  rintro e w1 ⟨rfl, b1⟩
  have B1 : Hid (Below w.heap.size w w1) := ((((Below.refl _ _).alloc (Nat.le_refl _) _).alloc (by simp) _).alloc (by simp; omega) _).trans (b1.mono (by simp; omega))
  have g0 : w1.cell? ⟨w.heap.size, 0, none⟩ = some (.int .i64 3) := (cell_of_row w1 w.heap.size 0 _ _ _ ((b1.block _ (by simp; omega)).trans (three_0 w _ _ _))).trans rfl
  have g1 : w1.cell? ⟨w.heap.size, 1, none⟩ = some (.int .i64 p) := (cell_of_row w1 w.heap.size 1 _ _ _ ((b1.block _ (by simp; omega)).trans (three_0 w _ _ _))).trans rfl
  have g2 : w1.cell? ⟨w.heap.size + 1 + 1, 2, none⟩ = some (.string ⟨#[109, 111, 118, 101]⟩) := (cell_of_row w1 (w.heap.size + 1 + 1) 2 _ _ _ ((b1.block _ (by simp)).trans (three_2 w _ _ _))).trans rfl
  clear b1
  go_wp2
  go_ret2
  exact ⟨rfl, B1.out⟩
set_option maxRecDepth 100000 in
set_option maxHeartbeats 4000000 in
theorem refWord_6 (p a b c k : Int) (w : World) : Calls Tryz.prog 31 #[iv ⟨6, p, a, b, c, k⟩] w fun e w' => e = .returned (.tuple #[.string ⟨(wordOf ⟨6, p, a, b, c, k⟩).1.toArray⟩, .string ⟨(wordOf ⟨6, p, a, b, c, k⟩).2.toArray⟩]) ∧ Below w.heap.size w w' := by
  rw [show wordOf ⟨6, p, a, b, c, k⟩ = ([108, 111, 97, 100], [97, 98, 107]) by simp [wordOf, bareI, wordGo, saysL]]
  have e116 : ((((⟨#[97, 98, 107]⟩ : ByteArray)[2]).toNat : Int) == 116) = false := by rfl
  unfold iv
  go_enter Tryz.func31, Tryz.ntmps31
  go_wp2_with fail
  refine (refParts_6 _).mono ?_
  rintro e w1 ⟨rfl, b1⟩
  have B1 : Hid (Below w.heap.size w w1) := ((((Below.refl _ _).alloc (Nat.le_refl _) _).alloc (by simp) _).alloc (by simp; omega) _).trans (b1.mono (by simp; omega))
  have g0 : w1.cell? ⟨w.heap.size, 0, none⟩ = some (.int .i64 6) := (cell_of_row w1 w.heap.size 0 _ _ _ ((b1.block _ (by simp; omega)).trans (three_0 w _ _ _))).trans rfl
  have g1 : w1.cell? ⟨w.heap.size, 1, none⟩ = some (.int .i64 p) := (cell_of_row w1 w.heap.size 1 _ _ _ ((b1.block _ (by simp; omega)).trans (three_0 w _ _ _))).trans rfl
  have g2 : w1.cell? ⟨w.heap.size + 1 + 1, 5, none⟩ = some (.string ⟨#[108, 111, 97, 100]⟩) := (cell_of_row w1 (w.heap.size + 1 + 1) 5 _ _ _ ((b1.block _ (by simp)).trans (three_2 w _ _ _))).trans rfl
  clear b1
  go_wp2
  go_ret2
  exact ⟨rfl, B1.out⟩
set_option maxRecDepth 100000 in
set_option maxHeartbeats 4000000 in
theorem refWord_7 (p a b c k : Int) (w : World) : Calls Tryz.prog 31 #[iv ⟨7, p, a, b, c, k⟩] w fun e w' => e = .returned (.tuple #[.string ⟨(wordOf ⟨7, p, a, b, c, k⟩).1.toArray⟩, .string ⟨(wordOf ⟨7, p, a, b, c, k⟩).2.toArray⟩]) ∧ Below w.heap.size w w' := by
  rw [show wordOf ⟨7, p, a, b, c, k⟩ = ([115, 116, 111, 114, 101], [97, 98, 107]) by simp [wordOf, bareI, wordGo, saysL]]
  have e116 : ((((⟨#[97, 98, 107]⟩ : ByteArray)[2]).toNat : Int) == 116) = false := by rfl
  unfold iv
  go_enter Tryz.func31, Tryz.ntmps31
  go_wp2_with fail
  refine (refParts_7 _).mono ?_
  rintro e w1 ⟨rfl, b1⟩
  have B1 : Hid (Below w.heap.size w w1) := ((((Below.refl _ _).alloc (Nat.le_refl _) _).alloc (by simp) _).alloc (by simp; omega) _).trans (b1.mono (by simp; omega))
  have g0 : w1.cell? ⟨w.heap.size, 0, none⟩ = some (.int .i64 7) := (cell_of_row w1 w.heap.size 0 _ _ _ ((b1.block _ (by simp; omega)).trans (three_0 w _ _ _))).trans rfl
  have g1 : w1.cell? ⟨w.heap.size, 1, none⟩ = some (.int .i64 p) := (cell_of_row w1 w.heap.size 1 _ _ _ ((b1.block _ (by simp; omega)).trans (three_0 w _ _ _))).trans rfl
  have g2 : w1.cell? ⟨w.heap.size + 1 + 1, 6, none⟩ = some (.string ⟨#[115, 116, 111, 114, 101]⟩) := (cell_of_row w1 (w.heap.size + 1 + 1) 6 _ _ _ ((b1.block _ (by simp)).trans (three_2 w _ _ _))).trans rfl
  clear b1
  go_wp2
  go_ret2
  exact ⟨rfl, B1.out⟩
set_option maxRecDepth 100000 in
set_option maxHeartbeats 4000000 in
theorem refWord_8 (p a b c k : Int) (w : World) : Calls Tryz.prog 31 #[iv ⟨8, p, a, b, c, k⟩] w fun e w' => e = .returned (.tuple #[.string ⟨(wordOf ⟨8, p, a, b, c, k⟩).1.toArray⟩, .string ⟨(wordOf ⟨8, p, a, b, c, k⟩).2.toArray⟩]) ∧ Below w.heap.size w w' := by
  rw [show wordOf ⟨8, p, a, b, c, k⟩ = ([105, 110, 116, 111], [97, 114]) by simp [wordOf, bareI, wordGo, saysL]]
  have e116 : ((((⟨#[97, 114]⟩ : ByteArray)[1]).toNat : Int) == 116) = false := by rfl
  unfold iv
  go_enter Tryz.func31, Tryz.ntmps31
  go_wp2_with fail
  refine (refParts_8 _).mono ?_
  rintro e w1 ⟨rfl, b1⟩
  have B1 : Hid (Below w.heap.size w w1) := ((((Below.refl _ _).alloc (Nat.le_refl _) _).alloc (by simp) _).alloc (by simp; omega) _).trans (b1.mono (by simp; omega))
  have g0 : w1.cell? ⟨w.heap.size, 0, none⟩ = some (.int .i64 8) := (cell_of_row w1 w.heap.size 0 _ _ _ ((b1.block _ (by simp; omega)).trans (three_0 w _ _ _))).trans rfl
  have g1 : w1.cell? ⟨w.heap.size, 1, none⟩ = some (.int .i64 p) := (cell_of_row w1 w.heap.size 1 _ _ _ ((b1.block _ (by simp; omega)).trans (three_0 w _ _ _))).trans rfl
  have g2 : w1.cell? ⟨w.heap.size + 1 + 1, 7, none⟩ = some (.string ⟨#[105, 110, 116, 111]⟩) := (cell_of_row w1 (w.heap.size + 1 + 1) 7 _ _ _ ((b1.block _ (by simp)).trans (three_2 w _ _ _))).trans rfl
  clear b1
  go_wp2
  go_ret2
  exact ⟨rfl, B1.out⟩
end Go.Proofs.YthcidcfaodjbjabGreatDoor
namespace Go.Proofs.YthcidcfaodjbjabGreatDoor
open Go.RowKit
set_option linter.unusedVariables false
set_option linter.unusedSimpArgs false
set_option maxRecDepth 100000 in
set_option maxHeartbeats 4000000 in
theorem refWord_9 (p a b c k : Int) (w : World) : Calls Tryz.prog 31 #[iv ⟨9, p, a, b, c, k⟩] w fun e w' => e = .returned (.tuple #[.string ⟨(wordOf ⟨9, p, a, b, c, k⟩).1.toArray⟩, .string ⟨(wordOf ⟨9, p, a, b, c, k⟩).2.toArray⟩]) ∧ Below w.heap.size w w' := by
  rw [show wordOf ⟨9, p, a, b, c, k⟩ = ([101, 109, 105, 116], [97]) by simp [wordOf, bareI, wordGo, saysL]]
  have e116 : ((((⟨#[97]⟩ : ByteArray)[0]).toNat : Int) == 116) = false := by rfl
  unfold iv
  go_enter Tryz.func31, Tryz.ntmps31
  go_wp2_with fail
  refine (refParts_9 _).mono ?_
  rintro e w1 ⟨rfl, b1⟩
  have B1 : Hid (Below w.heap.size w w1) := ((((Below.refl _ _).alloc (Nat.le_refl _) _).alloc (by simp) _).alloc (by simp; omega) _).trans (b1.mono (by simp; omega))
  have g0 : w1.cell? ⟨w.heap.size, 0, none⟩ = some (.int .i64 9) := (cell_of_row w1 w.heap.size 0 _ _ _ ((b1.block _ (by simp; omega)).trans (three_0 w _ _ _))).trans rfl
  have g1 : w1.cell? ⟨w.heap.size, 1, none⟩ = some (.int .i64 p) := (cell_of_row w1 w.heap.size 1 _ _ _ ((b1.block _ (by simp; omega)).trans (three_0 w _ _ _))).trans rfl
  have g2 : w1.cell? ⟨w.heap.size + 1 + 1, 8, none⟩ = some (.string ⟨#[101, 109, 105, 116]⟩) := (cell_of_row w1 (w.heap.size + 1 + 1) 8 _ _ _ ((b1.block _ (by simp)).trans (three_2 w _ _ _))).trans rfl
  clear b1
  go_wp2
  go_ret2
  exact ⟨rfl, B1.out⟩
set_option maxRecDepth 100000 in
set_option maxHeartbeats 4000000 in
theorem refWord_10 (p a b c k : Int) (w : World) : Calls Tryz.prog 31 #[iv ⟨10, p, a, b, c, k⟩] w fun e w' => e = .returned (.tuple #[.string ⟨(wordOf ⟨10, p, a, b, c, k⟩).1.toArray⟩, .string ⟨(wordOf ⟨10, p, a, b, c, k⟩).2.toArray⟩]) ∧ Below w.heap.size w w' := by
  rw [show wordOf ⟨10, p, a, b, c, k⟩ = ([106, 117, 109, 112], [108]) by simp [wordOf, bareI, wordGo, saysL]]
  have e116 : ((((⟨#[116]⟩ : ByteArray)[0]).toNat : Int) == 116) = true := by rfl
  unfold iv
  go_enter Tryz.func31, Tryz.ntmps31
  go_wp2_with fail
  refine (refParts_10 _).mono ?_
  rintro e w1 ⟨rfl, b1⟩
  have B1 : Hid (Below w.heap.size w w1) := ((((Below.refl _ _).alloc (Nat.le_refl _) _).alloc (by simp) _).alloc (by simp; omega) _).trans (b1.mono (by simp; omega))
  have g0 : w1.cell? ⟨w.heap.size, 0, none⟩ = some (.int .i64 10) := (cell_of_row w1 w.heap.size 0 _ _ _ ((b1.block _ (by simp; omega)).trans (three_0 w _ _ _))).trans rfl
  have g1 : w1.cell? ⟨w.heap.size, 1, none⟩ = some (.int .i64 p) := (cell_of_row w1 w.heap.size 1 _ _ _ ((b1.block _ (by simp; omega)).trans (three_0 w _ _ _))).trans rfl
  have g2 : w1.cell? ⟨w.heap.size + 1 + 1, 9, none⟩ = some (.string ⟨#[106, 117, 109, 112]⟩) := (cell_of_row w1 (w.heap.size + 1 + 1) 9 _ _ _ ((b1.block _ (by simp)).trans (three_2 w _ _ _))).trans rfl
  clear b1
  go_wp2_with fail
  go_quiet (fail)
  go_wp2
  go_ret2
  exact ⟨rfl, below_drewN B1.out _⟩
set_option maxRecDepth 100000 in
set_option maxHeartbeats 4000000 in
theorem refWord_11 (p a b c k : Int) (w : World) : Calls Tryz.prog 31 #[iv ⟨11, p, a, b, c, k⟩] w fun e w' => e = .returned (.tuple #[.string ⟨(wordOf ⟨11, p, a, b, c, k⟩).1.toArray⟩, .string ⟨(wordOf ⟨11, p, a, b, c, k⟩).2.toArray⟩]) ∧ Below w.heap.size w w' := by
  rw [show wordOf ⟨11, p, a, b, c, k⟩ = ([122, 101, 114, 111], [97, 108]) by simp [wordOf, bareI, wordGo, saysL]]
  have e116 : ((((⟨#[97, 116]⟩ : ByteArray)[1]).toNat : Int) == 116) = true := by rfl
  unfold iv
  go_enter Tryz.func31, Tryz.ntmps31
  go_wp2_with fail
  refine (refParts_11 _).mono ?_
  rintro e w1 ⟨rfl, b1⟩
  have B1 : Hid (Below w.heap.size w w1) := ((((Below.refl _ _).alloc (Nat.le_refl _) _).alloc (by simp) _).alloc (by simp; omega) _).trans (b1.mono (by simp; omega))
  have g0 : w1.cell? ⟨w.heap.size, 0, none⟩ = some (.int .i64 11) := (cell_of_row w1 w.heap.size 0 _ _ _ ((b1.block _ (by simp; omega)).trans (three_0 w _ _ _))).trans rfl
  have g1 : w1.cell? ⟨w.heap.size, 1, none⟩ = some (.int .i64 p) := (cell_of_row w1 w.heap.size 1 _ _ _ ((b1.block _ (by simp; omega)).trans (three_0 w _ _ _))).trans rfl
  have g2 : w1.cell? ⟨w.heap.size + 1 + 1, 10, none⟩ = some (.string ⟨#[122, 101, 114, 111]⟩) := (cell_of_row w1 (w.heap.size + 1 + 1) 10 _ _ _ ((b1.block _ (by simp)).trans (three_2 w _ _ _))).trans rfl
  clear b1
  go_wp2_with fail
  go_quiet (fail)
  go_wp2
  go_ret2
  exact ⟨rfl, below_drewN B1.out _⟩
set_option maxRecDepth 100000 in
set_option maxHeartbeats 4000000 in
theorem refWord_12 (p a b c k : Int) (w : World) : Calls Tryz.prog 31 #[iv ⟨12, p, a, b, c, k⟩] w fun e w' => e = .returned (.tuple #[.string ⟨(wordOf ⟨12, p, a, b, c, k⟩).1.toArray⟩, .string ⟨(wordOf ⟨12, p, a, b, c, k⟩).2.toArray⟩]) ∧ Below w.heap.size w w' := by
  rw [show wordOf ⟨12, p, a, b, c, k⟩ = ([111, 116, 104, 101, 114], [97, 108]) by simp [wordOf, bareI, wordGo, saysL]]
  have e116 : ((((⟨#[97, 116]⟩ : ByteArray)[1]).toNat : Int) == 116) = true := by rfl
  unfold iv
  go_enter Tryz.func31, Tryz.ntmps31
  go_wp2_with fail
  refine (refParts_12 _).mono ?_
  rintro e w1 ⟨rfl, b1⟩
  have B1 : Hid (Below w.heap.size w w1) := ((((Below.refl _ _).alloc (Nat.le_refl _) _).alloc (by simp) _).alloc (by simp; omega) _).trans (b1.mono (by simp; omega))
  have g0 : w1.cell? ⟨w.heap.size, 0, none⟩ = some (.int .i64 12) := (cell_of_row w1 w.heap.size 0 _ _ _ ((b1.block _ (by simp; omega)).trans (three_0 w _ _ _))).trans rfl
  have g1 : w1.cell? ⟨w.heap.size, 1, none⟩ = some (.int .i64 p) := (cell_of_row w1 w.heap.size 1 _ _ _ ((b1.block _ (by simp; omega)).trans (three_0 w _ _ _))).trans rfl
  have g2 : w1.cell? ⟨w.heap.size + 1 + 1, 11, none⟩ = some (.string ⟨#[111, 116, 104, 101, 114]⟩) := (cell_of_row w1 (w.heap.size + 1 + 1) 11 _ _ _ ((b1.block _ (by simp)).trans (three_2 w _ _ _))).trans rfl
  clear b1
  go_wp2_with fail
  go_quiet (fail)
  go_wp2
  go_ret2
  exact ⟨rfl, below_drewN B1.out _⟩
set_option maxRecDepth 100000 in
set_option maxHeartbeats 4000000 in
theorem refWord_13 (p a b c k : Int) (w : World) : Calls Tryz.prog 31 #[iv ⟨13, p, a, b, c, k⟩] w fun e w' => e = .returned (.tuple #[.string ⟨(wordOf ⟨13, p, a, b, c, k⟩).1.toArray⟩, .string ⟨(wordOf ⟨13, p, a, b, c, k⟩).2.toArray⟩]) ∧ Below w.heap.size w w' := by
  rw [show wordOf ⟨13, p, a, b, c, k⟩ = ([102, 97, 105, 108], [97]) by simp [wordOf, bareI, wordGo, saysL]]
  have e116 : ((((⟨#[97]⟩ : ByteArray)[0]).toNat : Int) == 116) = false := by rfl
  unfold iv
  go_enter Tryz.func31, Tryz.ntmps31
  go_wp2_with fail
  refine (refParts_13 _).mono ?_
  rintro e w1 ⟨rfl, b1⟩
  have B1 : Hid (Below w.heap.size w w1) := ((((Below.refl _ _).alloc (Nat.le_refl _) _).alloc (by simp) _).alloc (by simp; omega) _).trans (b1.mono (by simp; omega))
  have g0 : w1.cell? ⟨w.heap.size, 0, none⟩ = some (.int .i64 13) := (cell_of_row w1 w.heap.size 0 _ _ _ ((b1.block _ (by simp; omega)).trans (three_0 w _ _ _))).trans rfl
  have g1 : w1.cell? ⟨w.heap.size, 1, none⟩ = some (.int .i64 p) := (cell_of_row w1 w.heap.size 1 _ _ _ ((b1.block _ (by simp; omega)).trans (three_0 w _ _ _))).trans rfl
  have g2 : w1.cell? ⟨w.heap.size + 1 + 1, 12, none⟩ = some (.string ⟨#[102, 97, 105, 108]⟩) := (cell_of_row w1 (w.heap.size + 1 + 1) 12 _ _ _ ((b1.block _ (by simp)).trans (three_2 w _ _ _))).trans rfl
  clear b1
  go_wp2
  go_ret2
  exact ⟨rfl, B1.out⟩
set_option maxRecDepth 100000 in
set_option maxHeartbeats 4000000 in
theorem refWord_4_l (p a b c k : Int) (w : World) (h : p < 19) : Calls Tryz.prog 31 #[iv ⟨4, p, a, b, c, k⟩] w fun e w' => e = .returned (.tuple #[.string ⟨#[]⟩, .string ⟨#[]⟩]) ∧ Below w.heap.size w w' := by
  have h1 : ¬ (19 : Int) ≤ p := by omega
  have h2 : p ≤ (21 : Int) := by omega
  clear h
  unfold iv
  go_enter Tryz.func31, Tryz.ntmps31
  go_wp2_with fail
  refine (refParts_4 _).mono ?_
  rintro e w1 ⟨rfl, b1⟩
  have B1 : Hid (Below w.heap.size w w1) := ((((Below.refl _ _).alloc (Nat.le_refl _) _).alloc (by simp) _).alloc (by simp; omega) _).trans (b1.mono (by simp; omega))
  have g0 : w1.cell? ⟨w.heap.size, 0, none⟩ = some (.int .i64 4) := (cell_of_row w1 w.heap.size 0 _ _ _ ((b1.block _ (by simp; omega)).trans (three_0 w _ _ _))).trans rfl
  have g1 : w1.cell? ⟨w.heap.size, 1, none⟩ = some (.int .i64 p) := (cell_of_row w1 w.heap.size 1 _ _ _ ((b1.block _ (by simp; omega)).trans (three_0 w _ _ _))).trans rfl
  clear b1
  go_wp2
  go_ret2
  exact ⟨rfl, B1.out⟩
set_option maxRecDepth 100000 in
set_option maxHeartbeats 4000000 in
theorem refWord_4_h (p a b c k : Int) (w : World) (h : 21 < p) : Calls Tryz.prog 31 #[iv ⟨4, p, a, b, c, k⟩] w fun e w' => e = .returned (.tuple #[.string ⟨#[]⟩, .string ⟨#[]⟩]) ∧ Below w.heap.size w w' := by
  have h1 : (19 : Int) ≤ p := by omega
  have h2 : ¬ p ≤ (21 : Int) := by omega
  clear h
  unfold iv
  go_enter Tryz.func31, Tryz.ntmps31
  go_wp2_with fail
  refine (refParts_4 _).mono ?_
  rintro e w1 ⟨rfl, b1⟩
  have B1 : Hid (Below w.heap.size w w1) := ((((Below.refl _ _).alloc (Nat.le_refl _) _).alloc (by simp) _).alloc (by simp; omega) _).trans (b1.mono (by simp; omega))
  have g0 : w1.cell? ⟨w.heap.size, 0, none⟩ = some (.int .i64 4) := (cell_of_row w1 w.heap.size 0 _ _ _ ((b1.block _ (by simp; omega)).trans (three_0 w _ _ _))).trans rfl
  have g1 : w1.cell? ⟨w.heap.size, 1, none⟩ = some (.int .i64 p) := (cell_of_row w1 w.heap.size 1 _ _ _ ((b1.block _ (by simp; omega)).trans (three_0 w _ _ _))).trans rfl
  clear b1
  go_wp2
  go_ret2
  exact ⟨rfl, B1.out⟩
set_option maxRecDepth 100000 in
set_option maxHeartbeats 4000000 in
theorem refWord_5_l (p a b c k : Int) (w : World) (h : p < 1) : Calls Tryz.prog 31 #[iv ⟨5, p, a, b, c, k⟩] w fun e w' => e = .returned (.tuple #[.string ⟨#[]⟩, .string ⟨#[]⟩]) ∧ Below w.heap.size w w' := by
  have h1 : ¬ (1 : Int) ≤ p := by omega
  have h2 : p ≤ (18 : Int) := by omega
  clear h
  unfold iv
  go_enter Tryz.func31, Tryz.ntmps31
  go_wp2_with fail
  refine (refParts_5 _).mono ?_
  rintro e w1 ⟨rfl, b1⟩
  have B1 : Hid (Below w.heap.size w w1) := ((((Below.refl _ _).alloc (Nat.le_refl _) _).alloc (by simp) _).alloc (by simp; omega) _).trans (b1.mono (by simp; omega))
  have g0 : w1.cell? ⟨w.heap.size, 0, none⟩ = some (.int .i64 5) := (cell_of_row w1 w.heap.size 0 _ _ _ ((b1.block _ (by simp; omega)).trans (three_0 w _ _ _))).trans rfl
  have g1 : w1.cell? ⟨w.heap.size, 1, none⟩ = some (.int .i64 p) := (cell_of_row w1 w.heap.size 1 _ _ _ ((b1.block _ (by simp; omega)).trans (three_0 w _ _ _))).trans rfl
  clear b1
  go_wp2
  go_ret2
  exact ⟨rfl, B1.out⟩
set_option maxRecDepth 100000 in
set_option maxHeartbeats 4000000 in
theorem refWord_5_h (p a b c k : Int) (w : World) (h : 18 < p) : Calls Tryz.prog 31 #[iv ⟨5, p, a, b, c, k⟩] w fun e w' => e = .returned (.tuple #[.string ⟨#[]⟩, .string ⟨#[]⟩]) ∧ Below w.heap.size w w' := by
  have h1 : (1 : Int) ≤ p := by omega
  have h2 : ¬ p ≤ (18 : Int) := by omega
  clear h
  unfold iv
  go_enter Tryz.func31, Tryz.ntmps31
  go_wp2_with fail
  refine (refParts_5 _).mono ?_
  rintro e w1 ⟨rfl, b1⟩
  have B1 : Hid (Below w.heap.size w w1) := ((((Below.refl _ _).alloc (Nat.le_refl _) _).alloc (by simp) _).alloc (by simp; omega) _).trans (b1.mono (by simp; omega))
  have g0 : w1.cell? ⟨w.heap.size, 0, none⟩ = some (.int .i64 5) := (cell_of_row w1 w.heap.size 0 _ _ _ ((b1.block _ (by simp; omega)).trans (three_0 w _ _ _))).trans rfl
  have g1 : w1.cell? ⟨w.heap.size, 1, none⟩ = some (.int .i64 p) := (cell_of_row w1 w.heap.size 1 _ _ _ ((b1.block _ (by simp; omega)).trans (three_0 w _ _ _))).trans rfl
  clear b1
  go_wp2
  go_ret2
  exact ⟨rfl, B1.out⟩
set_option maxRecDepth 100000 in
set_option maxHeartbeats 4000000 in
theorem refWord_none (n p a b c k : Int) (w : World) (h : n < 1 ∨ 13 < n) : Calls Tryz.prog 31 #[iv ⟨n, p, a, b, c, k⟩] w fun e w' => e = .returned (.tuple #[.string ⟨#[]⟩, .string ⟨#[]⟩]) ∧ Below w.heap.size w w' := by
  have H : Hid (n < 1 ∨ 13 < n) := h
  clear h
  unfold iv
  go_enter Tryz.func31, Tryz.ntmps31
  go_wp2_with fail
  refine (refParts_none _ _ H.out).mono ?_
  rintro e w1 ⟨rfl, b1⟩
  have B1 : Hid (Below w.heap.size w w1) := ((((Below.refl _ _).alloc (Nat.le_refl _) _).alloc (by simp) _).alloc (by simp; omega) _).trans (b1.mono (by simp; omega))
  clear b1
  go_wp2
  go_ret2
  exact ⟨rfl, B1.out⟩
end Go.Proofs.YthcidcfaodjbjabGreatDoor
namespace Go.Proofs.YthcidcfaodjbjabGreatDoor
open Go.RowKit
set_option linter.unusedVariables false
set_option linter.unusedSimpArgs false
set_option maxRecDepth 100000 in
set_option maxHeartbeats 4000000 in
theorem refWord_4_19 (a b c k : Int) (w : World) : Calls Tryz.prog 31 #[iv ⟨4, 19, a, b, c, k⟩] w fun e w' => e = .returned (.tuple #[.string ⟨(wordOf ⟨4, 19, a, b, c, k⟩).1.toArray⟩, .string ⟨(wordOf ⟨4, 19, a, b, c, k⟩).2.toArray⟩]) ∧ Below w.heap.size w w' := by
  rw [show wordOf ⟨4, 19, a, b, c, k⟩ = ([110, 101, 103], [97, 98]) by simp [wordOf, bareI, wordGo, saysL]]
  have e116 : ((((⟨#[112, 97, 98]⟩ : ByteArray)[2]).toNat : Int) == 116) = false := by rfl
  unfold iv
  go_enter Tryz.func31, Tryz.ntmps31
  go_wp2_with fail
  refine (refParts_4 _).mono ?_
  rintro e w1 ⟨rfl, b1⟩
  have B1 : Hid (Below w.heap.size w w1) := ((((Below.refl _ _).alloc (Nat.le_refl _) _).alloc (by simp) _).alloc (by simp; omega) _).trans (b1.mono (by simp; omega))
  have g0 : w1.cell? ⟨w.heap.size, 0, none⟩ = some (.int .i64 4) := (cell_of_row w1 w.heap.size 0 _ _ _ ((b1.block _ (by simp; omega)).trans (three_0 w _ _ _))).trans rfl
  have g1 : w1.cell? ⟨w.heap.size, 1, none⟩ = some (.int .i64 19) := (cell_of_row w1 w.heap.size 1 _ _ _ ((b1.block _ (by simp; omega)).trans (three_0 w _ _ _))).trans rfl
  have g2 : w1.cell? ⟨w.heap.size + 1, 18, none⟩ = some (.string ⟨#[110, 101, 103]⟩) := (cell_of_row w1 (w.heap.size + 1) 18 _ _ _ ((b1.block _ (by simp)).trans (three_1 w _ _ _))).trans rfl
  clear b1
  go_wp2_with fail
  go_quiet (fail)
  go_wp2
  go_ret2
  exact ⟨rfl, below_drewN B1.out _⟩
set_option maxRecDepth 100000 in
set_option maxHeartbeats 4000000 in
theorem refWord_4_20 (a b c k : Int) (w : World) : Calls Tryz.prog 31 #[iv ⟨4, 20, a, b, c, k⟩] w fun e w' => e = .returned (.tuple #[.string ⟨(wordOf ⟨4, 20, a, b, c, k⟩).1.toArray⟩, .string ⟨(wordOf ⟨4, 20, a, b, c, k⟩).2.toArray⟩]) ∧ Below w.heap.size w w' := by
  rw [show wordOf ⟨4, 20, a, b, c, k⟩ = ([99, 111, 109], [97, 98]) by simp [wordOf, bareI, wordGo, saysL]]
  have e116 : ((((⟨#[112, 97, 98]⟩ : ByteArray)[2]).toNat : Int) == 116) = false := by rfl
  unfold iv
  go_enter Tryz.func31, Tryz.ntmps31
  go_wp2_with fail
  refine (refParts_4 _).mono ?_
  rintro e w1 ⟨rfl, b1⟩
  have B1 : Hid (Below w.heap.size w w1) := ((((Below.refl _ _).alloc (Nat.le_refl _) _).alloc (by simp) _).alloc (by simp; omega) _).trans (b1.mono (by simp; omega))
  have g0 : w1.cell? ⟨w.heap.size, 0, none⟩ = some (.int .i64 4) := (cell_of_row w1 w.heap.size 0 _ _ _ ((b1.block _ (by simp; omega)).trans (three_0 w _ _ _))).trans rfl
  have g1 : w1.cell? ⟨w.heap.size, 1, none⟩ = some (.int .i64 20) := (cell_of_row w1 w.heap.size 1 _ _ _ ((b1.block _ (by simp; omega)).trans (three_0 w _ _ _))).trans rfl
  have g2 : w1.cell? ⟨w.heap.size + 1, 19, none⟩ = some (.string ⟨#[99, 111, 109]⟩) := (cell_of_row w1 (w.heap.size + 1) 19 _ _ _ ((b1.block _ (by simp)).trans (three_1 w _ _ _))).trans rfl
  clear b1
  go_wp2_with fail
  go_quiet (fail)
  go_wp2
  go_ret2
  exact ⟨rfl, below_drewN B1.out _⟩
set_option maxRecDepth 100000 in
set_option maxHeartbeats 4000000 in
theorem refWord_4_21 (a b c k : Int) (w : World) : Calls Tryz.prog 31 #[iv ⟨4, 21, a, b, c, k⟩] w fun e w' => e = .returned (.tuple #[.string ⟨(wordOf ⟨4, 21, a, b, c, k⟩).1.toArray⟩, .string ⟨(wordOf ⟨4, 21, a, b, c, k⟩).2.toArray⟩]) ∧ Below w.heap.size w w' := by
  rw [show wordOf ⟨4, 21, a, b, c, k⟩ = ([110, 111, 116], [97, 98]) by simp [wordOf, bareI, wordGo, saysL]]
  have e116 : ((((⟨#[112, 97, 98]⟩ : ByteArray)[2]).toNat : Int) == 116) = false := by rfl
  unfold iv
  go_enter Tryz.func31, Tryz.ntmps31
  go_wp2_with fail
  refine (refParts_4 _).mono ?_
  rintro e w1 ⟨rfl, b1⟩
  have B1 : Hid (Below w.heap.size w w1) := ((((Below.refl _ _).alloc (Nat.le_refl _) _).alloc (by simp) _).alloc (by simp; omega) _).trans (b1.mono (by simp; omega))
  have g0 : w1.cell? ⟨w.heap.size, 0, none⟩ = some (.int .i64 4) := (cell_of_row w1 w.heap.size 0 _ _ _ ((b1.block _ (by simp; omega)).trans (three_0 w _ _ _))).trans rfl
  have g1 : w1.cell? ⟨w.heap.size, 1, none⟩ = some (.int .i64 21) := (cell_of_row w1 w.heap.size 1 _ _ _ ((b1.block _ (by simp; omega)).trans (three_0 w _ _ _))).trans rfl
  have g2 : w1.cell? ⟨w.heap.size + 1, 20, none⟩ = some (.string ⟨#[110, 111, 116]⟩) := (cell_of_row w1 (w.heap.size + 1) 20 _ _ _ ((b1.block _ (by simp)).trans (three_1 w _ _ _))).trans rfl
  clear b1
  go_wp2_with fail
  go_quiet (fail)
  go_wp2
  go_ret2
  exact ⟨rfl, below_drewN B1.out _⟩
set_option maxRecDepth 100000 in
set_option maxHeartbeats 4000000 in
theorem refWord_5_1 (a b c k : Int) (w : World) : Calls Tryz.prog 31 #[iv ⟨5, 1, a, b, c, k⟩] w fun e w' => e = .returned (.tuple #[.string ⟨(wordOf ⟨5, 1, a, b, c, k⟩).1.toArray⟩, .string ⟨(wordOf ⟨5, 1, a, b, c, k⟩).2.toArray⟩]) ∧ Below w.heap.size w w' := by
  rw [show wordOf ⟨5, 1, a, b, c, k⟩ = ([97, 100, 100], [97, 98, 99]) by simp [wordOf, bareI, wordGo, saysL]]
  have e116 : ((((⟨#[111, 97, 98, 99]⟩ : ByteArray)[3]).toNat : Int) == 116) = false := by rfl
  unfold iv
  go_enter Tryz.func31, Tryz.ntmps31
  go_wp2_with fail
  refine (refParts_5 _).mono ?_
  rintro e w1 ⟨rfl, b1⟩
  have B1 : Hid (Below w.heap.size w w1) := ((((Below.refl _ _).alloc (Nat.le_refl _) _).alloc (by simp) _).alloc (by simp; omega) _).trans (b1.mono (by simp; omega))
  have g0 : w1.cell? ⟨w.heap.size, 0, none⟩ = some (.int .i64 5) := (cell_of_row w1 w.heap.size 0 _ _ _ ((b1.block _ (by simp; omega)).trans (three_0 w _ _ _))).trans rfl
  have g1 : w1.cell? ⟨w.heap.size, 1, none⟩ = some (.int .i64 1) := (cell_of_row w1 w.heap.size 1 _ _ _ ((b1.block _ (by simp; omega)).trans (three_0 w _ _ _))).trans rfl
  have g2 : w1.cell? ⟨w.heap.size + 1, 0, none⟩ = some (.string ⟨#[97, 100, 100]⟩) := (cell_of_row w1 (w.heap.size + 1) 0 _ _ _ ((b1.block _ (by simp)).trans (three_1 w _ _ _))).trans rfl
  clear b1
  go_wp2_with fail
  go_quiet (fail)
  go_wp2
  go_ret2
  exact ⟨rfl, below_drewN B1.out _⟩
set_option maxRecDepth 100000 in
set_option maxHeartbeats 4000000 in
theorem refWord_5_2 (a b c k : Int) (w : World) : Calls Tryz.prog 31 #[iv ⟨5, 2, a, b, c, k⟩] w fun e w' => e = .returned (.tuple #[.string ⟨(wordOf ⟨5, 2, a, b, c, k⟩).1.toArray⟩, .string ⟨(wordOf ⟨5, 2, a, b, c, k⟩).2.toArray⟩]) ∧ Below w.heap.size w w' := by
  rw [show wordOf ⟨5, 2, a, b, c, k⟩ = ([115, 117, 98], [97, 98, 99]) by simp [wordOf, bareI, wordGo, saysL]]
  have e116 : ((((⟨#[111, 97, 98, 99]⟩ : ByteArray)[3]).toNat : Int) == 116) = false := by rfl
  unfold iv
  go_enter Tryz.func31, Tryz.ntmps31
  go_wp2_with fail
  refine (refParts_5 _).mono ?_
  rintro e w1 ⟨rfl, b1⟩
  have B1 : Hid (Below w.heap.size w w1) := ((((Below.refl _ _).alloc (Nat.le_refl _) _).alloc (by simp) _).alloc (by simp; omega) _).trans (b1.mono (by simp; omega))
  have g0 : w1.cell? ⟨w.heap.size, 0, none⟩ = some (.int .i64 5) := (cell_of_row w1 w.heap.size 0 _ _ _ ((b1.block _ (by simp; omega)).trans (three_0 w _ _ _))).trans rfl
  have g1 : w1.cell? ⟨w.heap.size, 1, none⟩ = some (.int .i64 2) := (cell_of_row w1 w.heap.size 1 _ _ _ ((b1.block _ (by simp; omega)).trans (three_0 w _ _ _))).trans rfl
  have g2 : w1.cell? ⟨w.heap.size + 1, 1, none⟩ = some (.string ⟨#[115, 117, 98]⟩) := (cell_of_row w1 (w.heap.size + 1) 1 _ _ _ ((b1.block _ (by simp)).trans (three_1 w _ _ _))).trans rfl
  clear b1
  go_wp2_with fail
  go_quiet (fail)
  go_wp2
  go_ret2
  exact ⟨rfl, below_drewN B1.out _⟩
set_option maxRecDepth 100000 in
set_option maxHeartbeats 4000000 in
theorem refWord_5_3 (a b c k : Int) (w : World) : Calls Tryz.prog 31 #[iv ⟨5, 3, a, b, c, k⟩] w fun e w' => e = .returned (.tuple #[.string ⟨(wordOf ⟨5, 3, a, b, c, k⟩).1.toArray⟩, .string ⟨(wordOf ⟨5, 3, a, b, c, k⟩).2.toArray⟩]) ∧ Below w.heap.size w w' := by
  rw [show wordOf ⟨5, 3, a, b, c, k⟩ = ([109, 117, 108], [97, 98, 99]) by simp [wordOf, bareI, wordGo, saysL]]
  have e116 : ((((⟨#[111, 97, 98, 99]⟩ : ByteArray)[3]).toNat : Int) == 116) = false := by rfl
  unfold iv
  go_enter Tryz.func31, Tryz.ntmps31
  go_wp2_with fail
  refine (refParts_5 _).mono ?_
  rintro e w1 ⟨rfl, b1⟩
  have B1 : Hid (Below w.heap.size w w1) := ((((Below.refl _ _).alloc (Nat.le_refl _) _).alloc (by simp) _).alloc (by simp; omega) _).trans (b1.mono (by simp; omega))
  have g0 : w1.cell? ⟨w.heap.size, 0, none⟩ = some (.int .i64 5) := (cell_of_row w1 w.heap.size 0 _ _ _ ((b1.block _ (by simp; omega)).trans (three_0 w _ _ _))).trans rfl
  have g1 : w1.cell? ⟨w.heap.size, 1, none⟩ = some (.int .i64 3) := (cell_of_row w1 w.heap.size 1 _ _ _ ((b1.block _ (by simp; omega)).trans (three_0 w _ _ _))).trans rfl
  have g2 : w1.cell? ⟨w.heap.size + 1, 2, none⟩ = some (.string ⟨#[109, 117, 108]⟩) := (cell_of_row w1 (w.heap.size + 1) 2 _ _ _ ((b1.block _ (by simp)).trans (three_1 w _ _ _))).trans rfl
  clear b1
  go_wp2_with fail
  go_quiet (fail)
  go_wp2
  go_ret2
  exact ⟨rfl, below_drewN B1.out _⟩
set_option maxRecDepth 100000 in
set_option maxHeartbeats 4000000 in
theorem refWord_5_4 (a b c k : Int) (w : World) : Calls Tryz.prog 31 #[iv ⟨5, 4, a, b, c, k⟩] w fun e w' => e = .returned (.tuple #[.string ⟨(wordOf ⟨5, 4, a, b, c, k⟩).1.toArray⟩, .string ⟨(wordOf ⟨5, 4, a, b, c, k⟩).2.toArray⟩]) ∧ Below w.heap.size w w' := by
  rw [show wordOf ⟨5, 4, a, b, c, k⟩ = ([100, 105, 118], [97, 98, 99]) by simp [wordOf, bareI, wordGo, saysL]]
  have e116 : ((((⟨#[111, 97, 98, 99]⟩ : ByteArray)[3]).toNat : Int) == 116) = false := by rfl
  unfold iv
  go_enter Tryz.func31, Tryz.ntmps31
  go_wp2_with fail
  refine (refParts_5 _).mono ?_
  rintro e w1 ⟨rfl, b1⟩
  have B1 : Hid (Below w.heap.size w w1) := ((((Below.refl _ _).alloc (Nat.le_refl _) _).alloc (by simp) _).alloc (by simp; omega) _).trans (b1.mono (by simp; omega))
  have g0 : w1.cell? ⟨w.heap.size, 0, none⟩ = some (.int .i64 5) := (cell_of_row w1 w.heap.size 0 _ _ _ ((b1.block _ (by simp; omega)).trans (three_0 w _ _ _))).trans rfl
  have g1 : w1.cell? ⟨w.heap.size, 1, none⟩ = some (.int .i64 4) := (cell_of_row w1 w.heap.size 1 _ _ _ ((b1.block _ (by simp; omega)).trans (three_0 w _ _ _))).trans rfl
  have g2 : w1.cell? ⟨w.heap.size + 1, 3, none⟩ = some (.string ⟨#[100, 105, 118]⟩) := (cell_of_row w1 (w.heap.size + 1) 3 _ _ _ ((b1.block _ (by simp)).trans (three_1 w _ _ _))).trans rfl
  clear b1
  go_wp2_with fail
  go_quiet (fail)
  go_wp2
  go_ret2
  exact ⟨rfl, below_drewN B1.out _⟩
set_option maxRecDepth 100000 in
set_option maxHeartbeats 4000000 in
theorem refWord_5_5 (a b c k : Int) (w : World) : Calls Tryz.prog 31 #[iv ⟨5, 5, a, b, c, k⟩] w fun e w' => e = .returned (.tuple #[.string ⟨(wordOf ⟨5, 5, a, b, c, k⟩).1.toArray⟩, .string ⟨(wordOf ⟨5, 5, a, b, c, k⟩).2.toArray⟩]) ∧ Below w.heap.size w w' := by
  rw [show wordOf ⟨5, 5, a, b, c, k⟩ = ([114, 101, 109], [97, 98, 99]) by simp [wordOf, bareI, wordGo, saysL]]
  have e116 : ((((⟨#[111, 97, 98, 99]⟩ : ByteArray)[3]).toNat : Int) == 116) = false := by rfl
  unfold iv
  go_enter Tryz.func31, Tryz.ntmps31
  go_wp2_with fail
  refine (refParts_5 _).mono ?_
  rintro e w1 ⟨rfl, b1⟩
  have B1 : Hid (Below w.heap.size w w1) := ((((Below.refl _ _).alloc (Nat.le_refl _) _).alloc (by simp) _).alloc (by simp; omega) _).trans (b1.mono (by simp; omega))
  have g0 : w1.cell? ⟨w.heap.size, 0, none⟩ = some (.int .i64 5) := (cell_of_row w1 w.heap.size 0 _ _ _ ((b1.block _ (by simp; omega)).trans (three_0 w _ _ _))).trans rfl
  have g1 : w1.cell? ⟨w.heap.size, 1, none⟩ = some (.int .i64 5) := (cell_of_row w1 w.heap.size 1 _ _ _ ((b1.block _ (by simp; omega)).trans (three_0 w _ _ _))).trans rfl
  have g2 : w1.cell? ⟨w.heap.size + 1, 4, none⟩ = some (.string ⟨#[114, 101, 109]⟩) := (cell_of_row w1 (w.heap.size + 1) 4 _ _ _ ((b1.block _ (by simp)).trans (three_1 w _ _ _))).trans rfl
  clear b1
  go_wp2_with fail
  go_quiet (fail)
  go_wp2
  go_ret2
  exact ⟨rfl, below_drewN B1.out _⟩
end Go.Proofs.YthcidcfaodjbjabGreatDoor
