/- The document's Parts, Has and One. -/
import Derived.Test.YtcaefimnhoeimaaIExp
namespace Go.Proofs.Ytcaefimnhoeimaa
open Go.RowKit
set_option linter.unusedVariables false
set_option linter.unusedSimpArgs false

/-- the document's letters -/
def letsR (n : Int) : ByteArray := if n = 1 then ⟨#[]⟩ else if n = 2 then ⟨#[97, 107]⟩ else if n = 3 then ⟨#[97, 98]⟩ else if n = 4 then ⟨#[112, 97, 98]⟩ else if n = 5 then ⟨#[111, 97, 98, 99]⟩ else if n = 6 then ⟨#[97, 98, 107]⟩ else if n = 7 then ⟨#[97, 98, 107]⟩ else if n = 8 then ⟨#[97, 114]⟩ else if n = 9 then ⟨#[97]⟩ else if n = 10 then ⟨#[116]⟩ else if n = 11 then ⟨#[97, 116]⟩ else if n = 12 then ⟨#[97, 116]⟩ else if n = 13 then ⟨#[97]⟩ else ⟨#[63]⟩
set_option maxRecDepth 100000 in
set_option maxHeartbeats 1000000 in
theorem refParts_1 (w : World) : Calls Try.prog 45 #[.int .i64 1] w fun e w' => e = .returned (.string ⟨#[]⟩) ∧ Below w.heap.size w w' := by
  go_enter Try.func45, Try.ntmps45
  go_wp2
  go_ret
  exact ⟨rfl, (Below.refl _ _).alloc (Nat.le_refl _) _⟩
set_option maxRecDepth 100000 in
set_option maxHeartbeats 1000000 in
theorem refParts_2 (w : World) : Calls Try.prog 45 #[.int .i64 2] w fun e w' => e = .returned (.string ⟨#[97, 107]⟩) ∧ Below w.heap.size w w' := by
  go_enter Try.func45, Try.ntmps45
  go_wp2
  go_ret
  exact ⟨rfl, (Below.refl _ _).alloc (Nat.le_refl _) _⟩
set_option maxRecDepth 100000 in
set_option maxHeartbeats 1000000 in
theorem refParts_3 (w : World) : Calls Try.prog 45 #[.int .i64 3] w fun e w' => e = .returned (.string ⟨#[97, 98]⟩) ∧ Below w.heap.size w w' := by
  go_enter Try.func45, Try.ntmps45
  go_wp2
  go_ret
  exact ⟨rfl, (Below.refl _ _).alloc (Nat.le_refl _) _⟩
set_option maxRecDepth 100000 in
set_option maxHeartbeats 1000000 in
theorem refParts_4 (w : World) : Calls Try.prog 45 #[.int .i64 4] w fun e w' => e = .returned (.string ⟨#[112, 97, 98]⟩) ∧ Below w.heap.size w w' := by
  go_enter Try.func45, Try.ntmps45
  go_wp2
  go_ret
  exact ⟨rfl, (Below.refl _ _).alloc (Nat.le_refl _) _⟩
set_option maxRecDepth 100000 in
set_option maxHeartbeats 1000000 in
theorem refParts_5 (w : World) : Calls Try.prog 45 #[.int .i64 5] w fun e w' => e = .returned (.string ⟨#[111, 97, 98, 99]⟩) ∧ Below w.heap.size w w' := by
  go_enter Try.func45, Try.ntmps45
  go_wp2
  go_ret
  exact ⟨rfl, (Below.refl _ _).alloc (Nat.le_refl _) _⟩
set_option maxRecDepth 100000 in
set_option maxHeartbeats 1000000 in
theorem refParts_6 (w : World) : Calls Try.prog 45 #[.int .i64 6] w fun e w' => e = .returned (.string ⟨#[97, 98, 107]⟩) ∧ Below w.heap.size w w' := by
  go_enter Try.func45, Try.ntmps45
  go_wp2
  go_ret
  exact ⟨rfl, (Below.refl _ _).alloc (Nat.le_refl _) _⟩
set_option maxRecDepth 100000 in
set_option maxHeartbeats 1000000 in
theorem refParts_7 (w : World) : Calls Try.prog 45 #[.int .i64 7] w fun e w' => e = .returned (.string ⟨#[97, 98, 107]⟩) ∧ Below w.heap.size w w' := by
  go_enter Try.func45, Try.ntmps45
  go_wp2
  go_ret
  exact ⟨rfl, (Below.refl _ _).alloc (Nat.le_refl _) _⟩
set_option maxRecDepth 100000 in
set_option maxHeartbeats 1000000 in
theorem refParts_8 (w : World) : Calls Try.prog 45 #[.int .i64 8] w fun e w' => e = .returned (.string ⟨#[97, 114]⟩) ∧ Below w.heap.size w w' := by
  go_enter Try.func45, Try.ntmps45
  go_wp2
  go_ret
  exact ⟨rfl, (Below.refl _ _).alloc (Nat.le_refl _) _⟩
set_option maxRecDepth 100000 in
set_option maxHeartbeats 1000000 in
theorem refParts_9 (w : World) : Calls Try.prog 45 #[.int .i64 9] w fun e w' => e = .returned (.string ⟨#[97]⟩) ∧ Below w.heap.size w w' := by
  go_enter Try.func45, Try.ntmps45
  go_wp2
  go_ret
  exact ⟨rfl, (Below.refl _ _).alloc (Nat.le_refl _) _⟩
set_option maxRecDepth 100000 in
set_option maxHeartbeats 1000000 in
theorem refParts_10 (w : World) : Calls Try.prog 45 #[.int .i64 10] w fun e w' => e = .returned (.string ⟨#[116]⟩) ∧ Below w.heap.size w w' := by
  go_enter Try.func45, Try.ntmps45
  go_wp2
  go_ret
  exact ⟨rfl, (Below.refl _ _).alloc (Nat.le_refl _) _⟩
set_option maxRecDepth 100000 in
set_option maxHeartbeats 1000000 in
theorem refParts_11 (w : World) : Calls Try.prog 45 #[.int .i64 11] w fun e w' => e = .returned (.string ⟨#[97, 116]⟩) ∧ Below w.heap.size w w' := by
  go_enter Try.func45, Try.ntmps45
  go_wp2
  go_ret
  exact ⟨rfl, (Below.refl _ _).alloc (Nat.le_refl _) _⟩
set_option maxRecDepth 100000 in
set_option maxHeartbeats 1000000 in
theorem refParts_12 (w : World) : Calls Try.prog 45 #[.int .i64 12] w fun e w' => e = .returned (.string ⟨#[97, 116]⟩) ∧ Below w.heap.size w w' := by
  go_enter Try.func45, Try.ntmps45
  go_wp2
  go_ret
  exact ⟨rfl, (Below.refl _ _).alloc (Nat.le_refl _) _⟩
set_option maxRecDepth 100000 in
set_option maxHeartbeats 1000000 in
theorem refParts_13 (w : World) : Calls Try.prog 45 #[.int .i64 13] w fun e w' => e = .returned (.string ⟨#[97]⟩) ∧ Below w.heap.size w w' := by
  go_enter Try.func45, Try.ntmps45
  go_wp2
  go_ret
  exact ⟨rfl, (Below.refl _ _).alloc (Nat.le_refl _) _⟩
set_option maxRecDepth 100000 in
set_option maxHeartbeats 1000000 in
theorem refParts_none (n : Int) (w : World) (h : n < 1 ∨ 13 < n) : Calls Try.prog 45 #[.int .i64 n] w fun e w' => e = .returned (.string ⟨#[63]⟩) ∧ Below w.heap.size w w' := by
  rcases h with h | h
  · go_enter Try.func45, Try.ntmps45
    go_wp2
    go_ret
    exact ⟨rfl, (Below.refl _ _).alloc (Nat.le_refl _) _⟩
  · have h1 : ¬ n < 1 := by omega
    go_enter Try.func45, Try.ntmps45
    go_wp2
    go_ret
    exact ⟨rfl, (Below.refl _ _).alloc (Nat.le_refl _) _⟩

end Go.Proofs.Ytcaefimnhoeimaa
