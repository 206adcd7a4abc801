/- What the document's Two answers, operation by operation, where a reduction asks it. -/
import Derived.Test.YtongeppdaeekeaaNRefD
import Derived.Test.YtongeppdaeekeaaRow
namespace Go.Proofs.Ytongeppdaeekeaa
open Go.RowKit
set_option linter.unusedVariables false

theorem ret2 {a b : Int} {c : Bool} (h : a = b) : Ending.returned (.tuple #[.int .i64 a, .bool c]) = .returned (.tuple #[.int .i64 b, .bool c]) := by rw [h]
theorem below_yes (a b : Int) (ha : R64 a) (hb : R64 b) (h : a < b) (w : World) :
    Calls Try.prog 123 #[.int .i64 a, .int .i64 b] w fun e w' => e = .returned (.bool true) ∧ w' = w :=
  below_any a b ha hb true (by show _ = _; simp [h]) w
theorem below_no (a b : Int) (ha : R64 a) (hb : R64 b) (h : ¬ a < b) (w : World) :
    Calls Try.prog 123 #[.int .i64 a, .int .i64 b] w fun e w' => e = .returned (.bool false) ∧ w' = w :=
  below_any a b ha hb false (by show _ = _; simp [h]) w

set_option maxHeartbeats 400000 in
theorem rtwo_1 (a b : Int) (ha : R64 a) (hb : R64 b) : ∀ w, Calls Try.prog 109 #[.int .i64 1, .int .i64 a, .int .i64 b] w fun e w' => e = .returned (.tuple #[.int .i64 (wrap64 (a + b)), .bool true]) ∧ w' = w := by
  intro w
  go_enter Try.func109, Try.ntmps109
  go_wp2_with (go_at_call 114; refine (add_any _ _ ha hb _).mono ?_; rintro e w' ⟨rfl, rfl⟩)
  go_ret2
  exact ⟨rfl, rfl⟩
set_option maxHeartbeats 400000 in
theorem rtwo_3 (a b : Int) (ha : R64 a) (hb : R64 b) : ∀ w, Calls Try.prog 109 #[.int .i64 3, .int .i64 a, .int .i64 b] w fun e w' => e = .returned (.tuple #[.int .i64 (wrap64 (a * b)), .bool true]) ∧ w' = w := by
  intro w
  go_enter Try.func109, Try.ntmps109
  go_wp2_with (go_at_call 116; refine (mul_any _ _ ha hb _).mono ?_; rintro e w' ⟨rfl, rfl⟩)
  go_ret2
  exact ⟨rfl, rfl⟩
set_option maxHeartbeats 400000 in
theorem rtwo_6 (a b : Int) (ha : R64 a) (hb : R64 b) : ∀ w, Calls Try.prog 109 #[.int .i64 6, .int .i64 a, .int .i64 b] w fun e w' => e = .returned (.tuple #[.int .i64 (bits .and .i64 a b), .bool true]) ∧ w' = w := by
  intro w
  have E : Hid _ := i64_and a b
  go_enter Try.func109, Try.ntmps109
  go_wp2_with (go_at_call 120; refine (logic_6 _ _ ha hb _).mono ?_; rintro e w' ⟨rfl, rfl⟩)
  go_ret2
  exact ⟨ret2 (by rw [E.out]; rfl), rfl⟩
set_option maxHeartbeats 400000 in
theorem rtwo_7 (a b : Int) (ha : R64 a) (hb : R64 b) : ∀ w, Calls Try.prog 109 #[.int .i64 7, .int .i64 a, .int .i64 b] w fun e w' => e = .returned (.tuple #[.int .i64 (bits .or .i64 a b), .bool true]) ∧ w' = w := by
  intro w
  have E : Hid _ := i64_or a b
  go_enter Try.func109, Try.ntmps109
  go_wp2_with (go_at_call 120; refine (logic_7 _ _ ha hb _).mono ?_; rintro e w' ⟨rfl, rfl⟩)
  go_ret2
  exact ⟨ret2 (by rw [E.out]; rfl), rfl⟩
set_option maxHeartbeats 400000 in
theorem rtwo_8 (a b : Int) (ha : R64 a) (hb : R64 b) : ∀ w, Calls Try.prog 109 #[.int .i64 8, .int .i64 a, .int .i64 b] w fun e w' => e = .returned (.tuple #[.int .i64 (bits .xor .i64 a b), .bool true]) ∧ w' = w := by
  intro w
  have E : Hid _ := i64_xor a b
  go_enter Try.func109, Try.ntmps109
  go_wp2_with (go_at_call 120; refine (logic_8 _ _ ha hb _).mono ?_; rintro e w' ⟨rfl, rfl⟩)
  go_ret2
  exact ⟨ret2 (by rw [E.out]; rfl), rfl⟩
set_option maxHeartbeats 400000 in
theorem rtwo_17_lt (a b : Int) (ha : R64 a) (hb : R64 b) (h : a < b) : ∀ w, Calls Try.prog 109 #[.int .i64 17, .int .i64 a, .int .i64 b] w fun e w' => e = .returned (.tuple #[.int .i64 a, .bool true]) ∧ w' = w := by
  intro w
  go_enter Try.func109, Try.ntmps109
  go_wp2_with fail
  refine (below_no b a hb ha (by omega) _).mono ?_
  rintro e w' ⟨rfl, rfl⟩
  go_wp2_with go_in
  go_ret2
  exact ⟨rfl, rfl⟩
set_option maxHeartbeats 400000 in
theorem rtwo_17_eq (a : Int) (ha : R64 a) : ∀ w, Calls Try.prog 109 #[.int .i64 17, .int .i64 a, .int .i64 a] w fun e w' => e = .returned (.tuple #[.int .i64 a, .bool true]) ∧ w' = w := by
  intro w
  go_enter Try.func109, Try.ntmps109
  go_wp2_with fail
  refine (below_no a a ha ha (by omega) _).mono ?_
  rintro e w' ⟨rfl, rfl⟩
  go_wp2_with go_in
  go_ret2
  exact ⟨rfl, rfl⟩
set_option maxHeartbeats 400000 in
theorem rtwo_17_gt (a b : Int) (ha : R64 a) (hb : R64 b) (h : b < a) : ∀ w, Calls Try.prog 109 #[.int .i64 17, .int .i64 a, .int .i64 b] w fun e w' => e = .returned (.tuple #[.int .i64 b, .bool true]) ∧ w' = w := by
  intro w
  go_enter Try.func109, Try.ntmps109
  go_wp2_with fail
  refine (below_yes b a hb ha h _).mono ?_
  rintro e w' ⟨rfl, rfl⟩
  go_wp2_with go_in
  go_ret2
  exact ⟨rfl, rfl⟩
set_option maxHeartbeats 400000 in
theorem rtwo_18_lt (a b : Int) (ha : R64 a) (hb : R64 b) (h : a < b) : ∀ w, Calls Try.prog 109 #[.int .i64 18, .int .i64 a, .int .i64 b] w fun e w' => e = .returned (.tuple #[.int .i64 b, .bool true]) ∧ w' = w := by
  intro w
  go_enter Try.func109, Try.ntmps109
  go_wp2_with fail
  refine (below_yes a b ha hb h _).mono ?_
  rintro e w' ⟨rfl, rfl⟩
  go_wp2_with go_in
  go_ret2
  exact ⟨rfl, rfl⟩
set_option maxHeartbeats 400000 in
theorem rtwo_18_eq (a : Int) (ha : R64 a) : ∀ w, Calls Try.prog 109 #[.int .i64 18, .int .i64 a, .int .i64 a] w fun e w' => e = .returned (.tuple #[.int .i64 a, .bool true]) ∧ w' = w := by
  intro w
  go_enter Try.func109, Try.ntmps109
  go_wp2_with fail
  refine (below_no a a ha ha (by omega) _).mono ?_
  rintro e w' ⟨rfl, rfl⟩
  go_wp2_with go_in
  go_ret2
  exact ⟨rfl, rfl⟩
set_option maxHeartbeats 400000 in
theorem rtwo_18_gt (a b : Int) (ha : R64 a) (hb : R64 b) (h : b < a) : ∀ w, Calls Try.prog 109 #[.int .i64 18, .int .i64 a, .int .i64 b] w fun e w' => e = .returned (.tuple #[.int .i64 a, .bool true]) ∧ w' = w := by
  intro w
  go_enter Try.func109, Try.ntmps109
  go_wp2_with fail
  refine (below_no a b ha hb (by omega) _).mono ?_
  rintro e w' ⟨rfl, rfl⟩
  go_wp2_with go_in
  go_ret2
  exact ⟨rfl, rfl⟩
end Go.Proofs.Ytongeppdaeekeaa
