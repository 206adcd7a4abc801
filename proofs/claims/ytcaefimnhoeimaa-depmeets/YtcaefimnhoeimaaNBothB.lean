/- What num.Two and the document's Two answer where numbers are compared. -/
import Derived.Test.YtcaefimnhoeimaaNBothA
namespace Go.Proofs.Ytcaefimnhoeimaa
open Go.RowKit
set_option linter.unusedVariables false

theorem below_yes (a b : Int) (ha : R64 a) (hb : R64 b) (h : a < b) (w : World) :
    Calls Try.prog 58 #[.int .i64 a, .int .i64 b] w fun e w' => e = .returned (.bool true) ∧ w' = w :=
  below_any a b ha hb true (by show _ = _; simp [h]) w
theorem below_no (a b : Int) (ha : R64 a) (hb : R64 b) (h : ¬ a < b) (w : World) :
    Calls Try.prog 58 #[.int .i64 a, .int .i64 b] w fun e w' => e = .returned (.bool false) ∧ w' = w :=
  below_any a b ha hb false (by show _ = _; simp [h]) w

set_option maxHeartbeats 400000 in
theorem both_11_lt (a b : Int) (ha : R64 a) (hb : R64 b) (h : a < b) : Both 11 a b 0 true := by
  refine ⟨fun w => ?_, fun w => ?_⟩
  · go_enter Try.func63, Try.ntmps63
    go_wp2
    go_ret2
    exact ⟨rfl, rfl⟩
  · go_enter Try.func31, Try.ntmps31
    go_wp2_with fail
    refine (below_yes a b ha hb h _).mono ?_
    rintro e w' ⟨rfl, rfl⟩
    go_wp2_with go_in
    go_ret2
    exact ⟨rfl, rfl⟩

set_option maxHeartbeats 400000 in
theorem both_11_eq (a : Int) (ha : R64 a) : Both 11 a a 1 true := by
  refine ⟨fun w => ?_, fun w => ?_⟩
  · go_enter Try.func63, Try.ntmps63
    go_wp2
    go_ret2
    exact ⟨rfl, rfl⟩
  · go_enter Try.func31, Try.ntmps31
    go_wp2_with fail
    refine (below_no a a ha ha (by omega) _).mono ?_
    rintro e w' ⟨rfl, rfl⟩
    go_wp2_with fail
    refine (below_no a a ha ha (by omega) _).mono ?_
    rintro e w' ⟨rfl, rfl⟩
    go_wp2_with go_in
    go_ret2
    exact ⟨rfl, rfl⟩

set_option maxHeartbeats 400000 in
theorem both_11_gt (a b : Int) (ha : R64 a) (hb : R64 b) (h : b < a) : Both 11 a b 0 true := by
  refine ⟨fun w => ?_, fun w => ?_⟩
  · go_enter Try.func63, Try.ntmps63
    go_wp2
    go_ret2
    exact ⟨rfl, rfl⟩
  · go_enter Try.func31, Try.ntmps31
    go_wp2_with fail
    refine (below_no a b ha hb (by omega) _).mono ?_
    rintro e w' ⟨rfl, rfl⟩
    go_wp2_with fail
    refine (below_yes b a hb ha h _).mono ?_
    rintro e w' ⟨rfl, rfl⟩
    go_wp2_with go_in
    go_ret2
    exact ⟨rfl, rfl⟩

set_option maxHeartbeats 400000 in
theorem both_12_lt (a b : Int) (ha : R64 a) (hb : R64 b) (h : a < b) : Both 12 a b 1 true := by
  refine ⟨fun w => ?_, fun w => ?_⟩
  · go_enter Try.func63, Try.ntmps63
    go_wp2
    go_ret2
    exact ⟨rfl, rfl⟩
  · go_enter Try.func31, Try.ntmps31
    go_wp2_with fail
    refine (below_yes a b ha hb h _).mono ?_
    rintro e w' ⟨rfl, rfl⟩
    go_wp2_with go_in
    go_ret2
    exact ⟨rfl, rfl⟩

set_option maxHeartbeats 400000 in
theorem both_12_eq (a : Int) (ha : R64 a) : Both 12 a a 0 true := by
  refine ⟨fun w => ?_, fun w => ?_⟩
  · go_enter Try.func63, Try.ntmps63
    go_wp2
    go_ret2
    exact ⟨rfl, rfl⟩
  · go_enter Try.func31, Try.ntmps31
    go_wp2_with fail
    refine (below_no a a ha ha (by omega) _).mono ?_
    rintro e w' ⟨rfl, rfl⟩
    go_wp2_with fail
    refine (below_no a a ha ha (by omega) _).mono ?_
    rintro e w' ⟨rfl, rfl⟩
    go_wp2_with go_in
    go_ret2
    exact ⟨rfl, rfl⟩

set_option maxHeartbeats 400000 in
theorem both_12_gt (a b : Int) (ha : R64 a) (hb : R64 b) (h : b < a) : Both 12 a b 1 true := by
  refine ⟨fun w => ?_, fun w => ?_⟩
  · go_enter Try.func63, Try.ntmps63
    go_wp2
    go_ret2
    exact ⟨rfl, rfl⟩
  · go_enter Try.func31, Try.ntmps31
    go_wp2_with fail
    refine (below_no a b ha hb (by omega) _).mono ?_
    rintro e w' ⟨rfl, rfl⟩
    go_wp2_with fail
    refine (below_yes b a hb ha h _).mono ?_
    rintro e w' ⟨rfl, rfl⟩
    go_wp2_with go_in
    go_ret2
    exact ⟨rfl, rfl⟩

set_option maxHeartbeats 400000 in
theorem both_13_lt (a b : Int) (ha : R64 a) (hb : R64 b) (h : a < b) : Both 13 a b 1 true := by
  refine ⟨fun w => ?_, fun w => ?_⟩
  · go_enter Try.func63, Try.ntmps63
    go_wp2
    go_ret2
    exact ⟨rfl, rfl⟩
  · go_enter Try.func31, Try.ntmps31
    go_wp2_with fail
    refine (below_yes a b ha hb h _).mono ?_
    rintro e w' ⟨rfl, rfl⟩
    go_wp2_with go_in
    go_ret2
    exact ⟨rfl, rfl⟩

set_option maxHeartbeats 400000 in
theorem both_13_eq (a : Int) (ha : R64 a) : Both 13 a a 0 true := by
  refine ⟨fun w => ?_, fun w => ?_⟩
  · go_enter Try.func63, Try.ntmps63
    go_wp2
    go_ret2
    exact ⟨rfl, rfl⟩
  · go_enter Try.func31, Try.ntmps31
    go_wp2_with fail
    refine (below_no a a ha ha (by omega) _).mono ?_
    rintro e w' ⟨rfl, rfl⟩
    go_wp2_with go_in
    go_ret2
    exact ⟨rfl, rfl⟩

set_option maxHeartbeats 400000 in
theorem both_13_gt (a b : Int) (ha : R64 a) (hb : R64 b) (h : b < a) : Both 13 a b 0 true := by
  refine ⟨fun w => ?_, fun w => ?_⟩
  · go_enter Try.func63, Try.ntmps63
    go_wp2
    go_ret2
    exact ⟨rfl, rfl⟩
  · go_enter Try.func31, Try.ntmps31
    go_wp2_with fail
    refine (below_no a b ha hb (by omega) _).mono ?_
    rintro e w' ⟨rfl, rfl⟩
    go_wp2_with go_in
    go_ret2
    exact ⟨rfl, rfl⟩

set_option maxHeartbeats 400000 in
theorem both_14_lt (a b : Int) (ha : R64 a) (hb : R64 b) (h : a < b) : Both 14 a b 1 true := by
  refine ⟨fun w => ?_, fun w => ?_⟩
  · go_enter Try.func63, Try.ntmps63
    go_wp2
    go_ret2
    exact ⟨rfl, rfl⟩
  · go_enter Try.func31, Try.ntmps31
    go_wp2_with fail
    refine (below_no b a hb ha (by omega) _).mono ?_
    rintro e w' ⟨rfl, rfl⟩
    go_wp2_with go_in
    go_ret2
    exact ⟨rfl, rfl⟩

set_option maxHeartbeats 400000 in
theorem both_14_eq (a : Int) (ha : R64 a) : Both 14 a a 1 true := by
  refine ⟨fun w => ?_, fun w => ?_⟩
  · go_enter Try.func63, Try.ntmps63
    go_wp2
    go_ret2
    exact ⟨rfl, rfl⟩
  · go_enter Try.func31, Try.ntmps31
    go_wp2_with fail
    refine (below_no a a ha ha (by omega) _).mono ?_
    rintro e w' ⟨rfl, rfl⟩
    go_wp2_with go_in
    go_ret2
    exact ⟨rfl, rfl⟩

set_option maxHeartbeats 400000 in
theorem both_14_gt (a b : Int) (ha : R64 a) (hb : R64 b) (h : b < a) : Both 14 a b 0 true := by
  refine ⟨fun w => ?_, fun w => ?_⟩
  · go_enter Try.func63, Try.ntmps63
    go_wp2
    go_ret2
    exact ⟨rfl, rfl⟩
  · go_enter Try.func31, Try.ntmps31
    go_wp2_with fail
    refine (below_yes b a hb ha h _).mono ?_
    rintro e w' ⟨rfl, rfl⟩
    go_wp2_with go_in
    go_ret2
    exact ⟨rfl, rfl⟩

set_option maxHeartbeats 400000 in
theorem both_15_lt (a b : Int) (ha : R64 a) (hb : R64 b) (h : a < b) : Both 15 a b 0 true := by
  refine ⟨fun w => ?_, fun w => ?_⟩
  · go_enter Try.func63, Try.ntmps63
    go_wp2
    go_ret2
    exact ⟨rfl, rfl⟩
  · go_enter Try.func31, Try.ntmps31
    go_wp2_with fail
    refine (below_no b a hb ha (by omega) _).mono ?_
    rintro e w' ⟨rfl, rfl⟩
    go_wp2_with go_in
    go_ret2
    exact ⟨rfl, rfl⟩

set_option maxHeartbeats 400000 in
theorem both_15_eq (a : Int) (ha : R64 a) : Both 15 a a 0 true := by
  refine ⟨fun w => ?_, fun w => ?_⟩
  · go_enter Try.func63, Try.ntmps63
    go_wp2
    go_ret2
    exact ⟨rfl, rfl⟩
  · go_enter Try.func31, Try.ntmps31
    go_wp2_with fail
    refine (below_no a a ha ha (by omega) _).mono ?_
    rintro e w' ⟨rfl, rfl⟩
    go_wp2_with go_in
    go_ret2
    exact ⟨rfl, rfl⟩

set_option maxHeartbeats 400000 in
theorem both_15_gt (a b : Int) (ha : R64 a) (hb : R64 b) (h : b < a) : Both 15 a b 1 true := by
  refine ⟨fun w => ?_, fun w => ?_⟩
  · go_enter Try.func63, Try.ntmps63
    go_wp2
    go_ret2
    exact ⟨rfl, rfl⟩
  · go_enter Try.func31, Try.ntmps31
    go_wp2_with fail
    refine (below_yes b a hb ha h _).mono ?_
    rintro e w' ⟨rfl, rfl⟩
    go_wp2_with go_in
    go_ret2
    exact ⟨rfl, rfl⟩

set_option maxHeartbeats 400000 in
theorem both_16_lt (a b : Int) (ha : R64 a) (hb : R64 b) (h : a < b) : Both 16 a b 0 true := by
  refine ⟨fun w => ?_, fun w => ?_⟩
  · go_enter Try.func63, Try.ntmps63
    go_wp2
    go_ret2
    exact ⟨rfl, rfl⟩
  · go_enter Try.func31, Try.ntmps31
    go_wp2_with fail
    refine (below_yes a b ha hb h _).mono ?_
    rintro e w' ⟨rfl, rfl⟩
    go_wp2_with go_in
    go_ret2
    exact ⟨rfl, rfl⟩

set_option maxHeartbeats 400000 in
theorem both_16_eq (a : Int) (ha : R64 a) : Both 16 a a 1 true := by
  refine ⟨fun w => ?_, fun w => ?_⟩
  · go_enter Try.func63, Try.ntmps63
    go_wp2
    go_ret2
    exact ⟨rfl, rfl⟩
  · go_enter Try.func31, Try.ntmps31
    go_wp2_with fail
    refine (below_no a a ha ha (by omega) _).mono ?_
    rintro e w' ⟨rfl, rfl⟩
    go_wp2_with go_in
    go_ret2
    exact ⟨rfl, rfl⟩

set_option maxHeartbeats 400000 in
theorem both_16_gt (a b : Int) (ha : R64 a) (hb : R64 b) (h : b < a) : Both 16 a b 1 true := by
  refine ⟨fun w => ?_, fun w => ?_⟩
  · go_enter Try.func63, Try.ntmps63
    go_wp2
    go_ret2
    exact ⟨rfl, rfl⟩
  · go_enter Try.func31, Try.ntmps31
    go_wp2_with fail
    refine (below_no a b ha hb (by omega) _).mono ?_
    rintro e w' ⟨rfl, rfl⟩
    go_wp2_with go_in
    go_ret2
    exact ⟨rfl, rfl⟩

set_option maxHeartbeats 400000 in
theorem both_17_lt (a b : Int) (ha : R64 a) (hb : R64 b) (h : a < b) : Both 17 a b a true := by
  refine ⟨fun w => ?_, fun w => ?_⟩
  · go_enter Try.func63, Try.ntmps63
    go_wp2
    go_ret2
    exact ⟨rfl, rfl⟩
  · go_enter Try.func31, Try.ntmps31
    go_wp2_with fail
    refine (below_no b a hb ha (by omega) _).mono ?_
    rintro e w' ⟨rfl, rfl⟩
    go_wp2_with go_in
    go_ret2
    exact ⟨rfl, rfl⟩

set_option maxHeartbeats 400000 in
theorem both_17_eq (a : Int) (ha : R64 a) : Both 17 a a a true := by
  refine ⟨fun w => ?_, fun w => ?_⟩
  · go_enter Try.func63, Try.ntmps63
    go_wp2
    go_ret2
    exact ⟨rfl, rfl⟩
  · go_enter Try.func31, Try.ntmps31
    go_wp2_with fail
    refine (below_no a a ha ha (by omega) _).mono ?_
    rintro e w' ⟨rfl, rfl⟩
    go_wp2_with go_in
    go_ret2
    exact ⟨rfl, rfl⟩

set_option maxHeartbeats 400000 in
theorem both_17_gt (a b : Int) (ha : R64 a) (hb : R64 b) (h : b < a) : Both 17 a b b true := by
  refine ⟨fun w => ?_, fun w => ?_⟩
  · go_enter Try.func63, Try.ntmps63
    go_wp2
    go_ret2
    exact ⟨rfl, rfl⟩
  · go_enter Try.func31, Try.ntmps31
    go_wp2_with fail
    refine (below_yes b a hb ha h _).mono ?_
    rintro e w' ⟨rfl, rfl⟩
    go_wp2_with go_in
    go_ret2
    exact ⟨rfl, rfl⟩

set_option maxHeartbeats 400000 in
theorem both_18_lt (a b : Int) (ha : R64 a) (hb : R64 b) (h : a < b) : Both 18 a b b true := by
  refine ⟨fun w => ?_, fun w => ?_⟩
  · go_enter Try.func63, Try.ntmps63
    go_wp2
    go_ret2
    exact ⟨rfl, rfl⟩
  · go_enter Try.func31, Try.ntmps31
    go_wp2_with fail
    refine (below_yes a b ha hb h _).mono ?_
    rintro e w' ⟨rfl, rfl⟩
    go_wp2_with go_in
    go_ret2
    exact ⟨rfl, rfl⟩

set_option maxHeartbeats 400000 in
theorem both_18_eq (a : Int) (ha : R64 a) : Both 18 a a a true := by
  refine ⟨fun w => ?_, fun w => ?_⟩
  · go_enter Try.func63, Try.ntmps63
    go_wp2
    go_ret2
    exact ⟨rfl, rfl⟩
  · go_enter Try.func31, Try.ntmps31
    go_wp2_with fail
    refine (below_no a a ha ha (by omega) _).mono ?_
    rintro e w' ⟨rfl, rfl⟩
    go_wp2_with go_in
    go_ret2
    exact ⟨rfl, rfl⟩

set_option maxHeartbeats 400000 in
theorem both_18_gt (a b : Int) (ha : R64 a) (hb : R64 b) (h : b < a) : Both 18 a b a true := by
  refine ⟨fun w => ?_, fun w => ?_⟩
  · go_enter Try.func63, Try.ntmps63
    go_wp2
    go_ret2
    exact ⟨rfl, rfl⟩
  · go_enter Try.func31, Try.ntmps31
    go_wp2_with fail
    refine (below_no a b ha hb (by omega) _).mono ?_
    rintro e w' ⟨rfl, rfl⟩
    go_wp2_with go_in
    go_ret2
    exact ⟨rfl, rfl⟩

set_option maxHeartbeats 1000000 in
theorem both_none (op a b : Int) (h1 : ∀ k : Int, 1 ≤ k → k ≤ 18 → (op == k) = false) : Both op a b 0 false := by
  have c1 := h1 1 (by omega) (by omega)
  have c2 := h1 2 (by omega) (by omega)
  have c3 := h1 3 (by omega) (by omega)
  have c4 := h1 4 (by omega) (by omega)
  have c5 := h1 5 (by omega) (by omega)
  have c6 := h1 6 (by omega) (by omega)
  have c7 := h1 7 (by omega) (by omega)
  have c8 := h1 8 (by omega) (by omega)
  have c9 := h1 9 (by omega) (by omega)
  have c10 := h1 10 (by omega) (by omega)
  have c11 := h1 11 (by omega) (by omega)
  have c12 := h1 12 (by omega) (by omega)
  have c13 := h1 13 (by omega) (by omega)
  have c14 := h1 14 (by omega) (by omega)
  have c15 := h1 15 (by omega) (by omega)
  have c16 := h1 16 (by omega) (by omega)
  have c17 := h1 17 (by omega) (by omega)
  have c18 := h1 18 (by omega) (by omega)
  clear h1
  refine ⟨fun w => ?_, fun w => ?_⟩
  · go_enter Try.func63, Try.ntmps63
    go_wp2
    go_ret2
    exact ⟨rfl, rfl⟩
  · go_enter Try.func31, Try.ntmps31
    go_wp2
    go_ret2
    exact ⟨rfl, rfl⟩
end Go.Proofs.Ytcaefimnhoeimaa
