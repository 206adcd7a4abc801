/- NumCounts: for any two ints, sums and products of counts are those of the numbers, or the greatest int; it has no conditions. -/
import Derived.Test.YtjdcoiekbnefkabRows
import Derived.Test.YtjdcoiekbnefkabAlive
import Derived.Test.YtjdcoiekbnefkabCnt
import Derived.WalkKit
import Derived.ProofKit
import Derived.OpenShut
import Derived.ShutString
namespace Go.Proofs.Ytjdcoiekbnefkab.numCounts
open Go.ChangeShapes Go.WideShapes Go.ChangeAt Go.RowKit
open Go.ChangeMaps (open_string shut_string)
set_option linter.unusedVariables false      -- a walk need not use every 'w<i>' (that an integer argument fits its kind)

theorem own : ownKnob Try.prog.godebug = none := by kernel_rfl


theorem bounds {a : Int} (h : (Lit.int .i64 a).wf = true) : -9223372036854775808 ≤ a ∧ a ≤ 9223372036854775807 := by
  have := bounds_i64 h
  omega

theorem plus_is (a b s : Int) (ha : Hid (-9223372036854775808 ≤ a ∧ a ≤ 9223372036854775807)) (hb : Hid (-9223372036854775808 ≤ b ∧ b ≤ 9223372036854775807)) (hs : Hid (plusV a b = s)) (w : World) :
    Calls Try.prog 15 #[.int .i64 a, .int .i64 b] w fun e w' => e = .returned (.int .i64 s) ∧ w' = w := by
  rw [← hs.out]; exact plus_any a b ha.out hb.out w
theorem times_is (a b s : Int) (ha : Hid (-9223372036854775808 ≤ a ∧ a ≤ 9223372036854775807)) (hb : Hid (-9223372036854775808 ≤ b ∧ b ≤ 9223372036854775807)) (hs : Hid (timesV a b = s)) (w : World) :
    Calls Try.prog 16 #[.int .i64 a, .int .i64 b] w fun e w' => e = .returned (.int .i64 s) ∧ w' = w := by
  rw [← hs.out]; exact times_any a b ha.out hb.out w

theorem quo_le {x y : Int} (hx : 0 < x) (h : 9223372036854775807 ≤ x * y) : 9223372036854775807 / x ≤ y := by
  have := Int.ediv_le_ediv hx h
  rw [Int.mul_ediv_cancel_left _ (by omega)] at this
  exact this

set_option maxHeartbeats 1000000 in
theorem w_nn (a b : Int) (h1 : a < 0) (h2 : b < 0) (w : World)
    (ha : Hid (-9223372036854775808 ≤ a ∧ a ≤ 9223372036854775807)) (hb : Hid (-9223372036854775808 ≤ b ∧ b ≤ 9223372036854775807))
    (s1 : Hid (plusV a b = 0)) (s2 : Hid (plusV b a = 0)) (p1 : Hid (timesV a b = 0)) (p2 : Hid (timesV b a = 0)) :
    Calls Try.prog 6 #[.int .i64 a, .int .i64 b] w fun e w' => e = .returned (.bool true) ∧ Grown w w' := by
  go_enter Try.func6, Try.ntmps6
  go_wp2_with fail
  refine (plus_is _ _ _ ha hb s1 _).mono ?_
  rintro e w' ⟨rfl, rfl⟩
  go_wp2_with fail
  refine (times_is _ _ _ ha hb p1 _).mono ?_
  rintro e w' ⟨rfl, rfl⟩
  go_wp2_with fail
  refine (plus_is _ _ _ hb ha s2 _).mono ?_
  rintro e w' ⟨rfl, rfl⟩
  go_wp2_with fail
  refine (times_is _ _ _ hb ha p2 _).mono ?_
  rintro e w' ⟨rfl, rfl⟩
  go_wp2_with fail
  refine (alive_any _).mono ?_
  rintro e w' ⟨rfl, hg⟩
  go_wp2
  go_ret
  exact ⟨rfl, hg⟩

set_option maxHeartbeats 1000000 in
theorem w_nz (a : Int) (h1 : a < 0) (w : World)
    (ha : Hid (-9223372036854775808 ≤ a ∧ a ≤ 9223372036854775807)) (hb : Hid (-9223372036854775808 ≤ (0 : Int) ∧ (0 : Int) ≤ 9223372036854775807))
    (s1 : Hid (plusV a 0 = 0)) (s2 : Hid (plusV 0 a = 0)) (p1 : Hid (timesV a 0 = 0)) (p2 : Hid (timesV 0 a = 0)) :
    Calls Try.prog 6 #[.int .i64 a, .int .i64 0] w fun e w' => e = .returned (.bool true) ∧ Grown w w' := by
  go_enter Try.func6, Try.ntmps6
  go_wp2_with fail
  refine (plus_is _ _ _ ha hb s1 _).mono ?_
  rintro e w' ⟨rfl, rfl⟩
  go_wp2_with fail
  refine (times_is _ _ _ ha hb p1 _).mono ?_
  rintro e w' ⟨rfl, rfl⟩
  go_wp2_with fail
  refine (plus_is _ _ _ hb ha s2 _).mono ?_
  rintro e w' ⟨rfl, rfl⟩
  go_wp2_with fail
  refine (times_is _ _ _ hb ha p2 _).mono ?_
  rintro e w' ⟨rfl, rfl⟩
  go_wp2_with fail
  refine (alive_any _).mono ?_
  rintro e w' ⟨rfl, hg⟩
  go_wp2
  go_ret
  exact ⟨rfl, hg⟩

set_option maxHeartbeats 1000000 in
theorem w_zn (b : Int) (h2 : b < 0) (w : World)
    (ha : Hid (-9223372036854775808 ≤ (0 : Int) ∧ (0 : Int) ≤ 9223372036854775807)) (hb : Hid (-9223372036854775808 ≤ b ∧ b ≤ 9223372036854775807))
    (s1 : Hid (plusV 0 b = 0)) (s2 : Hid (plusV b 0 = 0)) (p1 : Hid (timesV 0 b = 0)) (p2 : Hid (timesV b 0 = 0)) :
    Calls Try.prog 6 #[.int .i64 0, .int .i64 b] w fun e w' => e = .returned (.bool true) ∧ Grown w w' := by
  go_enter Try.func6, Try.ntmps6
  go_wp2_with fail
  refine (plus_is _ _ _ ha hb s1 _).mono ?_
  rintro e w' ⟨rfl, rfl⟩
  go_wp2_with fail
  refine (times_is _ _ _ ha hb p1 _).mono ?_
  rintro e w' ⟨rfl, rfl⟩
  go_wp2_with fail
  refine (plus_is _ _ _ hb ha s2 _).mono ?_
  rintro e w' ⟨rfl, rfl⟩
  go_wp2_with fail
  refine (times_is _ _ _ hb ha p2 _).mono ?_
  rintro e w' ⟨rfl, rfl⟩
  go_wp2_with fail
  refine (alive_any _).mono ?_
  rintro e w' ⟨rfl, hg⟩
  go_wp2
  go_ret
  exact ⟨rfl, hg⟩

set_option maxHeartbeats 1000000 in
theorem w_zz  (w : World)
    (ha : Hid (-9223372036854775808 ≤ (0 : Int) ∧ (0 : Int) ≤ 9223372036854775807)) (hb : Hid (-9223372036854775808 ≤ (0 : Int) ∧ (0 : Int) ≤ 9223372036854775807))
    (s1 : Hid (plusV 0 0 = 0)) (s2 : Hid (plusV 0 0 = 0)) (p1 : Hid (timesV 0 0 = 0)) (p2 : Hid (timesV 0 0 = 0)) :
    Calls Try.prog 6 #[.int .i64 0, .int .i64 0] w fun e w' => e = .returned (.bool true) ∧ Grown w w' := by
  go_enter Try.func6, Try.ntmps6
  go_wp2_with fail
  refine (plus_is _ _ _ ha hb s1 _).mono ?_
  rintro e w' ⟨rfl, rfl⟩
  go_wp2_with fail
  refine (times_is _ _ _ ha hb p1 _).mono ?_
  rintro e w' ⟨rfl, rfl⟩
  go_wp2_with fail
  refine (plus_is _ _ _ hb ha s2 _).mono ?_
  rintro e w' ⟨rfl, rfl⟩
  go_wp2_with fail
  refine (times_is _ _ _ hb ha p2 _).mono ?_
  rintro e w' ⟨rfl, rfl⟩
  go_wp2_with fail
  refine (alive_any _).mono ?_
  rintro e w' ⟨rfl, hg⟩
  go_wp2
  go_ret
  exact ⟨rfl, hg⟩

set_option maxHeartbeats 1000000 in
theorem w_pnl (x b : Int) (h0 : 0 < x) (h9 : x ≤ 9223372036854775807) (h1 : x < 9223372036854775807) (h2 : b < 0) (w : World)
    (ha : Hid (-9223372036854775808 ≤ x ∧ x ≤ 9223372036854775807)) (hb : Hid (-9223372036854775808 ≤ b ∧ b ≤ 9223372036854775807))
    (s1 : Hid (plusV x b = x)) (s2 : Hid (plusV b x = x)) (p1 : Hid (timesV x b = 0)) (p2 : Hid (timesV b x = 0)) :
    Calls Try.prog 6 #[.int .i64 x, .int .i64 b] w fun e w' => e = .returned (.bool true) ∧ Grown w w' := by
  have d3 : (x != 9223372036854775807) = true := by simp; omega
  have d4 : (x == 9223372036854775807) = false := by simp; omega
  have d5 : (x == 0) = false := by simp; omega
  go_enter Try.func6, Try.ntmps6
  go_wp2_with fail
  refine (plus_is _ _ _ ha hb s1 _).mono ?_
  rintro e w' ⟨rfl, rfl⟩
  go_wp2_with fail
  refine (times_is _ _ _ ha hb p1 _).mono ?_
  rintro e w' ⟨rfl, rfl⟩
  go_wp2_with fail
  refine (plus_is _ _ _ hb ha s2 _).mono ?_
  rintro e w' ⟨rfl, rfl⟩
  go_wp2_with fail
  refine (times_is _ _ _ hb ha p2 _).mono ?_
  rintro e w' ⟨rfl, rfl⟩
  go_wp2_with fail
  refine (alive_any _).mono ?_
  rintro e w' ⟨rfl, hg⟩
  go_wp2
  go_ret
  exact ⟨rfl, hg⟩

set_option maxHeartbeats 1000000 in
theorem w_pzl (x : Int) (h0 : 0 < x) (h9 : x ≤ 9223372036854775807) (h1 : x < 9223372036854775807) (w : World)
    (ha : Hid (-9223372036854775808 ≤ x ∧ x ≤ 9223372036854775807)) (hb : Hid (-9223372036854775808 ≤ (0 : Int) ∧ (0 : Int) ≤ 9223372036854775807))
    (s1 : Hid (plusV x 0 = x)) (s2 : Hid (plusV 0 x = x)) (p1 : Hid (timesV x 0 = 0)) (p2 : Hid (timesV 0 x = 0)) :
    Calls Try.prog 6 #[.int .i64 x, .int .i64 0] w fun e w' => e = .returned (.bool true) ∧ Grown w w' := by
  have d3 : (x != 9223372036854775807) = true := by simp; omega
  have d4 : (x == 9223372036854775807) = false := by simp; omega
  have d5 : (x == 0) = false := by simp; omega
  go_enter Try.func6, Try.ntmps6
  go_wp2_with fail
  refine (plus_is _ _ _ ha hb s1 _).mono ?_
  rintro e w' ⟨rfl, rfl⟩
  go_wp2_with fail
  refine (times_is _ _ _ ha hb p1 _).mono ?_
  rintro e w' ⟨rfl, rfl⟩
  go_wp2_with fail
  refine (plus_is _ _ _ hb ha s2 _).mono ?_
  rintro e w' ⟨rfl, rfl⟩
  go_wp2_with fail
  refine (times_is _ _ _ hb ha p2 _).mono ?_
  rintro e w' ⟨rfl, rfl⟩
  go_wp2_with fail
  refine (alive_any _).mono ?_
  rintro e w' ⟨rfl, hg⟩
  go_wp2
  go_ret
  exact ⟨rfl, hg⟩

set_option maxHeartbeats 1000000 in
theorem w_npl (x b : Int) (h0 : 0 < x) (h9 : x ≤ 9223372036854775807) (h1 : x < 9223372036854775807) (h2 : b < 0) (w : World)
    (ha : Hid (-9223372036854775808 ≤ b ∧ b ≤ 9223372036854775807)) (hb : Hid (-9223372036854775808 ≤ x ∧ x ≤ 9223372036854775807))
    (s1 : Hid (plusV b x = x)) (s2 : Hid (plusV x b = x)) (p1 : Hid (timesV b x = 0)) (p2 : Hid (timesV x b = 0)) :
    Calls Try.prog 6 #[.int .i64 b, .int .i64 x] w fun e w' => e = .returned (.bool true) ∧ Grown w w' := by
  have d3 : (x != 9223372036854775807) = true := by simp; omega
  have d4 : (x == 9223372036854775807) = false := by simp; omega
  have d5 : (x == 0) = false := by simp; omega
  go_enter Try.func6, Try.ntmps6
  go_wp2_with fail
  refine (plus_is _ _ _ ha hb s1 _).mono ?_
  rintro e w' ⟨rfl, rfl⟩
  go_wp2_with fail
  refine (times_is _ _ _ ha hb p1 _).mono ?_
  rintro e w' ⟨rfl, rfl⟩
  go_wp2_with fail
  refine (plus_is _ _ _ hb ha s2 _).mono ?_
  rintro e w' ⟨rfl, rfl⟩
  go_wp2_with fail
  refine (times_is _ _ _ hb ha p2 _).mono ?_
  rintro e w' ⟨rfl, rfl⟩
  go_wp2_with fail
  refine (alive_any _).mono ?_
  rintro e w' ⟨rfl, hg⟩
  go_wp2
  go_ret
  exact ⟨rfl, hg⟩

set_option maxHeartbeats 1000000 in
theorem w_zpl (x : Int) (h0 : 0 < x) (h9 : x ≤ 9223372036854775807) (h1 : x < 9223372036854775807) (w : World)
    (ha : Hid (-9223372036854775808 ≤ (0 : Int) ∧ (0 : Int) ≤ 9223372036854775807)) (hb : Hid (-9223372036854775808 ≤ x ∧ x ≤ 9223372036854775807))
    (s1 : Hid (plusV 0 x = x)) (s2 : Hid (plusV x 0 = x)) (p1 : Hid (timesV 0 x = 0)) (p2 : Hid (timesV x 0 = 0)) :
    Calls Try.prog 6 #[.int .i64 0, .int .i64 x] w fun e w' => e = .returned (.bool true) ∧ Grown w w' := by
  have d3 : (x != 9223372036854775807) = true := by simp; omega
  have d4 : (x == 9223372036854775807) = false := by simp; omega
  have d5 : (x == 0) = false := by simp; omega
  go_enter Try.func6, Try.ntmps6
  go_wp2_with fail
  refine (plus_is _ _ _ ha hb s1 _).mono ?_
  rintro e w' ⟨rfl, rfl⟩
  go_wp2_with fail
  refine (times_is _ _ _ ha hb p1 _).mono ?_
  rintro e w' ⟨rfl, rfl⟩
  go_wp2_with fail
  refine (plus_is _ _ _ hb ha s2 _).mono ?_
  rintro e w' ⟨rfl, rfl⟩
  go_wp2_with fail
  refine (times_is _ _ _ hb ha p2 _).mono ?_
  rintro e w' ⟨rfl, rfl⟩
  go_wp2_with fail
  refine (alive_any _).mono ?_
  rintro e w' ⟨rfl, hg⟩
  go_wp2
  go_ret
  exact ⟨rfl, hg⟩

set_option maxHeartbeats 1000000 in
theorem w_pnt (x b : Int) (h0 : 0 < x) (h9 : x ≤ 9223372036854775807) (h1 : 9223372036854775807 ≤ x) (h2 : b < 0) (w : World)
    (ha : Hid (-9223372036854775808 ≤ x ∧ x ≤ 9223372036854775807)) (hb : Hid (-9223372036854775808 ≤ b ∧ b ≤ 9223372036854775807))
    (s1 : Hid (plusV x b = x)) (s2 : Hid (plusV b x = x)) (p1 : Hid (timesV x b = 0)) (p2 : Hid (timesV b x = 0)) :
    Calls Try.prog 6 #[.int .i64 x, .int .i64 b] w fun e w' => e = .returned (.bool true) ∧ Grown w w' := by
  have d3 : (x != 9223372036854775807) = false := by simp; omega
  have d4 : (x == 9223372036854775807) = true := by simp; omega
  have d5 : (x == 0) = false := by simp; omega
  go_enter Try.func6, Try.ntmps6
  go_wp2_with fail
  refine (plus_is _ _ _ ha hb s1 _).mono ?_
  rintro e w' ⟨rfl, rfl⟩
  go_wp2_with fail
  refine (times_is _ _ _ ha hb p1 _).mono ?_
  rintro e w' ⟨rfl, rfl⟩
  go_wp2_with fail
  refine (plus_is _ _ _ hb ha s2 _).mono ?_
  rintro e w' ⟨rfl, rfl⟩
  go_wp2_with fail
  refine (times_is _ _ _ hb ha p2 _).mono ?_
  rintro e w' ⟨rfl, rfl⟩
  go_wp2_with fail
  refine (alive_any _).mono ?_
  rintro e w' ⟨rfl, hg⟩
  go_wp2
  go_ret
  exact ⟨rfl, hg⟩

set_option maxHeartbeats 1000000 in
theorem w_pzt (x : Int) (h0 : 0 < x) (h9 : x ≤ 9223372036854775807) (h1 : 9223372036854775807 ≤ x) (w : World)
    (ha : Hid (-9223372036854775808 ≤ x ∧ x ≤ 9223372036854775807)) (hb : Hid (-9223372036854775808 ≤ (0 : Int) ∧ (0 : Int) ≤ 9223372036854775807))
    (s1 : Hid (plusV x 0 = x)) (s2 : Hid (plusV 0 x = x)) (p1 : Hid (timesV x 0 = 0)) (p2 : Hid (timesV 0 x = 0)) :
    Calls Try.prog 6 #[.int .i64 x, .int .i64 0] w fun e w' => e = .returned (.bool true) ∧ Grown w w' := by
  have d3 : (x != 9223372036854775807) = false := by simp; omega
  have d4 : (x == 9223372036854775807) = true := by simp; omega
  have d5 : (x == 0) = false := by simp; omega
  go_enter Try.func6, Try.ntmps6
  go_wp2_with fail
  refine (plus_is _ _ _ ha hb s1 _).mono ?_
  rintro e w' ⟨rfl, rfl⟩
  go_wp2_with fail
  refine (times_is _ _ _ ha hb p1 _).mono ?_
  rintro e w' ⟨rfl, rfl⟩
  go_wp2_with fail
  refine (plus_is _ _ _ hb ha s2 _).mono ?_
  rintro e w' ⟨rfl, rfl⟩
  go_wp2_with fail
  refine (times_is _ _ _ hb ha p2 _).mono ?_
  rintro e w' ⟨rfl, rfl⟩
  go_wp2_with fail
  refine (alive_any _).mono ?_
  rintro e w' ⟨rfl, hg⟩
  go_wp2
  go_ret
  exact ⟨rfl, hg⟩

set_option maxHeartbeats 1000000 in
theorem w_npt (x b : Int) (h0 : 0 < x) (h9 : x ≤ 9223372036854775807) (h1 : 9223372036854775807 ≤ x) (h2 : b < 0) (w : World)
    (ha : Hid (-9223372036854775808 ≤ b ∧ b ≤ 9223372036854775807)) (hb : Hid (-9223372036854775808 ≤ x ∧ x ≤ 9223372036854775807))
    (s1 : Hid (plusV b x = x)) (s2 : Hid (plusV x b = x)) (p1 : Hid (timesV b x = 0)) (p2 : Hid (timesV x b = 0)) :
    Calls Try.prog 6 #[.int .i64 b, .int .i64 x] w fun e w' => e = .returned (.bool true) ∧ Grown w w' := by
  have d3 : (x != 9223372036854775807) = false := by simp; omega
  have d4 : (x == 9223372036854775807) = true := by simp; omega
  have d5 : (x == 0) = false := by simp; omega
  go_enter Try.func6, Try.ntmps6
  go_wp2_with fail
  refine (plus_is _ _ _ ha hb s1 _).mono ?_
  rintro e w' ⟨rfl, rfl⟩
  go_wp2_with fail
  refine (times_is _ _ _ ha hb p1 _).mono ?_
  rintro e w' ⟨rfl, rfl⟩
  go_wp2_with fail
  refine (plus_is _ _ _ hb ha s2 _).mono ?_
  rintro e w' ⟨rfl, rfl⟩
  go_wp2_with fail
  refine (times_is _ _ _ hb ha p2 _).mono ?_
  rintro e w' ⟨rfl, rfl⟩
  go_wp2_with fail
  refine (alive_any _).mono ?_
  rintro e w' ⟨rfl, hg⟩
  go_wp2
  go_ret
  exact ⟨rfl, hg⟩

set_option maxHeartbeats 1000000 in
theorem w_zpt (x : Int) (h0 : 0 < x) (h9 : x ≤ 9223372036854775807) (h1 : 9223372036854775807 ≤ x) (w : World)
    (ha : Hid (-9223372036854775808 ≤ (0 : Int) ∧ (0 : Int) ≤ 9223372036854775807)) (hb : Hid (-9223372036854775808 ≤ x ∧ x ≤ 9223372036854775807))
    (s1 : Hid (plusV 0 x = x)) (s2 : Hid (plusV x 0 = x)) (p1 : Hid (timesV 0 x = 0)) (p2 : Hid (timesV x 0 = 0)) :
    Calls Try.prog 6 #[.int .i64 0, .int .i64 x] w fun e w' => e = .returned (.bool true) ∧ Grown w w' := by
  have d3 : (x != 9223372036854775807) = false := by simp; omega
  have d4 : (x == 9223372036854775807) = true := by simp; omega
  have d5 : (x == 0) = false := by simp; omega
  go_enter Try.func6, Try.ntmps6
  go_wp2_with fail
  refine (plus_is _ _ _ ha hb s1 _).mono ?_
  rintro e w' ⟨rfl, rfl⟩
  go_wp2_with fail
  refine (times_is _ _ _ ha hb p1 _).mono ?_
  rintro e w' ⟨rfl, rfl⟩
  go_wp2_with fail
  refine (plus_is _ _ _ hb ha s2 _).mono ?_
  rintro e w' ⟨rfl, rfl⟩
  go_wp2_with fail
  refine (times_is _ _ _ hb ha p2 _).mono ?_
  rintro e w' ⟨rfl, rfl⟩
  go_wp2_with fail
  refine (alive_any _).mono ?_
  rintro e w' ⟨rfl, hg⟩
  go_wp2
  go_ret
  exact ⟨rfl, hg⟩

set_option maxHeartbeats 1000000 in
theorem w_ppll (x y s p : Int) (x0 : 0 < x) (y0 : 0 < y) (x9 : x ≤ 9223372036854775807) (y9 : y ≤ 9223372036854775807) (hs1 : s < 9223372036854775807) (hs2 : s ≤ x + y) (hs3 : x + y ≤ s) (p0 : 0 ≤ p) (q3 : p < 9223372036854775807) (q4 : (p / x == y) = true) (q5 : (p % x == 0) = true) (w : World)
    (ha : Hid (-9223372036854775808 ≤ x ∧ x ≤ 9223372036854775807)) (hb : Hid (-9223372036854775808 ≤ y ∧ y ≤ 9223372036854775807))
    (s1 : Hid (plusV x y = s)) (s2 : Hid (plusV y x = s)) (p1 : Hid (timesV x y = p)) (p2 : Hid (timesV y x = p)) :
    Calls Try.prog 6 #[.int .i64 x, .int .i64 y] w fun e w' => e = .returned (.bool true) ∧ Grown w w' := by
  have d1 : decide (s < x) = false := by simp; omega
  have d2 : decide (s < y) = false := by simp; omega
  have d3 : (s != 9223372036854775807) = true := by simp; omega
  have d4 : (s == 9223372036854775807) = false := by simp; omega
  have d5 : (x == 0) = false := by simp; omega
  have d6 : (y == 0) = false := by simp; omega
  have d7 : (p != 9223372036854775807) = true := by simp; omega
  go_enter Try.func6, Try.ntmps6
  go_wp2_with fail
  refine (plus_is _ _ _ ha hb s1 _).mono ?_
  rintro e w' ⟨rfl, rfl⟩
  go_wp2_with fail
  refine (times_is _ _ _ ha hb p1 _).mono ?_
  rintro e w' ⟨rfl, rfl⟩
  go_wp2_with fail
  refine (plus_is _ _ _ hb ha s2 _).mono ?_
  rintro e w' ⟨rfl, rfl⟩
  go_wp2_with fail
  refine (times_is _ _ _ hb ha p2 _).mono ?_
  rintro e w' ⟨rfl, rfl⟩
  go_wp2_with fail
  refine (alive_any _).mono ?_
  rintro e w' ⟨rfl, hg⟩
  go_wp2
  go_ret
  exact ⟨rfl, hg⟩

set_option maxHeartbeats 1000000 in
theorem w_pplt (x y s p : Int) (x0 : 0 < x) (y0 : 0 < y) (x9 : x ≤ 9223372036854775807) (y9 : y ≤ 9223372036854775807) (hs1 : s < 9223372036854775807) (hs2 : s ≤ x + y) (hs3 : x + y ≤ s) (p9 : p ≤ 9223372036854775807) (q3 : 9223372036854775807 ≤ p) (q4 : p / x ≤ y) (w : World)
    (ha : Hid (-9223372036854775808 ≤ x ∧ x ≤ 9223372036854775807)) (hb : Hid (-9223372036854775808 ≤ y ∧ y ≤ 9223372036854775807))
    (s1 : Hid (plusV x y = s)) (s2 : Hid (plusV y x = s)) (p1 : Hid (timesV x y = p)) (p2 : Hid (timesV y x = p)) :
    Calls Try.prog 6 #[.int .i64 x, .int .i64 y] w fun e w' => e = .returned (.bool true) ∧ Grown w w' := by
  have d1 : decide (s < x) = false := by simp; omega
  have d2 : decide (s < y) = false := by simp; omega
  have d3 : (s != 9223372036854775807) = true := by simp; omega
  have d4 : (s == 9223372036854775807) = false := by simp; omega
  have d5 : (x == 0) = false := by simp; omega
  have d6 : (y == 0) = false := by simp; omega
  have d7 : (p != 9223372036854775807) = false := by simp; omega
  go_enter Try.func6, Try.ntmps6
  go_wp2_with fail
  refine (plus_is _ _ _ ha hb s1 _).mono ?_
  rintro e w' ⟨rfl, rfl⟩
  go_wp2_with fail
  refine (times_is _ _ _ ha hb p1 _).mono ?_
  rintro e w' ⟨rfl, rfl⟩
  go_wp2_with fail
  refine (plus_is _ _ _ hb ha s2 _).mono ?_
  rintro e w' ⟨rfl, rfl⟩
  go_wp2_with fail
  refine (times_is _ _ _ hb ha p2 _).mono ?_
  rintro e w' ⟨rfl, rfl⟩
  go_wp2_with fail
  refine (alive_any _).mono ?_
  rintro e w' ⟨rfl, hg⟩
  go_wp2
  go_ret
  exact ⟨rfl, hg⟩

set_option maxHeartbeats 1000000 in
theorem w_pptl (x y s p : Int) (x0 : 0 < x) (y0 : 0 < y) (x9 : x ≤ 9223372036854775807) (y9 : y ≤ 9223372036854775807) (hs0 : s ≤ 9223372036854775807) (hs1 : 9223372036854775807 ≤ s) (hs2 : 9223372036854775807 ≤ x + y) (p0 : 0 ≤ p) (q3 : p < 9223372036854775807) (q4 : (p / x == y) = true) (q5 : (p % x == 0) = true) (w : World)
    (ha : Hid (-9223372036854775808 ≤ x ∧ x ≤ 9223372036854775807)) (hb : Hid (-9223372036854775808 ≤ y ∧ y ≤ 9223372036854775807))
    (s1 : Hid (plusV x y = s)) (s2 : Hid (plusV y x = s)) (p1 : Hid (timesV x y = p)) (p2 : Hid (timesV y x = p)) :
    Calls Try.prog 6 #[.int .i64 x, .int .i64 y] w fun e w' => e = .returned (.bool true) ∧ Grown w w' := by
  have d1 : decide (s < x) = false := by simp; omega
  have d2 : decide (s < y) = false := by simp; omega
  have d3 : (s != 9223372036854775807) = false := by simp; omega
  have d4 : (s == 9223372036854775807) = true := by simp; omega
  have d5 : (x == 0) = false := by simp; omega
  have d6 : (y == 0) = false := by simp; omega
  have d7 : (p != 9223372036854775807) = true := by simp; omega
  go_enter Try.func6, Try.ntmps6
  go_wp2_with fail
  refine (plus_is _ _ _ ha hb s1 _).mono ?_
  rintro e w' ⟨rfl, rfl⟩
  go_wp2_with fail
  refine (times_is _ _ _ ha hb p1 _).mono ?_
  rintro e w' ⟨rfl, rfl⟩
  go_wp2_with fail
  refine (plus_is _ _ _ hb ha s2 _).mono ?_
  rintro e w' ⟨rfl, rfl⟩
  go_wp2_with fail
  refine (times_is _ _ _ hb ha p2 _).mono ?_
  rintro e w' ⟨rfl, rfl⟩
  go_wp2_with fail
  refine (alive_any _).mono ?_
  rintro e w' ⟨rfl, hg⟩
  go_wp2
  go_ret
  exact ⟨rfl, hg⟩

set_option maxHeartbeats 1000000 in
theorem w_pptt (x y s p : Int) (x0 : 0 < x) (y0 : 0 < y) (x9 : x ≤ 9223372036854775807) (y9 : y ≤ 9223372036854775807) (hs0 : s ≤ 9223372036854775807) (hs1 : 9223372036854775807 ≤ s) (hs2 : 9223372036854775807 ≤ x + y) (p9 : p ≤ 9223372036854775807) (q3 : 9223372036854775807 ≤ p) (q4 : p / x ≤ y) (w : World)
    (ha : Hid (-9223372036854775808 ≤ x ∧ x ≤ 9223372036854775807)) (hb : Hid (-9223372036854775808 ≤ y ∧ y ≤ 9223372036854775807))
    (s1 : Hid (plusV x y = s)) (s2 : Hid (plusV y x = s)) (p1 : Hid (timesV x y = p)) (p2 : Hid (timesV y x = p)) :
    Calls Try.prog 6 #[.int .i64 x, .int .i64 y] w fun e w' => e = .returned (.bool true) ∧ Grown w w' := by
  have d1 : decide (s < x) = false := by simp; omega
  have d2 : decide (s < y) = false := by simp; omega
  have d3 : (s != 9223372036854775807) = false := by simp; omega
  have d4 : (s == 9223372036854775807) = true := by simp; omega
  have d5 : (x == 0) = false := by simp; omega
  have d6 : (y == 0) = false := by simp; omega
  have d7 : (p != 9223372036854775807) = false := by simp; omega
  go_enter Try.func6, Try.ntmps6
  go_wp2_with fail
  refine (plus_is _ _ _ ha hb s1 _).mono ?_
  rintro e w' ⟨rfl, rfl⟩
  go_wp2_with fail
  refine (times_is _ _ _ ha hb p1 _).mono ?_
  rintro e w' ⟨rfl, rfl⟩
  go_wp2_with fail
  refine (plus_is _ _ _ hb ha s2 _).mono ?_
  rintro e w' ⟨rfl, rfl⟩
  go_wp2_with fail
  refine (times_is _ _ _ hb ha p2 _).mono ?_
  rintro e w' ⟨rfl, rfl⟩
  go_wp2_with fail
  refine (alive_any _).mono ?_
  rintro e w' ⟨rfl, hg⟩
  go_wp2
  go_ret
  exact ⟨rfl, hg⟩

theorem cnt_z : cnt 0 = 0 := rfl
theorem plus_l {a b : Int} (h : cnt b = 0) (h9 : cnt a ≤ 9223372036854775807) : plusV a b = cnt a ∧ plusV b a = cnt a := by
  unfold plusV; rw [h, if_pos (by omega), if_pos (by omega)]; constructor <;> omega
theorem times_l {a b : Int} (h : cnt b = 0) : timesV a b = 0 ∧ timesV b a = 0 := by
  unfold timesV; rw [h, Int.mul_zero, Int.zero_mul]; constructor <;> rfl

theorem walk (a0 : Int) (a1 : Int) (w0 : (Lit.int .i64 a0).wf = true) (w1 : (Lit.int .i64 a1).wf = true) (w : World) :
    Calls Try.prog 6 #[.int .i64 a0, .int .i64 a1] w fun e w' => e = .returned (.bool true) ∧ Grown w w' := by
  have ha := bounds w0
  have hb := bounds w1
  rcases Int.lt_trichotomy a0 0 with h1 | h1 | h1
  · have c1 := cnt_neg h1
    rcases Int.lt_trichotomy a1 0 with h2 | h2 | h2
    · have c2 := cnt_neg h2
      have e1 := plus_l c2 (a := a0) (by omega)
      have e2 := times_l c2 (a := a0)
      rw [c1] at e1
      exact w_nn a0 a1 h1 h2 w ha hb e1.1 e1.2 e2.1 e2.2
    · subst h2
      have e1 := plus_l cnt_z (a := a0) (by omega)
      have e2 := times_l cnt_z (a := a0)
      rw [c1] at e1
      exact w_nz a0 h1 w ha hb e1.1 e1.2 e2.1 e2.2
    · have c2 : cnt a1 = a1 := cnt_pos (by omega)
      have e1 := plus_l c1 (a := a1) (by omega)
      have e2 := times_l c1 (a := a1)
      rw [c2] at e1
      by_cases ht : a1 < 9223372036854775807
      · exact w_npl a1 a0 h2 hb.2 ht h1 w ha hb e1.2 e1.1 e2.2 e2.1
      · exact w_npt a1 a0 h2 hb.2 (by omega) h1 w ha hb e1.2 e1.1 e2.2 e2.1
  · subst h1
    rcases Int.lt_trichotomy a1 0 with h2 | h2 | h2
    · have c2 := cnt_neg h2
      have e1 := plus_l c2 (a := 0) (by rw [cnt_z]; omega)
      have e2 := times_l c2 (a := 0)
      rw [cnt_z] at e1
      exact w_zn a1 h2 w ha hb e1.1 e1.2 e2.1 e2.2
    · subst h2
      exact w_zz w ha hb rfl rfl rfl rfl
    · have c2 : cnt a1 = a1 := cnt_pos (by omega)
      have e1 := plus_l cnt_z (a := a1) (by omega)
      have e2 := times_l cnt_z (a := a1)
      rw [c2] at e1
      by_cases ht : a1 < 9223372036854775807
      · exact w_zpl a1 h2 hb.2 ht w ha hb e1.2 e1.1 e2.2 e2.1
      · exact w_zpt a1 h2 hb.2 (by omega) w ha hb e1.2 e1.1 e2.2 e2.1
  · have c1 : cnt a0 = a0 := cnt_pos (by omega)
    rcases Int.lt_trichotomy a1 0 with h2 | h2 | h2
    · have c2 := cnt_neg h2
      have e1 := plus_l c2 (a := a0) (by omega)
      have e2 := times_l c2 (a := a0)
      rw [c1] at e1
      by_cases ht : a0 < 9223372036854775807
      · exact w_pnl a0 a1 h1 ha.2 ht h2 w ha hb e1.1 e1.2 e2.1 e2.2
      · exact w_pnt a0 a1 h1 ha.2 (by omega) h2 w ha hb e1.1 e1.2 e2.1 e2.2
    · subst h2
      have e1 := plus_l cnt_z (a := a0) (by omega)
      have e2 := times_l cnt_z (a := a0)
      rw [c1] at e1
      by_cases ht : a0 < 9223372036854775807
      · exact w_pzl a0 h1 ha.2 ht w ha hb e1.1 e1.2 e2.1 e2.2
      · exact w_pzt a0 h1 ha.2 (by omega) w ha hb e1.1 e1.2 e2.1 e2.2
    · have c2 : cnt a1 = a1 := cnt_pos (by omega)
      have es : plusV a1 a0 = plusV a0 a1 := by unfold plusV; rw [Int.add_comm]
      have ep : timesV a1 a0 = timesV a0 a1 := by unfold timesV; rw [Int.mul_comm]
      have es1 : plusV a0 a1 = if a0 + a1 ≤ 9223372036854775807 then a0 + a1 else 9223372036854775807 := by unfold plusV; rw [c1, c2]
      have ep1 : timesV a0 a1 = if a0 * a1 ≤ 9223372036854775807 then a0 * a1 else 9223372036854775807 := by unfold timesV; rw [c1, c2]
      have pp : 0 ≤ a0 * a1 := Int.mul_nonneg (by omega) (by omega)
      by_cases ht : a0 + a1 < 9223372036854775807
      · rw [if_pos (by omega)] at es1
        by_cases hq : a0 * a1 < 9223372036854775807
        · rw [if_pos (by omega)] at ep1
          exact w_ppll a0 a1 _ _ h1 h2 ha.2 hb.2 (by omega) (by omega) (by omega) (by omega) (by omega) (by rw [ep1, Int.mul_ediv_cancel_left _ (by omega)]; simp) (by rw [ep1, Int.mul_emod_right]; rfl) w ha hb rfl es rfl ep
        · have e3 : timesV a0 a1 = 9223372036854775807 := by rw [ep1]; split <;> omega
          exact w_pplt a0 a1 _ _ h1 h2 ha.2 hb.2 (by omega) (by omega) (by omega) (by omega) (by omega) (by rw [e3]; exact quo_le h1 (by omega)) w ha hb rfl es rfl ep
      · have e4 : plusV a0 a1 = 9223372036854775807 := by rw [es1]; split <;> omega
        by_cases hq : a0 * a1 < 9223372036854775807
        · rw [if_pos (by omega)] at ep1
          exact w_pptl a0 a1 _ _ h1 h2 ha.2 hb.2 (by omega) (by omega) (by omega) (by omega) (by omega) (by rw [ep1, Int.mul_ediv_cancel_left _ (by omega)]; simp) (by rw [ep1, Int.mul_emod_right]; rfl) w ha hb rfl es rfl ep
        · have e3 : timesV a0 a1 = 9223372036854775807 := by rw [ep1]; split <;> omega
          exact w_pptt a0 a1 _ _ h1 h2 ha.2 hb.2 (by omega) (by omega) (by omega) (by omega) (by omega) (by rw [e3]; exact quo_le h1 (by omega)) w ha hb rfl es rfl ep

/-! ### THE ROW's STEP: WRITTEN OUT: LEAVE IT -/
set_option maxRecDepth 100000 in
theorem lifted (os : Os) (started : os.Started) (H : Type) (enc : TypeId × Value → H) :
    ReturnsInHanded {} Try.checked os 6 .any (Rows.numCountsSpec.pre6 enc Try.prog Try.f6 Rows.numCountsRow.domain false) (Rows.numCountsSpec.post enc Try.prog Try.f6 false true false false) := by
  refine returnsInHanded_of_change (C := Try.checked) own started (by kernel_rfl) Try.func6
    (ChangeSpec.witness6 (enc := enc) (C := Try.checked) false ⟨#[], #[.int .i64 0, .int .i64 0], []⟩ 8 (by kernel_rfl) (by kernel_rfl) (by kernel_rfl) (by kernel_rfl)) ?_
  intro W base args ds gs before hval0 hW hcnd _
  have hval : ∀ (j : Nat) t v, Try.f6.params[j]? = some t → args[j]? = some v → Value.okWide Try.prog W .any base t v := hval0
  have hW' := hW
  obtain ⟨p, q, hA0, hV, rfl, hfz, hnd⟩ := hW
  have hA : DataW.TrodAll enc Try.prog W 0 (fun _ => true) true Try.f6.params.toList args.toList ds p := hA0
  rw [Try.params6] at hA hval
  obtain ⟨v0, vs0, d0, ds0, p0, q0, hargs, rfl, rfl, h0, r0⟩ := trodAll_cons hA
  obtain ⟨v1, vs1, d1, ds1, p1, q1, rfl, rfl, rfl, h1, r1⟩ := trodAll_cons r0
  obtain ⟨rfl, rfl, rfl⟩ := trodAll_nil r1
  obtain rfl : args = #[v0, v1] := by cases args; simp_all
  obtain ⟨rfl, rfl⟩ := trodVars_none hV
  obtain ⟨a0, rfl, rfl, rfl, w0⟩ := open_int Try.underlying3 (hval 0 3 v0 rfl rfl) h0
  obtain ⟨a1, rfl, rfl, rfl, w1⟩ := open_int Try.underlying3 (hval 1 3 v1 rfl rfl) h1
  clear hA0 hval0
  simp only [List.append_nil] at hW'
  refine (walk a0 a1 w0 w1 W).mono fun e W' ⟨he, hg⟩ => ?_
  subst he
  exact ⟨_, rfl, post_of_same (pa := []) (pv := []) hW' (fun _ _ _ => (trodAll_cons_mk (shut_bool Try.underlying4 _) trodAll_mk0)) (fun sp _ => (trodAll_cons_mk (shut_int Try.underlying3 w0) (trodAll_cons_mk (shut_int Try.underlying3 w1) trodAll_mk0))) (fun _ _ => rfl) rfl
    (hg.frame _) hg.2.1 (ok_one (by kernel_rfl) rfl (okWide_bool_mk Try.underlying4 _))⟩

theorem over : Rows.numCountsRow.holds Try.pinned (OpenSpec.ofChange Rows.numCountsSpec) :=
  OpenClaim.holds_of_wide 6 Try.f6 rfl rfl rfl rfl rfl rfl rfl ⟨rfl, rfl, rfl, rfl, rfl⟩ rfl rfl rfl rfl rfl (by kernel_rfl) Try.func6 (by kernel_rfl)
    (of_decide_eq_true (by kernel_rfl)) (by unfold Func.isWrapper; first | (rw [if_pos (by decide +kernel)]; kernel_rfl) | (rw [if_neg (by decide +kernel)]; exact ⟨rfl, rfl⟩))
    (fun os started H enc _ => lifted os started H enc)

/-- ████ THE STATEMENT ████ -/
theorem proved : Rows.NumCountsSaid :=
  over
#print axioms proved
end Go.Proofs.Ytjdcoiekbnefkab.numCounts
