/- How the document joins. -/
import Derived.Test.YtongeppdaeekeaaJnP
namespace Go.Proofs.Ytongeppdaeekeaa
open Go.RowKit
set_option linter.unusedVariables false

set_option maxRecDepth 100000 in
set_option maxHeartbeats 1000000 in
theorem rright_any (op : Int) (w : World) : Calls Try.prog 85 #[.int .i64 op] w fun e w' => e = .returned (.bool (rightB op)) ∧ w' = w := by
  go_enter Try.func85, Try.ntmps85
  go_wp2
  all_goals (go_ret; exact ⟨ret_b (by unfold rightB; simp_all; try omega), rfl⟩)
theorem right_cases {op : Int} (hr : rightB op = true) : op = 1 ∨ op = 2 ∨ op = 3 ∨ op = 4 ∨ op = 5 ∨ op = 6 ∨ op = 7 := by unfold rightB at hr; simp at hr; omega
def twoI (op : Int) : Int := if op = 1 then 1 else if op = 2 then 3 else if op = 3 then 17 else if op = 4 then 18 else if op = 5 then 6 else if op = 6 then 7 else 8
set_option maxRecDepth 100000 in
set_option maxHeartbeats 2000000 in
theorem rtwo_any (op : Int) (hr : rightB op = true) (w : World) : Calls Try.prog 110 #[.int .i64 op] w fun e w' => e = .returned (.int .i64 (twoI op)) ∧ Below w.heap.size w w' := by
  rcases right_cases hr with rfl | rfl | rfl | rfl | rfl | rfl | rfl
  all_goals
    clear hr
    go_enter Try.func110, Try.ntmps110
    go_wp2
    go_ret
    exact ⟨rfl, (Below.refl _ _).alloc (Nat.le_refl _) _⟩
set_option maxRecDepth 100000 in
set_option maxHeartbeats 2000000 in
theorem rzero_any (op : Int) (w : World) : Calls Try.prog 111 #[.int .i64 op] w fun e w' => e = .returned (.int .i64 (zeroI op)) ∧ Below w.heap.size w w' := by
  by_cases hr : rightB op = true
  · rcases right_cases hr with rfl | rfl | rfl | rfl | rfl | rfl | rfl
    all_goals
      go_enter Try.func111, Try.ntmps111
      go_wp2_with (go_at_call 85; refine (rright_any _ _).mono ?_; rintro e w4 ⟨rfl, hw4⟩; rw [hw4, hr]; clear hw4 w4)
      go_ret
      exact ⟨rfl, (Below.refl _ _).alloc (Nat.le_refl _) _⟩
  · have er : rightB op = false := by simpa using hr
    have HZ : Hid (zeroI op = 0) := by
      show _ = _
      unfold rightB at er
      simp at er
      unfold zeroI
      repeat (rw [if_neg (by omega)])
    rw [HZ.out]
    go_enter Try.func111, Try.ntmps111
    go_wp2_with (go_at_call 85; refine (rright_any _ _).mono ?_; rintro e w4 ⟨rfl, hw4⟩; rw [hw4, er]; clear hw4 w4)
    go_ret
    exact ⟨rfl, (Below.refl _ _).alloc (Nat.le_refl _) _⟩
theorem rtwoI (op a b : Int) (hr : rightB op = true) (ha : R64 a) (hb : R64 b) (w : World) : Calls Try.prog 109 #[.int .i64 (twoI op), .int .i64 a, .int .i64 b] w fun e w' => e = .returned (.tuple #[.int .i64 (joinI op a b), .bool true]) ∧ w' = w := by
  rcases right_cases hr with rfl | rfl | rfl | rfl | rfl | rfl | rfl
  · simpa [twoI, joinI] using rtwo_1 a b ha hb w
  · simpa [twoI, joinI] using rtwo_3 a b ha hb w
  · rcases Int.lt_trichotomy a b with h | h | h
    · have : ¬ b < a := by omega
      simpa [twoI, joinI, this] using rtwo_17_lt a b ha hb h w
    · subst h; simpa [twoI, joinI] using rtwo_17_eq a ha w
    · simpa [twoI, joinI, h] using rtwo_17_gt a b ha hb h w
  · rcases Int.lt_trichotomy a b with h | h | h
    · simpa [twoI, joinI, h] using rtwo_18_lt a b ha hb h w
    · subst h; simpa [twoI, joinI] using rtwo_18_eq a ha w
    · have : ¬ a < b := by omega
      simpa [twoI, joinI, this] using rtwo_18_gt a b ha hb h w
  · simpa [twoI, joinI] using rtwo_6 a b ha hb w
  · simpa [twoI, joinI] using rtwo_7 a b ha hb w
  · simpa [twoI, joinI] using rtwo_8 a b ha hb w
set_option maxRecDepth 100000 in
set_option maxHeartbeats 2000000 in
theorem rjoin_any (op a b : Int) (ha : R64 a) (hb : R64 b) (w : World) : Calls Try.prog 102 #[.int .i64 op, .int .i64 a, .int .i64 b] w fun e w' => e = .returned (.int .i64 (joinI op a b)) ∧ Below w.heap.size w w' := by
  by_cases hr : rightB op = true
  · have H1 : Hid (∀ w, Calls Try.prog 110 #[.int .i64 op] w fun e w' => e = .returned (.int .i64 (twoI op)) ∧ Below w.heap.size w w') := fun w => rtwo_any op hr w
    have H2 : Hid (∀ w, Calls Try.prog 109 #[.int .i64 (twoI op), .int .i64 a, .int .i64 b] w fun e w' => e = .returned (.tuple #[.int .i64 (joinI op a b), .bool true]) ∧ w' = w) := fun w => rtwoI op a b hr ha hb w
    generalize joinI op a b = J at *
    generalize twoI op = T at *
    go_enter Try.func102, Try.ntmps102
    go_wp2_with (first | (go_at_call 85; refine (rright_any _ _).mono ?_; rintro e w4 ⟨rfl, hw4⟩; rw [hw4, hr]; clear hw4 w4) | fail)
    refine (H1.out w).mono ?_
    rintro e w1 ⟨rfl, b1⟩
    have B1 : Hid (Below w.heap.size w w1) := b1
    clear b1
    go_wp2_with fail
    refine (H2.out w1).mono ?_
    rintro e w4 ⟨rfl, hw4⟩
    rw [hw4]
    clear hw4 w4
    go_wp2
    go_ret
    exact ⟨rfl, B1.out⟩
  · have er : rightB op = false := by simpa using hr
    rw [join_none op a b er]
    go_enter Try.func102, Try.ntmps102
    go_wp2_with (go_at_call 85; refine (rright_any _ _).mono ?_; rintro e w4 ⟨rfl, hw4⟩; rw [hw4, er]; clear hw4 w4)
    go_ret
    exact ⟨rfl, Below.refl _ _⟩
end Go.Proofs.Ytongeppdaeekeaa
