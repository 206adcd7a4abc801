/- How two numbers are joined, what turns nothing, what is an operation. -/
import Derived.Test.YtongeppdaeekeaaRows
import Derived.WalkKit
import Derived.WalkSpells
import Derived.WalkLawsBesides
import Derived.Handy
import Derived.Laws.BitsAllLaws
namespace Go.Proofs.Ytongeppdaeekeaa
open Go.RowKit
set_option linter.unusedVariables false

def joinI (op a b : Int) : Int := if op = 1 then wrap64 (a + b) else if op = 2 then wrap64 (a * b) else if op = 3 then (if b < a then b else a) else if op = 4 then (if a < b then b else a) else if op = 5 then bits .and .i64 a b else if op = 6 then bits .or .i64 a b else if op = 7 then bits .xor .i64 a b else 0
def zeroI (op : Int) : Int := if op = 2 then 1 else if op = 3 then 9223372036854775807 else if op = 4 then -9223372036854775808 else if op = 5 then -1 else 0
def rightB (op : Int) : Bool := decide (1 ≤ op ∧ op ≤ 7)
theorem ret_b {a b : Bool} (h : a = b) : Ending.returned (.bool a) = Ending.returned (.bool b) := by rw [h]

set_option maxRecDepth 100000 in
set_option maxHeartbeats 1000000 in
theorem join_any (op a b : Int) (w : World) : Calls Try.prog 91 #[.int .i64 op, .int .i64 a, .int .i64 b] w fun e w' => e = .returned (.int .i64 (joinI op a b)) ∧ w' = w := by
  go_enter Try.func91, Try.ntmps91
  go_wp2
  all_goals (go_ret; exact ⟨by (simp_all [joinI]; try omega), rfl⟩)
set_option maxRecDepth 100000 in
set_option maxHeartbeats 1000000 in
theorem zero_any (op : Int) (w : World) : Calls Try.prog 90 #[.int .i64 op] w fun e w' => e = .returned (.int .i64 (zeroI op)) ∧ w' = w := by
  go_enter Try.func90, Try.ntmps90
  go_wp2
  all_goals (go_ret; exact ⟨by simp_all [zeroI], rfl⟩)
set_option maxRecDepth 100000 in
set_option maxHeartbeats 1000000 in
theorem right_any (op : Int) (w : World) : Calls Try.prog 84 #[.int .i64 op] w fun e w' => e = .returned (.bool (rightB op)) ∧ w' = w := by
  go_enter Try.func84, Try.ntmps84
  go_wp2
  all_goals (go_ret; exact ⟨ret_b (by unfold rightB; simp_all; try omega), rfl⟩)
end Go.Proofs.Ytongeppdaeekeaa
