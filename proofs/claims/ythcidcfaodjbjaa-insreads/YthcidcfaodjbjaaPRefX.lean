/- What the document takes up: texts and lists; what is left; the end. -/
import Derived.Test.YthcidcfaodjbjaaPRefV
namespace Go.Proofs.Ythcidcfaodjbjaa
open Go.RowKit
set_option linter.unusedVariables false

set_option maxRecDepth 100000 in
set_option maxHeartbeats 400000 in
theorem dend_ok (a : Option Addr) (n c : Nat) (w : World) (hn : n ≤ 1000000000) : Calls Try.prog 50 #[.agg #[.slice a n c, .int .i64 0]] w fun e w' => e = .returned (.int .i64 (if 0 < n then 21 else 0)) ∧ Below w.heap.size w w' := by
  by_cases h : 0 < n
  · have h' : (0 : Int) < (n : Int) := by omega
    rw [if_pos h]
    go_enter Try.func50, Try.ntmps50
    go_wp2
    go_ret
    exact ⟨rfl, (Below.refl _ _).alloc (Nat.le_refl _) _⟩
  · have h' : ¬ (0 : Int) < (n : Int) := by omega
    rw [if_neg h]
    go_enter Try.func50, Try.ntmps50
    go_wp2
    go_ret
    exact ⟨rfl, (Below.refl _ _).alloc (Nat.le_refl _) _⟩
set_option maxRecDepth 100000 in
set_option maxHeartbeats 400000 in
theorem dend_err (a : Option Addr) (n c : Nat) (k : Int) (w : World) (hk : (k == 0) = false) : Calls Try.prog 50 #[.agg #[.slice a n c, .int .i64 k]] w fun e w' => e = .returned (.int .i64 k) ∧ Below w.heap.size w w' := by
  go_enter Try.func50, Try.ntmps50
  go_wp2
  go_ret
  exact ⟨rfl, (Below.refl _ _).alloc (Nat.le_refl _) _⟩

end Go.Proofs.Ythcidcfaodjbjaa
