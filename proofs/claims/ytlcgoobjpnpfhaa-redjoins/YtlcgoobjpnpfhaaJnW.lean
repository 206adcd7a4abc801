/- The walk of the law on how numbers are joined. -/
import Derived.Test.YtlcgoobjpnpfhaaAliv
import Derived.Test.YtlcgoobjpnpfhaaRefJ
namespace Go.Proofs.Ytlcgoobjpnpfhaa
open Go.RowKit Go.Maps
set_option linter.unusedVariables false
set_option maxRecDepth 100000 in
set_option maxHeartbeats 4000000 in
theorem joins_walk (op a b : Int) (ha : R64 a) (hb : R64 b) (w : World) : Calls Try.prog 8 #[.int .i64 op, .int .i64 a, .int .i64 b] w fun e w' => e = .returned (.bool true) ∧ Below w.heap.size w w' := by
  have HJ : Hid (∀ w, Calls Try.prog 32 #[.int .i64 op, .int .i64 a, .int .i64 b] w fun e w' => e = .returned (.int .i64 (joinI op a b)) ∧ Below w.heap.size w w') := fun w => rjoin_any op a b ha hb w
  have g1 : (rightB op == rightB op) = true := by simp
  have g2 : (zeroI op == zeroI op) = true := by simp
  have g3 : (joinI op a b == joinI op a b) = true := by simp
  go_enter Try.func8, Try.ntmps8
  go_wp2_with (first | (go_at_call 27; refine (right_any _ _).mono ?_; rintro e w4 ⟨rfl, hw4⟩; rw [hw4]; clear hw4 w4) | (go_at_call 28; refine (rright_any _ _).mono ?_; rintro e w4 ⟨rfl, hw4⟩; rw [hw4]; clear hw4 w4) | (go_at_call 29; refine (zero_any _ _).mono ?_; rintro e w4 ⟨rfl, hw4⟩; rw [hw4]; clear hw4 w4) | fail)
  refine (rzero_any _ _).mono ?_
  rintro e w1 ⟨rfl, b1⟩
  have B1 : Hid (Below w.heap.size w w1) := b1
  clear b1
  go_wp2_with (first | (go_at_call 31; refine (join_any _ _ _ _).mono ?_; rintro e w4 ⟨rfl, hw4⟩; rw [hw4]; clear hw4 w4) | fail)
  refine (HJ.out w1).mono ?_
  rintro e w2 ⟨rfl, b2⟩
  have B2 : Hid (Below w.heap.size w w2) := B1.out.trans (b2.mono B1.out.size)
  clear b2
  go_wp2_with fail
  refine (alive_any w2).mono ?_
  rintro e w5 ⟨rfl, b5⟩
  have B5 : Hid (Below w.heap.size w w5) := B2.out.trans (b5.mono B2.out.size)
  clear b5
  go_wp2
  go_ret
  exact ⟨rfl, B5.out⟩
end Go.Proofs.Ytlcgoobjpnpfhaa
