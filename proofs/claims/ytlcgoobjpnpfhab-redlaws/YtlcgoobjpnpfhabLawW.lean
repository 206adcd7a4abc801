/- The walk of the law on joining. -/
import Derived.Test.YtlcgoobjpnpfhabAliv
import Derived.Test.YtlcgoobjpnpfhabJnP
namespace Go.Proofs.Ytlcgoobjpnpfhab
open Go.RowKit Go.Maps
set_option linter.unusedVariables false
theorem below_drewN {B : Nat} {a b : World} (h : Below B a b) (n : Nat) : Below B a (b.drewN n) := ⟨h.os, h.tape, h.output, h.size, h.block⟩
set_option maxRecDepth 100000 in
set_option maxHeartbeats 4000000 in
theorem laws_walk (op a b c : Int) (ha : R64 a) (hb : R64 b) (hc : R64 c) (w : World) : Calls Try.prog 3 #[.agg #[.int .i64 op, .int .i64 a, .int .i64 b, .int .i64 c]] w fun e w' => e = .returned (.bool true) ∧ Below w.heap.size w w' := by
  have B0 : Hid (Below w.heap.size w (w.alloc (Obj.cells #[Value.int .i64 op, Value.int .i64 a, Value.int .i64 b, Value.int .i64 c] 24))) := (Below.refl _ _).alloc (Nat.le_refl _) _
  by_cases hr : rightB op = true
  · have g1 : (joinI op a b == joinI op b a) = true := by rw [join_comm]; simp
    have g2 : (joinI op (joinI op a b) c == joinI op a (joinI op b c)) = true := by rw [join_assoc]; simp
    have g3 : (joinI op a (zeroI op) == a) = true := by rw [join_zero op a hr ha]; simp
    have g4 : (joinI op (zeroI op) a == a) = true := by rw [join_comm, join_zero op a hr ha]; simp
    go_enter Try.func3, Try.ntmps3
    go_wp2_with fail
    go_quiet (fail)
    obtain ⟨W, hW⟩ : ∃ W, (w.alloc (Obj.cells #[Value.int .i64 op, Value.int .i64 a, Value.int .i64 b, Value.int .i64 c] 24)).drewN nq = W := ⟨_, rfl⟩
    have BW : Hid (Below w.heap.size w W) := by rw [← hW]; exact below_drewN B0.out nq
    rw [hW]
    clear hW B0
    go_wp2_with (first | (go_at_call 7; refine (right_any _ _).mono ?_; rintro e w4 ⟨rfl, hw4⟩; rw [hw4, hr]; clear hw4 w4) | (go_at_call 8; refine (join_any _ _ _ _).mono ?_; rintro e w4 ⟨rfl, hw4⟩; rw [hw4]; clear hw4 w4) | (go_at_call 10; refine (zero_any _ _).mono ?_; rintro e w4 ⟨rfl, hw4⟩; rw [hw4]; clear hw4 w4) | fail)
    refine (alive_any W).mono ?_
    rintro e w5 ⟨rfl, b5⟩
    have B5 : Hid (Below w.heap.size w w5) := BW.out.trans (b5.mono BW.out.size)
    clear b5
    go_wp2
    go_ret
    exact ⟨rfl, B5.out⟩
  · have er : rightB op = false := by simpa using hr
    have g1 : (joinI op a b == 0) = true := by rw [join_none op a b er]; rfl
    go_enter Try.func3, Try.ntmps3
    go_wp2_with fail
    go_quiet (fail)
    obtain ⟨W, hW⟩ : ∃ W, (w.alloc (Obj.cells #[Value.int .i64 op, Value.int .i64 a, Value.int .i64 b, Value.int .i64 c] 24)).drewN nq = W := ⟨_, rfl⟩
    have BW : Hid (Below w.heap.size w W) := by rw [← hW]; exact below_drewN B0.out nq
    rw [hW]
    clear hW B0
    go_wp2_with (first | (go_at_call 7; refine (right_any _ _).mono ?_; rintro e w4 ⟨rfl, hw4⟩; rw [hw4, er]; clear hw4 w4) | (go_at_call 8; refine (join_any _ _ _ _).mono ?_; rintro e w4 ⟨rfl, hw4⟩; rw [hw4]; clear hw4 w4) | fail)
    refine (alive_any W).mono ?_
    rintro e w5 ⟨rfl, b5⟩
    have B5 : Hid (Below w.heap.size w w5) := BW.out.trans (b5.mono BW.out.size)
    clear b5
    go_wp2
    go_ret
    exact ⟨rfl, B5.out⟩
end Go.Proofs.Ytlcgoobjpnpfhab
