/- A span held against a row of ages; Set, the program's and the document's. -/
import Derived.Test.YtamlnagipmomgaaR3
namespace Go.Proofs.Ytamlnagipmomgaa
open Go.RowKit Go.Maps
set_option linter.unusedVariables false

theorem from_zero (many first sz : Int) (hz : 1 ≤ sz) : ¬ (fromP many first sz).1 < (fromP many first sz).2 → fromP many first sz = (0, 0) := by
  intro h
  by_cases q : first < many
  · exact absurd (from_lt q hz) h
  · exact from_out q
theorem ask_zero {p size many next : Int} {turns : List Int} {s n : Nat} (h : OkD p size many next turns s n) (wk : Int) (hz : ¬ (askX p size many next turns wk).1 < (askX p size many next turns wk).2) : askX p size many next turns wk = (0, 0) := by
  by_cases hin : 0 ≤ wk ∧ wk < turns.length
  · obtain ⟨k, rfl⟩ : ∃ k : Nat, wk = (k : Int) := ⟨wk.toNat, by omega⟩
    by_cases hp : p = 1
    · obtain ⟨T, _, _, t3, _, _⟩ := ask_own h hp k (by omega)
      rw [t3] at hz ⊢
      exact from_zero _ _ _ (by have := h.hs; have := h.s1; omega) hz
    · obtain ⟨sz, z1, z2, _, _⟩ := ask_rest h hp k (by omega)
      rw [z2] at hz ⊢
      exact from_zero _ _ _ z1 hz
  · exact (ask_none (p := p) (size := size) (many := many) (next := next) hin).1
set_option maxRecDepth 100000 in
set_option maxHeartbeats 2000000 in
theorem same_any (a b : Nat) (h : a < b ∨ (a = 0 ∧ b = 0)) (hb : b ≤ 200) (lv : Value) (w : World) (hv : GSl w lv (agesL a b)) : Calls Try.prog 20 #[.agg #[.int .i64 (a : Int), .int .i64 (b : Int)], .bool (decide (a < b)), lv] w fun e w' => e = .returned (.bool true) ∧ Below w.heap.size w w' := by
  obtain ⟨va, vc, vb, vo, rfl, h2, h3, h4, h5⟩ := hv
  rw [agesL_len] at h2 h4 ⊢
  unfold maxLen at h3
  rcases h with h | ⟨rfl, rfl⟩
  · obtain ⟨L, hL⟩ : ∃ L, b - a = L + 1 := ⟨b - a - 1, by omega⟩
    rw [hL] at h2 ⊢
    have hva := h4 (by omega)
    subst hva
    have e0 := h5 0 (by rw [agesL_len]; omega)
    have eL := h5 L (by rw [agesL_len]; omega)
    rw [agesL_at] at e0 eL
    rw [Nat.add_zero] at e0
    have hbL : a + L + 1 = b := by omega
    obtain ⟨y, hy⟩ : ∃ y, a + L = y := ⟨_, rfl⟩
    rw [hy] at eL
    rw [Nat.add_zero] at e0
    have d1 : ∀ A, (w.alloc A).cell? ⟨vb, vo, none⟩ = some (.int .i64 (a : Int)) := fun A => (World.cell?_of_block (a := ⟨vb, vo, none⟩) (Below.heap_alloc _ _ _ (World.block_lt_of_cell? w _ e0))).trans e0
    have d2 : ∀ A, (w.alloc A).cell? ⟨vb, vo + L, none⟩ = some (.int .i64 (y : Int)) := fun A => (World.cell?_of_block (a := ⟨vb, vo + L, none⟩) (Below.heap_alloc _ _ _ (World.block_lt_of_cell? w _ eL))).trans eL
    have wL : wrap64 ((L : Int) + 1 - 1) = (L : Int) := by rw [w64in _ ⟨by omega, by omega⟩]; omega
    have wy : wrap64 ((y : Int) + 1) = (b : Int) := by rw [w64in _ ⟨by omega, by omega⟩]; omega
    have wb : wrap64 ((b : Int) - (a : Int)) = (L : Int) + 1 := by rw [w64in _ ⟨by omega, by omega⟩]; omega
    have f1 : decide (a < b) = true := by simp; omega
    rw [f1]
    clear e0 eL h4 h5 hy hbL hL f1 h
    go_enter Try.func20, Try.ntmps20
    go_wp2_with fail
    go_quiet (fail)
    go_wp2
    go_ret
    exact ⟨rfl, Below.dN (bl1 _ _) _⟩
  · have heq : ∀ w' : World, (binOp .eql 53 (.agg #[.int .i64 0, .int .i64 0]) (.agg #[.int .i64 0, .int .i64 0])).run Try.prog w' = .ok (.bool true) w' := fun w' => by rw [eql_sp]; rfl
    have hgd : ∀ (s t : Operand) (w' : World), (eqGuard .eql 53 s t (.agg #[.int .i64 0, .int .i64 0]) (.agg #[.int .i64 0, .int .i64 0])).run Try.prog w' = .ok () w' := eqg39 0 0 0 0
    clear h4 h5
    go_enter Try.func20, Try.ntmps20
    go_wp2
    go_ret
    exact ⟨rfl, bl1 _ _⟩
/-- so far a dealer may be set -/
def setB (N W : Nat) (nx : Int) (ts : List Int) : Bool := decide ((0 ≤ nx ∧ nx ≤ (N : Int)) ∧ ts.length = W ∧ ∀ t ∈ ts, 0 ≤ t ∧ t ≤ (N : Int))
end Go.Proofs.Ytamlnagipmomgaa
