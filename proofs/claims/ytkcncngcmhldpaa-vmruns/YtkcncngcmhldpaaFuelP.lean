/- What more fuel does, plain. -/
import Derived.Test.YtkcncngcmhldpaaRunP
import Derived.Test.YtkcncngcmhldpaaAgnW
namespace Go.Proofs.Ytkcncngcmhldpaa
open Go.RowKit
set_option linter.unusedVariables false
theorem run_ok {C : List In} {words fuel : Int} (hC : Good C) (hR : ∀ x ∈ C, R64 x.k) : ∀ (k : Nat) {p : St × Ef}, p.1.regs.length = 16 → Ok C fuel p.1 → EI words p.1 p.2 → Ok C fuel (runS C words fuel k p).1 ∧ EI words (runS C words fuel k p).1 (runS C words fuel k p).2
  | 0, p, hl, ho, hE => ⟨ho, hE⟩
  | k + 1, p, hl, ho, hE => by
    obtain ⟨a, b, c⟩ := round_ok hC hR hl ho hE
    unfold runS
    exact run_ok hC hR k a b c
theorem round_steps {C : List In} {words fuel : Int} (p : St × Ef) : p.1.steps ≤ (roundS C words fuel p).1.steps := by
  show _ ≤ (stepS _ _ _ _ _).steps
  by_cases h0 : p.1.over = 0
  · by_cases hf : p.1.steps < fuel
    · rw [step_on h0 hf, do_steps]; show p.1.steps ≤ p.1.steps + 1; omega
    · rw [step_out h0 (by omega)]; exact Int.le_refl _
  · rw [step_end h0]; exact Int.le_refl _
theorem run_steps {C : List In} {words fuel : Int} : ∀ (k : Nat) (p : St × Ef), p.1.steps ≤ (runS C words fuel k p).1.steps
  | 0, p => Int.le_refl _
  | k + 1, p => by
    unfold runS
    exact Int.le_trans (round_steps p) (run_steps k _)
theorem round_two {C : List In} {words f g : Int} {p : St × Ef} (h0 : p.1.over = 0) (hf : p.1.steps < f) (hg : p.1.steps < g) : roundS C words f p = roundS C words g p := by
  unfold roundS
  rw [want_on h0 hf, want_on h0 hg, step_on h0 hf, step_on h0 hg]
theorem run_two {C : List In} {words f g : Int} (hC : Good C) (hR : ∀ x ∈ C, R64 x.k) (hfg : f ≤ g) : ∀ (k k' : Nat) {p : St × Ef}, p.1.regs.length = 16 → Ok C f p.1 → Ok C g p.1 → EI words p.1 p.2 → farS f p.1 ≤ k → farS g p.1 ≤ k' → (p.1.over = 0 ∨ p.1.over ≠ 5) →
    ((runS C words f k p).1.over = 5 ∧ (runS C words f k p).1.steps = f ∧ f ≤ (runS C words g k' p).1.steps) ∨ ((runS C words f k p).1.over ≠ 5 ∧ runS C words f k p = runS C words g k' p) := by
  intro k
  induction k with
  | zero =>
    intro k' p hl h1 h2 hE hk hk' ho
    have h0 := far_over h1.steps.2 hk
    right
    rw [run_over 0 h0, run_over k' h0]
    exact ⟨by omega, rfl⟩
  | succ k ih =>
    intro k' p hl h1 h2 hE hk hk' ho
    by_cases h0 : p.1.over = 0
    · by_cases hf : p.1.steps < f
      · have hg : p.1.steps < g := by omega
        have e := round_two (C := C) (words := words) h0 hf hg
        obtain ⟨a, b, c⟩ := round_ok (words := words) (fuel := f) hC hR hl h1 hE
        obtain ⟨_, b2, _⟩ := round_ok (words := words) (fuel := g) hC hR hl h2 hE
        have f1 := round_far (words := words) h0 h1
        have f2 := round_far (words := words) h0 h2
        obtain ⟨k2, rfl⟩ : ∃ k2, k' = k2 + 1 := ⟨k' - 1, by omega⟩
        have ho' : (roundS C words f p).1.over = 0 ∨ (roundS C words f p).1.over ≠ 5 := by
          show (stepS _ _ _ _ _).over = 0 ∨ (stepS _ _ _ _ _).over ≠ 5
          rw [step_on h0 hf]
          have := do_ov words (C.getD p.1.pc.toNat ⟨0, 0, 0, 0, 0, 0⟩) (gotE p.2 (wantS C words f p.1)) { p.1 with steps := p.1.steps + 1 }
          rcases this with h | h | h | h | h
          · exact Or.inl (h.trans h0)
          · exact Or.inr (by rw [h]; decide)
          · exact Or.inr (by rw [h]; decide)
          · exact Or.inr (by rw [h]; decide)
          · exact Or.inr (by rw [h]; decide)
        unfold runS
        rw [← e]
        rw [← e] at b2 f2
        exact ih k2 a b b2 c (by omega) (by omega) ho'
      · left
        have hs := h1.steps
        have er : roundS C words f p = (endS p.1 5 0, p.2) := by
          unfold roundS
          rw [step_out h0 (by omega), want_out (by omega), doE_none]
        have e2 : runS C words f (k + 1) p = (endS p.1 5 0, p.2) := by
          unfold runS
          rw [er]
          exact run_over k (by show (5 : Int) ≠ 0; omega)
        rw [e2]
        have := run_steps (C := C) (words := words) (fuel := g) k' p
        refine ⟨rfl, ?_, ?_⟩
        · show p.1.steps = f; omega
        · omega
    · right
      rw [run_over (k + 1) h0, run_over k' h0]
      exact ⟨by omega, rfl⟩
/-- what comes of a run may be, and it has ended -/
theorem last_ok {C : List In} {cells fuel n i k : Int} {M : List Int} (h : newE C cells M.length fuel = 0) (hn : R64 n) (hi : R64 i) (hk : R64 k) (hR : ∀ x ∈ C, R64 x.k) (hM : ∀ x ∈ M, R64 x) : (lastS C M.length fuel n i k M).1.over ≠ 0 ∧ (lastS C M.length fuel n i k M).1.steps ≤ fuel ∧ (lastS C M.length fuel n i k M).2.mem.length ≤ 4000 ∧ (lastS C M.length fuel n i k M).2.outs.length ≤ 4000 ∧ (lastS C M.length fuel n i k M).2.intos.length ≤ 4000 := by
  obtain ⟨hgood, hwd, hfu⟩ := newE_good h
  have ho : Ok C fuel (St0 n i k) := st0_ok (words := 0) hgood hfu hn hi hk
  have hE : EI M.length (St0 n i k) ⟨M, [], []⟩ := ⟨rfl, hM, by show (0 : Int) ≤ 0; omega, by show (0 : Int) ≤ 0; omega⟩
  obtain ⟨a, b⟩ := run_ok hgood hR (fuel.toNat + 1) (p := (St0 n i k, ⟨M, [], []⟩)) rfl ho hE
  have hf : farS fuel (St0 n i k) ≤ fuel.toNat + 1 := by
    have h0 : (St0 n i k).steps = 0 := rfl
    unfold farS
    rw [if_neg (by simp [St0]), h0]
    omega
  have c := run_end hgood hR (fuel.toNat + 1) (p := (St0 n i k, ⟨M, [], []⟩)) rfl ho hE hf
  have b1 := b.len
  have b2 := b.outs
  have b3 := b.intos
  have a1 := a.steps
  have a2 := a.fuel
  refine ⟨c, a1.2, ?_, ?_, ?_⟩ <;> unfold lastS <;> omega
theorem last_two {C : List In} {cells f g n i k : Int} {M : List Int} (hf : newE C cells M.length f = 0) (hg : newE C cells M.length g = 0) (hfg : f ≤ g) (hn : R64 n) (hi : R64 i) (hk : R64 k) (hR : ∀ x ∈ C, R64 x.k) (hM : ∀ x ∈ M, R64 x) : ((lastS C M.length f n i k M).1.over = 5 ∧ (lastS C M.length f n i k M).1.steps = f ∧ f ≤ (lastS C M.length g n i k M).1.steps) ∨ ((lastS C M.length f n i k M).1.over ≠ 5 ∧ lastS C M.length f n i k M = lastS C M.length g n i k M) := by
  obtain ⟨hgood, hwd, hfu⟩ := newE_good hf
  obtain ⟨_, _, hgu⟩ := newE_good hg
  have hE : EI M.length (St0 n i k) ⟨M, [], []⟩ := ⟨rfl, hM, by show (0 : Int) ≤ 0; omega, by show (0 : Int) ≤ 0; omega⟩
  have far : ∀ x : Int, farS x (St0 n i k) ≤ x.toNat + 1 := fun x => by
    have h0 : (St0 n i k).steps = 0 := rfl
    unfold farS
    rw [if_neg (by simp [St0]), h0]
    omega
  exact run_two hgood hR hfg (f.toNat + 1) (g.toNat + 1) (p := (St0 n i k, ⟨M, [], []⟩)) rfl (st0_ok (words := 0) hgood hfu hn hi hk) (st0_ok (words := 0) hgood hgu hn hi hk) hE (far f) (far g) (Or.inl rfl)
/-- with more fuel another error can be of the fuel alone -/
theorem newE_fuel {C : List In} {cells words f g : Int} (h : newE C cells words f = 0) : newE C cells words g = 0 ∨ newE C cells words g = 110 := by
  unfold newE at h ⊢
  split at h
  · rename_i h1; exact absurd h h1
  · rename_i h1
    rw [if_neg h1]
    split at h
    · cases h
    · rename_i h2
      rw [if_neg h2]
      split
      · exact Or.inr rfl
      · exact Or.inl rfl
end Go.Proofs.Ytkcncngcmhldpaa
