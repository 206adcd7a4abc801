/- What a run on a memory comes to, plain. -/
import Derived.Test.YtkcncngcmhldpaaPly
namespace Go.Proofs.Ytkcncngcmhldpaa
open Go.RowKit
set_option linter.unusedVariables false

/-- what a run has done so far -/
structure Ef where
  mem : List Int
  outs : List Int
  intos : List (Int × Int)
/-- what the world gives -/
def gotE (E : Ef) (T : Wt) : Int := if T.kind = 1 then E.mem.getD T.pos.toNat 0 else 0
/-- what the world does -/
def doE (E : Ef) (T : Wt) : Ef :=
  if T.kind = 2 then { E with mem := E.mem.set T.pos.toNat T.value }
  else if T.kind = 3 then { E with intos := E.intos ++ [(T.pos, T.value)] }
  else if T.kind = 4 then { E with outs := E.outs ++ [T.value] }
  else E
def roundS (C : List In) (words fuel : Int) (p : St × Ef) : St × Ef := (stepS C words fuel p.1 (gotE p.2 (wantS C words fuel p.1)), doE p.2 (wantS C words fuel p.1))
def runS (C : List In) (words fuel : Int) : Nat → St × Ef → St × Ef
  | 0, p => p
  | k + 1, p => runS C words fuel k (roundS C words fuel p)
/-- what stays so -/
structure EI (words : Int) (s : St) (E : Ef) : Prop where
  len : (E.mem.length : Int) = words
  rng : ∀ x ∈ E.mem, R64 x
  outs : (E.outs.length : Int) ≤ s.steps
  intos : (E.intos.length : Int) ≤ s.steps
theorem jump_steps (s : St) (k : Int) (b : Bool) : (jumpS s k b).steps = s.steps := by cases b <;> rfl
theorem jump_over (s : St) (k : Int) (b : Bool) : (jumpS s k b).over = s.over := by cases b <;> rfl
theorem do_steps (words : Int) (x : In) (got : Int) (s : St) : (doS words x got s).steps = s.steps := by
  unfold doS
  by_cases k1 : x.kind = 1
  · rw [if_pos k1]; exact rfl
  rw [if_neg k1]
  by_cases k2 : x.kind = 2
  · rw [if_pos k2]; exact rfl
  rw [if_neg k2]
  by_cases k3 : x.kind = 3
  · rw [if_pos k3]; exact rfl
  rw [if_neg k3]
  by_cases k4 : x.kind = 4
  · rw [if_pos k4]; exact rfl
  rw [if_neg k4]
  by_cases k5 : x.kind = 5
  · rw [if_pos k5]
    by_cases h : (twoR x.op (rg s x.b.toNat) (rg s x.c.toNat)).2 = true
    · rw [if_pos h]; exact rfl
    · rw [if_neg h]; exact rfl
  rw [if_neg k5]
  by_cases k6 : x.kind = 6
  · rw [if_pos k6]
    by_cases h : insideB words (addrS s x) = true
    · rw [if_pos h]; exact rfl
    · rw [if_neg h]; exact rfl
  rw [if_neg k6]
  by_cases k7 : x.kind = 7
  · rw [if_pos k7]
    by_cases h : insideB words (addrS s x) = true
    · rw [if_pos h]; exact rfl
    · rw [if_neg h]; exact rfl
  rw [if_neg k7]
  by_cases k8 : x.kind = 8
  · rw [if_pos k8]; exact rfl
  rw [if_neg k8]
  by_cases k9 : x.kind = 9
  · rw [if_pos k9]; exact rfl
  rw [if_neg k9]
  by_cases k10 : x.kind = 10
  · rw [if_pos k10]; exact jump_steps s x.k true
  rw [if_neg k10]
  by_cases k11 : x.kind = 11
  · rw [if_pos k11]; exact jump_steps s x.k (rg s x.a.toNat == 0)
  rw [if_neg k11]
  by_cases k12 : x.kind = 12
  · rw [if_pos k12]; exact jump_steps s x.k (rg s x.a.toNat != 0)
  rw [if_neg k12]
  by_cases k13 : x.kind = 13
  · rw [if_pos k13]; exact rfl
  rw [if_neg k13]
theorem do_ov (words : Int) (x : In) (got : Int) (s : St) : (doS words x got s).over = s.over ∨ (doS words x got s).over = 1 ∨ (doS words x got s).over = 2 ∨ (doS words x got s).over = 3 ∨ (doS words x got s).over = 4 := by
  unfold doS
  by_cases k1 : x.kind = 1
  · rw [if_pos k1]; exact Or.inr (Or.inl rfl)
  rw [if_neg k1]
  by_cases k2 : x.kind = 2
  · rw [if_pos k2]; exact Or.inl rfl
  rw [if_neg k2]
  by_cases k3 : x.kind = 3
  · rw [if_pos k3]; exact Or.inl rfl
  rw [if_neg k3]
  by_cases k4 : x.kind = 4
  · rw [if_pos k4]; exact Or.inl rfl
  rw [if_neg k4]
  by_cases k5 : x.kind = 5
  · rw [if_pos k5]
    by_cases h : (twoR x.op (rg s x.b.toNat) (rg s x.c.toNat)).2 = true
    · rw [if_pos h]; exact Or.inl rfl
    · rw [if_neg h]; exact Or.inr (Or.inr (Or.inl rfl))
  rw [if_neg k5]
  by_cases k6 : x.kind = 6
  · rw [if_pos k6]
    by_cases h : insideB words (addrS s x) = true
    · rw [if_pos h]; exact Or.inl rfl
    · rw [if_neg h]; exact Or.inr (Or.inr (Or.inr (Or.inl rfl)))
  rw [if_neg k6]
  by_cases k7 : x.kind = 7
  · rw [if_pos k7]
    by_cases h : insideB words (addrS s x) = true
    · rw [if_pos h]; exact Or.inl rfl
    · rw [if_neg h]; exact Or.inr (Or.inr (Or.inr (Or.inl rfl)))
  rw [if_neg k7]
  by_cases k8 : x.kind = 8
  · rw [if_pos k8]; exact Or.inl rfl
  rw [if_neg k8]
  by_cases k9 : x.kind = 9
  · rw [if_pos k9]; exact Or.inl rfl
  rw [if_neg k9]
  by_cases k10 : x.kind = 10
  · rw [if_pos k10]; exact Or.inl <| jump_over s x.k true
  rw [if_neg k10]
  by_cases k11 : x.kind = 11
  · rw [if_pos k11]; exact Or.inl <| jump_over s x.k (rg s x.a.toNat == 0)
  rw [if_neg k11]
  by_cases k12 : x.kind = 12
  · rw [if_pos k12]; exact Or.inl <| jump_over s x.k (rg s x.a.toNat != 0)
  rw [if_neg k12]
  by_cases k13 : x.kind = 13
  · rw [if_pos k13]; exact Or.inr (Or.inr (Or.inr (Or.inr rfl)))
  rw [if_neg k13]
  exact Or.inl rfl
theorem step_on {C : List In} {words fuel : Int} {s : St} {got : Int} (h0 : s.over = 0) (hf : s.steps < fuel) : stepS C words fuel s got = doS words (C.getD s.pc.toNat ⟨0, 0, 0, 0, 0, 0⟩) got { s with steps := s.steps + 1 } := by
  unfold stepS
  rw [if_neg (by simp [h0]), if_neg (by omega)]
theorem step_out {C : List In} {words fuel : Int} {s : St} {got : Int} (h0 : s.over = 0) (hf : fuel ≤ s.steps) : stepS C words fuel s got = endS s 5 0 := by
  unfold stepS
  rw [if_neg (by simp [h0]), if_pos hf]
theorem step_end {C : List In} {words fuel : Int} {s : St} {got : Int} (h0 : s.over ≠ 0) : stepS C words fuel s got = s := by
  unfold stepS
  rw [if_pos h0]
theorem want_end {C : List In} {words fuel : Int} {s : St} (h0 : s.over ≠ 0) : wantS C words fuel s = ⟨0, 0, 0⟩ := by
  unfold wantS
  rw [if_pos h0]
theorem want_out {C : List In} {words fuel : Int} {s : St} (hf : fuel ≤ s.steps) : wantS C words fuel s = ⟨0, 0, 0⟩ := by
  unfold wantS
  by_cases h : s.over ≠ 0
  · rw [if_pos h]
  · rw [if_neg h, if_pos hf]
theorem want_on {C : List In} {words fuel : Int} {s : St} (h0 : s.over = 0) (hf : s.steps < fuel) : wantS C words fuel s = wantI words (C.getD s.pc.toNat ⟨0, 0, 0, 0, 0, 0⟩) s := by
  unfold wantS
  rw [if_neg (by simp [h0]), if_neg (by omega)]
theorem wantI_in (words : Int) (x : In) (s : St) (hr : ∀ r < 16, R64 (rg s r)) (ha : 0 ≤ x.a ∧ x.a < 16) : ((wantI words x s).kind = 1 ∨ (wantI words x s).kind = 2 → 0 ≤ (wantI words x s).pos ∧ (wantI words x s).pos < words) ∧ R64 (wantI words x s).value := by
  have z : R64 0 := by unfold R64; omega
  have ra := hr x.a.toNat (by omega)
  unfold wantI
  (repeat' split) <;> refine ⟨fun h => ?_, ?_⟩ <;> first | exact z | exact ra | (rename_i hi; unfold insideB at hi; simp at hi; exact hi) | (exfalso; revert h; simp)
theorem want_in {C : List In} {words fuel : Int} {s : St} (hC : Good C) (ho : Ok C fuel s) : ((wantS C words fuel s).kind = 1 ∨ (wantS C words fuel s).kind = 2 → 0 ≤ (wantS C words fuel s).pos ∧ (wantS C words fuel s).pos < words) ∧ R64 (wantS C words fuel s).value := by
  have z : R64 0 := by unfold R64; omega
  unfold wantS
  split
  · exact ⟨fun h => by simp at h, z⟩
  split
  · exact ⟨fun h => by simp at h, z⟩
  · have hp : s.pc.toNat < C.length := by have := ho.pc; omega
    rw [List.getD, List.getElem?_eq_getElem hp]
    exact wantI_in words _ s ho.regs (hC.ok _ (List.getElem_mem _)).a
theorem got_R {words : Int} {s : St} {E : Ef} (h : EI words s E) (T : Wt) : R64 (gotE E T) := by
  have z : R64 0 := by unfold R64; omega
  unfold gotE
  split
  · rw [List.getD]
    rcases Nat.lt_or_ge T.pos.toNat E.mem.length with h1 | h1
    · rw [List.getElem?_eq_getElem h1]; exact h.rng _ (List.getElem_mem _)
    · rw [List.getElem?_eq_none h1]; exact z
  · exact z
theorem doE_none (E : Ef) : doE E ⟨0, 0, 0⟩ = E := rfl
theorem round_over {C : List In} {words fuel : Int} {p : St × Ef} (h : p.1.over ≠ 0) : roundS C words fuel p = p := by
  unfold roundS
  rw [step_end h, want_end h, doE_none]
theorem run_over {C : List In} {words fuel : Int} : ∀ (k : Nat) {p : St × Ef}, p.1.over ≠ 0 → runS C words fuel k p = p
  | 0, p, h => rfl
  | k + 1, p, h => by unfold runS; rw [round_over h]; exact run_over k h
/-- one round -/
theorem round_ok {C : List In} {words fuel : Int} {p : St × Ef} (hC : Good C) (hR : ∀ x ∈ C, R64 x.k) (hl : p.1.regs.length = 16) (ho : Ok C fuel p.1) (hE : EI words p.1 p.2) : (roundS C words fuel p).1.regs.length = 16 ∧ Ok C fuel (roundS C words fuel p).1 ∧ EI words (roundS C words fuel p).1 (roundS C words fuel p).2 := by
  refine ⟨(step_len _ _ _ _ _).trans hl, step_ok hC hR hl ho (got_R hE _), ?_⟩
  by_cases h0 : p.1.over = 0
  · by_cases hf : p.1.steps < fuel
    · have hst : (roundS C words fuel p).1.steps = p.1.steps + 1 := by
        show (stepS _ _ _ _ _).steps = _
        rw [step_on h0 hf, do_steps]
      have hw := want_in (words := words) hC ho
      show EI words (roundS C words fuel p).1 (doE p.2 (wantS C words fuel p.1))
      generalize wantS C words fuel p.1 = T at hw
      have h1 := hE.outs
      have h2 := hE.intos
      unfold doE
      split
      · refine ⟨by simpa using hE.len, fun x hx => ?_, by rw [hst]; exact (Int.le_trans h1 (by omega)), by rw [hst]; exact (Int.le_trans h2 (by omega))⟩
        rcases List.mem_or_eq_of_mem_set hx with h | h
        · exact hE.rng x h
        · rw [h]; exact hw.2
      split
      · refine ⟨hE.len, hE.rng, by rw [hst]; exact (Int.le_trans h1 (by omega)), by rw [hst]; show ((p.2.intos ++ [(T.pos, T.value)]).length : Int) ≤ _; simp; omega⟩
      split
      · refine ⟨hE.len, hE.rng, by rw [hst]; show ((p.2.outs ++ [T.value]).length : Int) ≤ _; simp; omega, by rw [hst]; exact (Int.le_trans h2 (by omega))⟩
      · refine ⟨hE.len, hE.rng, by rw [hst]; omega, by rw [hst]; omega⟩
    · have : roundS C words fuel p = (endS p.1 5 0, p.2) := by
        unfold roundS
        rw [step_out h0 (by omega), want_out (by omega), doE_none]
      rw [this]
      exact ⟨hE.len, hE.rng, hE.outs, hE.intos⟩
  · rw [round_over h0]; exact hE
/-- how far a run still is from its end -/
def farS (fuel : Int) (s : St) : Nat := if s.over ≠ 0 then 0 else (fuel + 1 - s.steps).toNat
theorem round_far {C : List In} {words fuel : Int} {p : St × Ef} (h0 : p.1.over = 0) (ho : Ok C fuel p.1) : farS fuel (roundS C words fuel p).1 < farS fuel p.1 := by
  have hs := ho.steps
  have hp : farS fuel p.1 = (fuel + 1 - p.1.steps).toNat := by unfold farS; rw [if_neg (by simp [h0])]
  rw [hp]
  show farS fuel (stepS _ _ _ _ _) < _
  by_cases hf : p.1.steps < fuel
  · rw [step_on h0 hf]
    unfold farS
    rw [do_steps]
    split
    · omega
    · show (fuel + 1 - (p.1.steps + 1)).toNat < _; omega
  · rw [step_out h0 (by omega)]
    unfold farS endS
    rw [if_pos (by simp)]
    omega
theorem far_over {fuel : Int} {s : St} (hs : s.steps ≤ fuel) (h : farS fuel s ≤ 0) : s.over ≠ 0 := by
  intro h0
  unfold farS at h
  rw [if_neg (by simp [h0])] at h
  omega
/-- a run comes to its end -/
theorem run_end {C : List In} {words fuel : Int} (hC : Good C) (hR : ∀ x ∈ C, R64 x.k) : ∀ (k : Nat) {p : St × Ef}, p.1.regs.length = 16 → Ok C fuel p.1 → EI words p.1 p.2 → farS fuel p.1 ≤ k → (runS C words fuel k p).1.over ≠ 0
  | 0, p, hl, ho, hE, hk => far_over ho.steps.2 hk
  | k + 1, p, hl, ho, hE, hk => by
    unfold runS
    by_cases h0 : p.1.over = 0
    · obtain ⟨a, b, c⟩ := round_ok hC hR hl ho hE
      exact run_end hC hR k a b c (by have := round_far (words := words) h0 ho; omega)
    · rw [round_over h0, run_over k h0]; exact h0
/-- what comes of a run -/
def lastS (C : List In) (words fuel n i k : Int) (M : List Int) : St × Ef := runS C words fuel (fuel.toNat + 1) (St0 n i k, ⟨M, [], []⟩)
end Go.Proofs.Ytkcncngcmhldpaa
