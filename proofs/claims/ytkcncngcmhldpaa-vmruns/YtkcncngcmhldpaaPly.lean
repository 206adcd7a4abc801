/- What stays so step by step; several steps. -/
import Derived.Test.YtkcncngcmhldpaaWnt
namespace Go.Proofs.Ytkcncngcmhldpaa
open Go.RowKit
set_option linter.unusedVariables false

theorem oneC_ok {x : In} {cells long : Int} (h : oneC x cells long = 0) : OkI x ∧ (x.kind = 10 ∨ x.kind = 11 ∨ x.kind = 12 → 0 ≤ x.k ∧ x.k < long) := by
  obtain ⟨kd, op, xa, xb, xc, xk⟩ := x
  by_cases hk : kd < 1 ∨ 13 < kd
  · rw [oneC_none _ _ _ hk] at h; cases h
  have hk : kd = 1 ∨ kd = 2 ∨ kd = 3 ∨ kd = 4 ∨ kd = 5 ∨ kd = 6 ∨ kd = 7 ∨ kd = 8 ∨ kd = 9 ∨ kd = 10 ∨ kd = 11 ∨ kd = 12 ∨ kd = 13 := by omega
  rcases hk with rfl | rfl | rfl | rfl | rfl | rfl | rfl | rfl | rfl | rfl | rfl | rfl | rfl
  · rw [oneC_1] at h; split at h <;> first | (cases h; done) | (refine ⟨⟨?_, ?_, ?_, ?_⟩, ?_⟩ <;> dsimp only <;> omega)
  · rw [oneC_2] at h; (repeat' split at h) <;> first | (cases h; done) | (refine ⟨⟨?_, ?_, ?_, ?_⟩, ?_⟩ <;> dsimp only <;> omega)
  · rw [oneC_3] at h; (repeat' split at h) <;> first | (cases h; done) | (refine ⟨⟨?_, ?_, ?_, ?_⟩, ?_⟩ <;> dsimp only <;> omega)
  · rw [oneC_4] at h; (repeat' split at h) <;> first | (cases h; done) | (refine ⟨⟨?_, ?_, ?_, ?_⟩, ?_⟩ <;> dsimp only <;> omega)
  · rw [oneC_5] at h; (repeat' split at h) <;> first | (cases h; done) | (refine ⟨⟨?_, ?_, ?_, ?_⟩, ?_⟩ <;> dsimp only <;> omega)
  · rw [oneC_6] at h; (repeat' split at h) <;> first | (cases h; done) | (refine ⟨⟨?_, ?_, ?_, ?_⟩, ?_⟩ <;> dsimp only <;> omega)
  · rw [oneC_7] at h; (repeat' split at h) <;> first | (cases h; done) | (refine ⟨⟨?_, ?_, ?_, ?_⟩, ?_⟩ <;> dsimp only <;> omega)
  · rw [oneC_8] at h; (repeat' split at h) <;> first | (cases h; done) | (refine ⟨⟨?_, ?_, ?_, ?_⟩, ?_⟩ <;> dsimp only <;> omega)
  · rw [oneC_9] at h; (repeat' split at h) <;> first | (cases h; done) | (refine ⟨⟨?_, ?_, ?_, ?_⟩, ?_⟩ <;> dsimp only <;> omega)
  · rw [oneC_10] at h; (repeat' split at h) <;> first | (cases h; done) | (refine ⟨⟨?_, ?_, ?_, ?_⟩, ?_⟩ <;> dsimp only <;> omega)
  · rw [oneC_11] at h; (repeat' split at h) <;> first | (cases h; done) | (refine ⟨⟨?_, ?_, ?_, ?_⟩, ?_⟩ <;> dsimp only <;> omega)
  · rw [oneC_12] at h; (repeat' split at h) <;> first | (cases h; done) | (refine ⟨⟨?_, ?_, ?_, ?_⟩, ?_⟩ <;> dsimp only <;> omega)
  · rw [oneC_13] at h; (repeat' split at h) <;> first | (cases h; done) | (refine ⟨⟨?_, ?_, ?_, ?_⟩, ?_⟩ <;> dsimp only <;> omega)
theorem firstBad_none (cells long : Int) : ∀ (l : List In) (i : Nat), firstBad cells long i l = none → ∀ x ∈ l, oneC x cells long = 0
  | [], i, h, x, hx => by cases hx
  | y :: l, i, h, x, hx => by
    unfold firstBad at h
    split at h
    · rcases List.mem_cons.1 hx with rfl | hx
      · assumption
      · exact firstBad_none cells long l (i + 1) h x hx
    · cases h
/-- instructions that may be -/
structure Good (C : List In) : Prop where
  len : 0 < C.length ∧ C.length ≤ 600
  ok : ∀ x ∈ C, OkI x
  jump : ∀ x ∈ C, x.kind = 10 ∨ x.kind = 11 ∨ x.kind = 12 → 0 ≤ x.k ∧ x.k < C.length
  fall : ∀ i (h : i < C.length), fallsB C[i] = true → i + 1 < C.length
theorem chk_good {C : List In} {cells : Int} (h : (checkL C cells).2 = 0) : Good C := by
  have hl := checkL_ok h
  unfold checkL at h
  rw [if_neg (by omega)] at h
  cases hb : firstBad cells (C.length : Int) 0 C with
  | some p =>
    obtain ⟨i, e⟩ := p
    rw [hb] at h
    dsimp only at h
    have : ∀ (l : List In) (j i : Nat) (e : Int), firstBad cells (C.length : Int) j l = some (i, e) → e ≠ 0 := by
      intro l
      induction l with
      | nil => intro j i e h; cases h
      | cons x l ih =>
        intro j i e h
        unfold firstBad at h
        split at h
        · exact ih _ _ _ h
        · rename_i hne; cases h; exact hne
    exact absurd h (this _ _ _ _ hb)
  | none =>
    rw [hb] at h
    dsimp only at h
    have h1 := firstBad_none cells _ C 0 hb
    refine ⟨hl, fun x hx => (oneC_ok (h1 x hx)).1, fun x hx => (oneC_ok (h1 x hx)).2, fun i hi hf => ?_⟩
    rcases Nat.lt_or_ge (i + 1) C.length with h2 | h2
    · exact h2
    · have hi2 : i = C.length - 1 := by omega
      have hg : C.getLast? = some C[i] := by rw [List.getLast?_eq_getElem?, ← hi2, List.getElem?_eq_getElem hi]
      rw [hg] at h
      dsimp only at h
      rw [if_pos hf] at h
      cases h
theorem newE_good {C : List In} {cells words fuel : Int} (h : newE C cells words fuel = 0) : Good C ∧ (1 ≤ words ∧ words ≤ 64) ∧ (1 ≤ fuel ∧ fuel ≤ 4000) := by
  unfold newE at h
  split at h
  · rename_i h1; exact absurd h h1
  · rename_i h1
    split at h
    · cases h
    · split at h
      · cases h
      · exact ⟨chk_good (Classical.not_not.1 h1), by omega, by omega⟩

theorem rg_set (s : St) (r : Nat) (v : Int) (q : Nat) (p : Int) (h : s.regs.length = 16) (hr : r < 16) : rg { s with regs := s.regs.set r v, pc := p } q = if q = r then v else rg s q := by
  unfold rg
  simp only [List.getD]
  by_cases e : q = r
  · subst e; rw [if_pos rfl, List.getElem?_set_self (by omega)]; rfl
  · rw [if_neg e, List.getElem?_set_ne (fun h => e h.symm)]
theorem give_ok {C : List In} {fuel : Int} {s : St} {r v : Int} (hl : s.regs.length = 16) (ho : Ok C fuel s) (hr : 0 ≤ r ∧ r < 16) (hv : R64 v) (hp : s.pc + 1 < C.length) : Ok C fuel (giveS s r v) := by
  refine ⟨fun q hq => ?_, ?_, ho.steps, ho.fuel⟩
  · unfold giveS
    rw [rg_set s r.toNat v q _ hl (by omega)]
    split
    · exact hv
    · exact ho.regs q hq
  · have := ho.pc
    show 0 ≤ s.pc + 1 ∧ s.pc + 1 < _
    omega
theorem on_ok {C : List In} {fuel : Int} {s : St} (ho : Ok C fuel s) (hp : s.pc + 1 < C.length) : Ok C fuel (onS s) := ⟨ho.regs, by have := ho.pc; show 0 ≤ s.pc + 1 ∧ s.pc + 1 < _; omega, ho.steps, ho.fuel⟩
theorem end_ok {C : List In} {fuel : Int} {s : St} (ho : Ok C fuel s) (o v : Int) : Ok C fuel (endS s o v) := ⟨ho.regs, ho.pc, ho.steps, ho.fuel⟩
theorem jump_ok {C : List In} {fuel : Int} {s : St} (ho : Ok C fuel s) (k : Int) (b : Bool) (hk : 0 ≤ k ∧ k < C.length) (hp : b = false → s.pc + 1 < C.length) : Ok C fuel (jumpS s k b) := by
  unfold jumpS
  cases b with
  | true => exact ⟨ho.regs, hk, ho.steps, ho.fuel⟩
  | false => exact on_ok ho (hp rfl)
theorem give_len (s : St) (r v : Int) : (giveS s r v).regs.length = s.regs.length := by unfold giveS; simp
theorem jump_len (s : St) (k : Int) (b : Bool) : (jumpS s k b).regs.length = s.regs.length := by unfold jumpS onS; cases b <;> rfl
theorem do_len (words : Int) (x : In) (got : Int) (s : St) : (doS words x got s).regs.length = s.regs.length := by
  unfold doS
  by_cases k1 : x.kind = 1
  · rw [if_pos k1]; exact rfl
  rw [if_neg k1]
  by_cases k2 : x.kind = 2
  · rw [if_pos k2]; exact give_len _ _ _
  rw [if_neg k2]
  by_cases k3 : x.kind = 3
  · rw [if_pos k3]; exact give_len _ _ _
  rw [if_neg k3]
  by_cases k4 : x.kind = 4
  · rw [if_pos k4]; exact give_len _ _ _
  rw [if_neg k4]
  by_cases k5 : x.kind = 5
  · rw [if_pos k5]; split; exact give_len _ _ _; rfl
  rw [if_neg k5]
  by_cases k6 : x.kind = 6
  · rw [if_pos k6]; split; exact give_len _ _ _; rfl
  rw [if_neg k6]
  by_cases k7 : x.kind = 7
  · rw [if_pos k7]; split <;> rfl
  rw [if_neg k7]
  by_cases k8 : x.kind = 8
  · rw [if_pos k8]; exact rfl
  rw [if_neg k8]
  by_cases k9 : x.kind = 9
  · rw [if_pos k9]; exact rfl
  rw [if_neg k9]
  by_cases k10 : x.kind = 10
  · rw [if_pos k10]; exact jump_len _ _ _
  rw [if_neg k10]
  by_cases k11 : x.kind = 11
  · rw [if_pos k11]; exact jump_len _ _ _
  rw [if_neg k11]
  by_cases k12 : x.kind = 12
  · rw [if_pos k12]; exact jump_len _ _ _
  rw [if_neg k12]
  by_cases k13 : x.kind = 13
  · rw [if_pos k13]; exact rfl
  rw [if_neg k13]
theorem do_ok {C : List In} {fuel words : Int} {s : St} {got : Int} (x : In) (hC : Good C) (hl : s.regs.length = 16) (ho : Ok C fuel s) (p : Nat) (hp : s.pc = p) (hpl : p < C.length) (hx : C[p] = x) (hk : R64 x.k) (hg : R64 got) : Ok C fuel (doS words x got s) := by
  have hm : x ∈ C := by rw [← hx]; exact List.getElem_mem _
  have hi := hC.ok x hm
  have hj := hC.jump x hm
  have hf : fallsB x = true → s.pc + 1 < C.length := by
    intro h
    have := hC.fall p hpl (by rw [hx]; exact h)
    omega
  have hfa : x.kind ≠ 1 ∧ x.kind ≠ 10 ∧ x.kind ≠ 13 → s.pc + 1 < C.length := fun h => hf (by unfold fallsB; simpa using h)
  have hb := ho.regs x.b.toNat (by have := hi.b; omega)
  have hc := ho.regs x.c.toNat (by have := hi.c; omega)
  unfold doS
  by_cases k1 : x.kind = 1
  · rw [if_pos k1]
    exact end_ok ho _ _
  rw [if_neg k1]
  by_cases k2 : x.kind = 2
  · rw [if_pos k2]
    exact give_ok hl ho hi.a hk (hfa (by omega))
  rw [if_neg k2]
  by_cases k3 : x.kind = 3
  · rw [if_pos k3]
    exact give_ok hl ho hi.a hb (hfa (by omega))
  rw [if_neg k3]
  by_cases k4 : x.kind = 4
  · rw [if_pos k4]
    exact give_ok hl ho hi.a (oneR_is _ _ hb).2 (hfa (by omega))
  rw [if_neg k4]
  by_cases k5 : x.kind = 5
  · rw [if_pos k5]
    split
    · exact give_ok hl ho hi.a (twoR_is _ _ _ hb hc).2 (hfa (by omega))
    · exact end_ok ho _ _
  rw [if_neg k5]
  by_cases k6 : x.kind = 6
  · rw [if_pos k6]
    split
    · exact give_ok hl ho hi.a hg (hfa (by omega))
    · exact end_ok ho _ _
  rw [if_neg k6]
  by_cases k7 : x.kind = 7
  · rw [if_pos k7]
    split
    · exact on_ok ho (hfa (by omega))
    · exact end_ok ho _ _
  rw [if_neg k7]
  by_cases k8 : x.kind = 8
  · rw [if_pos k8]
    exact on_ok ho (hfa (by omega))
  rw [if_neg k8]
  by_cases k9 : x.kind = 9
  · rw [if_pos k9]
    exact on_ok ho (hfa (by omega))
  rw [if_neg k9]
  by_cases k10 : x.kind = 10
  · rw [if_pos k10]
    exact jump_ok ho _ _ (hj (by omega)) (fun h => by cases h)
  rw [if_neg k10]
  by_cases k11 : x.kind = 11
  · rw [if_pos k11]
    exact jump_ok ho _ _ (hj (by omega)) (fun _ => hfa (by omega))
  rw [if_neg k11]
  by_cases k12 : x.kind = 12
  · rw [if_pos k12]
    exact jump_ok ho _ _ (hj (by omega)) (fun _ => hfa (by omega))
  rw [if_neg k12]
  by_cases k13 : x.kind = 13
  · rw [if_pos k13]
    exact end_ok ho _ _
  rw [if_neg k13]
  exact ho
theorem step_len (C : List In) (words fuel : Int) (s : St) (got : Int) : (stepS C words fuel s got).regs.length = s.regs.length := by
  unfold stepS endS
  (repeat' split) <;> simp [do_len]
theorem step_ok {C : List In} {fuel words : Int} {s : St} {got : Int} (hC : Good C) (hR : ∀ x ∈ C, R64 x.k) (hl : s.regs.length = 16) (ho : Ok C fuel s) (hg : R64 got) : Ok C fuel (stepS C words fuel s got) := by
  unfold stepS
  split
  · exact ho
  split
  · exact end_ok ho _ _
  · rename_i h0 hf
    obtain ⟨p, hp⟩ : ∃ p : Nat, s.pc = p := ⟨s.pc.toNat, by have := ho.pc; omega⟩
    have hpl : p < C.length := by have := ho.pc; omega
    have e : C.getD s.pc.toNat ⟨0, 0, 0, 0, 0, 0⟩ = C[p] := by rw [hp, Int.toNat_natCast]; simp [List.getD, hpl]
    rw [e]
    have ho' : Ok C fuel { s with steps := s.steps + 1 } := ⟨ho.regs, ho.pc, by have := ho.steps; show 0 ≤ s.steps + 1 ∧ s.steps + 1 ≤ fuel; omega, ho.fuel⟩
    exact do_ok C[p] hC hl ho' p hp hpl rfl (hR _ (List.getElem_mem _)) hg

/-- what a step gets -/
def gotAt (G : List Int) (i : Nat) : Int := if G.length = 0 then 0 else G.getD (i % G.length) 0
/-- k steps, from number i on -/
def playS (C : List In) (words fuel : Int) (G : List Int) : Nat → Nat → St → St
  | 0, _, s => s
  | k + 1, i, s => playS C words fuel G k (i + 1) (stepS C words fuel s (gotAt G i))
theorem play_add (C : List In) (words fuel : Int) (G : List Int) : ∀ (a b i : Nat) (s : St), playS C words fuel G (a + b) i s = playS C words fuel G b (i + a) (playS C words fuel G a i s)
  | 0, b, i, s => by rw [Nat.zero_add]; rfl
  | a + 1, b, i, s => by
    rw [show a + 1 + b = (a + b) + 1 by omega]
    show playS C words fuel G (a + b) (i + 1) _ = playS C words fuel G b (i + (a + 1)) (playS C words fuel G a (i + 1) _)
    rw [play_add C words fuel G a b (i + 1), show i + 1 + a = i + (a + 1) by omega]
theorem got_bd {G : List Int} (hG : ∀ x ∈ G, R64 x) (i : Nat) : R64 (gotAt G i) := by
  unfold gotAt
  split
  · exact zero_bd
  · rename_i h
    have h2 : i % G.length < G.length := Nat.mod_lt _ (by omega)
    rw [List.getD, List.getElem?_eq_getElem h2]
    exact hG _ (List.getElem_mem _)
theorem play_ok {C : List In} {fuel words : Int} {G : List Int} (hC : Good C) (hR : ∀ x ∈ C, R64 x.k) (hG : ∀ x ∈ G, R64 x) : ∀ (k i : Nat) (s : St), s.regs.length = 16 → Ok C fuel s → Ok C fuel (playS C words fuel G k i s) ∧ (playS C words fuel G k i s).regs.length = 16
  | 0, i, s, hl, ho => ⟨ho, hl⟩
  | k + 1, i, s, hl, ho => play_ok hC hR hG k (i + 1) _ (by rw [step_len]; exact hl) (step_ok hC hR hl ho (got_bd hG i))
end Go.Proofs.Ytkcncngcmhldpaa
