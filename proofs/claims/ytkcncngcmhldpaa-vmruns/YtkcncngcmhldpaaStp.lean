/- A step. -/
import Derived.Test.YtkcncngcmhldpaaDo
import Derived.Deep.DeepCutAuto
namespace Go.Proofs.Ytkcncngcmhldpaa
open Go.RowKit
set_option linter.unusedVariables false

/-- a step, plain -/
def stepS (C : List In) (words fuel : Int) (s : St) (got : Int) : St :=
  if s.over ≠ 0 then s else if fuel ≤ s.steps then endS s 5 0 else doS words (C.getD s.pc.toNat ⟨0, 0, 0, 0, 0, 0⟩) got { s with steps := s.steps + 1 }
/-- a machine and its instructions in memory -/
structure MC (w : World) (vb g cap : Nat) (m : Fx) (C : List In) (s : St) : Prop where
  vm : VM w vb m s
  cv : m.cv = .slice (some ⟨g, 0, none⟩) C.length cap
  cap : C.length ≤ cap
  len : C.length ≤ 1000
  row : ∀ i (h : i < C.length), IAt w g (i * 6) C[i]
  ne : g ≠ vb
/-- a state that may be -/
structure Ok (C : List In) (fuel : Int) (s : St) : Prop where
  regs : ∀ r < 16, R64 (rg s r)
  pc : 0 ≤ s.pc ∧ s.pc < C.length
  steps : 0 ≤ s.steps ∧ s.steps ≤ fuel
  fuel : fuel ≤ 4000
theorem MC.glt {w : World} {vb g cap : Nat} {m : Fx} {C : List In} {s : St} (h : MC w vb g cap m C s) (hC : 0 < C.length) : g < w.heap.size := (h.row 0 hC).lt
theorem MC.ch {w w' : World} {vb g cap : Nat} {m : Fx} {C : List In} {s s' : St} (h : MC w vb g cap m C s) (hc : Ch vb w w') (hv : VM w' vb m s') : MC w' vb g cap m C s' :=
  ⟨hv, h.cv, h.cap, h.len, fun i hi => (h.row i hi).block (hc.block g (h.row i hi).lt h.ne), h.ne⟩
theorem MC.below {w w' : World} {vb g cap : Nat} {m : Fx} {C : List In} {s : St} (h : MC w vb g cap m C s) (hb : Below w.heap.size w w') : MC w' vb g cap m C s := h.ch (Ch.of hb) (h.vm.below hb)

/-- what Step leaves -/
def StepP (vb : Nat) (m : Fx) (s' : St) (b : Bool) (w : World) (e : Ending) (w' : World) : Prop := e = .returned (.bool b) ∧ VM w' vb m s' ∧ Ch vb w w'

set_option maxRecDepth 100000 in
set_option maxHeartbeats 2000000 in
theorem step_any (vb g cap : Nat) (m : Fx) (C : List In) (s : St) (got : Int) (hC : ∀ x ∈ C, OkI x) (ho : Ok C m.fuel s) (w : World) (h : MC w vb g cap m C s) : Calls Try.prog 12 #[.pointer (some ⟨vb, 0, none⟩), .int .i64 got] w (StepP vb m (stepS C m.words m.fuel s got) (s.over == 0) w) := by
  have H : Hid (VM w vb m s) := h.vm
  have HE : Hid (∀ n, Calls Try.prog 27 #[.pointer (some ⟨vb, 0, none⟩)] (w.drewN n) fun e w' => e = .returned (.bool (s.over != 0)) ∧ w' = w.drewN n) := fun n => ended_any vb m s _ (h.vm.drewN n)
  have HS : Hid (Calls Try.prog 28 #[.pointer (some ⟨vb, 0, none⟩)] w fun e w' => e = .returned (.bool (decide (m.fuel ≤ s.steps))) ∧ ∃ n, w' = w.drewN n) := spent_any vb m s w h.vm
  have HE0 : Hid (Calls Try.prog 27 #[.pointer (some ⟨vb, 0, none⟩)] w fun e w' => e = .returned (.bool (s.over != 0)) ∧ w' = w) := ended_any vb m s _ h.vm
  obtain ⟨out, hout⟩ : ∃ o, stepS C m.words m.fuel s got = o := ⟨_, rfl⟩
  rw [hout]
  unfold stepS at hout
  by_cases h0 : s.over = 0
  · have e1 : (s.over == 0) = true := by simp [h0]
    have e2 : (s.over != 0) = false := by simp [h0]
    rw [e1]
    rw [e2] at HE0
    rw [if_neg (by simp [h0])] at hout
    by_cases hf : m.fuel ≤ s.steps
    · have e3 : decide (m.fuel ≤ s.steps) = true := by simp [hf]
      rw [e3] at HS
      rw [if_pos hf] at hout
      have HG : Hid (∀ W, VM W vb m s → Calls Try.prog 31 #[.pointer (some ⟨vb, 0, none⟩), .int .i64 5, .int .i64 0] W fun e w' => e = .returned (.tuple #[]) ∧ VM w' vb m out ∧ Ch vb W w') := fun W hW => by rw [← hout]; exact end_any vb m s 5 0 W hW
      clear h ho hC h0 e1 e2 e3 hf hout
      go_enter Try.func12, Try.ntmps12
      go_wp2_with (first | (go_at_call 27; refine HE0.out.mono ?_; rintro e w1 ⟨rfl, hw⟩; rw [hw]; clear hw) | (go_at_call 28; refine HS.out.mono ?_; rintro e w1 ⟨rfl, n, hw⟩; rw [hw]; clear hw) | (go_at_call 31; refine (HG.out _ (H.out.drewN n)).mono ?_; rintro e w2 ⟨rfl, h1, h2⟩))
      go_ret
      exact ⟨rfl, h1, ((Ch.refl vb w).drewN n).trans h2⟩
    · have e3 : decide (m.fuel ≤ s.steps) = false := by simp [hf]
      rw [e3] at HS
      rw [if_neg hf] at hout
      obtain ⟨p, hp⟩ : ∃ p : Nat, s.pc = p := ⟨s.pc.toNat, by have := ho.pc; omega⟩
      have hpl : p < C.length := by have := ho.pc; omega
      have hlen := h.len
      rw [show C.getD s.pc.toNat ⟨0, 0, 0, 0, 0, 0⟩ = C[p] by rw [hp, Int.toNat_natCast]; simp [List.getD, hpl]] at hout
      have hst : 0 ≤ s.steps ∧ s.steps < 4000 := by have := ho.steps; have := ho.fuel; omega
      have HD : Hid (∀ W, VM W vb m { s with steps := s.steps + 1 } → Calls Try.prog 32 #[.pointer (some ⟨vb, 0, none⟩), iv C[p], .int .i64 got] W (DoP vb m out W)) := fun W hW => by rw [← hout]; exact do_any vb m { s with steps := s.steps + 1 } C[p] got (hC _ (List.getElem_mem _)) ho.regs (by rw [show ({ s with steps := s.steps + 1 } : St).pc = p from hp]; omega) W hW
      obtain ⟨q, hq⟩ : ∃ q, s.steps = q := ⟨_, rfl⟩
      have HM : Hid (MC w vb g cap m C s) := h
      have HX : Hid (∀ n, VM ((w.drewN n).setCell ⟨vb, 23, none⟩ (.int .i64 (q + 1))) vb m { s with steps := s.steps + 1 }) := fun n => by have := (h.vm.drewN n).setSteps (q + 1); rw [hq]; exact this
      have c23 : ∀ n, (w.drewN n).cell? ⟨vb, 23, none⟩ = some (.int .i64 q) := fun n => by rw [← hq]; exact (h.vm.drewN n).c23
      have f23 : ∀ n, (w.drewN n).frozen? ⟨vb, 23, none⟩ = false := fun n => (h.vm.drewN n).fz 23
      rw [hq] at hst
      have HRW : Hid (∀ n, IAt ((w.drewN n).setCell ⟨vb, 23, none⟩ (.int .i64 (q + 1))) g (p * 6) C[p]) := fun n => (h.row p hpl).block (Below.heap_setCell _ _ _ _ h.ne)
      have hcv := h.cv
      have hcap := h.cap
      have hxk : C[p] ∈ C := List.getElem_mem _
      generalize C[p] = x at HD HRW hxk
      obtain ⟨kd, op, xa, xb, xc, xk⟩ := x
      unfold iv at HD
      clear h ho hC h0 e1 e2 e3 hf hout hxk
      go_enter Try.func12, Try.ntmps12
      go_upto_region 7 with (first | (go_at_call 27; refine HE0.out.mono ?_; rintro e w1 ⟨rfl, hw⟩; rw [hw]; clear hw) | (go_at_call 28; refine HS.out.mono ?_; rintro e w1 ⟨rfl, n, hw⟩; rw [hw]; clear hw))
      obtain ⟨W, hW⟩ : ∃ W, (w.drewN n).setCell ⟨vb, 23, none⟩ (.int .i64 (q + 1)) = W := ⟨_, rfl⟩
      have HX2 : Hid (VM W vb m { s with steps := s.steps + 1 }) := by rw [← hW]; exact HX.out n
      obtain ⟨i0, i1, i2, i3, i4, i5⟩ : IAt W g (p * 6) _ := by rw [← hW]; exact HRW.out n
      have HCH : Hid (Ch vb w W) := by rw [← hW]; exact ((Ch.refl vb w).drewN n).set _ _
      have c0 := HX2.out.c0
      have c22 := HX2.out.c22
      rw [hcv] at c0
      rw [show ({ s with steps := s.steps + 1 } : St).pc = p from hp] at c22
      have j0 : W.drew.cell? ⟨g, p * 6, none⟩ = _ := i0
      have j1 : W.drew.cell? ⟨g, p * 6 + 1, none⟩ = _ := i1
      have j2 : W.drew.cell? ⟨g, p * 6 + 2, none⟩ = _ := i2
      have j3 : W.drew.cell? ⟨g, p * 6 + 3, none⟩ = _ := i3
      have j4 : W.drew.cell? ⟨g, p * 6 + 4, none⟩ = _ := i4
      have j5 : W.drew.cell? ⟨g, p * 6 + 5, none⟩ = _ := i5
      have d0 : W.drew.cell? ⟨vb, 0, none⟩ = _ := c0
      have d22 : W.drew.cell? ⟨vb, 22, none⟩ = _ := c22
      rw [hW]
      clear hW c23 f23 hcv hp hq hst HX HRW HM
      go_region_with (go_at_call 32; refine (HD.out _ HX2.out.drew).mono ?_; rintro e w5 ⟨rfl, h1, h2⟩)
      all_goals
        go_wp2
        go_ret
        exact ⟨rfl, h1, HCH.out.drew.trans h2⟩
  · have e1 : (s.over == 0) = false := by simp [h0]
    have e2 : (s.over != 0) = true := by simp [h0]
    rw [e1]
    rw [e2] at HE0
    rw [if_pos h0] at hout
    subst hout
    clear h ho hC h0 e1 e2 HS HE
    go_enter Try.func12, Try.ntmps12
    go_wp2_with (go_at_call 27; refine HE0.out.mono ?_; rintro e w1 ⟨rfl, hw⟩; rw [hw]; clear hw)
    go_ret
    exact ⟨rfl, H.out, Ch.refl _ _⟩
end Go.Proofs.Ytkcncngcmhldpaa
