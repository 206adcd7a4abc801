/- A machine is driven to its end. -/
import Derived.Test.YtkcncngcmhldpaaMeetX
namespace Go.Proofs.Ytkcncngcmhldpaa
open Go.RowKit Go.Maps
set_option linter.unusedVariables false
/-- of what lies below B only the machine is written -/
structure Dr (B vb : Nat) (w w' : World) : Prop where
  os : w'.os = w.os
  tape : w'.tape = w.tape
  output : w'.output = w.output
  size : w.heap.size ≤ w'.heap.size
  block : ∀ k, k < B → k ≠ vb → w'.heap[k]? = w.heap[k]?
theorem Dr.refl (B vb : Nat) (w : World) : Dr B vb w w := ⟨rfl, rfl, rfl, Nat.le_refl _, fun _ _ _ => rfl⟩
theorem Dr.below {B vb : Nat} {a b c : World} (h : Dr B vb a b) (k : Below B b c) : Dr B vb a c := ⟨k.os.trans h.os, k.tape.trans h.tape, k.output.trans h.output, Nat.le_trans h.size k.size, fun i hi hn => (k.block i hi).trans (h.block i hi hn)⟩
theorem Dr.ch {B vb : Nat} {a b c : World} (h : Dr B vb a b) (hB : B ≤ b.heap.size) (k : Ch vb b c) : Dr B vb a c := ⟨k.os.trans h.os, k.tape.trans h.tape, k.output.trans h.output, Nat.le_trans h.size k.size, fun i hi hn => (k.block i (by omega) hn).trans (h.block i hi hn)⟩
/-- a machine and its world -/
structure DI (B vb g cap wb : Nat) (m : Fx) (C : List In) (w W : World) (s : St) (E : Ef) : Prop where
  mc : MC W vb g cap m C s
  ok : Ok C m.fuel s
  ef : ∃ mv ov nv, EF W 93 B wb mv ov nv E
  fr : Dr B vb w W
  hB : B ≤ W.heap.size
  lt : vb < B ∧ g < B
  good : Good C
  rk : ∀ x ∈ C, R64 x.k
section
variable {B vb g cap wb : Nat} {m : Fx} {C : List In} {w W V : World} {s : St} {E : Ef}
theorem DI.below (h : DI B vb g cap wb m C w W s E) (hb : Below W.heap.size W V) : DI B vb g cap wb m C w V s E := by
  obtain ⟨mv, ov, nv, he⟩ := h.ef
  exact ⟨h.mc.below hb, h.ok, ⟨mv, ov, nv, he.below hb⟩, h.fr.below (hb.mono h.hB), Nat.le_trans h.hB hb.size, h.lt, h.good, h.rk⟩
theorem DI.drew (h : DI B vb g cap wb m C w W s E) : DI B vb g cap wb m C w W.drew s E := h.below (Below.refl _ _).drew
theorem DI.want (h : DI B vb g cap wb m C w W s E) : Calls Try.prog 11 #[.pointer (some ⟨vb, 0, none⟩)] W fun e V => e = .returned (wtV (wantS C m.words m.fuel s)) ∧ DI B vb g cap wb m C w V s E := by
  refine (want_any vb g cap m C s h.good.ok h.ok W h.mc).mono ?_
  rintro e V ⟨rfl, hb⟩
  exact ⟨rfl, h.below hb⟩
theorem DI.meet (h : DI B vb g cap wb m C w W s E) (hE : EI m.words s E) (hw : m.words ≤ 64) : Calls Try.prog 39 #[.pointer (some ⟨wb, 0, none⟩), wtV (wantS C m.words m.fuel s)] W fun e V => e = .returned (.int .i64 (gotE E (wantS C m.words m.fuel s))) ∧ DI B vb g cap wb m C w V s (doE E (wantS C m.words m.fuel s)) := by
  obtain ⟨mv, ov, nv, he⟩ := h.ef
  have h1 := hE.len
  have h2 := hE.outs
  have h3 := hE.intos
  have h4 := h.ok.steps
  have h5 := h.ok.fuel
  refine (meet_any B wb E (wantS C m.words m.fuel s) mv ov nv (by rw [h1]; exact (want_in h.good h.ok).1) (by omega) (by omega) (by omega) W he h.hB).mono ?_
  rintro e V ⟨rfl, hef, hb⟩
  have hv : V.heap[vb]? = W.heap[vb]? := hb.block vb h.lt.1
  have hg : V.heap[g]? = W.heap[g]? := hb.block g h.lt.2
  exact ⟨rfl, ⟨h.mc.vm.keep hv, h.mc.cv, h.mc.cap, h.mc.len, fun i hi => (h.mc.row i hi).block hg, h.mc.ne⟩, h.ok, hef, h.fr.below hb, Nat.le_trans h.hB hb.size, h.lt, h.good, h.rk⟩
theorem DI.step (h : DI B vb g cap wb m C w W s E) (got : Int) (hg : R64 got) : Calls Try.prog 12 #[.pointer (some ⟨vb, 0, none⟩), .int .i64 got] W fun e V => e = .returned (.bool (s.over == 0)) ∧ DI B vb g cap wb m C w V (stepS C m.words m.fuel s got) E := by
  obtain ⟨mv, ov, nv, he⟩ := h.ef
  refine (step_any vb g cap m C s got h.good.ok h.ok W h.mc).mono ?_
  rintro e V ⟨rfl, hv, hc⟩
  exact ⟨rfl, h.mc.ch hc hv, step_ok h.good h.rk h.mc.vm.len h.ok hg, ⟨mv, ov, nv, he.ch h.lt.1 hc⟩, h.fr.ch h.hB hc, Nat.le_trans h.hB hc.size, h.lt, h.good, h.rk⟩
end
/-- at each round's head -/
def DrW (B vb g cap wb : Nat) (m : Fx) (C : List In) (F : St × Ef) (w wr : World) : Prop :=
  ∃ (k : Nat) (s : St) (E : Ef), DI B vb g cap wb m C w wr s E ∧ EI m.words s E ∧ runS C m.words m.fuel k (s, E) = F ∧ farS m.fuel s ≤ k
/-- how far it is, read from memory -/
def farW (vb : Nat) (fuel : Int) (W : World) : Nat :=
  match W.cell? ⟨vb, 24, none⟩, W.cell? ⟨vb, 23, none⟩ with
  | some (.int _ o), some (.int _ q) => if o ≠ 0 then 0 else (fuel + 1 - q).toNat
  | _, _ => 0
theorem DI.far {B vb g cap wb : Nat} {m : Fx} {C : List In} {w W : World} {s : St} {E : Ef} (h : DI B vb g cap wb m C w W s E) : farW vb m.fuel W = farS m.fuel s := by
  unfold farW
  rw [h.mc.vm.c24, h.mc.vm.c23]
  rfl
def DriveP (B vb g cap wb : Nat) (m : Fx) (C : List In) (F : St × Ef) (w : World) (e : Ending) (V : World) : Prop := e = .returned (.tuple #[]) ∧ DI B vb g cap wb m C w V F.1 F.2 ∧ F.1.over ≠ 0

set_option maxRecDepth 100000 in
set_option maxHeartbeats 4000000 in
theorem drive_any (B vb g cap wb : Nat) (m : Fx) (C : List In) (F : St × Ef) (hw : m.words ≤ 64) (w : World) (h : DrW B vb g cap wb m C F w w) : Calls Try.prog 38 #[.pointer (some ⟨vb, 0, none⟩), .func (.func 39) #[.pointer (some ⟨wb, 0, none⟩)] #[]] w (DriveP B vb g cap wb m C F w) := by
  have HD : Hid (DrW B vb g cap wb m C F w w) := h
  clear h
  go_enter Try.func38, Try.ntmps38
  go_wp2
  go_loopw [] (fun wr => DrW B vb g cap wb m C F w wr) (fun wr => farW vb m.fuel wr)
  case atStart => exact HD.out
  case round =>
    obtain ⟨k, s, E, hd, hE, hF, hk⟩ := hrel
    have HDI : Hid (DI B vb g cap wb m C w wr s E) := hd
    obtain ⟨T, hT⟩ : ∃ T, wantS C m.words m.fuel s = T := ⟨_, rfl⟩
    have HTE : Hid (wantS C m.words m.fuel s = T) := hT
    obtain ⟨z, hz⟩ : ∃ z, gotE E T = z := ⟨_, rfl⟩
    have HZE : Hid (gotE E T = z) := hz
    have HZR : Hid (R64 z) := by rw [← hz]; exact got_R hE T
    have HRD : Hid (roundS C m.words m.fuel (s, E) = (stepS C m.words m.fuel s z, doE E T)) := by show roundS _ _ _ _ = _; unfold roundS; dsimp only; rw [hT, hz]
    have HEI : Hid (EI m.words s E) := hE
    have HKF : Hid (runS C m.words m.fuel k (s, E) = F ∧ farS m.fuel s ≤ k) := ⟨hF, hk⟩
    have HMT : Hid (∀ W, DI B vb g cap wb m C w W s E → Calls Try.prog 39 #[.pointer (some ⟨wb, 0, none⟩), wtV T] W fun e V => e = .returned (.int .i64 z) ∧ DI B vb g cap wb m C w V s (doE E T)) := fun W hW => by
      have := hW.meet hE hw
      rw [hT, hz] at this
      exact this
    have HFAR : Hid (farW vb m.fuel wr = farS m.fuel s) := hd.far
    have HOK : Hid (Ok C m.fuel s) := hd.ok
    have HLN : Hid (s.regs.length = 16) := hd.mc.vm.len
    have HGD : Hid (Good C ∧ ∀ x ∈ C, R64 x.k) := ⟨hd.good, hd.rk⟩
    clear hd hE hF hk hT hz
    by_cases h0 : s.over = 0
    · have HB0 : Hid ((s.over == 0) = true) := by show _ = _; simp [h0]
      go_wp2_with (first | (go_at_call 11; refine HDI.out.want.mono ?_; rintro e w1 ⟨rfl, hd1⟩; rw [HTE.out]; have HD1 : Hid (DI B vb g cap wb m C w w1 s E) := hd1; clear hd1) | (go_at_call 39; refine (HMT.out w1 HD1.out).mono ?_; rintro e w2 ⟨rfl, hd2⟩; have HD2 : Hid (DI B vb g cap wb m C w w2 s (doE E T)) := hd2; clear hd2) | (go_at_call 12; refine (HD2.out.step z HZR.out).mono ?_; rintro e w3 ⟨rfl, hd3⟩; rw [HB0.out]; have HD3 : Hid (DI B vb g cap wb m C w w3 (stepS C m.words m.fuel s z) (doE E T)) := hd3; clear hd3))
      go_roundw
      case rel =>
        obtain ⟨r1, r2, r3⟩ := round_ok (words := m.words) (fuel := m.fuel) (p := (s, E)) HGD.out.1 HGD.out.2 HLN.out HOK.out HEI.out
        have hf := round_far (words := m.words) (p := (s, E)) h0 HOK.out
        rw [HRD.out] at r3 hf
        have hk := HKF.out.2
        obtain ⟨k', rfl⟩ : ∃ k', k = k' + 1 := ⟨k - 1, by have : farS m.fuel (s, E).1 ≤ k := hk; omega⟩
        refine ⟨k', _, _, HD3.out, r3, ?_, ?_⟩
        · have := HKF.out.1
          unfold runS at this
          rw [HRD.out] at this
          exact this
        · have : farS m.fuel (s, E).1 ≤ k' + 1 := hk
          have h2 : farS m.fuel (stepS C m.words m.fuel s z) < farS m.fuel (s, E).1 := hf
          omega
      case measure =>
        have hf := round_far (words := m.words) (p := (s, E)) h0 HOK.out
        rw [HRD.out] at hf
        rw [HD3.out.far, HFAR.out]
        exact hf
    · have HB0 : Hid ((s.over == 0) = false) := by show _ = _; simp [h0]
      go_wp2_with (first | (go_at_call 11; refine HDI.out.want.mono ?_; rintro e w1 ⟨rfl, hd1⟩; rw [HTE.out]; have HD1 : Hid (DI B vb g cap wb m C w w1 s E) := hd1; clear hd1) | (go_at_call 39; refine (HMT.out w1 HD1.out).mono ?_; rintro e w2 ⟨rfl, hd2⟩; have HD2 : Hid (DI B vb g cap wb m C w w2 s (doE E T)) := hd2; clear hd2) | (go_at_call 12; refine (HD2.out.step z HZR.out).mono ?_; rintro e w3 ⟨rfl, hd3⟩; rw [HB0.out]; have HD3 : Hid (DI B vb g cap wb m C w w3 (stepS C m.words m.fuel s z) (doE E T)) := hd3; clear hd3))
      go_end0
      have h3 := HD3.out
      have hr := round_over (C := C) (words := m.words) (fuel := m.fuel) (p := (s, E)) h0
      rw [HRD.out] at hr
      injection hr with e1 e2
      rw [e1, e2] at h3
      have hF : (s, E) = F := by have := HKF.out.1; rw [run_over k h0] at this; exact this
      subst hF
      exact ⟨rfl, h3, h0⟩
end Go.Proofs.Ytkcncngcmhldpaa
