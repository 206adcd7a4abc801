/- played: several steps of a machine. -/
import Derived.Test.YtkcncngcmhldpaaPly
namespace Go.Proofs.Ytkcncngcmhldpaa
open Go.RowKit
set_option linter.unusedVariables false

/-- a row of numbers as it lies -/
def GSl (w : World) (v : Value) (G : List Int) : Prop :=
  ∃ ad cap b o, v = .slice ad G.length cap ∧ G.length ≤ cap ∧ cap ≤ maxLen ∧ (0 < G.length → ad = some ⟨b, o, none⟩) ∧ ∀ i (h : i < G.length), w.cell? ⟨b, o + i, none⟩ = some (.int .i64 G[i])
theorem GSl.below {w w' : World} {v : Value} {G : List Int} (h : GSl w v G) (hb : Below w.heap.size w w') : GSl w' v G := by
  obtain ⟨ad, cap, b, o, h1, h2, h3, h4, h5⟩ := h
  exact ⟨ad, cap, b, o, h1, h2, h3, h4, fun i hi => (hb.cell (p := ⟨b, o + i, none⟩) (World.block_lt_of_cell? w ⟨b, o + i, none⟩ (h5 i hi))).trans (h5 i hi)⟩
/-- the numbers lie in no machine -/
theorem GSl.ch {w w' : World} {v : Value} {G : List Int} {vb B : Nat} {W : World} (h : GSl W v G) (hW : Below W.heap.size W w) (hB : W.heap.size ≤ vb) (hc : Ch vb w w') : GSl w' v G := by
  obtain ⟨ad, cap, b, o, h1, h2, h3, h4, h5⟩ := h
  refine ⟨ad, cap, b, o, h1, h2, h3, h4, fun i hi => ?_⟩
  have hb := World.block_lt_of_cell? W ⟨b, o + i, none⟩ (h5 i hi)
  have hb' : b < W.heap.size := hb
  exact (World.cell?_of_block (w := w) (a := ⟨b, o + i, none⟩) (hc.block b (by have := hW.size; omega) (by omega))).trans ((hW.cell (p := ⟨b, o + i, none⟩) hb).trans (h5 i hi))

/-- at each round's head -/
def PdI (vb g cap : Nat) (m : Fx) (C : List In) (G : List Int) (f t : Nat) (s' : St) (w : World) (i : Value) (wr : World) : Prop :=
  ∃ (k : Nat) (s : St), i = .int .i64 (k : Int) ∧ f ≤ k ∧ (k ≤ t ∨ k = f) ∧ MC wr vb g cap m C s ∧ Ok C m.fuel s ∧ playS C m.words m.fuel G (t - k) k s = s' ∧ Ch vb w wr

set_option maxRecDepth 100000 in
set_option maxHeartbeats 2000000 in
theorem played_any (vb g cap : Nat) (m : Fx) (C : List In) (G : List Int) (gv : Value) (s : St) (f t : Nat) (ht : t ≤ 1000) (hf : f ≤ 1000) (hC : Good C) (hR : ∀ x ∈ C, R64 x.k) (hG : ∀ x ∈ G, R64 x) (ho : Ok C m.fuel s) (W0 : World) (hgv : GSl W0 gv G) (hvb : W0.heap.size ≤ vb) (w : World) (hw : Below W0.heap.size W0 w) (h : MC w vb g cap m C s) :
    Calls Try.prog 22 #[.pointer (some ⟨vb, 0, none⟩), gv, .int .i64 (f : Int), .int .i64 (t : Int)] w fun e w' => e = .returned (.tuple #[]) ∧ VM w' vb m (playS C m.words m.fuel G (t - f) f s) ∧ Ch vb w w' := by
  obtain ⟨S', hS⟩ : ∃ S', playS C m.words m.fuel G (t - f) f s = S' := ⟨_, rfl⟩
  rw [hS]
  have HST : Hid (∀ W s got, MC W vb g cap m C s → Ok C m.fuel s → Calls Try.prog 12 #[.pointer (some ⟨vb, 0, none⟩), .int .i64 got] W (StepP vb m (stepS C m.words m.fuel s got) (s.over == 0) W)) := fun W s got hW ho => step_any vb g cap m C s got hC.ok ho W hW
  have HGV : Hid (∀ W, Ch vb w W → GSl W gv G) := fun W hc => GSl.ch (B := 0) hgv hw hvb hc
  have HGD : Hid (∀ i, R64 (gotAt G i)) := got_bd hG
  have HC : Hid (Good C) := hC
  have HR : Hid (∀ x ∈ C, R64 x.k) := hR
  have HI : Hid (PdI vb g cap m C G f t S' w (.int .i64 (f : Int)) w) := ⟨f, s, rfl, Nat.le_refl _, Or.inr rfl, h, ho, hS, Ch.refl _ _⟩
  obtain ⟨ad, cp, gb, go, rfl, hg2, hg3, hg4, hg5⟩ := hgv
  unfold maxLen at hg3
  obtain ⟨N, hN⟩ : ∃ N, G.length = N := ⟨_, rfl⟩
  have HN : Hid (G.length = N) := hN
  rw [hN] at HGV hg2 hg4 ⊢
  clear hg5 h ho hS hC hR hG hN hw hvb
  go_enter Try.func22, Try.ntmps22
  go_wp2
  go_loopw [8] (fun i wr => PdI vb g cap m C G f t S' w i wr) (fun i _ => t - (intOf i).toNat)
  case atStart => exact HI.out
  case round =>
    obtain ⟨k, s, rfl, hk1, hk2, hM, hO, hP, hCh⟩ := hrel
    have HM : Hid (MC wr vb g cap m C s) := hM
    have HO : Hid (Ok C m.fuel s) := hO
    have HCh : Hid (Ch vb w wr) := hCh
    have hlen : s.regs.length = 16 := hM.vm.len
    by_cases hlt : k < t
    · have HP : Hid (playS C m.words m.fuel G (t - (k + 1)) (k + 1) (stepS C m.words m.fuel s (gotAt G k)) = S') := by
        have : t - k = (t - (k + 1)) + 1 := by omega
        rw [this] at hP
        exact hP
      have HSO : Hid (Ok C m.fuel (stepS C m.words m.fuel s (gotAt G k))) := step_ok HC.out HR.out hlen hO (HGD.out k)
      have h13 : decide ((k : Int) < (t : Int)) = true := by simp; omega
      have HGK : Hid (GSl wr (.slice ad N cp) G) := HGV.out wr hCh
      clear hM hO hP hCh hlen
      rcases Nat.eq_zero_or_pos N with h0 | h0
      · subst h0
        have hgot : gotAt G k = 0 := by unfold gotAt; rw [if_pos HN.out]
        rw [hgot] at HP HSO
        clear hgot
        go_wp2_with (go_at_call 12; refine (HST.out _ s 0 HM.out HO.out).mono ?_; rintro e w5 ⟨rfl, h1, h2⟩; have HM5 : Hid (MC w5 vb g cap m C (stepS C m.words m.fuel s 0)) := HM.out.ch h2 h1; have HC5 : Hid (Ch vb w w5) := HCh.out.trans h2; clear h1 h2)
        go_roundw
        case rel => exact ⟨k + 1, _, by go_num, by omega, Or.inl (by omega), HM5.out, HSO.out, HP.out, HC5.out⟩
        case measure => simp [intOf]; omega
      · have had : ad = some ⟨gb, go, none⟩ := hg4 h0
        subst had
        have hmod : k % N < N := Nat.mod_lt _ h0
        have hrem : Int.tmod (k : Int) (N : Int) = ((k % N : Nat) : Int) := by rw [Int.tmod_eq_emod_of_nonneg (by omega)]; rfl
        have hN0 : (N : Int) ≠ 0 := by omega
        have h18 : decide ((0 : Int) < (N : Int)) = true := by simp; omega
        obtain ⟨z, hz, hz2⟩ : ∃ z, gotAt G k = z ∧ wr.cell? ⟨gb, go + k % N, none⟩ = some (.int .i64 z) := by
          obtain ⟨ad', cp', b', o', e1, _, _, e4, e5⟩ := HGK.out
          injection e1 with e6 e7 e8
          have h9 := e4 (by rw [HN.out]; exact h0)
          rw [← e6] at h9
          injection h9 with h9
          injection h9 with h10 h11
          subst h10 h11
          refine ⟨G[k % N]'(by rw [HN.out]; exact hmod), ?_, e5 _ _⟩
          unfold gotAt
          rw [if_neg (by rw [HN.out]; omega), List.getD, show k % G.length = k % N by rw [HN.out], List.getElem?_eq_getElem (by rw [HN.out]; exact hmod)]
          rfl
        rw [hz] at HP HSO
        generalize hq : k % N = q at hmod hrem hz2
        clear hz hg4 HGK
        go_wp2_with (go_at_call 12; refine (HST.out _ s z HM.out HO.out).mono ?_; rintro e w5 ⟨rfl, h1, h2⟩; have HM5 : Hid (MC w5 vb g cap m C (stepS C m.words m.fuel s z)) := HM.out.ch h2 h1; have HC5 : Hid (Ch vb w w5) := HCh.out.trans h2; clear h1 h2)
        go_roundw
        case rel => exact ⟨k + 1, _, by go_num, by omega, Or.inl (by omega), HM5.out, HSO.out, HP.out, HC5.out⟩
        case measure => simp [intOf]; omega
    · have h13 : decide ((k : Int) < (t : Int)) = false := by simp; omega
      have HP : Hid (s = S') := by
        have : t - k = 0 := by omega
        rw [this] at hP
        exact hP
      clear hM hO hP hCh hlen
      go_wp2
      go_end0
      exact ⟨rfl, by rw [← HP.out]; exact HM.out.vm, HCh.out⟩
end Go.Proofs.Ytkcncngcmhldpaa
