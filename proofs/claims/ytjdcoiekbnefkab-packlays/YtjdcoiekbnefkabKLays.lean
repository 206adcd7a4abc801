/- PackLays: things laid down one behind the other are the document's bytes; it has no conditions. -/
import Derived.Test.YtjdcoiekbnefkabRows
import Derived.Test.YtjdcoiekbnefkabKWant
import Derived.WalkKit
import Derived.ProofKit
import Derived.OpenShut
import Derived.ShutString
import Derived.ChangeOld
import Derived.Below
import Derived.Carry
import Derived.BigQuiet
import Derived.Deep.QuietTactic
namespace Go.Proofs.Ytjdcoiekbnefkab
open Go.RowKit
set_option linter.unusedVariables false
set_option maxRecDepth 100000 in
set_option maxHeartbeats 1000000 in
theorem small_same (v : Value) (l : List It) (w : World) (h : Its w v l) :
    Calls Try.prog 17 #[v] w fun e w' => e = .returned (.bool (smallB l)) ∧ w' = w := by
  have HI : Hid (Its w v l) := h
  obtain ⟨ad, cap, b, o, rfl, h2, h3, h4, h5⟩ := h
  have H5 : Hid (∀ i (h : i < l.length), IAt w l[i] b (o + 6 * i)) := h5
  have H4 : Hid (0 < l.length → ad = some ⟨b, o, none⟩) := h4
  obtain ⟨sb, hsb⟩ : ∃ sb, smallB l = sb := ⟨_, rfl⟩
  have HSB : Hid (smallB l = sb) := hsb
  rw [hsb]
  obtain ⟨n, hn⟩ : ∃ n, l.length = n := ⟨_, rfl⟩
  have HN : Hid (l.length = n) := hn
  rw [hn] at h2 ⊢
  unfold maxLen at h3
  clear h4 h5 hsb hn
  by_cases h64 : n ≤ 64
  · go_enter Try.func17, Try.ntmps17
    go_wp2
    go_loopw [3] (fun i wr => ∃ j : Nat, j ≤ n ∧ i = .int .i64 (j : Int) ∧ Hid (wr = w) ∧ Hid ((l.drop j).all okIt = l.all okIt)) (fun i _ => n - (intOf i).toNat)
    case atStart => exact ⟨0, Nat.zero_le _, rfl, rfl, by show _ = _; rw [List.drop_zero]⟩
    case round =>
      obtain ⟨j, hj, rfl, HB, HA⟩ := hrel
      by_cases hlt : j < n
      · have hjl : j < l.length := by have := HN.out; omega
        obtain ⟨x, hx⟩ : ∃ x, l[j] = x := ⟨_, rfl⟩
        have hat := HB.out.symm ▸ H5.out j hjl
        rw [hx] at hat
        have had := H4.out (by have := HN.out; omega)
        subst had
        obtain ⟨v5, c5, hv5⟩ := hat.c5
        have c4 := hat.c4
        rw [Nat.mul_comm 6 j] at c4 c5
        obtain ⟨a5, p5, rfl, hl5, hm5, _, _⟩ := hv5
        have hs5 := hat.hs
        have HDA : Hid ((l.drop j).all okIt = (okIt x && (l.drop (j + 1)).all okIt)) := by show _ = _; rw [drop_all l j hjl, hx]
        have HOK : Hid (okIt x = (decide (x.s.size ≤ 1024) && decide (x.l.length ≤ 256))) := rfl
        obtain ⟨sz, hsz⟩ : ∃ sz, x.s.size = sz := ⟨_, rfl⟩
        obtain ⟨ll, hll⟩ : ∃ ll, x.l.length = ll := ⟨_, rfl⟩
        rw [hsz, hll] at HOK
        rw [hll] at c5 hl5
        have HSZ : Hid (x.s.size = sz) := hsz
        have hs6 : x.s.size ≤ 9223372036854775807 := by unfold maxLen at hs5; omega
        unfold maxLen at hm5 hs5
        have hll9 : ll ≤ 9223372036854775807 := by omega
        clear hx hat hll hsz
        by_cases q1 : 1024 < x.s.size
        · have HF : Hid (sb = false) := by
            show _ = _
            rw [← HSB.out]
            unfold smallB
            rw [← HA.out, HDA.out, HOK.out]
            have := HSZ.out
            simp [show ¬ sz ≤ 1024 by omega]
          go_wp2
          go_ret
          exact ⟨by rw [HF.out]; rfl, HB.out⟩
        · by_cases q2 : 256 < ll
          · have HF : Hid (sb = false) := by
              show _ = _
              rw [← HSB.out]
              unfold smallB
              rw [← HA.out, HDA.out, HOK.out]
              simp [show ¬ ll ≤ 256 by omega]
            go_wp2
            go_ret
            exact ⟨by rw [HF.out]; rfl, HB.out⟩
          · have HF : Hid ((l.drop (j + 1)).all okIt = l.all okIt) := by
              show _ = _
              rw [← HA.out, HDA.out, HOK.out]
              have := HSZ.out
              simp [show sz ≤ 1024 by omega, show ll ≤ 256 by omega]
            go_wp2
            go_roundw
            case rel => exact ⟨j + 1, by omega, by go_num, HB, HF⟩
            case measure => simp [intOf]; omega
      · have HF : Hid (sb = true) := by
          show _ = _
          rw [← HSB.out]
          unfold smallB
          rw [← HA.out, List.drop_of_length_le (by have := HN.out; omega), HN.out]
          simp [h64]
        go_wp2
        go_ret
        exact ⟨by rw [HF.out]; rfl, HB.out⟩
  · have HF : Hid (sb = false) := by
      show _ = _
      rw [← HSB.out]
      unfold smallB
      rw [HN.out]
      simp [h64]
    go_enter Try.func17, Try.ntmps17
    go_wp2
    go_ret
    exact ⟨by rw [HF.out]; rfl, rfl⟩

theorem LaidPost.form {w : World} {L : List UInt8} {e : Ending} {w' : World} (h : LaidPost w L e w') : ∃ a n c, e = .returned (.slice a n c) ∧ Rd w' (.slice a n c) L ∧ Below w.heap.size w w' := by
  obtain ⟨v, rfl, h1, h2⟩ := h
  rcases h1 with ⟨rfl, h⟩ | ⟨b, off, cap, rfl, h⟩
  · exact ⟨_, _, _, rfl, Or.inl ⟨rfl, h⟩, h2⟩
  · exact ⟨_, _, _, rfl, Or.inr ⟨b, off, cap, rfl, h⟩, h2⟩

set_option maxRecDepth 100000 in
set_option maxHeartbeats 4000000 in
theorem lays_walk (l : List It) (a0 : Option Addr) (c0 : Nat) (w : World) (h0 : Its w (.slice a0 l.length c0) l) :
    Calls Try.prog 7 #[.slice a0 l.length c0] w fun e w' => e = .returned (.bool true) ∧ Below w.heap.size w w' := by
  have HI : Hid (Its w (.slice a0 l.length c0) l) := h0
  have HId : Hid (Its w.drew (.slice a0 l.length c0) l) := h0.below (Below.refl _ _).drew
  obtain ⟨sb, hsb⟩ : ∃ sb, smallB l = sb := ⟨_, rfl⟩
  have HSB : Hid (smallB l = sb) := hsb
  have HC : Hid (∀ w', Its w' (.slice a0 l.length c0) l → Calls Try.prog 17 #[.slice a0 l.length c0] w' fun e w'' => e = .returned (.bool sb) ∧ Below w'.heap.size w' w'') := by
    intro w' h'
    rw [← hsb]
    exact small_any _ l w' h'
  have HBd : Hid (Below w.heap.size w w.drew) := (Below.refl _ _).drew
  obtain ⟨n, hn⟩ : ∃ n, l.length = n := ⟨_, rfl⟩
  rw [hn] at HI HId HC ⊢
  have HN : Hid (l.length = n) := hn
  clear h0 hsb hn
  have HCS : Hid (∀ w', Its w' (.slice a0 n c0) l → Calls Try.prog 17 #[.slice a0 n c0] w' fun e w'' => e = .returned (.bool sb) ∧ w'' = w') := by
    intro w' h'
    have := small_same _ l w' h'
    rw [HSB.out] at this
    exact this
  rcases sb with _ | _
  · go_enter Try.func7, Try.ntmps7
    go_wp2_with fail
    go_quiet ((go_at_call 17; refine Calls.quiet_of_same (HCS.out _ ?_); exact HI.out.below ⟨rfl, rfl, rfl, Nat.le_refl _, fun _ _ => rfl⟩))
    go_wp2
    go_ret
    exact ⟨rfl, ⟨rfl, rfl, rfl, Nat.le_refl _, fun _ _ => rfl⟩⟩
  · have HL : Hid (∀ w', Its w' (.slice a0 n c0) l → Calls Try.prog 18 #[.slice a0 n c0] w' (LaidPost w' (laidB l))) := by
      intro w' h'
      have := laid_any l a0 c0 w' (by rw [HN.out]; exact h') HSB.out
      rw [HN.out] at this
      exact this
    have HW : Hid (∀ w', Its w' (.slice a0 n c0) l → Calls Try.prog 19 #[.slice a0 n c0] w' (LaidPost w' (laidB l))) := by
      intro w' h'
      have := want_any l a0 c0 w' (by rw [HN.out]; exact h') HSB.out
      rw [HN.out] at this
      exact this
    go_enter Try.func7, Try.ntmps7
    go_wp2_with fail
    go_region_with (first | (go_at_call 17; refine (HC.out _ HId.out).mono ?_; rintro e w1 ⟨rfl, q1⟩; have B1 := HBd.out.trans (q1.mono HBd.out.size); have I1 := HI.out.below B1; clear q1) | (go_at_call 18; refine (HL.out _ I1).mono ?_; intro e w2 hp; obtain ⟨a2, n2, c2, rfl, r2, q2⟩ := hp.form; have B2 := B1.trans (q2.mono B1.size); have I2 := HI.out.below B2; have cv2 := r2.str; clear q2 hp) | (go_at_call 19; refine (HW.out _ I2).mono ?_; intro e w3 hp; obtain ⟨a3, n3, c3, rfl, r3, q3⟩ := hp.form; have B3 := B2.trans (q3.mono B2.size); have cv3 := r3.str; have cv23 := (r2.below q3).str; clear q3 hp) | (go_at_call 20; refine (alive_any _).mono ?_; rintro e w4 ⟨rfl, q4⟩; have B4 := B3.trans (q4.mono B3.size); clear q4))
    all_goals
      have BF : Hid (Below w.heap.size w w4) := B4
      clear B1 B2 B3 B4 I1 I2
      go_wp2
      go_ret
      exact ⟨rfl, BF.out⟩
end Go.Proofs.Ytjdcoiekbnefkab
namespace Go.Proofs.Ytjdcoiekbnefkab.packLays
open Go.ChangeShapes Go.WideShapes Go.ChangeAt Go.RowKit
open Go.ChangeMaps (open_string shut_string)
set_option linter.unusedVariables false

theorem own : ownKnob Try.prog.godebug = none := by kernel_rfl
theorem laidOut : laidOutB Try.prog = true := by kernel_rfl

set_option maxRecDepth 100000 in
theorem lifted (os : Os) (started : os.Started) (H : Type) (enc : TypeId × Value → H) :
    ReturnsInHanded {} Try.checked os 7 .any (Rows.packLaysSpec.pre6 enc Try.prog Try.f7 Rows.packLaysRow.domain false) (Rows.packLaysSpec.post enc Try.prog Try.f7 false true false false) := by
  refine returnsInHanded_of_change (C := Try.checked) own started (by kernel_rfl) Try.func7
    (ChangeSpec.witness6 (enc := enc) (C := Try.checked) false ⟨#[], #[.slice none 0 0], []⟩ 8 (by kernel_rfl) (by kernel_rfl) (by kernel_rfl) (by kernel_rfl)) ?_
  intro W base args ds gs before hval0 hW hcnd _
  have hval : ∀ (j : Nat) t v, Try.f7.params[j]? = some t → args[j]? = some v → Value.okWide Try.prog W .any base t v := hval0
  have hW' := hW
  obtain ⟨p, q, hA0, hV, rfl, hfz, hnd⟩ := hW
  have hA : DataW.TrodAll enc Try.prog W 0 (fun _ => true) true Try.f7.params.toList args.toList ds p := hA0
  rw [Try.params7] at hA hval
  obtain ⟨v0, vs0, d0, ds0, p0, q0, hargs, rfl, rfl, h0, r0⟩ := trodAll_cons hA
  obtain ⟨rfl, rfl, rfl⟩ := trodAll_nil r0
  obtain rfl : args = #[v0] := by cases args; simp_all
  obtain ⟨rfl, rfl⟩ := trodVars_none hV
  obtain ⟨a0, len0, cap0, rfl⟩ := okWide_slice Try.underlying35 (hval 0 35 v0 rfl rfl)
  have k0 := h0
  have lt0 : ∀ x ∈ p0, x.block < W.heap.size := by obtain ⟨m, hm⟩ := k0; exact DataW.trod_lt m _ _ _ hm
  obtain ⟨l, hE⟩ : ∃ l, Its W (.slice a0 len0 cap0) l := by
    obtain ⟨fuel, hf⟩ := h0
    exact open_items hf
  obtain rfl : l.length = len0 := by obtain ⟨_, _, _, _, e, _⟩ := id hE; injection e with _ e _; exact e.symm
  clear hA0 hval0
  refine (lays_walk l a0 cap0 W hE).mono fun e W' ⟨he, bel⟩ => ?_
  subst he
  exact ⟨_, rfl, _, _, _, [], _, [], hW', trodAll_mk1 (shut_bool Try.underlying4 _), (trodAll_cons_mk (Below.trod laidOut (by kernel_rfl) (of_decide_eq_true (by kernel_rfl)) k0 bel lt0) trodAll_mk0), rfl, bel.frame _, fun h => by cases h⟩

theorem over : Rows.packLaysRow.holds Try.pinned (OpenSpec.ofChange Rows.packLaysSpec) :=
  OpenClaim.holds_of_wide 7 Try.f7 rfl rfl rfl rfl rfl rfl rfl ⟨rfl, rfl, rfl, rfl, rfl⟩ rfl rfl rfl rfl rfl (by kernel_rfl) Try.func7 (by kernel_rfl)
    (of_decide_eq_true (by kernel_rfl)) (by unfold Func.isWrapper; first | (rw [if_pos (by decide +kernel)]; kernel_rfl) | (rw [if_neg (by decide +kernel)]; exact ⟨rfl, rfl⟩))
    (fun os started H enc _ => lifted os started H enc)

/-- ████ THE STATEMENT ████ -/
theorem proved : Rows.PackLaysSaid := over
#print axioms proved
end Go.Proofs.Ytjdcoiekbnefkab.packLays
