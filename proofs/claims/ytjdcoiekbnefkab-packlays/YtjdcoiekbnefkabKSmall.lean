/- Which things may be asked. -/
import Derived.Test.YtjdcoiekbnefkabKItems
namespace Go.Proofs.Ytjdcoiekbnefkab
open Go.RowKit
set_option linter.unusedVariables false

set_option maxRecDepth 100000 in
theorem drop_all (l : List It) (j : Nat) (h : j < l.length) : (l.drop j).all okIt = (okIt l[j] && (l.drop (j + 1)).all okIt) := by
  rw [List.drop_eq_getElem_cons h, List.all_cons]

set_option maxRecDepth 100000 in
set_option maxHeartbeats 1000000 in
theorem small_any (v : Value) (l : List It) (w : World) (h : Its w v l) :
    Calls Try.prog 17 #[v] w fun e w' => e = .returned (.bool (smallB l)) ∧ Below w.heap.size w w' := by
  have HI : Hid (Its w v l) := h
  obtain ⟨ad, cap, b, o, rfl, h2, h3, h4, h5⟩ := h
  have H5 : Hid (∀ i (h : i < l.length), IAt w l[i] b (o + 6 * i)) := h5
  have H4 : Hid (0 < l.length → ad = some ⟨b, o, none⟩) := h4
  obtain ⟨sb, hsb⟩ : ∃ sb, smallB l = sb := ⟨_, rfl⟩
  have HSB : Hid (smallB l = sb) := hsb
  rw [hsb]
  obtain ⟨n, hn⟩ : ∃ n, l.length = n := ⟨_, rfl⟩
  have HN : Hid (l.length = n) := hn
  rw [hn] at h2 ⊢
  unfold maxLen at h3
  clear h4 h5 hsb hn
  by_cases h64 : n ≤ 64
  · go_enter Try.func17, Try.ntmps17
    go_wp2
    go_loopw [3] (fun i wr => ∃ j : Nat, j ≤ n ∧ i = .int .i64 (j : Int) ∧ Hid (Below w.heap.size w wr) ∧ Hid ((l.drop j).all okIt = l.all okIt)) (fun i _ => n - (intOf i).toNat)
    case atStart => exact ⟨0, Nat.zero_le _, rfl, Below.refl _ _, by show _ = _; rw [List.drop_zero]⟩
    case round =>
      obtain ⟨j, hj, rfl, HB, HA⟩ := hrel
      by_cases hlt : j < n
      · have hjl : j < l.length := by have := HN.out; omega
        obtain ⟨x, hx⟩ : ∃ x, l[j] = x := ⟨_, rfl⟩
        have hat := (H5.out j hjl).below HB.out
        rw [hx] at hat
        have had := H4.out (by have := HN.out; omega)
        subst had
        obtain ⟨v5, c5, hv5⟩ := hat.c5
        have c4 := hat.c4
        rw [Nat.mul_comm 6 j] at c4 c5
        obtain ⟨a5, p5, rfl, hl5, hm5, _, _⟩ := hv5
        have hs5 := hat.hs
        have HDA : Hid ((l.drop j).all okIt = (okIt x && (l.drop (j + 1)).all okIt)) := by show _ = _; rw [drop_all l j hjl, hx]
        have HOK : Hid (okIt x = (decide (x.s.size ≤ 1024) && decide (x.l.length ≤ 256))) := rfl
        obtain ⟨sz, hsz⟩ : ∃ sz, x.s.size = sz := ⟨_, rfl⟩
        obtain ⟨ll, hll⟩ : ∃ ll, x.l.length = ll := ⟨_, rfl⟩
        rw [hsz, hll] at HOK
        rw [hll] at c5 hl5
        have HSZ : Hid (x.s.size = sz) := hsz
        have hs6 : x.s.size ≤ 9223372036854775807 := by unfold maxLen at hs5; omega
        unfold maxLen at hm5 hs5
        have hll9 : ll ≤ 9223372036854775807 := by omega
        clear hx hat hll hsz
        by_cases q1 : 1024 < x.s.size
        · have HF : Hid (sb = false) := by
            show _ = _
            rw [← HSB.out]
            unfold smallB
            rw [← HA.out, HDA.out, HOK.out]
            have := HSZ.out
            simp [show ¬ sz ≤ 1024 by omega]
          go_wp2
          go_ret
          exact ⟨by rw [HF.out]; rfl, HB.out⟩
        · by_cases q2 : 256 < ll
          · have HF : Hid (sb = false) := by
              show _ = _
              rw [← HSB.out]
              unfold smallB
              rw [← HA.out, HDA.out, HOK.out]
              simp [show ¬ ll ≤ 256 by omega]
            go_wp2
            go_ret
            exact ⟨by rw [HF.out]; rfl, HB.out⟩
          · have HF : Hid ((l.drop (j + 1)).all okIt = l.all okIt) := by
              show _ = _
              rw [← HA.out, HDA.out, HOK.out]
              have := HSZ.out
              simp [show sz ≤ 1024 by omega, show ll ≤ 256 by omega]
            go_wp2
            go_roundw
            case rel => exact ⟨j + 1, by omega, by go_num, HB, HF⟩
            case measure => simp [intOf]; omega
      · have HF : Hid (sb = true) := by
          show _ = _
          rw [← HSB.out]
          unfold smallB
          rw [← HA.out, List.drop_of_length_le (by have := HN.out; omega), HN.out]
          simp [h64]
        go_wp2
        go_ret
        exact ⟨by rw [HF.out]; rfl, HB.out⟩
  · have HF : Hid (sb = false) := by
      show _ = _
      rw [← HSB.out]
      unfold smallB
      rw [HN.out]
      simp [h64]
    go_enter Try.func17, Try.ntmps17
    go_wp2
    go_ret
    exact ⟨by rw [HF.out]; rfl, Below.refl _ _⟩

set_option maxRecDepth 100000 in
theorem small_get {l : List It} (h : smallB l = true) : l.length ≤ 64 ∧ ∀ i (hi : i < l.length), l[i].s.size ≤ 1024 ∧ l[i].l.length ≤ 256 := by
  unfold smallB at h
  simp only [Bool.and_eq_true, decide_eq_true_eq, List.all_eq_true] at h
  refine ⟨h.1, fun i hi => ?_⟩
  have := h.2 l[i] (List.getElem_mem hi)
  unfold okIt at this
  simpa using this
end Go.Proofs.Ytjdcoiekbnefkab
