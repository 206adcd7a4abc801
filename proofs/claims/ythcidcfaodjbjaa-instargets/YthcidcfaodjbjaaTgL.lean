/- The law of InsTargets, given what Targets answers. -/
import Derived.Test.YthcidcfaodjbjaaTg
namespace Go.Proofs.Ythcidcfaodjbjaa
open Go.RowKit
set_option linter.unusedVariables false
set_option linter.unusedSimpArgs false

def TgC : Prop := ∀ (l : List In) (z : Int) (v : Value) (w : World), r64 z → ISl w v l → l.length ≤ 1000 → Calls Try.prog 16 #[v, .int .i64 z] w fun e w' => Below w.heap.size w w' ∧ ∃ v', e = .returned v' ∧ IZ w' w.heap.size v' (tgt l z)
theorem isl_len' {w : World} {v : Value} {l : List In} (h : ISl w v l) : ∃ a c, v = .slice a l.length c ∧ l.length ≤ c ∧ c ≤ maxLen := by
  obtain ⟨ad, cap, b, o, rfl, h2, h3, _⟩ := h
  exact ⟨_, _, rfl, h2, h3⟩
theorem IZ.parts {w : World} {base : Nat} {v : Value} {l : List Int} (h : IZ w base v l) : ∃ a c g, v = .slice a l.length c ∧ l.length ≤ c ∧ c ≤ maxLen ∧ (0 < l.length → a = some ⟨g, 0, none⟩ ∧ g < w.heap.size) ∧ ∀ i (h : i < l.length), w.cell? ⟨g, i, none⟩ = some (.int .i64 l[i]) := by
  have h0 := h
  rcases h.2 with ⟨h1, h2⟩ | ⟨g, cap, cur, h1, h2, h3, h4, h5, h6, h7⟩
  · refine ⟨none, 0, 0, by rw [h1, h2], by omega, by unfold maxLen; omega, fun h => by omega, fun i h => by omega⟩
  · refine ⟨_, _, g, h1, h4, h5, fun _ => ⟨rfl, ?_⟩, fun i hi => ?_⟩
    · rcases Nat.lt_or_ge g w.heap.size with h | h
      · exact h
      · rw [Array.getElem?_eq_none h] at h3; cases h3
    · subst h1
      unfold IZ at h0
      have h9 := h0.cellAt i (by simp [zc]; omega)
      rw [h9]
      simp [zc, hi]
theorem tgt_len (l : List In) (z : Int) : (tgt l z).length ≤ l.length := by
  unfold tgt
  split
  · exact tl_len _ _ _
  · simp
set_option maxRecDepth 100000 in
set_option maxHeartbeats 4000000 in
theorem tgWalk (HT : TgC) (l : List In) (z : Int) (hc : r64 z) (v : Value) (w : World) (hv : ISl w v l) : Calls Try.prog 5 #[v, .int .i64 z] w fun e w' => e = .returned (.bool true) ∧ Below w.heap.size w w' := by
  have HV : Hid (ISl w v l) := hv
  have HTH : Hid TgC := HT
  obtain ⟨a, c, rfl, h1, h2⟩ := isl_len' hv
  unfold maxLen at h2
  clear hv HT
  by_cases hlen : 1000 < l.length
  · go_enter Try.func5, Try.ntmps5
    go_wp2
    go_ret
    exact ⟨rfl, Below.refl _ _⟩
  · have C1 : Hid (∀ w', Below w.heap.size w w' → Calls Try.prog 16 #[.slice a l.length c, .int .i64 z] w' fun e w'' => Below w'.heap.size w' w'' ∧ ∃ v', e = .returned v' ∧ IZ w'' w'.heap.size v' (tgt l z)) := fun w' hb => HTH.out l z _ w' hc (HV.out.below hb) (by omega)
    have C2 : Hid (∀ w', Below w.heap.size w w' → Calls Try.prog 17 #[.slice a l.length c, .int .i64 z] w' fun e w'' => Below w'.heap.size w' w'' ∧ ∃ v', e = .returned v' ∧ IZ w'' w'.heap.size v' (tgt l z)) := fun w' hb => refTargets_any l z _ w' (HV.out.below hb) (by omega)
    obtain ⟨T, hT⟩ : ∃ T, tgt l z = T := ⟨_, rfl⟩
    have hTl := tgt_len l z
    rw [hT] at C1 C2 hTl
    clear hT HTH
    go_enter Try.func5, Try.ntmps5
    go_wp2_with fail
    refine (C1.out _ (Below.refl _ _)).mono ?_
    rintro e w1 ⟨b1, va, rfl, ha⟩
    have B1 : Hid (Below w.heap.size w w1) := b1
    clear b1
    obtain ⟨a1, c1, g1, rfl, p1, p2, p3, p4⟩ := ha.parts
    have HA1 : Hid (IZ w1 w.heap.size (.slice a1 T.length c1) T) := ha
    clear ha p3 p4
    go_wp2_with fail
    refine (C2.out _ B1.out).mono ?_
    rintro e w2 ⟨b2, vb, rfl, hb⟩
    have B2 : Hid (Below w.heap.size w w2) := B1.out.trans (b2.mono B1.out.size)
    obtain ⟨a2, c2, g2, rfl, q1, q2, q3, q4⟩ := hb.parts
    have HA2 := HA1.out.below b2
    obtain ⟨a1', c1', g1', e1, _, _, p3, p4⟩ := HA2.parts
    injection e1 with e1 e2 e3
    subst e1 e3
    have P3 : Hid (0 < T.length → a1 = some ⟨g1', 0, none⟩ ∧ g1' < w2.heap.size) := p3
    have P4 : Hid (∀ i (h : i < T.length), w2.cell? ⟨g1', i, none⟩ = some (.int .i64 T[i])) := p4
    have Q3 : Hid (0 < T.length → a2 = some ⟨g2, 0, none⟩ ∧ g2 < w2.heap.size) := q3
    have Q4 : Hid (∀ i (h : i < T.length), w2.cell? ⟨g2, i, none⟩ = some (.int .i64 T[i])) := q4
    unfold maxLen at p2 q2
    obtain ⟨m, hm⟩ : ∃ m, T.length = m := ⟨_, rfl⟩
    have HM : Hid (T.length = m) := hm
    rw [hm] at p1 q1 hTl
    rw [hm]
    clear b2 B1 hb HA1 HA2 p3 p4 q3 q4 hm e2
    go_wp2
    go_loopw [7] (fun i wr => ∃ k : Nat, k ≤ m ∧ i = .int .i64 k ∧ Hid (Below w2.heap.size w2 wr)) (fun i _ => m - (intOf i).toNat)
    case atStart => exact ⟨0, Nat.zero_le _, rfl, Below.refl _ _⟩
    case round =>
      obtain ⟨k, hk, rfl, HB⟩ := hrel
      by_cases hlt : k < m
      · have hkl : k < T.length := by rw [HM.out]; exact hlt
        obtain ⟨e1, l1⟩ := P3.out (by omega)
        obtain ⟨e2, l2⟩ := Q3.out (by omega)
        subst e1 e2
        obtain ⟨t, ht⟩ : ∃ t, T[k] = t := ⟨_, rfl⟩
        have HX : ∀ w', Below w2.heap.size w2 w' → w'.cell? ⟨g1', k, none⟩ = some (.int .i64 t) := fun w' hb => by rw [← ht, ← P4.out k hkl]; exact World.cell?_of_block (w := w2) (a := ⟨g1', k, none⟩) (hb.block g1' l1)
        have HY : ∀ w', Below w2.heap.size w2 w' → w'.cell? ⟨g2, k, none⟩ = some (.int .i64 t) := fun w' hb => by rw [← ht, ← Q4.out k hkl]; exact World.cell?_of_block (w := w2) (a := ⟨g2, k, none⟩) (hb.block g2 l2)
        have x1 := HX wr HB.out
        have x2 := HX wr.drew HB.out.drew
        have y1 := HY wr HB.out
        have y2 := HY wr.drew HB.out.drew
        have HB2 : Hid (Below w2.heap.size w2 wr.drew) := HB.out.drew
        clear ht HX HY
        go_wp2_with fail
        go_region_held3 (fun w' => w'.cell? ⟨g1', k, none⟩ = some (.int .i64 t) ∧ w'.cell? ⟨g2, k, none⟩ = some (.int .i64 t)) (go_keep) (fail)
        go_wp2
        go_roundw
        case rel => exact ⟨k + 1, hlt, by go_num, HB2⟩
        case measure => simp [intOf]; omega
      · go_wp2_with fail
        refine (alive_any _).mono ?_
        rintro e w3 ⟨rfl, b3⟩
        have B3 : Hid (Below w.heap.size w w3) := B2.out.trans ((HB.out.trans (b3.mono HB.out.size)).mono B2.out.size)
        go_wp2
        go_ret
        exact ⟨rfl, B3.out⟩
end Go.Proofs.Ythcidcfaodjbjaa
