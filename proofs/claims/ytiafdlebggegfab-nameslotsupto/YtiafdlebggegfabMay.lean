/- The document's may and Right answer something, of any statements. -/
import Derived.Test.YtiafdlebggegfabMay1
import Derived.Test.YtiafdlebggegfabMay2
import Derived.Test.YtiafdlebggegfabMay3
import Derived.Test.YtiafdlebggegfabMay4
import Derived.Test.YtiafdlebggegfabMay5
import Derived.Test.YtiafdlebggegfabMay6
import Derived.Test.YtiafdlebggegfabMay7
import Derived.Test.YtiafdlebggegfabMay8
import Derived.Test.YtiafdlebggegfabMay9
namespace Go.Proofs.Ytiafdlebggegfab
open Go.RowKit Go.Maps Go.WideMaps
set_option linter.unusedVariables false

set_option maxRecDepth 100000 in
set_option maxHeartbeats 2000000 in
theorem may_0 (k : Int) (s : ByteArray) (c : Int) (aa ab ae : Option Addr) (na nb ne ca cb ce : Nat) (bl : Int) (w : World) (k1 : ¬ k = 1) (k2 : ¬ k = 2) (k3 : ¬ k = 3) (k4 : ¬ k = 4) (k5 : ¬ k = 5) (k6 : ¬ k = 6) (k7 : ¬ k = 7) (k8 : ¬ k = 8) (k9 : ¬ k = 9) : SaysB 15 #[sV k s c (.slice aa na ca) (.slice ab nb cb) (.slice ae ne ce), .int .i64 bl] w := by
  unfold sV SaysB
  have HB2 : Hid (∀ o o', Below w.heap.size w ((w.alloc o).alloc o')) := fun o o' => ((Below.refl _ _).alloc (Nat.le_refl _) o).alloc (by simp) o'
  go_enter Try.func15, Try.ntmps15
  go_wp2
  go_ret
  exact ⟨_, rfl, HB2.out _ _⟩

theorem may_any : ∀ M, M ≤ 1000000001 → MayC M := by
  intro M
  induction M with
  | zero => intro _ a b e h; omega
  | succ M ih =>
    intro hM a b e hN k s c aa ab ae ca cb ce bl w hs h0 h1 hA hB hE
    have HI : Hid (MayC M) := ih (by omega)
    by_cases k1 : k = 1
    · subst k1; exact may_1 M HI (by omega) a b e hN s c aa ab ae ca cb ce bl w hs h0 h1 hA hB hE
    by_cases k2 : k = 2
    · subst k2; exact may_2 M HI (by omega) a b e hN s c aa ab ae ca cb ce bl w hs h0 h1 hA hB hE
    by_cases k3 : k = 3
    · subst k3; exact may_3 M HI (by omega) a b e hN s c aa ab ae ca cb ce bl w hs h0 h1 hA hB hE
    by_cases k4 : k = 4
    · subst k4; exact may_4 M HI (by omega) a b e hN s c aa ab ae ca cb ce bl w hs h0 h1 hA hB hE
    by_cases k5 : k = 5
    · subst k5; exact may_5 M HI (by omega) a b e hN s c aa ab ae ca cb ce bl w hs h0 h1 hA hB hE
    by_cases k6 : k = 6
    · subst k6; exact may_6 M HI (by omega) a b e hN s c aa ab ae ca cb ce bl w hs h0 h1 hA hB hE
    by_cases k7 : k = 7
    · subst k7; exact may_7 M HI (by omega) a b e hN s c aa ab ae ca cb ce bl w hs h0 h1 hA hB hE
    by_cases k8 : k = 8
    · subst k8; exact may_8 M HI (by omega) a b e hN s c aa ab ae ca cb ce bl w hs h0 h1 hA hB hE
    by_cases k9 : k = 9
    · subst k9; exact may_9 M HI (by omega) a b e hN s c aa ab ae ca cb ce bl w hs h0 h1 hA hB hE
    exact may_0 k s c aa ab ae _ _ _ ca cb ce bl w k1 k2 k3 k4 k5 k6 k7 k8 k9

set_option maxRecDepth 100000 in
set_option maxHeartbeats 2000000 in
theorem right_any (l : SL) (va : Value) (w : World) (hE : SSl w va l) (h9 : l.cnt ≤ 1000000000) : SaysB 8 #[va] w := by
  have HE : Hid (SSl w va l) := hE
  obtain ⟨ad, cap, b, o, rfl, h1, h2, h3, h4⟩ := hE
  have HE0 : Hid (SAt w l b o) := h4
  have HND : Hid (NodesC l) := nodes_any _ l (Nat.le_refl _) h9
  have HM : Hid (MayC 1000000001) := may_any _ (Nat.le_refl _)
  obtain ⟨m, hm⟩ : ∃ m, l.len = m := ⟨_, rfl⟩
  have HLM : Hid (l.len = m) := hm
  have HE' : Hid (SSl w (.slice ad m cap) l) := hm ▸ HE.out
  rw [hm] at h1 h3 ⊢
  have hm9 : m ≤ 1000000000 := by have := l.len_le; omega
  obtain ⟨C, hC⟩ : ∃ C, l.cnt = C := ⟨_, rfl⟩
  have HC0 : Hid (l.cnt = C) := hC
  rw [hC] at h9
  clear h4 hm HE hC
  unfold maxLen at h2
  unfold SaysB
  go_enter Try.func8, Try.ntmps8
  go_wp2_with fail
  refine (HND.out _ w HE'.out).mono ?_
  rw [HC0.out]
  rintro e w1 ⟨rfl, hb1⟩
  have HB1 : Hid (Below w.heap.size w w1) := hb1
  clear hb1
  by_cases h600 : (600 : Int) < (C : Int)
  · go_wp2
    go_ret
    exact ⟨_, rfl, HB1.out⟩
  · go_wp2
    go_loopw [3] (fun i wr => ∃ (j : Nat) (r : SL), j ≤ m ∧ i = .int .i64 (j : Int) ∧ Hid (j + r.len = m) ∧ Hid (SAt w r b (o + 6 * j)) ∧ Hid (r.cnt ≤ 1000000000) ∧ Hid (Below w.heap.size w wr)) (fun i _ => m - (intOf i).toNat)
    case atStart => exact ⟨0, l, Nat.zero_le _, rfl, by show _ = _; rw [Nat.zero_add]; exact HLM.out, HE0, by show _ ≤ _; rw [HC0.out]; omega, HB1⟩
    case round =>
      obtain ⟨j, r, hj, rfl, HJ, HE, HR, HB⟩ := hrel
      by_cases hlt : j < m
      · have e0 := h3 (by omega)
        subst e0
        cases r with
        | nil => have := HJ.out; simp only [SL.len] at this; omega
        | cons kd s' c' a' d' e' r =>
          obtain ⟨ad2, cap2, bd2, bcap2, ed2, ecap2, hrd, hsa, hsd, hse, hss, hrest⟩ := HE.out.read HB.out
          rw [Nat.mul_comm 6 j] at hrd
          obtain ⟨z0, z1, z2, z3, z4, z5, z6⟩ := hrd
          have HRest : Hid (SAt w r b (o + 6 * (j + 1))) := by rw [show o + 6 * (j + 1) = o + 6 * j + 6 by omega]; exact hrest
          have HC' : Hid _ := HM.out a' d' e' (by have := HR.out; simp only [SL.cnt] at this; omega) kd s' c' ad2 bd2 ed2 cap2 bcap2 ecap2 0 wr hss (by omega) (by omega) hsa hsd hse
          have HR2 : Hid (r.cnt ≤ 1000000000) := by have := HR.out; simp only [SL.cnt] at this; show _ ≤ _; omega
          clear hsa hsd hse hrest hss
          go_wp2_with fail
          refine Calls.mono HC'.out ?_
          rintro e1 w3 ⟨q, rfl, hb3⟩
          have HB3 : Hid (Below w.heap.size w w3) := HB.out.trans (hb3.mono HB.out.size)
          clear hb3
          rcases q with _ | _
          · go_wp2
            go_ret
            exact ⟨_, rfl, HB3.out⟩
          · go_wp2
            go_roundw
            case rel => exact ⟨j + 1, r, by omega, by go_num, by have := HJ.out; simp only [SL.len] at this; show _ = _; omega, HRest, HR2, HB3⟩
            case measure => simp [intOf]; omega
      · go_wp2
        go_ret
        exact ⟨_, rfl, HB.out⟩
end Go.Proofs.Ytiafdlebggegfab
