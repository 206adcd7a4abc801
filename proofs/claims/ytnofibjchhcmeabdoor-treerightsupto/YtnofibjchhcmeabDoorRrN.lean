/- The document's may and Right, exact. -/
import Derived.Test.YtnofibjchhcmeabDoorRrM1
import Derived.Test.YtnofibjchhcmeabDoorRrM2
import Derived.Test.YtnofibjchhcmeabDoorRrM3
import Derived.Test.YtnofibjchhcmeabDoorRrM4
import Derived.Test.YtnofibjchhcmeabDoorRrM5
import Derived.Test.YtnofibjchhcmeabDoorRrM6
import Derived.Test.YtnofibjchhcmeabDoorRrM7
import Derived.Test.YtnofibjchhcmeabDoorRrM8
import Derived.Test.YtnofibjchhcmeabDoorRrM9
namespace Go.Proofs.YtnofibjchhcmeabDoor
open Go.RowKit Go.Maps
set_option linter.unusedVariables false

set_option maxRecDepth 100000 in
set_option maxHeartbeats 2000000 in
theorem may_0 (k : Int) (s : ByteArray) (c : Int) (aa ab ae : Option Addr) (na nb ne ca cb ce : Nat) (bl : Nat) (w : World) (hk : k < 1 ∨ 9 < k) : Calls Tryd.prog 23 #[.agg #[.int .i64 k, .string s, .int .i64 c, .slice aa na ca, .slice ab nb cb, .slice ae ne ce], .int .i64 (bl : Int)] w (QB w false) := by
  have HB2 : Hid (∀ o o', Below w.heap.size w ((w.alloc o).alloc o')) := fun o o' => ((Below.refl _ _).alloc (Nat.le_refl _) o).alloc (by simp) o'
  have k1 : (k == 1) = false := by simp; omega
  have k2 : (k == 2) = false := by simp; omega
  have k3 : (k == 3) = false := by simp; omega
  have k4 : (k == 4) = false := by simp; omega
  have k5 : (k == 5) = false := by simp; omega
  have k6 : (k == 6) = false := by simp; omega
  have k7 : (k == 7) = false := by simp; omega
  have k8 : (k == 8) = false := by simp; omega
  have k9 : (k == 9) = false := by simp; omega
  clear hk
  unfold QB
  go_enter Tryd.func23, Tryd.ntmps23
  go_wp2
  go_ret
  exact ⟨rfl, HB2.out _ _⟩
theorem may_any : ∀ M, M ≤ 1000000001 → MayC M := by
  intro M
  induction M with
  | zero => intro _ a b e h; omega
  | succ M ih =>
    intro hM a b e hN k s c aa ab ae ca cb ce bl w hs hza hzb hze h1 hA hB hE
    have HI : Hid (MayC M) := ih (by omega)
    by_cases hk : k < 1 ∨ 9 < k
    · have e0 : mayO k s c a b e bl = false := by rw [mayO_is, sk_no k s c _ _ _ hk]; simp
      rw [e0]; exact may_0 k s c aa ab ae _ _ _ ca cb ce bl w hk
    have hk' : k = 1 ∨ k = 2 ∨ k = 3 ∨ k = 4 ∨ k = 5 ∨ k = 6 ∨ k = 7 ∨ k = 8 ∨ k = 9 := by omega
    rcases hk' with rfl | rfl | rfl | rfl | rfl | rfl | rfl | rfl | rfl
    · exact may_1 M HI (by omega) a b e hN s c aa ab ae ca cb ce bl w hs hza hzb hze h1 hA hB hE
    · exact may_2 M HI (by omega) a b e hN s c aa ab ae ca cb ce bl w hs hza hzb hze h1 hA hB hE
    · exact may_3 M HI (by omega) a b e hN s c aa ab ae ca cb ce bl w hs hza hzb hze h1 hA hB hE
    · exact may_4 M HI (by omega) a b e hN s c aa ab ae ca cb ce bl w hs hza hzb hze h1 hA hB hE
    · exact may_5 M HI (by omega) a b e hN s c aa ab ae ca cb ce bl w hs hza hzb hze h1 hA hB hE
    · exact may_6 M HI (by omega) a b e hN s c aa ab ae ca cb ce bl w hs hza hzb hze h1 hA hB hE
    · exact may_7 M HI (by omega) a b e hN s c aa ab ae ca cb ce bl w hs hza hzb hze h1 hA hB hE
    · exact may_8 M HI (by omega) a b e hN s c aa ab ae ca cb ce bl w hs hza hzb hze h1 hA hB hE
    · exact may_9 M HI (by omega) a b e hN s c aa ab ae ca cb ce bl w hs hza hzb hze h1 hA hB hE

set_option maxRecDepth 100000 in
set_option maxHeartbeats 2000000 in
theorem refRight_any (l : SL) (va : Value) (w : World) (hz : SSz l) (hE : SSx w va l) (h9 : scnt l ≤ 1000000000) : Calls Tryd.prog 14 #[va] w (QB w (decide (scnt l ≤ 600) && mayS l 0)) := by
  have HE : Hid (SSx w va l) := hE
  obtain ⟨ad, cap, b, o, rfl, h1, h2, h3, h4⟩ := hE
  have HE0 : Hid (SAx w l b o) := h4
  have HM : Hid (MayC 1000000001) := may_any _ (Nat.le_refl _)
  have HZ : Hid (SSz l) := hz
  have HND : Hid (∀ W, Below w.heap.size w W → Calls Tryd.prog 16 #[.slice ad (slen l) cap] W fun e w' => e = .returned (.int .i64 ((scnt l : Nat) : Int)) ∧ Below W.heap.size W w') := fun W hW => rnodes_any _ l (Nat.le_refl _) h9 _ W (SSlP.below HE.out hW)
  obtain ⟨m, hm⟩ : ∃ m, slen l = m := ⟨_, rfl⟩
  have HLM : Hid (slen l = m) := hm
  obtain ⟨q, hq⟩ : ∃ q, scnt l = q := ⟨_, rfl⟩
  obtain ⟨RR, hRR⟩ : ∃ R, (decide (scnt l ≤ 600) && mayS l 0) = R := ⟨_, rfl⟩
  have HRR0 : Hid (RR = (decide (scnt l ≤ 600) && mayS l 0)) := hRR.symm
  have HQ : Hid (scnt l = q) := hq
  have hmq : m ≤ q := by rw [← hm, ← hq]; exact slen_le l
  rw [hRR]
  rw [hm] at h1 h3 HND ⊢
  rw [hq] at h9 HND
  clear h4 hm hz hRR hq
  unfold maxLen at h2
  unfold QB
  go_enter Tryd.func14, Tryd.ntmps14
  go_wp2_with fail
  refine (HND.out _ (Below.refl _ _)).mono ?_
  rintro e w1 ⟨rfl, hb1⟩
  have HW1 : Hid (Below w.heap.size w w1) := hb1
  clear hb1
  by_cases h600 : 600 < q
  · have HRF : Hid (RR = false) := by show _ = _; rw [HRR0.out, decide_eq_false (by rw [HQ.out]; omega)]; rfl
    go_wp2
    go_ret
    exact ⟨congrArg (fun b => Ending.returned (Value.bool b)) HRF.out.symm, HW1.out⟩
  have HRR : Hid (RR = mayS l 0) := by show _ = _; rw [HRR0.out, decide_eq_true (by rw [HQ.out]; omega)]; rfl
  go_wp2
  go_loopw [3] (fun i wr => ∃ (j : Nat) (r : SL), j ≤ m ∧ i = .int .i64 (j : Int) ∧ Hid (j + slen r = m) ∧ Hid (SAx w r b (o + 6 * j)) ∧ Hid (RR = mayS r 0 ∧ SSz r) ∧ Hid (scnt r ≤ 600) ∧ Hid (Below w.heap.size w wr)) (fun i _ => m - (intOf i).toNat)
  case atStart => exact ⟨0, l, Nat.zero_le _, rfl, by show _ = _; rw [Nat.zero_add]; exact HLM.out, HE0, ⟨HRR.out, HZ.out⟩, by show _ ≤ _; rw [HQ.out]; omega, HW1⟩
  case round =>
    obtain ⟨j, r, hj, rfl, HJ, HEj, HF, HR, HB⟩ := hrel
    by_cases hlt : j < m
    · have e0 := (h3 (by omega)).1
      subst e0
      cases r with
      | leaf => have := HJ.out; simp only [slen] at this; omega
      | inner i0 d0 u0 x r =>
        obtain ⟨kd, s', c', a'⟩ := d0
        obtain ⟨ad2, cap2, bd2, bcap2, ed2, ecap2, hrd, hsa, hsd, hse, hrest⟩ := SAx.read HEj.out HB.out
        rw [Nat.mul_comm 6 j] at hrd
        obtain ⟨z0, z1, z2, z3, z4, z5, z6⟩ := hrd
        have HRest : Hid (SAx w r b (o + 6 * (j + 1))) := by rw [show o + 6 * (j + 1) = o + 6 * j + 6 by omega]; exact hrest
        obtain ⟨hz1, hz2, hz3, hz4, hz5⟩ := SSz_inner HF.out.2
        have HC' : Hid (Calls Tryd.prog 23 #[.agg #[.int .i64 kd, .string s', .int .i64 c', .slice ad2 (elen a') cap2, .slice bd2 (slen (slft x)) bcap2, .slice ed2 (slen (srgt x)) ecap2], .int .i64 0] wr (QB wr (mayO kd s' c' a' (slft x) (srgt x) 0))) :=
          HM.out a' (slft x) (srgt x) (by have := HR.out; rw [scnt_inner] at this; omega) kd s' c' ad2 bd2 ed2 cap2 bcap2 ecap2 0 wr hz1 hz2 hz3 hz4 (by omega) hsa hsd hse
        have HR2 : Hid (scnt r ≤ 600) := by have := HR.out; rw [scnt_inner] at this; show _ ≤ _; omega
        have HZR : Hid (SSz r) := hz5
        have HFF : Hid (RR = (mayO kd s' c' a' (slft x) (srgt x) 0 && mayS r 0)) := by have := HF.out.1; rw [mayS_O] at this; exact this
        generalize mayO kd s' c' a' (slft x) (srgt x) 0 = B at HC' HFF
        generalize slen (slft x) = q1 at z5 HC'
        generalize slen (srgt x) = q2 at z6 HC'
        have hsw := HB.out.size
        clear hsa hsd hse hrest hz1 hz2 hz3 hz4 hz5
        go_wp2_with fail
        refine Calls.mono HC'.out ?_
        rintro e1 w3 ⟨rfl, hb3⟩
        have HB3 : Hid (Below w.heap.size w w3) := HB.out.trans (hb3.mono hsw)
        clear hb3
        cases B
        · have HRF : Hid (RR = false) := by show _ = _; rw [HFF.out]; rfl
          go_wp2
          go_ret
          exact ⟨congrArg (fun b => Ending.returned (Value.bool b)) HRF.out.symm, HB3.out⟩
        · have HF4 : Hid (RR = mayS r 0 ∧ SSz r) := ⟨by rw [HFF.out]; rfl, HZR.out⟩
          go_wp2
          go_roundw
          case rel => exact ⟨j + 1, r, by omega, by go_num, by have := HJ.out; simp only [slen] at this; show _ = _; omega, HRest, HF4, HR2, HB3⟩
          case measure => simp [intOf]; omega
    · have hr : r = .leaf := slen_zero (by have := HJ.out; omega)
      subst hr
      have HRT : Hid (RR = true) := HF.out.1
      go_wp2
      go_ret
      exact ⟨congrArg (fun b => Ending.returned (Value.bool b)) HRT.out.symm, HB.out⟩
end Go.Proofs.YtnofibjchhcmeabDoor
