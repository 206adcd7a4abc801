/- What dep.Meet answers, and the document's. -/
import Derived.Test.YtcaefimnhoeimaaMt
namespace Go.Proofs.Ytcaefimnhoeimaa
open Go.RowKit
set_option linter.unusedVariables false

theorem farB_no {n : Int} (h : farB n 1048576 = false) : -1048576 ≤ n ∧ n ≤ 1048576 := by unfold farB at h; simp at h; omega
theorem way_bd (a x b : Int) (p : Nat) (hp : p ≤ 200) (ha : -1048576 ≤ a ∧ a ≤ 1048576) (hx : -1048576 ≤ x ∧ x ≤ 1048576) (hb : -1048576 ≤ b ∧ b ≤ 1048576) : -211812352 ≤ (p : Int) * x ∧ (p : Int) * x ≤ 211812352 ∧ -1000000000 ≤ a - b + (p : Int) * x ∧ a - b + (p : Int) * x ≤ 1000000000 := by
  have h1 : (p : Int) * x ≤ 200 * 1048576 := by
    calc (p : Int) * x ≤ (p : Int) * 1048576 := Int.mul_le_mul_of_nonneg_left hx.2 (by omega)
      _ ≤ 200 * 1048576 := by omega
  have h2 : -(200 * 1048576) ≤ (p : Int) * x := by
    have : (p : Int) * (-1048576) ≤ (p : Int) * x := Int.mul_le_mul_of_nonneg_left hx.1 (by omega)
    omega
  omega
theorem idx0 (W : World) (a0 a1 a2 a3 : Value) : (Instr.index 57 (.agg #[a0, a1, a2, a3]) (.int .i64 0)).run Try.prog W = .ok a0 W := by kernel_rfl
theorem idx1 (W : World) (a0 a1 a2 a3 : Value) : (Instr.index 57 (.agg #[a0, a1, a2, a3]) (.int .i64 1)).run Try.prog W = .ok a1 W := by kernel_rfl
theorem idx2 (W : World) (a0 a1 a2 a3 : Value) : (Instr.index 57 (.agg #[a0, a1, a2, a3]) (.int .i64 2)).run Try.prog W = .ok a2 W := by kernel_rfl
theorem idx3 (W : World) (a0 a1 a2 a3 : Value) : (Instr.index 57 (.agg #[a0, a1, a2, a3]) (.int .i64 3)).run Try.prog W = .ok a3 W := by kernel_rfl
/-- what has been seen of the four numbers -/
def seenB (a x b y : Int) : Nat → Bool
  | 0 => true
  | 1 => !farB a 1048576
  | 2 => !farB a 1048576 && !farB x 1048576
  | 3 => !farB a 1048576 && !farB x 1048576 && !farB b 1048576
  | _ => !farB a 1048576 && !farB x 1048576 && !farB b 1048576 && !farB y 1048576

set_option maxRecDepth 100000 in
set_option maxHeartbeats 4000000 in
theorem meet_any (a x b y n : Int) (w : World) : Calls Try.prog 8 #[.int .i64 a, .int .i64 x, .int .i64 b, .int .i64 y, .int .i64 n] w fun e w' => e = .returned (.bool (meetB a x b y n)) ∧ ∃ k, w' = w.drewN k := by
  obtain ⟨r, hr⟩ : ∃ r, meetB a x b y n = r := ⟨_, rfl⟩
  have HR : Hid (meetB a x b y n = r) := hr
  rw [hr]
  clear hr
  go_enter Try.func8, Try.ntmps8
  go_wp2_with fail
  go_loop [19] (fun i => ∃ k : Nat, k ≤ 4 ∧ i = .int .i64 (k : Int) ∧ Hid (seenB a x b y k = true)) (fun i => 4 - (intOf i).toNat)
  case atStart => exact ⟨0, by omega, rfl, rfl⟩
  case round =>
    obtain ⟨k, hk, rfl, HK⟩ := hrel
    have hk5 : k = 0 ∨ k = 1 ∨ k = 2 ∨ k = 3 ∨ k = 4 := by omega
    clear hk
    have k0 := idx0
    have k1 := idx1
    have k2 := idx2
    have k3 := idx3
    rcases hk5 with rfl | rfl | rfl | rfl | rfl
    · cases hf : farB a 1048576
      · have HF : Hid (farB a 1048576 = false) := hf
        clear hf
        have HS : Hid (seenB a x b y 1 = true) := by
          have h1 := HK.out
          have h2 := HF.out
          show _ = _
          unfold seenB at h1 ⊢
          simp_all
        go_wp2_with (first | (go_at_call 17; refine (near_any _ _ (by omega) (by omega) _).mono ?_; rintro e w4 ⟨rfl, hw4⟩; rw [hw4, HF.out]; clear hw4 w4) | fail)
        go_round
        case rel => exact ⟨1, by omega, rfl, HS⟩
        case measure => simp [intOf]
      · have HF : Hid (farB a 1048576 = true) := hf
        clear hf
        go_wp2_with (first | (go_at_call 17; refine (near_any _ _ (by omega) (by omega) _).mono ?_; rintro e w4 ⟨rfl, hw4⟩; rw [hw4, HF.out]; clear hw4 w4) | fail)
        go_ret
        exact ⟨ret_bo (by rw [← HR.out]; unfold meetB; rw [HF.out]; simp), 0, rfl⟩
    · cases hf : farB x 1048576
      · have HF : Hid (farB x 1048576 = false) := hf
        clear hf
        have HS : Hid (seenB a x b y 2 = true) := by
          have h1 := HK.out
          have h2 := HF.out
          show _ = _
          unfold seenB at h1 ⊢
          simp_all
        go_wp2_with (first | (go_at_call 17; refine (near_any _ _ (by omega) (by omega) _).mono ?_; rintro e w4 ⟨rfl, hw4⟩; rw [hw4, HF.out]; clear hw4 w4) | fail)
        go_round
        case rel => exact ⟨2, by omega, rfl, HS⟩
        case measure => simp [intOf]
      · have HF : Hid (farB x 1048576 = true) := hf
        clear hf
        go_wp2_with (first | (go_at_call 17; refine (near_any _ _ (by omega) (by omega) _).mono ?_; rintro e w4 ⟨rfl, hw4⟩; rw [hw4, HF.out]; clear hw4 w4) | fail)
        go_ret
        exact ⟨ret_bo (by rw [← HR.out]; unfold meetB; rw [HF.out]; simp), 0, rfl⟩
    · cases hf : farB b 1048576
      · have HF : Hid (farB b 1048576 = false) := hf
        clear hf
        have HS : Hid (seenB a x b y 3 = true) := by
          have h1 := HK.out
          have h2 := HF.out
          show _ = _
          unfold seenB at h1 ⊢
          simp_all
        go_wp2_with (first | (go_at_call 17; refine (near_any _ _ (by omega) (by omega) _).mono ?_; rintro e w4 ⟨rfl, hw4⟩; rw [hw4, HF.out]; clear hw4 w4) | fail)
        go_round
        case rel => exact ⟨3, by omega, rfl, HS⟩
        case measure => simp [intOf]
      · have HF : Hid (farB b 1048576 = true) := hf
        clear hf
        go_wp2_with (first | (go_at_call 17; refine (near_any _ _ (by omega) (by omega) _).mono ?_; rintro e w4 ⟨rfl, hw4⟩; rw [hw4, HF.out]; clear hw4 w4) | fail)
        go_ret
        exact ⟨ret_bo (by rw [← HR.out]; unfold meetB; rw [HF.out]; simp), 0, rfl⟩
    · cases hf : farB y 1048576
      · have HF : Hid (farB y 1048576 = false) := hf
        clear hf
        have HS : Hid (seenB a x b y 4 = true) := by
          have h1 := HK.out
          have h2 := HF.out
          show _ = _
          unfold seenB at h1 ⊢
          simp_all
        go_wp2_with (first | (go_at_call 17; refine (near_any _ _ (by omega) (by omega) _).mono ?_; rintro e w4 ⟨rfl, hw4⟩; rw [hw4, HF.out]; clear hw4 w4) | fail)
        go_round
        case rel => exact ⟨4, by omega, rfl, HS⟩
        case measure => simp [intOf]
      · have HF : Hid (farB y 1048576 = true) := hf
        clear hf
        go_wp2_with (first | (go_at_call 17; refine (near_any _ _ (by omega) (by omega) _).mono ?_; rintro e w4 ⟨rfl, hw4⟩; rw [hw4, HF.out]; clear hw4 w4) | fail)
        go_ret
        exact ⟨ret_bo (by rw [← HR.out]; unfold meetB; rw [HF.out]; simp), 0, rfl⟩
    · have HB : Hid ((-1048576 ≤ a ∧ a ≤ 1048576) ∧ (-1048576 ≤ x ∧ x ≤ 1048576) ∧ (-1048576 ≤ b ∧ b ≤ 1048576) ∧ (-1048576 ≤ y ∧ y ≤ 1048576)) := by
        have h1 := HK.out
        unfold seenB at h1
        simp at h1
        exact ⟨farB_no h1.1.1.1, farB_no h1.1.1.2, farB_no h1.1.2, farB_no h1.2⟩
      by_cases hn : 200 < n
      · go_wp2_with fail
        go_ret
        exact ⟨ret_bo (by rw [← HR.out]; unfold meetB; simp [hn]), 0, rfl⟩
      · have HM : Hid (anyP (rowB a x b y n) n.toNat = r) := by
          show _ = _
          have h1 := HK.out
          unfold seenB at h1
          simp at h1
          have h2 := HR.out
          unfold meetB at h2
          rw [h1.1.1.1, h1.1.1.2, h1.1.2, h1.2] at h2
          simpa [hn] using h2
        have HNN : Hid (¬ 200 < n) := hn
        go_wp2_with fail
        go_loopw [29] (fun i wr => ∃ p : Nat, i = .int .i64 (p : Int) ∧ p ≤ n.toNat ∧ Hid (anyP (rowB a x b y n) p = false) ∧ ∃ k, wr = w.drewN k) (fun i _ => n.toNat - (intOf i).toNat)
        case atStart => exact ⟨0, rfl, Nat.zero_le _, rfl, 0, rfl⟩
        case round =>
          obtain ⟨p, rfl, hp, HP, k, rfl⟩ := hrel
          by_cases hlt : (p : Int) < n
          · obtain ⟨⟨a1, a2⟩, ⟨x1, x2⟩, ⟨b1, b2⟩, ⟨y1, y2⟩⟩ := HB.out
            obtain ⟨c1, c2, c3, c4⟩ := way_bd a x b p (by omega) ⟨a1, a2⟩ ⟨x1, x2⟩ ⟨b1, b2⟩
            obtain ⟨z, hz⟩ : ∃ z, rowB a x b y n p = z := ⟨_, rfl⟩
            have HC : Hid (∀ w, Calls Try.prog 18 #[.int .i64 (a - b + (p : Int) * x), .int .i64 y, .int .i64 (p : Int), .int .i64 n] w fun e w' => e = .returned (.bool z) ∧ ∃ k, w' = w.drewN k) := by
              intro w
              have := meets_any (a - b + (p : Int) * x) y p n ⟨c3, c4⟩ ⟨y1, y2⟩ (by omega) hlt w
              rw [← hz]; exact this
            have HS : Hid (anyP (rowB a x b y n) (p + 1) = z) := by
              show _ = _
              rw [anyP_succ, HP.out, hz]; rfl
            have HT : Hid (z = true → r = true) := by
              intro h
              rw [← HM.out]
              exact anyP_true (q := p) (by omega) (by rw [hz, h])
            clear hz
            go_wp2_with (first | (go_at_call 18; refine (HC.out _).mono ?_; rintro e w4 ⟨rfl, k4, hw4⟩; rw [hw4]; clear hw4 w4; cases z) | fail)
            · go_roundw
              case rel => exact ⟨p + 1, by go_num, by omega, HS, _, rfl⟩
              case measure => simp [intOf]; omega
            · go_ret
              exact ⟨ret_bo (HT.out trivial).symm, _, rfl⟩
          · go_wp2_with fail
            go_ret
            exact ⟨ret_bo (by rw [← HM.out, show n.toNat = p by omega, HP.out]), k, rfl⟩

theorem rmeet_far (a x b y n : Int) (h : (farB a 1048576 || farB x 1048576 || farB b 1048576 || farB y 1048576 || decide (200 < n)) = true) : meetB a x b y n = true := by unfold meetB; rw [h]; rfl
set_option maxRecDepth 100000 in
set_option maxHeartbeats 4000000 in
theorem rmeet_any (a x b y n : Int) (w : World) : Calls Try.prog 9 #[.int .i64 a, .int .i64 x, .int .i64 b, .int .i64 y, .int .i64 n] w fun e w' => e = .returned (.bool (meetB a x b y n)) ∧ w' = w := by
  obtain ⟨r, hr⟩ : ∃ r, meetB a x b y n = r := ⟨_, rfl⟩
  have HR : Hid (meetB a x b y n = r) := hr
  rw [hr]
  clear hr
  obtain ⟨fa, ha⟩ : ∃ f, farB a 1048576 = f := ⟨_, rfl⟩
  obtain ⟨fx, hx⟩ : ∃ f, farB x 1048576 = f := ⟨_, rfl⟩
  obtain ⟨fb, hb⟩ : ∃ f, farB b 1048576 = f := ⟨_, rfl⟩
  obtain ⟨fy, hy⟩ : ∃ f, farB y 1048576 = f := ⟨_, rfl⟩
  have CA : Hid (∀ w, Calls Try.prog 19 #[.int .i64 a, .int .i64 1048576] w fun e w' => e = .returned (.bool fa) ∧ w' = w) := fun w => by rw [← ha]; exact far_any _ _ (by omega) (by omega) w
  have CX : Hid (∀ w, Calls Try.prog 19 #[.int .i64 x, .int .i64 1048576] w fun e w' => e = .returned (.bool fx) ∧ w' = w) := fun w => by rw [← hx]; exact far_any _ _ (by omega) (by omega) w
  have CB : Hid (∀ w, Calls Try.prog 19 #[.int .i64 b, .int .i64 1048576] w fun e w' => e = .returned (.bool fb) ∧ w' = w) := fun w => by rw [← hb]; exact far_any _ _ (by omega) (by omega) w
  have CY : Hid (∀ w, Calls Try.prog 19 #[.int .i64 y, .int .i64 1048576] w fun e w' => e = .returned (.bool fy) ∧ w' = w) := fun w => by rw [← hy]; exact far_any _ _ (by omega) (by omega) w
  by_cases hfar : (fa || fx || fb || fy || decide (200 < n)) = true
  · obtain rfl : r = true := by rw [← HR.out]; exact rmeet_far _ _ _ _ _ (by rw [ha, hx, hb, hy]; exact hfar)
    have HFAR : Hid ((fa || fx || fb || fy || decide (200 < n)) = true) := hfar
    clear ha hx hb hy hfar
    have K : ∀ (P : Prop), P → P := fun _ h => h
    cases fa
    case true =>
      go_enter Try.func9, Try.ntmps9
      go_wp2_with (first | (go_at_call 19; refine (CA.out _).mono ?_; rintro e w4 ⟨rfl, hw4⟩; rw [hw4]; clear hw4 w4) | fail)
      go_ret
      exact ⟨rfl, rfl⟩
    case false =>
    cases fx
    case true =>
      go_enter Try.func9, Try.ntmps9
      go_wp2_with fail
      refine (CA.out _).mono ?_; rintro e w4 ⟨rfl, hw4⟩; rw [hw4]; clear hw4 w4
      go_wp2_with fail
      refine (CX.out _).mono ?_; rintro e w4 ⟨rfl, hw4⟩; rw [hw4]; clear hw4 w4
      go_wp2_with fail
      go_ret
      exact ⟨rfl, rfl⟩
    case false =>
    cases fb
    case true =>
      go_enter Try.func9, Try.ntmps9
      go_wp2_with fail
      refine (CA.out _).mono ?_; rintro e w4 ⟨rfl, hw4⟩; rw [hw4]; clear hw4 w4
      go_wp2_with fail
      refine (CX.out _).mono ?_; rintro e w4 ⟨rfl, hw4⟩; rw [hw4]; clear hw4 w4
      go_wp2_with fail
      refine (CB.out _).mono ?_; rintro e w4 ⟨rfl, hw4⟩; rw [hw4]; clear hw4 w4
      go_wp2_with fail
      go_ret
      exact ⟨rfl, rfl⟩
    case false =>
    cases fy
    case true =>
      go_enter Try.func9, Try.ntmps9
      go_wp2_with fail
      refine (CA.out _).mono ?_; rintro e w4 ⟨rfl, hw4⟩; rw [hw4]; clear hw4 w4
      go_wp2_with fail
      refine (CX.out _).mono ?_; rintro e w4 ⟨rfl, hw4⟩; rw [hw4]; clear hw4 w4
      go_wp2_with fail
      refine (CB.out _).mono ?_; rintro e w4 ⟨rfl, hw4⟩; rw [hw4]; clear hw4 w4
      go_wp2_with fail
      refine (CY.out _).mono ?_; rintro e w4 ⟨rfl, hw4⟩; rw [hw4]; clear hw4 w4
      go_wp2_with fail
      go_ret
      exact ⟨rfl, rfl⟩
    case false =>
      have hn : 200 < n := by have := HFAR.out; simpa using this
      go_enter Try.func9, Try.ntmps9
      go_wp2_with fail
      refine (CA.out _).mono ?_; rintro e w4 ⟨rfl, hw4⟩; rw [hw4]; clear hw4 w4
      go_wp2_with fail
      refine (CX.out _).mono ?_; rintro e w4 ⟨rfl, hw4⟩; rw [hw4]; clear hw4 w4
      go_wp2_with fail
      refine (CB.out _).mono ?_; rintro e w4 ⟨rfl, hw4⟩; rw [hw4]; clear hw4 w4
      go_wp2_with fail
      refine (CY.out _).mono ?_; rintro e w4 ⟨rfl, hw4⟩; rw [hw4]; clear hw4 w4
      go_wp2_with fail
      go_ret
      exact ⟨rfl, rfl⟩
  · have h5 : fa = false ∧ fx = false ∧ fb = false ∧ fy = false ∧ ¬ 200 < n := by
      cases fa <;> cases fx <;> cases fb <;> cases fy <;> simp_all
    obtain ⟨rfl, rfl, rfl, rfl, hn⟩ := h5
    have HB : Hid ((-1048576 ≤ a ∧ a ≤ 1048576) ∧ (-1048576 ≤ x ∧ x ≤ 1048576) ∧ (-1048576 ≤ b ∧ b ≤ 1048576) ∧ (-1048576 ≤ y ∧ y ≤ 1048576)) := ⟨farB_no ha, farB_no hx, farB_no hb, farB_no hy⟩
    have HM : Hid (anyP (rowB a x b y n) n.toNat = r) := by
      show _ = _
      rw [← HR.out]; unfold meetB; rw [ha, hx, hb, hy]; simp [hn]
    clear ha hx hb hy hfar
    go_enter Try.func9, Try.ntmps9
    go_wp2_with fail
    refine (CA.out _).mono ?_; rintro e w4 ⟨rfl, hw4⟩; rw [hw4]; clear hw4 w4
    go_wp2_with fail
    refine (CX.out _).mono ?_; rintro e w4 ⟨rfl, hw4⟩; rw [hw4]; clear hw4 w4
    go_wp2_with fail
    refine (CB.out _).mono ?_; rintro e w4 ⟨rfl, hw4⟩; rw [hw4]; clear hw4 w4
    go_wp2_with fail
    refine (CY.out _).mono ?_; rintro e w4 ⟨rfl, hw4⟩; rw [hw4]; clear hw4 w4
    go_wp2_with fail
    go_loop [11] (fun i => ∃ p : Nat, i = .int .i64 (p : Int) ∧ p ≤ n.toNat ∧ Hid (anyP (rowB a x b y n) p = false)) (fun i => n.toNat - (intOf i).toNat)
    case atStart => exact ⟨0, rfl, Nat.zero_le _, rfl⟩
    case round =>
      obtain ⟨p, rfl, hp, HP⟩ := hrel
      by_cases hlt : (p : Int) < n
      · have HS : Hid (anyP (rowB a x b y n) (p + 1) = rowB a x b y n p) := by
          show _ = _
          rw [anyP_succ, HP.out]; rfl
        go_wp2_with fail
        go_loop [12] (fun i => ∃ q : Nat, i = .int .i64 (q : Int) ∧ q ≤ n.toNat ∧ Hid (anyP (pairB a x b y p) q = false)) (fun i => n.toNat - (intOf i).toNat)
        case atStart => exact ⟨0, rfl, Nat.zero_le _, rfl⟩
        case round =>
          obtain ⟨q, rfl, hq, HQ⟩ := hrel
          by_cases hlt2 : (q : Int) < n
          · obtain ⟨⟨a1, a2⟩, ⟨x1, x2⟩, ⟨b1, b2⟩, ⟨y1, y2⟩⟩ := HB.out
            obtain ⟨c1, c2, c3, c4⟩ := way_bd a x b p (by omega) ⟨a1, a2⟩ ⟨x1, x2⟩ ⟨b1, b2⟩
            obtain ⟨d1, d2, d3, d4⟩ := way_bd a y b q (by omega) ⟨a1, a2⟩ ⟨y1, y2⟩ ⟨b1, b2⟩
            have HQS : Hid (anyP (pairB a x b y p) (q + 1) = pairB a x b y p q) := by
              show _ = _
              rw [anyP_succ, HQ.out]; rfl
            have HT : Hid (pairB a x b y p q = true → r = true) := by
              intro h
              rw [← HM.out]
              refine anyP_true (q := p) (by omega) ?_
              rw [← pair_row]
              exact anyP_true (q := q) (by omega) h
            by_cases hpq : p = q
            · have HF : Hid (pairB a x b y p q = false) := by show _ = _; unfold pairB; simp [hpq]
              have e1 : ((p : Int) != (q : Int)) = false := by simp; omega
              clear hpq
              go_wp2_with fail
              go_round
              case rel => exact ⟨q + 1, by go_num, by omega, by show _ = _; rw [HQS.out, HF.out]⟩
              case measure => simp [intOf]; omega
            · have e1 : ((p : Int) != (q : Int)) = true := by simp; omega
              by_cases he : a + (p : Int) * x = b + (q : Int) * y
              · have HF : Hid (pairB a x b y p q = true) := by show _ = _; unfold pairB; simp [hpq, he]
                have e2 : (a + (p : Int) * x == b + (q : Int) * y) = true := by simpa using he
                clear he hpq
                go_wp2_with fail
                go_ret
                exact ⟨ret_bo (HT.out HF.out).symm, rfl⟩
              · have HF : Hid (pairB a x b y p q = false) := by show _ = _; unfold pairB; simp [he]
                have e2 : (a + (p : Int) * x == b + (q : Int) * y) = false := by simpa using he
                clear he hpq
                go_wp2_with fail
                go_round
                case rel => exact ⟨q + 1, by go_num, by omega, by show _ = _; rw [HQS.out, HF.out]⟩
                case measure => simp [intOf]; omega
          · go_wp2_with fail
            go_round
            case rel => exact ⟨p + 1, by go_num, by omega, by show _ = _; rw [HS.out, ← pair_row, show n.toNat = q by omega, HQ.out]⟩
            case measure => simp [intOf]; omega
      · go_wp2_with fail
        go_ret
        exact ⟨ret_bo (by rw [← HM.out, show n.toNat = p by omega, HP.out]), rfl⟩
end Go.Proofs.Ytcaefimnhoeimaa
