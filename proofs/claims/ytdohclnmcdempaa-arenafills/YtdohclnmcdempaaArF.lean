/- ArenaFills: the law's walk. -/
import Derived.Test.YtdohclnmcdempaaArE
namespace Go.Proofs.Ytdohclnmcdempaa
open Go.RowKit Go.Maps
set_option linter.unusedVariables false

theorem rg_ne {i n : Nat} (h : i < n) : List.range' i (n - i) = i :: List.range' (i + 1) (n - (i + 1)) := by
  have : n - i = (n - (i + 1)) + 1 := by omega
  rw [this, List.range'_succ]
def dn (i : Nat) : List Nat := (List.range i).reverse
theorem dn_succ (i : Nat) : dn (i + 1) = i :: dn i := by simp [dn, List.range_succ]
theorem dn_used {n i : Nat} (h : i < n) : usedB n (dn i) (i : Int) = true := by
  rw [usedB_nat]
  simp [dn, h]
theorem dn_back {n i : Nat} (h : i < n) : backL n (dn i) (i : Int) = dn (i + 1) := by
  unfold backL
  rw [dn_used h, dn_succ]
  simp
set_option maxRecDepth 100000 in
set_option maxHeartbeats 4000000 in
theorem fills_walk (n : Int) (w : World) : Calls Try.prog 5 #[.int .i64 n] w fun e w' => e = .returned (.bool true) ∧ Below w.heap.size w w' := by
  have HX : Hid (∀ k, k < w.heap.size → (fun k => k < w.heap.size) k) := fun k hk => hk
  have HN : Hid (∀ w, Calls Try.prog 9 #[.int .i64 n] w (NewQ n w)) := new_any n
  by_cases hn : 1 ≤ n ∧ n ≤ 512
  · obtain ⟨N, rfl⟩ : ∃ N : Nat, n = (N : Int) := ⟨n.toNat, by omega⟩
    have hN : 1 ≤ N ∧ N ≤ 512 := by omega
    have HHN : Hid (1 ≤ (N : Int) ∧ (N : Int) ≤ 512) := hn
    clear hn
    go_enter Try.func5, Try.ntmps5
    go_wp2_with fail
    refine (HN.out _).mono ?_
    rintro e w1 ⟨b1, h1⟩
    rw [if_pos HHN.out] at h1
    obtain ⟨ab, ub, rfl, A1, l1, l2⟩ := h1
    have A1 : Hid (AB (fun k => k < w.heap.size) ab ub N (List.range' 0 (N - 0)) w1) := by
      have := AB.first A1 l1 l2 b1.size
      simp only [Int.toNat_natCast] at this
      show AB _ _ _ _ _ _
      rw [Nat.sub_zero, ← List.range_eq_range']
      exact this
    have B1 : Hid (Below w.heap.size w w1) := b1
    clear b1 l1 l2 HN
    go_wp2_with fail
    go_loopw [5, 6, 7] (fun i s f wr => ∃ q : Nat, i = .int .i64 (q : Int) ∧ q ≤ N ∧ Hid (AB (fun k => k < w.heap.size) ab ub N (List.range' q (N - q)) wr) ∧ Hid (Below w.heap.size w wr)) (fun i s f _ => N - (intOf i).toNat)
    case atStart => exact ⟨0, rfl, Nat.zero_le _, A1, B1⟩
    case round =>
      obtain ⟨q, rfl, hq, A, B⟩ := hrel
      by_cases hlt : q < N
      · have e1 : decide (q < N) = true := by simp; omega
        go_wp2_with fail
        refine A.out.take.mono ?_
        rintro e w4 ⟨rfl, A4, C4⟩
        have HL : Hid (List.range' q (N - q) = q :: List.range' (q + 1) (N - (q + 1))) := rg_ne hlt
        rw [HL.out] at A4 ⊢
        have A4 : Hid (AB (fun k => k < w.heap.size) ab ub N (List.range' (q + 1) (N - (q + 1))) w4) := A4
        have B4 : Hid (Below w.heap.size w w4) := B.out.trans (C4.noB B.out.size HX.out)
        clear C4
        simp only [List.headD_cons, List.isEmpty_cons, Bool.false_eq_true, if_false]
        go_wp2_with fail
        go_roundw
        case rel => exact ⟨q + 1, by go_num, by omega, A4, B4⟩
        case measure => simp [intOf] <;> omega
      · have hqN : q = N := by omega
        subst hqN
        have e1 : decide (q < q) = false := by simp
        go_wp2_with fail
        refine A.out.take.mono ?_
        rintro e w4 ⟨rfl, A4, C4⟩
        have HL : Hid (List.range' q (q - q) = []) := by show _ = _; simp
        rw [HL.out] at A4 ⊢
        have A4 : Hid (AB (fun k => k < w.heap.size) ab ub q (dn 0) w4) := A4
        have B4 : Hid (Below w.heap.size w w4) := B.out.trans (C4.noB B.out.size HX.out)
        clear C4
        simp only [List.headD_nil, List.isEmpty_nil, if_true]
        go_wp2_with fail
        clear e1
        go_loopw [10] (fun i wr => ∃ p : Nat, i = .int .i64 (p : Int) ∧ p ≤ q ∧ Hid (AB (fun k => k < w.heap.size) ab ub q (dn p) wr) ∧ Hid (Below w.heap.size w wr)) (fun i _ => q - (intOf i).toNat)
        case atStart => exact ⟨0, rfl, Nat.zero_le _, A4, B4⟩
        case round =>
          clear A4 B4
          obtain ⟨p, rfl, hp, A5, B5⟩ := hrel
          by_cases hlt2 : p < q
          · have e1 : decide (p < q) = true := by simp; omega
            go_wp2_with fail
            refine (A5.out.back (p : Int)).mono ?_
            rintro e w6 ⟨rfl, A6, C6⟩
            have HL : Hid (backL q (dn p) (p : Int) = dn (p + 1)) := dn_back hlt2
            rw [dn_used hlt2]
            rw [HL.out] at A6
            have A6 : Hid (AB (fun k => k < w.heap.size) ab ub q (dn (p + 1)) w6) := A6
            have B6 : Hid (Below w.heap.size w w6) := B5.out.trans (C6.noB B5.out.size HX.out)
            clear C6
            simp only [if_true]
            go_wp2_with fail
            go_roundw
            case rel => exact ⟨p + 1, by go_num, by omega, A6, B6⟩
            case measure => simp [intOf] <;> omega
          · have hpq : p = q := by omega
            subst hpq
            have e1 : decide (p < p) = false := by simp
            have hw : wrap64 ((p : Int) - 1) = (p : Int) - 1 := w64in _ ⟨by omega, by omega⟩
            go_wp2_with fail
            clear e1
            go_loopw [11, 12, 13] (fun i s f wr => ∃ r : Nat, i = .int .i64 ((r : Int) - 1) ∧ r ≤ p ∧ Hid (AB (fun k => k < w.heap.size) ab ub p (dn r) wr) ∧ Hid (Below w.heap.size w wr)) (fun i s f _ => (intOf i + 1).toNat)
            case atStart => exact ⟨p, rfl, Nat.le_refl _, A5, B5⟩
            case round =>
              clear A5 B5
              obtain ⟨r, rfl, hr, A7, B7⟩ := hrel
              by_cases hlt3 : 0 < r
              · obtain ⟨s, rfl⟩ : ∃ s, r = s + 1 := ⟨r - 1, by omega⟩
                rw [show (((s + 1 : Nat) : Int) - 1) = (s : Int) by omega]
                have e1 : decide (0 ≤ (s : Int)) = true := by simp
                have hw2 : wrap64 ((s : Int) - 1) = (s : Int) - 1 := w64in _ ⟨by omega, by omega⟩
                go_wp2_with fail
                refine A7.out.take.mono ?_
                rintro e w8 ⟨rfl, A8, C8⟩
                rw [dn_succ] at A8 ⊢
                have A8 : Hid (AB (fun k => k < w.heap.size) ab ub p (dn s) w8) := A8
                have B8 : Hid (Below w.heap.size w w8) := B7.out.trans (C8.noB B7.out.size HX.out)
                clear C8
                simp only [List.headD_cons, List.isEmpty_cons, Bool.false_eq_true, if_false]
                go_wp2_with fail
                go_roundw
                case rel => exact ⟨s, rfl, by omega, A8, B8⟩
                case measure => simp [intOf] <;> omega
              · have hr0 : r = 0 := by omega
                subst hr0
                go_wp2_with fail
                refine (alive_any _).mono ?_
                rintro e wz ⟨rfl, bz⟩
                have BZ : Hid (Below w.heap.size w wz) := B7.out.trans (bz.mono B7.out.size)
                clear bz
                go_wp2
                first | exact ⟨rfl, BZ.out⟩ | (go_ret; exact ⟨rfl, BZ.out⟩)
  · have HHN : Hid (¬ (1 ≤ n ∧ n ≤ 512)) := hn
    by_cases h1 : n < 1
    · clear hn
      go_enter Try.func5, Try.ntmps5
      go_wp2_with fail
      refine (HN.out _).mono ?_
      rintro e w1 ⟨b1, h2⟩
      rw [if_neg HHN.out] at h2
      subst h2
      have B1 : Hid (Below w.heap.size w w1) := b1
      clear b1 HN
      go_wp2_with fail
      refine (alive_any _).mono ?_
      rintro e wz ⟨rfl, bz⟩
      have BZ : Hid (Below w.heap.size w wz) := B1.out.trans (bz.mono B1.out.size)
      clear bz
      go_wp2
      first | exact ⟨rfl, BZ.out⟩ | (go_ret; exact ⟨rfl, BZ.out⟩)
    · have h3 : 512 < n := by omega
      clear hn
      go_enter Try.func5, Try.ntmps5
      go_wp2_with fail
      refine (HN.out _).mono ?_
      rintro e w1 ⟨b1, h2⟩
      rw [if_neg HHN.out] at h2
      subst h2
      have B1 : Hid (Below w.heap.size w w1) := b1
      clear b1 HN
      go_wp2_with fail
      refine (alive_any _).mono ?_
      rintro e wz ⟨rfl, bz⟩
      have BZ : Hid (Below w.heap.size w wz) := B1.out.trans (bz.mono B1.out.size)
      clear bz
      go_wp2
      first | exact ⟨rfl, BZ.out⟩ | (go_ret; exact ⟨rfl, BZ.out⟩)
end Go.Proofs.Ytdohclnmcdempaa
