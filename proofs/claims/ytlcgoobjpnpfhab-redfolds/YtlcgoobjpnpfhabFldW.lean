/- All numbers joined: in the document's words, and turned about; the walk of the law. -/
import Derived.Test.YtlcgoobjpnpfhabApp
import Derived.Test.YtlcgoobjpnpfhabRefJ
import Derived.Test.YtlcgoobjpnpfhabAliv
namespace Go.Proofs.Ytlcgoobjpnpfhab
open Go.RowKit Go.Maps
set_option linter.unusedVariables false

theorem fold_bd (op : Int) : ∀ (L : List Int) (x : Int), R64 x → (∀ y ∈ L, R64 y) → R64 (L.foldl (joinI op) x)
  | [], x, hx, _ => hx
  | y :: L, x, hx, h => fold_bd op L _ (join_bd op x y hx (h y (by simp))) (fun z hz => h z (by simp [hz]))
theorem fold_out (op : Int) (hr : rightB op = true) : ∀ (L : List Int) (x : Int), R64 x → (∀ y ∈ L, R64 y) → L.foldl (joinI op) x = joinI op x (foldI op L)
  | [], x, hx, _ => (join_zero op x hr hx).symm
  | y :: L, x, hx, h => by
    have hy : R64 y := h y (by simp)
    have hL : ∀ z ∈ L, R64 z := fun z hz => h z (by simp [hz])
    unfold foldI
    rw [List.foldl_cons, List.foldl_cons, fold_out op hr L _ (join_bd op x y hx hy) hL, fold_out op hr L _ (join_bd op _ y (zero_bd op) hy) hL, join_comm op (zeroI op) y, join_zero op y hr hy, join_assoc]
theorem fold_none (op : Int) (hr : rightB op = false) (L : List Int) : foldI op L = 0 := by
  have hz : zeroI op = 0 := by
    unfold rightB at hr
    simp at hr
    unfold zeroI
    repeat (rw [if_neg (by omega)])
  unfold foldI
  rw [hz]
  induction L with
  | nil => rfl
  | cons y L ih => rw [List.foldl_cons, join_none op 0 y hr]; exact ih
theorem fold_swap (op : Int) (A B : List Int) (hA : ∀ y ∈ A, R64 y) (hB : ∀ y ∈ B, R64 y) : foldI op (A ++ B) = foldI op (B ++ A) := by
  cases hr : rightB op with
  | false => rw [fold_none op hr, fold_none op hr]
  | true =>
    have e : ∀ (C D : List Int), (∀ y ∈ C, R64 y) → (∀ y ∈ D, R64 y) → foldI op (C ++ D) = joinI op (foldI op C) (foldI op D) := fun C D hC hD => by
      unfold foldI
      rw [List.foldl_append]
      exact fold_out op hr D _ (fold_bd op C _ (zero_bd op) hC) hD
    rw [e A B hA hB, e B A hB hA, join_comm]

set_option maxRecDepth 100000 in
set_option maxHeartbeats 2000000 in
theorem rfold_any (op : Int) (G : List Int) (v : Value) (w : World) (hG : ∀ y ∈ G, R64 y) (hv : GSl w v G) : Calls Try.prog 12 #[.int .i64 op, v] w fun e w' => e = .returned (.int .i64 (foldI op G)) ∧ Below w.heap.size w w' := by
  obtain ⟨a1, c1, b1, o1, rfl, h2, h3, h4, h5⟩ := hv
  obtain ⟨N, hN⟩ : ∃ N, G.length = N := ⟨_, rfl⟩
  have HN : Hid (G.length = N) := hN
  have HG : Hid (∀ y ∈ G, R64 y) := hG
  have H5 : Hid (∀ i (h : i < G.length), w.cell? ⟨b1, o1 + i, none⟩ = some (.int .i64 G[i])) := h5
  obtain ⟨R, hR⟩ : ∃ R, foldI op G = R := ⟨_, rfl⟩
  have HR : Hid ((G.take N).foldl (joinI op) (zeroI op) = R) := by show _ = _; rw [← hR, ← hN, List.take_length]; rfl
  rw [hN] at h2 h4 ⊢
  rw [hR]
  have H4 : Hid (0 < N → a1 = some ⟨b1, o1, none⟩) := h4
  unfold maxLen at h3
  clear hN h5 h4 hR hG
  go_enter Try.func12, Try.ntmps12
  go_wp2_with fail
  refine (rzero_any _ _).mono ?_
  rintro e w4 ⟨rfl, b4⟩
  have B4 : Hid (Below w.heap.size w w4) := b4
  clear b4
  go_wp2_with fail
  go_loopw [5, 6] (fun x i wr => ∃ q : Nat, i = .int .i64 (q : Int) ∧ q ≤ N ∧ x = .int .i64 ((G.take q).foldl (joinI op) (zeroI op)) ∧ Hid (Below w.heap.size w wr)) (fun x i _ => N - (intOf i).toNat)
  case atStart => exact ⟨0, rfl, Nat.zero_le _, rfl, B4⟩
  case round =>
    obtain ⟨q, rfl, hq, rfl, HB⟩ := hrel
    by_cases hlt : q < N
    · obtain rfl := H4.out (by omega)
      have hq' : q < G.length := by rw [HN.out]; exact hlt
      obtain ⟨z, hz⟩ : ∃ z, G[q] = z := ⟨_, rfl⟩
      have d1 : wr.cell? ⟨b1, o1 + q, none⟩ = some (.int .i64 z) := by
        have := H5.out q hq'
        rw [hz] at this
        exact (HB.out.cell (p := ⟨b1, o1 + q, none⟩) (World.block_lt_of_cell? w _ this)).trans this
      have HE : Hid (joinI op ((G.take q).foldl (joinI op) (zeroI op)) z = (G.take (q + 1)).foldl (joinI op) (zeroI op)) := by
        show _ = _
        rw [List.take_succ_eq_append_getElem hq', List.foldl_append, hz]; rfl
      have HJ : Hid (∀ W, Calls Try.prog 25 #[.int .i64 op, .int .i64 ((G.take q).foldl (joinI op) (zeroI op)), .int .i64 z] W fun e w' => e = .returned (.int .i64 (joinI op ((G.take q).foldl (joinI op) (zeroI op)) z)) ∧ Below W.heap.size W w') :=
        fun W => rjoin_any _ _ _ (fold_bd op _ _ (zero_bd op) (fun y hy => HG.out y (List.mem_of_mem_take hy))) (by rw [← hz]; exact HG.out _ (List.getElem_mem _)) W
      have e1 : decide ((q : Int) < (N : Int)) = true := by simp; omega
      clear hz
      go_wp2_with fail
      refine (HJ.out wr).mono ?_
      rintro e w5 ⟨rfl, b5⟩
      have B5 : Hid (Below w.heap.size w w5) := HB.out.trans (b5.mono HB.out.size)
      clear b5
      go_wp2_with fail
      go_roundw
      case rel => exact ⟨q + 1, by go_num, by omega, by rw [HE.out], B5⟩
      case measure => simp [intOf]; omega
    · have e1 : decide ((q : Int) < (N : Int)) = false := by simp; omega
      have : q = N := by omega
      subst this
      go_wp2
      go_ret
      exact ⟨by rw [HR.out]; rfl, HB.out⟩

theorem turn_facts (at' : Int) (N : Nat) (hN : N ≤ 500) : ∃ (r : Int) (k : Nat), Int.tmod at' ((N : Int) + 1) = r ∧ -500 ≤ r ∧ r ≤ 500 ∧ Int.tmod (r + N + 1) ((N : Int) + 1) = (k : Int) ∧ k ≤ N := by
  have hp : (0 : Int) < (N : Int) + 1 := by omega
  have h1 := Int.tmod_lt_of_pos at' hp
  have h2 : -((N : Int) + 1) < Int.tmod at' ((N : Int) + 1) := by
    rcases Int.le_total 0 at' with h | h
    · have := Int.tmod_nonneg ((N : Int) + 1) h; omega
    · have e : Int.tmod at' ((N : Int) + 1) = -(Int.tmod (-at') ((N : Int) + 1)) := by rw [Int.neg_tmod]; omega
      have := Int.tmod_lt_of_pos (-at') hp
      omega
  refine ⟨_, (Int.tmod (Int.tmod at' ((N : Int) + 1) + N + 1) ((N : Int) + 1)).toNat, rfl, by omega, by omega, ?_, ?_⟩
  · have := Int.tmod_nonneg ((N : Int) + 1) (show 0 ≤ Int.tmod at' ((N : Int) + 1) + N + 1 by omega)
    omega
  · have := Int.tmod_lt_of_pos (Int.tmod at' ((N : Int) + 1) + N + 1) hp
    omega

set_option maxRecDepth 100000 in
set_option maxHeartbeats 4000000 in
theorem folds_walk (op at' : Int) (G : List Int) (v : Value) (w : World) (hG : ∀ y ∈ G, R64 y) (hat : R64 at') (hv : GSl w v G) : Calls Try.prog 4 #[.int .i64 op, v, .int .i64 at'] w fun e w' => e = .returned (.bool true) ∧ Below w.heap.size w w' := by
  have HV0 := hv
  obtain ⟨a1, c1, b1, o1, rfl, h2, h3, h4, h5⟩ := hv
  obtain ⟨N, hN⟩ : ∃ N, G.length = N := ⟨_, rfl⟩
  have HN : Hid (G.length = N) := hN
  rw [hN] at h2 h4 HV0 ⊢
  have HV : Hid (GSl w (.slice a1 N c1) G) := HV0
  unfold maxLen at h3
  clear hN h5 HV0 h4
  by_cases h6 : 500 < N
  · have e1 : decide (500 < (N : Int)) = true := by simp; omega
    go_enter Try.func4, Try.ntmps4
    go_wp2
    go_ret
    exact ⟨rfl, Below.refl _ _⟩
  have e1 : decide (500 < (N : Int)) = false := by simp; omega
  obtain ⟨r, k, t1, t2, t3, t4, t5⟩ := turn_facts at' N (by omega)
  have HF1 : Hid (Calls Try.prog 11 #[.int .i64 op, .slice a1 N c1] w fun e w' => e = .returned (.int .i64 (foldI op G)) ∧ w' = w) := fold_any op G _ w HV.out
  have HF2 : Hid (Calls Try.prog 12 #[.int .i64 op, .slice a1 N c1] w fun e w' => e = .returned (.int .i64 (foldI op G)) ∧ Below w.heap.size w w') := rfold_any op G _ w hG HV.out
  have HSW : Hid (foldI op (G.drop k ++ G.take k) = foldI op G) := by
    show _ = _
    rw [fold_swap op _ _ (fun y hy => hG y (List.mem_of_mem_drop hy)) (fun y hy => hG y (List.mem_of_mem_take hy)), List.take_append_drop]
  generalize foldI op G = F at *
  have g1 : (F != F) = false := by simp
  have g2 : (F == F) = true := by simp
  have HD : Hid (∀ W, Below w.heap.size w W → GSl W (sliced a1 k N c1 1) (G.drop k)) := fun W hW => (HV.out.below hW).drop k t5
  have HT : Hid (∀ W, Below w.heap.size w W → GSl W (.slice a1 k c1) (G.take k)) := fun W hW => (HV.out.below hW).take k t5
  have HDL : Hid ((G.drop k).length ≤ 500 ∧ (G.take k).length ≤ 500) := by
    show _ ∧ _
    have := HN.out
    simp
    omega
  obtain ⟨D, hD⟩ : ∃ D, G.drop k = D := ⟨_, rfl⟩
  obtain ⟨E, hE⟩ : ∃ E, G.take k = E := ⟨_, rfl⟩
  rw [hD] at HD HSW HDL
  rw [hE] at HT HSW HDL
  clear hG hD hE HV HN
  by_cases hck : c1 = k
  · by_cases hk0 : k = 0
    · have hN0 : N = 0 := by omega
      subst hck hk0 hN0
      have HCK : Hid ((0 : Nat) = 0) := rfl
      have HC0 : Hid ((0 : Nat) = 0) := rfl
      go_enter Try.func4, Try.ntmps4
      go_wp2_with fail
      refine HF1.out.mono ?_
      rintro e w1 ⟨rfl, hw1⟩
      rw [hw1]
      clear hw1 w1
      go_wp2_with fail
      refine HF2.out.mono ?_
      rintro e w2 ⟨rfl, b2⟩
      have B2 : Hid (Below w.heap.size w w2) := b2
      clear b2
      have HDD : Hid (GSl w2 (.slice a1 0 0) D) := by show GSl _ _ _; have := HD.out w2 B2.out; simpa [sliced, HCK.out] using this
      go_wp2_with (at_builtin; refine push_ints _ rfl _ _ rfl w2.heap.size (.slice none 0 0) _ [] D rfl rfl (IZ.nil _ _) HDD.out ?hl1 (Nat.le_refl _) ?_)
      case hl1 => have := HDL.out; simp; omega
      intro v3 w3 hi3 hb3
      have B3 : Hid (Below w.heap.size w w3) := B2.out.trans (hb3.mono B2.out.size)
      obtain ⟨a3, c3, hv3⟩ := hi3.sl
      rw [hv3] at hi3
      rw [hv3]
      obtain ⟨L3, hL3⟩ : ∃ L3, D.length = L3 := ⟨_, rfl⟩
      rw [hL3] at hi3
      rw [hL3]
      have I3 : Hid (IZ w3 w2.heap.size (.slice a3 L3 c3) D) := hi3
      have S3 : Hid (w2.heap.size ≤ w3.heap.size) := hb3.size
      have HTT := HT.out w3 B3.out
      clear hi3 hb3 hv3 hL3
      go_wp2_with (at_builtin; refine push_ints _ rfl _ _ rfl w2.heap.size _ _ D E rfl rfl I3.out HTT ?hl2 S3.out ?_)
      case hl2 => have := HDL.out; omega
      intro v4 w4 hi4 hb4
      have B4 : Hid (Below w.heap.size w w4) := B3.out.trans (hb4.mono B2.out.size)
      obtain ⟨a4, c4, hv4⟩ := hi4.sl
      rw [hv4] at hi4
      rw [hv4]
      obtain ⟨L4, hL4⟩ : ∃ L4, (D ++ E).length = L4 := ⟨_, rfl⟩
      rw [hL4] at hi4
      rw [hL4]
      have HF3 : Hid (Calls Try.prog 11 #[.int .i64 op, .slice a4 L4 c4] w4 fun e w' => e = .returned (.int .i64 F) ∧ w' = w4) := by have := fold_any op _ _ w4 hi4.gsl; rw [HSW.out] at this; exact this
      clear hi4 hb4 hv4 hL4
      go_wp2_with fail
      refine HF3.out.mono ?_
      rintro e w5 ⟨rfl, hw5⟩
      rw [hw5]
      clear hw5 w5
      go_wp2_with fail
      refine (alive_any w4).mono ?_
      rintro e wz ⟨rfl, bz⟩
      have BZ : Hid (Below w.heap.size w wz) := B4.out.trans (bz.mono B4.out.size)
      clear bz
      go_wp2
      go_ret
      exact ⟨rfl, BZ.out⟩
    · have hNk : N = k := by omega
      subst hck hNk
      have HCK : Hid (¬ (N = 0)) := hk0
      have HC0 : Hid (¬ (N = 0)) := hk0
      go_enter Try.func4, Try.ntmps4
      go_wp2_with fail
      refine HF1.out.mono ?_
      rintro e w1 ⟨rfl, hw1⟩
      rw [hw1]
      clear hw1 w1
      go_wp2_with fail
      refine HF2.out.mono ?_
      rintro e w2 ⟨rfl, b2⟩
      have B2 : Hid (Below w.heap.size w w2) := b2
      clear b2
      have HDD : Hid (GSl w2 (.slice a1 0 0) D) := by show GSl _ _ _; have := HD.out w2 B2.out; simpa [sliced, HCK.out] using this
      go_wp2_with (at_builtin; refine push_ints _ rfl _ _ rfl w2.heap.size (.slice none 0 0) _ [] D rfl rfl (IZ.nil _ _) HDD.out ?hl1 (Nat.le_refl _) ?_)
      case hl1 => have := HDL.out; simp; omega
      intro v3 w3 hi3 hb3
      have B3 : Hid (Below w.heap.size w w3) := B2.out.trans (hb3.mono B2.out.size)
      obtain ⟨a3, c3, hv3⟩ := hi3.sl
      rw [hv3] at hi3
      rw [hv3]
      obtain ⟨L3, hL3⟩ : ∃ L3, D.length = L3 := ⟨_, rfl⟩
      rw [hL3] at hi3
      rw [hL3]
      have I3 : Hid (IZ w3 w2.heap.size (.slice a3 L3 c3) D) := hi3
      have S3 : Hid (w2.heap.size ≤ w3.heap.size) := hb3.size
      have HTT := HT.out w3 B3.out
      clear hi3 hb3 hv3 hL3
      go_wp2_with (at_builtin; refine push_ints _ rfl _ _ rfl w2.heap.size _ _ D E rfl rfl I3.out HTT ?hl2 S3.out ?_)
      case hl2 => have := HDL.out; omega
      intro v4 w4 hi4 hb4
      have B4 : Hid (Below w.heap.size w w4) := B3.out.trans (hb4.mono B2.out.size)
      obtain ⟨a4, c4, hv4⟩ := hi4.sl
      rw [hv4] at hi4
      rw [hv4]
      obtain ⟨L4, hL4⟩ : ∃ L4, (D ++ E).length = L4 := ⟨_, rfl⟩
      rw [hL4] at hi4
      rw [hL4]
      have HF3 : Hid (Calls Try.prog 11 #[.int .i64 op, .slice a4 L4 c4] w4 fun e w' => e = .returned (.int .i64 F) ∧ w' = w4) := by have := fold_any op _ _ w4 hi4.gsl; rw [HSW.out] at this; exact this
      clear hi4 hb4 hv4 hL4
      go_wp2_with fail
      refine HF3.out.mono ?_
      rintro e w5 ⟨rfl, hw5⟩
      rw [hw5]
      clear hw5 w5
      go_wp2_with fail
      refine (alive_any w4).mono ?_
      rintro e wz ⟨rfl, bz⟩
      have BZ : Hid (Below w.heap.size w wz) := B4.out.trans (bz.mono B4.out.size)
      clear bz
      go_wp2
      go_ret
      exact ⟨rfl, BZ.out⟩
  · have hc0 : ¬ c1 = 0 := by omega
    have HCK : Hid (¬ c1 = k) := hck
    have HC0 : Hid (¬ c1 = 0) := hc0
    go_enter Try.func4, Try.ntmps4
    go_wp2_with fail
    refine HF1.out.mono ?_
    rintro e w1 ⟨rfl, hw1⟩
    rw [hw1]
    clear hw1 w1
    go_wp2_with fail
    refine HF2.out.mono ?_
    rintro e w2 ⟨rfl, b2⟩
    have B2 : Hid (Below w.heap.size w w2) := b2
    clear b2
    have HDD : Hid (GSl w2 (.slice (a1.map (fun x => x.add k)) (N - k) (c1 - k)) D) := by show GSl _ _ _; have := HD.out w2 B2.out; simpa [sliced, HCK.out] using this
    go_wp2_with (at_builtin; refine push_ints _ rfl _ _ rfl w2.heap.size (.slice none 0 0) _ [] D rfl rfl (IZ.nil _ _) HDD.out ?hl1 (Nat.le_refl _) ?_)
    case hl1 => have := HDL.out; simp; omega
    intro v3 w3 hi3 hb3
    have B3 : Hid (Below w.heap.size w w3) := B2.out.trans (hb3.mono B2.out.size)
    obtain ⟨a3, c3, hv3⟩ := hi3.sl
    rw [hv3] at hi3
    rw [hv3]
    obtain ⟨L3, hL3⟩ : ∃ L3, D.length = L3 := ⟨_, rfl⟩
    rw [hL3] at hi3
    rw [hL3]
    have I3 : Hid (IZ w3 w2.heap.size (.slice a3 L3 c3) D) := hi3
    have S3 : Hid (w2.heap.size ≤ w3.heap.size) := hb3.size
    have HTT := HT.out w3 B3.out
    clear hi3 hb3 hv3 hL3
    go_wp2_with (at_builtin; refine push_ints _ rfl _ _ rfl w2.heap.size _ _ D E rfl rfl I3.out HTT ?hl2 S3.out ?_)
    case hl2 => have := HDL.out; omega
    intro v4 w4 hi4 hb4
    have B4 : Hid (Below w.heap.size w w4) := B3.out.trans (hb4.mono B2.out.size)
    obtain ⟨a4, c4, hv4⟩ := hi4.sl
    rw [hv4] at hi4
    rw [hv4]
    obtain ⟨L4, hL4⟩ : ∃ L4, (D ++ E).length = L4 := ⟨_, rfl⟩
    rw [hL4] at hi4
    rw [hL4]
    have HF3 : Hid (Calls Try.prog 11 #[.int .i64 op, .slice a4 L4 c4] w4 fun e w' => e = .returned (.int .i64 F) ∧ w' = w4) := by have := fold_any op _ _ w4 hi4.gsl; rw [HSW.out] at this; exact this
    clear hi4 hb4 hv4 hL4
    go_wp2_with fail
    refine HF3.out.mono ?_
    rintro e w5 ⟨rfl, hw5⟩
    rw [hw5]
    clear hw5 w5
    go_wp2_with fail
    refine (alive_any w4).mono ?_
    rintro e wz ⟨rfl, bz⟩
    have BZ : Hid (Below w.heap.size w wz) := B4.out.trans (bz.mono B4.out.size)
    clear bz
    go_wp2
    go_ret
    exact ⟨rfl, BZ.out⟩
end Go.Proofs.Ytlcgoobjpnpfhab
