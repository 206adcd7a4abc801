/- A memory is made again of its cells, a second one of where it differs from a first one. -/
import Derived.Test.YtlcgoobjpnpfhaaM8
namespace Go.Proofs.Ytlcgoobjpnpfhaa
open Go.RowKit Go.Maps
set_option linter.unusedVariables false

theorem lastC_diff (a b : List Int) : ∀ (q i : Nat), lastC (diffQ a b q) (i : Int) = if i < q ∧ a.getD i 0 ≠ b.getD i 0 then some (b.getD i 0) else none
  | 0, i => by simp [diffQ, lastC]
  | q + 1, i => by
    rw [diffQ_succ]
    unfold diffX
    by_cases hd : a.getD q 0 = b.getD q 0
    · rw [if_pos hd, List.append_nil, lastC_diff a b q i]
      by_cases hi : i < q ∧ a.getD i 0 ≠ b.getD i 0
      · rw [if_pos hi, if_pos ⟨by omega, hi.2⟩]
      · rw [if_neg hi, if_neg]
        rintro ⟨h1, h2⟩
        rcases Nat.lt_or_ge i q with h | h
        · exact hi ⟨h, h2⟩
        · have : i = q := by omega
          subst this
          exact h2 hd
    · rw [if_neg hd, lastC_snoc, lastC_diff a b q i]
      by_cases hq : (q : Int) = (i : Int)
      · have : i = q := by omega
        subst this
        rw [if_pos rfl, if_pos ⟨by omega, hd⟩]
      · rw [if_neg hq]
        by_cases hi : i < q ∧ a.getD i 0 ≠ b.getD i 0
        · rw [if_pos hi, if_pos ⟨by omega, hi.2⟩]
        · rw [if_neg hi, if_neg]
          rintro ⟨h1, h2⟩
          exact hi ⟨by omega, h2⟩
theorem ofE_snoc (n : Int) (c : Int × Int) : ∀ (L d : List (Int × Int)), ofE n d (L ++ [c]) = if ofE n d L = 0 then (if withinB c.1 n = true then (if (lastC (d ++ L) c.1).isSome = true then 61 else 0) else 131) else ofE n d L
  | [], d => by simp [ofE]
  | x :: L, d => by
    rw [List.cons_append, ofE, ofE]
    by_cases hw : withinB x.1 n = true
    · rw [if_pos hw, if_pos hw]
      by_cases hs : (lastC d x.1).isSome = true
      · rw [if_pos hs, if_pos hs]; rfl
      · rw [if_neg hs, if_neg hs, ofE_snoc n c L (d ++ [x]), List.append_assoc, List.singleton_append]
    · rw [if_neg hw, if_neg hw]; rfl
theorem putE_snoc (n : Int) (c : Int × Int) : ∀ (L : List (Int × Int)), putE n (L ++ [c]) = if putE n L = 0 then (if withinB c.1 n = true then 0 else 131) else putE n L
  | [] => by simp [putE]
  | x :: L => by
    rw [List.cons_append, putE, putE]
    by_cases hw : withinB x.1 n = true
    · rw [if_pos hw, if_pos hw, putE_snoc n c L]
    · rw [if_neg hw, if_neg hw]; rfl
theorem within_nat (q N : Nat) (h : q < N) : withinB (q : Int) (N : Int) = true := by unfold withinB; simp; omega
theorem ofE_diff (a b : List Int) (N : Nat) : ∀ q, q ≤ N → ofE (N : Int) [] (diffQ a b q) = 0
  | 0, _ => rfl
  | q + 1, h => by
    rw [diffQ_succ]
    unfold diffX
    split
    · rw [List.append_nil]; exact ofE_diff a b N q (by omega)
    · rw [ofE_snoc, ofE_diff a b N q (by omega), if_pos rfl, if_pos (within_nat q N (by omega)), List.nil_append, lastC_diff]
      simp
theorem putE_diff (a b : List Int) (N : Nat) : ∀ q, q ≤ N → putE (N : Int) (diffQ a b q) = 0
  | 0, _ => rfl
  | q + 1, h => by
    rw [diffQ_succ]
    unfold diffX
    split
    · rw [List.append_nil]; exact putE_diff a b N q (by omega)
    · rw [putE_snoc, putE_diff a b N q (by omega), if_pos rfl, if_pos (within_nat q N (by omega))]
theorem putM_diff (a b : List Int) (h : a.length = b.length) : putM a (diffL a b) = b := by
  unfold diffL
  apply List.ext_getElem
  · simp [putM, h]
  · intro i h1 h2
    have h3 : i < a.length := by omega
    have h4 : i < min a.length b.length := by omega
    simp only [putM, List.getElem_map, List.getElem_range, lastC_diff]
    have e1 : a.getD i 0 = a[i] := by simp [List.getD, h3]
    have e2 : b.getD i 0 = b[i] := by simp [List.getD, h2]
    rw [e1, e2]
    by_cases hd : a[i] = b[i]
    · rw [if_neg (by rintro ⟨_, hh⟩; exact hh hd)]; exact hd
    · rw [if_pos ⟨h4, hd⟩]; rfl
theorem ofM_cells (a : List Int) : ofM a.length (cellsL a) = a := by
  unfold cellsL diffL
  apply List.ext_getElem
  · simp [ofM]
  · intro i h1 h2
    have h4 : i < min (zer a.length).length a.length := by simp [zer]; exact h2
    simp only [ofM, List.getElem_map, List.getElem_range, lastC_diff]
    have e1 : (zer a.length).getD i 0 = 0 := by simp [zer, List.getD, h2]
    have e2 : a.getD i 0 = a[i] := by simp [List.getD, h2]
    rw [e1, e2]
    by_cases hd : (0 : Int) = a[i]
    · rw [if_neg (by rintro ⟨_, hh⟩; exact hh hd)]; exact hd
    · rw [if_pos ⟨h4, hd⟩]; rfl
theorem diff_self (a : List Int) : diffL a a = [] := by
  unfold diffL diffQ
  rw [List.flatMap_eq_nil_iff]
  intro i hi
  simp [diffX]

set_option maxRecDepth 100000 in
set_option maxHeartbeats 4000000 in
theorem back_walk (A B : List Int) (va vb : Value) (w : World) (ha : GSl w va A) (hb : GSl w vb B) : Calls Try.prog 5 #[va, vb] w fun e w' => e = .returned (.bool true) ∧ Below w.heap.size w w' := by
  have ha0 := ha
  have hb0 := hb
  obtain ⟨a1, c1, _, _, rfl, _⟩ := ha
  obtain ⟨a2, c2, _, _, rfl, _⟩ := hb
  obtain ⟨N, hN⟩ : ∃ N, A.length = N := ⟨_, rfl⟩
  obtain ⟨M, hM⟩ : ∃ M, B.length = M := ⟨_, rfl⟩
  have HN : Hid (A.length = N) := hN
  have HM : Hid (B.length = M) := hM
  rw [hN] at ha0 ⊢
  rw [hM] at hb0 ⊢
  have HA : Hid (∀ W, Below w.heap.size w W → GSl W (.slice a1 N c1) A) := fun W hW => ha0.below hW
  have HBB : Hid (∀ W, Below w.heap.size w W → GSl W (.slice a2 M c2) B) := fun W hW => hb0.below hW
  clear hN hM ha0 hb0
  by_cases h1 : (N : Int) < 1
  · have e1 : decide ((N : Int) < 1) = true := by simp [h1]
    go_enter Try.func5, Try.ntmps5
    go_wp2
    go_ret
    exact ⟨rfl, Below.refl _ _⟩
  have e1 : decide ((N : Int) < 1) = false := by simp; omega
  by_cases h2 : 64 < N
  · have e2 : decide (64 < (N : Int)) = true := by simp; omega
    go_enter Try.func5, Try.ntmps5
    go_wp2
    go_ret
    exact ⟨rfl, Below.refl _ _⟩
  have e2 : decide (64 < (N : Int)) = false := by simp; omega
  by_cases h3 : N = M
  case neg =>
    have e3 : ((N : Int) != (M : Int)) = true := by simp; omega
    go_enter Try.func5, Try.ntmps5
    go_wp2
    go_ret
    exact ⟨rfl, Below.refl _ _⟩
  subst h3
  have e3 : ((N : Int) != (N : Int)) = false := by simp
  have HAB : Hid (A.length = B.length) := HN.out.trans HM.out.symm
  have HCELL : Hid (∀ W, Below w.heap.size w W → Calls Try.prog 16 #[.slice a1 N c1] W (DiffP (cellsL A) W)) := fun W hW => cells_any A _ (by rw [HN.out]; omega) W (HA.out W hW)
  have HOF : Hid (∀ W oa oc, PSl W (.slice oa (cellsL A).length oc) (cellsL A) → Calls Try.prog 9 #[.int .i64 (N : Int), .slice oa (cellsL A).length oc] W fun e w' => e = .returned (.tuple #[.slice (some ⟨W.heap.size, 0, none⟩) N N, .int .i64 0]) ∧ GSl w' (.slice (some ⟨W.heap.size, 0, none⟩) N N) A ∧ Below W.heap.size W w') := by
    intro W oa oc hp
    refine (of_any (N : Int) (cellsL A) _ W (by have := cellsL_len A; rw [HN.out] at this; omega) hp).mono ?_
    have h0 : ofA (N : Int) (cellsL A) = 0 := by
      unfold ofA
      rw [if_neg (by omega)]
      unfold cellsL diffL
      exact ofE_diff _ _ _ _ (by rw [HN.out]; omega)
    rintro e w' (⟨h, _⟩ | ⟨_, K, hK, h4, rfl, h5, h6⟩)
    · exact absurd h0 h
    · have : K = N := by omega
      subst this
      have e5 : ofM K (cellsL A) = A := by have := ofM_cells A; rw [HN.out] at this; exact this
      rw [e5] at h5
      have := GSl.blkAny h5 (by rw [HN.out]; omega)
      rw [HN.out] at this
      exact ⟨rfl, this, h6⟩
  have HDIFF : Hid (∀ W, Below w.heap.size w W → Calls Try.prog 18 #[.slice a1 N c1, .slice a2 N c2] W (DiffP (diffL A B) W)) := fun W hW => diff_any A B _ _ ⟨by rw [HN.out]; omega, by rw [HM.out]; omega⟩ W (HA.out W hW) (HBB.out W hW)
  have HPUT : Hid (∀ W oa oc, Below w.heap.size w W → PSl W (.slice oa (diffL A B).length oc) (diffL A B) → Calls Try.prog 13 #[.slice a1 N c1, .slice oa (diffL A B).length oc] W fun e w' => e = .returned (.tuple #[.slice (some ⟨W.heap.size, 0, none⟩) N N, .int .i64 0]) ∧ GSl w' (.slice (some ⟨W.heap.size, 0, none⟩) N N) B ∧ Below W.heap.size W w') := by
    intro W oa oc hW hp
    refine (put_any A (diffL A B) _ _ W (by rw [HN.out]; omega) (by have := diffL_len A B; rw [HN.out] at this; omega) (HA.out W hW) hp).mono ?_
    have h0 : putE (A.length : Int) (diffL A B) = 0 := by unfold diffL; exact putE_diff _ _ _ _ (by omega)
    rintro e w' (⟨h, _⟩ | ⟨_, rfl, h5, h6⟩)
    · exact absurd h0 h
    · rw [putM_diff A B HAB.out] at h5
      have := GSl.blkAny h5 (by rw [HM.out]; omega)
      rw [HM.out] at this
      exact ⟨by rw [HN.out], this, h6⟩
  have HDS : Hid (∀ W, Below w.heap.size w W → Calls Try.prog 18 #[.slice a1 N c1, .slice a1 N c1] W fun e w' => ∃ oa oc, e = .returned (.slice oa 0 oc) ∧ Below W.heap.size W w') := fun W hW => by
    refine (diff_any A A _ _ ⟨by rw [HN.out]; omega, by rw [HN.out]; omega⟩ W (HA.out W hW) (HA.out W hW)).mono ?_
    rintro e w' ⟨oa, oc, rfl, h5, h6⟩
    rw [diff_self] at h5 ⊢
    exact ⟨oa, oc, rfl, h6⟩
  generalize hc : (cellsL A).length = cn at *
  generalize hd : (diffL A B).length = dn at *
  have HCELL2 : Hid (∀ W, Below w.heap.size w W → Calls Try.prog 16 #[.slice a1 N c1] W fun e w' => ∃ oa oc, e = .returned (.slice oa cn oc) ∧ PSl w' (.slice oa cn oc) (cellsL A) ∧ Below W.heap.size W w') := fun W hW => by
    refine (HCELL.out W hW).mono ?_
    rintro e w' ⟨oa, oc, rfl, h5, h6⟩
    rw [hc] at h5 ⊢
    exact ⟨oa, oc, rfl, h5.psl, h6⟩
  have HDIFF2 : Hid (∀ W, Below w.heap.size w W → Calls Try.prog 18 #[.slice a1 N c1, .slice a2 N c2] W fun e w' => ∃ oa oc, e = .returned (.slice oa dn oc) ∧ PSl w' (.slice oa dn oc) (diffL A B) ∧ Below W.heap.size W w') := fun W hW => by
    refine (HDIFF.out W hW).mono ?_
    rintro e w' ⟨oa, oc, rfl, h5, h6⟩
    rw [hd] at h5 ⊢
    exact ⟨oa, oc, rfl, h5.psl, h6⟩
  clear HCELL HDIFF hc hd
  go_enter Try.func5, Try.ntmps5
  go_wp2_with fail
  refine (HCELL2.out w (Below.refl _ _)).mono ?_
  rintro e w1 ⟨oa, oc, rfl, hp1, hb1⟩
  have HO1 := HOF.out w1 oa oc hp1
  have HO1' : Hid (Calls Try.prog 9 #[.int .i64 (N : Int), .slice oa cn oc] w1 fun e w' => e = .returned (.tuple #[.slice (some ⟨w1.heap.size, 0, none⟩) N N, .int .i64 0]) ∧ GSl w' (.slice (some ⟨w1.heap.size, 0, none⟩) N N) A ∧ Below w1.heap.size w1 w') := HO1
  have HB1 : Hid (Below w.heap.size w w1) := hb1
  clear hp1 hb1 HO1
  go_wp2_with fail
  refine HO1'.out.mono ?_
  rintro e w2 ⟨rfl, hg2, hb2⟩
  have G2 : Hid (GSl w2 (.slice (some ⟨w1.heap.size, 0, none⟩) N N) A) := hg2
  have HB2 : Hid (Below w.heap.size w w2) := HB1.out.trans (hb2.mono HB1.out.size)
  clear hg2 hb2 HO1'
  go_wp2_with fail
  refine (HDIFF2.out w2 HB2.out).mono ?_
  rintro e w3 ⟨pa, pc, rfl, hp3, hb3⟩
  have HB3 : Hid (Below w.heap.size w w3) := HB2.out.trans (hb3.mono HB2.out.size)
  have HP3 : Hid (Calls Try.prog 13 #[.slice a1 N c1, .slice pa dn pc] w3 fun e w' => e = .returned (.tuple #[.slice (some ⟨w3.heap.size, 0, none⟩) N N, .int .i64 0]) ∧ GSl w' (.slice (some ⟨w3.heap.size, 0, none⟩) N N) B ∧ Below w3.heap.size w3 w') := HPUT.out w3 pa pc HB3.out hp3
  have G3 : Hid (GSl w3 (.slice (some ⟨w1.heap.size, 0, none⟩) N N) A) := G2.out.below hb3
  clear hp3 hb3 G2
  go_wp2_with fail
  refine HP3.out.mono ?_
  rintro e w4 ⟨rfl, hg4, hb4⟩
  have HB4 : Hid (Below w.heap.size w w4) := HB3.out.trans (hb4.mono HB3.out.size)
  have K4 : Hid (GSl w4 (.slice (some ⟨w3.heap.size, 0, none⟩) N N) B) := hg4
  have HR1 : Hid (Calls Try.prog 11 #[.slice (some ⟨w1.heap.size, 0, none⟩) N N, .slice a1 N c1] w4 fun e w' => e = .returned (.bool true) ∧ Below w4.heap.size w4 w') := row_same A _ _ (by rw [HN.out]; omega) w4 (G3.out.below hb4) (HA.out w4 HB4.out)
  clear hg4 hb4 G3 HP3
  go_wp2_with fail
  refine HR1.out.mono ?_
  rintro e w5 ⟨rfl, hb5⟩
  have HB5 : Hid (Below w.heap.size w w5) := HB4.out.trans (hb5.mono HB4.out.size)
  have HR2 : Hid (Calls Try.prog 11 #[.slice (some ⟨w3.heap.size, 0, none⟩) N N, .slice a2 N c2] w5 fun e w' => e = .returned (.bool true) ∧ Below w5.heap.size w5 w') := row_same B _ _ (by rw [HM.out]; omega) w5 (K4.out.below hb5) (HBB.out w5 HB5.out)
  clear hb5 K4 HR1
  go_wp2_with fail
  refine HR2.out.mono ?_
  rintro e w6 ⟨rfl, hb6⟩
  have HB6 : Hid (Below w.heap.size w w6) := HB5.out.trans (hb6.mono HB5.out.size)
  clear hb6 HR2
  go_wp2_with fail
  refine (HDS.out w6 HB6.out).mono ?_
  rintro e w7 ⟨qa, qc, rfl, hb7⟩
  have HB7 : Hid (Below w.heap.size w w7) := HB6.out.trans (hb7.mono HB6.out.size)
  clear hb7
  go_wp2_with fail
  refine (malive_any w7).mono ?_
  rintro e wz ⟨rfl, bz⟩
  have BZ : Hid (Below w.heap.size w wz) := HB7.out.trans (bz.mono HB7.out.size)
  clear bz
  go_wp2
  go_ret
  exact ⟨rfl, BZ.out⟩
end Go.Proofs.Ytlcgoobjpnpfhaa
