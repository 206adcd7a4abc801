/- An overlay's cells, put on a memory: the walk of the law. -/
import Derived.Test.YtlcgoobjpnpfhaaMAc
namespace Go.Proofs.Ytlcgoobjpnpfhaa
open Go.RowKit Go.Maps
set_option linter.unusedVariables false

theorem below_drewN {B : Nat} {a b : World} (h : Below B a b) (n : Nat) : Below B a (b.drewN n) := ⟨h.os, h.tape, h.output, h.size, h.block⟩
/-- the cells of a memory's places alone -/
def fitL (N : Nat) (C : List (Int × Int)) : List (Int × Int) := C.filter fun c => withinB c.1 N
theorem fitL_snoc (N : Nat) (C : List (Int × Int)) (c : Int × Int) : fitL N (C ++ [c]) = if withinB c.1 N = true then fitL N C ++ [c] else fitL N C := by
  unfold fitL
  rw [List.filter_append]
  split <;> simp_all
theorem lastC_mem : ∀ (S : List (Int × Int)) (k v : Int), lastC S k = some v → ∃ c ∈ S, c.1 = k
  | [], k, v, h => by simp [lastC] at h
  | c :: S, k, v, h => by
    rw [lastC] at h
    cases hl : lastC S k with
    | some u => obtain ⟨d, hd, e⟩ := lastC_mem S k u hl; exact ⟨d, by simp [hd], e⟩
    | none =>
      rw [hl] at h
      simp only at h
      split at h
      · rename_i he; exact ⟨c, by simp, he⟩
      · cases h
theorem fit_none (N : Nat) (C : List (Int × Int)) (i : Nat) (h : N ≤ i) : lastC (fitL N C) (i : Int) = none := by
  cases hl : lastC (fitL N C) (i : Int) with
  | none => rfl
  | some v =>
    obtain ⟨c, hc, e⟩ := lastC_mem _ _ _ hl
    unfold fitL at hc
    have := (List.mem_filter.1 hc).2
    unfold withinB at this
    simp at this
    omega
theorem lastC_all (S : List (Int × Int)) : ∀ (q i : Nat), lastC (allQ S q) (i : Int) = if i < q then lastC S (i : Int) else none
  | 0, i => by simp [allQ, lastC]
  | q + 1, i => by
    rw [allQ_succ]
    cases hl : lastC S (q : Int) with
    | none =>
      rw [allX_none hl, List.append_nil, lastC_all S q i]
      by_cases hi : i < q
      · rw [if_pos hi, if_pos (by omega)]
      · rw [if_neg hi]
        by_cases hi2 : i = q
        · subst hi2; rw [if_pos (by omega), hl]
        · rw [if_neg (by omega)]
    | some y =>
      rw [allX_some hl, lastC_snoc, lastC_all S q i]
      by_cases hq : (q : Int) = (i : Int)
      · have : i = q := by omega
        subst this
        rw [if_pos rfl, if_pos (by omega), hl]
      · rw [if_neg hq]
        by_cases hi : i < q
        · rw [if_pos hi, if_pos (by omega)]
        · rw [if_neg hi, if_neg (by omega)]
theorem putE_all (S : List (Int × Int)) (N : Nat) (h : ∀ i : Nat, N ≤ i → lastC S (i : Int) = none) : ∀ q, putE (N : Int) (allQ S q) = 0
  | 0 => rfl
  | q + 1 => by
    rw [allQ_succ]
    cases hl : lastC S (q : Int) with
    | none => rw [allX_none hl, List.append_nil]; exact putE_all S N h q
    | some y =>
      have : q < N := by
        rcases Nat.lt_or_ge q N with h1 | h1
        · exact h1
        · rw [h q h1] at hl; cases hl
      rw [allX_some hl, putE_snoc, putE_all S N h q, if_pos rfl, if_pos (within_nat q N this)]
theorem putM_all (A : List Int) (S : List (Int × Int)) (hA : A.length ≤ 64) (i : Nat) (h : i < A.length) : (putM A (allL S))[i]'(by rw [putM_len]; exact h) = (lastC S (i : Int)).getD A[i] := by
  simp only [putM, List.getElem_map, List.getElem_range]
  unfold allL
  rw [lastC_all, if_pos (by omega)]
  simp [List.getD, h]

set_option maxRecDepth 100000 in
set_option maxHeartbeats 8000000 in
theorem lays_walk (A : List Int) (C : List (Int × Int)) (va vc : Value) (w : World) (ha : GSl w va A) (hc : PSl w vc C) : Calls Try.prog 7 #[va, vc] w fun e w' => e = .returned (.bool true) ∧ Below w.heap.size w w' := by
  have ha0 := ha
  obtain ⟨a1, c1, b1, o1, rfl, l2, l3, l4, l5⟩ := ha
  obtain ⟨a2, c2, b2, o2, rfl, k2, k3, k4, k5⟩ := hc
  obtain ⟨N, hN⟩ : ∃ N, A.length = N := ⟨_, rfl⟩
  obtain ⟨K, hK⟩ : ∃ K, C.length = K := ⟨_, rfl⟩
  have HN : Hid (A.length = N) := hN
  have HK : Hid (C.length = K) := hK
  have L5 : Hid (∀ i (h : i < A.length), w.cell? ⟨b1, o1 + i, none⟩ = some (.int .i64 A[i])) := l5
  have L4 : Hid (0 < A.length → a1 = some ⟨b1, o1, none⟩) := l4
  have K5 : Hid (∀ i (h : i < C.length), w.cell? ⟨b2, o2 + i * 2, none⟩ = some (.int .i64 C[i].1) ∧ w.cell? ⟨b2, o2 + (i * 2 + 1), none⟩ = some (.int .i64 C[i].2)) := k5
  have K4 : Hid (0 < C.length → a2 = some ⟨b2, o2, none⟩) := k4
  rw [hN] at l2 ha0 ⊢
  rw [hK] at k2 ⊢
  have HA : Hid (∀ W, Below w.heap.size w W → GSl W (.slice a1 N c1) A) := fun W hW => ha0.below hW
  unfold maxLen at l3 k3
  clear hN hK ha0 l4 l5 k4 k5
  by_cases h1 : 64 < N
  · have e1 : decide (64 < (N : Int)) = true := by simp; omega
    go_enter Try.func7, Try.ntmps7
    go_wp2
    go_ret
    exact ⟨rfl, Below.refl _ _⟩
  have e1 : decide (64 < (N : Int)) = false := by simp; omega
  by_cases h2 : 300 < K
  · have e2 : decide (300 < (K : Int)) = true := by simp; omega
    go_enter Try.func7, Try.ntmps7
    go_wp2
    go_ret
    exact ⟨rfl, Below.refl _ _⟩
  have e2 : decide (300 < (K : Int)) = false := by simp; omega
  have HO0 : Hid (OV (w.alloc (Obj.cells ovZ 42)) w.heap.size (fitL N (C.take 0))) := OV.new w
  have HB0 : Hid (Below w.heap.size w (w.alloc (Obj.cells ovZ 42))) := (Below.refl _ _).alloc (Nat.le_refl _) _
  have hz42 : ∀ W, (zeroValue 42).run Try.prog W = .ok (.agg ovZ) W := zero42
  go_enter Try.func7, Try.ntmps7
  go_wp2_with fail
  go_loopw [6] (fun i wr => ∃ q : Nat, i = .int .i64 (q : Int) ∧ q ≤ K ∧ Hid (OV wr w.heap.size (fitL N (C.take q))) ∧ Hid (Below w.heap.size w wr)) (fun i _ => K - (intOf i).toNat)
  case atStart => exact ⟨0, rfl, Nat.zero_le _, HO0, HB0⟩
  case round =>
    clear HO0 HB0 hz42
    obtain ⟨q, rfl, hq, HO, HB⟩ := hrel
    by_cases hlt : q < K
    · have q1 : q < C.length := by rw [HK.out]; exact hlt
      obtain rfl := K4.out (by omega)
      obtain ⟨z, hz⟩ : ∃ z, C[q] = z := ⟨_, rfl⟩
      obtain ⟨x, y⟩ := z
      have d1 : wr.cell? ⟨b2, o2 + q * 2, none⟩ = some (.int .i64 x) := by
        have := (K5.out q q1).1
        rw [hz] at this
        exact (HB.out.cell (p := ⟨b2, o2 + q * 2, none⟩) (World.block_lt_of_cell? w _ this)).trans this
      have d2 : wr.cell? ⟨b2, o2 + (q * 2 + 1), none⟩ = some (.int .i64 y) := by
        have := (K5.out q q1).2
        rw [hz] at this
        exact (HB.out.cell (p := ⟨b2, o2 + (q * 2 + 1), none⟩) (World.block_lt_of_cell? w _ this)).trans this
      have d3 : wr.cell? ⟨b2, o2 + q * 2 + 1, none⟩ = some (.int .i64 y) := d2
      have HF : Hid (fitL N (C.take (q + 1)) = if withinB x N = true then fitL N (C.take q) ++ [(x, y)] else fitL N (C.take q)) := by
        show _ = _
        rw [List.take_succ_eq_append_getElem q1, hz, fitL_snoc]
      have e3 : decide ((q : Int) < (K : Int)) = true := by simp; omega
      clear hz
      by_cases hx0 : 0 ≤ x
      · have e4 : decide (0 ≤ x) = true := by simp [hx0]
        by_cases hxN : x < (N : Int)
        · have e5 : decide (x < (N : Int)) = true := by simp [hxN]
          have hw64 : withinB x 64 = true := by unfold withinB; simp; omega
          have HF2 : Hid (fitL N (C.take (q + 1)) = fitL N (C.take q) ++ [(x, y)]) := by show _ = _; rw [HF.out, if_pos (by unfold withinB; simp; omega)]
          have HS : Hid (Calls Try.prog 20 #[.pointer (some ⟨w.heap.size, 0, none⟩), .int .i64 x, .int .i64 y] wr.drew fun e w' => e = .returned (.bool true) ∧ OV w' w.heap.size (fitL N (C.take (q + 1))) ∧ Ch (fun k => k = w.heap.size) wr.drew w') := by
            refine (oset_any w.heap.size (fitL N (C.take q)) x y wr.drew HO.out).mono ?_
            rintro e w' ⟨rfl, h5, h6⟩
            rw [hw64, if_pos rfl, ← HF2.out] at h5
            rw [hw64]
            exact ⟨rfl, h5, h6⟩
          go_wp2_with fail
          refine wp_region_still_tail 10 (by kernel_rfl) (by kernel_rfl) ?_
          simp only [List.take_succ_cons, List.take_zero, List.drop_succ_cons, List.drop_zero]
          repeat still_step
          refine wpStill_nil ?_
          go_wp2_with fail
          refine HS.out.mono ?_
          rintro e w5 ⟨rfl, h5, h6⟩
          have HO5 : Hid (OV w5 w.heap.size (fitL N (C.take (q + 1)))) := h5
          have HB5 : Hid (Below w.heap.size w w5) := HB.out.drew.trans (h6.below HB.out.drew.size (fun k hk => by omega))
          clear h5 h6
          go_wp2_with fail
          go_roundw
          case rel => exact ⟨q + 1, by go_num, by omega, HO5, HB5⟩
          case measure => simp [intOf]; omega
        · have e5 : decide (x < (N : Int)) = false := by simp; omega
          have HO2 : Hid (OV wr w.heap.size (fitL N (C.take (q + 1)))) := by show OV _ _ _; rw [HF.out, if_neg (by unfold withinB; simp; omega)]; exact HO.out
          go_wp2_with fail
          go_roundw
          case rel => exact ⟨q + 1, by go_num, by omega, HO2, HB⟩
          case measure => simp [intOf]; omega
      · have e4 : decide (0 ≤ x) = false := by simp; omega
        have HO2 : Hid (OV wr w.heap.size (fitL N (C.take (q + 1)))) := by show OV _ _ _; rw [HF.out, if_neg (by unfold withinB; simp; omega)]; exact HO.out
        go_wp2_with fail
        go_roundw
        case rel => exact ⟨q + 1, by go_num, by omega, HO2, HB⟩
        case measure => simp [intOf]; omega
    · have hqK : q = K := by omega
      subst hqK
      have e3 : decide ((q : Int) < (q : Int)) = false := by simp
      obtain ⟨S, hS⟩ : ∃ S, fitL N (C.take q) = S := ⟨_, rfl⟩
      have HNO : Hid (∀ i : Nat, N ≤ i → lastC S (i : Int) = none) := fun i hi => by rw [← hS]; exact fit_none N _ i hi
      rw [hS] at HO
      clear hS
      have HC : Hid (Calls Try.prog 26 #[.pointer (some ⟨w.heap.size, 0, none⟩)] wr (DiffP (allL S) wr)) := ocells_any w.heap.size S wr HO.out
      obtain ⟨cn, hcn⟩ : ∃ cn, (allL S).length = cn := ⟨_, rfl⟩
      have HCN : Hid ((allL S).length = cn) := hcn
      have HPUT : Hid (∀ W oa oc, Below w.heap.size w W → PSl W (.slice oa cn oc) (allL S) → Calls Try.prog 13 #[.slice a1 N c1, .slice oa cn oc] W fun e w' => e = .returned (.tuple #[.slice (some ⟨W.heap.size, 0, none⟩) N N, .int .i64 0]) ∧ w'.heap[W.heap.size]? = some (.cells (ints (putM A (allL S))) 2) ∧ Below W.heap.size W w') := by
        intro W oa oc hW hp
        refine (put_any A (allL S) _ _ W (by rw [HN.out]; omega) (by have := allQ_len S 64; unfold allL; omega) (HA.out W hW) hp).mono ?_
        have h0 : putE (A.length : Int) (allL S) = 0 := by rw [HN.out]; exact putE_all S N HNO.out 64
        rintro e w' (⟨h, _⟩ | ⟨_, rfl, h5, h6⟩)
        · exact absurd h0 h
        · exact ⟨by rw [HN.out], h5, h6⟩
      clear hcn
      rename World => W1
      go_wp2_with fail
      refine HC.out.mono ?_
      rintro e w2 ⟨oa, oc, rfl, hp2, hb2⟩
      rw [HCN.out] at hp2 ⊢
      have HB2 : Hid (Below w.heap.size w w2) := HB.out.trans (hb2.mono HB.out.size)
      have HO2 : Hid (OV w2 w.heap.size S) := HO.out.below hb2
      have HP2 : Hid (Calls Try.prog 13 #[.slice a1 N c1, .slice oa cn oc] w2 fun e w' => e = .returned (.tuple #[.slice (some ⟨w2.heap.size, 0, none⟩) N N, .int .i64 0]) ∧ w'.heap[w2.heap.size]? = some (.cells (ints (putM A (allL S))) 2) ∧ Below w2.heap.size w2 w') := HPUT.out w2 oa oc HB2.out hp2.psl
      clear hp2 hb2 HO HB HC
      go_wp2_with fail
      refine HP2.out.mono ?_
      rintro e w3 ⟨rfl, hm3, hb3⟩
      have HB3 : Hid (Below w.heap.size w w3) := HB2.out.trans (hb3.mono HB2.out.size)
      have HO3 : Hid (OV w3 w.heap.size S) := HO2.out.below hb3
      have HM3 : Hid (w3.heap[w2.heap.size]? = some (.cells (ints (putM A (allL S))) 2)) := hm3
      have e6 : ((N : Int) != (N : Int)) = false := by simp
      clear hm3 hb3 HO2 HP2
      go_wp2_with fail
      go_loopw [9] (fun i wr => ∃ p : Nat, i = .int .i64 (p : Int) ∧ p ≤ N ∧ Hid (OV wr w.heap.size S) ∧ Hid (Below w.heap.size w wr) ∧ Hid (wr.heap[w2.heap.size]? = some (.cells (ints (putM A (allL S))) 2))) (fun i _ => N - (intOf i).toNat)
      case atStart => exact ⟨0, rfl, Nat.zero_le _, HO3, HB3, HM3⟩
      case round =>
        clear HO3 HB3 HM3
        obtain ⟨p, rfl, hp, HO, HB, HM⟩ := hrel
        by_cases hlt2 : p < N
        · have p1 : p < A.length := by rw [HN.out]; exact hlt2
          obtain rfl := L4.out (by omega)
          have e7 : decide ((p : Int) < (N : Int)) = true := by simp; omega
          have n4 : (p : Int) < (N : Int) := by omega
          have n5 : (0 : Int) ≤ (p : Int) := by omega
          have HG : Hid (Calls Try.prog 21 #[.pointer (some ⟨w.heap.size, 0, none⟩), .int .i64 (p : Int)] wr fun e w' => e = .returned (.tuple #[.int .i64 ((lastC S (p : Int)).getD 0), .bool (lastC S (p : Int)).isSome]) ∧ Below wr.heap.size wr w') := by
            refine (oget_any w.heap.size S (p : Int) wr HO.out).mono ?_
            rintro e w' ⟨rfl, h5⟩
            unfold overO
            rw [if_pos (show withinB (p : Int) 64 = true from within_nat p 64 (by omega))]
            exact ⟨rfl, h5⟩
          have HPM : Hid ((putM A (allL S))[p]'(by rw [putM_len]; exact p1) = (lastC S (p : Int)).getD A[p]) := putM_all A S (by rw [HN.out]; omega) p p1
          obtain ⟨x, hx⟩ : ∃ x, A[p] = x := ⟨_, rfl⟩
          have HCA : Hid (∀ W, Below w.heap.size w W → W.cell? ⟨b1, o1 + p, none⟩ = some (.int .i64 x)) := fun W hW => by
            have := L5.out p p1
            rw [hx] at this
            exact (hW.cell (p := ⟨b1, o1 + p, none⟩) (World.block_lt_of_cell? w _ this)).trans this
          have HCP : Hid (∀ W : World, W.heap[w2.heap.size]? = some (.cells (ints (putM A (allL S))) 2) → W.cell? ⟨w2.heap.size, p, none⟩ = some (.int .i64 ((lastC S (p : Int)).getD x))) := fun W hW => by
            rw [cell_of_row W _ p _ _ _ hW, ints_at _ _ (by rw [putM_len]; exact p1), HPM.out, hx]
          clear hx
          cases hlc : lastC S (p : Int) with
          | some y =>
            rw [hlc] at HG HCP
            clear hlc
            have HG2 : Hid (Calls Try.prog 21 #[.pointer (some ⟨w.heap.size, 0, none⟩), .int .i64 (p : Int)] wr fun e w' => e = .returned (.tuple #[.int .i64 y, .bool true]) ∧ Below wr.heap.size wr w') := HG
            have u1 : (y != y) = false := by simp
            go_wp2_with fail
            refine HG2.out.mono ?_
            rintro e w5 ⟨rfl, h5⟩
            have HB5 : Hid (∀ n, Below w.heap.size w (w5.drewN n)) := fun n => below_drewN (HB.out.trans (h5.mono HB.out.size)) n
            have HO5 : Hid (∀ n, OV (w5.drewN n) w.heap.size S) := fun n => HO.out.below (below_drewN h5 n)
            have HM5 : Hid (∀ n, (w5.drewN n).heap[w2.heap.size]? = some (.cells (ints (putM A (allL S))) 2)) := fun n => (h5.block _ (Array.getElem?_eq_some_iff.1 HM.out).1).trans HM.out
            have d1 : w5.cell? ⟨w2.heap.size, p, none⟩ = some (.int .i64 y) := HCP.out _ ((h5.block _ (Array.getElem?_eq_some_iff.1 HM.out).1).trans HM.out)
            clear h5
            go_wp2_with fail
            go_quiet (fail)
            go_wp2_with fail
            go_roundw
            case rel => exact ⟨p + 1, by go_num, by omega, HO5.out nq, HB5.out nq, HM5.out nq⟩
            case measure => simp [intOf]; omega
          | none =>
            rw [hlc] at HG HCP
            clear hlc
            have HG2 : Hid (Calls Try.prog 21 #[.pointer (some ⟨w.heap.size, 0, none⟩), .int .i64 (p : Int)] wr fun e w' => e = .returned (.tuple #[.int .i64 0, .bool false]) ∧ Below wr.heap.size wr w') := HG
            have u1 : (x != x) = false := by simp
            go_wp2_with fail
            refine HG2.out.mono ?_
            rintro e w5 ⟨rfl, h5⟩
            have HB5 : Hid (∀ n, Below w.heap.size w (w5.drewN n)) := fun n => below_drewN (HB.out.trans (h5.mono HB.out.size)) n
            have HO5 : Hid (∀ n, OV (w5.drewN n) w.heap.size S) := fun n => HO.out.below (below_drewN h5 n)
            have HM5 : Hid (∀ n, (w5.drewN n).heap[w2.heap.size]? = some (.cells (ints (putM A (allL S))) 2)) := fun n => (h5.block _ (Array.getElem?_eq_some_iff.1 HM.out).1).trans HM.out
            have d1 : w5.cell? ⟨w2.heap.size, p, none⟩ = some (.int .i64 x) := HCP.out _ ((h5.block _ (Array.getElem?_eq_some_iff.1 HM.out).1).trans HM.out)
            have d2 : w5.cell? ⟨b1, o1 + p, none⟩ = some (.int .i64 x) := HCA.out _ (HB.out.trans (h5.mono HB.out.size))
            clear h5
            go_wp2_with fail
            go_quiet (fail)
            go_wp2_with fail
            go_roundw
            case rel => exact ⟨p + 1, by go_num, by omega, HO5.out nq, HB5.out nq, HM5.out nq⟩
            case measure => simp [intOf]; omega
        · have hpN : p = N := by omega
          subst hpN
          have e7 : decide ((p : Int) < (p : Int)) = false := by simp
          go_wp2_with fail
          refine (malive_any wr).mono ?_
          rintro e wz ⟨rfl, bz⟩
          have BZ : Hid (Below w.heap.size w wz) := HB.out.trans (bz.mono HB.out.size)
          clear bz
          go_wp2
          go_ret
          exact ⟨rfl, BZ.out⟩
end Go.Proofs.Ytlcgoobjpnpfhaa
