/- The document's memory of cells; the walk of the law on it. -/
import Derived.Test.YtlcgoobjpnpfhaaM5
namespace Go.Proofs.Ytlcgoobjpnpfhaa
open Go.RowKit Go.Maps
set_option linter.unusedVariables false

theorem PSl.take {w : World} {a : Option Addr} {N c : Nat} {G : List (Int × Int)} (h : PSl w (.slice a N c) G) (k : Nat) (hk : k ≤ N) : PSl w (.slice a k c) (G.take k) := by
  obtain ⟨a', c', b, o, e, h2, h3, h4, h5⟩ := h
  injection e with e1 e2 e3
  subst e1 e2 e3
  have hl : (G.take k).length = k := by rw [List.length_take]; omega
  refine ⟨a, c, b, o, by rw [hl], by rw [hl]; omega, by omega, fun hp => ?_, fun i hi => ?_⟩
  · rw [hl] at hp
    exact h4 (by omega)
  · rw [hl] at hi
    have := h5 i (by omega)
    rw [this.1, this.2]
    simp
def ROfP (n : Int) (C : List (Int × Int)) (w : World) (e : Ending) (w' : World) : Prop :=
  (ofA n C ≠ 0 ∧ e = .returned (.tuple #[.slice none 0 0, .int .i64 (ofA n C)]) ∧ Below w.heap.size w w') ∨
  (ofA n C = 0 ∧ ∃ (N : Nat) (oa : Option Addr) (oc : Nat), n = (N : Int) ∧ N ≤ 64 ∧ e = .returned (.tuple #[.slice oa N oc, .int .i64 0]) ∧ IZ w' w.heap.size (.slice oa N oc) (ofM N C) ∧ Below w.heap.size w w')
/-- the first q words -/
def ofT (C : List (Int × Int)) (q : Nat) : List Int := (List.range q).map fun i : Nat => (lastC C (i : Int)).getD 0
theorem ofT_succ (C : List (Int × Int)) (q : Nat) : ofT C q ++ [(lastC C (q : Int)).getD 0] = ofT C (q + 1) := by simp [ofT, List.range_succ]
theorem ofT_len (C : List (Int × Int)) (q : Nat) : (ofT C q).length = q := by simp [ofT]

set_option maxRecDepth 100000 in
set_option maxHeartbeats 4000000 in
theorem rof_any (n : Int) (C : List (Int × Int)) (v : Value) (w : World) (hl : C.length ≤ 100000) (hv : PSl w v C) : Calls Try.prog 10 #[.int .i64 n, v] w (ROfP n C w) := by
  have hv0 := hv
  obtain ⟨a1, c1, b1, o1, rfl, h2, h3, h4, h5⟩ := hv
  obtain ⟨N, hN⟩ : ∃ N, C.length = N := ⟨_, rfl⟩
  have HN : Hid (C.length = N) := hN
  have H5 : Hid (∀ i (h : i < C.length), w.cell? ⟨b1, o1 + i * 2, none⟩ = some (.int .i64 C[i].1) ∧ w.cell? ⟨b1, o1 + (i * 2 + 1), none⟩ = some (.int .i64 C[i].2)) := h5
  have H4 : Hid (0 < C.length → a1 = some ⟨b1, o1, none⟩) := h4
  obtain ⟨P, hP⟩ : ∃ P, ROfP n C w = P := ⟨_, rfl⟩
  have HQ : Hid (ROfP n C w = P) := hP
  rw [hP, hN]
  rw [hN] at h2 hl hv0
  have HV : Hid (PSl w (.slice a1 N c1) C) := hv0
  unfold maxLen at h3
  clear hN h5 h4 hP hv0
  by_cases g1 : n < 1
  · have e1 : decide (n < 1) = true := by simp [g1]
    have HF : Hid (P (.returned (.tuple #[.slice none 0 0, .int .i64 130])) w) := by
      show P _ _
      rw [← HQ.out]
      have : ofA n C = 130 := by unfold ofA; rw [if_pos (.inl g1)]
      exact .inl ⟨by rw [this]; decide, by rw [this], Below.refl _ _⟩
    go_enter Try.func10, Try.ntmps10
    go_wp2
    first | exact HF.out | (go_ret2; exact HF.out)
  have e1 : decide (n < 1) = false := by simp; omega
  by_cases g2 : 64 < n
  · have e2 : decide (64 < n) = true := by simp [g2]
    have HF : Hid (P (.returned (.tuple #[.slice none 0 0, .int .i64 130])) w) := by
      show P _ _
      rw [← HQ.out]
      have : ofA n C = 130 := by unfold ofA; rw [if_pos (.inr g2)]
      exact .inl ⟨by rw [this]; decide, by rw [this], Below.refl _ _⟩
    go_enter Try.func10, Try.ntmps10
    go_wp2
    first | exact HF.out | (go_ret2; exact HF.out)
  have e2 : decide (64 < n) = false := by simp; omega
  obtain ⟨K, rfl⟩ : ∃ K : Nat, n = (K : Int) := ⟨n.toNat, by omega⟩
  have hK : 1 ≤ K ∧ K ≤ 64 := by omega
  have HA : Hid (ofA (K : Int) C = ofE (K : Int) [] C) := by show _ = _; unfold ofA; rw [if_neg (by omega)]
  go_enter Try.func10, Try.ntmps10
  go_wp2_with fail
  go_loopw [6] (fun i wr => ∃ q : Nat, i = .int .i64 (q : Int) ∧ q ≤ N ∧ Hid (Below w.heap.size w wr) ∧ Hid (ofE (K : Int) [] C = ofE (K : Int) (C.take q) (C.drop q))) (fun i _ => N - (intOf i).toNat)
  case atStart => exact ⟨0, rfl, Nat.zero_le _, Below.refl _ _, rfl⟩
  case round =>
    obtain ⟨q, rfl, hq, HB, HE⟩ := hrel
    by_cases hlt : q < N
    · have q1 : q < C.length := by rw [HN.out]; exact hlt
      have HVT : Hid (∀ W, Below w.heap.size w W → PSl W (.slice a1 q c1) (C.take q)) := fun W hW => (HV.out.below hW).take q (by omega)
      have hal := H4.out (by omega)
      subst hal
      obtain ⟨z, hz⟩ : ∃ z, C[q] = z := ⟨_, rfl⟩
      obtain ⟨x, y⟩ := z
      have d1 : wr.cell? ⟨b1, o1 + q * 2, none⟩ = some (.int .i64 x) := by
        have := (H5.out q q1).1
        rw [hz] at this
        exact (HB.out.cell (p := ⟨b1, o1 + q * 2, none⟩) (World.block_lt_of_cell? w _ this)).trans this
      have HE2 : Hid (ofE (K : Int) [] C = if withinB x K = true then (if (lastC (C.take q) x).isSome = true then 61 else ofE (K : Int) (C.take (q + 1)) (C.drop (q + 1))) else 131) := by
        show _ = _
        rw [HE.out, List.drop_eq_getElem_cons q1, hz, List.take_succ_eq_append_getElem q1, hz]
        rfl
      have e3 : decide ((q : Int) < (N : Int)) = true := by simp; omega
      clear hz
      by_cases hx0 : x < 0
      · have e4 : decide (x < 0) = true := by simp [hx0]
        have HF : Hid (P (.returned (.tuple #[.slice none 0 0, .int .i64 131])) wr) := by
          show P _ _
          rw [← HQ.out]
          have : ofA (K : Int) C = 131 := by rw [HA.out, HE2.out, if_neg (by unfold withinB; simp; omega)]
          exact .inl ⟨by rw [this]; decide, by rw [this], HB.out⟩
        go_wp2
        first | exact HF.out | (go_ret2; exact HF.out)
      have e4 : decide (x < 0) = false := by simp; omega
      by_cases hxK : (K : Int) ≤ x
      · have e5 : decide ((K : Int) ≤ x) = true := by simp [hxK]
        have HF : Hid (P (.returned (.tuple #[.slice none 0 0, .int .i64 131])) wr) := by
          show P _ _
          rw [← HQ.out]
          have : ofA (K : Int) C = 131 := by rw [HA.out, HE2.out, if_neg (by unfold withinB; simp; omega)]
          exact .inl ⟨by rw [this]; decide, by rw [this], HB.out⟩
        go_wp2
        first | exact HF.out | (go_ret2; exact HF.out)
      have e5 : decide ((K : Int) ≤ x) = false := by simp; omega
      have hw : withinB x K = true := by unfold withinB; simp; omega
      have HC : Hid (Calls Try.prog 35 #[.slice (some ⟨b1, o1, none⟩) q c1, .int .i64 x] wr.drew fun e w' => e = .returned (.tuple #[.int .i64 ((lastC (C.take q) x).getD 0), .bool (lastC (C.take q) x).isSome]) ∧ w' = wr.drew) := last_any _ _ x (by rw [List.length_take]; omega) wr.drew (HVT.out _ HB.out.drew)
      obtain ⟨t, ht⟩ : ∃ t, (lastC (C.take q) x).isSome = t := ⟨_, rfl⟩
      obtain ⟨lv, hlv⟩ : ∃ lv, (lastC (C.take q) x).getD 0 = lv := ⟨_, rfl⟩
      rw [ht, hlv] at HC
      have n1 : ¬ c1 = 0 := by omega
      have n2 : (q : Int) ≤ (c1 : Int) := by omega
      have n3 : (0 : Int) ≤ (q : Int) := by omega
      have n4 : (q : Int) < (N : Int) := by omega
      cases t with
      | true =>
        have HF : Hid (P (.returned (.tuple #[.slice none 0 0, .int .i64 61])) wr.drew) := by
          show P _ _
          rw [← HQ.out]
          have : ofA (K : Int) C = 61 := by rw [HA.out, HE2.out, if_pos hw, if_pos ht]
          exact .inl ⟨by rw [this]; decide, by rw [this], HB.out.drew⟩
        clear ht hlv
        go_wp2_with fail
        refine wp_region_still_lit (by kernel_rfl) (by kernel_rfl) ?_
        repeat still_step
        still_call HC.out
        repeat still_step
        refine wpStill_nil ?_
        go_wp2
        first | exact HF.out | (go_ret2; exact HF.out)
      | false =>
        have HE3 : Hid (ofE (K : Int) [] C = ofE (K : Int) (C.take (q + 1)) (C.drop (q + 1))) := by
          show _ = _
          rw [HE2.out, if_pos hw, ht]
          rfl
        have HB2 : Hid (Below w.heap.size w wr.drew) := HB.out.drew
        clear ht hlv
        go_wp2_with fail
        refine wp_region_still_lit (by kernel_rfl) (by kernel_rfl) ?_
        repeat still_step
        still_call HC.out
        repeat still_step
        refine wpStill_nil ?_
        go_wp2_with fail
        go_roundw
        case rel => exact ⟨q + 1, by go_num, by omega, HB2, HE3⟩
        case measure => simp [intOf]; omega
    · have hqN : q = N := by omega
      subst hqN
      have e3 : decide ((q : Int) < (q : Int)) = false := by simp
      have HZ : Hid (ofA (K : Int) C = 0) := by
        show _ = _
        have h8 := HE.out
        rw [List.drop_of_length_le (by rw [HN.out]; exact Nat.le_refl _)] at h8
        rw [HA.out, h8]
        rfl
      have HB1 := HB
      clear HE HB
      rename World => W1
      go_wp2_with fail
      go_loopw [9, 10] (fun av i wr => ∃ (p : Nat) (oa : Option Addr) (oc : Nat), i = .int .i64 (p : Int) ∧ av = .slice oa p oc ∧ p ≤ K ∧ Hid (IZ wr w.heap.size (.slice oa p oc) (ofT C p)) ∧ Hid (Below w.heap.size w wr)) (fun _ i _ => K - (intOf i).toNat)
      case atStart => exact ⟨0, none, 0, rfl, rfl, Nat.zero_le _, IZ.nil _ _, HB1⟩
      case round =>
        obtain ⟨p, oa, oc, rfl, rfl, hp, HI, HB⟩ := hrel
        by_cases hlt2 : p < K
        · have e4 : decide ((p : Int) < (K : Int)) = true := by simp; omega
          have HC : Hid (Calls Try.prog 35 #[.slice a1 q c1, .int .i64 (p : Int)] wr fun e w' => e = .returned (.tuple #[.int .i64 ((lastC C (p : Int)).getD 0), .bool (lastC C (p : Int)).isSome]) ∧ w' = wr) := last_any C _ (p : Int) (by rw [HN.out]; omega) wr (HV.out.below HB.out)
          have HS : Hid (ofT C p ++ [(lastC C (p : Int)).getD 0] = ofT C (p + 1)) := ofT_succ C p
          obtain ⟨y, hy⟩ : ∃ y, (lastC C (p : Int)).getD 0 = y := ⟨_, rfl⟩
          obtain ⟨t, ht⟩ : ∃ t, (lastC C (p : Int)).isSome = t := ⟨_, rfl⟩
          rw [hy, ht] at HC
          rw [hy] at HS
          have HIA : Hid (IZ (wr.alloc (Obj.cells #[Value.int .i64 y] 2)) w.heap.size (.slice oa p oc) (ofT C p)) := HI.out.below ((Below.refl _ _).alloc (Nat.le_refl _) _)
          have HCL : Hid ((wr.alloc (Obj.cells #[Value.int .i64 y] 2)).cell? ⟨wr.heap.size, 0, none⟩ = some (.int .i64 y)) := by show _ = _; simp
          have HBA : Hid (Below w.heap.size w (wr.alloc (Obj.cells #[Value.int .i64 y] 2))) := HB.out.alloc HB.out.size _
          have HLN : Hid ((ofT C p).length ≤ 100000) := by show _ ≤ _; rw [ofT_len]; omega
          clear hy ht
          go_wp2_with fail
          refine HC.out.mono ?_
          rintro e w5 ⟨rfl, hw5⟩
          rw [hw5]
          clear hw5 w5
          go_wp2_with (at_builtin; refine push_int _ rfl _ _ rfl w.heap.size _ (ofT C p) y rfl HIA.out wr.heap.size rfl HCL.out HLN.out HBA.out.size ?_)
          intro v' w' hi' hb'
          rw [HS.out] at hi'
          obtain ⟨oa', oc', rfl⟩ := hi'.sl
          rw [ofT_len] at hi' ⊢
          have HI2 : Hid (IZ w' w.heap.size (.slice oa' (p + 1) oc') (ofT C (p + 1))) := hi'
          have HB2 : Hid (Below w.heap.size w w') := HBA.out.trans hb'
          clear hi' hb'
          go_wp2_with fail
          go_roundw
          case rel => exact ⟨p + 1, oa', oc', by go_num, rfl, by omega, HI2, HB2⟩
          case measure => simp [intOf]; omega
        · have hpK : p = K := by omega
          subst hpK
          have e4 : decide ((p : Int) < (p : Int)) = false := by simp
          have HF : Hid (P (.returned (.tuple #[.slice oa p oc, .int .i64 0])) wr) := by
            show P _ _
            rw [← HQ.out]
            exact .inr ⟨HZ.out, p, oa, oc, rfl, hK.2, rfl, HI.out, HB.out⟩
          go_wp2
          first | exact HF.out | (go_ret2; exact HF.out)

set_option maxRecDepth 100000 in
set_option maxHeartbeats 4000000 in
theorem makes_walk (n : Int) (C : List (Int × Int)) (v : Value) (w : World) (hv : PSl w v C) : Calls Try.prog 3 #[.int .i64 n, v] w fun e w' => e = .returned (.bool true) ∧ Below w.heap.size w w' := by
  have hv0 := hv
  obtain ⟨a1, c1, _, _, rfl, _⟩ := hv
  obtain ⟨N, hN⟩ : ∃ N, C.length = N := ⟨_, rfl⟩
  have HN : Hid (C.length = N) := hN
  rw [hN] at hv0 ⊢
  have HV : Hid (PSl w (.slice a1 N c1) C) := hv0
  clear hN hv0
  by_cases h6 : 300 < N
  · have e1 : decide (300 < (N : Int)) = true := by simp; omega
    go_enter Try.func3, Try.ntmps3
    go_wp2
    go_ret
    exact ⟨rfl, Below.refl _ _⟩
  have e1 : decide (300 < (N : Int)) = false := by simp; omega
  have HO : Hid (∀ W, Below w.heap.size w W → Calls Try.prog 9 #[.int .i64 n, .slice a1 N c1] W (OfP n C W)) := fun W hW => of_any n C _ W (by rw [HN.out]; omega) (HV.out.below hW)
  have HR : Hid (∀ W, Below w.heap.size w W → Calls Try.prog 10 #[.int .i64 n, .slice a1 N c1] W (ROfP n C W)) := fun W hW => rof_any n C _ W (by rw [HN.out]; omega) (HV.out.below hW)
  obtain ⟨c, hc⟩ : ∃ c, ofA n C = c := ⟨_, rfl⟩
  by_cases h0 : c = 0
  · subst h0
    have HC : Hid (ofA n C = 0) := hc
    clear hc
    go_enter Try.func3, Try.ntmps3
    go_wp2_with fail
    refine (HO.out w (Below.refl _ _)).mono ?_
    rintro e w1 (⟨h, _⟩ | ⟨_, K, rfl, hK, rfl, h1, h2⟩)
    · exact absurd HC.out h
    have G1 : Hid (GSl w1 (.slice (some ⟨w.heap.size, 0, none⟩) K K) (ofM K C)) := by
      have := GSl.blkAny h1 (by rw [ofM_len]; omega)
      rw [ofM_len] at this
      exact this
    have B1 : Hid (Below w.heap.size w w1) := h2
    clear h1 h2
    go_wp2_with fail
    refine (HR.out w1 B1.out).mono ?_
    rintro e w2 (⟨h, _⟩ | ⟨_, K2, oa, oc, hK2, _, rfl, h1, h2⟩)
    · exact absurd HC.out h
    have hKK : K2 = K := by omega
    rw [hKK] at h1 ⊢
    have G2 : Hid (GSl w2 (.slice oa K oc) (ofM K C)) := h1.gsl
    have G12 : Hid (GSl w2 (.slice (some ⟨w.heap.size, 0, none⟩) K K) (ofM K C)) := G1.out.below h2
    have B2 : Hid (Below w.heap.size w w2) := B1.out.trans (h2.mono B1.out.size)
    have HRW : Hid (Calls Try.prog 11 #[.slice (some ⟨w.heap.size, 0, none⟩) K K, .slice oa K oc] w2 fun e w' => e = .returned (.bool true) ∧ Below w2.heap.size w2 w') := row_same (ofM K C) _ _ (by rw [ofM_len]; omega) w2 G12.out G2.out
    clear h1 h2 hKK hK2
    go_wp2_with fail
    refine HRW.out.mono ?_
    rintro e w3 ⟨rfl, h3⟩
    have B3 : Hid (Below w.heap.size w w3) := B2.out.trans (h3.mono B2.out.size)
    clear h3
    go_wp2_with fail
    refine (malive_any w3).mono ?_
    rintro e wz ⟨rfl, bz⟩
    have BZ : Hid (Below w.heap.size w wz) := B3.out.trans (bz.mono B3.out.size)
    clear bz
    go_wp2
    go_ret
    exact ⟨rfl, BZ.out⟩
  · have HC : Hid (ofA n C = c) := hc
    have g1 : (c == c) = true := by simp
    clear hc
    go_enter Try.func3, Try.ntmps3
    go_wp2_with fail
    refine (HO.out w (Below.refl _ _)).mono ?_
    rintro e w1 (⟨_, rfl, h2⟩ | ⟨h, _⟩)
    case inr => exact absurd (HC.out.symm.trans h) h0
    rw [HC.out]
    have B1 : Hid (Below w.heap.size w w1) := h2
    clear h2
    go_wp2_with fail
    refine (HR.out w1 B1.out).mono ?_
    rintro e w2 (⟨_, rfl, h2⟩ | ⟨h, _⟩)
    case inr => exact absurd (HC.out.symm.trans h) h0
    rw [HC.out]
    have B2 : Hid (Below w.heap.size w w2) := B1.out.trans (h2.mono B1.out.size)
    have HRW : Hid (Calls Try.prog 11 #[.slice none 0 0, .slice none 0 0] w2 fun e w' => e = .returned (.bool true) ∧ Below w2.heap.size w2 w') := row_same [] _ _ (by decide) w2 (GSl.nil w2) (GSl.nil w2)
    clear h2
    go_wp2_with fail
    refine HRW.out.mono ?_
    rintro e w3 ⟨rfl, h3⟩
    have B3 : Hid (Below w.heap.size w w3) := B2.out.trans (h3.mono B2.out.size)
    clear h3
    go_wp2_with fail
    refine (malive_any w3).mono ?_
    rintro e wz ⟨rfl, bz⟩
    have BZ : Hid (Below w.heap.size w wz) := B3.out.trans (bz.mono B3.out.size)
    clear bz
    go_wp2
    go_ret
    exact ⟨rfl, BZ.out⟩
end Go.Proofs.Ytlcgoobjpnpfhaa
