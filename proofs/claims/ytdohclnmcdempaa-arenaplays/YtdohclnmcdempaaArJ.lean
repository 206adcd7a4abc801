/- ArenaPlays: the law's walk. -/
import Derived.Test.YtdohclnmcdempaaArI
import Derived.Deep.CutRange
import Derived.Deep.RegionWith
namespace Go.Proofs.Ytdohclnmcdempaa
open Go.RowKit Go.Maps
set_option linter.unusedVariables false

theorem GSl.form {w : World} {v : Value} {G : List Int} (h : GSl w v G) : ∃ a c, v = .slice a G.length c := by
  obtain ⟨a, c, b, o, e, _⟩ := h
  exact ⟨a, c, e⟩
set_option maxRecDepth 100000 in
set_option maxHeartbeats 8000000 in
theorem plays_walk (n : Int) (v : Value) (A : List Int) (w : World) (hv : GSl w v A) : Calls Try.prog 3 #[.int .i64 n, v] w fun e w' => e = .returned (.bool true) ∧ Below w.heap.size w w' := by
  obtain ⟨va, vc, vb, vo, rfl, h2, h3, h4, h5⟩ := hv
  obtain ⟨M, hM⟩ : ∃ M, A.length = M := ⟨_, rfl⟩
  have HMA : Hid (A.length = M) := hM
  have HVA : Hid (0 < M → va = some ⟨vb, vo, none⟩) := by rw [← hM]; exact h4
  have HVC : Hid (∀ i, (h : i < M) → w.cell? ⟨vb, vo + i, none⟩ = some (.int .i64 (A[i]'(by rw [HMA.out]; exact h)))) := fun i h => h5 i _
  rw [hM] at h2 ⊢
  unfold maxLen at h3
  clear hM h4 h5
  by_cases hbig : 300 < M
  · have e1 : decide (300 < (M : Int)) = true := by simp; omega
    have e2 : decide (300 < M) = true := by simp; omega
    go_enter Try.func3, Try.ntmps3
    go_wp2
    first | exact ⟨rfl, Below.refl _ _⟩ | (go_ret; exact ⟨rfl, Below.refl _ _⟩)
  have e1 : decide (300 < M) = false := by simp; omega
  have HN : Hid (∀ w, Calls Try.prog 9 #[.int .i64 n] w (NewQ n w)) := new_any n
  have HRN : Hid (∀ w, Calls Try.prog 10 #[.int .i64 n] w (RNewQ n w)) := rnew_any n
  by_cases hn : 1 ≤ n ∧ n ≤ 512
  · obtain ⟨N, rfl⟩ : ∃ N : Nat, n = (N : Int) := ⟨n.toNat, by omega⟩
    have hN : 1 ≤ N ∧ N ≤ 512 := by omega
    have HHN : Hid (1 ≤ (N : Int) ∧ (N : Int) ≤ 512) := hn
    clear hn
    go_enter Try.func3, Try.ntmps3
    go_wp2_with fail
    refine (HN.out _).mono ?_
    rintro e w1 ⟨b1, h1⟩
    rw [if_pos HHN.out] at h1
    obtain ⟨ab, ub, rfl, A1, l1, l2⟩ := h1
    simp only [Int.toNat_natCast] at A1
    have A1 : Hid (AB (fun k => k < w.heap.size) ab ub N (List.range N) w1) := AB.first A1 l1 l2 b1.size
    have B1 : Hid (Below w.heap.size w w1) := b1
    clear b1 l1 l2 HN
    go_wp2_with fail
    refine (HRN.out _).mono ?_
    rintro e w2 ⟨b2, h2'⟩
    rw [if_pos HHN.out] at h2'
    obtain ⟨lv, rfl, hi2⟩ := h2'
    simp only [Int.toNat_natCast] at hi2
    have P1 : Hid (PI w w2.heap.size ab ub N (List.range N) (List.range N) lv (w2.alloc (.cells #[.int .i64 (N : Int), lv] 28))) := PI.first A1.out B1.out b2 hi2
    obtain ⟨l1, l2, rfl⟩ := hi2.sl
    generalize (cs (List.range N)).length = ll at *
    clear b2 hi2 HRN e1
    go_wp2_with fail
    generalize w2.alloc (.cells #[.int .i64 (N : Int), .slice l1 ll l2] 28) = U at *
    obtain ⟨rb, hrb⟩ : ∃ rb, w2.heap.size = rb := ⟨_, rfl⟩
    rw [hrb] at P1
    rw [hrb]
    clear hrb
    go_loopw [9, 10, 11, 12, 13, 14, 15, 16, 17] (fun i u10 u11 u12 u13 u14 u15 u16 u17 wr => ∃ (q : Nat) (L : List Nat) (a : Option Addr) (b c : Nat), i = .int .i64 (q : Int) ∧ q ≤ M ∧ Hid (PI w rb ab ub N L L (.slice a b c) wr)) (fun i _ _ _ _ _ _ _ _ _ => M - (intOf i).toNat)
    case atStart => exact ⟨0, List.range N, l1, ll, l2, rfl, Nat.zero_le _, P1⟩
    case round =>
      clear P1 A1 B1
      obtain ⟨q, L, a, b, c, rfl, hq, O⟩ := hrel
      obtain ⟨V, rfl⟩ : ∃ V, V = wr := ⟨_, rfl⟩
      by_cases hlt : q < M
      · have e1 : decide (q < M) = true := by simp; omega
        obtain ⟨z, hz⟩ : ∃ z, A[q]'(by rw [HMA.out]; exact hlt) = z := ⟨_, rfl⟩
        have hva := HVA.out (by omega)
        subst hva
        have cq0 := HVC.out q hlt
        rw [hz] at cq0
        have HCQ : Hid (∀ W, Below w.heap.size w W → W.cell? ⟨vb, vo + q, none⟩ = some (.int .i64 z)) := fun W hW => (hW.cell (p := ⟨vb, vo + q, none⟩) (World.block_lt_of_cell? w _ cq0)).trans cq0
        have cq := HCQ.out V O.out.pr.bel
        clear cq0 hz
        go_upto_if 55 with fail
        go_cut [10, 11, 12, 13, 14, 15] from 55 to 140 (fun u10 u11 u12 u13 u14 u15 wx => ∃ (L : List Nat) (a : Option Addr) (b c : Nat), Hid (PI w rb ab ub N L L (.slice a b c) wx))
        case first =>
          by_cases hz0 : z < 0
          · have e2 : decide (z < 0) = true := by simp; omega
            have HT := O.out.ar.take
            have hok := O.out.ar.ok.len
            obtain ⟨s, hs⟩ : ∃ s : Int, ((L.headD 0 : Nat) : Int) = s := ⟨_, rfl⟩
            obtain ⟨f, hf⟩ : ∃ f : Int, (if L.isEmpty then (200 : Int) else 0) = f := ⟨_, rfl⟩
            have HSF : Hid (((L.headD 0 : Nat) : Int) = s ∧ (if L.isEmpty then (200 : Int) else 0) = f) := ⟨hs, hf⟩
            clear hs hf
            go_wp2_with fail
            refine HT.mono ?_
            rintro e w4 ⟨rfl, A4, C4⟩
            rw [HSF.out.1, HSF.out.2]
            have P4 : Hid (PI w rb ab ub N L.tail L (.slice a b c) w4) := O.out.call A4 C4
            have c0 := P4.out.pr.c0
            have c1 := P4.out.pr.c1
            clear A4 C4 HT cq
            go_wp2_with fail
            refine (rtake_any (N : Int) _ L w4 P4.out.pr.ls (by omega) P4.out.pr.lt).mono ?_
            rintro e w5 ⟨b5, v5, rfl, g5, nv5⟩
            rw [HSF.out.1, HSF.out.2]
            have P5 := P4.out.put b5 g5 nv5
            obtain ⟨a5, k5, rfl⟩ := g5.form
            clear g5
            generalize (cs L.tail).length = l5 at *
            have P6 : Hid (PI w rb ab ub N L.tail L.tail (.slice a5 l5 k5) ((w5.setCell ⟨rb, 0, none⟩ (.int .i64 (N : Int))).setCell ⟨rb, 1, none⟩ (.slice a5 l5 k5))) := P5
            have r5 := (P4.out.pr.same b5)
            have d0 := r5.c0
            have d1 := r5.c1
            have f0 := r5.f 0
            have f1 := r5.f 1
            clear P5 b5 nv5 r5 c0 c1
            go_wp2_with fail
            go_meet
            exact ⟨L.tail, a5, l5, k5, P6⟩
          · obtain ⟨f, hf⟩ : ∃ f : Int, (if usedB N L z then (0 : Int) else 201) = f := ⟨_, rfl⟩
            have HSF : Hid ((if usedB N L z then (0 : Int) else 201) = f) := hf
            have e2 : decide (z < 0) = false := by simp; omega
            have HT := O.out.ar.back z
            have hok := O.out.ar.ok.len
            clear hf
            go_wp2_with fail
            refine HT.mono ?_
            rintro e w4 ⟨rfl, A4, C4⟩
            rw [HSF.out]
            have P4 : Hid (PI w rb ab ub N (backL N L z) L (.slice a b c) w4) := O.out.call A4 C4
            have c0 := P4.out.pr.c0
            have c1 := P4.out.pr.c1
            have f0 := P4.out.pr.f 0
            have f1 := P4.out.pr.f 1
            have cq := HCQ.out w4 P4.out.pr.bel
            clear A4 C4 HT
            go_upto_region 18 with fail
            go_cut [15] from 81 to 89 (fun u wx => u = .int .i64 f ∧ ∃ (a : Option Addr) (b c : Nat), Hid (PI w rb ab ub N (backL N L z) (backL N L z) (.slice a b c) wx))
            case first =>
              have PD : Hid (PI w rb ab ub N (backL N L z) L (.slice a b c) w4.drew) := P4.out.same (Below.refl _ _).drew
              have HRB : Hid (Calls Try.prog 14 #[.agg #[.int .i64 (N : Int), .slice a b c], .int .i64 z] w4.drew (RBackQ N (.slice a b c) L z w4.drew)) := rback_any N _ L z w4.drew PD.out.pr.ls (by omega) (by omega) PD.out.pr.lt
              go_region_with (first | (go_at_call 14; refine HRB.out.mono ?_; rintro e w5 ⟨b5, v5, rfl, g5, nv5⟩; rw [HSF.out]; have P5 := PD.out.put b5 g5 nv5; obtain ⟨a5, k5, rfl⟩ := g5.form; have r5 := (PD.out.pr.same b5); have d0 := r5.c0; have d1 := r5.c1; have q0 := r5.f 0; have q1 := r5.f 1))
              all_goals
                go_wp2_with fail
                go_meet
                refine ⟨rfl, a5, (cs (backL N L z)).length, k5, ?_⟩
                first | exact P5 | exact P5.same (Below.refl _ _).drew
            case rest =>
              clear c0 c1 f0 f1 cq
              obtain ⟨rfl, a6, b6, c6, P6⟩ := hcut
              go_wp2_with fail
              go_meet
              exact ⟨_, a6, b6, c6, P6⟩
        case rest =>
          clear cq O
          obtain ⟨L, a, b, c, O⟩ := hcut
          have HO := O.out.ar.order
          obtain ⟨m, hm⟩ : ∃ m, L.length = m := ⟨_, rfl⟩
          have HM : Hid (L.length = m) := hm
          obtain ⟨hbm, hok⟩ : b = m ∧ m ≤ N := by
            have h1 := O.out.ar.ok.len
            obtain ⟨_, _, _, _, e, _⟩ := O.out.pr.ls
            injection e with _ e2 _
            rw [cs_len] at e2
            exact ⟨by omega, by omega⟩
          subst hbm
          go_wp2_with fail
          refine HO.mono ?_
          rintro e w4 ⟨o4, rfl, i4, b4⟩
          have P4 : Hid (PI w rb ab ub N L L (.slice a b c) w4) := O.out.same b4
          have I4 : Hid (GSl w4 o4 (cs L)) := i4.gsl
          obtain ⟨oa, ok, ob, oo, rfl, og2, og3, og4, og5⟩ := i4.gsl
          have hll : Hid ((cs L).length = b) := by show _ = _; rw [cs_len]; exact hm
          rw [hll.out] at I4 og2 og4 ⊢
          have HOA : Hid (0 < b → oa = some ⟨ob, oo, none⟩) := og4
          clear i4 b4 og5 HO hm og4 O
          have c1 := P4.out.pr.c1
          have HFr := P4.out.ar.free
          rw [HM.out] at HFr
          go_wp2_with fail
          refine HFr.mono ?_
          rintro e w5 ⟨rfl, k5, rfl⟩
          have P5 : Hid (PI w rb ab ub N L L (.slice a b c) (w4.drewN k5)) := P4.out.same (Below.dN (Below.refl _ _) k5)
          have I5 : Hid (GSl (w4.drewN k5) (.slice oa b ok) (cs L)) := I4.out.below (Below.dN (Below.refl _ _) k5)
          clear HFr P4 I4 c1
          generalize w4.drewN k5 = W5 at *
          have HLv := P5.out.ar.live
          rw [HM.out] at HLv
          have hw : wrap64 ((N : Int) - (b : Int)) = (N : Int) - (b : Int) := w64in _ ⟨by omega, by omega⟩
          go_wp2_with fail
          refine HLv.mono ?_
          rintro e w6 ⟨rfl, k6, rfl⟩
          have P6 : Hid (PI w rb ab ub N L L (.slice a b c) (W5.drewN k6)) := P5.out.same (Below.dN (Below.refl _ _) k6)
          have I6 : Hid (GSl (W5.drewN k6) (.slice oa b ok) (cs L)) := I5.out.below (Below.dN (Below.refl _ _) k6)
          clear HLv P5 I5
          generalize W5.drewN k6 = W6 at *
          go_wp2_with fail
          clear hw
          go_loopw [17] (fun k wx => ∃ j : Nat, k = .int .i64 (j : Int) ∧ j ≤ b ∧ Hid (PI w rb ab ub N L L (.slice a b c) wx) ∧ Hid (GSl wx (.slice oa b ok) (cs L))) (fun k _ => b - (intOf k).toNat)
          case atStart => exact ⟨0, rfl, Nat.zero_le _, P6, I6⟩
          case round =>
            clear P6 I6
            obtain ⟨j, rfl, hj, P7, I7⟩ := hrel
            rename World => wy
            by_cases hjb : j < b
            · have e5 : decide (j < b) = true := by simp; omega
              have hjl : j < L.length := by rw [HM.out]; exact hjb
              have hoa := HOA.out (by omega)
              subst hoa
              obtain ⟨ra, rk, rbb, ro, re, _, _, rg4, rg5⟩ := P7.out.pr.ls
              obtain ⟨oa', ok', obb, ooo, oe, _, _, og4', og5'⟩ := I7.out
              injection re with re1 re2 re3
              injection oe with oe1 oe2 oe3
              have ha := rg4 (by rw [cs_len]; omega)
              rw [← re1] at ha
              subst ha
              have hb := og4' (by rw [cs_len]; omega)
              rw [← oe1] at hb
              injection hb with hb
              injection hb with hb1 hb2
              subst hb1 hb2
              have cr := rg5 j (by rw [cs_len]; exact hjl)
              have co := og5' j (by rw [cs_len]; exact hjl)
              rw [cs_at _ _ _ hjl] at cr co
              obtain ⟨x, hx⟩ : ∃ x, L[j] = x := ⟨_, rfl⟩
              rw [hx] at cr co
              have hmem : x ∈ L := hx ▸ List.getElem_mem hjl
              have hus : usedB N L (x : Int) = false := by rw [usedB_nat]; exact decide_eq_false (fun q => q.2 hmem)
              have HU : Hid (∀ k, Calls Try.prog 18 #[.pointer (some ⟨ab, 0, none⟩), .int .i64 (x : Int)] (wy.drewN k) (QD (wy.drewN k) (.bool false))) := fun k => by
                rw [← hus]; exact (P7.out.ar.drewN k).used (x : Int)
              have c1 := P7.out.pr.c1
              clear hus hmem hx rg4 rg5 og4' og5' re1 re2 re3 oe1 oe2 oe3 hjl
              go_wp2_with fail
              go_quiet (first | (go_at_call 18; exact Calls.quiet_of (HU.out _)))
              have P8 : Hid (PI w rb ab ub N L L (.slice (some ⟨rbb, ro, none⟩) b c) (wy.drewN nq)) := P7.out.same (Below.dN (Below.refl _ _) nq)
              have I8 : Hid (GSl (wy.drewN nq) (.slice (some ⟨ob, oo, none⟩) b ok) (cs L)) := I7.out.below (Below.dN (Below.refl _ _) nq)
              generalize wy.drewN nq = W8 at *
              clear cr co c1
              go_wp2_with fail
              go_roundw
              case rel => exact ⟨j + 1, by go_num, by omega, P8, I8⟩
              case measure => simp [intOf] <;> omega
            · have e5 : decide (j < b) = false := by simp; omega
              go_wp2_with fail
              go_roundw
              case rel => exact ⟨q + 1, L, a, b, c, by go_num, by omega, P7⟩
              case measure => simp [intOf] <;> omega
      · have e1 : decide (q < M) = false := by simp; omega
        go_wp2_with fail
        refine (alive_any _).mono ?_
        rintro e wz ⟨rfl, bz⟩
        have BZ : Hid (Below w.heap.size w wz) := O.out.pr.bel.trans (bz.mono O.out.pr.bel.size)
        clear bz
        go_wp2
        first | exact ⟨rfl, BZ.out⟩ | (go_ret; exact ⟨rfl, BZ.out⟩)
  · have HHN : Hid (¬ (1 ≤ n ∧ n ≤ 512)) := hn
    clear hn
    go_enter Try.func3, Try.ntmps3
    go_wp2_with fail
    refine (HN.out _).mono ?_
    rintro e w1 ⟨b1, h2⟩
    rw [if_neg HHN.out] at h2
    subst h2
    have B1 : Hid (Below w.heap.size w w1) := b1
    clear b1 HN
    go_wp2_with fail
    refine (HRN.out _).mono ?_
    rintro e w2 ⟨b2, h2'⟩
    rw [if_neg HHN.out] at h2'
    subst h2'
    have B2 : Hid (Below w.heap.size w (w2.alloc (.cells #[.int .i64 0, .slice none 0 0] 28))) := (B1.out.trans (b2.mono B1.out.size)).alloc (Nat.le_trans B1.out.size b2.size) _
    clear b2 HRN
    go_wp2_with fail
    go_loopw [9] (fun i wr => i = .int .i64 0 ∧ Hid (Below w.heap.size w wr)) (fun i _ => 0)
    case atStart => exact ⟨rfl, B2⟩
    case round =>
      obtain ⟨rfl, BR⟩ := hrel
      rcases Nat.eq_zero_or_pos M with h0 | h0
      · have e3 : decide ((0 : Int) < (M : Int)) = false := by simp; omega
        have e4 : decide (0 < M) = false := by simp; omega
        subst h0
        go_wp2_with fail
        refine (alive_any _).mono ?_
        rintro e wz ⟨rfl, bz⟩
        have BZ : Hid (Below w.heap.size w wz) := BR.out.trans (bz.mono BR.out.size)
        clear bz
        go_wp2
        first | exact ⟨rfl, BZ.out⟩ | (go_ret; exact ⟨rfl, BZ.out⟩)
      · have e3 : decide ((0 : Int) < (M : Int)) = true := by simp; omega
        have e4 : decide (0 < M) = true := by simp; omega
        go_wp2_with fail
        refine (alive_any _).mono ?_
        rintro e wz ⟨rfl, bz⟩
        have BZ : Hid (Below w.heap.size w wz) := BR.out.trans (bz.mono BR.out.size)
        clear bz
        go_wp2
        first | exact ⟨rfl, BZ.out⟩ | (go_ret; exact ⟨rfl, BZ.out⟩)
end Go.Proofs.Ytdohclnmcdempaa
