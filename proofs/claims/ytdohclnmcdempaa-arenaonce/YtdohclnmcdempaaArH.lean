/- ArenaOnce: the law's walk. -/
import Derived.Test.YtdohclnmcdempaaArG
namespace Go.Proofs.Ytdohclnmcdempaa
open Go.RowKit Go.Maps
set_option linter.unusedVariables false

set_option maxRecDepth 100000 in
set_option maxHeartbeats 8000000 in
theorem once_walk (n : Int) (v : Value) (A : List Int) (w : World) (hv : GSl w v A) : Calls Try.prog 4 #[.int .i64 n, v] w fun e w' => e = .returned (.bool true) ∧ Below w.heap.size w w' := by
  obtain ⟨va, vc, vb, vo, rfl, h2, h3, h4, h5⟩ := hv
  obtain ⟨M, hM⟩ : ∃ M, A.length = M := ⟨_, rfl⟩
  have HMA : Hid (A.length = M) := hM
  have HVA : Hid (0 < M → va = some ⟨vb, vo, none⟩) := by rw [← hM]; exact h4
  have HVC : Hid (∀ i, (h : i < M) → w.cell? ⟨vb, vo + i, none⟩ = some (.int .i64 (A[i]'(by rw [HMA.out]; exact h)))) := fun i h => h5 i _
  rw [hM] at h2 ⊢
  unfold maxLen at h3
  clear hM h4 h5
  by_cases hbig : 300 < M
  · have e1 : decide (300 < (M : Int)) = true := by simp; omega
    have e2 : decide (300 < M) = true := by simp; omega
    go_enter Try.func4, Try.ntmps4
    go_wp2
    first | exact ⟨rfl, Below.refl _ _⟩ | (go_ret; exact ⟨rfl, Below.refl _ _⟩)
  have e1 : decide (300 < M) = false := by simp; omega
  have HN : Hid (∀ w, Calls Try.prog 9 #[.int .i64 n] w (NewQ n w)) := new_any n
  by_cases hn : 1 ≤ n ∧ n ≤ 512
  · obtain ⟨N, rfl⟩ : ∃ N : Nat, n = (N : Int) := ⟨n.toNat, by omega⟩
    have hN : 1 ≤ N ∧ N ≤ 512 := by omega
    have HHN : Hid (1 ≤ (N : Int) ∧ (N : Int) ≤ 512) := hn
    clear hn
    have hmk := made42 N (by omega)
    go_enter Try.func4, Try.ntmps4
    go_wp2_with fail
    refine (HN.out _).mono ?_
    rintro e w1 ⟨b1, h1⟩
    rw [if_pos HHN.out] at h1
    obtain ⟨ab, ub, rfl, A1, l1, l2⟩ := h1
    have A1 : Hid (OI w w1.heap.size ab ub N (List.range N) (w1.alloc (.cells (bls (List.replicate N false)) 4))) := by
      simp only [Int.toNat_natCast] at A1
      exact OI.first A1 l1 l2 b1
    clear b1 l1 l2 HN
    go_wp2_with fail
    generalize w1.alloc (.cells (bls (List.replicate N false)) 4) = U at *
    obtain ⟨gb, hgb⟩ : ∃ gb, w1.heap.size = gb := ⟨_, rfl⟩
    rw [hgb] at A1
    rw [hgb]
    clear hgb hmk e1
    go_loopw [8, 9, 10, 11, 12] (fun many i was s f wr => ∃ (q : Nat) (L : List Nat) (c : Nat), many = .int .i64 (c : Int) ∧ i = .int .i64 (q : Int) ∧ q ≤ M ∧ c ≤ N ∧ Hid (c + L.length = N) ∧ Hid (OI w gb ab ub N L wr)) (fun many i was s f _ => M - (intOf i).toNat)
    case atStart => exact ⟨0, List.range N, 0, rfl, rfl, Nat.zero_le _, Nat.zero_le _, by show _ = _; simp, A1⟩
    case round =>
      clear A1
      obtain ⟨q, L, c, rfl, rfl, hq, hc, HC, O⟩ := hrel
      obtain ⟨V, rfl⟩ : ∃ V, V = wr := ⟨_, rfl⟩
      by_cases hlt : q < M
      · have e1 : decide (q < M) = true := by simp; omega
        obtain ⟨z, hz⟩ : ∃ z, A[q]'(by rw [HMA.out]; exact hlt) = z := ⟨_, rfl⟩
        have hva := HVA.out (by omega)
        subst hva
        have cq0 := HVC.out q hlt
        rw [hz] at cq0
        have HCQ : Hid (∀ W, Below w.heap.size w W → W.cell? ⟨vb, vo + q, none⟩ = some (.int .i64 z)) := fun W hW => (hW.cell (p := ⟨vb, vo + q, none⟩) (World.block_lt_of_cell? w _ cq0)).trans cq0
        have cq := HCQ.out V O.out.bel
        clear cq0 hz
        by_cases hz0 : 0 ≤ z
        · obtain ⟨s, rfl⟩ : ∃ s : Nat, z = (s : Int) := ⟨z.toNat, by omega⟩
          have e2 : decide (0 ≤ (s : Int)) = true := by simp
          have HB := O.out.ar.back (s : Int)
          by_cases hu : s < N ∧ s ∉ L
          · have hus : usedB N L (s : Int) = true := by rw [usedB_nat]; exact decide_eq_true hu
            have hbk : backL N L (s : Int) = s :: L := by unfold backL; rw [hus]; simp
            have e3 : decide (s < N) = true := by simp; omega
            have hsN := hu.1
            have hL := O.out.cell s hu.1
            rw [show decide (s ∈ L) = false by simp [hu.2]] at hL
            have hcp : 1 ≤ c := by
              have h1 := (O.out.ar.ok.back (s : Int)).len
              rw [hbk] at h1
              have := HC.out
              simp at h1
              omega
            clear hu
            go_wp2_with fail
            refine HB.mono ?_
            rintro e w4 ⟨rfl, A4, C4⟩
            rw [hus]
            rw [hbk] at A4
            have J : Hid (OJ w gb ab ub N L (s :: L) w4) := O.out.call A4 C4
            have cq4 := HCQ.out w4 J.out.bel
            have cg := J.out.cell s hsN
            generalize (!decide (s ∈ L)) = old at cg
            have fg := J.out.frz s
            have O5 : Hid (OI w gb ab ub N (s :: L) (w4.setCell ⟨gb, s, none⟩ (.bool false))) := J.out.set s false (outL_back N L s)
            have HC5 : Hid ((c - 1) + (s :: L).length = N) := by show _ = _; have := HC.out; rw [List.length_cons]; omega
            have hw : wrap64 ((c : Int) - 1) = ((c - 1 : Nat) : Int) := by rw [w64in _ ⟨by omega, by omega⟩]; omega
            clear A4 C4 HB hL cq hus hbk
            simp only [if_true]
            go_wp2_with fail
            go_roundw
            case rel => exact ⟨q + 1, s :: L, c - 1, by go_num, by go_num, by omega, by omega, HC5, O5⟩
            case measure => simp [intOf] <;> omega
          · have hus : usedB N L (s : Int) = false := by rw [usedB_nat]; exact decide_eq_false hu
            have hbk : backL N L (s : Int) = L := by unfold backL; rw [hus]; simp
            by_cases hsN : s < N
            · have e3 : decide (s < N) = true := by simp; omega
              have hmem : s ∈ L := Decidable.byContradiction fun q => hu ⟨hsN, q⟩
              have hL := O.out.cell s hsN
              rw [show decide (s ∈ L) = true by simp [hmem]] at hL
              clear hu hmem
              go_wp2_with fail
              refine HB.mono ?_
              rintro e w4 ⟨rfl, A4, C4⟩
              rw [hus]
              rw [hbk] at A4
              have O5 : Hid (OI w gb ab ub N L w4) := (O.out.call A4 C4).done
              clear A4 C4 HB hL cq hus hbk
              simp only [Bool.false_eq_true, if_false]
              go_wp2_with fail
              go_roundw
              case rel => exact ⟨q + 1, L, c, rfl, by go_num, by omega, by omega, HC, O5⟩
              case measure => simp [intOf] <;> omega
            · have e3 : decide (s < N) = false := by simp; omega
              clear hu
              go_wp2_with fail
              refine HB.mono ?_
              rintro e w4 ⟨rfl, A4, C4⟩
              rw [hus]
              rw [hbk] at A4
              have O5 : Hid (OI w gb ab ub N L w4) := (O.out.call A4 C4).done
              clear A4 C4 HB cq hus hbk
              simp only [Bool.false_eq_true, if_false]
              go_wp2_with fail
              go_roundw
              case rel => exact ⟨q + 1, L, c, rfl, by go_num, by omega, by omega, HC, O5⟩
              case measure => simp [intOf] <;> omega
        · have e2 : decide (0 ≤ z) = false := by simp; omega
          have HT := O.out.ar.take
          cases L with
          | nil =>
            have hcN : c = N := by have := HC.out; simpa using this
            go_wp2_with fail
            refine HT.mono ?_
            rintro e w4 ⟨rfl, A4, C4⟩
            have O5 : Hid (OI w gb ab ub N [] w4) := (O.out.call A4 C4).done
            clear A4 C4 HT cq
            simp only [List.headD_nil, List.isEmpty_nil, if_true]
            subst hcN
            go_wp2_with fail
            go_roundw
            case rel => exact ⟨q + 1, [], c, rfl, by go_num, by omega, by omega, HC, O5⟩
            case measure => simp [intOf] <;> omega
          | cons s L =>
            have hok := O.out.ar.ok
            have hsN : s < N := hok.lt s (by simp)
            have hsL : s ∉ L := (List.nodup_cons.1 hok.nd).1
            go_wp2_with fail
            refine HT.mono ?_
            rintro e w4 ⟨rfl, A4, C4⟩
            have J : Hid (OJ w gb ab ub N (s :: L) L w4) := O.out.call A4 C4
            have cg := J.out.cell s hsN
            rw [show decide (s ∈ s :: L) = true by simp] at cg
            have fg := J.out.frz s
            have O5 : Hid (OI w gb ab ub N L (w4.setCell ⟨gb, s, none⟩ (.bool true))) := J.out.set s true (outL_take N s L hsL)
            have HC5 : Hid ((c + 1) + L.length = N) := by show _ = _; have := HC.out; rw [List.length_cons] at this; omega
            have hcN : c + 1 ≤ N := by have := HC5.out; omega
            have hw : wrap64 ((c : Int) + 1) = ((c + 1 : Nat) : Int) := by rw [w64in _ ⟨by omega, by omega⟩]; omega
            have e3 : decide ((s : Int) < 0) = false := by simp
            have e4 : decide ((N : Int) ≤ (s : Int)) = false := by simp; omega
            have e5 : decide (N ≤ s) = false := by simp; omega
            clear A4 C4 HT cq hok
            simp only [List.headD_cons, List.isEmpty_cons, Bool.false_eq_true, if_false]
            go_wp2_with fail
            go_roundw
            case rel => exact ⟨q + 1, L, c + 1, by go_num, by go_num, by omega, by omega, HC5, O5⟩
            case measure => simp [intOf] <;> omega
      · have hqM : q = M := by omega
        subst hqM
        have e1 : decide (q < q) = false := by simp
        go_wp2_with fail
        clear e1
        go_loopw [13] (fun i wr => ∃ m : Nat, i = .int .i64 (m : Int) ∧ m ≤ N ∧ Hid (OI w gb ab ub N L wr)) (fun i _ => N - (intOf i).toNat)
        case atStart => exact ⟨0, rfl, Nat.zero_le _, O⟩
        case round =>
          clear O
          obtain ⟨m, rfl, hm, O⟩ := hrel
          rename World => wy
          by_cases hmN : m < N
          · have e2 : decide (m < N) = true := by simp; omega
            have cg := O.out.cell m hmN
            have hus : usedB N L (m : Int) = !decide (m ∈ L) := by rw [usedB_nat]; simp [hmN]
            have HU : Hid (∀ k, Calls Try.prog 18 #[.pointer (some ⟨ab, 0, none⟩), .int .i64 (m : Int)] (wy.drewN k) (QD (wy.drewN k) (.bool (!decide (m ∈ L))))) := fun k => by
              rw [← hus]; exact (O.out.ar.drewN k).used (m : Int)
            clear hus
            generalize (!decide (m ∈ L)) = b at *
            go_wp2_with fail
            go_quiet (first | (go_at_call 18; exact Calls.quiet_of (HU.out _)))
            have O2 : Hid (OI w gb ab ub N L (wy.drewN nq)) := O.out.same (Below.dN (Below.refl _ _) nq)
            generalize wy.drewN nq = W2 at *
            go_wp2_with fail
            go_roundw
            case rel => exact ⟨m + 1, by go_num, by omega, O2⟩
            case measure => simp [intOf] <;> omega
          · have hmN2 : m = N := by omega
            have e2 : decide (m < N) = false := by simp; omega
            clear hmN2
            have hl : (N : Int) - (L.length : Int) = (c : Int) := by have := HC.out; omega
            have hd : (L.length : Int) = (N : Int) - (c : Int) := by omega
            have HLv := O.out.ar.live
            rw [hl] at HLv
            have u1 : usedB N L (-1) = false := by unfold usedB; exact decide_eq_false (fun q => by omega)
            have u2 : usedB N L (N : Int) = false := by unfold usedB; exact decide_eq_false (fun q => by omega)
            have HW : Hid (wrap64 ((N : Int) - (c : Int)) = (N : Int) - (c : Int)) := w64in _ ⟨by omega, by omega⟩
            have hw := HW.out
            have HD : Hid ((L.length : Int) = (N : Int) - (c : Int)) := hd
            have HU1 : Hid (usedB N L (-1) = false) := u1
            have HU2 : Hid (usedB N L (N : Int) = false) := u2
            clear hl hd u1 u2
            go_wp2_with fail
            refine HLv.mono ?_
            rintro e w6 ⟨rfl, k6, rfl⟩
            have O6 : Hid (OI w gb ab ub N L (wy.drewN k6)) := O.out.same (Below.dN (Below.refl _ _) k6)
            clear HLv
            generalize wy.drewN k6 = W6 at *
            have HFr := O6.out.ar.free
            rw [HD.out] at HFr
            go_wp2_with fail
            refine HFr.mono ?_
            rintro e w7 ⟨rfl, k7, rfl⟩
            have O7 : Hid (OI w gb ab ub N L (W6.drewN k7)) := O6.out.same (Below.dN (Below.refl _ _) k7)
            clear HFr
            generalize W6.drewN k7 = W7 at *
            have HA1 := O7.out.ar.used (-1)
            rw [HU1.out] at HA1
            go_wp2_with fail
            refine HA1.mono ?_
            rintro e w8 ⟨rfl, k8, rfl⟩
            have O8 : Hid (OI w gb ab ub N L (W7.drewN k8)) := O7.out.same (Below.dN (Below.refl _ _) k8)
            clear HA1
            generalize W7.drewN k8 = W8 at *
            have HA2 := O8.out.ar.used (N : Int)
            rw [HU2.out] at HA2
            go_wp2_with fail
            refine HA2.mono ?_
            rintro e w9 ⟨rfl, k9, rfl⟩
            have B9 : Hid (Below w.heap.size w (W8.drewN k9)) := Below.dN O8.out.bel k9
            clear HA2
            generalize W8.drewN k9 = W9 at *
            go_wp2_with fail
            refine (alive_any _).mono ?_
            rintro e wz ⟨rfl, bz⟩
            have BZ : Hid (Below w.heap.size w wz) := B9.out.trans (bz.mono B9.out.size)
            clear bz
            go_wp2
            first | exact ⟨rfl, BZ.out⟩ | (go_ret; exact ⟨rfl, BZ.out⟩)
  · have HHN : Hid (¬ (1 ≤ n ∧ n ≤ 512)) := hn
    clear hn
    go_enter Try.func4, Try.ntmps4
    go_wp2_with fail
    refine (HN.out _).mono ?_
    rintro e w1 ⟨b1, h2⟩
    rw [if_neg HHN.out] at h2
    subst h2
    have B1 : Hid (Below w.heap.size w w1) := b1
    clear b1 HN
    go_wp2_with fail
    refine (alive_any _).mono ?_
    rintro e wz ⟨rfl, bz⟩
    have BZ : Hid (Below w.heap.size w wz) := B1.out.trans (bz.mono B1.out.size)
    clear bz
    go_wp2
    first | exact ⟨rfl, BZ.out⟩ | (go_ret; exact ⟨rfl, BZ.out⟩)
end Go.Proofs.Ytdohclnmcdempaa
