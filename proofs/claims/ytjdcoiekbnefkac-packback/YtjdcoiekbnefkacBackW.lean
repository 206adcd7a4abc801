/- PackBack, walked: what is laid down is taken up as it was. -/
import Derived.Test.YtjdcoiekbnefkacBackP
import Derived.Test.YtjdcoiekbnefkacAlive
namespace Go.Proofs.Ytjdcoiekbnefkac
open Go.RowKit
set_option linter.unusedVariables false

set_option maxRecDepth 100000 in
set_option maxHeartbeats 4000000 in
theorem back_walk (l : List It) (a0 : Option Addr) (c0 : Nat) (w : World) (h0 : Its w (.slice a0 l.length c0) l) :
    Calls Try.prog 3 #[.slice a0 l.length c0] w fun e w' => e = .returned (.bool true) ∧ Below w.heap.size w w' := by
  have HI : Hid (Its w (.slice a0 l.length c0) l) := h0
  have HC : Hid _ := small_any _ l w h0
  obtain ⟨sb, hsb⟩ : ∃ sb, smallB l = sb := ⟨_, rfl⟩
  have HSB : Hid (smallB l = sb) := hsb
  rw [hsb] at HC
  clear h0 hsb
  go_enter Try.func3, Try.ntmps3
  go_wp2_with fail
  refine Calls.mono HC.out ?_
  rintro e w1 ⟨rfl, hb1⟩
  have HB1 : Hid (Below w.heap.size w w1) := hb1
  have HI1 : Hid (Its w1 (.slice a0 l.length c0) l) := HI.out.below hb1
  clear hb1 HC
  rcases sb with _ | _
  case false =>
    go_wp2
    go_ret
    exact ⟨rfl, HB1.out⟩
  have hsm := small_get HSB.out
  have hn64 : l.length ≤ 64 := hsm.1
  have HSM : Hid (∀ i (hi : i < l.length), l[i].s.size ≤ 1024 ∧ l[i].l.length ≤ 256) := hsm.2
  have hll : (laidB l).length ≤ 1000000 := by have := laid_len l hsm.2; omega
  clear hsm
  go_wp2_with fail
  refine (laid_any l a0 c0 w1 HI1.out HSB.out).mono ?_
  rintro e w2 ⟨v2, rfl, hrd, hb2⟩
  have HRD : Hid (Rd w2 v2 (laidB l)) := hrd
  have HB2 : Hid (Below w.heap.size w w2) := HB1.out.trans (hb2.mono HB1.out.size)
  obtain ⟨m2, a2, c2, rfl⟩ : ∃ m a c, v2 = .slice a m c := by
    rcases hrd with ⟨rfl, _⟩ | ⟨b, off, cap, rfl, _⟩
    · exact ⟨_, _, _, rfl⟩
    · exact ⟨_, _, _, rfl⟩
  clear hrd hb2
  go_wp2_with fail
  refine (read_any _ (laidB l) w2 (by omega) HRD.out).mono ?_
  rintro e w3 ⟨pr, rfl, hpr, hrs, hb3⟩
  have HR3 : Hid (RS w3 pr (laidB l) 0) := hrs
  have HB3 : Hid (Below w.heap.size w w3) := HB2.out.trans (hb3.mono HB2.out.size)
  have hprw : w.heap.size ≤ pr := Nat.le_trans HB2.out.size hpr
  clear hrs hb3 hpr
  obtain ⟨ad, cap, b, o, e0, h2, h3, h40, h5⟩ := HI.out
  injection e0 with e0 _ e2
  subst e0 e2
  have H5 : Hid (∀ i (h : i < l.length), IAt w l[i] b (o + 6 * i)) := h5
  have H4 : Hid (0 < l.length → a0 = some ⟨b, o, none⟩) := h40
  obtain ⟨n, hn⟩ : ∃ n, l.length = n := ⟨_, rfl⟩
  have HN : Hid (l.length = n) := hn
  rw [hn] at h2 hn64 ⊢
  unfold maxLen at h3
  clear h40 h5 hn HI HI1
  go_wp2
  go_loopw [4] (fun i wr => ∃ (j : Nat), j ≤ n ∧ i = .int .i64 (j : Int) ∧ Hid (RS wr pr (laidB (l.drop j)) 0) ∧ Hid (Below w.heap.size w wr)) (fun i _ => n - (intOf i).toNat)
  case atStart => exact ⟨0, Nat.zero_le _, rfl, HR3, HB3⟩
  case round =>
    obtain ⟨j, hj, rfl, HR, HB⟩ := hrel
    by_cases hlt : j < n
    · have hjl : j < l.length := by have := HN.out; omega
      obtain ⟨x, hx⟩ : ∃ x, l[j] = x := ⟨_, rfl⟩
      have hat0 := H5.out j hjl
      rw [hx] at hat0
      have HAT : Hid (IAt w x b (o + 6 * j)) := hat0
      have had := H4.out (by have := HN.out; omega)
      subst had
      have hk := hat0.hk
      have hu := hat0.hu
      have hnn := hat0.hn
      have hsz := HSM.out j hjl
      rw [hx] at hsz
      have HLD : Hid (laidB (l.drop j) = itB x ++ laidB (l.drop (j + 1))) := by show _ = _; rw [laid_drop l j hjl, hx]
      obtain ⟨M, hM⟩ : ∃ M, laidB (l.drop (j + 1)) = M := ⟨_, rfl⟩
      have HMM : Hid (laidB (l.drop (j + 1)) = M) := hM
      have hkin := kindI_in x.k
      obtain ⟨kk, hkk⟩ : ∃ kk, kindI x.k = kk := ⟨_, rfl⟩
      have HKC : Hid (Calls Try.prog 11 #[.int .i64 x.k] wr fun e w' => e = .returned (.int .i64 kk) ∧ w' = wr) := by rw [← hkk]; exact kind_any x.k wr hk
      rw [hkk] at hkin
      have HIT : Hid (itB x = if kk = 0 then uintB x.u.toNat else if kk = 1 then uintB (zig x.n) else if kk = 2 then flagB x.f else if kk = 3 then textB x.s else intsB x.l) := by show _ = _; unfold itB; rw [hkk]
      rw [HLD.out, hM] at HR
      have hat := HAT.out.below HB.out
      obtain ⟨k0, k1, k2, k3, k4, ⟨v5, k5, hv5⟩, _, _, _, _⟩ := hat
      obtain ⟨ad5, cap5, hv5e, _⟩ := id hv5
      subst hv5e
      rw [Nat.mul_comm 6 j] at k0 k1 k2 k3 k4 k5
      have HV5 : Hid (NSl wr (.slice ad5 x.l.length cap5) x.l) := hv5
      obtain ⟨un, hun⟩ : ∃ un : Nat, x.u = (un : Int) := ⟨x.u.toNat, by omega⟩
      have HUN : Hid (x.u = (un : Int)) := hun
      rw [hun] at k1 hu HIT
      rw [Int.toNat_natCast] at HIT
      have hblt : b < wr.heap.size := World.block_lt_of_cell? wr _ k0
      have hMl : (itB x).length + M.length ≤ 1000000 := by
        have h7 := laid_len (l.drop j) (fun i hi => by rw [List.getElem_drop]; exact HSM.out (j + i) (by simp at hi; omega))
        rw [HLD.out, hM, List.length_append, List.length_drop, HN.out] at h7
        omega
      have hcs : kk = 0 ∨ kk = 1 ∨ kk = 2 ∨ kk = 3 ∨ kk = 4 := by omega
      clear hun hkin hx hM hkk hat0 hv5
      rcases hcs with rfl | rfl | rfl | rfl | rfl
      · have HIK : Hid (itB x = uintB un) := by show _ = _; rw [HIT.out]; simp
        rw [HIK.out] at HR hMl
        have hMl2 : (uintB un ++ M).length ≤ 1000000000 := by rw [List.length_append]; omega
        clear HIT
        have HRd : Hid (RS wr.drew pr (uintB un ++ M) 0) := HR.out.below (Below.refl _ _).drew
        have HBd : Hid (Below w.heap.size w wr.drew) := HB.out.drew
        have HCT : Hid (∀ w', RS w' pr (uintB un ++ M) 0 → Calls Try.prog 37 #[.pointer (some ⟨pr, 0, none⟩)] w' (TPost w' pr 0 (.ok (fun v _ => v = .int .u64 (un : Int)) M))) := by
          intro w' hw'
          have := takeU pr 0 _ w' hw'
          rw [outU_of un M (by omega)] at this
          exact this
        go_wp2_with fail
        refine HKC.out.mono ?_
        rintro e w4 ⟨rfl, hw4⟩
        rw [hw4]
        clear hw4 w4
        go_wp2_with fail
        go_region_with (go_at_call 12; refine (ruint_ok pr _ _ _ HRd.out HCT).mono ?_; rintro e w5 ⟨v, rfl, rfl, q1, q2⟩; have B5 := HBd.out.trans (grow_below q2 hprw HBd.out.size); have R5 : Hid (RS w5 pr M 0) := q1; have z5 : w5.cell? ⟨b, o + j * 6 + 1, none⟩ = some (.int .u64 (un : Int)) := (by have z6 := (HAT.out.below B5).c1; rw [Nat.mul_comm 6 j] at z6; rw [HUN.out] at z6; exact z6); have hb5 : b < w5.heap.size := (World.block_lt_of_cell? w5 _ z5); clear q1 q2)
        all_goals
          have R6 : Hid (RS w5 pr (laidB (l.drop (j + 1))) 0) := by show RS _ _ _ _; rw [HMM.out]; exact R5.out
          have B6 : Hid (Below w.heap.size w w5) := B5
          clear B5
          go_wp2
          go_roundw
          case rel => exact ⟨j + 1, by omega, by go_num, R6, B6⟩
          case measure => simp [intOf]; omega
      · have HIK : Hid (itB x = uintB (zig x.n)) := by show _ = _; rw [HIT.out]; simp
        rw [HIK.out] at HR hMl
        have hMl2 : (uintB (zig x.n) ++ M).length ≤ 1000000000 := by rw [List.length_append]; omega
        clear HIT
        have HRd : Hid (RS wr.drew pr (uintB (zig x.n) ++ M) 0) := HR.out.below (Below.refl _ _).drew
        have HBd : Hid (Below w.heap.size w wr.drew) := HB.out.drew
        have HCT : Hid (∀ w', RS w' pr (uintB (zig x.n) ++ M) 0 → Calls Try.prog 39 #[.pointer (some ⟨pr, 0, none⟩)] w' (TPost w' pr 0 (.ok (fun v _ => v = .int .i64 x.n) M))) := by
          intro w' hw'
          have := takeI pr 0 _ w' hw'
          rw [outI_of x.n M hnn] at this
          exact this
        go_wp2_with fail
        refine HKC.out.mono ?_
        rintro e w4 ⟨rfl, hw4⟩
        rw [hw4]
        clear hw4 w4
        go_wp2_with fail
        go_region_with (go_at_call 13; refine (rint_ok pr _ _ _ HRd.out HCT).mono ?_; rintro e w5 ⟨v, rfl, rfl, q1, q2⟩; have B5 := HBd.out.trans (grow_below q2 hprw HBd.out.size); have R5 : Hid (RS w5 pr M 0) := q1; have z5 : w5.cell? ⟨b, o + j * 6 + 2, none⟩ = some (.int .i64 x.n) := (by have z6 := (HAT.out.below B5).c2; rw [Nat.mul_comm 6 j] at z6; exact z6); have hb5 : b < w5.heap.size := (World.block_lt_of_cell? w5 _ z5); clear q1 q2)
        all_goals
          have R6 : Hid (RS w5 pr (laidB (l.drop (j + 1))) 0) := by show RS _ _ _ _; rw [HMM.out]; exact R5.out
          have B6 : Hid (Below w.heap.size w w5) := B5
          clear B5
          go_wp2
          go_roundw
          case rel => exact ⟨j + 1, by omega, by go_num, R6, B6⟩
          case measure => simp [intOf]; omega
      · have HIK : Hid (itB x = flagB x.f) := by show _ = _; rw [HIT.out]; simp
        rw [HIK.out] at HR hMl
        have hMl2 : (flagB x.f ++ M).length ≤ 1000000000 := by rw [List.length_append]; omega
        clear HIT
        have HRd : Hid (RS wr.drew pr (flagB x.f ++ M) 0) := HR.out.below (Below.refl _ _).drew
        have HBd : Hid (Below w.heap.size w wr.drew) := HB.out.drew
        have HCT : Hid (∀ w', RS w' pr (flagB x.f ++ M) 0 → Calls Try.prog 41 #[.pointer (some ⟨pr, 0, none⟩)] w' (TPost w' pr 0 (.ok (fun v _ => v = .bool x.f) M))) := by
          intro w' hw'
          have := takeF pr 0 _ w' hw'
          rw [outF_of x.f M] at this
          exact this
        go_wp2_with fail
        refine HKC.out.mono ?_
        rintro e w4 ⟨rfl, hw4⟩
        rw [hw4]
        clear hw4 w4
        go_wp2_with fail
        go_region_with (go_at_call 14; refine (rflag_ok pr _ _ _ HRd.out HCT).mono ?_; rintro e w5 ⟨v, rfl, rfl, q1, q2⟩; have B5 := HBd.out.trans (grow_below q2 hprw HBd.out.size); have R5 : Hid (RS w5 pr M 0) := q1; have z5 : w5.cell? ⟨b, o + j * 6 + 3, none⟩ = some (.bool x.f) := (by have z6 := (HAT.out.below B5).c3; rw [Nat.mul_comm 6 j] at z6; exact z6); have hb5 : b < w5.heap.size := (World.block_lt_of_cell? w5 _ z5); clear q1 q2)
        all_goals
          have R6 : Hid (RS w5 pr (laidB (l.drop (j + 1))) 0) := by show RS _ _ _ _; rw [HMM.out]; exact R5.out
          have B6 : Hid (Below w.heap.size w w5) := B5
          clear B5
          go_wp2
          go_roundw
          case rel => exact ⟨j + 1, by omega, by go_num, R6, B6⟩
          case measure => simp [intOf]; omega
      · have HIK : Hid (itB x = textB x.s) := by show _ = _; rw [HIT.out]; simp
        rw [HIK.out] at HR hMl
        have hMl2 : (textB x.s ++ M).length ≤ 1000000000 := by rw [List.length_append]; omega
        clear HIT
        have HRd : Hid (RS wr.drew pr (textB x.s ++ M) 0) := HR.out.below (Below.refl _ _).drew
        have HBd : Hid (Below w.heap.size w wr.drew) := HB.out.drew
        have HCT : Hid (∀ w', RS w' pr (textB x.s ++ M) 0 → Calls Try.prog 43 #[.pointer (some ⟨pr, 0, none⟩)] w' (TPost w' pr 0 (.ok (fun v _ => v = .string x.s) M))) := by
          intro w' hw'
          have := takeT pr 0 _ w' hMl2 hw'
          rw [outT_of x.s M (by omega)] at this
          exact this
        go_wp2_with fail
        refine HKC.out.mono ?_
        rintro e w4 ⟨rfl, hw4⟩
        rw [hw4]
        clear hw4 w4
        go_wp2_with fail
        go_region_with (go_at_call 15; refine (rtext_ok pr _ _ _ HRd.out HCT).mono ?_; rintro e w5 ⟨v, rfl, rfl, q1, q2⟩; have B5 := HBd.out.trans (grow_below q2 hprw HBd.out.size); have R5 : Hid (RS w5 pr M 0) := q1; have z5 : w5.cell? ⟨b, o + j * 6 + 4, none⟩ = some (.string x.s) := (by have z6 := (HAT.out.below B5).c4; rw [Nat.mul_comm 6 j] at z6; exact z6); have hb5 : b < w5.heap.size := (World.block_lt_of_cell? w5 _ z5); clear q1 q2)
        all_goals
          have R6 : Hid (RS w5 pr (laidB (l.drop (j + 1))) 0) := by show RS _ _ _ _; rw [HMM.out]; exact R5.out
          have B6 : Hid (Below w.heap.size w w5) := B5
          clear B5
          go_wp2
          go_roundw
          case rel => exact ⟨j + 1, by omega, by go_num, R6, B6⟩
          case measure => simp [intOf]; omega
      · have HVE : Hid (∀ w', Below w.heap.size w w' → w'.cell? ⟨b, o + j * 6 + 5, none⟩ = some (.slice ad5 x.l.length cap5) ∧ NSl w' (.slice ad5 x.l.length cap5) x.l) := by
          intro w' hb'
          obtain ⟨v6, q5, hv6⟩ := HAT.out.c5
          rw [Nat.mul_comm 6 j] at q5
          have hbw : b < w.heap.size := World.block_lt_of_cell? w _ HAT.out.c0
          have e56 : v6 = .slice ad5 x.l.length cap5 := by
            have := (HB.out.cell (p := ⟨b, o + j * 6 + 5, none⟩) hbw).trans q5
            rw [k5] at this
            injection this with this
            exact this.symm
          subst e56
          exact ⟨(hb'.cell (p := ⟨b, o + j * 6 + 5, none⟩) hbw).trans q5, hv6.below hb'⟩
        have HNZ : Hid (∀ n ∈ x.l, -9223372036854775808 ≤ n ∧ n ≤ 9223372036854775807) := by obtain ⟨_, _, _, _, _, h, _⟩ := HV5.out; exact h
        have HIK : Hid (itB x = intsB x.l) := by show _ = _; rw [HIT.out]; simp
        rw [HIK.out] at HR hMl
        have hMl2 : (intsB x.l ++ M).length ≤ 1000000000 := by rw [List.length_append]; omega
        clear HIT
        have HRd : Hid (RS wr.drew pr (intsB x.l ++ M) 0) := HR.out.below (Below.refl _ _).drew
        have HBd : Hid (Below w.heap.size w wr.drew) := HB.out.drew
        have HCT : Hid (∀ w', RS w' pr (intsB x.l ++ M) 0 → Calls Try.prog 45 #[.pointer (some ⟨pr, 0, none⟩)] w' (TPost w' pr 0 (.ok (fun v w' => NSl w' v x.l) M))) := by
          intro w' hw'
          have := takeL pr 0 _ w' hMl2 hw'
          rw [outL_of x.l M (by omega) HNZ.out] at this
          exact this
        go_wp2_with fail
        refine HKC.out.mono ?_
        rintro e w4 ⟨rfl, hw4⟩
        rw [hw4]
        clear hw4 w4
        go_wp2_with fail
        go_region_with (first | (go_at_call 17; refine (rints_ok pr _ _ _ HRd.out HCT).mono ?_; rintro e w5 ⟨v, rfl, hv, q1, q2⟩; have B5 := HBd.out.trans (grow_below q2 hprw HBd.out.size); have R5 : Hid (RS w5 pr M 0) := q1; have HV : Hid (NSl w5 v x.l) := hv; have HVL : Hid (NSl w5 (.slice ad5 x.l.length cap5) x.l) := (HVE.out w5 B5).2; have z5 : w5.cell? ⟨b, o + j * 6 + 5, none⟩ = some (.slice ad5 x.l.length cap5) := (HVE.out w5 B5).1; have hb5 : b < w5.heap.size := (World.block_lt_of_cell? w5 _ z5); have hvf : ∃ a c, v = .slice a x.l.length c := (by obtain ⟨a, c, e9, _⟩ := hv; exact ⟨a, c, e9⟩); obtain ⟨va, vc, rfl⟩ := hvf; clear q1 q2 hv) | (go_at_call 16; refine (same_true _ _ x.l _ (by omega) HV.out HVL.out).mono ?_; rintro e w6 ⟨rfl, q3⟩; have R6 : Hid (RS w6 pr M 0) := R5.out.below q3; have B6 := B5.trans (q3.mono B5.size); clear q3))
        all_goals
          have R7 : Hid (RS w6 pr (laidB (l.drop (j + 1))) 0) := by show RS _ _ _ _; rw [HMM.out]; exact R6.out
          have B7 : Hid (Below w.heap.size w w6) := B6
          clear B6 B5
          go_wp2
          go_roundw
          case rel => exact ⟨j + 1, by omega, by go_num, R7, B7⟩
          case measure => simp [intOf]; omega
    · have HR0 : Hid (RS wr pr [] 0) := by
        have := HR.out
        rw [List.drop_of_length_le (by have := HN.out; omega)] at this
        exact this
      go_wp2_with fail
      refine (end_ok pr wr HR0.out).mono ?_
      rintro e w5 ⟨rfl, hw5⟩
      rw [hw5]
      clear hw5 w5
      go_wp2_with fail
      refine (left_any pr 0 [] wr HR0.out (by simp)).mono ?_
      rintro e w5 ⟨rfl, hw5⟩
      rw [hw5]
      clear hw5 w5
      go_wp2_with fail
      refine (alive_any wr).mono ?_
      rintro e w5 ⟨rfl, hb5⟩
      have HB5 : Hid (Below w.heap.size w w5) := HB.out.trans (hb5.mono HB.out.size)
      clear hb5
      go_wp2
      go_ret
      exact ⟨rfl, HB5.out⟩
end Go.Proofs.Ytjdcoiekbnefkac
