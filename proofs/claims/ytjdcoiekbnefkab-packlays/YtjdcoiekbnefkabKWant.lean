/- The document's bytes of things laid down. -/
import Derived.Test.YtjdcoiekbnefkabKRefU
import Derived.Lib.AppendStr
namespace Go.Proofs.Ytjdcoiekbnefkab
open Go.RowKit
set_option linter.unusedVariables false

set_option maxRecDepth 100000 in
set_option maxHeartbeats 400000 in
theorem rint (n : Int) (w : World) (h1 : -9223372036854775808 ≤ n) (h2 : n ≤ 9223372036854775807) : Calls Try.prog 48 #[.int .i64 n] w fun e w' => NewPost w (uintB (zig n)) e w' := by
  have HZ : Hid (zig n ≤ 18446744073709551615) := zig_le n h1 h2
  by_cases hn : 0 ≤ n
  · have E : Hid (n * 2 = ((zig n : Nat) : Int)) := by show _ = _; unfold zig; rw [if_neg (by omega)]; omega
    go_enter Try.func48, Try.ntmps48
    go_wp2_with fail
    rw [E.out]
    refine (ruint (zig n) w HZ.out).mono ?_
    rintro e w1 ⟨v1, rfl, k1, k2⟩
    have HP : Hid (NewPost w (uintB (zig n)) (.returned v1) w1) := ⟨v1, rfl, k1, k2⟩
    clear k1 k2
    go_wp2
    go_ret
    exact HP.out
  · have E : Hid (-(n + 1) * 2 + 1 = ((zig n : Nat) : Int)) := by show _ = _; unfold zig; rw [if_pos (by omega)]; omega
    go_enter Try.func48, Try.ntmps48
    go_wp2_with fail
    rw [E.out]
    refine (ruint (zig n) w HZ.out).mono ?_
    rintro e w1 ⟨v1, rfl, k1, k2⟩
    have HP : Hid (NewPost w (uintB (zig n)) (.returned v1) w1) := ⟨v1, rfl, k1, k2⟩
    clear k1 k2
    go_wp2
    go_ret
    exact HP.out

theorem uintB_pos (n : Nat) : 0 < (uintB n).length := by
  unfold uintB uintF
  split <;> simp
/-- what is appended out of new memory -/
theorem Own.src {w : World} {base : Nat} {v : Value} {L : List UInt8} (h : Own w base v L) (hp : 0 < L.length) : ∃ g c, v = .slice (some ⟨g, 0, none⟩) L.length c ∧ ∀ j u, (bc L)[j]? = some u → w.cell? ((⟨g, 0, none⟩ : Addr).add j) = some u := by
  rcases h.2 with ⟨_, h0⟩ | ⟨g, cap, cur, e1, _⟩
  · omega
  · refine ⟨g, cap, e1, fun j u hj => ?_⟩
    exact World.ownsRow.cells h (g := g) (by rw [e1]; rfl) j u hj
theorem Own.after {w w1 w2 : World} {base : Nat} {v v' : Value} {P M : List UInt8} (hb : base ≤ w1.heap.size) (hown : w2.ownsRow base 5 1 v' (P.length + M.length) (bc P ++ bc M)) : Own w2 base v' (P ++ M) := by
  unfold Own
  rw [bc_app, List.length_append]
  exact hown

set_option maxRecDepth 100000 in
set_option maxHeartbeats 8000000 in
theorem want_any (l : List It) (a0 : Option Addr) (c0 : Nat) (w : World) (h0 : Its w (.slice a0 l.length c0) l) (hs : smallB l = true) :
    Calls Try.prog 19 #[.slice a0 l.length c0] w (LaidPost w (laidB l)) := by
  have hsm := small_get hs
  obtain ⟨n, hn⟩ : ∃ n, l.length = n := ⟨_, rfl⟩
  have HN : Hid (l.length = n) := hn
  have hn64 : n ≤ 64 := by rw [← hn]; exact hsm.1
  have HSM : Hid (∀ i (hi : i < l.length), l[i].s.size ≤ 1024 ∧ l[i].l.length ≤ 256) := hsm.2
  obtain ⟨ad, cap, b, o, e0, h2, h3, h40, h5⟩ := h0
  injection e0 with e0 _ e2
  subst e0 e2
  have H5 : Hid (∀ i (h : i < l.length), IAt w l[i] b (o + 6 * i)) := h5
  have H4 : Hid (0 < l.length → a0 = some ⟨b, o, none⟩) := h40
  have HTL : Hid (∀ j, j ≤ n → (laidB (l.take j)).length ≤ 200000) := by
    intro j hj
    have := laid_len (l.take j) (fun i hi => by rw [List.getElem_take]; exact HSM.out i (by simp at hi; omega))
    rw [List.length_take] at this
    omega
  obtain ⟨i0, hi, hz0, hz1, hz2⟩ := info_parts info5
  rw [hn] at h2 ⊢
  unfold maxLen at h3
  clear h40 h5 hn hsm hs
  go_enter Try.func19, Try.ntmps19
  go_wp2
  go_loopw [3, 4] (fun bv i wr => ∃ (j : Nat) (ba : Option Addr) (bcap : Nat), j ≤ n ∧ i = .int .i64 (j : Int) ∧ bv = .slice ba (laidB (l.take j)).length bcap ∧ Hid (Own wr w.heap.size (.slice ba (laidB (l.take j)).length bcap) (laidB (l.take j))) ∧ Hid (Below w.heap.size w wr)) (fun _ i _ => n - (intOf i).toNat)
  case atStart => exact ⟨0, none, 0, Nat.zero_le _, rfl, rfl, World.ownsRow_nil _ _ _ _, Below.refl _ _⟩
  case round =>
    obtain ⟨j, ba, bcap, hj, rfl, rfl, HO, HB⟩ := hrel
    by_cases hlt : j < n
    · have hjl : j < l.length := by have := HN.out; omega
      obtain ⟨x, hx⟩ : ∃ x, l[j] = x := ⟨_, rfl⟩
      have hat0 := H5.out j hjl
      rw [hx] at hat0
      have HAT : Hid (IAt w x b (o + 6 * j)) := hat0
      have had := H4.out (by have := HN.out; omega)
      subst had
      have hat2 := hat0.below HB.out
      obtain ⟨k0, k1, k2, k3, k4, ⟨v5, k5, hv5⟩, hk, hu, hnn, hss⟩ := hat2
      rw [Nat.mul_comm 6 j] at k0 k1 k2 k3 k4 k5
      have hsz := HSM.out j hjl
      rw [hx] at hsz
      have HTK : Hid (laidB (l.take (j + 1)) = laidB (l.take j) ++ itB x) := by show _ = _; rw [laid_take l j hjl, hx]
      obtain ⟨Q, hQ⟩ : ∃ Q, laidB (l.take j) = Q := ⟨_, rfl⟩
      have hQl : Q.length ≤ 200000 := by rw [← hQ]; exact HTL.out j hj
      rw [hQ] at HO HTK ⊢
      obtain ⟨qn, hqn⟩ : ∃ qn, Q.length = qn := ⟨_, rfl⟩
      have HQN : Hid (Q.length = qn) := hqn
      rw [hqn] at HO hQl ⊢
      have hkin := kindI_in x.k
      obtain ⟨kk, hkk⟩ : ∃ kk, kindI x.k = kk := ⟨_, rfl⟩
      have HKC : Hid (Calls Try.prog 40 #[.int .i64 x.k] wr fun e w' => e = .returned (.int .i64 kk) ∧ w' = wr) := by rw [← hkk]; exact kind_any x.k wr hk
      rw [hkk] at hkin
      have HIT : Hid (itB x = if kk = 0 then uintB x.u.toNat else if kk = 1 then uintB (zig x.n) else if kk = 2 then flagB x.f else if kk = 3 then textB x.s else intsB x.l) := by show _ = _; unfold itB; rw [hkk]
      obtain ⟨un, hun⟩ : ∃ un : Nat, x.u = (un : Int) := ⟨x.u.toNat, by omega⟩
      rw [hun] at k1 hu HIT
      rw [Int.toNat_natCast] at HIT
      obtain ⟨ad5, cap5, hv5e, hv51, hv52, hv5z, hv5c⟩ := hv5
      subst hv5e
      have HV5 : Hid (NSl wr (.slice ad5 x.l.length cap5) x.l) := ⟨ad5, cap5, rfl, hv51, hv52, hv5z, hv5c⟩
      have hbw : b < w.heap.size := World.block_lt_of_cell? w _ HAT.out.c0
      have hws : w.heap.size ≤ wr.heap.size := HB.out.size
      have hcs : kk = 0 ∨ kk = 1 ∨ kk = 2 ∨ kk = 3 ∨ kk = 4 := by omega
      clear hun hkin hx hQ hqn hkk hat0 hv5c
      rcases hcs with rfl | rfl | rfl | rfl | rfl
      · have HIK : Hid (itB x = uintB un) := by show _ = _; rw [HIT.out]; simp
        clear HIT
        go_wp2_with fail
        refine HKC.out.mono ?_
        rintro e w3 ⟨rfl, hw3⟩
        rw [hw3]
        clear hw3 w3
        obtain ⟨bap, hbap⟩ : ∃ a, a = ba := ⟨_, rfl⟩
        obtain ⟨bcapp, hbcp⟩ : ∃ a, a = bcap := ⟨_, rfl⟩
        subst hbap hbcp
        have HQNp : Hid (Q.length = qn) := HQN
        go_wp2_with fail
        refine (ruint un wr (by omega)).mono ?_
        rintro e w4 ⟨pv, rfl, po, pb⟩
        obtain ⟨pg, pc, pe, ps⟩ := po.src (uintB_pos _)
        subst pe
        have pOW : Hid (w4.ownsRow w.heap.size 5 1 (.slice bap qn bcapp) qn (bc Q)) := by
          have h9 := (HO.out).below pb
          unfold Own at h9
          rw [HQNp.out] at h9
          exact h9
        have pBB : Hid (Below w.heap.size w w4) := HB.out.trans (pb.mono HB.out.size)
        have pSR : Hid (∀ j u, (bc (uintB un))[j]? = some u → w4.cell? ((⟨pg, 0, none⟩ : Addr).add j) = some u) := ps
        obtain ⟨pm, phm⟩ : ∃ m, (uintB un).length = m := ⟨_, rfl⟩
        have pHM : Hid ((uintB un).length = pm) := phm
        have pml : pm ≤ 10 := by rw [← phm]; exact uintF_len 9 _
        have psz : w.heap.size ≤ w4.heap.size := pBB.out.size
        rw [phm]
        clear po pb ps phm
        go_wp2_with (at_builtin; refine wpList_append_own _ rfl _ _ 37 rfl w.heap.size 5 i0 (.int .u8 0) 1 1 Try.underlying37 hi hz0 hz1 hz2 rfl (by decide) _ _ _ rfl pOW.out ⟨pg, 0, none⟩ pm pc (bc (uintB un)) rfl ?cp0 pSR.out (bc_one _) ?cp3 ?cp4 psz ?_)
        case cp0 => rw [bc_len, Nat.mul_one]; exact pHM.out
        case cp3 => unfold maxLen; omega
        case cp4 => omega
        intro pv' w5 phown phgrow _
        have pO2 : Hid (Own w5 w.heap.size pv' (Q ++ uintB un)) := by
          show Own _ _ _ _
          unfold Own
          rw [bc_app, List.length_append, HQNp.out, pHM.out]
          exact phown
        have pB2 : Hid (Below w.heap.size w w5) := pBB.out.grown phgrow psz (fun k hk => (World.ownsRow.lt pOW.out k hk).1)
        obtain ⟨bap2, bcapp2, pev⟩ : ∃ a c, pv' = .slice a (qn + pm) c := by
          rcases phown.2 with ⟨h, h0⟩ | ⟨g, cap', _, h, _⟩
          · exact ⟨none, 0, by rw [h, h0]⟩
          · exact ⟨_, _, h⟩
        subst pev
        clear phown phgrow
        go_wp2
        go_roundw
        case rel => exact ⟨j + 1, bap2, bcapp2, by omega, by go_num, by rw [HTK.out, HIK.out, List.length_append]; rw [HQN.out, pHM.out], by rw [HTK.out, HIK.out, List.length_append]; rw [HQN.out, pHM.out]; exact pO2, pB2⟩
        case measure => simp [intOf]; omega
      · have HIK : Hid (itB x = uintB (zig x.n)) := by show _ = _; rw [HIT.out]; simp
        clear HIT
        go_wp2_with fail
        refine HKC.out.mono ?_
        rintro e w3 ⟨rfl, hw3⟩
        rw [hw3]
        clear hw3 w3
        obtain ⟨bar, hbar⟩ : ∃ a, a = ba := ⟨_, rfl⟩
        obtain ⟨bcapr, hbcr⟩ : ∃ a, a = bcap := ⟨_, rfl⟩
        subst hbar hbcr
        have HQNr : Hid (Q.length = qn) := HQN
        go_wp2_with fail
        refine (rint x.n wr hnn.1 hnn.2).mono ?_
        rintro e w4 ⟨rv, rfl, ro, rb⟩
        obtain ⟨rg, rc, re, rs⟩ := ro.src (uintB_pos _)
        subst re
        have rOW : Hid (w4.ownsRow w.heap.size 5 1 (.slice bar qn bcapr) qn (bc Q)) := by
          have h9 := (HO.out).below rb
          unfold Own at h9
          rw [HQNr.out] at h9
          exact h9
        have rBB : Hid (Below w.heap.size w w4) := HB.out.trans (rb.mono HB.out.size)
        have rSR : Hid (∀ j u, (bc (uintB (zig x.n)))[j]? = some u → w4.cell? ((⟨rg, 0, none⟩ : Addr).add j) = some u) := rs
        obtain ⟨rm, rhm⟩ : ∃ m, (uintB (zig x.n)).length = m := ⟨_, rfl⟩
        have rHM : Hid ((uintB (zig x.n)).length = rm) := rhm
        have rml : rm ≤ 10 := by rw [← rhm]; exact uintF_len 9 _
        have rsz : w.heap.size ≤ w4.heap.size := rBB.out.size
        rw [rhm]
        clear ro rb rs rhm
        go_wp2_with (at_builtin; refine wpList_append_own _ rfl _ _ 37 rfl w.heap.size 5 i0 (.int .u8 0) 1 1 Try.underlying37 hi hz0 hz1 hz2 rfl (by decide) _ _ _ rfl rOW.out ⟨rg, 0, none⟩ rm rc (bc (uintB (zig x.n))) rfl ?cr0 rSR.out (bc_one _) ?cr3 ?cr4 rsz ?_)
        case cr0 => rw [bc_len, Nat.mul_one]; exact rHM.out
        case cr3 => unfold maxLen; omega
        case cr4 => omega
        intro rv' w5 rhown rhgrow _
        have rO2 : Hid (Own w5 w.heap.size rv' (Q ++ uintB (zig x.n))) := by
          show Own _ _ _ _
          unfold Own
          rw [bc_app, List.length_append, HQNr.out, rHM.out]
          exact rhown
        have rB2 : Hid (Below w.heap.size w w5) := rBB.out.grown rhgrow rsz (fun k hk => (World.ownsRow.lt rOW.out k hk).1)
        obtain ⟨bar2, bcapr2, rev⟩ : ∃ a c, rv' = .slice a (qn + rm) c := by
          rcases rhown.2 with ⟨h, h0⟩ | ⟨g, cap', _, h, _⟩
          · exact ⟨none, 0, by rw [h, h0]⟩
          · exact ⟨_, _, h⟩
        subst rev
        clear rhown rhgrow
        go_wp2
        go_roundw
        case rel => exact ⟨j + 1, bar2, bcapr2, by omega, by go_num, by rw [HTK.out, HIK.out, List.length_append]; rw [HQN.out, rHM.out], by rw [HTK.out, HIK.out, List.length_append]; rw [HQN.out, rHM.out]; exact rO2, rB2⟩
        case measure => simp [intOf]; omega
      · rcases hf : x.f with _ | _
        · have HIK : Hid (itB x = [0]) := by show _ = _; rw [HIT.out]; simp [flagB, hf]
          clear HIT
          have HOA : Hid (∀ o, (wr.alloc o).ownsRow w.heap.size 5 1 (.slice ba qn bcap) qn (bc Q)) := by
            intro o
            have := World.ownsRow.alloc HO.out o
            rw [HQN.out] at this
            exact this
          rw [hf] at k3
          go_wp2_with fail
          refine HKC.out.mono ?_
          rintro e w3 ⟨rfl, hw3⟩
          rw [hw3]
          clear hw3 w3
          go_wp2_with (at_builtin; refine wpList_append_own _ rfl _ _ 37 rfl w.heap.size 5 i0 (.int .u8 0) 1 1 Try.underlying37 hi hz0 hz1 hz2 rfl (by decide) _ _ _ rfl (HOA.out _) ⟨wr.heap.size, 0, none⟩ 1 1 (bc [0]) rfl rfl ?f01 (bc_one _) ?f03 ?f04 ?f05 ?_)
          case f01 =>
            intro j u hj
            match j, hj with
            | 0, hj => simp [bc] at hj; subst hj; simp [Addr.add]
          case f03 => unfold maxLen; omega
          case f04 => omega
          case f05 => simp; omega
          intro v' w5 hown hgrow _
          have O2 : Hid (Own w5 w.heap.size v' (Q ++ [0])) := by
            show Own _ _ _ _
            unfold Own
            rw [bc_app, List.length_append, HQN.out]
            exact hown
          have B2 : Hid (Below w.heap.size w w5) := (HB.out.alloc hws _).grown hgrow (by simp; omega) (fun k hk => (World.ownsRow.lt HO.out k hk).1)
          obtain ⟨ba2, bcap2, ev⟩ : ∃ a c, v' = .slice a (qn + 1) c := by
            rcases hown.2 with ⟨h, h0⟩ | ⟨g, cap', _, h, _⟩
            · omega
            · exact ⟨_, _, h⟩
          subst ev
          clear hown hgrow
          go_wp2
          go_roundw
          case rel => exact ⟨j + 1, ba2, bcap2, by omega, by go_num, by rw [HTK.out, HIK.out, List.length_append]; rw [HQN.out]; rfl, by rw [HTK.out, HIK.out, List.length_append]; rw [HQN.out]; exact O2, B2⟩
          case measure => simp [intOf]; omega
        · have HIK : Hid (itB x = [1]) := by show _ = _; rw [HIT.out]; simp [flagB, hf]
          clear HIT
          have HOA : Hid (∀ o, (wr.alloc o).ownsRow w.heap.size 5 1 (.slice ba qn bcap) qn (bc Q)) := by
            intro o
            have := World.ownsRow.alloc HO.out o
            rw [HQN.out] at this
            exact this
          rw [hf] at k3
          go_wp2_with fail
          refine HKC.out.mono ?_
          rintro e w3 ⟨rfl, hw3⟩
          rw [hw3]
          clear hw3 w3
          go_wp2_with (at_builtin; refine wpList_append_own _ rfl _ _ 37 rfl w.heap.size 5 i0 (.int .u8 0) 1 1 Try.underlying37 hi hz0 hz1 hz2 rfl (by decide) _ _ _ rfl (HOA.out _) ⟨wr.heap.size, 0, none⟩ 1 1 (bc [1]) rfl rfl ?f11 (bc_one _) ?f13 ?f14 ?f15 ?_)
          case f11 =>
            intro j u hj
            match j, hj with
            | 0, hj => simp [bc] at hj; subst hj; simp [Addr.add]
          case f13 => unfold maxLen; omega
          case f14 => omega
          case f15 => simp; omega
          intro v' w5 hown hgrow _
          have O2 : Hid (Own w5 w.heap.size v' (Q ++ [1])) := by
            show Own _ _ _ _
            unfold Own
            rw [bc_app, List.length_append, HQN.out]
            exact hown
          have B2 : Hid (Below w.heap.size w w5) := (HB.out.alloc hws _).grown hgrow (by simp; omega) (fun k hk => (World.ownsRow.lt HO.out k hk).1)
          obtain ⟨ba2, bcap2, ev⟩ : ∃ a c, v' = .slice a (qn + 1) c := by
            rcases hown.2 with ⟨h, h0⟩ | ⟨g, cap', _, h, _⟩
            · omega
            · exact ⟨_, _, h⟩
          subst ev
          clear hown hgrow
          go_wp2
          go_roundw
          case rel => exact ⟨j + 1, ba2, bcap2, by omega, by go_num, by rw [HTK.out, HIK.out, List.length_append]; rw [HQN.out]; rfl, by rw [HTK.out, HIK.out, List.length_append]; rw [HQN.out]; exact O2, B2⟩
          case measure => simp [intOf]; omega
      · have HIK : Hid (itB x = uintB x.s.size ++ x.s.data.toList) := by show _ = _; rw [HIT.out]; simp [textB]
        clear HIT
        go_wp2_with fail
        refine HKC.out.mono ?_
        rintro e w3 ⟨rfl, hw3⟩
        rw [hw3]
        clear hw3 w3
        obtain ⟨bat, hbat⟩ : ∃ a, a = ba := ⟨_, rfl⟩
        obtain ⟨bcapt, hbct⟩ : ∃ a, a = bcap := ⟨_, rfl⟩
        subst hbat hbct
        have HQNt : Hid (Q.length = qn) := HQN
        go_wp2_with fail
        refine (ruint x.s.size wr (by omega)).mono ?_
        rintro e w4 ⟨tv, rfl, to, tb⟩
        obtain ⟨tg, tc, te, ts⟩ := to.src (uintB_pos _)
        subst te
        have tOW : Hid (w4.ownsRow w.heap.size 5 1 (.slice bat qn bcapt) qn (bc Q)) := by
          have h9 := (HO.out).below tb
          unfold Own at h9
          rw [HQNt.out] at h9
          exact h9
        have tBB : Hid (Below w.heap.size w w4) := HB.out.trans (tb.mono HB.out.size)
        have tSR : Hid (∀ j u, (bc (uintB x.s.size))[j]? = some u → w4.cell? ((⟨tg, 0, none⟩ : Addr).add j) = some u) := ts
        obtain ⟨tm, thm⟩ : ∃ m, (uintB x.s.size).length = m := ⟨_, rfl⟩
        have tHM : Hid ((uintB x.s.size).length = tm) := thm
        have tml : tm ≤ 10 := by rw [← thm]; exact uintF_len 9 _
        have tsz : w.heap.size ≤ w4.heap.size := tBB.out.size
        rw [thm]
        clear to tb ts thm
        go_wp2_with (at_builtin; refine wpList_append_own _ rfl _ _ 37 rfl w.heap.size 5 i0 (.int .u8 0) 1 1 Try.underlying37 hi hz0 hz1 hz2 rfl (by decide) _ _ _ rfl tOW.out ⟨tg, 0, none⟩ tm tc (bc (uintB x.s.size)) rfl ?ct0 tSR.out (bc_one _) ?ct3 ?ct4 tsz ?_)
        case ct0 => rw [bc_len, Nat.mul_one]; exact tHM.out
        case ct3 => unfold maxLen; omega
        case ct4 => omega
        intro tv' w5 thown thgrow _
        have tO2 : Hid (Own w5 w.heap.size tv' (Q ++ uintB x.s.size)) := by
          show Own _ _ _ _
          unfold Own
          rw [bc_app, List.length_append, HQNt.out, tHM.out]
          exact thown
        have tB2 : Hid (Below w.heap.size w w5) := tBB.out.grown thgrow tsz (fun k hk => (World.ownsRow.lt tOW.out k hk).1)
        obtain ⟨bat2, bcapt2, tev⟩ : ∃ a c, tv' = .slice a (qn + tm) c := by
          rcases thown.2 with ⟨h, h0⟩ | ⟨g, cap', _, h, _⟩
          · exact ⟨none, 0, by rw [h, h0]⟩
          · exact ⟨_, _, h⟩
        subst tev
        clear thown thgrow
        have kt4 : w5.cell? ⟨b, o + j * 6 + 4, none⟩ = some (.string x.s) := by have h9 := (HAT.out.below tB2.out).c4; rw [Nat.mul_comm 6 j] at h9; exact h9
        have hb5 : b < w5.heap.size := Nat.lt_of_lt_of_le hbw tB2.out.size
        have tO3 : Hid (w5.ownsRow w.heap.size 5 1 (.slice bat2 (qn + tm) bcapt2) (qn + tm) (bc (Q ++ uintB x.s.size))) := by
          have h9 := tO2.out
          unfold Own at h9
          rw [List.length_append, HQN.out, tHM.out] at h9
          exact h9
        go_wp2_with (at_builtin; refine Lib.wpList_append_own_string _ rfl _ _ 37 9 rfl w.heap.size 5 i0 Try.underlying37 Try.underlying9 hi hz0 hz1 hz2 _ _ _ rfl tO3.out x.s rfl ?s3 ?s4 ?s5 ?_)
        case s3 => unfold maxLen; omega
        case s4 => omega
        case s5 => exact tB2.out.size
        intro v' w6 hown hgrow _
        have es : Lib.strCells x.s = bc x.s.data.toList := rfl
        have el : x.s.data.toList.length = x.s.size := by simp
        have O2 : Hid (Own w6 w.heap.size v' (Q ++ (uintB x.s.size ++ x.s.data.toList))) := by
          show Own _ _ _ _
          unfold Own
          rw [← List.append_assoc, bc_app (Q ++ _), List.length_append, List.length_append, HQN.out, tHM.out, el, ← es]
          exact hown
        have B2 : Hid (Below w.heap.size w w6) := tB2.out.grown hgrow tB2.out.size (fun k hk => (World.ownsRow.lt tO3.out k hk).1)
        obtain ⟨ba2, bcap2, ev⟩ : ∃ a c, v' = .slice a (qn + tm + x.s.size) c := by
          rcases hown.2 with ⟨h, h0⟩ | ⟨g, cap', _, h, _⟩
          · exact ⟨none, 0, by rw [h, h0]⟩
          · exact ⟨_, _, h⟩
        subst ev
        clear hown hgrow es
        go_wp2
        go_roundw
        case rel => exact ⟨j + 1, ba2, bcap2, by omega, by go_num, by rw [HTK.out, HIK.out, List.length_append]; rw [HQN.out, List.length_append, tHM.out, el, Nat.add_assoc], by rw [HTK.out, HIK.out, List.length_append]; rw [HQN.out, List.length_append, tHM.out, el, ← Nat.add_assoc]; exact O2, B2⟩
        case measure => simp [intOf]; omega
      · have HIK : Hid (itB x = intsB x.l) := by show _ = _; rw [HIT.out]; simp
        clear HIT
        go_wp2_with fail
        refine HKC.out.mono ?_
        rintro e w3 ⟨rfl, hw3⟩
        rw [hw3]
        clear hw3 w3
        obtain ⟨ln, hln⟩ : ∃ ln, x.l.length = ln := ⟨_, rfl⟩
        have HLN : Hid (x.l.length = ln) := hln
        have hln9 : ln ≤ 256 := by rw [← hln]; exact hsz.2
        rw [hln] at k5 hv51
        have HVE : Hid (∀ w', Below w.heap.size w w' → w'.cell? ⟨b, o + j * 6 + 5, none⟩ = some (.slice ad5 ln cap5) ∧ NSl w' (.slice ad5 ln cap5) x.l) := by
          intro w' hb'
          obtain ⟨v6, q5, hv6⟩ := HAT.out.c5
          rw [Nat.mul_comm 6 j] at q5
          have e56 : v6 = .slice ad5 ln cap5 := by
            have := (HB.out.cell (p := ⟨b, o + j * 6 + 5, none⟩) hbw).trans q5
            rw [k5] at this
            injection this with this
            exact this.symm
          subst e56
          exact ⟨(hb'.cell (p := ⟨b, o + j * 6 + 5, none⟩) hbw).trans q5, hv6.below hb'⟩
        unfold maxLen at hv52
        clear hln
        obtain ⟨bat, hbat⟩ : ∃ a, a = ba := ⟨_, rfl⟩
        obtain ⟨bcapt, hbct⟩ : ∃ a, a = bcap := ⟨_, rfl⟩
        subst hbat hbct
        have HQNt : Hid (Q.length = qn) := HQN
        go_wp2_with fail
        refine (ruint ln wr (by omega)).mono ?_
        rintro e w4 ⟨tv, rfl, to, tb⟩
        obtain ⟨tg, tc, te, ts⟩ := to.src (uintB_pos _)
        subst te
        have tOW : Hid (w4.ownsRow w.heap.size 5 1 (.slice bat qn bcapt) qn (bc Q)) := by
          have h9 := (HO.out).below tb
          unfold Own at h9
          rw [HQNt.out] at h9
          exact h9
        have tBB : Hid (Below w.heap.size w w4) := HB.out.trans (tb.mono HB.out.size)
        have tSR : Hid (∀ j u, (bc (uintB ln))[j]? = some u → w4.cell? ((⟨tg, 0, none⟩ : Addr).add j) = some u) := ts
        obtain ⟨tm, thm⟩ : ∃ m, (uintB ln).length = m := ⟨_, rfl⟩
        have tHM : Hid ((uintB ln).length = tm) := thm
        have tml : tm ≤ 10 := by rw [← thm]; exact uintF_len 9 _
        have tsz : w.heap.size ≤ w4.heap.size := tBB.out.size
        rw [thm]
        clear to tb ts thm
        go_wp2_with (at_builtin; refine wpList_append_own _ rfl _ _ 37 rfl w.heap.size 5 i0 (.int .u8 0) 1 1 Try.underlying37 hi hz0 hz1 hz2 rfl (by decide) _ _ _ rfl tOW.out ⟨tg, 0, none⟩ tm tc (bc (uintB ln)) rfl ?di0 tSR.out (bc_one _) ?di3 ?di4 tsz ?_)
        case di0 => rw [bc_len, Nat.mul_one]; exact tHM.out
        case di3 => unfold maxLen; omega
        case di4 => omega
        intro tv' w5 thown thgrow _
        have tO2 : Hid (Own w5 w.heap.size tv' (Q ++ uintB ln)) := by
          show Own _ _ _ _
          unfold Own
          rw [bc_app, List.length_append, HQNt.out, tHM.out]
          exact thown
        have tB2 : Hid (Below w.heap.size w w5) := tBB.out.grown thgrow tsz (fun k hk => (World.ownsRow.lt tOW.out k hk).1)
        obtain ⟨bat2, bcapt2, tev⟩ : ∃ a c, tv' = .slice a (qn + tm) c := by
          rcases thown.2 with ⟨h, h0⟩ | ⟨g, cap', _, h, _⟩
          · exact ⟨none, 0, by rw [h, h0]⟩
          · exact ⟨_, _, h⟩
        subst tev
        clear thown thgrow
        clear k0 k1 k2 k3 k4 k5
        go_wp2
        go_loopw [3, 6] (fun bv i wr => ∃ (m : Nat) (ba : Option Addr) (bcap : Nat) (A : List UInt8), m ≤ ln ∧ i = .int .i64 (m : Int) ∧ bv = .slice ba A.length bcap ∧ A.length ≤ qn + tm + 10 * m ∧ Hid (A = Q ++ uintB ln ++ (x.l.take m).flatMap (fun n => uintB (zig n))) ∧ Hid (Own wr w.heap.size (.slice ba A.length bcap) A) ∧ Hid (Below w.heap.size w wr)) (fun _ i _ => ln - (intOf i).toNat)
        case atStart => exact ⟨0, bat2, bcapt2, Q ++ uintB ln, Nat.zero_le _, rfl, by rw [List.length_append, HQN.out, tHM.out], by rw [List.length_append, HQN.out, tHM.out]; omega, by show _ = _; simp, by rw [List.length_append, HQN.out, tHM.out]; exact tO2, tB2⟩
        case round =>
          obtain ⟨m, bau, bcapu, A, hm, rfl, rfl, hAl, HA, HOu, HBu⟩ := hrel
          obtain ⟨an, han⟩ : ∃ an, A.length = an := ⟨_, rfl⟩
          have HQNu : Hid (A.length = an) := han
          rw [han] at hAl HOu ⊢
          clear han
          obtain ⟨z5, hns⟩ := HVE.out wr HBu.out
          have hbr : b < wr.heap.size := Nat.lt_of_lt_of_le hbw HBu.out.size
          by_cases hml : m < ln
          · have hml2 : m < x.l.length := by have := HLN.out; omega
            obtain ⟨ad7, cap7, e7, _, _, hzz, hcc⟩ := hns
            obtain ⟨b7, o7, e8, hb7, hcell⟩ := hcc (by omega)
            injection e7 with e7 e7b e7c
            clear e7b
            subst e7 e7c
            subst e8
            obtain ⟨y, hy⟩ : ∃ y, x.l[m] = y := ⟨_, rfl⟩
            have c7 : wr.cell? ⟨b7, o7 + m, none⟩ = some (.int .i64 y) := by rw [← hy]; exact hcell m hml2
            have hyz := hzz y (by rw [← hy]; exact List.getElem_mem hml2)
            have HTF : Hid ((x.l.take (m + 1)).flatMap (fun n => uintB (zig n)) = (x.l.take m).flatMap (fun n => uintB (zig n)) ++ uintB (zig y)) := by show _ = _; rw [take_flat x.l m hml2, hy]
            clear hcell hzz hy
            go_wp2_with fail
            refine (rint y wr hyz.1 hyz.2).mono ?_
            rintro e w6 ⟨uv, rfl, uo, ub⟩
            obtain ⟨ug, uc, ue, us⟩ := uo.src (uintB_pos _)
            subst ue
            have uOW : Hid (w6.ownsRow w.heap.size 5 1 (.slice bau an bcapu) an (bc A)) := by
              have h9 := (HOu.out).below ub
              unfold Own at h9
              rw [HQNu.out] at h9
              exact h9
            have uBB : Hid (Below w.heap.size w w6) := HBu.out.trans (ub.mono HBu.out.size)
            have uSR : Hid (∀ j u, (bc (uintB (zig y)))[j]? = some u → w6.cell? ((⟨ug, 0, none⟩ : Addr).add j) = some u) := us
            obtain ⟨um, uhm⟩ : ∃ m, (uintB (zig y)).length = m := ⟨_, rfl⟩
            have uHM : Hid ((uintB (zig y)).length = um) := uhm
            have uml : um ≤ 10 := by rw [← uhm]; exact uintF_len 9 _
            have usz : w.heap.size ≤ w6.heap.size := uBB.out.size
            rw [uhm]
            clear uo ub us uhm
            go_wp2_with (at_builtin; refine wpList_append_own _ rfl _ _ 37 rfl w.heap.size 5 i0 (.int .u8 0) 1 1 Try.underlying37 hi hz0 hz1 hz2 rfl (by decide) _ _ _ rfl uOW.out ⟨ug, 0, none⟩ um uc (bc (uintB (zig y))) rfl ?ei0 uSR.out (bc_one _) ?ei3 ?ei4 usz ?_)
            case ei0 => rw [bc_len, Nat.mul_one]; exact uHM.out
            case ei3 => unfold maxLen; omega
            case ei4 => omega
            intro uv' w7 uhown uhgrow _
            have uO2 : Hid (Own w7 w.heap.size uv' (A ++ uintB (zig y))) := by
              show Own _ _ _ _
              unfold Own
              rw [bc_app, List.length_append, HQNu.out, uHM.out]
              exact uhown
            have uB2 : Hid (Below w.heap.size w w7) := uBB.out.grown uhgrow usz (fun k hk => (World.ownsRow.lt uOW.out k hk).1)
            obtain ⟨bau2, bcapu2, uev⟩ : ∃ a c, uv' = .slice a (an + um) c := by
              rcases uhown.2 with ⟨h, h0⟩ | ⟨g, cap', _, h, _⟩
              · exact ⟨none, 0, by rw [h, h0]⟩
              · exact ⟨_, _, h⟩
            subst uev
            clear uhown uhgrow
            go_wp2
            go_roundw
            case rel => exact ⟨m + 1, bau2, bcapu2, A ++ uintB (zig y), by omega, by go_num, by rw [List.length_append, HQNu.out, uHM.out], by rw [List.length_append, HQNu.out, uHM.out]; omega, by show _ = _; rw [HTF.out, ← List.append_assoc, ← HA.out], by rw [List.length_append, HQNu.out, uHM.out]; exact uO2, uB2⟩
            case measure => simp [intOf]; omega
          · have HFA : Hid (A = Q ++ intsB x.l) := by
              show _ = _
              rw [HA.out, List.take_of_length_le (by have := HLN.out; omega), List.append_assoc]
              unfold intsB
              rw [HLN.out]
            go_wp2
            go_roundw
            case rel => exact ⟨j + 1, bau, bcapu, by omega, by go_num, by rw [HTK.out, HIK.out, ← HFA.out, HQNu.out], by rw [HTK.out, HIK.out, ← HFA.out, HQNu.out]; exact HOu, HBu⟩
            case measure => simp [intOf]; omega
    · have HF : Hid (Rd wr (.slice ba (laidB (l.take j)).length bcap) (laidB l)) := by
        have h9 := HO.out.rd
        rw [show laidB (l.take j) = laidB l by rw [List.take_of_length_le (by have := HN.out; omega)]] at h9
        rw [show laidB (l.take j) = laidB l by rw [List.take_of_length_le (by have := HN.out; omega)]]
        exact h9
      obtain ⟨qn, hqn⟩ : ∃ qn, (laidB (l.take j)).length = qn := ⟨_, rfl⟩
      rw [hqn] at HF ⊢
      clear hqn HO
      go_wp2
      go_ret
      exact ⟨_, rfl, HF.out, HB.out⟩
end Go.Proofs.Ytjdcoiekbnefkab
