/- VerApart: the law's walk. -/
import Derived.Test.YtdohclnmcdempaaVrB2
namespace Go.Proofs.Ytdohclnmcdempaa
open Go.RowKit Go.Maps
set_option linter.unusedVariables false

theorem AE.len {w wr : World} {rb sb tb : Nat} {K : Nat → Ch2} (h : AE w rb sb tb K wr) (i : Nat) : (K i).length ≤ 512 := by
  obtain ⟨ns, nt, Ks, h1, h2, t⟩ := h
  obtain ⟨ls, lt, s1, s2, _⟩ := t.t
  obtain ⟨ab, ub, hb, wb, mb, ob, L, H, C, cv, D, h, rfl⟩ := s2
  have := h.len i
  show (kc H (cc C i)).length ≤ 512
  rw [kc_len]
  omega
set_option maxRecDepth 100000 in
set_option maxHeartbeats 16000000 in
theorem apart_walk (v : Value) (l : List O4) (age : Int) (w : World) (hv : OSl w v l) (hr : ∀ x ∈ l, R64 x.ag) (ha : R64 age) : Calls Try.prog 8 #[v, .int .i64 age] w fun e w' => e = .returned (.bool true) ∧ Below w.heap.size w w' := by
  obtain ⟨va, vc, vb, vo, rfl, h2, h3, h4, h5⟩ := hv
  obtain ⟨M, hM⟩ : ∃ M, l.length = M := ⟨_, rfl⟩
  have HM : Hid (l.length = M) := hM
  have HVA : Hid (0 < M → va = some ⟨vb, vo, none⟩) := by rw [← hM]; exact h4
  have HVC : Hid (∀ i (h : i < l.length), w.cell? ⟨vb, vo + i * 4, none⟩ = some (.int .i64 l[i].kd) ∧ w.cell? ⟨vb, vo + i * 4 + 1, none⟩ = some (.int .i64 l[i].at_) ∧ w.cell? ⟨vb, vo + i * 4 + 2, none⟩ = some (.int .i64 l[i].ag) ∧ w.cell? ⟨vb, vo + i * 4 + 3, none⟩ = some (.int .i64 l[i].vl)) := h5
  have HRR : Hid (∀ x ∈ l, R64 x.ag) := hr
  have HA : Hid (R64 age) := ha
  rw [hM] at h2 ⊢
  have HMX : Hid (M ≤ maxLen) := Nat.le_trans h2 h3
  clear hM h4 h5 h3 hr ha
  have HN : Hid (∀ w, Calls Try.prog 20 #[.int .i64 64, .int .i64 512] w fun e w' => ∃ sb, e = .returned (.tuple #[.pointer (some ⟨sb, 0, none⟩), .int .i64 0]) ∧ SX (fun k => k < w.heap.size) sb 512 64 0 noK w' ∧ Below w.heap.size w w') := fun w => SX.new 64 512 w (by decide)
  by_cases hbig : 120 < M
  · have e1 : decide (120 < (M : Int)) = true := by simp; omega
    have e2 : decide (120 < M) = true := by simp; omega
    go_enter Try.func8, Try.ntmps8
    go_wp2_with fail
    refine (HN.out _).mono ?_
    rintro e w1 ⟨sb, rfl, s1, b1⟩
    go_wp2_with fail
    refine (HN.out _).mono ?_
    rintro e w2 ⟨tb, rfl, s2, b2⟩
    have B2 : Hid (Below w.heap.size w w2) := b1.trans (b2.mono b1.size)
    clear s1 b1 s2 b2
    go_wp2
    first | exact ⟨rfl, B2.out⟩ | (go_ret; exact ⟨rfl, B2.out⟩)
  have e1 : decide (120 < (M : Int)) = false := by simp; omega
  have e2 : decide (120 < M) = false := by simp; omega
  go_enter Try.func8, Try.ntmps8
  go_wp2_with fail
  refine (HN.out _).mono ?_
  rintro e w1 ⟨sb, rfl, s1, b1⟩
  go_wp2_with fail
  refine (HN.out _).mono ?_
  rintro e w2 ⟨tb, rfl, s2, b2⟩
  have T2 : Hid (TX (fun k => k < w.heap.size) sb tb 0 0 noK noK w2) := TX.new s1 s2 b2 (fun k hk => Nat.lt_of_lt_of_le hk b1.size)
  have B2 : Hid (Below w.heap.size w w2) := b1.trans (b2.mono b1.size)
  clear s1 b1 s2 b2 HN
  go_wp2_with fail
  refine (rnew0 w2).mono ?_
  rintro e w3 ⟨rfl, b3⟩
  have S3 : Hid (AL w l age w3.heap.size sb tb 0 (w3.alloc (.cells #[.int .i64 64, .int .i64 512, .slice none 0 0] 49))) := ⟨0, 0, 0, noK, by omega, by omega, by omega, GK.zero _ _, by rw [Kf_zero]; exact ApI.first age, by rw [Kf_zero]; exact TB.new (T2.out.same b3) (B2.out.trans (b3.mono B2.out.size))⟩
  clear T2 B2 b3
  go_upto_region 6 with fail
  generalize w3.alloc (.cells #[.int .i64 64, .int .i64 512, .slice none 0 0] 49) = V at *
  generalize w3.heap.size = rb at *
  clear e1 e2
  go_wp2_with fail
  go_loopw [11] (fun i wr => ∃ j : Nat, i = .int .i64 (j : Int) ∧ j ≤ M ∧ Hid (AL w l age rb sb tb j wr)) (fun i _ => M - (intOf i).toNat)
  case atStart => exact ⟨0, rfl, Nat.zero_le _, S3⟩
  case round =>
    clear S3
    obtain ⟨j, rfl, hj, S⟩ := hrel
    by_cases hlt : j < M
    · have e1 : decide (j < M) = true := by simp; omega
      have hjl : j < l.length := by rw [HM.out]; exact hlt
      have hva := HVA.out (by omega)
      subst hva
      have hl120 : l.length ≤ 120 := by rw [HM.out]; omega
      have HR : Hid (R64 l[j].ag) := HRR.out _ (List.getElem_mem _)
      obtain ⟨c0, c1, c2, c3⟩ := HVC.out j hjl
      have HD1 : Hid (∀ W, AL w l age rb sb tb j W → Calls Try.prog 22 #[.pointer (some ⟨sb, 0, none⟩), .agg #[.int .i64 64, .int .i64 512, .slice none 0 0], .agg #[.int .i64 l[j].kd, .int .i64 l[j].at_, .int .i64 l[j].ag, .int .i64 l[j].vl]] W (fun e w' => (∃ v, e = .returned v) ∧ AM w l age rb sb tb j w')) := fun W s => s.call hjl hl120 HR.out
      have HD2 : Hid (l[j].ag ≠ age → ∀ W, AM w l age rb sb tb j W → Calls Try.prog 22 #[.pointer (some ⟨tb, 0, none⟩), .agg #[.int .i64 64, .int .i64 512, .slice none 0 0], .agg #[.int .i64 l[j].kd, .int .i64 l[j].at_, .int .i64 l[j].ag, .int .i64 l[j].vl]] W (fun e w' => (∃ v, e = .returned v) ∧ AL w l age rb sb tb (j + 1) w')) := fun hx W s => s.call hjl hl120 HR.out hx
      have HD3 : Hid (l[j].ag = age → ∀ W, AM w l age rb sb tb j W → AL w l age rb sb tb (j + 1) W) := fun hx W s => s.skip hjl hl120 hx
      generalize l[j] = x at *
      obtain ⟨xkd, xat, xag, xvl⟩ := x
      simp only at c0 c1 c2 c3 HD1 HD2 HD3
      have HC4 : Hid (∀ W, Below w.heap.size w W → W.cell? ⟨vb, vo + j * 4, none⟩ = some (.int .i64 xkd) ∧ W.cell? ⟨vb, vo + j * 4 + 1, none⟩ = some (.int .i64 xat) ∧ W.cell? ⟨vb, vo + j * 4 + 2, none⟩ = some (.int .i64 xag) ∧ W.cell? ⟨vb, vo + j * 4 + 3, none⟩ = some (.int .i64 xvl)) := fun W b => ⟨(b.cell (p := ⟨vb, vo + j * 4, none⟩) (World.block_lt_of_cell? w _ c0)).trans c0, (b.cell (p := ⟨vb, vo + j * 4 + 1, none⟩) (World.block_lt_of_cell? w _ c1)).trans c1, (b.cell (p := ⟨vb, vo + j * 4 + 2, none⟩) (World.block_lt_of_cell? w _ c2)).trans c2, (b.cell (p := ⟨vb, vo + j * 4 + 3, none⟩) (World.block_lt_of_cell? w _ c3)).trans c3⟩
      clear c0 c1 c2 c3
      obtain ⟨d0, d1, d2, d3⟩ := HC4.out _ S.out.below
      obtain ⟨r0, r1, r2⟩ := S.out.c
      have Sd : Hid (AL w l age rb sb tb j wr.drew) := S.out.same (Below.refl _ _).drew
      have hb1 : (0 : Int) ≤ (j : Int) := by omega
      have hb2 : (j : Int) < (M : Int) := by omega
      go_upto_region 9 with fail
      go_region_held3 (fun w' => w'.cell? ⟨rb, 0, none⟩ = some (.int .i64 64) ∧ w'.cell? ⟨rb, 1, none⟩ = some (.int .i64 512) ∧ w'.cell? ⟨rb, 2, none⟩ = some (.slice none 0 0) ∧ w'.cell? ⟨vb, vo + j * 4, none⟩ = some (.int .i64 xkd) ∧ w'.cell? ⟨vb, vo + j * 4 + 1, none⟩ = some (.int .i64 xat) ∧ w'.cell? ⟨vb, vo + j * 4 + 2, none⟩ = some (.int .i64 xag) ∧ w'.cell? ⟨vb, vo + j * 4 + 3, none⟩ = some (.int .i64 xvl)) (first | assumption | go_keep) (first | (go_at_call 22; refine (HD1.out _ (by first | exact S.out | exact Sd.out)).mono ?_; rintro e w6 ⟨⟨v6, rfl⟩, s6⟩; obtain ⟨t0, t1, t2⟩ := s6.c; obtain ⟨u0, u1, u2, u3⟩ := HC4.out _ s6.below))
      have S6 : Hid (AM w l age rb sb tb j w6) := s6
      clear s6 r0 r1 r2 d0 d1 d2 d3 S Sd u3
      by_cases hx : xag = age
      · have t9 : (xag == age) = true := by simp [hx]
        have S7 : Hid (AL w l age rb sb tb (j + 1) w6) := HD3.out hx _ S6.out
        clear hx t0 t1 t2 S6
        go_wp2_with fail
        go_roundw
        case rel => exact ⟨j + 1, by go_num, by omega, S7⟩
        case measure => simp [intOf] <;> omega
      · have t9 : (xag == age) = false := by simp [hx]
        have HD4 := HD2.out hx
        have HD5 : Hid (∀ W, AM w l age rb sb tb j W → Calls Try.prog 22 #[.pointer (some ⟨tb, 0, none⟩), .agg #[.int .i64 64, .int .i64 512, .slice none 0 0], .agg #[.int .i64 xkd, .int .i64 xat, .int .i64 xag, .int .i64 xvl]] W (fun e w' => (∃ v, e = .returned v) ∧ AL w l age rb sb tb (j + 1) w')) := HD4
        clear HD4 HD2 HD3 HD1 hx
        go_upto_region 11 with fail
        obtain ⟨_, _, _, u3⟩ := HC4.out _ S6.out.below
        have Sd6 : Hid (AM w l age rb sb tb j w6.drew) := S6.out.same (Below.refl _ _).drew
        go_region_held3 (fun w' => w'.cell? ⟨rb, 0, none⟩ = some (.int .i64 64) ∧ w'.cell? ⟨rb, 1, none⟩ = some (.int .i64 512) ∧ w'.cell? ⟨rb, 2, none⟩ = some (.slice none 0 0) ∧ w'.cell? ⟨vb, vo + j * 4, none⟩ = some (.int .i64 xkd) ∧ w'.cell? ⟨vb, vo + j * 4 + 1, none⟩ = some (.int .i64 xat) ∧ w'.cell? ⟨vb, vo + j * 4 + 2, none⟩ = some (.int .i64 xag) ∧ w'.cell? ⟨vb, vo + j * 4 + 3, none⟩ = some (.int .i64 xvl)) (first | assumption | go_keep) (first | (go_at_call 22; refine (HD5.out _ (by first | exact S6.out | exact Sd6.out)).mono ?_; rintro e w7 ⟨⟨v7, rfl⟩, s7⟩; obtain ⟨t0, t1, t2⟩ := s7.c; obtain ⟨u0, u1, u2, u3⟩ := HC4.out _ s7.below))
        have S7 : Hid (AL w l age rb sb tb (j + 1) w7) := s7
        clear s7 t0 t1 t2 u0 u1 u2 u3 S6 Sd6
        go_wp2_with fail
        go_roundw
        case rel => exact ⟨j + 1, by go_num, by omega, S7⟩
        case measure => simp [intOf] <;> omega
    · have hjM : j = M := by omega
      subst hjM
      have e1 : decide (j < j) = false := by simp
      have HL : Hid (Calls Try.prog 28 #[.pointer (some ⟨sb, 0, none⟩), .int .i64 age] wr (fun e w' => (∃ z, e = .returned (.int .i64 z)) ∧ ∃ K, AE w rb sb tb K w')) := by
        have h := S.out
        rw [← HM.out] at h
        exact h.last (by rw [HM.out]; omega) HA.out
      clear S
      go_wp2_with fail
      refine HL.out.mono ?_
      rintro e w4 ⟨⟨z, rfl⟩, K, s4⟩
      have S4 : Hid (AE w rb sb tb K w4) := s4
      clear s4 HL e1
      go_wp2_with fail
      refine (S4.out.live.1).mono ?_
      rintro e w5 ⟨rfl, nq, rfl⟩
      have S5 : Hid (AE w rb sb tb K (w4.drewN nq)) := S4.out.same (Below.dN (Below.refl _ _) nq)
      clear S4
      generalize w4.drewN nq = w5 at *
      have L2 := S5.out.live.2
      generalize totK 64 K = tk at *
      go_wp2_with fail
      refine L2.mono ?_
      rintro e w6 ⟨rfl, nq, rfl⟩
      have S6 : Hid (AE w rb sb tb K (w5.drewN nq)) := S5.out.same (Below.dN (Below.refl _ _) nq)
      clear S5 L2
      generalize w5.drewN nq = w6 at *
      go_wp2_with fail
      go_loopw [12, 13, 14, 15] (fun i _ _ _ wr => ∃ q : Nat, i = .int .i64 (q : Int) ∧ q ≤ 64 ∧ Hid (AE w rb sb tb K wr)) (fun i _ _ _ _ => 64 - (intOf i).toNat)
      case atStart => exact ⟨0, rfl, Nat.zero_le _, S6⟩
      case round =>
        clear S6
        obtain ⟨q, rfl, hq, S⟩ := hrel
        rename World => wy
        by_cases hlt2 : q < 64
        · have e1 : decide ((q : Int) < 64) = true := by simp; omega
          have e2 : decide (q < 64) = true := by simp; omega
          have C1 := (S.out.chain q hlt2).1
          have C2 : Hid (∀ W, AE w rb sb tb K W → Calls Try.prog 31 #[.pointer (some ⟨tb, 0, none⟩), .int .i64 (q : Int)] W (ChnQ (K q) W)) := fun W s => (s.chain q hlt2).2
          have hkl := S.out.len q
          generalize K q = k at *
          go_wp2_with fail
          refine C1.mono ?_
          rintro e w7 ⟨v1, rfl, z1, b7⟩
          have S7 : Hid (AE w rb sb tb K w7) := S.out.same b7
          obtain ⟨a1, k1, rfl⟩ := z1.sl
          have P7 : Hid (PSl w7 (.slice a1 k.length k1) k) := z1.psl
          clear z1 b7 S C1
          go_wp2_with fail
          refine (C2.out _ S7.out).mono ?_
          rintro e w8 ⟨v2, rfl, z2, b8⟩
          have S8 : Hid (AE w rb sb tb K w8) := S7.out.same b8
          obtain ⟨a2, k2, rfl⟩ := z2.sl
          have P8 : Hid (PSl w8 (.slice a1 k.length k1) k) := P7.out.below b8
          have Q8 : Hid (PSl w8 (.slice a2 k.length k2) k) := z2.psl
          clear z2 b8 S7 P7 C2
          obtain ⟨m, hm⟩ : ∃ m, k.length = m := ⟨_, rfl⟩
          have HKM : Hid (k.length = m) := hm
          rw [hm] at P8 Q8 hkl ⊢
          clear hm
          have hm2 : (0 : Int) ≤ (m : Int) := by omega
          go_wp2_with fail
          go_loopw [15] (fun i wr => ∃ p : Nat, i = .int .i64 (p : Int) ∧ p ≤ m ∧ Hid (AE w rb sb tb K wr) ∧ Hid (PSl wr (.slice a1 m k1) k) ∧ Hid (PSl wr (.slice a2 m k2) k)) (fun i _ => m - (intOf i).toNat)
          case atStart => exact ⟨0, rfl, Nat.zero_le _, S8, P8, Q8⟩
          case round =>
            clear S8 P8 Q8
            obtain ⟨p, rfl, hp, S, P, Q⟩ := hrel
            rename World => wz
            by_cases hlt3 : p < m
            · have e3 : decide (p < m) = true := by simp; omega
              have hpk : p < k.length := by rw [HKM.out]; exact hlt3
              have HDN : Hid (∀ nq, AE w rb sb tb K (wz.drewN nq) ∧ PSl (wz.drewN nq) (.slice a1 m k1) k ∧ PSl (wz.drewN nq) (.slice a2 m k2) k) := fun nq => ⟨S.out.same (Below.dN (Below.refl _ _) nq), P.out.below (Below.dN (Below.refl _ _) nq), Q.out.below (Below.dN (Below.refl _ _) nq)⟩
              obtain ⟨a, c, b1, o1, f1, f2, f3, f4, f5⟩ := P.out
              simp only [Value.slice.injEq] at f1
              obtain ⟨rfl, _, rfl⟩ := f1
              have fa := f4 (by omega)
              subst fa
              obtain ⟨c0, c1⟩ := f5 p hpk
              obtain ⟨a, c, b2, o2, h1, h2, h3, h4, h5⟩ := Q.out
              simp only [Value.slice.injEq] at h1
              obtain ⟨rfl, _, rfl⟩ := h1
              have ha := h4 (by omega)
              subst ha
              obtain ⟨d0, d1⟩ := h5 p hpk
              obtain ⟨⟨y, z1⟩, hyz⟩ : ∃ x, k[p] = x := ⟨_, rfl⟩
              rw [hyz] at c0 c1 d0 d1
              simp only at c0 c1 d0 d1
              rw [← Nat.add_assoc] at c1 d1
              have q1 := neq62 y z1
              have q2 := neg62 y z1 y z1
              have hb1 : (0 : Int) ≤ (p : Int) := by omega
              have hb2 : (p : Int) < (m : Int) := by omega
              clear f2 f3 f4 f5 h2 h3 h4 h5 hyz S P Q
              go_upto_region 24 with fail
              go_quiet (fail)
              have S9 : Hid (AE w rb sb tb K (wz.drewN nq)) := (HDN.out nq).1
              have P9 := (HDN.out nq).2.1
              have Q9 := (HDN.out nq).2.2
              have P9h : Hid (PSl (wz.drewN nq) (.slice (some ⟨b1, o1, none⟩) m k1) k) := P9
              have Q9h : Hid (PSl (wz.drewN nq) (.slice (some ⟨b2, o2, none⟩) m k2) k) := Q9
              clear HDN P9 Q9 c0 c1 d0 d1
              generalize wz.drewN nq = W9 at *
              go_wp2_with fail
              go_roundw
              case rel => exact ⟨p + 1, by go_num, by omega, S9, P9h, Q9h⟩
              case measure => simp [intOf] <;> omega
            · have hpm : p = m := by omega
              have e3 : decide (p < m) = false := by simp; omega
              clear P Q
              go_wp2_with fail
              go_roundw
              case rel => exact ⟨q + 1, by go_num, by omega, S⟩
              case measure => simp [intOf] <;> omega
        · have e1 : decide ((q : Int) < 64) = false := by simp; omega
          have e2 : decide (q < 64) = false := by simp; omega
          have B := S.out.below
          have HB : Hid (Below w.heap.size w wy) := B
          clear B S
          go_wp2_with fail
          refine (valive_any _).mono ?_
          rintro e w9 ⟨rfl, b9⟩
          have B9 : Hid (Below w.heap.size w w9) := HB.out.trans (b9.mono HB.out.size)
          clear b9 HB
          go_wp2
          first | exact ⟨rfl, B9.out⟩ | (go_ret; exact ⟨rfl, B9.out⟩)
end Go.Proofs.Ytdohclnmcdempaa
