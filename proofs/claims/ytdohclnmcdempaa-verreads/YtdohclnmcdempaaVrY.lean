/- VerReads: the law's walk. -/
import Derived.Test.YtdohclnmcdempaaVrX
namespace Go.Proofs.Ytdohclnmcdempaa
open Go.RowKit Go.Maps
set_option linter.unusedVariables false

def GoneP (b : Bool) (P : Prop) : Prop := b = true ↔ P
set_option maxRecDepth 100000 in
set_option maxHeartbeats 16000000 in
theorem reads_walk (v : Value) (l : List O4) (z age : Int) (w : World) (hv : OSl w v l) (hr : ∀ x ∈ l, R64 x.ag) (hz : R64 z) : Calls Try.prog 7 #[v, .int .i64 z, .int .i64 age] w fun e w' => e = .returned (.bool true) ∧ Below w.heap.size w w' := by
  obtain ⟨va, vc, vb, vo, rfl, h2, h3, h4, h5⟩ := hv
  obtain ⟨M, hM⟩ : ∃ M, l.length = M := ⟨_, rfl⟩
  have HM : Hid (l.length = M) := hM
  have HVA : Hid (0 < M → va = some ⟨vb, vo, none⟩) := by rw [← hM]; exact h4
  have HVC : Hid (∀ i (h : i < l.length), w.cell? ⟨vb, vo + i * 4, none⟩ = some (.int .i64 l[i].kd) ∧ w.cell? ⟨vb, vo + i * 4 + 1, none⟩ = some (.int .i64 l[i].at_) ∧ w.cell? ⟨vb, vo + i * 4 + 2, none⟩ = some (.int .i64 l[i].ag) ∧ w.cell? ⟨vb, vo + i * 4 + 3, none⟩ = some (.int .i64 l[i].vl)) := h5
  have HRR : Hid (∀ x ∈ l, R64 x.ag) := hr
  rw [hM] at h2 ⊢
  have HMX : Hid (M ≤ maxLen) := Nat.le_trans h2 h3
  clear hM h4 h5 h3 hr
  have HKA : Hid (∀ n w, Calls Try.prog 25 #[.int .i64 n] w (Same w (.int .i64 (kindI n)))) := fun n w => kind_any n w
  have HN : Hid (Calls Try.prog 20 #[.int .i64 64, .int .i64 512] w fun e w' => ∃ sb, e = .returned (.tuple #[.pointer (some ⟨sb, 0, none⟩), .int .i64 0]) ∧ SX (fun k => k < w.heap.size) sb 512 64 0 noK w' ∧ Below w.heap.size w w') := SX.new 64 512 w (by decide)
  obtain ⟨a0, ha0⟩ : ∃ a, Int.tmod z 64 = a := ⟨_, rfl⟩
  have h1 := Int.lt_tmod_of_pos z (show (0 : Int) < 64 by omega)
  have h1' := Int.tmod_lt_of_pos z (show (0 : Int) < 64 by omega)
  rw [ha0] at h1 h1'
  obtain ⟨A, hA⟩ : ∃ A : Nat, Int.tmod (a0 + 64) 64 = (A : Int) := ⟨(Int.tmod (a0 + 64) 64).toNat, by have := Int.tmod_nonneg 64 (show (0 : Int) ≤ a0 + 64 by omega); omega⟩
  have hA64 : A < 64 := by have := Int.tmod_lt_of_pos (a0 + 64) (show (0 : Int) < 64 by omega); omega
  have hw1 : IntKind.i64.wrap (a0 + 64) = a0 + 64 := i64_wrap _ ⟨by omega, by omega⟩
  have hw2 : wrap64 (a0 + 64) = a0 + 64 := w64in _ ⟨by omega, by omega⟩
  by_cases hbig : 120 < M
  · have e1 : decide (120 < (M : Int)) = true := by simp; omega
    have e2 : decide (120 < M) = true := by simp; omega
    go_enter Try.func7, Try.ntmps7
    go_wp2_with fail
    refine HN.out.mono ?_
    rintro e w1 ⟨sb, rfl, s1, b1⟩
    have B1 : Hid (Below w.heap.size w w1) := b1
    clear s1 b1
    go_wp2
    first | exact ⟨rfl, B1.out⟩ | (go_ret; exact ⟨rfl, B1.out⟩)
  have e1 : decide (120 < (M : Int)) = false := by simp; omega
  have e2 : decide (120 < M) = false := by simp; omega
  go_enter Try.func7, Try.ntmps7
  go_wp2_with fail
  refine HN.out.mono ?_
  rintro e w1 ⟨sb, rfl, s1, b1⟩
  have S1 : Hid (SX (fun k => k < w.heap.size) sb 512 64 0 noK w1) := s1
  have B1 : Hid (Below w.heap.size w w1) := b1
  clear s1 b1 HN
  go_wp2_with fail
  clear e1 e2 hw1 hw2 h1 h1' ha0 hA
  go_loopw [12, 13] (fun i _ wr => ∃ (j nn : Nat), i = .int .i64 (j : Int) ∧ j ≤ M ∧ nn ≤ 65 * j ∧ Hid (SX (fun k => k < w.heap.size) sb 512 64 nn (Kf 512 64 l j) wr) ∧ Hid (Below w.heap.size w wr)) (fun i _ _ => M - (intOf i).toNat)
  case atStart => exact ⟨0, 0, rfl, Nat.zero_le _, Nat.le_refl _, by show SX _ _ _ _ _ _ _; rw [Kf_zero]; exact S1.out, B1⟩
  case round =>
    clear S1 B1
    obtain ⟨j, nn, rfl, hj, hnn, S, B⟩ := hrel
    by_cases hlt : j < M
    · have e1 : decide (j < M) = true := by simp; omega
      have hjl : j < l.length := by rw [HM.out]; exact hlt
      have hva := HVA.out (by omega)
      subst hva
      obtain ⟨x, hxl⟩ : ∃ x, l[j] = x := ⟨_, rfl⟩
      have HR : Hid (R64 x.ag) := HRR.out x (hxl ▸ List.getElem_mem _)
      have HNX : Hid (Kf 512 64 l (j + 1) = stepK 512 64 (Kf 512 64 l j) x) := by show _ = _; rw [Kf_next _ _ _ _ hjl, hxl]
      obtain ⟨c0, c1, c2, c3⟩ := HVC.out j hjl
      rw [hxl] at c0 c1 c2 c3
      have d0 := (B.out.cell (p := ⟨vb, vo + j * 4, none⟩) (World.block_lt_of_cell? w _ c0)).trans c0
      have d1 := (B.out.cell (p := ⟨vb, vo + j * 4 + 1, none⟩) (World.block_lt_of_cell? w _ c1)).trans c1
      have d2 := (B.out.cell (p := ⟨vb, vo + j * 4 + 2, none⟩) (World.block_lt_of_cell? w _ c2)).trans c2
      have d3 := (B.out.cell (p := ⟨vb, vo + j * 4 + 3, none⟩) (World.block_lt_of_cell? w _ c3)).trans c3
      obtain ⟨kv, hkv⟩ : ∃ kv, kk x = kv := ⟨_, rfl⟩
      have HKV : Hid (kk x = kv) := hkv
      have hkb := kindI_bd x.kd
      rw [show kindI x.kd = kv from hkv] at hkb
      have HK : Hid (∀ w, Calls Try.prog 25 #[.int .i64 x.kd] w (Same w (.int .i64 kv))) := fun w => by have := HKA.out x.kd w; rw [show kindI x.kd = kv from hkv] at this; exact this
      have SU0 : Hid (SB w wr.heap.size x sb 512 64 nn (Kf 512 64 l j) (wr.alloc (.cells #[.int .i64 x.kd, .int .i64 x.at_, .int .i64 x.ag, .int .i64 x.vl] 55))) := SB.new S.out B.out x
      obtain ⟨xkd, xat, xag, xvl⟩ := x
      clear c0 c1 c2 c3 hkv hxl
      go_upto_region 10 with fail
      generalize wr.alloc (.cells #[.int .i64 xkd, .int .i64 xat, .int .i64 xag, .int .i64 xvl] 55) = U at *
      obtain ⟨xb, hxb⟩ : ∃ g, wr.heap.size = g := ⟨_, rfl⟩
      rw [hxb] at SU0
      rw [hxb]
      clear hxb d0 d1 d2 d3 S B
      have SU : Hid (SB w xb ⟨xkd, xat, xag, xvl⟩ sb 512 64 nn (Kf 512 64 l j) U) := SU0
      clear SU0
      by_cases h3 : kv < 3
      · have e3 : decide (kv < 3) = true := by simp; omega
        have e5 : (kv == 5) = false := by simp; omega
        have e6 : (kv == 6) = false := by simp; omega
        have y0 : U.cell? ⟨xb, 0, none⟩ = some (.int .i64 xkd) := SU.out.x.all.1
        have y1 : U.cell? ⟨xb, 1, none⟩ = some (.int .i64 xat) := SU.out.x.all.2.1
        have y2 : U.cell? ⟨xb, 2, none⟩ = some (.int .i64 xag) := SU.out.x.all.2.2.1
        have y3 : U.cell? ⟨xb, 3, none⟩ = some (.int .i64 xvl) := SU.out.x.all.2.2.2
        go_wp2_with fail
        refine (HK.out _).mono ?_
        rintro e w5 ⟨rfl, hw5⟩
        rw [hw5]
        clear hw5
        go_wp2_with fail
        have HC := (SU.out.s.put xat xag xvl HR.out.2 (by omega))
        generalize (Value.int .i64 (putE 512 64 (Kf 512 64 l j) xat xag)) = rv at HC
        refine HC.mono ?_
        rintro e w4 ⟨rfl, s4, c4⟩
        have S4 : Hid (SB w xb ⟨xkd, xat, xag, xvl⟩ sb 512 64 (nn + 1) (Kf 512 64 l (j + 1)) w4) := by
          have s4' : SX (Xb w xb) sb 512 64 (nn + 1) (Kf 512 64 l (j + 1)) w4 := by
            rw [HNX.out]
            unfold stepK
            rw [if_pos (by rw [HKV.out]; exact h3)]
            exact s4
          exact SU.out.next s4' c4
        clear s4 c4 HC y0 y1 y2 y3
        have y0 : w4.cell? ⟨xb, 0, none⟩ = some (.int .i64 xkd) := S4.out.x.all.1
        have y1 : w4.cell? ⟨xb, 1, none⟩ = some (.int .i64 xat) := S4.out.x.all.2.1
        have y2 : w4.cell? ⟨xb, 2, none⟩ = some (.int .i64 xag) := S4.out.x.all.2.2.1
        have y3 : w4.cell? ⟨xb, 3, none⟩ = some (.int .i64 xvl) := S4.out.x.all.2.2.2
        go_wp2_with fail
        refine (HK.out _).mono ?_
        rintro e w5 ⟨rfl, hw5⟩
        rw [hw5]
        clear hw5
        go_wp2_with fail
        refine (HK.out _).mono ?_
        rintro e w5 ⟨rfl, hw5⟩
        rw [hw5]
        clear hw5
        go_wp2_with fail
        go_roundw
        case rel => exact ⟨j + 1, nn + 1, by go_num, by omega, by omega, S4.out.done.1, S4.out.done.2⟩
        case measure => simp [intOf] <;> omega
      · by_cases h5 : kv = 5
        · have e3 : decide (kv < 3) = false := by simp; omega
          have e5 : (kv == 5) = true := by simp; omega
          have e6 : (kv == 6) = false := by simp; omega
          have y0 : U.cell? ⟨xb, 0, none⟩ = some (.int .i64 xkd) := SU.out.x.all.1
          have y1 : U.cell? ⟨xb, 1, none⟩ = some (.int .i64 xat) := SU.out.x.all.2.1
          have y2 : U.cell? ⟨xb, 2, none⟩ = some (.int .i64 xag) := SU.out.x.all.2.2.1
          have y3 : U.cell? ⟨xb, 3, none⟩ = some (.int .i64 xvl) := SU.out.x.all.2.2.2
          go_wp2_with fail
          refine (HK.out _).mono ?_
          rintro e w5 ⟨rfl, hw5⟩
          rw [hw5]
          clear hw5
          go_wp2_with fail
          refine (HK.out _).mono ?_
          rintro e w5 ⟨rfl, hw5⟩
          rw [hw5]
          clear hw5
          go_wp2_with fail
          have HC := (SU.out.s.drop xat xag HR.out (by omega))
          generalize (Value.bool (hasK (Kf 512 64 l j (wi 64 xat)) xag)) = rv at HC
          refine HC.mono ?_
          rintro e w4 ⟨rfl, s4, c4⟩
          have S4 : Hid (SB w xb ⟨xkd, xat, xag, xvl⟩ sb 512 64 (nn + 1) (Kf 512 64 l (j + 1)) w4) := by
            have s4' : SX (Xb w xb) sb 512 64 (nn + 1) (Kf 512 64 l (j + 1)) w4 := by
              rw [HNX.out]
              unfold stepK
              rw [if_neg (by rw [HKV.out]; omega), if_pos (by rw [HKV.out]; exact h5)]
              exact s4
            exact SU.out.next s4' c4
          clear s4 c4 HC y0 y1 y2 y3
          have y0 : w4.cell? ⟨xb, 0, none⟩ = some (.int .i64 xkd) := S4.out.x.all.1
          have y1 : w4.cell? ⟨xb, 1, none⟩ = some (.int .i64 xat) := S4.out.x.all.2.1
          have y2 : w4.cell? ⟨xb, 2, none⟩ = some (.int .i64 xag) := S4.out.x.all.2.2.1
          have y3 : w4.cell? ⟨xb, 3, none⟩ = some (.int .i64 xvl) := S4.out.x.all.2.2.2
          go_wp2_with fail
          refine (HK.out _).mono ?_
          rintro e w5 ⟨rfl, hw5⟩
          rw [hw5]
          clear hw5
          go_wp2_with fail
          go_roundw
          case rel => exact ⟨j + 1, nn + 1, by go_num, by omega, by omega, S4.out.done.1, S4.out.done.2⟩
          case measure => simp [intOf] <;> omega
        · by_cases h6 : kv = 6
          · have e3 : decide (kv < 3) = false := by simp; omega
            have e5 : (kv == 5) = false := by simp; omega
            have e6 : (kv == 6) = true := by simp; omega
            have y0 : U.cell? ⟨xb, 0, none⟩ = some (.int .i64 xkd) := SU.out.x.all.1
            have y1 : U.cell? ⟨xb, 1, none⟩ = some (.int .i64 xat) := SU.out.x.all.2.1
            have y2 : U.cell? ⟨xb, 2, none⟩ = some (.int .i64 xag) := SU.out.x.all.2.2.1
            have y3 : U.cell? ⟨xb, 3, none⟩ = some (.int .i64 xvl) := SU.out.x.all.2.2.2
            go_wp2_with fail
            refine (HK.out _).mono ?_
            rintro e w5 ⟨rfl, hw5⟩
            rw [hw5]
            clear hw5
            go_wp2_with fail
            refine (HK.out _).mono ?_
            rintro e w5 ⟨rfl, hw5⟩
            rw [hw5]
            clear hw5
            go_wp2_with fail
            refine (HK.out _).mono ?_
            rintro e w5 ⟨rfl, hw5⟩
            rw [hw5]
            clear hw5
            go_wp2_with fail
            have HC := (SU.out.s.dropAll xag HR.out (by omega))
            generalize (Value.int .i64 (manyK 64 (Kf 512 64 l j) xag : Int)) = rv at HC
            refine HC.mono ?_
            rintro e w4 ⟨rfl, s4, c4⟩
            have S4 : Hid (SB w xb ⟨xkd, xat, xag, xvl⟩ sb 512 64 (nn + 64) (Kf 512 64 l (j + 1)) w4) := by
              have s4' : SX (Xb w xb) sb 512 64 (nn + 64) (Kf 512 64 l (j + 1)) w4 := by
                rw [HNX.out]
                unfold stepK
                rw [if_neg (by rw [HKV.out]; omega), if_neg (by rw [HKV.out]; omega), if_pos (by rw [HKV.out]; exact h6)]
                exact s4
              exact SU.out.next s4' c4
            clear s4 c4 HC y0 y1 y2 y3
            have y0 : w4.cell? ⟨xb, 0, none⟩ = some (.int .i64 xkd) := S4.out.x.all.1
            have y1 : w4.cell? ⟨xb, 1, none⟩ = some (.int .i64 xat) := S4.out.x.all.2.1
            have y2 : w4.cell? ⟨xb, 2, none⟩ = some (.int .i64 xag) := S4.out.x.all.2.2.1
            have y3 : w4.cell? ⟨xb, 3, none⟩ = some (.int .i64 xvl) := S4.out.x.all.2.2.2
            go_wp2_with fail
            go_roundw
            case rel => exact ⟨j + 1, nn + 64, by go_num, by omega, by omega, S4.out.done.1, S4.out.done.2⟩
            case measure => simp [intOf] <;> omega
          · have e3 : decide (kv < 3) = false := by simp; omega
            have e5 : (kv == 5) = false := by simp; omega
            have e6 : (kv == 6) = false := by simp; omega
            have y0 : U.cell? ⟨xb, 0, none⟩ = some (.int .i64 xkd) := SU.out.x.all.1
            have y1 : U.cell? ⟨xb, 1, none⟩ = some (.int .i64 xat) := SU.out.x.all.2.1
            have y2 : U.cell? ⟨xb, 2, none⟩ = some (.int .i64 xag) := SU.out.x.all.2.2.1
            have y3 : U.cell? ⟨xb, 3, none⟩ = some (.int .i64 xvl) := SU.out.x.all.2.2.2
            have S4 : Hid (SB w xb ⟨xkd, xat, xag, xvl⟩ sb 512 64 nn (Kf 512 64 l (j + 1)) U) := by
              rw [HNX.out]
              unfold stepK
              rw [if_neg (by rw [HKV.out]; omega), if_neg (by rw [HKV.out]; omega), if_neg (by rw [HKV.out]; omega)]
              exact SU.out
            go_wp2_with fail
            refine (HK.out _).mono ?_
            rintro e w5 ⟨rfl, hw5⟩
            rw [hw5]
            clear hw5
            go_wp2_with fail
            refine (HK.out _).mono ?_
            rintro e w5 ⟨rfl, hw5⟩
            rw [hw5]
            clear hw5
            go_wp2_with fail
            refine (HK.out _).mono ?_
            rintro e w5 ⟨rfl, hw5⟩
            rw [hw5]
            clear hw5
            go_wp2_with fail
            go_roundw
            case rel => exact ⟨j + 1, nn, by go_num, by omega, by omega, S4.out.done.1, S4.out.done.2⟩
            case measure => simp [intOf] <;> omega
    · have hjM : j = M := by omega
      subst hjM
      have e1 : decide (j < j) = false := by simp
      go_wp2_with fail
      clear e1 hj
      go_loopw [9, 10, 11, 14, 15, 16, 17, 18] (fun b9 b10 b11 ii _ _ _ _ wr => ∃ (i : Nat) (best value : Int) (found : Bool), b9 = .int .i64 best ∧ b10 = .int .i64 value ∧ b11 = .bool found ∧ ii = .int .i64 (i : Int) ∧ i ≤ j ∧ Hid (I2 l A age i best value found) ∧ Hid (SX (fun k => k < w.heap.size) sb 512 64 nn (Kf 512 64 l j) wr) ∧ Hid (Below w.heap.size w wr)) (fun _ _ _ ii _ _ _ _ _ => j - (intOf ii).toNat)
      case atStart => exact ⟨0, 0, 0, false, rfl, rfl, rfl, rfl, Nat.zero_le _, I2.first, S, B⟩
      case round =>
        clear S B
        obtain ⟨i, best, value, found, rfl, rfl, rfl, rfl, hij, HI, S, B⟩ := hrel
        rename World => wy
        by_cases hlt2 : i < j
        · have e1 : decide (i < j) = true := by simp; omega
          have hil : i < l.length := by rw [HM.out]; exact hlt2
          have hva := HVA.out (by omega)
          subst hva
          obtain ⟨x, hxl⟩ : ∃ x, l[i] = x := ⟨_, rfl⟩
          have HXL : Hid (l[i] = x) := hxl
          obtain ⟨c0, c1, c2, c3⟩ := HVC.out i hil
          rw [hxl] at c0 c1 c2 c3
          have d0 := (B.out.cell (p := ⟨vb, vo + i * 4, none⟩) (World.block_lt_of_cell? w _ c0)).trans c0
          have d1 := (B.out.cell (p := ⟨vb, vo + i * 4 + 1, none⟩) (World.block_lt_of_cell? w _ c1)).trans c1
          have d2 := (B.out.cell (p := ⟨vb, vo + i * 4 + 2, none⟩) (World.block_lt_of_cell? w _ c2)).trans c2
          have d3 := (B.out.cell (p := ⟨vb, vo + i * 4 + 3, none⟩) (World.block_lt_of_cell? w _ c3)).trans c3
          obtain ⟨kv, hkv⟩ : ∃ kv, kk x = kv := ⟨_, rfl⟩
          have HKV : Hid (kk x = kv) := hkv
          have HK : Hid (∀ w, Calls Try.prog 25 #[.int .i64 x.kd] w (Same w (.int .i64 kv))) := fun w => by have := HKA.out x.kd w; rw [show kindI x.kd = kv from hkv] at this; exact this
          have SU0 : Hid (SB w wy.heap.size x sb 512 64 nn (Kf 512 64 l j) (wy.alloc (.cells #[.int .i64 x.kd, .int .i64 x.at_, .int .i64 x.ag, .int .i64 x.vl] 55))) := SB.new S.out B.out x
          obtain ⟨xkd, xat, xag, xvl⟩ := x
          clear c0 c1 c2 c3 hkv hxl
          go_upto_region 20 with fail
          generalize wy.alloc (.cells #[.int .i64 xkd, .int .i64 xat, .int .i64 xag, .int .i64 xvl] 55) = U at *
          obtain ⟨xb, hxb⟩ : ∃ g, wy.heap.size = g := ⟨_, rfl⟩
          rw [hxb] at SU0
          rw [hxb]
          clear hxb d0 d1 d2 d3 S B
          have SU : Hid (SB w xb ⟨xkd, xat, xag, xvl⟩ sb 512 64 nn (Kf 512 64 l j) U) := SU0
          clear SU0
          have y0 : U.cell? ⟨xb, 0, none⟩ = some (.int .i64 xkd) := SU.out.x.all.1
          have y1 : U.cell? ⟨xb, 1, none⟩ = some (.int .i64 xat) := SU.out.x.all.2.1
          have y2 : U.cell? ⟨xb, 2, none⟩ = some (.int .i64 xag) := SU.out.x.all.2.2.1
          have y3 : U.cell? ⟨xb, 3, none⟩ = some (.int .i64 xvl) := SU.out.x.all.2.2.2
          by_cases h3 : 3 ≤ kv
          · have g0 : decide (3 ≤ kv) = true := by simp; omega
            have HSK : Hid (I2 l A age (i + 1) best value found) := HI.out.skip hil (fun q => by
              have q1 := q.choose_spec.1
              have q2 := q.choose_spec.2.1
              rw [HXL.out] at q1 q2
              unfold isPut at q1
              rw [HKV.out] at q1
              simp only at q1 q2
              exfalso
              omega)
            go_wp2_with fail
            refine (HK.out _).mono ?_
            rintro e w5 ⟨rfl, hw5⟩
            rw [hw5]
            clear hw5
            go_wp2_with fail
            go_roundw
            case rel => exact ⟨i + 1, best, value, found, rfl, rfl, rfl, by go_num, by omega, HSK, SU.out.done.1, SU.out.done.2⟩
            case measure => simp [intOf] <;> omega
          · have g0 : decide (3 ≤ kv) = false := by simp; omega
            by_cases hat : xat = (A : Int)
            · have g1 : (xat == (A : Int)) = true := by simp [hat]
              by_cases h0 : xag < 0
              · have g2 : decide (xag < 0) = true := by simp; omega
                have HSK : Hid (I2 l A age (i + 1) best value found) := HI.out.skip hil (fun q => by
                  have q1 := q.choose_spec.1
                  have q2 := q.choose_spec.2.1
                  rw [HXL.out] at q1 q2
                  unfold isPut at q1
                  rw [HKV.out] at q1
                  simp only at q1 q2
                  exfalso
                  omega)
                go_wp2_with fail
                refine (HK.out _).mono ?_
                rintro e w5 ⟨rfl, hw5⟩
                rw [hw5]
                clear hw5
                go_wp2_with fail
                go_roundw
                case rel => exact ⟨i + 1, best, value, found, rfl, rfl, rfl, by go_num, by omega, HSK, SU.out.done.1, SU.out.done.2⟩
                case measure => simp [intOf] <;> omega
              · have g2 : decide (xag < 0) = false := by simp; omega
                by_cases hage : age ≤ xag
                · have g3 : decide (age ≤ xag) = true := by simp; omega
                  have HSK : Hid (I2 l A age (i + 1) best value found) := HI.out.skip hil (fun q => by
                    have q1 := q.choose_spec.1
                    have q2 := q.choose_spec.2.1
                    rw [HXL.out] at q1 q2
                    unfold isPut at q1
                    rw [HKV.out] at q1
                    simp only at q1 q2
                    exfalso
                    omega)
                  go_wp2_with fail
                  refine (HK.out _).mono ?_
                  rintro e w5 ⟨rfl, hw5⟩
                  rw [hw5]
                  clear hw5
                  go_wp2_with fail
                  go_roundw
                  case rel => exact ⟨i + 1, best, value, found, rfl, rfl, rfl, by go_num, by omega, HSK, SU.out.done.1, SU.out.done.2⟩
                  case measure => simp [intOf] <;> omega
                · have g3 : decide (age ≤ xag) = false := by simp; omega
                  have HL1 : Hid (kv < 3) := by show _ < _; omega
                  have HL2 : Hid (xat = (A : Int)) := hat
                  have HL3 : Hid (0 ≤ xag) := by show _ ≤ _; omega
                  have HL4 : Hid (xag < age) := by show _ < _; omega
                  cases found with
                  | true =>
                    by_cases hbb : xag < best
                    · have g4 : decide (xag < best) = true := by simp; omega
                      have HSK : Hid (I2 l A age (i + 1) best value true) := HI.out.skip hil (fun q => ⟨rfl, by rw [HXL.out]; exact hbb⟩)
                      go_wp2_with fail
                      refine (HK.out _).mono ?_
                      rintro e w5 ⟨rfl, hw5⟩
                      rw [hw5]
                      clear hw5
                      go_wp2_with fail
                      go_roundw
                      case rel => exact ⟨i + 1, best, value, true, rfl, rfl, rfl, by go_num, by omega, HSK, SU.out.done.1, SU.out.done.2⟩
                      case measure => simp [intOf] <;> omega
                    · have g4 : decide (xag < best) = false := by simp; omega
                      have HL5 : Hid (best ≤ xag) := by show _ ≤ _; omega
                      go_wp2_with fail
                      refine (HK.out _).mono ?_
                      rintro e w5 ⟨rfl, hw5⟩
                      rw [hw5]
                      clear hw5
                      go_wp2_with fail
                      clear y0 y1 y2 y3
                      go_loopw [16, 17, 18] (fun gg k _ wx => ∃ (g : Bool) (k' : Nat), gg = .bool g ∧ k = .int .i64 (k' : Int) ∧ k' ≤ j ∧ i < k' ∧ Hid (GoneP g (∃ q, ∃ h : q < l.length, i < q ∧ q < k' ∧ isDrop A xag l[q])) ∧ Hid (SB w xb ⟨xkd, xat, xag, xvl⟩ sb 512 64 nn (Kf 512 64 l j) wx)) (fun _ k _ _ => j - (intOf k).toNat)
                      case atStart => exact ⟨false, i + 1, rfl, by go_num, by omega, by omega, ⟨(fun h => by cases h), (fun h => by obtain ⟨q, _, h1, h2, _⟩ := h; omega)⟩, SU⟩
                      case round =>
                        clear SU
                        obtain ⟨g, k, rfl, rfl, hkj, hik, HG, SU⟩ := hrel
                        rename World => wz
                        by_cases hkl : k < j
                        · have e4 : decide (k < j) = true := by simp; omega
                          have hkll : k < l.length := by rw [HM.out]; exact hkl
                          obtain ⟨y, hyl⟩ : ∃ y, l[k] = y := ⟨_, rfl⟩
                          obtain ⟨c0, c1, c2, c3⟩ := HVC.out k hkll
                          rw [hyl] at c0 c1 c2 c3
                          have B := SU.out.b
                          have d0 := (B.cell (p := ⟨vb, vo + k * 4, none⟩) (World.block_lt_of_cell? w _ c0)).trans c0
                          have d1 := (B.cell (p := ⟨vb, vo + k * 4 + 1, none⟩) (World.block_lt_of_cell? w _ c1)).trans c1
                          have d2 := (B.cell (p := ⟨vb, vo + k * 4 + 2, none⟩) (World.block_lt_of_cell? w _ c2)).trans c2
                          have d3 := (B.cell (p := ⟨vb, vo + k * 4 + 3, none⟩) (World.block_lt_of_cell? w _ c3)).trans c3
                          obtain ⟨kw, hkw⟩ : ∃ kw, kk y = kw := ⟨_, rfl⟩
                          have HKW : Hid (kk y = kw) := hkw
                          have HK2 : Hid (∀ w, Calls Try.prog 25 #[.int .i64 y.kd] w (Same w (.int .i64 kw))) := fun w => by have := HKA.out y.kd w; rw [show kindI y.kd = kw from hkw] at this; exact this
                          have SUN : Hid (SB w xb ⟨xkd, xat, xag, xvl⟩ sb 512 64 nn (Kf 512 64 l j) (wz.alloc (.cells #[.int .i64 y.kd, .int .i64 y.at_, .int .i64 y.ag, .int .i64 y.vl] 55))) := SU.out.same (bl1 _ _)
                          have YN : Hid (XB4 (wz.alloc (.cells #[.int .i64 y.kd, .int .i64 y.at_, .int .i64 y.ag, .int .i64 y.vl] 55)) wz.heap.size y) := XB4.new wz y
                          have HGN : Hid (∀ b : Bool, (b = true ↔ g = true ∨ isDrop A xag y) → GoneP b (∃ q, ∃ h : q < l.length, i < q ∧ q < k + 1 ∧ isDrop A xag l[q])) := fun b hb => by
                            unfold GoneP
                            have HGu : g = true ↔ _ := HG.out
                            rw [hb, HGu]
                            constructor
                            · rintro (⟨q, h, q1, q2, q3⟩ | q3)
                              · exact ⟨q, h, q1, by omega, q3⟩
                              · exact ⟨k, hkll, hik, by omega, by rw [hyl]; exact q3⟩
                            · rintro ⟨q, h, q1, q2, q3⟩
                              by_cases e : q = k
                              · subst e; exact .inr (by rw [← hyl]; exact q3)
                              · exact .inl ⟨q, h, q1, by omega, q3⟩
                          obtain ⟨ykd, yat, yag, yvl⟩ := y
                          have HDR : Hid (isDrop A xag ⟨ykd, yat, yag, yvl⟩ ↔ yag = xag ∧ (kw = 6 ∨ kw = 5 ∧ yat = (A : Int))) := by
                            show _ ↔ _
                            unfold isDrop
                            rw [HKW.out]
                          clear c0 c1 c2 c3 hkw hyl B SU
                          go_upto_region 26 with fail
                          generalize wz.alloc (.cells #[.int .i64 ykd, .int .i64 yat, .int .i64 yag, .int .i64 yvl] 55) = V at *
                          obtain ⟨yb, hyb⟩ : ∃ g, wz.heap.size = g := ⟨_, rfl⟩
                          rw [hyb] at YN
                          rw [hyb]
                          clear hyb d0 d1 d2 d3
                          have x2 : V.cell? ⟨xb, 2, none⟩ = some (.int .i64 xag) := SUN.out.x.all.2.2.1
                          have v0 : V.cell? ⟨yb, 0, none⟩ = some (.int .i64 ykd) := YN.out.all.1
                          have v1 : V.cell? ⟨yb, 1, none⟩ = some (.int .i64 yat) := YN.out.all.2.1
                          have v2 : V.cell? ⟨yb, 2, none⟩ = some (.int .i64 yag) := YN.out.all.2.2.1
                          cases g with
                          | true =>
                            have HG2 := HGN.out true (by simp)
                            have HG3 : Hid (GoneP true (∃ q, ∃ h : q < l.length, i < q ∧ q < k + 1 ∧ isDrop A xag l[q])) := HG2
                            clear HG2 x2 v0 v1 v2
                            go_wp2_with fail
                            go_roundw
                            case rel => exact ⟨true, k + 1, rfl, by go_num, by omega, by omega, HG3, SUN⟩
                            case measure => simp [intOf] <;> omega
                          | false =>
                            by_cases ha : yag = xag
                            · have t1 : (yag == xag) = true := by simp [ha]
                              by_cases h6 : kw = 6
                              · have t2 : (kw == 6) = true := by simp [h6]
                                have HG2 := HGN.out true (by simp only [true_iff]; exact .inr (HDR.out.2 ⟨ha, .inl h6⟩))
                                have HG3 : Hid (GoneP true (∃ q, ∃ h : q < l.length, i < q ∧ q < k + 1 ∧ isDrop A xag l[q])) := HG2
                                clear HG2 ha h6
                                go_wp2_with fail
                                refine (HK2.out _).mono ?_
                                rintro e w5 ⟨rfl, hw5⟩
                                rw [hw5]
                                clear hw5
                                go_wp2_with fail
                                go_roundw
                                case rel => exact ⟨true, k + 1, rfl, by go_num, by omega, by omega, HG3, SUN⟩
                                case measure => simp [intOf] <;> omega
                              · have t2 : (kw == 6) = false := by simp [h6]
                                by_cases h5 : kw = 5
                                · have t3 : (kw == 5) = true := by simp [h5]
                                  by_cases hat : yat = (A : Int)
                                  · have t4 : (yat == (A : Int)) = true := by simp [hat]
                                    have HG2 := HGN.out true (by simp only [true_iff]; exact .inr (HDR.out.2 ⟨ha, .inr ⟨h5, hat⟩⟩))
                                    have HG3 : Hid (GoneP true (∃ q, ∃ h : q < l.length, i < q ∧ q < k + 1 ∧ isDrop A xag l[q])) := HG2
                                    clear HG2 ha h6 h5 hat
                                    go_wp2_with fail
                                    refine (HK2.out _).mono ?_
                                    rintro e w5 ⟨rfl, hw5⟩
                                    rw [hw5]
                                    clear hw5
                                    go_wp2_with fail
                                    refine (HK2.out _).mono ?_
                                    rintro e w5 ⟨rfl, hw5⟩
                                    rw [hw5]
                                    clear hw5
                                    go_wp2_with fail
                                    go_roundw
                                    case rel => exact ⟨true, k + 1, rfl, by go_num, by omega, by omega, HG3, SUN⟩
                                    case measure => simp [intOf] <;> omega
                                  · have t4 : (yat == (A : Int)) = false := by simp [hat]
                                    have HG2 := HGN.out false (by
                                      constructor
                                      · intro h; cases h
                                      · rintro (h | h)
                                        · cases h
                                        · rcases (HDR.out.1 h).2 with r | r
                                          · exact absurd r h6
                                          · exact absurd r.2 hat)
                                    have HG3 : Hid (GoneP false (∃ q, ∃ h : q < l.length, i < q ∧ q < k + 1 ∧ isDrop A xag l[q])) := HG2
                                    clear HG2 ha h6 h5 hat
                                    go_wp2_with fail
                                    refine (HK2.out _).mono ?_
                                    rintro e w5 ⟨rfl, hw5⟩
                                    rw [hw5]
                                    clear hw5
                                    go_wp2_with fail
                                    refine (HK2.out _).mono ?_
                                    rintro e w5 ⟨rfl, hw5⟩
                                    rw [hw5]
                                    clear hw5
                                    go_wp2_with fail
                                    go_roundw
                                    case rel => exact ⟨false, k + 1, rfl, by go_num, by omega, by omega, HG3, SUN⟩
                                    case measure => simp [intOf] <;> omega
                                · have t3 : (kw == 5) = false := by simp [h5]
                                  have HG2 := HGN.out false (by
                                    constructor
                                    · intro h; cases h
                                    · rintro (h | h)
                                      · cases h
                                      · rcases (HDR.out.1 h).2 with r | r
                                        · exact absurd r h6
                                        · exact absurd r.1 h5)
                                  have HG3 : Hid (GoneP false (∃ q, ∃ h : q < l.length, i < q ∧ q < k + 1 ∧ isDrop A xag l[q])) := HG2
                                  clear HG2 ha h6 h5
                                  go_wp2_with fail
                                  refine (HK2.out _).mono ?_
                                  rintro e w5 ⟨rfl, hw5⟩
                                  rw [hw5]
                                  clear hw5
                                  go_wp2_with fail
                                  refine (HK2.out _).mono ?_
                                  rintro e w5 ⟨rfl, hw5⟩
                                  rw [hw5]
                                  clear hw5
                                  go_wp2_with fail
                                  go_roundw
                                  case rel => exact ⟨false, k + 1, rfl, by go_num, by omega, by omega, HG3, SUN⟩
                                  case measure => simp [intOf] <;> omega
                            · have t1 : (yag == xag) = false := by simp [ha]
                              have HG2 := HGN.out false (by
                                constructor
                                · intro h; cases h
                                · rintro (h | h)
                                  · cases h
                                  · exact absurd (HDR.out.1 h).1 ha)
                              have HG3 : Hid (GoneP false (∃ q, ∃ h : q < l.length, i < q ∧ q < k + 1 ∧ isDrop A xag l[q])) := HG2
                              clear HG2 ha
                              go_wp2_with fail
                              go_roundw
                              case rel => exact ⟨false, k + 1, rfl, by go_num, by omega, by omega, HG3, SUN⟩
                              case measure => simp [intOf] <;> omega
                        · have hkj2 : k = j := by omega
                          have e4 : decide (k < j) = false := by simp; omega
                          have HGE : Hid (GoneP g (∃ q, ∃ h : q < l.length, i < q ∧ isDrop A xag l[q])) := by
                            show _ ↔ _
                            have HGu : g = true ↔ _ := HG.out
                            rw [HGu]
                            constructor
                            · rintro ⟨q, h, q1, q2, q3⟩; exact ⟨q, h, q1, q3⟩
                            · rintro ⟨q, h, q1, q3⟩; exact ⟨q, h, q1, by have := HM.out; omega, q3⟩
                          clear hkj2
                          cases g with
                          | true =>
                            have HSK : Hid (I2 l A age (i + 1) best value true) := HI.out.skip hil (fun q => by
                              exfalso
                              have HGF : true = true ↔ _ := HGE.out
                              obtain ⟨r, h, r1, r2⟩ := HGF.1 rfl
                              have := q.choose_spec.2.2 r h r1
                              rw [HXL.out] at this
                              exact this r2)
                            go_wp2_with fail
                            go_roundw
                            case rel => exact ⟨i + 1, best, value, true, rfl, rfl, rfl, by go_num, by omega, HSK, SU.out.done.1, SU.out.done.2⟩
                            case measure => simp [intOf] <;> omega
                          | false =>
                            have hqi : Ql l A age i := ⟨hil, by rw [HXL.out]; unfold isPut; rw [HKV.out]; exact ⟨HL1.out, HL2.out, HL3.out⟩, by rw [HXL.out]; exact HL4.out, fun r h r1 r2 => by
                              rw [HXL.out] at r2
                              have HGF : false = true ↔ _ := HGE.out
                              have := HGF.2 ⟨r, h, r1, r2⟩
                              cases this⟩
                            have hnew := HI.out.take hil hqi (fun _ => by rw [HXL.out]; exact HL5.out)
                            rw [HXL.out] at hnew
                            have HNEW : Hid (I2 l A age (i + 1) xag xvl true) := hnew
                            have x2 : wz.cell? ⟨xb, 2, none⟩ = some (.int .i64 xag) := SU.out.x.all.2.2.1
                            have x3 : wz.cell? ⟨xb, 3, none⟩ = some (.int .i64 xvl) := SU.out.x.all.2.2.2
                            clear hqi hnew
                            go_upto_region 28 with fail
                            go_quiet (fail)
                            have SU2 : Hid (SB w xb ⟨xkd, xat, xag, xvl⟩ sb 512 64 nn (Kf 512 64 l j) (wz.drewN nq)) := SU.out.same (Below.dN (Below.refl _ _) nq)
                            generalize wz.drewN nq = W9 at *
                            clear x2 x3
                            go_wp2_with fail
                            go_roundw
                            case rel => exact ⟨i + 1, xag, xvl, true, rfl, rfl, rfl, by go_num, by omega, HNEW, SU2.out.done.1, SU2.out.done.2⟩
                            case measure => simp [intOf] <;> omega
                  | false =>
                    go_wp2_with fail
                    refine (HK.out _).mono ?_
                    rintro e w5 ⟨rfl, hw5⟩
                    rw [hw5]
                    clear hw5
                    go_wp2_with fail
                    clear y0 y1 y2 y3
                    go_loopw [16, 17, 18] (fun gg k _ wx => ∃ (g : Bool) (k' : Nat), gg = .bool g ∧ k = .int .i64 (k' : Int) ∧ k' ≤ j ∧ i < k' ∧ Hid (GoneP g (∃ q, ∃ h : q < l.length, i < q ∧ q < k' ∧ isDrop A xag l[q])) ∧ Hid (SB w xb ⟨xkd, xat, xag, xvl⟩ sb 512 64 nn (Kf 512 64 l j) wx)) (fun _ k _ _ => j - (intOf k).toNat)
                    case atStart => exact ⟨false, i + 1, rfl, by go_num, by omega, by omega, ⟨(fun h => by cases h), (fun h => by obtain ⟨q, _, h1, h2, _⟩ := h; omega)⟩, SU⟩
                    case round =>
                      clear SU
                      obtain ⟨g, k, rfl, rfl, hkj, hik, HG, SU⟩ := hrel
                      rename World => wz
                      by_cases hkl : k < j
                      · have e4 : decide (k < j) = true := by simp; omega
                        have hkll : k < l.length := by rw [HM.out]; exact hkl
                        obtain ⟨y, hyl⟩ : ∃ y, l[k] = y := ⟨_, rfl⟩
                        obtain ⟨c0, c1, c2, c3⟩ := HVC.out k hkll
                        rw [hyl] at c0 c1 c2 c3
                        have B := SU.out.b
                        have d0 := (B.cell (p := ⟨vb, vo + k * 4, none⟩) (World.block_lt_of_cell? w _ c0)).trans c0
                        have d1 := (B.cell (p := ⟨vb, vo + k * 4 + 1, none⟩) (World.block_lt_of_cell? w _ c1)).trans c1
                        have d2 := (B.cell (p := ⟨vb, vo + k * 4 + 2, none⟩) (World.block_lt_of_cell? w _ c2)).trans c2
                        have d3 := (B.cell (p := ⟨vb, vo + k * 4 + 3, none⟩) (World.block_lt_of_cell? w _ c3)).trans c3
                        obtain ⟨kw, hkw⟩ : ∃ kw, kk y = kw := ⟨_, rfl⟩
                        have HKW : Hid (kk y = kw) := hkw
                        have HK2 : Hid (∀ w, Calls Try.prog 25 #[.int .i64 y.kd] w (Same w (.int .i64 kw))) := fun w => by have := HKA.out y.kd w; rw [show kindI y.kd = kw from hkw] at this; exact this
                        have SUN : Hid (SB w xb ⟨xkd, xat, xag, xvl⟩ sb 512 64 nn (Kf 512 64 l j) (wz.alloc (.cells #[.int .i64 y.kd, .int .i64 y.at_, .int .i64 y.ag, .int .i64 y.vl] 55))) := SU.out.same (bl1 _ _)
                        have YN : Hid (XB4 (wz.alloc (.cells #[.int .i64 y.kd, .int .i64 y.at_, .int .i64 y.ag, .int .i64 y.vl] 55)) wz.heap.size y) := XB4.new wz y
                        have HGN : Hid (∀ b : Bool, (b = true ↔ g = true ∨ isDrop A xag y) → GoneP b (∃ q, ∃ h : q < l.length, i < q ∧ q < k + 1 ∧ isDrop A xag l[q])) := fun b hb => by
                          unfold GoneP
                          have HGu : g = true ↔ _ := HG.out
                          rw [hb, HGu]
                          constructor
                          · rintro (⟨q, h, q1, q2, q3⟩ | q3)
                            · exact ⟨q, h, q1, by omega, q3⟩
                            · exact ⟨k, hkll, hik, by omega, by rw [hyl]; exact q3⟩
                          · rintro ⟨q, h, q1, q2, q3⟩
                            by_cases e : q = k
                            · subst e; exact .inr (by rw [← hyl]; exact q3)
                            · exact .inl ⟨q, h, q1, by omega, q3⟩
                        obtain ⟨ykd, yat, yag, yvl⟩ := y
                        have HDR : Hid (isDrop A xag ⟨ykd, yat, yag, yvl⟩ ↔ yag = xag ∧ (kw = 6 ∨ kw = 5 ∧ yat = (A : Int))) := by
                          show _ ↔ _
                          unfold isDrop
                          rw [HKW.out]
                        clear c0 c1 c2 c3 hkw hyl B SU
                        go_upto_region 26 with fail
                        generalize wz.alloc (.cells #[.int .i64 ykd, .int .i64 yat, .int .i64 yag, .int .i64 yvl] 55) = V at *
                        obtain ⟨yb, hyb⟩ : ∃ g, wz.heap.size = g := ⟨_, rfl⟩
                        rw [hyb] at YN
                        rw [hyb]
                        clear hyb d0 d1 d2 d3
                        have x2 : V.cell? ⟨xb, 2, none⟩ = some (.int .i64 xag) := SUN.out.x.all.2.2.1
                        have v0 : V.cell? ⟨yb, 0, none⟩ = some (.int .i64 ykd) := YN.out.all.1
                        have v1 : V.cell? ⟨yb, 1, none⟩ = some (.int .i64 yat) := YN.out.all.2.1
                        have v2 : V.cell? ⟨yb, 2, none⟩ = some (.int .i64 yag) := YN.out.all.2.2.1
                        cases g with
                        | true =>
                          have HG2 := HGN.out true (by simp)
                          have HG3 : Hid (GoneP true (∃ q, ∃ h : q < l.length, i < q ∧ q < k + 1 ∧ isDrop A xag l[q])) := HG2
                          clear HG2 x2 v0 v1 v2
                          go_wp2_with fail
                          go_roundw
                          case rel => exact ⟨true, k + 1, rfl, by go_num, by omega, by omega, HG3, SUN⟩
                          case measure => simp [intOf] <;> omega
                        | false =>
                          by_cases ha : yag = xag
                          · have t1 : (yag == xag) = true := by simp [ha]
                            by_cases h6 : kw = 6
                            · have t2 : (kw == 6) = true := by simp [h6]
                              have HG2 := HGN.out true (by simp only [true_iff]; exact .inr (HDR.out.2 ⟨ha, .inl h6⟩))
                              have HG3 : Hid (GoneP true (∃ q, ∃ h : q < l.length, i < q ∧ q < k + 1 ∧ isDrop A xag l[q])) := HG2
                              clear HG2 ha h6
                              go_wp2_with fail
                              refine (HK2.out _).mono ?_
                              rintro e w5 ⟨rfl, hw5⟩
                              rw [hw5]
                              clear hw5
                              go_wp2_with fail
                              go_roundw
                              case rel => exact ⟨true, k + 1, rfl, by go_num, by omega, by omega, HG3, SUN⟩
                              case measure => simp [intOf] <;> omega
                            · have t2 : (kw == 6) = false := by simp [h6]
                              by_cases h5 : kw = 5
                              · have t3 : (kw == 5) = true := by simp [h5]
                                by_cases hat : yat = (A : Int)
                                · have t4 : (yat == (A : Int)) = true := by simp [hat]
                                  have HG2 := HGN.out true (by simp only [true_iff]; exact .inr (HDR.out.2 ⟨ha, .inr ⟨h5, hat⟩⟩))
                                  have HG3 : Hid (GoneP true (∃ q, ∃ h : q < l.length, i < q ∧ q < k + 1 ∧ isDrop A xag l[q])) := HG2
                                  clear HG2 ha h6 h5 hat
                                  go_wp2_with fail
                                  refine (HK2.out _).mono ?_
                                  rintro e w5 ⟨rfl, hw5⟩
                                  rw [hw5]
                                  clear hw5
                                  go_wp2_with fail
                                  refine (HK2.out _).mono ?_
                                  rintro e w5 ⟨rfl, hw5⟩
                                  rw [hw5]
                                  clear hw5
                                  go_wp2_with fail
                                  go_roundw
                                  case rel => exact ⟨true, k + 1, rfl, by go_num, by omega, by omega, HG3, SUN⟩
                                  case measure => simp [intOf] <;> omega
                                · have t4 : (yat == (A : Int)) = false := by simp [hat]
                                  have HG2 := HGN.out false (by
                                    constructor
                                    · intro h; cases h
                                    · rintro (h | h)
                                      · cases h
                                      · rcases (HDR.out.1 h).2 with r | r
                                        · exact absurd r h6
                                        · exact absurd r.2 hat)
                                  have HG3 : Hid (GoneP false (∃ q, ∃ h : q < l.length, i < q ∧ q < k + 1 ∧ isDrop A xag l[q])) := HG2
                                  clear HG2 ha h6 h5 hat
                                  go_wp2_with fail
                                  refine (HK2.out _).mono ?_
                                  rintro e w5 ⟨rfl, hw5⟩
                                  rw [hw5]
                                  clear hw5
                                  go_wp2_with fail
                                  refine (HK2.out _).mono ?_
                                  rintro e w5 ⟨rfl, hw5⟩
                                  rw [hw5]
                                  clear hw5
                                  go_wp2_with fail
                                  go_roundw
                                  case rel => exact ⟨false, k + 1, rfl, by go_num, by omega, by omega, HG3, SUN⟩
                                  case measure => simp [intOf] <;> omega
                              · have t3 : (kw == 5) = false := by simp [h5]
                                have HG2 := HGN.out false (by
                                  constructor
                                  · intro h; cases h
                                  · rintro (h | h)
                                    · cases h
                                    · rcases (HDR.out.1 h).2 with r | r
                                      · exact absurd r h6
                                      · exact absurd r.1 h5)
                                have HG3 : Hid (GoneP false (∃ q, ∃ h : q < l.length, i < q ∧ q < k + 1 ∧ isDrop A xag l[q])) := HG2
                                clear HG2 ha h6 h5
                                go_wp2_with fail
                                refine (HK2.out _).mono ?_
                                rintro e w5 ⟨rfl, hw5⟩
                                rw [hw5]
                                clear hw5
                                go_wp2_with fail
                                refine (HK2.out _).mono ?_
                                rintro e w5 ⟨rfl, hw5⟩
                                rw [hw5]
                                clear hw5
                                go_wp2_with fail
                                go_roundw
                                case rel => exact ⟨false, k + 1, rfl, by go_num, by omega, by omega, HG3, SUN⟩
                                case measure => simp [intOf] <;> omega
                          · have t1 : (yag == xag) = false := by simp [ha]
                            have HG2 := HGN.out false (by
                              constructor
                              · intro h; cases h
                              · rintro (h | h)
                                · cases h
                                · exact absurd (HDR.out.1 h).1 ha)
                            have HG3 : Hid (GoneP false (∃ q, ∃ h : q < l.length, i < q ∧ q < k + 1 ∧ isDrop A xag l[q])) := HG2
                            clear HG2 ha
                            go_wp2_with fail
                            go_roundw
                            case rel => exact ⟨false, k + 1, rfl, by go_num, by omega, by omega, HG3, SUN⟩
                            case measure => simp [intOf] <;> omega
                      · have hkj2 : k = j := by omega
                        have e4 : decide (k < j) = false := by simp; omega
                        have HGE : Hid (GoneP g (∃ q, ∃ h : q < l.length, i < q ∧ isDrop A xag l[q])) := by
                          show _ ↔ _
                          have HGu : g = true ↔ _ := HG.out
                          rw [HGu]
                          constructor
                          · rintro ⟨q, h, q1, q2, q3⟩; exact ⟨q, h, q1, q3⟩
                          · rintro ⟨q, h, q1, q3⟩; exact ⟨q, h, q1, by have := HM.out; omega, q3⟩
                        clear hkj2
                        cases g with
                        | true =>
                          have HSK : Hid (I2 l A age (i + 1) best value false) := HI.out.skip hil (fun q => by
                            exfalso
                            have HGF : true = true ↔ _ := HGE.out
                            obtain ⟨r, h, r1, r2⟩ := HGF.1 rfl
                            have := q.choose_spec.2.2 r h r1
                            rw [HXL.out] at this
                            exact this r2)
                          go_wp2_with fail
                          go_roundw
                          case rel => exact ⟨i + 1, best, value, false, rfl, rfl, rfl, by go_num, by omega, HSK, SU.out.done.1, SU.out.done.2⟩
                          case measure => simp [intOf] <;> omega
                        | false =>
                          have hqi : Ql l A age i := ⟨hil, by rw [HXL.out]; unfold isPut; rw [HKV.out]; exact ⟨HL1.out, HL2.out, HL3.out⟩, by rw [HXL.out]; exact HL4.out, fun r h r1 r2 => by
                            rw [HXL.out] at r2
                            have HGF : false = true ↔ _ := HGE.out
                            have := HGF.2 ⟨r, h, r1, r2⟩
                            cases this⟩
                          have hnew := HI.out.take hil hqi (fun h => by cases h)
                          rw [HXL.out] at hnew
                          have HNEW : Hid (I2 l A age (i + 1) xag xvl true) := hnew
                          have x2 : wz.cell? ⟨xb, 2, none⟩ = some (.int .i64 xag) := SU.out.x.all.2.2.1
                          have x3 : wz.cell? ⟨xb, 3, none⟩ = some (.int .i64 xvl) := SU.out.x.all.2.2.2
                          clear hqi hnew
                          go_upto_region 28 with fail
                          go_quiet (fail)
                          have SU2 : Hid (SB w xb ⟨xkd, xat, xag, xvl⟩ sb 512 64 nn (Kf 512 64 l j) (wz.drewN nq)) := SU.out.same (Below.dN (Below.refl _ _) nq)
                          generalize wz.drewN nq = W9 at *
                          clear x2 x3
                          go_wp2_with fail
                          go_roundw
                          case rel => exact ⟨i + 1, xag, xvl, true, rfl, rfl, rfl, by go_num, by omega, HNEW, SU2.out.done.1, SU2.out.done.2⟩
                          case measure => simp [intOf] <;> omega
            · have g1 : (xat == (A : Int)) = false := by simp [hat]
              have HSK : Hid (I2 l A age (i + 1) best value found) := HI.out.skip hil (fun q => by
                have q1 := q.choose_spec.1
                have q2 := q.choose_spec.2.1
                rw [HXL.out] at q1 q2
                unfold isPut at q1
                rw [HKV.out] at q1
                simp only at q1 q2
                exfalso
                exact hat q1.2.1)
              go_wp2_with fail
              refine (HK.out _).mono ?_
              rintro e w5 ⟨rfl, hw5⟩
              rw [hw5]
              clear hw5
              go_wp2_with fail
              go_roundw
              case rel => exact ⟨i + 1, best, value, found, rfl, rfl, rfl, by go_num, by omega, HSK, SU.out.done.1, SU.out.done.2⟩
              case measure => simp [intOf] <;> omega
        · have hij2 : i = j := by omega
          have e1 : decide (i < j) = false := by simp; omega
          have HO := S.out.older (A : Int) age
          rw [wi_in hA64] at HO
          have HL : (found = true → oldK (Kf 512 64 l j A) age = some (best, value)) ∧ (found = false → value = 0 ∧ oldK (Kf 512 64 l j A) age = none) := by
            have := HI.out
            rw [hij2, ← HM.out] at this
            have := this.last (R := 512) (W := 64) (by have := HM.out; omega) hA64
            rw [HM.out] at this
            exact this
          clear HI hij hij2
          go_wp2_with fail
          refine HO.mono ?_
          rintro e w4 ⟨rfl, b4⟩
          have B4 : Hid (Below w.heap.size w w4) := B.out.trans (b4.mono B.out.size)
          clear b4 S B e1
          cases found with
          | true =>
            have ho := HL.1 rfl
            rw [ho]
            simp only [Option.getD_some, Option.isSome_some]
            clear HL ho
            go_wp2_with fail
            refine (valive_any _).mono ?_
            rintro e w5 ⟨rfl, b5⟩
            have B5 : Hid (Below w.heap.size w w5) := (B4.out.trans ((bl1 w4 _).mono B4.out.size)).trans (b5.mono (Nat.le_trans B4.out.size (bl1 w4 _).size))
            clear b5 B4
            go_wp2
            first | exact ⟨rfl, B5.out⟩ | (go_ret; exact ⟨rfl, B5.out⟩)
          | false =>
            obtain ⟨hv0, ho⟩ := HL.2 rfl
            rw [ho]
            subst hv0
            simp only [Option.getD_none, Option.isSome_none]
            clear HL ho
            go_wp2_with fail
            refine (valive_any _).mono ?_
            rintro e w5 ⟨rfl, b5⟩
            have B5 : Hid (Below w.heap.size w w5) := (B4.out.trans ((bl1 w4 _).mono B4.out.size)).trans (b5.mono (Nat.le_trans B4.out.size (bl1 w4 _).size))
            clear b5 B4
            go_wp2
            first | exact ⟨rfl, B5.out⟩ | (go_ret; exact ⟨rfl, B5.out⟩)
end Go.Proofs.Ytdohclnmcdempaa
