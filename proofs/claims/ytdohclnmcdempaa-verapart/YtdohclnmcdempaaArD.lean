/- The free slots as they are told. -/
import Derived.Test.YtdohclnmcdempaaArC
namespace Go.Proofs.Ytdohclnmcdempaa
open Go.RowKit Go.Maps
set_option linter.unusedVariables false

theorem made0 (n : Nat) (hn : n ≤ 100000) : ∀ w, (Instr.makeSlice 22 (.int .i64 0) (.int .i64 (n : Int))).run Try.prog w = .ok (.slice (some ⟨w.heap.size, 0, none⟩) 0 n) (w.alloc (.cells (ints (List.replicate n 0)) 3)) := by
  intro w
  obtain ⟨i, h1, e1, e2, e3⟩ := info_parts info3
  have := run_make (P := Try.prog) w 22 3 i (.int .i64 0) Try.underlying22 h1 e1 .i64 .i64 0 (n : Int) (by omega) (by omega) (by rw [e3]; omega) (by omega)
  rw [e2, zeros_made] at this
  simpa using this
theorem IZ.made (w : World) (base n : Nat) (hb : base ≤ w.heap.size) (hn : n ≤ 100000) : IZ (w.alloc (.cells (ints (List.replicate n 0)) 3)) base (.slice (some ⟨w.heap.size, 0, none⟩) 0 n) [] :=
  ⟨rfl, .inr ⟨w.heap.size, n, _, rfl, hb, heap_alloc_new _ _, Nat.zero_le _, by unfold maxLen; omega, by simp [ints], by simp⟩⟩
def OrderQ (w : World) (L : List Nat) (e : Ending) (w' : World) : Prop := ∃ v, e = .returned v ∧ IZ w' w.heap.size v (cs L) ∧ Below w.heap.size w w'
theorem cs_snoc (l : List Nat) (x : Nat) : cs l ++ [(x : Int)] = cs (l ++ [x]) := by simp [cs]
set_option maxRecDepth 100000 in
set_option maxHeartbeats 2000000 in
theorem order_AR {ab ub : Nat} {bv : Value} {n F : Nat} {B : List Nat} (w : World) (h : AR w ab ub bv n F B) : Calls Try.prog 15 #[.pointer (some ⟨ab, 0, none⟩)] w (OrderQ w (freeL n F B)) := by
  have HC : Hid (Calls Try.prog 16 #[.pointer (some ⟨ab, 0, none⟩)] w (QD w (.int .i64 ((freeL n F B).length : Int)))) := free_any w h
  obtain ⟨P, hP⟩ : ∃ P, OrderQ w (freeL n F B) = P := ⟨_, rfl⟩
  have HP : Hid (OrderQ w (freeL n F B) = P) := hP
  rw [hP]
  clear hP
  have H : Hid (AR w ab ub bv n F B) := h
  obtain ⟨hB, hF, hn⟩ := h.bl3
  have hfl := freeL_len (B := B) hF
  obtain ⟨a0, k0, b0, o0, hbv, _, _, hv1, hv2⟩ := h.bk.gsl
  rw [cs_len] at hbv hv1
  subst hbv
  obtain ⟨m, hm⟩ : ∃ m, B.length = m := ⟨_, rfl⟩
  obtain ⟨fl, hfl2⟩ : ∃ fl, (freeL n F B).length = fl := ⟨_, rfl⟩
  rw [hfl2] at HC hfl
  rw [hm] at hB hfl hv1
  have HM : Hid (B.length = m) := hm
  have hmk := made0 fl (by omega)
  have HV : Hid (∀ i, (h : i < m) → w.cell? ⟨b0, o0 + i, none⟩ = some (.int .i64 ((B[i]'(by rw [HM.out]; exact h) : Nat) : Int))) := fun i hi => by
    have := hv2 i (by rw [cs_len, HM.out]; exact hi)
    rw [cs_at _ _ _ (by rw [HM.out]; exact hi)] at this
    exact this
  have HV1 : Hid (0 < m → a0 = some ⟨b0, o0, none⟩) := hv1
  have HK : Hid (∀ W, Below w.heap.size w W → AR W ab ub (.slice a0 B.length k0) n F B) := fun W hW => H.out.below hW
  have hnl : fl ≤ 1024 := by omega
  clear h hv2 hv1 hfl hfl2 hm
  go_enter Try.func15, Try.ntmps15
  go_wp2_with fail
  refine HC.out.mono ?_
  rintro e w1 ⟨rfl, k, rfl⟩
  have HB1 : Hid (Below w.heap.size w (w.drewN k)) := Below.dN (Below.refl _ _) k
  have HS1 : Hid ((w.drewN k).heap.size = w.heap.size) := rfl
  have HI1 : Hid (IZ ((w.drewN k).alloc (.cells (ints (List.replicate fl 0)) 3)) w.heap.size (.slice (some ⟨(w.drewN k).heap.size, 0, none⟩) 0 fl) []) := IZ.made _ _ _ (Nat.le_refl _) (by omega)
  generalize w.drewN k = V at *
  go_upto_region 2 with fail
  have HB2 : Hid (Below w.heap.size w (V.alloc (.cells (ints (List.replicate fl 0)) 3))) := HB1.out.alloc (by rw [HS1.out]; exact Nat.le_refl _) _
  generalize V.alloc (.cells (ints (List.replicate fl 0)) 3) = U at *
  have c1 := (HK.out U HB2.out).c1
  rw [HM.out] at c1
  obtain ⟨g1, hg1⟩ : ∃ g, V.heap.size = g := ⟨_, rfl⟩
  rw [hg1] at HI1
  rw [hg1]
  clear hg1 hmk HC
  have hw1 : wrap64 ((m : Int) - 1) = (m : Int) - 1 := w64in _ ⟨by omega, by omega⟩
  go_wp2_with fail
  clear c1 hw1
  go_loopw [3, 4] (fun l at_ wr => ∃ (j : Nat) (a : Option Addr) (c : Nat), l = .slice a j c ∧ at_ = .int .i64 ((m : Int) - 1 - (j : Int)) ∧ j ≤ m ∧ Hid (IZ wr w.heap.size (.slice a j c) (cs (B.reverse.take j))) ∧ Hid (Below w.heap.size w wr)) (fun l at_ _ => (intOf at_ + 1).toNat)
  case atStart => exact ⟨0, _, _, rfl, by simp, Nat.zero_le _, by simpa [cs] using HI1, HB2⟩
  case round =>
    obtain ⟨j, a, c, rfl, rfl, hj, HI, HB⟩ := hrel
    by_cases hlt : j < m
    · have e1 : decide (0 ≤ (m : Int) - 1 - (j : Int)) = true := by simp; omega
      clear e1
      obtain ⟨p, hp⟩ : ∃ p : Nat, (m : Int) - 1 - (j : Int) = (p : Int) := ⟨m - 1 - j, by omega⟩
      have hpm : p < m := by omega
      rw [hp]
      have HPJ : Hid ((m : Int) - 1 - (j : Int) = (p : Int)) := hp
      have e1 : decide (0 ≤ (p : Int)) = true := by simp
      have hval := HV1.out (by omega)
      subst hval
      have HVP := HV.out p hpm
      obtain ⟨x, hx⟩ : ∃ x : Nat, B[p]'(by rw [HM.out]; exact hpm) = x := ⟨_, rfl⟩
      rw [hx] at HVP
      have HTK : Hid (cs (B.reverse.take j) ++ [(x : Int)] = cs (B.reverse.take (j + 1))) := by
        show _ = _
        have hjl : j < B.reverse.length := by rw [List.length_reverse, HM.out]; exact hlt
        rw [cs_snoc, List.take_succ_eq_append_getElem hjl, List.getElem_reverse]
        congr 3
        rw [← hx]
        congr 1
        have := HM.out
        have := HPJ.out
        omega
      have cx := fun A => ((HB.out.alloc HB.out.size A).cell (p := ⟨b0, o0 + p, none⟩) (World.block_lt_of_cell? w _ HVP)).trans HVP
      have cx0 := (HB.out.cell (p := ⟨b0, o0 + p, none⟩) (World.block_lt_of_cell? w _ HVP)).trans HVP
      have c1 := (HK.out wr HB.out).c1
      rw [HM.out] at c1
      have hw1 : wrap64 ((p : Int) - 1) = (p : Int) - 1 := w64in _ ⟨by omega, by omega⟩
      have HI2 : Hid (∀ A, IZ (wr.alloc A) w.heap.size (.slice a j c) (cs (B.reverse.take j))) := fun A => HI.out.below (bl1 _ _)
      have hlen : (cs (B.reverse.take j)).length ≤ 100000 := by rw [cs_len, List.length_take]; have := HM.out; omega
      have hbs : w.heap.size ≤ wr.heap.size := HB.out.size
      have HBA : Hid (∀ A, Below w.heap.size w (wr.alloc A)) := fun A => HB.out.alloc hbs A
      clear hp hx HVP
      go_wp2_with (at_builtin; refine push_int _ rfl _ _ rfl w.heap.size _ (cs (B.reverse.take j)) (x : Int) rfl ?p1 _ rfl ?p2 ?p3 ?p4 ?_)
      case p1 => exact HI2.out _
      case p4 => exact Nat.le_trans hbs (by simp)
      intro v4 w4 hi4 hb4
      rw [HTK.out] at hi4
      obtain ⟨a4, k4, rfl⟩ := hi4.sl
      have hl4 : (cs (B.reverse.take (j + 1))).length = j + 1 := by rw [cs_len, List.length_take, List.length_reverse, HM.out]; omega
      rw [hl4] at hi4 ⊢
      have HI4 : Hid (IZ w4 w.heap.size (.slice a4 (j + 1) k4) (cs (B.reverse.take (j + 1)))) := hi4
      have HB4 : Hid (Below w.heap.size w w4) := (HBA.out _).trans hb4
      clear hi4 hb4 hl4 cx cx0 c1 hlen hbs
      go_wp2_with fail
      go_roundw
      case rel => exact ⟨j + 1, a4, k4, rfl, by have := HPJ.out; go_num, by omega, HI4, HB4⟩
      case measure => have := HPJ.out; simp [intOf] <;> omega
    · have hjm : j = m := by omega
      have HIm : Hid (IZ wr w.heap.size (.slice a m c) (cs B.reverse)) := by
        show IZ _ _ _ _
        have h0 := HI.out
        rw [hjm, List.take_of_length_le (by rw [List.length_reverse, HM.out]; exact Nat.le_refl _)] at h0
        exact h0
      have e1 : decide (0 ≤ (m : Int) - 1 - (j : Int)) = false := by simp; omega
      subst hjm
      have e1 : decide (0 ≤ (j : Int) - 1 - (j : Int)) = false := by simp; omega
      have c2 := (HK.out wr HB.out).c2
      have hmz : Hid (B.length = j) := HM
      clear hlt
      obtain ⟨T, hT⟩ : ∃ T : Nat, n - F = T := ⟨_, rfl⟩
      have HT : Hid (n - F = T) := hT
      have HBw : Hid (Below w.heap.size w wr) := HB
      go_wp2_with fail
      clear c2 e1 hT hj
      go_loopw [3, 5] (fun l sl wx => ∃ (q y : Nat) (a : Option Addr) (c : Nat), l = .slice a (j + q) c ∧ sl = .int .i64 (y : Int) ∧ y ≤ n ∧ Hid (y = F + q) ∧ Hid (IZ wx w.heap.size (.slice a (j + q) c) (cs (B.reverse ++ List.range' F q))) ∧ Hid (Below w.heap.size w wx)) (fun l sl _ => n - (intOf sl).toNat)
      case atStart => exact ⟨0, F, a, c, rfl, rfl, hF, rfl, by simpa using HIm, HBw⟩
      case round =>
        clear HI HB HIm HBw
        obtain ⟨q, y, a, c, rfl, rfl, hq, HY, HI, HB⟩ := hrel
        rename World => wy
        have c0 := (HK.out _ HB.out).c0
        by_cases hlt : y < n
        · have e2 : decide (y < n) = true := by simp; omega
          have HI2 : Hid (∀ A, IZ (wy.alloc A) w.heap.size (.slice a (j + q) c) (cs (B.reverse ++ List.range' F q))) := fun A => HI.out.below (bl1 _ _)
          have hlen : (cs (B.reverse ++ List.range' F q)).length ≤ 100000 := by rw [cs_len, List.length_append, List.length_reverse, List.length_range']; have := hmz.out; have := HY.out; omega
          have hbs : w.heap.size ≤ wy.heap.size := HB.out.size
          have HBA : Hid (∀ A, Below w.heap.size w (wy.alloc A)) := fun A => HB.out.alloc hbs A
          have HTK : Hid (cs (B.reverse ++ List.range' F q) ++ [(y : Int)] = cs (B.reverse ++ List.range' F (q + 1))) := by
            show _ = _
            rw [cs_snoc, List.append_assoc, List.range'_1_concat, HY.out]
          go_wp2_with (at_builtin; refine push_int _ rfl _ _ rfl w.heap.size _ (cs (B.reverse ++ List.range' F q)) (y : Int) rfl ?r1 _ rfl ?r2 ?r3 ?r4 ?_)
          case r1 => exact HI2.out _
          case r2 => simp
          case r3 => exact hlen
          case r4 => exact Nat.le_trans hbs (by simp)
          intro v4 w4 hi4 hb4
          rw [HTK.out] at hi4
          obtain ⟨a4, k4, rfl⟩ := hi4.sl
          have hl4 : (cs (B.reverse ++ List.range' F (q + 1))).length = j + (q + 1) := by rw [cs_len, List.length_append, List.length_reverse, List.length_range', hmz.out]
          rw [hl4] at hi4 ⊢
          have HI4 : Hid (IZ w4 w.heap.size (.slice a4 (j + (q + 1)) k4) (cs (B.reverse ++ List.range' F (q + 1)))) := hi4
          have HB4 : Hid (Below w.heap.size w w4) := (HBA.out _).trans hb4
          have HY4 : Hid (y + 1 = F + (q + 1)) := by show _ = _; rw [HY.out]; omega
          clear hi4 hb4 hl4 c0 hlen hbs
          go_wp2_with fail
          go_roundw
          case rel => exact ⟨q + 1, y + 1, a4, k4, rfl, by go_num, by omega, HY4, HI4, HB4⟩
          case measure => simp [intOf] <;> omega
        · have hqT : q = T := by have := HT.out; have := HY.out; omega
          have e2 : decide (y < n) = false := by simp; omega
          have HQ : Hid (P (.returned (.slice a (j + q) c)) wy) := by
            show P _ _
            rw [← HP.out]
            refine ⟨_, rfl, ?_, HB.out⟩
            have := HI.out
            rw [hqT] at this ⊢
            unfold freeL
            rw [HT.out]
            exact this
          clear hqT
          go_wp2
          first | exact HQ.out | (go_ret; exact HQ.out)
theorem AA.order {w : World} {ab ub : Nat} {n : Nat} {ob : Option Nat} {L : List Nat} (h : AA w ab ub ob n L) : Calls Try.prog 15 #[.pointer (some ⟨ab, 0, none⟩)] w (OrderQ w L) := by
  obtain ⟨bv, F, B, h, rfl, e2⟩ := h
  exact order_AR w h
end Go.Proofs.Ytdohclnmcdempaa
