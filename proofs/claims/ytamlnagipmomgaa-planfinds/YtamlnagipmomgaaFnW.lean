/- PlanFinds: the law's walk. -/
import Derived.Test.YtamlnagipmomgaaPrE
namespace Go.Proofs.Ytamlnagipmomgaa
open Go.RowKit Go.Maps
set_option linter.unusedVariables false

set_option maxRecDepth 100000 in
set_option maxHeartbeats 4000000 in
theorem finds_walk (k lo hi st it sg ix j : Int) (b0 : R64 lo) (b1 : R64 hi) (b2 : R64 st) (b4 : R64 it) (b5 : R64 ix) (w : World) : Calls Try.prog 5 #[shV k lo hi st it sg, .int .i64 ix, .int .i64 j] w fun e w' => e = .returned (.bool true) ∧ Below w.heap.size w w' := by
  have HF : Hid (∀ w, Calls Try.prog 14 #[shV k lo hi st it sg, .int .i64 ix, .int .i64 j] w fun e w' => e = .returned (.int .i64 (findI k lo hi st it sg ix j)) ∧ Below w.heap.size w w') := find_any k lo hi st it sg ix j b0 b1 b2 b5
  have HC : Hid (∀ w, Calls Try.prog 9 #[shV k lo hi st it sg] w fun e w' => e = .returned (two (countI k lo hi st it sg)) ∧ Below w.heap.size w w') := count_any k lo hi st it sg b0 b1 b2
  have HL : Hid (∀ w, Calls Try.prog 12 #[] w fun e w' => e = .returned (.bool true) ∧ Below w.heap.size w w') := alive_any
  have HG : Hid (∀ w, Calls Try.prog 11 #[shV k lo hi st it sg] w fun e w' => e = .returned (.int .i64 (stagesI k sg)) ∧ Below w.heap.size w w') := stages_any k lo hi st it sg
  have HT : Hid (∀ w, Calls Try.prog 10 #[shV k lo hi st it sg] w fun e w' => ∃ v, e = .returned (.tuple #[v, .int .i64 (countI k lo hi st it sg).2]) ∧ PZ w' (w.heap.size + 1) v (tasksL k lo hi st it sg) ∧ Below w.heap.size w w') := tasks_any k lo hi st it sg b0 b1 b2 b4
  have HX : Hid (∀ w4, Below (w.heap.size + 1) (w.alloc (.cells #[.int .i64 k, .int .i64 lo, .int .i64 hi, .int .i64 st, .int .i64 it, .int .i64 sg] 24)) w4 → SH w4 w.heap.size k lo hi st it sg) := fun w4 b4 => (SH.new w k lo hi st it sg).below (by simpa using b4)
  have HLN : Hid ((tasksL k lo hi st it sg).length = (countI k lo hi st it sg).1.toNat) := tasksL_len k lo hi st it sg
  have HE : Hid (∀ z, At (tasksL k lo hi st it sg) (ix, j) 0 z → findI k lo hi st it sg ix j = z) := fun z hz => At.find b0 b1 b2 b5 hz
  have hcn : 0 ≤ (countI k lo hi st it sg).1 ∧ (countI k lo hi st it sg).1 ≤ 200 := by
    by_cases h : (countI k lo hi st it sg).2 = 0
    · exact count_bd b0 b1 b2 h
    · rw [count_err h]; exact ⟨Int.le_refl _, by omega⟩
  unfold shV two at *
  clear b0 b1 b2 b4 b5 HC HG
  obtain ⟨N, hN⟩ : ∃ N : Nat, (countI k lo hi st it sg).1 = (N : Int) := ⟨_, (Int.toNat_of_nonneg hcn.1).symm⟩
  have hN2 : N ≤ 200 := by omega
  rw [hN] at HLN
  rw [Int.toNat_natCast] at HLN
  generalize (countI k lo hi st it sg).2 = er at *
  generalize tasksL k lo hi st it sg = T at *
  generalize findI k lo hi st it sg ix j = F at *
  have hN1 : wrap64 ((N : Int) - 1) = (N : Int) - 1 := w64in _ ⟨by omega, by omega⟩
  clear hcn hN
  go_enter Try.func5, Try.ntmps5
  go_wp2_with fail
  refine (HT.out _).mono ?_
  rintro e w5 ⟨v, rfl, hz5, b5⟩
  have B5 : Hid (Below w.heap.size w w5) := (bl1 w _).trans (b5.mono (bl1 w _).size)
  have S5 : Hid (SH w5 w.heap.size k lo hi st it sg) := HX.out w5 (by simpa using b5)
  obtain ⟨c50, c51, c52, c53, c54, c55⟩ := S5.out.all
  obtain ⟨va, vc, hv5⟩ := hz5.sl
  rw [HLN.out] at hv5
  have Z5 : Hid (PSl w5 (.slice va N vc) T) := by rw [← hv5]; exact hz5.psl
  rw [hv5]
  clear b5 hz5 hv5
  go_wp2_with fail
  go_loopw [9, 10] (fun x a wr => ∃ (q : Nat) (z : Int), x = .int .i64 z ∧ a = .int .i64 ((q : Int) - 1) ∧ q ≤ N ∧ Hid (At T (ix, j) q z) ∧ wr = w5) (fun x a _ => (intOf a + 1).toNat)
  case atStart => exact ⟨N, -1, rfl, rfl, Nat.le_refl _, by have := At.top T (ix, j); rw [HLN.out] at this; exact this, rfl⟩
  case round =>
    obtain ⟨q, z, rfl, rfl, hq, HAT, hwr⟩ := hrel
    rw [hwr]
    clear hwr wr
    rcases Nat.eq_zero_or_pos q with h0 | h0
    · subst h0
      have e1 : decide (0 ≤ ((0 : Nat) : Int) - 1) = false := by simp
      have HFZ : Hid (F = z) := HE.out z HAT.out
      rw [HFZ.out] at HF
      go_wp2_with fail
      refine (HF.out _).mono ?_
      rintro e w6 ⟨rfl, b6⟩
      have B6 : Hid (Below w.heap.size w w6) := B5.out.trans (b6.mono B5.out.size)
      clear b6
      go_wp2_with fail
      refine (HL.out _).mono ?_
      rintro e w7 ⟨rfl, b7⟩
      have B7 : Hid (Below w.heap.size w w7) := B6.out.trans (b7.mono B6.out.size)
      clear b7
      go_wp2
      go_ret
      exact ⟨rfl, B7.out⟩
    · obtain ⟨m, rfl⟩ : ∃ m, q = m + 1 := ⟨q - 1, by omega⟩
      have em : ((m + 1 : Nat) : Int) - 1 = (m : Int) := by omega
      rw [em]
      have e1 : decide (0 ≤ (m : Int)) = true := by simp
      have hmT : m < T.length := by rw [HLN.out]; omega
      obtain ⟨va', vc', vb, vo, hve, _, _, hv1, hv2⟩ := Z5.out
      rw [HLN.out] at hve hv1
      injection hve with hve1 hve2 hve3
      have hva := hv1 (by omega)
      rw [← hve1] at hva
      subst hva
      obtain ⟨d1, d2⟩ := hv2 m hmT
      obtain ⟨t, ht⟩ : ∃ t, T[m] = t := ⟨_, rfl⟩
      have HTM : Hid (T[m] = t) := ht
      rw [ht] at d1 d2
      obtain ⟨x, y⟩ := t
      simp only [] at d1 d2
      rw [← Nat.add_assoc] at d2
      clear hv1 hv2 hve1 hve2 hve3 ht em
      have hm1 : wrap64 ((m : Int) - 1) = (m : Int) - 1 := w64in _ ⟨by omega, by omega⟩
      have hgd : ∀ (s t : Operand) (w' : World), (eqGuard .eql 36 s t (.agg #[.int .i64 x, .int .i64 y]) (.agg #[.int .i64 ix, .int .i64 j])).run Try.prog w' = .ok () w' := eqg36 x y ix j
      by_cases hxy : x = ix ∧ y = j
      · have hneq : ∀ w' : World, (binOp .eql 36 (.agg #[.int .i64 x, .int .i64 y]) (.agg #[.int .i64 ix, .int .i64 j])).run Try.prog w' = .ok (.bool true) w' := fun w' => by rw [eql_pr, hxy.1, hxy.2]; simp
        have HXY : Hid (x = ix ∧ y = j) := hxy
        clear hxy
        go_wp2_with fail
        go_roundw
        case rel => exact ⟨m, (m : Int), rfl, by go_num, by omega, At.hit hmT (by rw [HTM.out, HXY.out.1, HXY.out.2]), trivial⟩
        case measure => simp [intOf]
      · have hneq : ∀ w' : World, (binOp .eql 36 (.agg #[.int .i64 x, .int .i64 y]) (.agg #[.int .i64 ix, .int .i64 j])).run Try.prog w' = .ok (.bool false) w' := fun w' => by
          rw [eql_pr]
          by_cases h1 : x = ix <;> by_cases h2 : y = j <;> simp_all
        have HXY : Hid (¬ (x = ix ∧ y = j)) := hxy
        clear hxy
        go_wp2_with fail
        go_roundw
        case rel => exact ⟨m, z, rfl, by go_num, by omega, At.miss HAT.out hmT (by rw [HTM.out]; intro h; rw [Prod.mk.injEq] at h; exact HXY.out h), trivial⟩
        case measure => simp [intOf]
end Go.Proofs.Ytamlnagipmomgaa
