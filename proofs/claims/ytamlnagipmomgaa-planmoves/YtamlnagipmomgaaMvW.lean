/- PlanMoves: a loop whose ends are moved: the law's walk. -/
import Derived.Test.YtamlnagipmomgaaPl6
import Derived.Deep.RegionHeld3
import Derived.Laws.Rows
namespace Go.Proofs.Ytamlnagipmomgaa
open Go.RowKit
set_option linter.unusedVariables false

theorem SH.new2 (w : World) (A : Obj) (k lo hi st it sg : Int) : SH ((w.alloc A).alloc (.cells #[.int .i64 k, .int .i64 lo, .int .i64 hi, .int .i64 st, .int .i64 it, .int .i64 sg] 24)) (w.heap.size + 1) k lo hi st it sg := by
  have e : (w.alloc A).heap.size = w.heap.size + 1 := by simp
  rw [← e]; exact SH.new _ k lo hi st it sg
theorem for_moved (lo hi st d : Int) : forN (lo + d) (hi + d) st = forN lo hi st := by
  have e1 : leadsB (lo + d) (hi + d) st = leadsB lo hi st := by unfold leadsB; split <;> (congr 1; apply propext; omega)
  have e2 : wayI (lo + d) (hi + d) st = wayI lo hi st := by unfold wayI; split <;> congr 1 <;> omega
  unfold forN
  rw [e1, e2]
theorem count_moved (lo hi st it sg d : Int) : countI 1 (lo + d) (hi + d) st it sg = countI 1 lo hi st it sg := by
  unfold countI countF
  rw [for_moved, if_pos rfl, if_pos rfl]
theorem at_moved (lo hi st it sg d age : Int) : atI 1 (lo + d) (hi + d) st it sg age = if (atI 1 lo hi st it sg age).2.2 = 0 then ((atI 1 lo hi st it sg age).1 + d, (atI 1 lo hi st it sg age).2) else atI 1 lo hi st it sg age := by
  unfold atI
  rw [count_moved]
  by_cases h1 : (countI 1 lo hi st it sg).2 ≠ 0
  · rw [if_pos h1, if_pos h1, if_neg h1]
  · rw [if_neg h1, if_neg h1]
    by_cases h2 : age < 0 ∨ (countI 1 lo hi st it sg).1 ≤ age
    · rw [if_pos h2, if_pos h2, if_neg (by simp)]
    · rw [if_neg h2, if_neg h2, if_neg (show ¬ ((1 : Int) = 2) by omega), if_neg (show ¬ ((1 : Int) = 2) by omega), if_pos rfl]
      show (_, _) = (_, _)
      congr 1
      omega

set_option maxRecDepth 100000 in
set_option maxHeartbeats 4000000 in
theorem moves_walk (k lo hi st it sg d age : Int) (b0 : R64 lo) (b1 : R64 hi) (b2 : R64 st) (b3 : R64 d) (w : World) : Calls Try.prog 7 #[shV k lo hi st it sg, .int .i64 d, .int .i64 age] w fun e w' => e = .returned (.bool true) ∧ Below w.heap.size w w' := by
  have HL : Hid (∀ w, Calls Try.prog 12 #[] w fun e w' => e = .returned (.bool true) ∧ Below w.heap.size w w') := alive_any
  by_cases h : k = 1 ∧ -1099511627776 ≤ lo ∧ lo ≤ 1099511627776 ∧ -1099511627776 ≤ hi ∧ hi ≤ 1099511627776 ∧ -1099511627776 ≤ d ∧ d ≤ 1099511627776
  · obtain ⟨rfl, l1, l2, l3, l4, l5, l6⟩ := h
    have c0 : R64 (lo + d) := ⟨by omega, by omega⟩
    have c1 : R64 (hi + d) := ⟨by omega, by omega⟩
    have HC : Hid (∀ w, Calls Try.prog 9 #[shV 1 lo hi st it sg] w fun e w' => e = .returned (two (countI 1 lo hi st it sg)) ∧ Below w.heap.size w w') := count_any 1 lo hi st it sg b0 b1 b2
    have HD : Hid (∀ w, Calls Try.prog 9 #[shV 1 (lo + d) (hi + d) st it sg] w fun e w' => e = .returned (two (countI 1 lo hi st it sg)) ∧ Below w.heap.size w w') := by have := count_any 1 (lo + d) (hi + d) st it sg c0 c1 b2; rw [count_moved] at this; exact this
    have HA : Hid (∀ w, Calls Try.prog 13 #[shV 1 lo hi st it sg, .int .i64 age] w fun e w' => e = .returned (three (atI 1 lo hi st it sg age)) ∧ Below w.heap.size w w') := at_any 1 lo hi st it sg age b0 b1 b2
    have HE : Hid (∀ w, Calls Try.prog 13 #[shV 1 (lo + d) (hi + d) st it sg, .int .i64 age] w fun e w' => e = .returned (three (if (atI 1 lo hi st it sg age).2.2 = 0 then ((atI 1 lo hi st it sg age).1 + d, (atI 1 lo hi st it sg age).2) else atI 1 lo hi st it sg age)) ∧ Below w.heap.size w w') := by have := at_any 1 (lo + d) (hi + d) st it sg age c0 c1 b2; rw [at_moved] at this; exact this
    have hr : (atI 1 lo hi st it sg age).2.2 = 0 → R64 ((atI 1 lo hi st it sg age).1 + d) := by
      intro h0
      have h1 := at_moved lo hi st it sg d age
      rw [if_pos h0] at h1
      have hs : ∀ x : Int × Int × Int, x = atI 1 (lo + d) (hi + d) st it sg age → x.2.2 = 0 → R64 x.1 := by
        rintro x rfl hx
        unfold atI at *
        split at hx
        · rename_i q; exact absurd hx q
        · rename_i q
          split at hx
          · simp at hx
          · rename_i q2
            rw [if_neg q, if_neg q2, if_neg (by omega)]
            obtain ⟨_, _, _, q3, _, q5⟩ := count_for (k := 1) (by omega) (show (countI 1 (lo + d) (hi + d) st it sg).2 = 0 by omega)
            exact at_bd (lo + d) (hi + d) st age c0 c1 b2 q3 (by omega) (by omega)
      have := hs _ h1.symm h0
      exact this
    unfold shV two three at *
    generalize countI 1 lo hi st it sg = C at *
    generalize atI 1 lo hi st it sg age = A at *
    obtain ⟨n, e0⟩ := C
    obtain ⟨i, j, f⟩ := A
    simp only [] at HC HD HA HE hr
    have wl : wrap64 (lo + d) = lo + d := w64in _ c0
    have wh : wrap64 (hi + d) = hi + d := w64in _ c1
    have vl : IntKind.i64.wrap (lo + d) = lo + d := i64_wrap _ c0
    have vh : IntKind.i64.wrap (hi + d) = hi + d := i64_wrap _ c1
    clear b0 b1 b2 b3 c0 c1
    obtain ⟨LO, hLO⟩ : ∃ x, lo + d = x := ⟨_, rfl⟩
    obtain ⟨HI, hHI⟩ : ∃ x, hi + d = x := ⟨_, rfl⟩
    rw [hLO] at HD HE
    rw [hHI] at HD HE
    rw [hLO] at wl
    rw [hHI] at wh
    have wl : wrap64 (lo + d) = LO := by rw [hLO]; exact wl
    have wh : wrap64 (hi + d) = HI := by rw [hHI]; exact wh
    have HLO : Hid (IntKind.i64.wrap (lo + d) = LO) := by show _ = _; rw [vl, hLO]
    have HHI : Hid (IntKind.i64.wrap (hi + d) = HI) := by show _ = _; rw [vh, hHI]
    clear hLO hHI vl vh
    have d1 : decide (lo < -1099511627776) = false := by simp; omega
    have d2 : decide (1099511627776 < lo) = false := by simp; omega
    have d3 : decide (hi < -1099511627776) = false := by simp; omega
    have d4 : decide (1099511627776 < hi) = false := by simp; omega
    have d5 : decide (d < -1099511627776) = false := by simp; omega
    have d6 : decide (1099511627776 < d) = false := by simp; omega
    clear l1 l2 l3 l4 l5 l6
    have S1 : Hid (SH ((w.alloc (.cells #[.int .i64 1, .int .i64 lo, .int .i64 hi, .int .i64 st, .int .i64 it, .int .i64 sg] 24)).alloc (.cells #[.int .i64 1, .int .i64 lo, .int .i64 hi, .int .i64 st, .int .i64 it, .int .i64 sg] 24)) w.heap.size 1 lo hi st it sg) := (SH.new w 1 lo hi st it sg).below (bl1 _ _)
    have S2 : Hid (SH ((w.alloc (.cells #[.int .i64 1, .int .i64 lo, .int .i64 hi, .int .i64 st, .int .i64 it, .int .i64 sg] 24)).alloc (.cells #[.int .i64 1, .int .i64 lo, .int .i64 hi, .int .i64 st, .int .i64 it, .int .i64 sg] 24)) (w.heap.size + 1) 1 lo hi st it sg) := SH.new2 w _ 1 lo hi st it sg
    have BU : Hid (Below w.heap.size w ((w.alloc (.cells #[.int .i64 1, .int .i64 lo, .int .i64 hi, .int .i64 st, .int .i64 it, .int .i64 sg] 24)).alloc (.cells #[.int .i64 1, .int .i64 lo, .int .i64 hi, .int .i64 st, .int .i64 it, .int .i64 sg] 24))) := (bl1 w _).trans ((bl1 _ _).mono (bl1 w _).size)
    go_enter Try.func7, Try.ntmps7
    go_wp2_with fail
    generalize ((w.alloc (.cells #[.int .i64 1, .int .i64 lo, .int .i64 hi, .int .i64 st, .int .i64 it, .int .i64 sg] 24)).alloc (.cells #[.int .i64 1, .int .i64 lo, .int .i64 hi, .int .i64 st, .int .i64 it, .int .i64 sg] 24)) = U at *
    obtain ⟨g, hg⟩ : ∃ g, w.heap.size = g := ⟨_, rfl⟩
    have HG : Hid (w.heap.size = g) := hg
    rw [hg] at S1 S2
    rw [hg]
    clear hg
    have HKK : Hid (∀ x y, (U.setCell ⟨g + 1, x, none⟩ y).cell? ⟨g, 1, none⟩ = some (.int .i64 lo) ∧ (U.setCell ⟨g + 1, x, none⟩ y).cell? ⟨g, 2, none⟩ = some (.int .i64 hi)) := by
      intro x y
      have e := fun i => World.cell?_of_block (w := U) (w' := U.setCell ⟨g + 1, x, none⟩ y) (a := ⟨g, i, none⟩) (Below.heap_setCell _ _ _ _ (show g ≠ g + 1 by omega))
      rw [e 1, e 2]
      exact ⟨S1.out.all.2.1, S1.out.all.2.2.1⟩
    obtain ⟨c1, c2⟩ : U.cell? ⟨g, 1, none⟩ = some (.int .i64 lo) ∧ U.cell? ⟨g, 2, none⟩ = some (.int .i64 hi) := ⟨S1.out.all.2.1, S1.out.all.2.2.1⟩
    have c3 : U.cell? ⟨g + 1, 1, none⟩ = some (.int .i64 lo) := S2.out.all.2.1
    have c4 : U.cell? ⟨g + 1, 2, none⟩ = some (.int .i64 hi) := S2.out.all.2.2.1
    have f3 : U.frozen? ⟨g + 1, 1, none⟩ = false := frozen_of_row U (g + 1) 1 _ _ S2.out
    have f4 : U.frozen? ⟨g + 1, 2, none⟩ = false := frozen_of_row U (g + 1) 2 _ _ S2.out
    go_region_held3 (fun w' => w'.cell? ⟨g, 1, none⟩ = some (.int .i64 lo) ∧ w'.cell? ⟨g, 2, none⟩ = some (.int .i64 hi)) (first | exact (HKK.out _ _) | assumption | go_keep) (fail)
    rw [HLO.out, HHI.out]
    rename_i hHeld
    clear hHeld c1 c2 c3 c4 f3 f4 HKK
    have X1 : Hid (SH ((U.setCell ⟨g + 1, 1, none⟩ (.int .i64 LO)).setCell ⟨g + 1, 2, none⟩ (.int .i64 HI)).drew g 1 lo hi st it sg) :=
      ((Below.heap_setCell _ _ _ _ (show g ≠ g + 1 by omega)).trans (Below.heap_setCell _ _ _ _ (show g ≠ g + 1 by omega))).trans S1.out
    have X2 : Hid (SH ((U.setCell ⟨g + 1, 1, none⟩ (.int .i64 LO)).setCell ⟨g + 1, 2, none⟩ (.int .i64 HI)).drew (g + 1) 1 LO HI st it sg) := by
      show ((U.setCell ⟨g + 1, 1, none⟩ (.int .i64 LO)).setCell ⟨g + 1, 2, none⟩ (.int .i64 HI)).heap[g + 1]? = _
      have e1 := heap_setCell_same U (g + 1) 1 _ 24 (.int .i64 LO) S2.out
      rw [heap_setCell_same _ (g + 1) 2 _ 24 (.int .i64 HI) e1]
      rfl
    have BV : Hid (Below g w ((U.setCell ⟨g + 1, 1, none⟩ (.int .i64 LO)).setCell ⟨g + 1, 2, none⟩ (.int .i64 HI)).drew) := by
      have := HG.out
      exact (((by rw [← this]; exact BU.out : Below g w U).setCell (p := ⟨g + 1, 1, none⟩) (show g ≤ g + 1 by omega) _).setCell (p := ⟨g + 1, 2, none⟩) (show g ≤ g + 1 by omega) _).drew
    generalize ((U.setCell ⟨g + 1, 1, none⟩ (.int .i64 LO)).setCell ⟨g + 1, 2, none⟩ (.int .i64 HI)).drew = V at *
    obtain ⟨q0, q1, q2, q3, q4, q5⟩ := X1.out.all
    clear S1 S2 BU HLO HHI wl wh
    by_cases hf : f = 0
    · subst hf
      rw [if_pos rfl] at HE
      simp only [] at HE
      have wi : wrap64 (i + d) = i + d := w64in _ (hr rfl)
      clear hr
      go_wp2_with fail
      refine (HC.out _).mono ?_
      rintro e w4 ⟨rfl, b4⟩
      have B4 : Hid (Below g w w4) := BV.out.trans (b4.mono (Nat.le_trans (by rw [← HG.out]; exact Nat.le_refl _) BV.out.size))
      have X4 : Hid (SH w4 g 1 lo hi st it sg) := X1.out.below b4
      have Y4 : Hid (SH w4 (g + 1) 1 LO HI st it sg) := X2.out.below b4
      clear b4
      clear q0 q1 q2 q3 q4 q5
      obtain ⟨q0, q1, q2, q3, q4, q5⟩ := Y4.out.all
      go_wp2_with fail
      refine (HD.out _).mono ?_
      rintro e w5 ⟨rfl, b5⟩
      have B5 : Hid (Below g w w5) := B4.out.trans (b5.mono (Nat.le_trans (by rw [← HG.out]; exact Nat.le_refl _) B4.out.size))
      have X5 : Hid (SH w5 g 1 lo hi st it sg) := X4.out.below b5
      have Y5 : Hid (SH w5 (g + 1) 1 LO HI st it sg) := Y4.out.below b5
      clear b5
      clear q0 q1 q2 q3 q4 q5
      obtain ⟨q0, q1, q2, q3, q4, q5⟩ := X5.out.all
      go_wp2_with fail
      refine (HA.out _).mono ?_
      rintro e w6 ⟨rfl, b6⟩
      have B6 : Hid (Below g w w6) := B5.out.trans (b6.mono (Nat.le_trans (by rw [← HG.out]; exact Nat.le_refl _) B5.out.size))
      have X6 : Hid (SH w6 g 1 lo hi st it sg) := X5.out.below b6
      have Y6 : Hid (SH w6 (g + 1) 1 LO HI st it sg) := Y5.out.below b6
      clear b6
      clear q0 q1 q2 q3 q4 q5
      obtain ⟨q0, q1, q2, q3, q4, q5⟩ := Y6.out.all
      go_wp2_with fail
      refine (HE.out _).mono ?_
      rintro e w7 ⟨rfl, b7⟩
      have B7 : Hid (Below g w w7) := B6.out.trans (b7.mono (Nat.le_trans (by rw [← HG.out]; exact Nat.le_refl _) B6.out.size))
      have X7 : Hid (SH w7 g 1 lo hi st it sg) := X6.out.below b7
      have Y7 : Hid (SH w7 (g + 1) 1 LO HI st it sg) := Y6.out.below b7
      clear b7
      clear q0 q1 q2 q3 q4 q5
      obtain ⟨q0, q1, q2, q3, q4, q5⟩ := X7.out.all
      go_wp2_with fail
      refine (HL.out _).mono ?_
      rintro e w8 ⟨rfl, b8⟩
      have B8 : Hid (Below g w w8) := B7.out.trans (b8.mono (Nat.le_trans (by rw [← HG.out]; exact Nat.le_refl _) B7.out.size))
      clear b8
      go_wp2
      go_ret
      exact ⟨rfl, by first | exact B8.out | (rw [HG.out]; exact B8.out)⟩
    · rw [if_neg hf] at HE
      simp only [] at HE
      clear hr
      go_wp2_with fail
      refine (HC.out _).mono ?_
      rintro e w4 ⟨rfl, b4⟩
      have B4 : Hid (Below g w w4) := BV.out.trans (b4.mono (Nat.le_trans (by rw [← HG.out]; exact Nat.le_refl _) BV.out.size))
      have X4 : Hid (SH w4 g 1 lo hi st it sg) := X1.out.below b4
      have Y4 : Hid (SH w4 (g + 1) 1 LO HI st it sg) := X2.out.below b4
      clear b4
      clear q0 q1 q2 q3 q4 q5
      obtain ⟨q0, q1, q2, q3, q4, q5⟩ := Y4.out.all
      go_wp2_with fail
      refine (HD.out _).mono ?_
      rintro e w5 ⟨rfl, b5⟩
      have B5 : Hid (Below g w w5) := B4.out.trans (b5.mono (Nat.le_trans (by rw [← HG.out]; exact Nat.le_refl _) B4.out.size))
      have X5 : Hid (SH w5 g 1 lo hi st it sg) := X4.out.below b5
      have Y5 : Hid (SH w5 (g + 1) 1 LO HI st it sg) := Y4.out.below b5
      clear b5
      clear q0 q1 q2 q3 q4 q5
      obtain ⟨q0, q1, q2, q3, q4, q5⟩ := X5.out.all
      go_wp2_with fail
      refine (HA.out _).mono ?_
      rintro e w6 ⟨rfl, b6⟩
      have B6 : Hid (Below g w w6) := B5.out.trans (b6.mono (Nat.le_trans (by rw [← HG.out]; exact Nat.le_refl _) B5.out.size))
      have X6 : Hid (SH w6 g 1 lo hi st it sg) := X5.out.below b6
      have Y6 : Hid (SH w6 (g + 1) 1 LO HI st it sg) := Y5.out.below b6
      clear b6
      clear q0 q1 q2 q3 q4 q5
      obtain ⟨q0, q1, q2, q3, q4, q5⟩ := Y6.out.all
      go_wp2_with fail
      refine (HE.out _).mono ?_
      rintro e w7 ⟨rfl, b7⟩
      have B7 : Hid (Below g w w7) := B6.out.trans (b7.mono (Nat.le_trans (by rw [← HG.out]; exact Nat.le_refl _) B6.out.size))
      have X7 : Hid (SH w7 g 1 lo hi st it sg) := X6.out.below b7
      have Y7 : Hid (SH w7 (g + 1) 1 LO HI st it sg) := Y6.out.below b7
      clear b7
      clear q0 q1 q2 q3 q4 q5
      obtain ⟨q0, q1, q2, q3, q4, q5⟩ := X7.out.all
      go_wp2_with fail
      refine (HL.out _).mono ?_
      rintro e w8 ⟨rfl, b8⟩
      have B8 : Hid (Below g w w8) := B7.out.trans (b8.mono (Nat.le_trans (by rw [← HG.out]; exact Nat.le_refl _) B7.out.size))
      clear b8
      go_wp2
      go_ret
      exact ⟨rfl, by first | exact B8.out | (rw [HG.out]; exact B8.out)⟩
  · clear b0 b1 b2 b3
    unfold shV
    by_cases q0 : k = 1
    · by_cases q1 : lo < -1099511627776
      · clear h
        go_enter Try.func7, Try.ntmps7
        go_wp2_with fail
        refine (HL.out _).mono ?_
        rintro e w4 ⟨rfl, b4⟩
        have B4 : Hid (Below w.heap.size w w4) := (bl1 w _).trans (b4.mono (bl1 w _).size)
        clear b4
        go_wp2
        go_ret
        exact ⟨rfl, B4.out⟩
      by_cases q2 : 1099511627776 < lo
      · clear h
        go_enter Try.func7, Try.ntmps7
        go_wp2_with fail
        refine (HL.out _).mono ?_
        rintro e w4 ⟨rfl, b4⟩
        have B4 : Hid (Below w.heap.size w w4) := (bl1 w _).trans (b4.mono (bl1 w _).size)
        clear b4
        go_wp2
        go_ret
        exact ⟨rfl, B4.out⟩
      by_cases q3 : hi < -1099511627776
      · clear h
        go_enter Try.func7, Try.ntmps7
        go_wp2_with fail
        refine (HL.out _).mono ?_
        rintro e w4 ⟨rfl, b4⟩
        have B4 : Hid (Below w.heap.size w w4) := (bl1 w _).trans (b4.mono (bl1 w _).size)
        clear b4
        go_wp2
        go_ret
        exact ⟨rfl, B4.out⟩
      by_cases q4 : 1099511627776 < hi
      · clear h
        go_enter Try.func7, Try.ntmps7
        go_wp2_with fail
        refine (HL.out _).mono ?_
        rintro e w4 ⟨rfl, b4⟩
        have B4 : Hid (Below w.heap.size w w4) := (bl1 w _).trans (b4.mono (bl1 w _).size)
        clear b4
        go_wp2
        go_ret
        exact ⟨rfl, B4.out⟩
      by_cases q5 : d < -1099511627776
      · clear h
        go_enter Try.func7, Try.ntmps7
        go_wp2_with fail
        refine (HL.out _).mono ?_
        rintro e w4 ⟨rfl, b4⟩
        have B4 : Hid (Below w.heap.size w w4) := (bl1 w _).trans (b4.mono (bl1 w _).size)
        clear b4
        go_wp2
        go_ret
        exact ⟨rfl, B4.out⟩
      by_cases q6 : 1099511627776 < d
      · clear h
        go_enter Try.func7, Try.ntmps7
        go_wp2_with fail
        refine (HL.out _).mono ?_
        rintro e w4 ⟨rfl, b4⟩
        have B4 : Hid (Below w.heap.size w w4) := (bl1 w _).trans (b4.mono (bl1 w _).size)
        clear b4
        go_wp2
        go_ret
        exact ⟨rfl, B4.out⟩
      · exact absurd ⟨q0, by omega, by omega, by omega, by omega, by omega, by omega⟩ h
    · clear h
      go_enter Try.func7, Try.ntmps7
      go_wp2_with fail
      refine (HL.out _).mono ?_
      rintro e w4 ⟨rfl, b4⟩
      have B4 : Hid (Below w.heap.size w w4) := (bl1 w _).trans (b4.mono (bl1 w _).size)
      clear b4
      go_wp2
      go_ret
      exact ⟨rfl, B4.out⟩
end Go.Proofs.Ytamlnagipmomgaa
