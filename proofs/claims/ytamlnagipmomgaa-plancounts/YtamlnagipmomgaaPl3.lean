/- Plans: how many tasks a loop has. -/
import Derived.Test.YtamlnagipmomgaaPl2
namespace Go.Proofs.Ytamlnagipmomgaa
open Go.RowKit
set_option linter.unusedVariables false

/-- a shape in a block of its own -/
def SH (w : World) (g : Nat) (k lo hi st it sg : Int) : Prop := w.heap[g]? = some (.cells #[.int .i64 k, .int .i64 lo, .int .i64 hi, .int .i64 st, .int .i64 it, .int .i64 sg] 24)
theorem SH.new (w : World) (k lo hi st it sg : Int) : SH (w.alloc (.cells #[.int .i64 k, .int .i64 lo, .int .i64 hi, .int .i64 st, .int .i64 it, .int .i64 sg] 24)) w.heap.size k lo hi st it sg := by
  unfold SH; show (w.heap.push _)[w.heap.size]? = _; exact Array.getElem?_push_size
theorem SH.below {w w' : World} {g : Nat} {k lo hi st it sg : Int} (h : SH w g k lo hi st it sg) (b : Below w.heap.size w w') : SH w' g k lo hi st it sg :=
  (b.block _ (Array.getElem?_eq_some_iff.1 h).1).trans h
theorem SH.all {w : World} {g : Nat} {k lo hi st it sg : Int} (h : SH w g k lo hi st it sg) : w.cell? ⟨g, 0, none⟩ = some (.int .i64 k) ∧ w.cell? ⟨g, 1, none⟩ = some (.int .i64 lo) ∧ w.cell? ⟨g, 2, none⟩ = some (.int .i64 hi) ∧ w.cell? ⟨g, 3, none⟩ = some (.int .i64 st) ∧ w.cell? ⟨g, 4, none⟩ = some (.int .i64 it) ∧ w.cell? ⟨g, 5, none⟩ = some (.int .i64 sg) := by
  unfold SH at h
  refine ⟨?_, ?_, ?_, ?_, ?_, ?_⟩ <;> (simp [World.cell?, h])

set_option maxRecDepth 100000 in
set_option maxHeartbeats 2000000 in
theorem countFor_any (k lo hi st it sg : Int) (w : World) (b0 : R64 lo) (b1 : R64 hi) (b2 : R64 st) : Calls Try.prog 23 #[shV k lo hi st it sg] w fun e w' => e = .returned (two (countF lo hi st it sg)) ∧ Below w.heap.size w w' := by
  have HS : Hid (∀ w, Calls Try.prog 31 #[shV k lo hi st it sg] w fun e w' => e = .returned (.bool (leadsB lo hi st)) ∧ Below w.heap.size w w') := leads_any k lo hi st it sg
  have HT : st ≠ 0 → Hid (∀ w, Calls Try.prog 32 #[shV k lo hi st it sg, .int .i64 hi] w fun e w' => e = .returned (.tuple #[.int .u64 (wayI lo hi st / wideI st), .int .u64 (wayI lo hi st % wideI st)]) ∧ Below w.heap.size w w') := fun h => fun w => strides_any k lo hi st it sg hi w b0 b1 b2 h
  unfold shV at *
  by_cases h1 : it = 0
  · by_cases h2 : sg = 0
    · by_cases h3 : st = 0
      · rw [two_eq (show countF lo hi st it sg = (0, 150) by simp [countF, h1, h2, h3])]
        clear HT b0 b1 b2
        go_enter Try.func23, Try.ntmps23
        go_wp2
        go_ret2
        exact ⟨rfl, bl1 _ _⟩
      subst h1 h2
      have H2 := HT h3
      clear HT
      have hw := wide_bd st b2 h3
      have hy := way_bd lo hi st
      cases h4 : leadsB lo hi st with
      | false =>
        rw [two_eq (show countF lo hi st 0 0 = (0, 0) by simp [countF, h3, forN, h4])]
        rw [h4] at HS
        clear H2 b0 b1 b2 hw hy
        go_enter Try.func23, Try.ntmps23
        go_wp2_with fail
        refine (HS.out _).mono ?_
        rintro e w4 ⟨rfl, b4⟩
        have B4 : Hid (Below w.heap.size w w4) := (bl1 w _).trans (b4.mono (bl1 w _).size)
        clear b4
        go_wp2
        go_ret2
        exact ⟨rfl, B4.out⟩
      | true =>
        rw [h4] at HS
        have hr0 := Int.emod_nonneg (wayI lo hi st) (show wideI st ≠ 0 by omega)
        have hr1 := Int.emod_lt_of_pos (wayI lo hi st) hw.1
        have hq0 := Int.ediv_nonneg hy.1 (Int.le_of_lt hw.1)
        have hq1 := Int.ediv_le_self (wideI st) hy.1
        have hqr := Int.emod_add_mul_ediv (wayI lo hi st) (wideI st)
        have hc : countF lo hi st 0 0 = if 200 < forN lo hi st then (0, 151) else (forN lo hi st, 0) := by simp [countF, h3]
        have hf : forN lo hi st = wayI lo hi st / wideI st + (if 0 < wayI lo hi st % wideI st then 1 else 0) := by simp [forN, h4]
        rw [hf] at hc
        rw [hc]
        have hqx : 0 < wayI lo hi st % wideI st → wayI lo hi st / wideI st ≤ 9223372036854775808 := by
          intro hp
          have hW : 2 ≤ wideI st := by omega
          have := Int.mul_le_mul_of_nonneg_right hW hq0
          omega
        clear hc hf h4 hqr
        generalize wayI lo hi st / wideI st = Q at *
        generalize wayI lo hi st % wideI st = R at *
        clear hr1 hq1 hw hy b0 b1 b2
        by_cases h5 : 0 < R
        · have hW : IntKind.u64.wrap (Q + 1) = Q + 1 := by rw [u64_wrap]; have := hqx h5; omega
          rw [if_pos h5]
          clear hqx
          by_cases h6 : 200 < Q + 1
          · rw [if_pos h6]
            go_enter Try.func23, Try.ntmps23
            go_wp2_with fail
            refine (HS.out _).mono ?_
            rintro e w4 ⟨rfl, b4⟩
            have HX : Hid (SH w4 w.heap.size k lo hi st 0 0) := (SH.new w k lo hi st 0 0).below b4
            have B4 : Hid (Below w.heap.size w w4) := (bl1 w _).trans (b4.mono (bl1 w _).size)
            clear b4
            obtain ⟨c0, c1, c2, c3, c4, c5⟩ := HX.out.all
            go_wp2_with fail
            refine (H2.out _).mono ?_
            rintro e w5 ⟨rfl, b5⟩
            have B5 : Hid (Below w.heap.size w w5) := B4.out.trans (b5.mono B4.out.size)
            clear b5
            go_wp2
            go_ret2
            exact ⟨rfl, B5.out⟩
          · rw [if_neg h6]
            have hc6 : wrap64 (Q + 1) = Q + 1 := w64in _ ⟨by omega, by omega⟩
            go_enter Try.func23, Try.ntmps23
            go_wp2_with fail
            refine (HS.out _).mono ?_
            rintro e w4 ⟨rfl, b4⟩
            have HX : Hid (SH w4 w.heap.size k lo hi st 0 0) := (SH.new w k lo hi st 0 0).below b4
            have B4 : Hid (Below w.heap.size w w4) := (bl1 w _).trans (b4.mono (bl1 w _).size)
            clear b4
            obtain ⟨c0, c1, c2, c3, c4, c5⟩ := HX.out.all
            go_wp2_with fail
            refine (H2.out _).mono ?_
            rintro e w5 ⟨rfl, b5⟩
            have B5 : Hid (Below w.heap.size w w5) := B4.out.trans (b5.mono B4.out.size)
            clear b5
            go_wp2
            go_ret2
            exact ⟨rfl, B5.out⟩
        · rw [if_neg h5, Int.add_zero]
          by_cases h6 : 200 < Q
          · rw [if_pos (by omega)]
            go_enter Try.func23, Try.ntmps23
            go_wp2_with fail
            refine (HS.out _).mono ?_
            rintro e w4 ⟨rfl, b4⟩
            have HX : Hid (SH w4 w.heap.size k lo hi st 0 0) := (SH.new w k lo hi st 0 0).below b4
            have B4 : Hid (Below w.heap.size w w4) := (bl1 w _).trans (b4.mono (bl1 w _).size)
            clear b4
            obtain ⟨c0, c1, c2, c3, c4, c5⟩ := HX.out.all
            go_wp2_with fail
            refine (H2.out _).mono ?_
            rintro e w5 ⟨rfl, b5⟩
            have B5 : Hid (Below w.heap.size w w5) := B4.out.trans (b5.mono B4.out.size)
            clear b5
            go_wp2
            go_ret2
            exact ⟨rfl, B5.out⟩
          · rw [if_neg (by omega)]
            have hc6 : wrap64 Q = Q := w64in _ ⟨by omega, by omega⟩
            go_enter Try.func23, Try.ntmps23
            go_wp2_with fail
            refine (HS.out _).mono ?_
            rintro e w4 ⟨rfl, b4⟩
            have HX : Hid (SH w4 w.heap.size k lo hi st 0 0) := (SH.new w k lo hi st 0 0).below b4
            have B4 : Hid (Below w.heap.size w w4) := (bl1 w _).trans (b4.mono (bl1 w _).size)
            clear b4
            obtain ⟨c0, c1, c2, c3, c4, c5⟩ := HX.out.all
            go_wp2_with fail
            refine (H2.out _).mono ?_
            rintro e w5 ⟨rfl, b5⟩
            have B5 : Hid (Below w.heap.size w w5) := B4.out.trans (b5.mono B4.out.size)
            clear b5
            go_wp2
            go_ret2
            exact ⟨rfl, B5.out⟩
    · rw [two_eq (show countF lo hi st it sg = (0, 152) by simp [countF, h2])]
      clear HT b0 b1 b2
      go_enter Try.func23, Try.ntmps23
      go_wp2
      go_ret2
      exact ⟨rfl, bl1 _ _⟩
  · rw [two_eq (show countF lo hi st it sg = (0, 152) by simp [countF, h1])]
    clear HT b0 b1 b2
    go_enter Try.func23, Try.ntmps23
    go_wp2
    go_ret2
    exact ⟨rfl, bl1 _ _⟩
end Go.Proofs.Ytamlnagipmomgaa
