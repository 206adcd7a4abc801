/- Plans: how far a loop leads, and how many strides. -/
import Derived.Test.YtamlnagipmomgaaProg
import Derived.Below
import Derived.WalkKit
import Derived.WalkSpells
import Derived.WalkLawsBesides
import Derived.Handy
import Derived.Deep.QuietTactic
import Derived.BigQuiet
namespace Go.Proofs.Ytamlnagipmomgaa
open Go.RowKit
set_option linter.unusedVariables false

theorem u64_wrap (z : Int) : IntKind.u64.wrap z = z % 18446744073709551616 := by
  simp [IntKind.wrap, IntKind.bits, IntKind.signed]
theorem i64_wrap (z : Int) (h : -9223372036854775808 ≤ z ∧ z ≤ 9223372036854775807) : IntKind.i64.wrap z = z := by
  simp [IntKind.wrap, IntKind.bits, IntKind.signed]; omega
theorem Below.dN {B : Nat} {a w : World} (h : Below B a w) (n : Nat) : Below B a (w.drewN n) := ⟨h.os, h.tape, h.output, h.size, h.block⟩
theorem bl1 (w : World) (A : Obj) : Below w.heap.size w (w.alloc A) := (Below.refl _ w).alloc (Nat.le_refl _) A
theorem bl2 (w : World) (A : Obj) (n : Nat) : Below w.heap.size w ((w.alloc A).drewN n) := Below.dN (bl1 w A) n
theorem bl3 (w : World) (A : Obj) (n m : Nat) : Below w.heap.size w (((w.alloc A).drewN n).drewN m) := Below.dN (bl2 w A n) m

/-- a shape as a value -/
def shV (k lo hi st it sg : Int) : Value := .agg #[.int .i64 k, .int .i64 lo, .int .i64 hi, .int .i64 st, .int .i64 it, .int .i64 sg]
def R64 (z : Int) : Prop := -9223372036854775808 ≤ z ∧ z ≤ 9223372036854775807
def leadsB (lo hi st : Int) : Bool := if st < 0 then decide (hi < lo) else decide (lo < hi)
def wayI (lo to st : Int) : Int := if st < 0 then (lo - to) % 18446744073709551616 else (to - lo) % 18446744073709551616
def wideI (st : Int) : Int := if st < 0 then -st else st

set_option maxRecDepth 100000 in
set_option maxHeartbeats 1000000 in
theorem leads_any (k lo hi st it sg : Int) (w : World) : Calls Try.prog 31 #[shV k lo hi st it sg] w fun e w' => e = .returned (.bool (leadsB lo hi st)) ∧ Below w.heap.size w w' := by
  unfold shV
  go_enter Try.func31, Try.ntmps31
  go_wp2
  all_goals (go_ret; exact ⟨by (simp_all [leadsB]; try omega), bl1 _ _⟩)
theorem way_neg (lo to st : Int) (h : st < 0) : IntKind.u64.wrap (-IntKind.u64.wrap (IntKind.u64.wrap to - IntKind.u64.wrap lo)) = wayI lo to st := by
  simp only [u64_wrap, wayI, if_pos h]; omega
theorem way_pos (lo to st : Int) (h : ¬ st < 0) : IntKind.u64.wrap (IntKind.u64.wrap to - IntKind.u64.wrap lo) = wayI lo to st := by
  simp only [u64_wrap, wayI, if_neg h]; omega
theorem wide_neg (st : Int) (h2 : R64 st) (h : st < 0) : IntKind.u64.wrap (-IntKind.u64.wrap st) = wideI st := by
  unfold R64 at h2
  simp only [u64_wrap, wideI, if_pos h]; omega
theorem wide_pos (st : Int) (h2 : R64 st) (h : ¬ st < 0) : IntKind.u64.wrap st = wideI st := by
  unfold R64 at h2
  simp only [u64_wrap, wideI, if_neg h]; omega
theorem way_bd (lo to st : Int) : 0 ≤ wayI lo to st ∧ wayI lo to st < 18446744073709551616 := by unfold wayI; split <;> omega
theorem wide_bd (st : Int) (h2 : R64 st) (h : st ≠ 0) : 0 < wideI st ∧ wideI st ≤ 9223372036854775808 := by unfold wideI; unfold R64 at h2; split <;> omega
theorem quo_bd (a b : Int) (ha : 0 ≤ a ∧ a < 18446744073709551616) (hb : 0 < b) : IntKind.u64.wrap (Int.tdiv a b) = a / b ∧ Int.tmod a b = a % b := by
  rw [Int.tdiv_eq_ediv_of_nonneg ha.1, Int.tmod_eq_emod_of_nonneg ha.1, u64_wrap]
  have h1 := Int.emod_nonneg a (show b ≠ 0 by omega)
  have h3 := Int.ediv_nonneg ha.1 (Int.le_of_lt hb)
  have h4 := Int.ediv_le_self b ha.1
  have h5 : a % b ≤ a := by
    have := Int.emod_add_mul_ediv a b
    have := Int.mul_nonneg (Int.le_of_lt hb) h3
    omega
  omega
set_option maxRecDepth 100000 in
set_option maxHeartbeats 1000000 in
theorem strides_any (k lo hi st it sg to : Int) (w : World) (h0 : R64 lo) (h1 : R64 to) (h2 : R64 st) (h3 : st ≠ 0) : Calls Try.prog 32 #[shV k lo hi st it sg, .int .i64 to] w fun e w' => e = .returned (.tuple #[.int .u64 (wayI lo to st / wideI st), .int .u64 (wayI lo to st % wideI st)]) ∧ Below w.heap.size w w' := by
  have HQ : Hid (IntKind.u64.wrap (Int.tdiv (wayI lo to st) (wideI st)) = wayI lo to st / wideI st ∧ Int.tmod (wayI lo to st) (wideI st) = wayI lo to st % wideI st) := quo_bd _ _ (way_bd lo to st) (wide_bd st h2 h3).1
  have hw : wideI st ≠ 0 := by have := wide_bd st h2 h3; omega
  unfold shV
  by_cases h : st < 0
  · have E1 := way_neg lo to st h
    have E2 := wide_neg st h2 h
    obtain ⟨A, hA⟩ : ∃ A, wayI lo to st = A := ⟨_, rfl⟩
    obtain ⟨B, hB⟩ : ∃ B, wideI st = B := ⟨_, rfl⟩
    rw [hA, hB] at HQ
    rw [hA] at E1
    rw [hB] at E2 hw
    rw [hA, hB]
    clear h0 h1 h2 h3 hA hB
    go_enter Try.func32, Try.ntmps32
    go_wp2_with fail
    go_quiet (fail)
    go_wp2_with fail
    go_quiet (fail)
    go_wp2
    go_ret2
    exact ⟨by rw [HQ.out.1, HQ.out.2]; rfl, bl3 _ _ _ _⟩
  · have E1 := way_pos lo to st h
    have E2 := wide_pos st h2 h
    obtain ⟨A, hA⟩ : ∃ A, wayI lo to st = A := ⟨_, rfl⟩
    obtain ⟨B, hB⟩ : ∃ B, wideI st = B := ⟨_, rfl⟩
    rw [hA, hB] at HQ
    rw [hA] at E1
    rw [hB] at E2 hw
    rw [hA, hB]
    clear h0 h1 h2 h3 hA hB
    go_enter Try.func32, Try.ntmps32
    go_wp2_with fail
    go_quiet (fail)
    go_wp2_with fail
    go_quiet (fail)
    go_wp2
    go_ret2
    exact ⟨by rw [HQ.out.1, HQ.out.2]; rfl, bl3 _ _ _ _⟩
end Go.Proofs.Ytamlnagipmomgaa
