/- What an overlay is asked. -/
import Derived.Test.YtlcgoobjpnpfhaaMA
namespace Go.Proofs.Ytlcgoobjpnpfhaa
open Go.RowKit Go.Maps
set_option linter.unusedVariables false

/-- what lies over a place -/
def overO (S : List (Int × Int)) (k : Int) : Option Int := if withinB k 64 = true then lastC S k else none
def GetQ (S : List (Int × Int)) (k : Int) (w : World) (e : Ending) (w' : World) : Prop := e = .returned (.tuple #[.int .i64 ((overO S k).getD 0), .bool (overO S k).isSome]) ∧ Below w.heap.size w w'
set_option maxRecDepth 100000 in
set_option maxHeartbeats 2000000 in
theorem oget_any (ob : Nat) (S : List (Int × Int)) (k : Int) (w : World) (h : OV w ob S) : Calls Try.prog 21 #[.pointer (some ⟨ob, 0, none⟩), .int .i64 k] w (GetQ S k w) := by
  obtain ⟨P, hP⟩ : ∃ P, GetQ S k w = P := ⟨_, rfl⟩
  have HQ : Hid (GetQ S k w = P) := hP
  rw [hP]
  clear hP
  by_cases hw : withinB k 64 = true
  · obtain ⟨q, rfl⟩ : ∃ q : Nat, k = (q : Int) := ⟨k.toNat, by unfold withinB at hw; simp at hw; omega⟩
    have hq : q < 64 := by unfold withinB at hw; simp at hw; omega
    have hqi : (q : Int) < 64 := by omega
    have hq0 : (0 : Int) ≤ (q : Int) := by omega
    have c1 := h.word q hq
    have c2 := h.laid q hq
    have HF : Hid (P (.returned (.tuple #[.int .i64 ((lastC S (q : Int)).getD 0), .bool (lastC S (q : Int)).isSome])) w.drew) := by
      show P _ _
      rw [← HQ.out]
      unfold GetQ overO
      rw [if_pos hw]
      exact ⟨rfl, (Below.refl _ _).drew⟩
    generalize (lastC S (q : Int)).getD 0 = old at *
    generalize (lastC S (q : Int)).isSome = oldb at *
    clear h
    go_enter Try.func21, Try.ntmps21
    go_wp2_with (first | (go_at_call 34; refine (within_any _ _ _).mono ?_; rintro e w4 ⟨rfl, hw4⟩; rw [hw4, hw]; clear hw4 w4) | fail)
    refine wp_region_still_lit (by kernel_rfl) (by kernel_rfl) ?_
    repeat still_step
    refine wpStill_nil ?_
    go_wp2
    first | exact HF.out | (go_ret2; exact HF.out)
  · have er : withinB k 64 = false := by simpa using hw
    have HF : Hid (P (.returned (.tuple #[.int .i64 0, .bool false])) w) := by
      show P _ _
      rw [← HQ.out]
      unfold GetQ overO
      rw [if_neg hw]
      exact ⟨rfl, Below.refl _ _⟩
    clear h
    go_enter Try.func21, Try.ntmps21
    go_wp2_with (first | (go_at_call 34; refine (within_any _ _ _).mono ?_; rintro e w4 ⟨rfl, hw4⟩; rw [hw4, er]; clear hw4 w4) | fail)
    first | exact HF.out | (go_ret2; exact HF.out)
set_option maxRecDepth 100000 in
set_option maxHeartbeats 2000000 in
theorem rover_any (S : List (Int × Int)) (v : Value) (k : Int) (hl : S.length ≤ 100000) (w : World) (hv : PSl w v S) : Calls Try.prog 22 #[v, .int .i64 k] w (GetQ S k w) := by
  have HL : Hid (Calls Try.prog 35 #[v, .int .i64 k] w fun e w' => e = .returned (.tuple #[.int .i64 ((lastC S k).getD 0), .bool (lastC S k).isSome]) ∧ w' = w) := last_any S v k hl w hv
  obtain ⟨a, c, _, _, rfl, _⟩ := hv
  obtain ⟨P, hP⟩ : ∃ P, GetQ S k w = P := ⟨_, rfl⟩
  have HQ : Hid (GetQ S k w = P) := hP
  rw [hP]
  clear hP
  by_cases h1 : k < 0
  · have e1 : decide (k < 0) = true := by simp [h1]
    have HF : Hid (P (.returned (.tuple #[.int .i64 0, .bool false])) w) := by
      show P _ _
      rw [← HQ.out]
      unfold GetQ overO
      rw [if_neg (by unfold withinB; simp; omega)]
      exact ⟨rfl, Below.refl _ _⟩
    go_enter Try.func22, Try.ntmps22
    go_wp2
    first | exact HF.out | (go_ret2; exact HF.out)
  have e1 : decide (k < 0) = false := by simp; omega
  by_cases h2 : 64 ≤ k
  · have e2 : decide (64 ≤ k) = true := by simp [h2]
    have HF : Hid (P (.returned (.tuple #[.int .i64 0, .bool false])) w) := by
      show P _ _
      rw [← HQ.out]
      unfold GetQ overO
      rw [if_neg (by unfold withinB; simp; omega)]
      exact ⟨rfl, Below.refl _ _⟩
    go_enter Try.func22, Try.ntmps22
    go_wp2
    first | exact HF.out | (go_ret2; exact HF.out)
  have e2 : decide (64 ≤ k) = false := by simp; omega
  have HF : Hid (P (.returned (.tuple #[.int .i64 ((lastC S k).getD 0), .bool (lastC S k).isSome])) w) := by
    show P _ _
    rw [← HQ.out]
    unfold GetQ overO
    rw [if_pos (by unfold withinB; simp; omega)]
    exact ⟨rfl, Below.refl _ _⟩
  generalize (lastC S k).getD 0 = old at *
  generalize (lastC S k).isSome = oldb at *
  go_enter Try.func22, Try.ntmps22
  go_wp2_with fail
  refine HL.out.mono ?_
  rintro e w4 ⟨rfl, hw4⟩
  rw [hw4]
  clear hw4 w4
  go_wp2
  first | exact HF.out | (go_ret2; exact HF.out)

def allX (S : List (Int × Int)) (i : Nat) : List (Int × Int) := match lastC S (i : Int) with
  | some v => [((i : Int), v)]
  | none => []
def allQ (S : List (Int × Int)) (q : Nat) : List (Int × Int) := (List.range q).flatMap (allX S)
def allL (S : List (Int × Int)) : List (Int × Int) := allQ S 64
theorem allQ_succ (S : List (Int × Int)) (q : Nat) : allQ S (q + 1) = allQ S q ++ allX S q := by simp [allQ, List.range_succ]
theorem allQ_len (S : List (Int × Int)) (q : Nat) : (allQ S q).length ≤ q := by
  induction q with
  | zero => simp [allQ]
  | succ q ih =>
    rw [allQ_succ, List.length_append]
    have : (allX S q).length ≤ 1 := by unfold allX; split <;> simp
    omega
theorem idx40 (l : List Bool) (hl : l.length = 64) (q : Nat) (hq : q < 64) (w : World) : (Instr.index 40 (.agg (bools l)) (.int .i64 (q : Int))).run Try.prog w = .ok (.bool (l[q]'(by omega))) w := by
  have h1 := bools_at l q (by omega)
  simp [Instr.index, go_sem, h1]
  intro h; omega
theorem size40 : (Try.prog.info? 40).map (·.size) = some 64 := by kernel_rfl
theorem OV.rng {w : World} {ob : Nat} {S : List (Int × Int)} (h : OV w ob S) : w.rangeAt ob 64 ((toldM S).map Value.bool) := fun j v hv => by
  have hj : j < 64 := by have := (List.getElem?_eq_some_iff.1 hv).1; simpa [toldM_len] using this
  rw [h.laid j hj]
  simp [toldM, hj] at hv
  rw [hv]
end Go.Proofs.Ytlcgoobjpnpfhaa
