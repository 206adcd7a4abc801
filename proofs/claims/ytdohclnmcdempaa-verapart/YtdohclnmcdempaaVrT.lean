/- All of an age's versions go; a new store. -/
import Derived.Test.YtdohclnmcdempaaVrR
namespace Go.Proofs.Ytdohclnmcdempaa
open Go.RowKit Go.Maps
set_option linter.unusedVariables false

theorem SS.drop {w : World} {lab : Nat → Nat} {sb R W n : Nat} {K : Nat → Ch2} (h : SS w lab sb R W n K) (z a : Int) (ha : -9223372036854775808 ≤ a ∧ a ≤ 9223372036854775807) (hn : n < 1000000) : Calls Try.prog 27 #[.pointer (some ⟨sb, 0, none⟩), .int .i64 z, .int .i64 a] w (DropQ lab sb R W n K z a w) := by
  obtain ⟨ab, ub, hb, wb, mb, ob, L, H, C, cv, D, h, rfl⟩ := h
  cases hh : hasK (kf H C (wi W z)) a with
  | false => exact drop_no h z a hh
  | true =>
    by_cases hz : 0 ≤ z ∧ z < W
    · obtain ⟨i, rfl⟩ : ∃ i : Nat, z = (i : Int) := ⟨z.toNat, by omega⟩
      have hi : i < W := by omega
      rw [wi_in hi] at hh
      exact drop_has h i hi a ha hh hn
    · rw [wi_out hz] at hh
      have : kf H C W = [] := by unfold kf; rw [cc_out (by rw [h.ok.hC]; exact Nat.le_refl _)]; rfl
      rw [this] at hh
      simp [hasK] at hh
theorem SS.out {w : World} {lab : Nat → Nat} {sb R W n : Nat} {K : Nat → Ch2} (h : SS w lab sb R W n K) {i : Nat} (hi : W ≤ i) : K i = [] := by
  obtain ⟨ab, ub, hb, wb, mb, ob, L, H, C, cv, D, h, rfl⟩ := h
  unfold kf
  rw [cc_out (by rw [h.ok.hC]; exact hi)]; rfl
theorem SS.st {w : World} {lab : Nat → Nat} {sb R W n : Nat} {K : Nat → Ch2} (h : SS w lab sb R W n K) (i : Nat) : srt (K i) := by
  obtain ⟨ab, ub, hb, wb, mb, ob, L, H, C, cv, D, h, rfl⟩ := h
  exact h.ok.st i
theorem SS.ag {w : World} {lab : Nat → Nat} {sb R W n : Nat} {K : Nat → Ch2} (h : SS w lab sb R W n K) (i : Nat) : ∀ x ∈ K i, 0 ≤ x.1 ∧ x.1 ≤ 9223372036854775807 := by
  obtain ⟨ab, ub, hb, wb, mb, ob, L, H, C, cv, D, h, rfl⟩ := h
  exact h.ok.ag i
theorem SS.wW {w : World} {lab : Nat → Nat} {sb R W n : Nat} {K : Nat → Ch2} (h : SS w lab sb R W n K) : 1 ≤ W ∧ W ≤ 64 := by
  obtain ⟨ab, ub, hb, wb, mb, ob, L, H, C, cv, D, h, rfl⟩ := h
  exact h.wW
theorem SS.mono {w : World} {lab : Nat → Nat} {sb R W n n' : Nat} {K : Nat → Ch2} (h : SS w lab sb R W n K) (hn : n ≤ n') : SS w lab sb R W n' K := by
  obtain ⟨ab, ub, hb, wb, mb, ob, L, H, C, cv, D, h, rfl⟩ := h
  exact ⟨ab, ub, hb, wb, mb, ob, L, H, C, cv, D, h.mono hn, rfl⟩
theorem SS.below {w w' : World} {lab : Nat → Nat} {sb R W n : Nat} {K : Nat → Ch2} (h : SS w lab sb R W n K) (c : Below w.heap.size w w') : SS w' lab sb R W n K := by
  obtain ⟨ab, ub, hb, wb, mb, ob, L, H, C, cv, D, h, rfl⟩ := h
  exact ⟨ab, ub, hb, wb, mb, ob, L, H, C, cv, D, h.below c, rfl⟩
theorem SS.lt {w : World} {lab : Nat → Nat} {sb R W n : Nat} {K : Nat → Ch2} (h : SS w lab sb R W n K) : ∀ k, lab k ≠ 0 → k < w.heap.size := by
  obtain ⟨ab, ub, hb, wb, mb, ob, L, H, C, cv, D, h, rfl⟩ := h
  exact h.lt
theorem SS.keep {w w' : World} {lab : Nat → Nat} {sb R W n : Nat} {K : Nat → Ch2} (h : SS w lab sb R W n K) (hk : ∀ k, lab k ≠ 0 → w'.heap[k]? = w.heap[k]?) (hs : w.heap.size ≤ w'.heap.size) : SS w' lab sb R W n K := by
  obtain ⟨ab, ub, hb, wb, mb, ob, L, H, C, cv, D, h, rfl⟩ := h
  exact ⟨ab, ub, hb, wb, mb, ob, L, H, C, cv, D, h.keep hk hs, rfl⟩
theorem SS.many {w : World} {lab : Nat → Nat} {sb R W n : Nat} {K : Nat → Ch2} (h : SS w lab sb R W n K) (a : Int) (ha : -9223372036854775808 ≤ a ∧ a ≤ 9223372036854775807) : Calls Try.prog 41 #[.pointer (some ⟨sb, 0, none⟩), .int .i64 a] w (Same w (.int .i64 (manyK W K a : Int))) := by
  obtain ⟨ab, ub, hb, wb, mb, ob, L, H, C, cv, D, h, rfl⟩ := h
  exact many_any h a ha
theorem SS.older {w : World} {lab : Nat → Nat} {sb R W n : Nat} {K : Nat → Ch2} (h : SS w lab sb R W n K) (z a : Int) : Calls Try.prog 29 #[.pointer (some ⟨sb, 0, none⟩), .int .i64 z, .int .i64 a] w (OldQ (K (wi W z)) a w) := by
  obtain ⟨ab, ub, hb, wb, mb, ob, L, H, C, cv, D, h, rfl⟩ := h
  exact older_any h z a
theorem SS.get {w : World} {lab : Nat → Nat} {sb R W n : Nat} {K : Nat → Ch2} (h : SS w lab sb R W n K) (z a : Int) : Calls Try.prog 34 #[.pointer (some ⟨sb, 0, none⟩), .int .i64 z, .int .i64 a] w fun e w' => e = .returned (.tuple #[.int .i64 (getV (K (wi W z)) a), .bool (hasK (K (wi W z)) a)]) ∧ Below w.heap.size w w' := by
  obtain ⟨ab, ub, hb, wb, mb, ob, L, H, C, cv, D, h, rfl⟩ := h
  exact get_any h z a
theorem SS.live {w : World} {lab : Nat → Nat} {sb R W n : Nat} {K : Nat → Ch2} (h : SS w lab sb R W n K) : Calls Try.prog 30 #[.pointer (some ⟨sb, 0, none⟩)] w (QD w (.int .i64 (totK W K : Int))) := by
  obtain ⟨ab, ub, hb, wb, mb, ob, L, H, C, cv, D, h, rfl⟩ := h
  have := slive_any h
  rw [tot_kf C H, h.ok.hC] at this
  exact this
theorem SS.free {w : World} {lab : Nat → Nat} {sb R W n : Nat} {K : Nat → Ch2} (h : SS w lab sb R W n K) : Calls Try.prog 38 #[.pointer (some ⟨sb, 0, none⟩)] w (QD w (.int .i64 ((R : Int) - (totK W K : Int)))) := by
  obtain ⟨ab, ub, hb, wb, mb, ob, L, H, C, cv, D, h, rfl⟩ := h
  have := sfree_any h
  have ht := h.tot
  rw [show (R : Int) - (totK W (kf H C) : Int) = (L.length : Int) by omega]
  exact this
def allF (K : Nat → Ch2) (a : Int) : Nat → Ch2 := fun i => dropK (K i) a
def upF (K : Nat → Ch2) (a : Int) (j : Nat) : Nat → Ch2 := fun i => if i < j then dropK (K i) a else K i
theorem upF_zero (K : Nat → Ch2) (a : Int) : upF K a 0 = K := by funext i; simp [upF]
theorem upF_next (W : Nat) (K : Nat → Ch2) (a : Int) (j : Nat) (h : j < W) : dropF W (upF K a j) (j : Int) a = upF K a (j + 1) := by
  funext i
  unfold dropF setF
  rw [wi_in h]
  unfold upF
  split
  · rename_i e; subst e; rw [if_neg (Nat.lt_irrefl _), if_pos (Nat.lt_succ_self _)]
  · rename_i e
    by_cases q : i < j
    · rw [if_pos q, if_pos (by omega)]
    · rw [if_neg q, if_neg (by omega)]
def DropAllQ (lab : Nat → Nat) (sb R W n : Nat) (K : Nat → Ch2) (a : Int) (w : World) (e : Ending) (w' : World) : Prop :=
  e = .returned (.int .i64 (manyK W K a : Int)) ∧ ∃ lab', SS w' lab' sb R W (n + 64) (allF K a) ∧ LabQ lab lab' w w'
set_option maxRecDepth 100000 in
set_option maxHeartbeats 4000000 in
theorem SS.dropAll {w : World} {lab : Nat → Nat} {sb R W n : Nat} {K : Nat → Ch2} (h : SS w lab sb R W n K) (a : Int) (ha : -9223372036854775808 ≤ a ∧ a ≤ 9223372036854775807) (hn : n < 900000) : Calls Try.prog 28 #[.pointer (some ⟨sb, 0, none⟩), .int .i64 a] w (DropAllQ lab sb R W n K a w) := by
  have HM := h.many a ha
  have hW := h.wW
  have c2 : w.cell? ⟨sb, 2, none⟩ = some (.slice (some ⟨(h.choose_spec.choose_spec.choose_spec.choose), 0, none⟩) W W) := by
    obtain ⟨ub, hb, wb, mb, ob, L, H, C, cv, D, h1, _⟩ := h.choose_spec
    exact (h.choose_spec.choose_spec.choose_spec.choose_spec.choose_spec.choose_spec.choose_spec.choose_spec.choose_spec.choose_spec.choose_spec.1).c2
  generalize h.choose_spec.choose_spec.choose_spec.choose = wb at *
  have HQ : Hid (∀ lab' w', SS w' lab' sb R W (n + W) (upF K a W) → LabQ lab lab' w w' → DropAllQ lab sb R W n K a w (.returned (.int .i64 (manyK W K a : Int))) w') := fun lab' w' s q => by
    refine ⟨rfl, lab', ?_, q⟩
    have e : upF K a W = allF K a := by
      funext i
      unfold upF allF
      split
      · rfl
      · rename_i r
        rw [h.out (by omega)]; rfl
    rw [← e]
    exact s.mono (by omega)
  have HS : Hid (SS w lab sb R W n K) := h
  generalize DropAllQ lab sb R W n K a w = P at *
  generalize manyK W K a = t at *
  clear h
  go_enter Try.func28, Try.ntmps28
  go_wp2_with fail
  refine HM.mono ?_
  rintro e w2 ⟨rfl, hw2⟩
  rw [hw2]
  clear hw2
  go_wp2_with fail
  go_loopw [15, 6] (fun i at_ wr => ∃ (j : Nat) (lab' : Nat → Nat), i = .int .i64 (j : Int) ∧ j ≤ W ∧ Hid (SS wr lab' sb R W (n + j) (upF K a j)) ∧ Hid (LabQ lab lab' w wr)) (fun i _ _ => W - (intOf i).toNat)
  case atStart => exact ⟨0, lab, rfl, Nat.zero_le _, by show SS _ _ _ _ _ _ _; rw [upF_zero]; exact HS.out, LabQ.refl _ _⟩
  case round =>
    obtain ⟨j, lab1, rfl, hj, S1, Q1⟩ := hrel
    by_cases hlt : j < W
    · have e1 : decide (j < W) = true := by simp; omega
      have HD := S1.out.drop (j : Int) a ha (by omega)
      go_wp2_with fail
      refine HD.mono ?_
      rintro e w4 ⟨rfl, lab2, s2, q2⟩
      rw [upF_next W K a j hlt] at s2
      have S2 : Hid (SS w4 lab2 sb R W (n + (j + 1)) (upF K a (j + 1))) := s2
      have Q2 : Hid (LabQ lab lab2 w w4) := Q1.out.trans q2
      clear s2 q2 HD
      generalize hasK (upF K a j (wi W (j : Int))) a = bb at *
      go_wp2_with fail
      go_roundw
      case rel => exact ⟨j + 1, lab2, by go_num, by omega, S2, Q2⟩
      case measure => simp [intOf] <;> omega
    · have hjW : j = W := by omega
      subst hjW
      have e1 : decide (j < j) = false := by simp
      have HE : Hid (P (.returned (.int .i64 (t : Int))) wr) := HQ.out lab1 wr S1.out Q1.out
      go_wp2
      first | exact HE.out | (go_ret; exact HE.out)
end Go.Proofs.Ytdohclnmcdempaa
