/- What Sort and Compact do to at most two numbers of the call's own; what Targets answers. -/
import Derived.Test.YthcidcfaodjbjaaTgP
import Derived.Test.YthcidcfaodjbjaaShf
import Derived.Sort.OwnSortedInts
namespace Go.Proofs.Ythcidcfaodjbjaa
open Go.RowKit Go.Sort Go.Proofs
set_option linter.unusedVariables false
set_option linter.unusedSimpArgs false

theorem srt_merge (Q : List Int) (h : Q.length ≤ 2) : Q.mergeSort (fun x y => decide (x ≤ y)) = srt Q := by
  match Q, h with
  | [], _ => simp [srt]
  | [a], _ => simp [srt]
  | [a, b], _ =>
    rw [srt_two]
    by_cases h : a ≤ b
    · rw [if_pos h]
      simp [List.mergeSort, List.MergeSort.Internal.splitInTwo, List.merge, h]
    · rw [if_neg h]
      simp [List.mergeSort, List.MergeSort.Internal.splitInTwo, List.merge, h]
  | _ :: _ :: _ :: _, h => simp at h
theorem compact_cpt (Q : List Int) (h : Q.length ≤ 2) : Lib.compact Q = cpt Q := by
  match Q, h with
  | [], _ => simp [cpt, Lib.compact, Lib.compactUpTo, Lib.keeps, List.range_succ]
  | [a], _ => simp [cpt, Lib.compact, Lib.compactUpTo, Lib.keeps, List.range_succ]
  | [a, b], _ =>
    rw [cpt_two]
    by_cases h : a = b
    · rw [if_pos h]
      simp [Lib.compact, Lib.compactUpTo, Lib.keeps, List.range_succ, h]
    · rw [if_neg h]
      have h' : ¬ b = a := fun e => h e.symm
      simp [Lib.compact, Lib.compactUpTo, Lib.keeps, List.range_succ, h, h']
  | _ :: _ :: _ :: _, h => simp at h
theorem cpt_len (Q : List Int) : (cpt Q).length ≤ Q.length := by
  unfold cpt
  split
  · split <;> simp
  · simp
theorem lt_of_block {w : World} {g : Nat} {o : Obj} (h : w.heap[g]? = some o) : g < w.heap.size := (Array.getElem?_eq_some_iff.1 h).1

theorem soC : SoC := by
  intro Q q a c base w hq h2 hb hI
  rcases hI.2 with ⟨e1, e2⟩ | ⟨g, cap, cur, e1, e2, e3, e4, e5, e6, e7⟩
  · injection e1 with f1 f2 f3
    subst f1 f2 f3
    have : Q = [] := List.eq_nil_of_length_eq_zero hq
    subst this
    refine (Try.slices_Sort_int_none _ _ w).mono ?_
    rintro e w' ⟨rfl, rfl⟩
    exact ⟨rfl, hI, Below.refl _ _⟩
  · injection e1 with f1 f2 f3
    subst f1 f3 hq
    refine (Try.slices_Sort_int g 0 c Q w (holds_of_blockI e3 (by rw [← Nat.mul_one Q.length]; exact e7)) (lt_of_block e3) (by omega)).mono ?_
    rintro e w' ⟨rfl, n, os, rfl⟩
    refine ⟨rfl, ?_, (Below.refl base w).grown (grownBy_sortedI _) hb (fun k hk => by cases hk; exact e2)⟩
    rw [← srt_merge Q h2]
    unfold IZ
    rw [List.length_mergeSort]
    exact ownsRow_sortedI (List.length_mergeSort _) e2 e3 e4 e5 e6

theorem coC : CoC := by
  intro Q q a c base w hq h2 hb hI
  rcases hI.2 with ⟨e1, e2⟩ | ⟨g, cap, cur, e1, e2, e3, e4, e5, e6, e7⟩
  · injection e1 with f1 f2 f3
    subst f1 f2 f3
    have : Q = [] := List.eq_nil_of_length_eq_zero hq
    subst this
    refine (Try.slices_Compact_int_empty _ _ w).mono ?_
    rintro e w' ⟨rfl, rfl⟩
    exact ⟨_, rfl, hI, Below.refl _ _⟩
  · injection e1 with f1 f2 f3
    subst f1 f3 hq
    refine (Try.slices_Compact_int g 0 c Q w (holds_of_blockI e3 (by rw [← Nat.mul_one Q.length]; exact e7)) (by omega) e4).mono ?_
    rintro e w' ⟨rfl, n, rfl⟩
    rw [compact_cpt Q h2]
    have hg : ∀ x : World, grow x #[] = x := fun x => by simp [grow]
    rw [← hg (putRow _ _ _ _ _)]
    have hc := cpt_len Q
    refine ⟨_, rfl, ?_, (Below.refl base w).grown (grownBy_sortedI _) hb (fun k hk => by cases hk; exact e2)⟩
    refine ⟨by simp [zc], .inr ⟨g, c, _, rfl, e2, heap_sortedI _ e3, by omega, e5, by simp [putCells, e6], ?_⟩⟩
    have h9 := take_putCellsI cur (cpt Q ++ List.replicate (Q.length - (cpt Q).length) 0) (by simp; omega)
    have h8 := congrArg (List.take (cpt Q).length) h9
    rw [List.take_take, Nat.min_eq_left (by simp)] at h8
    rw [Nat.mul_one, h8]
    simp [zc]

theorem targets (l : List In) (z : Int) (v : Value) (w : World) (hz : r64 z) (hv : ISl w v l) (hl : l.length ≤ 1000) : Calls Try.prog 16 #[v, .int .i64 z] w fun e w' => Below w.heap.size w w' ∧ ∃ v', e = .returned v' ∧ IZ w' w.heap.size v' (tgt l z) := targets_any soC coC l z v w hz hv hl
end Go.Proofs.Ythcidcfaodjbjaa
