/- ArenaOnce: what lies in memory. -/
import Derived.Test.YtdohclnmcdempaaArE
namespace Go.Proofs.Ytdohclnmcdempaa
open Go.RowKit Go.Maps
set_option linter.unusedVariables false

def outL (n : Nat) (L : List Nat) : List Bool := (List.range n).map fun i => !decide (i ∈ L)
theorem outL_len (n : Nat) (L : List Nat) : (outL n L).length = n := by simp [outL]
theorem outL_at (n : Nat) (L : List Nat) (i : Nat) (h : i < (outL n L).length) : (outL n L)[i] = !decide (i ∈ L) := by simp [outL]
theorem outL_back (n : Nat) (L : List Nat) (s : Nat) : (outL n L).set s false = outL n (s :: L) := by
  apply List.ext_getElem (by simp [outL])
  intro i h1 h2
  rw [outL_at, List.getElem_set]
  split
  · subst_vars; simp
  · rename_i e
    rw [outL_at]
    have : ¬ i = s := fun q => e q.symm
    simp [this]
theorem outL_take (n : Nat) (s : Nat) (L : List Nat) (h : s ∉ L) : (outL n (s :: L)).set s true = outL n L := by
  apply List.ext_getElem (by simp [outL])
  intro i h1 h2
  rw [outL_at, List.getElem_set]
  split
  · subst_vars; simp [h]
  · rename_i e
    rw [outL_at]
    have : ¬ i = s := fun q => e q.symm
    simp [this]
theorem outL_first (n : Nat) : outL n (List.range n) = List.replicate n false := by
  apply List.ext_getElem (by simp [outL])
  intro i h1 h2
  rw [outL_at]
  have : i < n := by simpa using h2
  simp [this]
/-- the blocks that the arena leaves alone: those that were, and one more -/
def Xo (w : World) (gb : Nat) : Nat → Prop := fun k => k < w.heap.size ∨ k = gb
structure OI (w : World) (gb ab ub n : Nat) (L : List Nat) (wr : World) : Prop where
  ar : AB (Xo w gb) ab ub n L wr
  out : wr.heap[gb]? = some (.cells (bls (outL n L)) 4)
  bel : Below w.heap.size w wr
  g0 : w.heap.size ≤ gb
section
variable {w : World} {gb ab ub n : Nat} {L : List Nat} {wr wr' : World}
theorem OI.same (h : OI w gb ab ub n L wr) (c : Below wr.heap.size wr wr') : OI w gb ab ub n L wr' :=
  ⟨h.ar.below c, (c.block _ (Array.getElem?_eq_some_iff.1 h.out).1).trans h.out, h.bel.trans (c.mono h.bel.size), h.g0⟩
theorem OI.cell (h : OI w gb ab ub n L wr) (i : Nat) (hi : i < n) : wr.cell? ⟨gb, i, none⟩ = some (.bool (!decide (i ∈ L))) := by
  rw [cell_of_row wr gb i _ _ _ h.out, bls_at _ _ (by rw [outL_len]; exact hi), outL_at]
theorem OI.frz (h : OI w gb ab ub n L wr) (i : Nat) : wr.frozen? ⟨gb, i, none⟩ = false := frozen_of_row wr gb i _ _ h.out
/-- between a call of the arena and what is marked for it -/
structure OJ (w : World) (gb ab ub n : Nat) (L M : List Nat) (wr : World) : Prop where
  ar : AB (Xo w gb) ab ub n M wr
  out : wr.heap[gb]? = some (.cells (bls (outL n L)) 4)
  bel : Below w.heap.size w wr
  g0 : w.heap.size ≤ gb
theorem OI.call (h : OI w gb ab ub n L wr) {M : List Nat} (a : AB (Xo w gb) ab ub n M wr') (c : Ch (no (Xo w gb)) wr wr') : OJ w gb ab ub n L M wr' :=
  ⟨a, c.heap h.out (fun q => q (.inr rfl)), h.bel.trans (c.noB h.bel.size (fun k hk => .inl hk)), h.g0⟩
theorem OJ.cell {M : List Nat} (h : OJ w gb ab ub n L M wr) (i : Nat) (hi : i < n) : wr.cell? ⟨gb, i, none⟩ = some (.bool (!decide (i ∈ L))) := by
  rw [cell_of_row wr gb i _ _ _ h.out, bls_at _ _ (by rw [outL_len]; exact hi), outL_at]
theorem OJ.frz {M : List Nat} (h : OJ w gb ab ub n L M wr) (i : Nat) : wr.frozen? ⟨gb, i, none⟩ = false := frozen_of_row wr gb i _ _ h.out
theorem OJ.done (h : OJ w gb ab ub n L L wr) : OI w gb ab ub n L wr := ⟨h.ar, h.out, h.bel, h.g0⟩
theorem OJ.set {M : List Nat} (h : OJ w gb ab ub n L M wr) (i : Nat) (z : Bool) (hm : (outL n L).set i z = outL n M) : OI w gb ab ub n M (wr.setCell ⟨gb, i, none⟩ (.bool z)) := by
  refine ⟨h.ar.set (.inr rfl) _ _, ?_, h.bel.setCell (p := ⟨gb, i, none⟩) h.g0 _, h.g0⟩
  rw [heap_setCell_same wr gb i _ 4 _ h.out, bls_set, hm]
theorem OI.first {w w1 : World} {ab ub n : Nat} (h : AA w1 ab ub none n (List.range n)) (h1 : w.heap.size ≤ ab) (h2 : w.heap.size ≤ ub) (hb : Below w.heap.size w w1) :
    OI w w1.heap.size ab ub n (List.range n) (w1.alloc (.cells (bls (List.replicate n false)) 4)) := by
  have hs := hb.size
  refine ⟨(AB.first h h1 h2 hs).more (bl1 _ _) (fun k hk => ?_), ?_, hb.alloc hs _, hs⟩
  · rcases hk with q | rfl
    · exact ⟨.inl q, by simp; omega⟩
    · exact ⟨.inr (Nat.le_refl _), by simp⟩
  · rw [outL_first]; exact heap_alloc_new _ _
end
end Go.Proofs.Ytdohclnmcdempaa
