/- What goes into two heaps is what comes of all in one, on plain lists. -/
import Derived.Test.YtlcgoobjpnpfhabHp4
import Derived.Test.YtlcgoobjpnpfhabJnP
namespace Go.Proofs.Ytlcgoobjpnpfhab
open Go.RowKit Go.Maps
set_option linter.unusedVariables false

/-- c is a and b, joined -/
def Inv (ops a b c : List Int) : Prop := a.length = ops.length ∧ b.length = ops.length ∧ c.length = ops.length ∧ ∀ i, i < ops.length → joinI (ops.getD i 0) (a.getD i 0) (b.getD i 0) = c.getD i 0
theorem Inv.start (ops : List Int) (h : ∀ x ∈ ops, rightB x = true) : Inv ops (ops.map zeroI) (ops.map zeroI) (ops.map zeroI) := by
  refine ⟨by simp, by simp, by simp, fun i hi => ?_⟩
  have e : ops.getD i 0 = ops[i] := by simp [List.getD, hi]
  have e2 : (ops.map zeroI).getD i 0 = zeroI ops[i] := by simp [List.getD, hi]
  rw [e, e2]
  exact join_zero _ _ (h _ (List.getElem_mem _)) (zero_bd _)
theorem addL_len (ops now : List Int) (c n : Int) : (addL ops now c n).length = now.length := by unfold addL; split <;> simp
theorem addL_get (ops now : List Int) (c n : Int) (h : now.length = ops.length) (i : Nat) (hi : i < ops.length) : (addL ops now c n).getD i 0 = if c = (i : Int) then joinI (ops.getD i 0) (now.getD i 0) n else now.getD i 0 := by
  unfold addL
  by_cases hc : c = (i : Int)
  · subst hc
    have : inB ops.length (i : Int) = true := by unfold inB; simp; exact hi
    rw [if_pos this, if_pos rfl]
    simp [List.getD, h, hi]
  · rw [if_neg hc]
    split
    · rename_i h2
      unfold inB at h2
      simp at h2
      have : c.toNat ≠ i := by omega
      simp [List.getD, this]
    · rfl
theorem Inv.left {ops a b c : List Int} (h : Inv ops a b c) (k n : Int) : Inv ops (addL ops a k n) b (addL ops c k n) := by
  obtain ⟨h1, h2, h3, h4⟩ := h
  refine ⟨by rw [addL_len]; exact h1, h2, by rw [addL_len]; exact h3, fun i hi => ?_⟩
  rw [addL_get _ _ _ _ h1 i hi, addL_get _ _ _ _ h3 i hi, ← h4 i hi]
  split
  · rw [join_assoc, join_comm _ n, ← join_assoc]
  · rfl
theorem Inv.right {ops a b c : List Int} (h : Inv ops a b c) (k n : Int) : Inv ops a (addL ops b k n) (addL ops c k n) := by
  obtain ⟨h1, h2, h3, h4⟩ := h
  refine ⟨h1, by rw [addL_len]; exact h2, by rw [addL_len]; exact h3, fun i hi => ?_⟩
  rw [addL_get _ _ _ _ h2 i hi, addL_get _ _ _ _ h3 i hi, ← h4 i hi]
  split
  · rw [join_assoc]
  · rfl
theorem ontoL_len (ops A now : List Int) : (ontoL ops A now).length = ops.length := by simp [ontoL]
theorem Inv.onto {ops a b c : List Int} (h : Inv ops a b c) (A : List Int) : ontoL ops A c = ontoL ops (ontoL ops A b) a := by
  obtain ⟨h1, h2, h3, h4⟩ := h
  unfold ontoL
  refine List.map_congr_left fun i hi => ?_
  have hi' : i < ops.length := by simpa using hi
  have e : ((List.range ops.length).map (ontoX ops A b)).getD i 0 = ontoX ops A b i := by simp [List.getD, hi']
  show joinI _ _ _ = joinI _ _ _
  rw [e]
  show joinI _ _ _ = joinI _ (joinI _ _ _) _
  rw [← h4 i hi', join_comm _ (a.getD i 0) (b.getD i 0), join_assoc]
end Go.Proofs.Ytlcgoobjpnpfhab
