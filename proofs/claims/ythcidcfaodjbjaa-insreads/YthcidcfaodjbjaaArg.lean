/- Slices of bytes that came in. -/
import Derived.Test.YthcidcfaodjbjaaBk
import Derived.ProofKit
import Derived.OpenShut
namespace Go.Proofs.Ythcidcfaodjbjaa
open Go.RowKit
set_option linter.unusedVariables false
set_option linter.unusedSimpArgs false

/-- the slice v reads as the bytes L, wherever it lies -/
def RdX (w : World) (v : Value) (L : List UInt8) : Prop :=
  (v = .slice none 0 0 ∧ L = []) ∨ ∃ x cap, v = .slice (some x) L.length cap ∧ L.length ≤ cap ∧ cap ≤ maxLen ∧ ∀ i (h : i < L.length), w.cell? (x.add i) = some (.int .u8 (L[i].toNat : Int))
theorem cellX_lt {w : World} {a : Addr} {v : Value} (h : w.cell? a = some v) : a.block < w.heap.size := by
  rcases Nat.lt_or_ge a.block w.heap.size with h1 | h1
  · exact h1
  · exfalso; simp [World.cell?, Array.getElem?_eq_none h1] at h
theorem RdX.below {w w' : World} {v : Value} {L : List UInt8} (h : RdX w v L) (hb : Below w.heap.size w w') : RdX w' v L := by
  rcases h with h | ⟨x, cap, e1, e2, e3, e4⟩
  · exact Or.inl h
  · refine Or.inr ⟨x, cap, e1, e2, e3, fun i hi => ?_⟩
    have h5 := e4 i hi
    rw [hb.cell (p := x.add i) (cellX_lt h5)]
    exact h5
set_option maxRecDepth 100000 in
theorem RdX.str {w : World} {v : Value} {L : List UInt8} (h : RdX w v L) : (convert 40 9 v).run Try.prog w = .ok (.string ⟨L.toArray⟩) w := by
  rcases h with ⟨rfl, rfl⟩ | ⟨x, cap, rfl, e2, e3, e4⟩
  · exact run_convert_bytes_nil w 40 5 (by kernel_rfl) (by kernel_rfl) 0 0 9 (by kernel_rfl)
  · exact run_convert_bytes_back w 40 9 5 x cap L (by kernel_rfl) (by kernel_rfl) (by kernel_rfl) e4
theorem row_bytes {w : World} {a : Option Addr} {n cap : Nat} {zs : List Int} (h : (a = none ∧ n = 0 ∧ cap = 0 ∧ zs = []) ∨ ∃ x, a = some x ∧ n ≤ cap ∧ cap ≤ maxLen ∧ zs.length = cap ∧ (∀ i, i < zs.length → w.cell? (x.add i) = some (.int .u8 (zs.getD i 0))) ∧ ∀ n ∈ zs, (Lit.int .u8 n).wf = true) : n ≤ maxLen ∧ ∃ L, L.length = n ∧ RdX w (.slice a n cap) L := by
  rcases h with ⟨rfl, rfl, rfl, rfl⟩ | ⟨x, rfl, h1, h2, h3, h4, h5⟩
  · exact ⟨by unfold maxLen; omega, [], rfl, Or.inl ⟨rfl, rfl⟩⟩
  · have hl : ((zs.take n).map fun z => UInt8.ofNat z.toNat).length = n := by simp; omega
    refine ⟨by omega, (zs.take n).map fun z => UInt8.ofNat z.toNat, hl, Or.inr ⟨x, cap, by rw [hl], by rw [hl]; exact h1, h2, fun j hj => ?_⟩⟩
    have hj' : j < zs.length := by simp at hj; omega
    rw [h4 j hj']
    have hz := h5 zs[j] (List.getElem_mem hj')
    have hb := bounds_u8 hz
    have e : zs.getD j 0 = zs[j] := by simp [List.getD, List.getElem?_eq_getElem hj']
    rw [e]
    simp
    omega
end Go.Proofs.Ythcidcfaodjbjaa
