/- What the document's Lines answers: a text's lines. -/
import Derived.Test.YthcidcfaodjbjabGreatDoorPush
import Derived.Test.YthcidcfaodjbjabGreatDoorParP
import Derived.Maps.AppendAt
namespace Go.Proofs.YthcidcfaodjbjabGreatDoor
open Go.RowKit Go.Maps
set_option linter.unusedVariables false

/-- texts of the call's own -/
def Strs (w : World) (base : Nat) (v : Value) (l : List ByteArray) : Prop := w.ownsRow base 9 1 v l.length (l.map fun x => Value.string x)
theorem Strs.own {w : World} {base : Nat} {v : Value} {l : List ByteArray} (h : Strs w base v l) : ∀ k, v.ownBlock = some k → base ≤ k ∧ k < w.heap.size := World.ownsRow.lt h
theorem Strs.keep {w w' : World} {base : Nat} {v : Value} {l : List ByteArray} (h : Strs w base v l) (hb : ∀ k, v.ownBlock = some k → w'.heap[k]? = w.heap[k]?) : Strs w' base v l := by
  obtain ⟨h1, h2⟩ := h
  refine ⟨h1, ?_⟩
  rcases h2 with h2 | ⟨g, cap, cur, e1, e2, e3, e4⟩
  · exact Or.inl h2
  · refine Or.inr ⟨g, cap, cur, e1, e2, ?_, e4⟩
    rw [hb g (by rw [e1]; rfl)]; exact e3
theorem Strs.form {w : World} {base : Nat} {v : Value} {l : List ByteArray} (h : Strs w base v l) : ∃ a c, v = .slice a l.length c := by
  rcases h.2 with ⟨h, h0⟩ | ⟨g, cap, _, h, _⟩
  · exact ⟨none, 0, by rw [h0]; exact h⟩
  · exact ⟨_, _, h⟩
theorem Strs.nil (w : World) (base : Nat) : Strs w base (.slice none 0 0) [] := ⟨rfl, Or.inl ⟨rfl, rfl⟩⟩
theorem Strs.below {w w' : World} {base : Nat} {v : Value} {l : List ByteArray} (h : Strs w base v l) (hb : Below w.heap.size w w') : Strs w' base v l := h.keep (fun k hk => hb.block k (h.own k hk).2)
theorem strs_one (l : List ByteArray) : ∀ u ∈ (l.map fun x => Value.string x), u.oneCell' = true := by
  intro u hu
  obtain ⟨_, _, rfl⟩ := List.mem_map.1 hu
  rfl
theorem info9 : (Tryz.prog.info? 9).map (fun i => (i.zero, i.size, i.bytes)) = some (some (.string ⟨#[]⟩), 1, 16) := by kernel_rfl
theorem one_new (w : World) (v : Value) (t : TypeId) : ∀ j u, [v][j]? = some u → (w.alloc (.cells #[v] t)).cell? ((⟨w.heap.size, 0, none⟩ : Addr).add j) = some u := by
  have hg : (w.alloc (.cells #[v] t)).heap[w.heap.size]? = some (.cells ([v] : List Value).toArray t (0, 0)) := heap_alloc_new _ _
  exact row_at (l := [v]) hg

theorem seg_next (l : List UInt8) (f k : Nat) (hf : f ≤ k) (hk : k < l.length) : (l.drop f).take (k + 1 - f) = (l.drop f).take (k - f) ++ [l[k]] := by
  have h1 : k + 1 - f = k - f + 1 := by omega
  have h2 : k - f < (l.drop f).length := by simp; omega
  rw [h1, List.take_succ_eq_append_getElem h2]
  congr 2
  rw [List.getElem_drop]
  congr 1; omega
theorem drop_seg (l : List UInt8) (f k : Nat) (hf : f ≤ k) (hk : k < l.length) : l.drop f = (l.drop f).take (k - f) ++ l[k] :: l.drop (k + 1) := by
  have h2 : k - f < (l.drop f).length := by simp; omega
  conv => lhs; rw [← List.take_append_drop (k - f) (l.drop f)]
  rw [List.drop_drop, show f + (k - f) = k by omega, List.drop_eq_getElem_cons hk]
/-- what Lines answers -/
def LnP (w : World) (L : List (List UInt8)) (e : Ending) (w' : World) : Prop :=
  ∃ (v : Value) (P : List ByteArray), P.map (·.data.toList) = L ∧ e = .returned v ∧ Strs w' w.heap.size v P ∧ Below w.heap.size w w'
inductive LI (w : World) (s : ByteArray) (t fr i : Value) (wr : World) : Prop
  | mk (k f : Nat) (names : List ByteArray) (da : Option Addr) (dc : Nat) (hk : k ≤ s.size) (hf : f ≤ k) (hi : i = .int .i64 k) (hfr : fr = .int .i64 f) (ht : t = .slice da names.length dc) (hn : names.length ≤ k)
      (hl : linesL s.data.toList = names.map (·.data.toList) ++ linesL (s.data.toList.drop f)) (hc : ((s.data.toList.drop f).take (k - f)).count 10 = 0) (hs : Strs wr w.heap.size (.slice da names.length dc) names) (hb : Below w.heap.size w wr) : LI w s t fr i wr

end Go.Proofs.YthcidcfaodjbjabGreatDoor
