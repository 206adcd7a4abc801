/- What the document's find answers: the place of a text in a list. -/
import Derived.Test.YthcidcfaodjbjabGreatDoorQLn
namespace Go.Proofs.YthcidcfaodjbjabGreatDoor
open Go.RowKit Go.Maps
set_option linter.unusedVariables false

/-- the place of a text from a place on; below 0: nowhere -/
def findI (t : ByteArray) : List ByteArray → Nat → Int
  | [], _ => -1
  | x :: r, k => if x.toList = t.toList then (k : Int) else findI t r (k + 1)
theorem Strs.cases {w : World} {base : Nat} {v : Value} {l : List ByteArray} (h : Strs w base v l) : (v = .slice none 0 0 ∧ l = []) ∨ ∃ g cap, v = .slice (some ⟨g, 0, none⟩) l.length cap ∧ l.length ≤ cap ∧ g < w.heap.size ∧ (∀ j u, (l.map fun x => Value.string x)[j]? = some u → w.cell? ((⟨g, 0, none⟩ : Addr).add j) = some u) := by
  have hce := fun g => World.ownsRow.cells h (g := g)
  have hlt := World.ownsRow.lt h
  rcases h.2 with ⟨h1, h0⟩ | ⟨g, cap, cur, e1, e2, e3, e4, e5, _⟩
  · exact Or.inl ⟨h1, List.eq_nil_of_length_eq_zero h0⟩
  · exact Or.inr ⟨g, cap, e1, e4, (hlt g (by rw [e1]; rfl)).2, hce g (by rw [e1]; rfl)⟩
inductive FI (w : World) (t : ByteArray) (l : List ByteArray) (out : Int) (i : Value) (wr : World) : Prop
  | mk (k m : Nat) (hk : k ≤ l.length) (hi : i = .int .i64 k) (ho : findI t (l.drop k) k = out) (hw : wr = w.drewN m) : FI w t l out i wr

end Go.Proofs.YthcidcfaodjbjabGreatDoor
