/- Bytes in memory: a writer's state, what is laid down, and how both stand while other memory is made. -/
import Derived.Test.YthcidcfaodjbjaaRows
import Derived.WalkKit
import Derived.WalkSpells
import Derived.WalkLawsBesides
import Derived.Handy
import Derived.Laws.BytesArg
import Derived.Laws.BitsAllLaws
import Derived.Lib.AppendStr
import Derived.Lib.OthersKept
namespace Go.Proofs.Ythcidcfaodjbjaa
open Go.RowKit
set_option linter.unusedVariables false

/-- bytes as cells -/
def bc (L : List UInt8) : List Value := L.map fun b => Value.int .u8 (b.toNat : Int)
set_option maxRecDepth 100000 in
theorem bc_len (L : List UInt8) : (bc L).length = L.length := by simp [bc]
set_option maxRecDepth 100000 in
theorem bc_app (A B : List UInt8) : bc (A ++ B) = bc A ++ bc B := by simp [bc]
set_option maxRecDepth 100000 in
theorem bc_one (L : List UInt8) : ∀ u ∈ bc L, u.oneCell' = true := by
  intro u hu
  obtain ⟨_, _, rfl⟩ := List.mem_map.1 hu
  rfl
set_option maxRecDepth 100000 in
theorem bc_get (L : List UInt8) (j : Nat) (u : Value) (h : (bc L)[j]? = some u) : ∃ hj : j < L.length, u = .int .u8 (L[j].toNat : Int) := by
  unfold bc at h
  rw [List.getElem?_map] at h
  rcases e : L[j]? with _ | c
  · rw [e] at h; simp at h
  · rw [e] at h
    obtain ⟨hj, rfl⟩ := List.getElem?_eq_some_iff.1 e
    exact ⟨hj, by simpa using h.symm⟩

/-- a slice of the call's own, from block 'base' on, that holds the bytes L -/
def Own (w : World) (base : Nat) (v : Value) (L : List UInt8) : Prop := w.ownsRow base 5 1 v L.length (bc L)

set_option maxRecDepth 100000 in
theorem Own.below {w w' : World} {base : Nat} {v : Value} {L : List UInt8} (h : Own w base v L) (hb : Below w.heap.size w w') : Own w' base v L := by
  obtain ⟨h1, h2⟩ := h
  refine ⟨h1, ?_⟩
  rcases h2 with h2 | ⟨g, cap, cur, e1, e2, e3, e4⟩
  · exact Or.inl h2
  · refine Or.inr ⟨g, cap, cur, e1, e2, ?_, e4⟩
    have hg : g < w.heap.size := by
      rcases Nat.lt_or_ge g w.heap.size with h | h
      · exact h
      · rw [Array.getElem?_eq_none h] at e3; cases e3
    rw [hb.block g hg]; exact e3

set_option maxRecDepth 100000 in
theorem Own.mono {w : World} {base base' : Nat} {v : Value} {L : List UInt8} (h : Own w base v L) (hb : base' ≤ base) : Own w base' v L := by
  obtain ⟨h1, h2⟩ := h
  refine ⟨h1, ?_⟩
  rcases h2 with h2 | ⟨g, cap, cur, e1, e2, e3⟩
  · exact Or.inl h2
  · exact Or.inr ⟨g, cap, cur, e1, by omega, e3⟩

/-- a writer's state: the struct lies in block pb, its bytes in a block behind it -/
def WS (w : World) (pb : Nat) (L : List UInt8) : Prop :=
  ∃ v, w.cell? ⟨pb, 0, none⟩ = some v ∧ w.frozen? ⟨pb, 0, none⟩ = false ∧ Own w (pb + 1) v L ∧ pb < w.heap.size

set_option maxRecDepth 100000 in
theorem WS.below {w w' : World} {pb : Nat} {L : List UInt8} (h : WS w pb L) (hb : Below w.heap.size w w') : WS w' pb L := by
  obtain ⟨v, h1, h2, h3, h4⟩ := h
  exact ⟨v, (hb.cell (p := ⟨pb, 0, none⟩) h4).trans h1, (hb.frozen (p := ⟨pb, 0, none⟩) h4).trans h2, h3.below hb, Nat.lt_of_lt_of_le h4 hb.size⟩

set_option maxRecDepth 100000 in
/-- what an append and a store into the field leave -/
theorem WS.after {w w1 w2 : World} {pb : Nat} {L M : List UInt8} {v v' : Value} (hc : w.cell? ⟨pb, 0, none⟩ = some v) (hf : w.frozen? ⟨pb, 0, none⟩ = false) (hown : Own w (pb + 1) v L) (hpb : pb < w.heap.size)
    (hw1 : Below w.heap.size w w1) (hown' : w2.ownsRow (pb + 1) 5 1 v' (L.length + M.length) (bc L ++ bc M)) (hg : w1.grownBy w2 v.ownBlock) :
    w2.cell? ⟨pb, 0, none⟩ = some v ∧ w2.frozen? ⟨pb, 0, none⟩ = false ∧ pb < w2.heap.size ∧ WS (w2.setCell ⟨pb, 0, none⟩ v') pb (L ++ M) ∧ Below pb w (w2.setCell ⟨pb, 0, none⟩ v') := by
  have hsz1 := hw1.size
  have hne : ∀ k, v.ownBlock = some k → pb + 1 ≤ k := fun k hk => (World.ownsRow.lt hown k hk).1
  have hne' : some pb ≠ v.ownBlock := by
    intro e
    have := hne pb e.symm
    omega
  have hblk : w2.heap[pb]? = w1.heap[pb]? := hg.block pb (by omega) hne'
  have c1 : w1.cell? ⟨pb, 0, none⟩ = some v := (hw1.cell (p := ⟨pb, 0, none⟩) hpb).trans hc
  have f1 : w1.frozen? ⟨pb, 0, none⟩ = false := (hw1.frozen (p := ⟨pb, 0, none⟩) hpb).trans hf
  have c2 : w2.cell? ⟨pb, 0, none⟩ = some v := (World.cell?_of_block (w := w1) (a := ⟨pb, 0, none⟩) hblk).trans c1
  have f2 : w2.frozen? ⟨pb, 0, none⟩ = false := (World.frozen?_of_block (w := w1) (a := ⟨pb, 0, none⟩) hblk).trans f1
  have hsz2 := hg.size
  have hp2 : pb < w2.heap.size := by omega
  refine ⟨c2, f2, hp2, ⟨v', ?_, ?_, ?_, ?_⟩, ?_⟩
  · exact World.cell?_setCell_same w2 _ _ c2
  · simpa using f2
  · have := ownsRow_setCell_below hown' (a := ⟨pb, 0, none⟩) (by show pb < pb + 1; omega) v'
    unfold Own
    rw [List.length_append, bc_app]
    exact this
  · simpa [World.setCell] using hp2
  · refine Below.setCell ?_ (show pb ≤ pb from Nat.le_refl _) _
    exact ((hw1.mono (by omega)).grown hg (by omega) (fun k hk => by have := hne k hk; omega))

set_option maxRecDepth 100000 in
theorem own_kind {w : World} {base : Nat} {v : Value} {L : List UInt8} (h : Own w base v L) : ∀ g, v.ownBlock = some g → ∃ c fz, w.heap[g]? = some (.cells c 5 fz) := by
  intro g hg
  rcases h.2 with ⟨rfl, _⟩ | ⟨g', cap, cur, rfl, _, hgg, _⟩
  · simp [Value.ownBlock] at hg
  · simp [Value.ownBlock] at hg
    subst hg
    exact ⟨cur, _, hgg⟩
theorem kept_below {w w' : World} (h : Below w.heap.size w w') (e : TypeId) (b : Option Nat) : Lib.OthersKept e b w w' := fun k o hk _ _ => (h.block k (Array.getElem?_eq_some_iff.1 hk).1).trans hk
set_option maxRecDepth 100000 in
theorem WS.kept {w w1 w2 : World} {pb : Nat} {L : List UInt8} {v v' : Value} (hown : Own w (pb + 1) v L) (hw1 : Below w.heap.size w w1) (hg : w1.grownBy w2 v.ownBlock) : Lib.OthersKept 5 (some pb) w (w2.setCell ⟨pb, 0, none⟩ v') :=
  ((kept_below hw1 5 (some pb)).grown hg (own_kind (hown.below hw1))).setCell _ rfl _
end Go.Proofs.Ythcidcfaodjbjaa
