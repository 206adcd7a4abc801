/- Bytes in memory: a writer's state, what is laid down, and how both stand while other memory is made. -/
import Derived.Test.YtnofibjchhcmeabDoorRows
import Derived.WalkKit
import Derived.WalkSpells
import Derived.WalkLawsBesides
import Derived.Handy
import Derived.Laws.BytesArg
import Derived.Laws.BitsAllLaws
import Derived.Lib.AppendStr
namespace Go.Proofs.YtnofibjchhcmeabDoor
open Go.RowKit
set_option linter.unusedVariables false

/-- bytes as cells -/
def bc (L : List UInt8) : List Value := L.map fun b => Value.int .u8 (b.toNat : Int)
set_option maxRecDepth 100000 in
theorem bc_len (L : List UInt8) : (bc L).length = L.length := by simp [bc]
set_option maxRecDepth 100000 in
theorem bc_app (A B : List UInt8) : bc (A ++ B) = bc A ++ bc B := by simp [bc]
set_option maxRecDepth 100000 in
theorem bc_one (L : List UInt8) : ∀ u ∈ bc L, u.oneCell' = true := by
  intro u hu
  obtain ⟨_, _, rfl⟩ := List.mem_map.1 hu
  rfl
set_option maxRecDepth 100000 in
theorem bc_get (L : List UInt8) (j : Nat) (u : Value) (h : (bc L)[j]? = some u) : ∃ hj : j < L.length, u = .int .u8 (L[j].toNat : Int) := by
  unfold bc at h
  rw [List.getElem?_map] at h
  rcases e : L[j]? with _ | c
  · rw [e] at h; simp at h
  · rw [e] at h
    obtain ⟨hj, rfl⟩ := List.getElem?_eq_some_iff.1 e
    exact ⟨hj, by simpa using h.symm⟩

/-- a slice of the call's own, from block 'base' on, that holds the bytes L -/
def Own (w : World) (base : Nat) (v : Value) (L : List UInt8) : Prop := w.ownsRow base 5 1 v L.length (bc L)

set_option maxRecDepth 100000 in
theorem Own.below {w w' : World} {base : Nat} {v : Value} {L : List UInt8} (h : Own w base v L) (hb : Below w.heap.size w w') : Own w' base v L := by
  obtain ⟨h1, h2⟩ := h
  refine ⟨h1, ?_⟩
  rcases h2 with h2 | ⟨g, cap, cur, e1, e2, e3, e4⟩
  · exact Or.inl h2
  · refine Or.inr ⟨g, cap, cur, e1, e2, ?_, e4⟩
    have hg : g < w.heap.size := by
      rcases Nat.lt_or_ge g w.heap.size with h | h
      · exact h
      · rw [Array.getElem?_eq_none h] at e3; cases e3
    rw [hb.block g hg]; exact e3

set_option maxRecDepth 100000 in
theorem Own.mono {w : World} {base base' : Nat} {v : Value} {L : List UInt8} (h : Own w base v L) (hb : base' ≤ base) : Own w base' v L := by
  obtain ⟨h1, h2⟩ := h
  refine ⟨h1, ?_⟩
  rcases h2 with h2 | ⟨g, cap, cur, e1, e2, e3⟩
  · exact Or.inl h2
  · exact Or.inr ⟨g, cap, cur, e1, by omega, e3⟩

/-- a writer's state: the struct lies in block pb, its bytes in a block behind it -/
def WS (w : World) (pb : Nat) (L : List UInt8) : Prop :=
  ∃ v, w.cell? ⟨pb, 0, none⟩ = some v ∧ w.frozen? ⟨pb, 0, none⟩ = false ∧ Own w (pb + 1) v L ∧ pb < w.heap.size

set_option maxRecDepth 100000 in
theorem WS.below {w w' : World} {pb : Nat} {L : List UInt8} (h : WS w pb L) (hb : Below w.heap.size w w') : WS w' pb L := by
  obtain ⟨v, h1, h2, h3, h4⟩ := h
  exact ⟨v, (hb.cell (p := ⟨pb, 0, none⟩) h4).trans h1, (hb.frozen (p := ⟨pb, 0, none⟩) h4).trans h2, h3.below hb, Nat.lt_of_lt_of_le h4 hb.size⟩

set_option maxRecDepth 100000 in
/-- what an append and a store into the field leave -/
theorem WS.after {w w1 w2 : World} {pb : Nat} {L M : List UInt8} {v v' : Value} (hc : w.cell? ⟨pb, 0, none⟩ = some v) (hf : w.frozen? ⟨pb, 0, none⟩ = false) (hown : Own w (pb + 1) v L) (hpb : pb < w.heap.size)
    (hw1 : Below w.heap.size w w1) (hown' : w2.ownsRow (pb + 1) 5 1 v' (L.length + M.length) (bc L ++ bc M)) (hg : w1.grownBy w2 v.ownBlock) :
    w2.cell? ⟨pb, 0, none⟩ = some v ∧ w2.frozen? ⟨pb, 0, none⟩ = false ∧ pb < w2.heap.size ∧ WS (w2.setCell ⟨pb, 0, none⟩ v') pb (L ++ M) ∧ Below pb w (w2.setCell ⟨pb, 0, none⟩ v') := by
  have hsz1 := hw1.size
  have hne : ∀ k, v.ownBlock = some k → pb + 1 ≤ k := fun k hk => (World.ownsRow.lt hown k hk).1
  have hne' : some pb ≠ v.ownBlock := by
    intro e
    have := hne pb e.symm
    omega
  have hblk : w2.heap[pb]? = w1.heap[pb]? := hg.block pb (by omega) hne'
  have c1 : w1.cell? ⟨pb, 0, none⟩ = some v := (hw1.cell (p := ⟨pb, 0, none⟩) hpb).trans hc
  have f1 : w1.frozen? ⟨pb, 0, none⟩ = false := (hw1.frozen (p := ⟨pb, 0, none⟩) hpb).trans hf
  have c2 : w2.cell? ⟨pb, 0, none⟩ = some v := (World.cell?_of_block (w := w1) (a := ⟨pb, 0, none⟩) hblk).trans c1
  have f2 : w2.frozen? ⟨pb, 0, none⟩ = false := (World.frozen?_of_block (w := w1) (a := ⟨pb, 0, none⟩) hblk).trans f1
  have hsz2 := hg.size
  have hp2 : pb < w2.heap.size := by omega
  refine ⟨c2, f2, hp2, ⟨v', ?_, ?_, ?_, ?_⟩, ?_⟩
  · exact World.cell?_setCell_same w2 _ _ c2
  · simpa using f2
  · have := ownsRow_setCell_below hown' (a := ⟨pb, 0, none⟩) (by show pb < pb + 1; omega) v'
    unfold Own
    rw [List.length_append, bc_app]
    exact this
  · simpa [World.setCell] using hp2
  · refine Below.setCell ?_ (show pb ≤ pb from Nat.le_refl _) _
    exact ((hw1.mono (by omega)).grown hg (by omega) (fun k hk => by have := hne k hk; omega))
/-- the slice v reads as the bytes L -/
def Rd (w : World) (v : Value) (L : List UInt8) : Prop :=
  (v = .slice none 0 0 ∧ L = []) ∨ ∃ b off cap, v = .slice (some ⟨b, off, none⟩) L.length cap ∧ L.length ≤ cap ∧ cap ≤ maxLen ∧ b < w.heap.size ∧ ∀ i (h : i < L.length), w.cell? ⟨b, off + i, none⟩ = some (.int .u8 (L[i].toNat : Int))

set_option maxRecDepth 100000 in
theorem Own.rd {w : World} {base : Nat} {v : Value} {L : List UInt8} (h : Own w base v L) : Rd w v L := by
  have hlt := World.ownsRow.lt h
  have hce := fun g => World.ownsRow.cells h (g := g)
  obtain ⟨h1, h2⟩ := h
  rcases h2 with ⟨h2, h3⟩ | ⟨g, cap, cur, e1, e2, e3, e4, e5, e6, e7⟩
  · exact Or.inl ⟨h2, List.eq_nil_of_length_eq_zero h3⟩
  · right
    refine ⟨g, 0, cap, e1, e4, e5, (hlt g (by rw [e1]; rfl)).2, fun i hi => ?_⟩
    have := hce g (by rw [e1]; rfl) i (.int .u8 (L[i].toNat : Int)) (by unfold bc; rw [List.getElem?_map, List.getElem?_eq_getElem hi]; rfl)
    rw [Nat.zero_add]
    rw [← this]
    congr 1
    unfold Addr.add
    split <;> simp_all

set_option maxRecDepth 100000 in
theorem Rd.below {w w' : World} {v : Value} {L : List UInt8} (h : Rd w v L) (hb : Below w.heap.size w w') : Rd w' v L := by
  rcases h with h | ⟨b, off, cap, e1, e2, e2', e3, e4⟩
  · exact Or.inl h
  · right
    refine ⟨b, off, cap, e1, e2, e2', Nat.lt_of_lt_of_le e3 hb.size, fun i hi => ?_⟩
    exact (hb.cell (p := ⟨b, off + i, none⟩) e3).trans (e4 i hi)

set_option maxRecDepth 100000 in
theorem str_of (L : List UInt8) : strOfNums (L.map fun c => (c.toNat : Int)) = ⟨L.toArray⟩ := by
  apply ByteArray.ext
  apply Array.toList_inj.1
  rw [strOfNums_data, List.map_map]
  show _ = L
  conv => rhs; rw [← List.map_id L]
  apply List.map_congr_left
  intro x _
  simp

set_option maxRecDepth 100000 in
theorem Rd.str {w : World} {v : Value} {L : List UInt8} (h : Rd w v L) : (convert 105 9 v).run Tryd.prog w = .ok (.string ⟨L.toArray⟩) w := by
  rcases h with ⟨rfl, rfl⟩ | ⟨b, off, cap, rfl, e2, e2', e3, e4⟩
  · rw [run_convert_bytes_nil w 105 5 (by kernel_rfl) (by kernel_rfl) 0 0 9 (by kernel_rfl)]; rfl
  · rw [run_convert_bytes_arg w 105 5 (by kernel_rfl) (by kernel_rfl) b off L.length cap (L.map fun c => (c.toNat : Int)) (by simp) ?_ 9 (by kernel_rfl), str_of]
    intro i hi
    rw [e4 i hi]
    simp [List.getD, List.getElem?_map, List.getElem?_eq_getElem hi]

set_option maxRecDepth 100000 in
/-- a writer stands while another block is written -/
theorem WS.other {w w' : World} {pb pr : Nat} {L : List UInt8} (h : WS w pb L) (hk : ∀ k, k < w.heap.size → k ≠ pr → w'.heap[k]? = w.heap[k]?) (hs : w.heap.size ≤ w'.heap.size) (hne : pr < pb) : WS w' pb L := by
  obtain ⟨v, h1, h2, h3, h4⟩ := h
  have hb := hk pb h4 (by omega)
  refine ⟨v, (World.cell?_of_block (w := w) (a := ⟨pb, 0, none⟩) hb).trans h1, (World.frozen?_of_block (w := w) (a := ⟨pb, 0, none⟩) hb).trans h2, ?_, Nat.lt_of_lt_of_le h4 hs⟩
  obtain ⟨o1, o2⟩ := h3
  refine ⟨o1, ?_⟩
  rcases o2 with o2 | ⟨g, cap, cur, e1, e2, e3, e4⟩
  · exact Or.inl o2
  · refine Or.inr ⟨g, cap, cur, e1, e2, ?_, e4⟩
    have hg : g < w.heap.size := by
      rcases Nat.lt_or_ge g w.heap.size with h | h
      · exact h
      · rw [Array.getElem?_eq_none h] at e3; cases e3
    rw [hk g hg (by omega)]; exact e3

set_option maxRecDepth 100000 in
theorem info5 : (Tryd.prog.info? 5).map (fun i => (i.zero, i.size, i.bytes)) = some (some (.int .u8 0), 1, 1) := by kernel_rfl
end Go.Proofs.YtnofibjchhcmeabDoor
