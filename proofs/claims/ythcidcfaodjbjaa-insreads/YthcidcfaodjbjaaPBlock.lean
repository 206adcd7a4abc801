/- A row of bytes that the call has made, written place by place: pack.putLow. -/
import Derived.Test.YthcidcfaodjbjaaPRead
namespace Go.Proofs.Ythcidcfaodjbjaa
open Go.RowKit
set_option linter.unusedVariables false

/-- block g holds just the bytes l -/
def Blk (w : World) (g : Nat) (l : List UInt8) : Prop := w.heap[g]? = some (.cells (bc l).toArray 5 (0, 0))

set_option maxRecDepth 100000 in
theorem Blk.cell {w : World} {g : Nat} {l : List UInt8} (h : Blk w g l) (p : Nat) (hp : p < l.length) : w.cell? ⟨g, p, none⟩ = some (.int .u8 (l[p].toNat : Int)) := by
  unfold Blk at h
  simp [World.cell?, h, bc, List.getElem?_map, List.getElem?_eq_getElem hp]
set_option maxRecDepth 100000 in
theorem Blk.frozen {w : World} {g : Nat} {l : List UInt8} (h : Blk w g l) (p : Nat) : w.frozen? ⟨g, p, none⟩ = false := by
  unfold Blk at h
  simp [World.frozen?, h]
set_option maxRecDepth 100000 in
theorem Blk.lt {w : World} {g : Nat} {l : List UInt8} (h : Blk w g l) : g < w.heap.size := by
  rcases Nat.lt_or_ge g w.heap.size with h' | h'
  · exact h'
  · unfold Blk at h; rw [Array.getElem?_eq_none h'] at h; cases h
set_option maxRecDepth 100000 in
theorem Blk.set {w : World} {g : Nat} {l : List UInt8} (h : Blk w g l) (p : Nat) (c : UInt8) : Blk (w.setCell ⟨g, p, none⟩ (.int .u8 (c.toNat : Int))) g (l.set p c) := by
  unfold Blk at h ⊢
  simp only [World.setCell, Array.getElem?_modify, if_true, h, Option.map_some]
  congr 2
  apply Array.toList_inj.1
  simp [bc, List.map_set]
set_option maxRecDepth 100000 in
theorem Blk.grown {w w' : World} {g : Nat} {l : List UInt8} (h : Blk w g l) (hb : w'.heap[g]? = w.heap[g]?) : Blk w' g l := by
  unfold Blk at h ⊢; rw [hb]; exact h
set_option maxRecDepth 100000 in
theorem Blk.rd {w : World} {g : Nat} {l : List UInt8} (h : Blk w g l) (o n cap : Nat) (ho : o + n ≤ l.length) (hc : n ≤ cap) (hm : cap ≤ maxLen) :
    Rd w (.slice (some ⟨g, o, none⟩) n cap) ((l.drop o).take n) := by
  have hl : ((l.drop o).take n).length = n := by simp; omega
  right
  refine ⟨g, o, cap, by rw [hl], by omega, hm, h.lt, fun i hi => ?_⟩
  rw [h.cell (o + i) (by omega)]
  simp

/-- only block g has been written -/
def Only (w w' : World) (g : Nat) : Prop := w.grownBy w' (some g) ∧ w'.heap.size = w.heap.size
set_option maxRecDepth 100000 in
theorem Only.refl (w : World) (g : Nat) : Only w w g := ⟨⟨rfl, rfl, rfl, Nat.le_refl _, fun _ _ _ => rfl⟩, rfl⟩
set_option maxRecDepth 100000 in
theorem Only.set {w w' : World} {g : Nat} (h : Only w w' g) (p : Nat) (v : Value) : Only w (w'.setCell ⟨g, p, none⟩ v) g := by
  obtain ⟨h1, h2⟩ := h
  refine ⟨⟨h1.os, h1.tape, h1.output, by simp [World.setCell]; exact h1.size, fun k hk hne => ?_⟩, by simp [World.setCell, h2]⟩
  rw [Below.heap_setCell _ _ _ _ (by intro e; exact hne (by rw [e]))]
  exact h1.block k hk hne
set_option maxRecDepth 100000 in
theorem Only.trans {a b c : World} {g : Nat} (h : Only a b g) (k : Only b c g) : Only a c g :=
  ⟨⟨k.1.os.trans h.1.os, k.1.tape.trans h.1.tape, k.1.output.trans h.1.output, Nat.le_trans h.1.size k.1.size, fun i hi hne => (k.1.block i (by have := h.2; omega) hne).trans (h.1.block i hi hne)⟩, k.2.trans h.2⟩
set_option maxRecDepth 100000 in
theorem Only.drew {a b : World} {g : Nat} (h : Only a b g) (n : Nat) : Only a (b.drewN n) g :=
  ⟨⟨h.1.os, h.1.tape, h.1.output, h.1.size, h.1.block⟩, h.2⟩
set_option maxRecDepth 100000 in
theorem Only.below {w w' : World} {g B : Nat} (h : Only w w' g) (hB : B ≤ g) (hs : g < w.heap.size) : Below B w w' :=
  (Below.refl _ _).grown h.1 (by omega) (fun k hk => by cases hk; exact hB)

/-- the k lowest bytes of a number -/
def lowB : Nat → Nat → List UInt8
  | _, 0 => []
  | n, k + 1 => UInt8.ofNat (n % 256) :: lowB (n / 256) k
set_option maxRecDepth 100000 in
theorem lowB_len : ∀ k n, (lowB n k).length = k
  | 0, n => rfl
  | k + 1, n => by simp [lowB, lowB_len k]
set_option maxRecDepth 100000 in
theorem lowB_succ (n k : Nat) : lowB n (k + 1) = UInt8.ofNat (n % 256) :: lowB (n / 256) k := rfl
/-- bytes laid over others from a place on -/
def over (l : List UInt8) (o : Nat) (m : List UInt8) : List UInt8 := l.take o ++ m ++ l.drop (o + m.length)
set_option maxRecDepth 100000 in
theorem over_len (l : List UInt8) (o : Nat) (m : List UInt8) (h : o + m.length ≤ l.length) : (over l o m).length = l.length := by
  simp [over]; omega
set_option maxRecDepth 100000 in
theorem over_nil (l : List UInt8) (o : Nat) : over l o [] = l := by simp [over]
set_option maxRecDepth 100000 in
theorem over_cons (l : List UInt8) (o : Nat) (c : UInt8) (m : List UInt8) (h : o < l.length) : over (l.set o c) (o + 1) m = over l o (c :: m) := by
  unfold over
  rw [List.take_set, List.drop_set_of_lt (by omega), List.length_cons]
  have e : (List.take (o + 1) l).set o c = List.take o l ++ [c] := by
    rw [List.take_succ_eq_append_getElem h, List.set_append_right _ _ (by simp; omega)]
    simp [List.length_take, Nat.min_eq_left (Nat.le_of_lt h)]
  rw [e, List.append_assoc, List.append_assoc, List.append_assoc]
  congr 1
  simp only [List.cons_append, List.nil_append]
  rw [show o + 1 + m.length = o + (m.length + 1) by omega]

end Go.Proofs.Ythcidcfaodjbjaa
