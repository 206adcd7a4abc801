/- A call of both stores, where the document's has no versions: the frame. -/
import Derived.Test.YtdohclnmcdempaaVrD
import Derived.Deep.RegionHeld3
import Derived.BigRegion
namespace Go.Proofs.Ytdohclnmcdempaa
open Go.RowKit Go.Maps
set_option linter.unusedVariables false

/-- a store beside three boxes: the document's empty store, a call, the answer -/
structure OB (X Y : Nat → Prop) (w : World) (g0 g1 g2 : Nat) (x : O4) (sb n : Nat) (K : Nat → Ch2) (wr : World) : Prop where
  s : SX Y sb 512 64 n K wr
  b0 : wr.heap[g0]? = some (.cells #[.int .i64 64, .int .i64 512, .slice none 0 0] 49)
  b1 : XB4 wr g1 x
  b2 : wr.heap[g2]? = some (.cells #[.int .i64 0, .int .i64 0, .slice none 0 0] 49)
  y : Y g0 ∧ Y g1 ∧ Y g2
  xy : ∀ k, X k → Y k
  d : w.heap.size ≤ g0 ∧ g0 < g1 ∧ g1 < g2
  c : Ch (no X) w wr
section
variable {X Y : Nat → Prop} {w wr wr' : World} {g0 g1 g2 : Nat} {x : O4} {sb n n' : Nat} {K K' : Nat → Ch2}
theorem OB.below (h : OB X Y w g0 g1 g2 x sb n K wr) (b : Below wr.heap.size wr wr') : OB X Y w g0 g1 g2 x sb n K wr' :=
  ⟨h.s.same b, (b.block _ (Array.getElem?_eq_some_iff.1 h.b0).1).trans h.b0, h.b1.below b, (b.block _ (Array.getElem?_eq_some_iff.1 h.b2).1).trans h.b2, h.y, h.xy, h.d, h.c.trans (Ch.of b)⟩
theorem OB.next (h : OB X Y w g0 g1 g2 x sb n K wr) (s : SX Y sb 512 64 n' K' wr') (c : Ch (no Y) wr wr') : OB X Y w g0 g1 g2 x sb n' K' wr' :=
  ⟨s, c.heap h.b0 (fun q => q h.y.1), h.b1.ch c h.y.2.1, c.heap h.b2 (fun q => q h.y.2.2), h.y, h.xy, h.d, h.c.trans (c.mono (fun k hk hx => hk (h.xy k hx)))⟩
theorem OB.more (h : OB X Y w g0 g1 g2 x sb n K wr) (A : Obj) : OB X (fun k => Y k ∨ k = wr.heap.size) w g0 g1 g2 x sb n K (wr.alloc A) := by
  have hb := h.below (bl1 wr A)
  refine ⟨h.s.more (bl1 wr A) (fun k hk => ?_), hb.b0, hb.b1, hb.b2, ⟨.inl h.y.1, .inl h.y.2.1, .inl h.y.2.2⟩, fun k hk => .inl (h.xy k hk), h.d, hb.c⟩
  rcases hk with q | rfl
  · obtain ⟨lab, s, l⟩ := h.s
    exact ⟨.inl q, Nat.lt_of_lt_of_le (l k q).2 (bl1 wr A).size⟩
  · exact ⟨.inr (Nat.le_refl _), by simp⟩
theorem OB.first {w : World} (h : SX X sb 512 64 n K w) (hX : ∀ k, X k → k < w.heap.size) (x : O4) : OB X (fun k => X k ∨ k = w.heap.size ∨ k = w.heap.size + 1 ∨ k = w.heap.size + 2) w w.heap.size (w.heap.size + 1) (w.heap.size + 2) x sb n K
    (((w.alloc (.cells #[.int .i64 64, .int .i64 512, .slice none 0 0] 49)).alloc (.cells #[.int .i64 x.kd, .int .i64 x.at_, .int .i64 x.ag, .int .i64 x.vl] 55)).alloc (.cells #[.int .i64 0, .int .i64 0, .slice none 0 0] 49)) := by
  have HB3 : ∀ A B C, Below w.heap.size w (((w.alloc A).alloc B).alloc C) := fun A B C => ((bl1 w A).alloc (bl1 w A).size B).alloc ((bl1 w A).alloc (bl1 w A).size B).size C
  refine ⟨h.more (HB3 _ _ _) (fun k hk => ?_), ?_, ?_, ?_, ⟨.inr (.inl rfl), .inr (.inr (.inl rfl)), .inr (.inr (.inr rfl))⟩, fun k hk => .inl hk, ⟨Nat.le_refl _, by omega, by omega⟩, Ch.of (HB3 _ _ _)⟩
  · rcases hk with q | q | q | q
    · have := hX k q; exact ⟨.inl q, by simp; omega⟩
    · exact ⟨.inr (by omega), by simp; omega⟩
    · exact ⟨.inr (by omega), by simp; omega⟩
    · exact ⟨.inr (by omega), by simp; omega⟩
  · rw [heap_alloc_old _ _ (by simp; omega), heap_alloc_old _ _ (by simp), heap_alloc_new]
  · unfold XB4
    rw [heap_alloc_old _ _ (by simp)]
    exact heap_alloc2_new _ _ _
  · have := heap_alloc_new ((w.alloc (.cells #[.int .i64 64, .int .i64 512, .slice none 0 0] 49)).alloc (.cells #[.int .i64 x.kd, .int .i64 x.at_, .int .i64 x.ag, .int .i64 x.vl] 55)) (.cells #[.int .i64 0, .int .i64 0, .slice none 0 0] 49)
    simpa using this
theorem OB.c0 (h : OB X Y w g0 g1 g2 x sb n K wr) : wr.cell? ⟨g0, 0, none⟩ = some (.int .i64 64) ∧ wr.cell? ⟨g0, 1, none⟩ = some (.int .i64 512) ∧ wr.cell? ⟨g0, 2, none⟩ = some (.slice none 0 0) := by
  refine ⟨?_, ?_, ?_⟩ <;> (rw [cell_of_row wr g0 _ _ _ _ h.b0]; rfl)
theorem OB.c2 (h : OB X Y w g0 g1 g2 x sb n K wr) : wr.cell? ⟨g2, 0, none⟩ = some (.int .i64 0) ∧ wr.cell? ⟨g2, 1, none⟩ = some (.int .i64 0) ∧ wr.cell? ⟨g2, 2, none⟩ = some (.slice none 0 0) := by
  refine ⟨?_, ?_, ?_⟩ <;> (rw [cell_of_row wr g2 _ _ _ _ h.b2]; rfl)
theorem OB.f2 (h : OB X Y w g0 g1 g2 x sb n K wr) (i : Nat) : wr.frozen? ⟨g2, i, none⟩ = false := frozen_of_row wr g2 i _ _ h.b2
/-- what a call of both leaves -/
def OneQ (X : Nat → Prop) (sb n : Nat) (K : Nat → Ch2) (w : World) (e : Ending) (w' : World) : Prop := (∃ v, e = .returned v) ∧ SX X sb 512 64 n K w' ∧ Ch (no X) w w'
theorem OB.done (h : OB X Y w g0 g1 g2 x sb n K wr) (hX : ∀ k, X k → k < w.heap.size) (hn : n ≤ n') (e : Value) (a b c : Value) : OneQ X sb n' K w (.returned e) (((wr.setCell ⟨g2, 0, none⟩ a).setCell ⟨g2, 1, none⟩ b).setCell ⟨g2, 2, none⟩ c) ∧ (((wr.setCell ⟨g2, 0, none⟩ a).setCell ⟨g2, 1, none⟩ b).setCell ⟨g2, 2, none⟩ c).heap[g2]? = some (.cells #[a, b, c] 49) := by
  have hg : no X g2 ∨ w.heap.size ≤ g2 := .inr (by have := h.d; omega)
  refine ⟨⟨⟨e, rfl⟩, ?_, ((h.c.set hg 0 a).set hg 1 b).set hg 2 c⟩, put3V h.b2⟩
  have s := ((h.s.set h.y.2.2 0 a).set h.y.2.2 1 b).set h.y.2.2 2 c
  obtain ⟨lab, s1, l1⟩ := s
  obtain ⟨ab, ub, hb, wb, mb, ob, L, H, C, cv, D, s2, rfl⟩ := s1
  exact ⟨lab, ⟨ab, ub, hb, wb, mb, ob, L, H, C, cv, D, s2.mono hn, rfl⟩, fun k hk => l1 k (h.xy k hk)⟩
end
end Go.Proofs.Ytdohclnmcdempaa
