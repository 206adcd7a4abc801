/- ArenaPlays: what lies in memory. -/
import Derived.Test.YtdohclnmcdempaaRfD
import Derived.Test.YtdohclnmcdempaaArE
namespace Go.Proofs.Ytdohclnmcdempaa
open Go.RowKit Go.Maps
set_option linter.unusedVariables false

/-- what the arena leaves alone: what was, the document's arena, its list -/
def Xp (w : World) (rb : Nat) (lv : Value) : Nat → Prop := fun k => k < w.heap.size ∨ k = rb ∨ lv.ownBlock = some k
/-- the document's arena beside any blocks -/
structure PR (w : World) (rb N : Nat) (L : List Nat) (lv : Value) (wr : World) : Prop where
  rr : wr.heap[rb]? = some (.cells #[.int .i64 (N : Int), lv] 28)
  ls : GSl wr lv (cs L)
  bel : Below w.heap.size w wr
  r0 : w.heap.size ≤ rb
  lk : lv.ownBlock ≠ some rb
  lt : ∀ k, lv.ownBlock = some k → k < wr.heap.size
structure PI (w : World) (rb ab ub N : Nat) (L M : List Nat) (lv : Value) (wr : World) : Prop where
  ar : AB (Xp w rb lv) ab ub N L wr
  pr : PR w rb N M lv wr
section
variable {w : World} {rb ab ub N : Nat} {L M : List Nat} {lv : Value} {wr wr' : World}
theorem PR.c0 (h : PR w rb N L lv wr) : wr.cell? ⟨rb, 0, none⟩ = some (.int .i64 (N : Int)) := by rw [cell_of_row wr rb 0 _ _ _ h.rr]; rfl
theorem PR.c1 (h : PR w rb N L lv wr) : wr.cell? ⟨rb, 1, none⟩ = some lv := by rw [cell_of_row wr rb 1 _ _ _ h.rr]; rfl
theorem PR.f (h : PR w rb N L lv wr) (j : Nat) : wr.frozen? ⟨rb, j, none⟩ = false := frozen_of_row wr rb j _ _ h.rr
theorem PR.same (h : PR w rb N L lv wr) (c : Below wr.heap.size wr wr') : PR w rb N L lv wr' :=
  ⟨(c.block _ (Array.getElem?_eq_some_iff.1 h.rr).1).trans h.rr, h.ls.below c, h.bel.trans (c.mono h.bel.size), h.r0, h.lk, fun k hk => Nat.lt_of_lt_of_le (h.lt k hk) c.size⟩
theorem PI.same (h : PI w rb ab ub N L M lv wr) (c : Below wr.heap.size wr wr') : PI w rb ab ub N L M lv wr' := ⟨h.ar.below c, h.pr.same c⟩
/-- a call of the arena -/
theorem PI.call (h : PI w rb ab ub N L M lv wr) {L' : List Nat} (a : AB (Xp w rb lv) ab ub N L' wr') (c : Ch (no (Xp w rb lv)) wr wr') : PI w rb ab ub N L' M lv wr' := by
  refine ⟨a, ⟨c.heap h.pr.rr (fun q => q (.inr (.inl rfl))), h.pr.ls.keepO (fun k hk => c.block k (h.pr.lt k hk) (fun q => q (.inr (.inr hk)))), h.pr.bel.trans (c.noB h.pr.bel.size (fun k hk => .inl hk)), h.pr.r0, h.pr.lk, fun k hk => Nat.lt_of_lt_of_le (h.pr.lt k hk) c.size⟩⟩
/-- a call of the document's -/
theorem PI.put (h : PI w rb ab ub N L M lv wr) {M' : List Nat} {lv' : Value} (c : Below wr.heap.size wr wr') (g : GSl wr' lv' (cs M')) (nv : NewV wr wr' lv lv') :
    PI w rb ab ub N L M' lv' ((wr'.setCell ⟨rb, 0, none⟩ (.int .i64 (N : Int))).setCell ⟨rb, 1, none⟩ lv') := by
  have hrl := (Array.getElem?_eq_some_iff.1 h.pr.rr).1
  have hs := h.pr.bel.size
  have hl : lv'.ownBlock ≠ some rb := fun q => by
    rcases (nv rb q).1 with r | r
    · exact h.pr.lk r
    · omega
  have har : AB (Xp w rb lv') ab ub N L wr' := h.ar.more c (fun k hk => by
    have cs := c.size
    rcases hk with q | rfl | q
    · exact ⟨.inl (.inl q), by omega⟩
    · exact ⟨.inl (.inr (.inl rfl)), by omega⟩
    · refine ⟨?_, (nv k q).2⟩
      rcases (nv k q).1 with r | r
      · exact .inl (.inr (.inr r))
      · exact .inr r)
  have hsz : ((wr'.setCell ⟨rb, 0, none⟩ (.int .i64 (N : Int))).setCell ⟨rb, 1, none⟩ lv').heap.size = wr'.heap.size := by simp [World.setCell]
  refine ⟨(har.set (.inr (.inl rfl)) 0 _).set (.inr (.inl rfl)) 1 _, ⟨put2A ((c.block _ hrl).trans h.pr.rr), ?_, ((h.pr.bel.trans (c.mono hs)).setCell (p := ⟨rb, 0, none⟩) h.pr.r0 _).setCell (p := ⟨rb, 1, none⟩) h.pr.r0 _, h.pr.r0, hl, fun k hk => by rw [hsz]; exact (nv k hk).2⟩⟩
  refine g.keepO (fun k hk => ?_)
  have : k ≠ rb := fun e => hl (e ▸ hk)
  exact (Below.heap_setCell _ _ _ _ this).trans (Below.heap_setCell _ _ _ _ this)
theorem PI.first {w w1 w2 : World} {lv : Value} (a : AB (fun k => k < w.heap.size) ab ub N L w1) (b1 : Below w.heap.size w w1) (b2 : Below w1.heap.size w1 w2) (hi : IZ w2 w1.heap.size lv (cs M)) :
    PI w w2.heap.size ab ub N L M lv (w2.alloc (.cells #[.int .i64 (N : Int), lv] 28)) := by
  have s1 := b1.size
  have s2 := b2.size
  have hb : Below w.heap.size w w2 := b1.trans (b2.mono s1)
  have hg := hi.gsl
  refine ⟨a.more (b2.trans ((bl1 w2 _).mono s2)) (fun k hk => ?_), ⟨heap_alloc_new _ _, hg.below (bl1 _ _), hb.alloc (by omega) _, by omega, fun q => ?_, fun k hk => ?_⟩⟩
  · rcases hk with q | rfl | q
    · exact ⟨.inl q, by simp; omega⟩
    · exact ⟨.inr s2, by simp⟩
    · have := hi.own q; exact ⟨.inr this.1, by simp; omega⟩
  · have := (hi.own q).2; omega
  · have := (hi.own hk).2; simp; omega
end
end Go.Proofs.Ytdohclnmcdempaa
