/- A dealer in a law's walk: what came in, the dealer, and which ages are got. -/
import Derived.Test.YtamlnagipmomgaaChP
namespace Go.Proofs.Ytamlnagipmomgaa
open Go.RowKit Go.Maps
set_option linter.unusedVariables false

def GSl (w : World) (v : Value) (G : List Int) : Prop :=
  ∃ a c b o, v = .slice a G.length c ∧ G.length ≤ c ∧ c ≤ maxLen ∧ (0 < G.length → a = some ⟨b, o, none⟩) ∧ ∀ i (h : i < G.length), w.cell? ⟨b, o + i, none⟩ = some (.int .i64 G[i])
theorem GSl.below {w w' : World} {v : Value} {G : List Int} (h : GSl w v G) (hb : Below w.heap.size w w') : GSl w' v G := by
  obtain ⟨a, c, b, o, h1, h2, h3, h4, h5⟩ := h
  exact ⟨a, c, b, o, h1, h2, h3, h4, fun i hi => (hb.cell (p := ⟨b, o + i, none⟩) (World.block_lt_of_cell? w _ (h5 i hi))).trans (h5 i hi)⟩
/-- what came in, in a block of its own -/
def XB (w : World) (x : Nat) (p s k n : Int) (v : Value) : Prop := w.heap[x]? = some (.cells #[.int .i64 p, .int .i64 s, .int .i64 k, .int .i64 n, v] 44)
theorem XB.all {w : World} {x : Nat} {p s k n : Int} {v : Value} (h : XB w x p s k n v) : w.cell? ⟨x, 0, none⟩ = some (.int .i64 p) ∧ w.cell? ⟨x, 1, none⟩ = some (.int .i64 s) ∧ w.cell? ⟨x, 2, none⟩ = some (.int .i64 k) ∧ w.cell? ⟨x, 3, none⟩ = some (.int .i64 n) ∧ w.cell? ⟨x, 4, none⟩ = some v := by
  unfold XB at h
  refine ⟨?_, ?_, ?_, ?_, ?_⟩ <;> (rw [cell_of_row w x _ _ _ _ h]; rfl)
theorem XB.lt {w : World} {x : Nat} {p s k n : Int} {v : Value} (h : XB w x p s k n v) : x < w.heap.size := (Array.getElem?_eq_some_iff.1 h).1
theorem XB.below {w w' : World} {x : Nat} {p s k n : Int} {v : Value} (h : XB w x p s k n v) (b : Below w.heap.size w w') : XB w' x p s k n v := (b.block _ h.lt).trans h
theorem XB.new (w : World) (p s k n : Int) (v : Value) : XB (w.alloc (.cells #[.int .i64 p, .int .i64 s, .int .i64 k, .int .i64 n, v] 44)) w.heap.size p s k n v := heap_alloc_new _ _
/-- the walk of ChunkLeast: the dealer at next and turns, the truths G in block gb -/
structure LI (w : World) (x gb db tb : Nat) (p s k n : Int) (v : Value) (W : Nat) (next : Int) (turns : List Int) (G : List Bool) (wr : World) : Prop where
  dl : DL wr db tb p s n next turns
  len : turns.length = W
  box : XB wr x p s k n v
  got : wr.heap[gb]? = some (.cells (bls G) 4)
  glen : G.length = n.toNat + 1
  gdl : ∀ a : Nat, (h : a < n.toNat) → G[a]'(by omega) = Go.Proofs.Ytamlnagipmomgaa.dl p s.toNat next turns a
  bel : Below w.heap.size w wr
  x0 : w.heap.size ≤ x
  g0 : w.heap.size ≤ gb
  d0 : w.heap.size ≤ db
  t0 : w.heap.size ≤ tb
  n1 : x ≠ gb
  n2 : x ≠ db
  n3 : x ≠ tb
  n4 : gb ≠ db
  n5 : gb ≠ tb
section
variable {w : World} {x gb db tb : Nat} {p s k n : Int} {v : Value} {W : Nat} {next : Int} {turns : List Int} {G : List Bool} {wr wr' : World}
theorem LI.same (h : LI w x gb db tb p s k n v W next turns G wr) (c : Below wr.heap.size wr wr') : LI w x gb db tb p s k n v W next turns G wr' :=
  ⟨h.dl.below c, h.len, h.box.below c, (c.block _ (Array.getElem?_eq_some_iff.1 h.got).1).trans h.got, h.glen, h.gdl, h.bel.trans (c.mono h.bel.size), h.x0, h.g0, h.d0, h.t0, h.n1, h.n2, h.n3, h.n4, h.n5⟩
theorem LI.cell (h : LI w x gb db tb p s k n v W next turns G wr) (i : Nat) (hi : i < G.length) : wr.cell? ⟨gb, i, none⟩ = some (.bool G[i]) := by rw [cell_of_row wr gb i _ _ _ h.got, bls_at _ _ hi]
/-- between an ask and what is marked for it: the dealer has gone on, the truths have not -/
structure LJ (w : World) (x gb db tb : Nat) (p s k n : Int) (v : Value) (W : Nat) (next : Int) (turns : List Int) (G : List Bool) (wr : World) : Prop where
  dl : DL wr db tb p s n next turns
  len : turns.length = W
  box : XB wr x p s k n v
  got : wr.heap[gb]? = some (.cells (bls G) 4)
  glen : G.length = n.toNat + 1
  bel : Below w.heap.size w wr
  x0 : w.heap.size ≤ x
  g0 : w.heap.size ≤ gb
  d0 : w.heap.size ≤ db
  t0 : w.heap.size ≤ tb
  n1 : x ≠ gb
  n2 : x ≠ db
  n3 : x ≠ tb
  n4 : gb ≠ db
  n5 : gb ≠ tb
theorem LJ.same (h : LJ w x gb db tb p s k n v W next turns G wr) (c : Below wr.heap.size wr wr') : LJ w x gb db tb p s k n v W next turns G wr' :=
  ⟨h.dl.below c, h.len, h.box.below c, (c.block _ (Array.getElem?_eq_some_iff.1 h.got).1).trans h.got, h.glen, h.bel.trans (c.mono h.bel.size), h.x0, h.g0, h.d0, h.t0, h.n1, h.n2, h.n3, h.n4, h.n5⟩
theorem LJ.cell (h : LJ w x gb db tb p s k n v W next turns G wr) (i : Nat) (hi : i < G.length) : wr.cell? ⟨gb, i, none⟩ = some (.bool G[i]) := by rw [cell_of_row wr gb i _ _ _ h.got, bls_at _ _ hi]
theorem LJ.frz (h : LJ w x gb db tb p s k n v W next turns G wr) (i : Nat) : wr.frozen? ⟨gb, i, none⟩ = false := frozen_of_row wr gb i _ _ h.got
theorem LJ.set (h : LJ w x gb db tb p s k n v W next turns G wr) (i : Nat) (z : Bool) : LJ w x gb db tb p s k n v W next turns (G.set i z) (wr.setCell ⟨gb, i, none⟩ (.bool z)) := by
  refine ⟨h.dl.other h.n4.symm h.n5.symm _ _, h.len, (Below.heap_setCell _ _ _ _ h.n1).trans h.box, ?_, by simpa using h.glen, h.bel.setCell (p := ⟨gb, i, none⟩) h.g0 _, h.x0, h.g0, h.d0, h.t0, h.n1, h.n2, h.n3, h.n4, h.n5⟩
  rw [heap_setCell_same wr gb i _ 4 _ h.got, bls_set]
/-- an ask: what it leaves -/
theorem LI.ask (h : LI w x gb db tb p s k n v W next turns G wr) {wk : Int} {w4 : World} (D : DL w4 db tb p s n (askN p s n next turns wk) (askT p s n next turns wk)) (C : Ch (dw db tb) wr w4) : LJ w x gb db tb p s k n v W (askN p s n next turns wk) (askT p s n next turns wk) G w4 := by
  have hq : ∀ q, dw db tb q → w.heap.size ≤ q := fun q hq => by rcases hq with rfl | rfl; exact h.d0; exact h.t0
  refine ⟨D, ?_, C.heap h.box (by unfold dw; have := h.n2; have := h.n3; omega), C.heap h.got (by unfold dw; have := h.n4; have := h.n5; omega), h.glen, h.bel.trans (C.below h.bel.size hq), h.x0, h.g0, h.d0, h.t0, h.n1, h.n2, h.n3, h.n4, h.n5⟩
  rw [(ask_dl h.dl.ok wk).2.2.2.2.1]; exact h.len
end
/-- the truths with the ages from a on below m marked -/
def markG (G : List Bool) (a m : Nat) : List Bool := (List.range G.length).map fun i => G.getD i false || decide (a ≤ i ∧ i < m)
theorem markG_len (G : List Bool) (a m : Nat) : (markG G a m).length = G.length := by simp [markG]
theorem markG_at (G : List Bool) (a m i : Nat) (h : i < G.length) (h2 : i < (markG G a m).length) : (markG G a m)[i] = (G[i] || decide (a ≤ i ∧ i < m)) := by simp [markG, List.getD, h]
theorem markG_none (G : List Bool) (a : Nat) : markG G a a = G := by
  apply List.ext_getElem (markG_len _ _ _)
  intro i h1 h2
  rw [markG_at G a a i h2]
  have : decide (a ≤ i ∧ i < a) = false := by simp
  rw [this, Bool.or_false]
theorem markG_next (G : List Bool) (a m : Nat) (h : a ≤ m) (hm : m < G.length) : (markG G a m).set m true = markG G a (m + 1) := by
  apply List.ext_getElem (by simp [markG])
  intro i h1 h2
  have hi : i < G.length := by rw [markG_len] at h2; exact h2
  rw [markG_at G a (m + 1) i hi, List.getElem_set]
  split
  · subst_vars; simp; omega
  · rw [markG_at G a m i hi]
    congr 1
    exact decide_eq_decide.2 (by omega)
/-- an ask whose ages are marked -/
theorem LJ.done {w : World} {x gb db tb : Nat} {p s k n : Int} {v : Value} {W : Nat} {next : Int} {turns : List Int} {G : List Bool} {wr w5 : World} (h0 : LI w x gb db tb p s k n v W next turns G wr) {wk : Int} {a b : Nat}
    (hx : askX p s n next turns wk = ((a : Int), (b : Int))) (h : LJ w x gb db tb p s k n v W (askN p s n next turns wk) (askT p s n next turns wk) (markG G a b) w5) : LI w x gb db tb p s k n v W (askN p s n next turns wk) (askT p s n next turns wk) (markG G a b) w5 := by
  refine ⟨h.dl, h.len, h.box, h.got, h.glen, fun i hi => ?_, h.bel, h.x0, h.g0, h.d0, h.t0, h.n1, h.n2, h.n3, h.n4, h.n5⟩
  have hl := h0.glen
  rw [markG_at G a b i (by omega), h0.gdl i hi, ((ask_dl h0.dl.ok wk).2.2.2.2.2 i hi).1, hx]
  congr 1
  exact decide_eq_decide.2 (by simp only []; omega)
end Go.Proofs.Ytamlnagipmomgaa
