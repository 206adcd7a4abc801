/- The registers' forms as they lie in memory. -/
import Derived.Test.YtcaefimnhoeimaaFmD
import Derived.Test.YtcaefimnhoeimaaLst
namespace Go.Proofs.Ytcaefimnhoeimaa
open Go.RowKit
set_option linter.unusedVariables false

def rcs : List Fm → List Value
  | [] => []
  | f :: R => .bool f.k :: .int .i64 f.a :: .int .i64 f.c :: rcs R
theorem rcs_at : ∀ (R : List Fm) (q : Nat), q < R.length → (rcs R)[q * 3]? = some (.bool (R.getD q fz).k) ∧ (rcs R)[q * 3 + 1]? = some (.int .i64 (R.getD q fz).a) ∧ (rcs R)[q * 3 + 2]? = some (.int .i64 (R.getD q fz).c)
  | [], q, h => by simp at h
  | f :: R, 0, h => ⟨rfl, rfl, rfl⟩
  | f :: R, q + 1, h => by
    have ih := rcs_at R q (by simpa using h)
    have e0 : (q + 1) * 3 = q * 3 + 1 + 1 + 1 := by omega
    have e1 : (q + 1) * 3 + 1 = q * 3 + 1 + 1 + 1 + 1 := by omega
    have e2 : (q + 1) * 3 + 2 = q * 3 + 2 + 1 + 1 + 1 := by omega
    rw [e2, e1, e0]
    simpa [rcs] using ih
theorem rcs_set : ∀ (R : List Fm) (q : Nat) (f : Fm), (((rcs R).set (q * 3) (.bool f.k)).set (q * 3 + 1) (.int .i64 f.a)).set (q * 3 + 2) (.int .i64 f.c) = rcs (R.set q f)
  | [], q, f => rfl
  | g :: R, 0, f => rfl
  | g :: R, q + 1, f => by
    have ih := rcs_set R q f
    have e0 : (q + 1) * 3 = q * 3 + 1 + 1 + 1 := by omega
    have e1 : (q + 1) * 3 + 1 = q * 3 + 1 + 1 + 1 + 1 := by omega
    have e2 : (q + 1) * 3 + 2 = q * 3 + 2 + 1 + 1 + 1 := by omega
    rw [e2, e1, e0]
    simpa [rcs] using ih
structure FB (w : World) (fb : Nat) (R : List Fm) : Prop where
  ok : OkR R
  blk : w.heap[fb]? = some (.cells (rcs R).toArray 79)
/-- of the blocks that were, only fb is written -/
structure Ch (vb : Nat) (w w' : World) : Prop where
  os : w'.os = w.os
  tape : w'.tape = w.tape
  output : w'.output = w.output
  size : w.heap.size ≤ w'.heap.size
  block : ∀ k, k < w.heap.size → k ≠ vb → w'.heap[k]? = w.heap[k]?
theorem Ch.refl (vb : Nat) (w : World) : Ch vb w w := ⟨rfl, rfl, rfl, Nat.le_refl _, fun _ _ _ => rfl⟩
theorem Ch.trans {vb : Nat} {a b c : World} (h : Ch vb a b) (k : Ch vb b c) : Ch vb a c :=
  ⟨k.os.trans h.os, k.tape.trans h.tape, k.output.trans h.output, Nat.le_trans h.size k.size, fun i hi hn => (k.block i (Nat.lt_of_lt_of_le hi h.size) hn).trans (h.block i hi hn)⟩
theorem Ch.of {vb : Nat} {a b : World} (h : Below a.heap.size a b) : Ch vb a b := ⟨h.os, h.tape, h.output, h.size, fun k hk _ => h.block k hk⟩
theorem Ch.set {vb : Nat} {a b : World} (h : Ch vb a b) (i : Nat) (v : Value) : Ch vb a (b.setCell ⟨vb, i, none⟩ v) :=
  ⟨h.os, h.tape, h.output, by simpa [World.setCell] using h.size, fun k hk hn => (Below.heap_setCell _ _ _ _ hn).trans (h.block k hk hn)⟩
theorem Ch.alloc {vb : Nat} {a b : World} (h : Ch vb a b) (o : Obj) : Ch vb a (b.alloc o) :=
  ⟨h.os, h.tape, h.output, by simp; have := h.size; omega, fun k hk hn => (Below.heap_alloc _ _ _ (Nat.lt_of_lt_of_le hk h.size)).trans (h.block k hk hn)⟩
theorem Ch.drew {vb : Nat} {a b : World} (h : Ch vb a b) : Ch vb a b.drew := ⟨h.os, h.tape, h.output, h.size, h.block⟩
theorem Ch.drewN {vb : Nat} {a b : World} (h : Ch vb a b) (n : Nat) : Ch vb a (b.drewN n) := ⟨h.os, h.tape, h.output, h.size, h.block⟩
theorem Ch.cell {vb : Nat} {w w' : World} (h : Ch vb w w') {b i : Nat} (hb : b < w.heap.size) (hn : b ≠ vb) : w'.cell? ⟨b, i, none⟩ = w.cell? ⟨b, i, none⟩ := World.cell?_of_block (w := w) (a := ⟨b, i, none⟩) (h.block b hb hn)

theorem FB.lt {w : World} {fb : Nat} {R : List Fm} (h : FB w fb R) : fb < w.heap.size := (Array.getElem?_eq_some_iff.1 h.blk).1
theorem FB.below {w w' : World} {fb : Nat} {R : List Fm} (h : FB w fb R) (hb : Below w.heap.size w w') : FB w' fb R := ⟨h.ok, (hb.block fb h.lt).trans h.blk⟩
theorem FB.alloc {w : World} {fb : Nat} {R : List Fm} (h : FB w fb R) (o : Obj) : FB (w.alloc o) fb R := ⟨h.ok, (Below.heap_alloc _ _ _ h.lt).trans h.blk⟩
theorem FB.drew {w : World} {fb : Nat} {R : List Fm} (h : FB w fb R) : FB w.drew fb R := ⟨h.ok, h.blk⟩
theorem FB.drewN {w : World} {fb : Nat} {R : List Fm} (h : FB w fb R) (n : Nat) : FB (w.drewN n) fb R := ⟨h.ok, h.blk⟩
theorem FB.frz {w : World} {fb : Nat} {R : List Fm} (h : FB w fb R) (j : Nat) : w.frozen? ⟨fb, j, none⟩ = false := frozen_of_row w fb j _ _ h.blk
theorem FB.c {w : World} {fb : Nat} {R : List Fm} (h : FB w fb R) (q : Nat) (hq : q < 16) : w.cell? ⟨fb, q * 3, none⟩ = some (.bool (rgF R (q : Int)).k) ∧ w.cell? ⟨fb, q * 3 + 1, none⟩ = some (.int .i64 (rgF R (q : Int)).a) ∧ w.cell? ⟨fb, q * 3 + 2, none⟩ = some (.int .i64 (rgF R (q : Int)).c) := by
  obtain ⟨h0, h1, h2⟩ := rcs_at R q (by rw [h.ok.1]; exact hq)
  have e : rgF R (q : Int) = R.getD q fz := by unfold rgF; rw [Int.toNat_natCast]
  rw [e]
  refine ⟨?_, ?_, ?_⟩
  · rw [cell_of_row w fb _ _ _ _ h.blk]; simpa using h0
  · rw [cell_of_row w fb _ _ _ _ h.blk]; simpa using h1
  · rw [cell_of_row w fb _ _ _ _ h.blk]; simpa using h2
theorem FB.put {w : World} {fb : Nat} {R : List Fm} (h : FB w fb R) (q : Nat) (f : Fm) (hf : OkF f) : FB (((w.setCell ⟨fb, q * 3, none⟩ (.bool f.k)).setCell ⟨fb, q * 3 + 1, none⟩ (.int .i64 f.a)).setCell ⟨fb, q * 3 + 2, none⟩ (.int .i64 f.c)) fb (R.set q f) := by
  refine ⟨h.ok.set q hf, ?_⟩
  have h1 := heap_setCell_same w fb (q * 3) _ 79 (.bool f.k) h.blk
  have h2 := heap_setCell_same _ fb (q * 3 + 1) _ 79 (.int .i64 f.a) h1
  have h3 := heap_setCell_same _ fb (q * 3 + 2) _ 79 (.int .i64 f.c) h2
  rw [h3, ← rcs_set]
  simp
theorem Ch.put {w W : World} {fb : Nat} (h : Ch fb w W) (q : Nat) (a b c : Value) : Ch fb w (((W.setCell ⟨fb, q * 3, none⟩ a).setCell ⟨fb, q * 3 + 1, none⟩ b).setCell ⟨fb, q * 3 + 2, none⟩ c) := ((h.set _ _).set _ _).set _ _

/-- an instruction that may be -/
structure OkI (x : In) : Prop where
  kd : 1 ≤ x.kind ∧ x.kind ≤ 13
  a : 0 ≤ x.a ∧ x.a < 16
  b : 0 ≤ x.b ∧ x.b < 16
  c : 0 ≤ x.c ∧ x.c < 16
  op : (x.kind = 4 → 19 ≤ x.op ∧ x.op ≤ 21) ∧ (x.kind = 5 → 1 ≤ x.op ∧ x.op ≤ 18)
def PaP (fb : Nat) (R : List Fm) (w : World) (e : Ending) (w' : World) : Prop := e = .returned (.tuple #[]) ∧ FB w' fb R ∧ Ch fb w w'
end Go.Proofs.Ytcaefimnhoeimaa
