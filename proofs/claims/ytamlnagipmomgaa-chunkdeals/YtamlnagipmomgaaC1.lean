/- A dealer as it lies in memory. -/
import Derived.Test.YtamlnagipmomgaaProg
import Derived.Below
import Derived.WalkKit
import Derived.WalkSpells
import Derived.WalkLawsBesides
import Derived.Handy
import Derived.Deep.RegionHeld3
import Derived.Deep.QuietTactic
import Derived.BigQuiet
import Derived.Laws.MakeOwn
import Derived.Laws.StructEq
import Derived.Laws.Rows
import Derived.Maps.AppendAt
import Derived.StillTailTactics
namespace Go.Proofs.Ytamlnagipmomgaa
open Go.RowKit Go.Maps
set_option linter.unusedVariables false

def R64 (z : Int) : Prop := -9223372036854775808 ≤ z ∧ z ≤ 9223372036854775807
theorem w64in (n : Int) (h : -9223372036854775808 ≤ n ∧ n ≤ 9223372036854775807) : wrap64 n = n := by unfold wrap64; omega
theorem i64_wrap (z : Int) (h : -9223372036854775808 ≤ z ∧ z ≤ 9223372036854775807) : IntKind.i64.wrap z = z := by
  simp [IntKind.wrap, IntKind.bits, IntKind.signed]; omega
theorem Below.dN {B : Nat} {a w : World} (h : Below B a w) (n : Nat) : Below B a (w.drewN n) := ⟨h.os, h.tape, h.output, h.size, h.block⟩
theorem bl1 (w : World) (A : Obj) : Below w.heap.size w (w.alloc A) := (Below.refl _ w).alloc (Nat.le_refl _) A
/-- numbers as cells -/
def ints (l : List Int) : Array Value := (l.map (Value.int .i64)).toArray
theorem ints_at (l : List Int) (i : Nat) (h : i < l.length) : (ints l)[i]? = some (.int .i64 l[i]) := by simp [ints, h]
theorem ints_set (l : List Int) (i : Nat) (z : Int) : (ints l).setIfInBounds i (.int .i64 z) = ints (l.set i z) := by simp [ints, List.map_set]
theorem ints_size (l : List Int) : (ints l).size = l.length := by simp [ints]

/-- of the blocks that were, only those of p are written -/
structure Ch (p : Nat → Prop) (w w' : World) : Prop where
  os : w'.os = w.os
  tape : w'.tape = w.tape
  output : w'.output = w.output
  size : w.heap.size ≤ w'.heap.size
  block : ∀ k, k < w.heap.size → ¬ p k → w'.heap[k]? = w.heap[k]?
theorem Ch.refl (p : Nat → Prop) (w : World) : Ch p w w := ⟨rfl, rfl, rfl, Nat.le_refl _, fun _ _ _ => rfl⟩
theorem Ch.trans {p : Nat → Prop} {a b c : World} (h : Ch p a b) (k : Ch p b c) : Ch p a c :=
  ⟨k.os.trans h.os, k.tape.trans h.tape, k.output.trans h.output, Nat.le_trans h.size k.size, fun i hi hn => (k.block i (Nat.lt_of_lt_of_le hi h.size) hn).trans (h.block i hi hn)⟩
theorem Ch.of {p : Nat → Prop} {a b : World} (h : Below a.heap.size a b) : Ch p a b := ⟨h.os, h.tape, h.output, h.size, fun k hk _ => h.block k hk⟩
theorem Ch.set {p : Nat → Prop} {a b : World} (h : Ch p a b) {g : Nat} (hg : p g ∨ a.heap.size ≤ g) (i : Nat) (v : Value) : Ch p a (b.setCell ⟨g, i, none⟩ v) :=
  ⟨h.os, h.tape, h.output, by simpa [World.setCell] using h.size, fun k hk hn => (Below.heap_setCell _ _ _ _ (by show k ≠ g; rintro rfl; rcases hg with q | q; exact hn q; omega)).trans (h.block k hk hn)⟩
theorem Ch.alloc {p : Nat → Prop} {a b : World} (h : Ch p a b) (o : Obj) : Ch p a (b.alloc o) :=
  ⟨h.os, h.tape, h.output, by simp; have := h.size; omega, fun k hk hn => (Below.heap_alloc _ _ _ (Nat.lt_of_lt_of_le hk h.size)).trans (h.block k hk hn)⟩
theorem Ch.drew {p : Nat → Prop} {a b : World} (h : Ch p a b) : Ch p a b.drew := ⟨h.os, h.tape, h.output, h.size, h.block⟩
theorem Ch.drewN {p : Nat → Prop} {a b : World} (h : Ch p a b) (n : Nat) : Ch p a (b.drewN n) := ⟨h.os, h.tape, h.output, h.size, h.block⟩
/-- what is written is new: nothing that was has changed -/
theorem Ch.below {p : Nat → Prop} {a b : World} (h : Ch p a b) {B : Nat} (hB : B ≤ a.heap.size) (hp : ∀ k, p k → B ≤ k) : Below B a b :=
  ⟨h.os, h.tape, h.output, h.size, fun k hk => h.block k (by omega) (fun q => by have := hp k q; omega)⟩
theorem Ch.mono {p q : Nat → Prop} {a b : World} (h : Ch p a b) (hpq : ∀ k, p k → q k) : Ch q a b := ⟨h.os, h.tape, h.output, h.size, fun k hk hn => h.block k hk (fun x => hn (hpq k x))⟩

/-- how a dealer deals -/
def wayF (p : Int) (db : Nat) : Value := .func (.func (if p = 1 then 27 else if p = 2 then 28 else 29)) #[.pointer (some ⟨db, 0, none⟩)] #[]
/-- a dealer: its struct in block db, its turns in block tb -/
structure DL (w : World) (db tb : Nat) (p size many next : Int) (turns : List Int) : Prop where
  bl : w.heap[db]? = some (.cells #[wayF p db, .int .i64 size, .int .i64 many, .int .i64 next, .slice (some ⟨tb, 0, none⟩) turns.length turns.length] 66)
  bT : w.heap[tb]? = some (.cells (ints turns) 3)
  ne : db ≠ tb
  hp : p = 1 ∨ p = 2 ∨ p = 3
  hs : 1 ≤ size ∧ size ≤ 200
  hm : 0 ≤ many ∧ many ≤ 200
  hn : 0 ≤ next ∧ next ≤ many
  hl : 1 ≤ turns.length ∧ turns.length ≤ 8
  ht : ∀ t ∈ turns, 0 ≤ t ∧ t ≤ 200
/-- the two blocks that a dealer's calls write -/
def dw (db tb : Nat) : Nat → Prop := fun k => k = db ∨ k = tb
section
variable {w w' : World} {db tb : Nat} {p size many next : Int} {turns : List Int}
theorem DL.c0 (h : DL w db tb p size many next turns) : w.cell? ⟨db, 0, none⟩ = some (wayF p db) := by rw [cell_of_row w db 0 _ _ _ h.bl]; rfl
theorem DL.c1 (h : DL w db tb p size many next turns) : w.cell? ⟨db, 1, none⟩ = some (.int .i64 size) := by rw [cell_of_row w db 1 _ _ _ h.bl]; rfl
theorem DL.c2 (h : DL w db tb p size many next turns) : w.cell? ⟨db, 2, none⟩ = some (.int .i64 many) := by rw [cell_of_row w db 2 _ _ _ h.bl]; rfl
theorem DL.c3 (h : DL w db tb p size many next turns) : w.cell? ⟨db, 3, none⟩ = some (.int .i64 next) := by rw [cell_of_row w db 3 _ _ _ h.bl]; rfl
theorem DL.c4 (h : DL w db tb p size many next turns) : w.cell? ⟨db, 4, none⟩ = some (.slice (some ⟨tb, 0, none⟩) turns.length turns.length) := by rw [cell_of_row w db 4 _ _ _ h.bl]; rfl
theorem DL.cT (h : DL w db tb p size many next turns) (i : Nat) (hi : i < turns.length) : w.cell? ⟨tb, i, none⟩ = some (.int .i64 turns[i]) := by rw [cell_of_row w tb i _ _ _ h.bT, ints_at _ _ hi]
theorem DL.f (h : DL w db tb p size many next turns) (j : Nat) : w.frozen? ⟨db, j, none⟩ = false := frozen_of_row w db j _ _ h.bl
theorem DL.fT (h : DL w db tb p size many next turns) (j : Nat) : w.frozen? ⟨tb, j, none⟩ = false := frozen_of_row w tb j _ _ h.bT
theorem DL.keep (h : DL w db tb p size many next turns) (k1 : w'.heap[db]? = w.heap[db]?) (k2 : w'.heap[tb]? = w.heap[tb]?) : DL w' db tb p size many next turns :=
  ⟨k1.trans h.bl, k2.trans h.bT, h.ne, h.hp, h.hs, h.hm, h.hn, h.hl, h.ht⟩
theorem DL.lt (h : DL w db tb p size many next turns) : db < w.heap.size ∧ tb < w.heap.size := ⟨(Array.getElem?_eq_some_iff.1 h.bl).1, (Array.getElem?_eq_some_iff.1 h.bT).1⟩
theorem DL.below (h : DL w db tb p size many next turns) (c : Below w.heap.size w w') : DL w' db tb p size many next turns := h.keep (c.block _ h.lt.1) (c.block _ h.lt.2)
theorem DL.ch (h : DL w db tb p size many next turns) {q : Nat → Prop} (c : Ch q w w') (k1 : ¬ q db) (k2 : ¬ q tb) : DL w' db tb p size many next turns := h.keep (c.block _ h.lt.1 k1) (c.block _ h.lt.2 k2)
theorem DL.alloc (h : DL w db tb p size many next turns) (A : Obj) : DL (w.alloc A) db tb p size many next turns := h.below (bl1 w A)
theorem DL.other (h : DL w db tb p size many next turns) {g : Nat} (k1 : db ≠ g) (k2 : tb ≠ g) (i : Nat) (v : Value) : DL (w.setCell ⟨g, i, none⟩ v) db tb p size many next turns :=
  h.keep (Below.heap_setCell _ _ _ _ k1) (Below.heap_setCell _ _ _ _ k2)
theorem DL.drew (h : DL w db tb p size many next turns) : DL w.drew db tb p size many next turns := h.keep rfl rfl
theorem DL.drewN (h : DL w db tb p size many next turns) (n : Nat) : DL (w.drewN n) db tb p size many next turns := h.keep rfl rfl
theorem DL.setN (h : DL w db tb p size many next turns) (z : Int) (hz : 0 ≤ z ∧ z ≤ many) : DL (w.setCell ⟨db, 3, none⟩ (.int .i64 z)) db tb p size many z turns := by
  refine ⟨?_, (Below.heap_setCell _ _ _ _ h.ne.symm).trans h.bT, h.ne, h.hp, h.hs, h.hm, hz, h.hl, h.ht⟩
  rw [heap_setCell_same w db 3 _ 66 _ h.bl]; simp
theorem DL.setT (h : DL w db tb p size many next turns) (i : Nat) (z : Int) (hz : 0 ≤ z ∧ z ≤ 200) : DL (w.setCell ⟨tb, i, none⟩ (.int .i64 z)) db tb p size many next (turns.set i z) := by
  refine ⟨?_, ?_, h.ne, h.hp, h.hs, h.hm, h.hn, by simpa using h.hl, fun t ht => ?_⟩
  · rw [List.length_set]; exact (Below.heap_setCell _ _ _ _ h.ne).trans h.bl
  · rw [heap_setCell_same w tb i _ 3 _ h.bT, ints_set]
  · rcases List.mem_or_eq_of_mem_set ht with q | q
    · exact h.ht t q
    · rw [q]; exact hz
end
/-- so many ages from one on -/
def fromP (many first size : Int) : Int × Int := if many ≤ first then (0, 0) else (first, if first + size ≤ many then first + size else many)
def sp (x : Int × Int) : Value := .agg #[.int .i64 x.1, .int .i64 x.2]

theorem size39 : (Try.prog.info? 53).map (·.size) = some 2 := by kernel_rfl
theorem ret_sp {fn : Func} {q : Nat} (h : fn.results = #[.cell q 53]) (tmps : Array Value) (g : Nat) (hb : tmps.getD q undef = .pointer (some ⟨g, 0, none⟩)) (W : World) (a b : Value) (hg : W.heap[g]? = some (.cells #[a, b] 53)) :
    (results fn tmps).run Try.prog W = .ok (.agg #[a, b]) W := results_cell_row h tmps W g 53 #[a, b] _ _ hb hg Try.underlying53 rfl size39

set_option maxRecDepth 100000 in
set_option maxHeartbeats 2000000 in
theorem from_any {db tb : Nat} {p size many next : Int} {turns : List Int} (first sz : Int) (h1 : 0 ≤ first ∧ first ≤ 1000000) (h2 : 0 ≤ sz ∧ sz ≤ 1000000) (w : World) (h : DL w db tb p size many next turns) : Calls Try.prog 33 #[.pointer (some ⟨db, 0, none⟩), .int .i64 first, .int .i64 sz] w fun e w' => e = .returned (sp (fromP many first sz)) ∧ Below w.heap.size w w' := by
  have c := fun A => (h.alloc A).c2
  have hw : wrap64 (first + sz) = first + sz := w64in _ ⟨by omega, by omega⟩
  clear h
  unfold fromP sp
  by_cases q1 : many ≤ first
  · rw [if_pos q1]
    go_enter Try.func33, Try.ntmps33
    go_wp2
    refine bodyPost_ret (ret_sp Try.results33 _ w.heap.size rfl _ _ _ (heap_alloc_new w _)) rfl ?_
    exact ⟨rfl, bl1 _ _⟩
  · rw [if_neg q1]
    by_cases q2 : first + sz ≤ many
    · rw [if_pos q2]
      go_enter Try.func33, Try.ntmps33
      go_wp2
      refine bodyPost_ret (ret_sp Try.results33 _ w.heap.size rfl _ _ _ (heap_alloc_new w _)) rfl ?_
      exact ⟨rfl, bl1 _ _⟩
    · rw [if_neg q2]
      go_enter Try.func33, Try.ntmps33
      go_wp2
      refine bodyPost_ret (ret_sp Try.results33 _ w.heap.size rfl _ _ _ (heap_alloc_new w _)) rfl ?_
      exact ⟨rfl, bl1 _ _⟩
end Go.Proofs.Ytamlnagipmomgaa
