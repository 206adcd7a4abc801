/- Instructions: what may be; the small functions of package ins. -/
import Derived.Test.YtcaefimnhoeimaaRows
import Derived.WalkKit
import Derived.WalkSpells
import Derived.WalkLawsBesides
import Derived.Handy
import Derived.Laws.StructEq
import Derived.Lib.OthersKept
namespace Go.Proofs.Ytcaefimnhoeimaa
open Go.RowKit
set_option linter.unusedVariables false

/-- an instruction -/
structure In where
  kind : Int
  op : Int
  a : Int
  b : Int
  c : Int
  k : Int
def iv (x : In) : Value := .agg #[.int .i64 x.kind, .int .i64 x.op, .int .i64 x.a, .int .i64 x.b, .int .i64 x.c, .int .i64 x.k]

/-- the letters of a kind's parts -/
def lets (n : Int) : Option ByteArray :=
  if n = 1 then some ⟨#[]⟩ else if n = 2 then some ⟨#[97, 107]⟩ else if n = 3 then some ⟨#[97, 98]⟩ else if n = 4 then some ⟨#[111, 97, 98]⟩ else if n = 5 then some ⟨#[111, 97, 98, 99]⟩
  else if n = 6 ∨ n = 7 then some ⟨#[97, 98, 107]⟩ else if n = 8 then some ⟨#[97, 114]⟩ else if n = 9 ∨ n = 13 then some ⟨#[97]⟩ else if n = 10 then some ⟨#[108]⟩ else if n = 11 ∨ n = 12 then some ⟨#[97, 108]⟩ else none

set_option maxRecDepth 100000 in
set_option maxHeartbeats 1000000 in
theorem partsOf_any (n : Int) (w : World) : Calls Try.prog 33 #[.int .i64 n] w fun e w' => e = .returned (.tuple #[.string ((lets n).getD ⟨#[]⟩), .bool (lets n).isSome]) ∧ w' = w := by
  go_enter Try.func33, Try.ntmps33
  go_wp2
  all_goals (go_ret2; exact ⟨by simp_all [lets], rfl⟩)
theorem ret_b {a b : Bool} (h : a = b) : Ending.returned (.bool a) = Ending.returned (.bool b) := by rw [h]

def withinB (n m : Int) : Bool := decide (0 ≤ n ∧ n < m)
set_option maxRecDepth 100000 in
set_option maxHeartbeats 1000000 in
theorem within_any (n m : Int) (w : World) : Calls Try.prog 59 #[.int .i64 n, .int .i64 m] w fun e w' => e = .returned (.bool (withinB n m)) ∧ w' = w := by
  go_enter Try.func59, Try.ntmps59
  go_wp2
  all_goals (go_ret; exact ⟨ret_b (by unfold withinB; simp_all; try omega), rfl⟩)

def opOk (x : In) : Bool := decide ((x.kind = 4 → 19 ≤ x.op ∧ x.op ≤ 21) ∧ (x.kind = 5 → 1 ≤ x.op ∧ x.op ≤ 18))
set_option maxRecDepth 100000 in
set_option maxHeartbeats 1000000 in
theorem opFits_any (x : In) (w : World) : Calls Try.prog 34 #[iv x] w fun e w' => e = .returned (.bool (opOk x)) ∧ Below w.heap.size w w' := by
  unfold iv
  go_enter Try.func34, Try.ntmps34
  go_wp2
  all_goals (go_ret; exact ⟨ret_b (by unfold opOk; simp_all; try omega), (Below.refl _ _).alloc (Nat.le_refl _) _⟩)

def fallsB (x : In) : Bool := decide (x.kind ≠ 1 ∧ x.kind ≠ 10 ∧ x.kind ≠ 13)
set_option maxRecDepth 100000 in
set_option maxHeartbeats 1000000 in
theorem falls_any (x : In) (w : World) : Calls Try.prog 21 #[iv x] w fun e w' => e = .returned (.bool (fallsB x)) ∧ Below w.heap.size w w' := by
  unfold iv
  go_enter Try.func21, Try.ntmps21
  go_wp2
  all_goals (go_ret; exact ⟨ret_b (by unfold fallsB; rw [Bool.eq_iff_iff]; simp_all; try omega), (Below.refl _ _).alloc (Nat.le_refl _) _⟩)
set_option maxRecDepth 100000 in
set_option maxHeartbeats 1000000 in
theorem refFalls_any (x : In) (w : World) : Calls Try.prog 29 #[iv x] w fun e w' => e = .returned (.bool (fallsB x)) ∧ Below w.heap.size w w' := by
  unfold iv
  go_enter Try.func29, Try.ntmps29
  go_wp2
  all_goals (go_ret; exact ⟨ret_b (by unfold fallsB; rw [Bool.eq_iff_iff]; simp_all; try omega), (Below.refl _ _).alloc (Nat.le_refl _) _⟩)
set_option maxRecDepth 100000 in
set_option maxHeartbeats 1000000 in
theorem intOf_any (b o : Nat) (p : Int) (w : World) : Calls Try.prog 60 #[.pointer (some ⟨b, o, none⟩), .int .i32 p] w fun e w' => e = .returned (.pointer (some ⟨b, o + (if p = 97 then 2 else if p = 98 then 3 else 4), none⟩)) ∧ w' = w := by
  go_enter Try.func60, Try.ntmps60
  go_wp2
  all_goals (go_ret; exact ⟨by simp_all, rfl⟩)

/-- an instruction's six cells, that may be written -/
structure Six (w : World) (b : Nat) (x : In) : Prop where
  c0 : w.cell? ⟨b, 0, none⟩ = some (.int .i64 x.kind)
  c1 : w.cell? ⟨b, 1, none⟩ = some (.int .i64 x.op)
  c2 : w.cell? ⟨b, 2, none⟩ = some (.int .i64 x.a)
  c3 : w.cell? ⟨b, 3, none⟩ = some (.int .i64 x.b)
  c4 : w.cell? ⟨b, 4, none⟩ = some (.int .i64 x.c)
  c5 : w.cell? ⟨b, 5, none⟩ = some (.int .i64 x.k)
  f0 : w.frozen? ⟨b, 0, none⟩ = false
  f1 : w.frozen? ⟨b, 1, none⟩ = false
  f2 : w.frozen? ⟨b, 2, none⟩ = false
  f3 : w.frozen? ⟨b, 3, none⟩ = false
  f4 : w.frozen? ⟨b, 4, none⟩ = false
  f5 : w.frozen? ⟨b, 5, none⟩ = false
  lt : b < w.heap.size
theorem Six.block {w w' : World} {b : Nat} {x : In} (h : Six w b x) (hb : w'.heap[b]? = w.heap[b]?) (hs : w.heap.size ≤ w'.heap.size) : Six w' b x :=
  ⟨(World.cell?_of_block (w := w) (a := ⟨b, 0, none⟩) hb).trans h.c0, (World.cell?_of_block (w := w) (a := ⟨b, 1, none⟩) hb).trans h.c1, (World.cell?_of_block (w := w) (a := ⟨b, 2, none⟩) hb).trans h.c2, (World.cell?_of_block (w := w) (a := ⟨b, 3, none⟩) hb).trans h.c3, (World.cell?_of_block (w := w) (a := ⟨b, 4, none⟩) hb).trans h.c4, (World.cell?_of_block (w := w) (a := ⟨b, 5, none⟩) hb).trans h.c5,
   (World.frozen?_of_block (w := w) (a := ⟨b, 0, none⟩) hb).trans h.f0, (World.frozen?_of_block (w := w) (a := ⟨b, 1, none⟩) hb).trans h.f1, (World.frozen?_of_block (w := w) (a := ⟨b, 2, none⟩) hb).trans h.f2, (World.frozen?_of_block (w := w) (a := ⟨b, 3, none⟩) hb).trans h.f3, (World.frozen?_of_block (w := w) (a := ⟨b, 4, none⟩) hb).trans h.f4, (World.frozen?_of_block (w := w) (a := ⟨b, 5, none⟩) hb).trans h.f5, Nat.lt_of_lt_of_le h.lt hs⟩
theorem Six.new (w : World) (x : In) : Six (w.alloc (.cells #[.int .i64 x.kind, .int .i64 x.op, .int .i64 x.a, .int .i64 x.b, .int .i64 x.c, .int .i64 x.k] 53)) w.heap.size x :=
  ⟨by simp, by simp, by simp, by simp, by simp, by simp, by simp, by simp, by simp, by simp, by simp, by simp, by simp⟩
theorem cell_set_ne (w : World) (b i j : Nat) (v : Value) (h : i ≠ j) : (w.setCell ⟨b, i, none⟩ v).cell? ⟨b, j, none⟩ = w.cell? ⟨b, j, none⟩ := World.cell?_setCell_other w _ _ _ (by intro e; cases e; exact h rfl)
theorem Six.set {w : World} {b : Nat} {x y : In} (h : Six w b x) (i : Nat) (n : Int) (h0 : i ≠ 0 ∧ y.kind = x.kind) (h1 : (i = 1 ∧ n = y.op) ∨ (i ≠ 1 ∧ y.op = x.op)) (h2 : (i = 2 ∧ n = y.a) ∨ (i ≠ 2 ∧ y.a = x.a)) (h3 : (i = 3 ∧ n = y.b) ∨ (i ≠ 3 ∧ y.b = x.b)) (h4 : (i = 4 ∧ n = y.c) ∨ (i ≠ 4 ∧ y.c = x.c)) (h5 : (i = 5 ∧ n = y.k) ∨ (i ≠ 5 ∧ y.k = x.k)) : Six (w.setCell ⟨b, i, none⟩ (.int .i64 n)) b y := by
  refine ⟨?_, ?_, ?_, ?_, ?_, ?_, by simpa using h.f0, by simpa using h.f1, by simpa using h.f2, by simpa using h.f3, by simpa using h.f4, by simpa using h.f5, by simpa [World.setCell] using h.lt⟩
  · rw [cell_set_ne _ _ _ _ _ h0.1, h0.2]; exact h.c0
  · rcases h1 with ⟨rfl, e⟩ | ⟨hi, e⟩
    · rw [e]; exact World.cell?_setCell_same w _ _ h.c1
    · rw [cell_set_ne _ _ _ _ _ hi, e]; exact h.c1
  · rcases h2 with ⟨rfl, e⟩ | ⟨hi, e⟩
    · rw [e]; exact World.cell?_setCell_same w _ _ h.c2
    · rw [cell_set_ne _ _ _ _ _ hi, e]; exact h.c2
  · rcases h3 with ⟨rfl, e⟩ | ⟨hi, e⟩
    · rw [e]; exact World.cell?_setCell_same w _ _ h.c3
    · rw [cell_set_ne _ _ _ _ _ hi, e]; exact h.c3
  · rcases h4 with ⟨rfl, e⟩ | ⟨hi, e⟩
    · rw [e]; exact World.cell?_setCell_same w _ _ h.c4
    · rw [cell_set_ne _ _ _ _ _ hi, e]; exact h.c4
  · rcases h5 with ⟨rfl, e⟩ | ⟨hi, e⟩
    · rw [e]; exact World.cell?_setCell_same w _ _ h.c5
    · rw [cell_set_ne _ _ _ _ _ hi, e]; exact h.c5

/-- a letter -/
def isL (c : UInt8) : Prop := c = 111 ∨ c = 97 ∨ c = 98 ∨ c = 99 ∨ c = 114 ∨ c = 107 ∨ c = 108
def okL (s : ByteArray) : Prop := ∀ i (h : i < s.size), isL s[i]
/-- one part is kept -/
def keep1 (x y : In) (c : UInt8) : In :=
  if c = 111 then ⟨y.kind, x.op, y.a, y.b, y.c, y.k⟩ else if c = 107 ∨ c = 108 then ⟨y.kind, y.op, y.a, y.b, y.c, x.k⟩ else if c = 97 then ⟨y.kind, y.op, x.a, y.b, y.c, y.k⟩ else if c = 98 then ⟨y.kind, y.op, y.a, x.b, y.c, y.k⟩ else ⟨y.kind, y.op, y.a, y.b, x.c, y.k⟩
def keepL (x : In) (L : List UInt8) : In := L.foldl (keep1 x) ⟨x.kind, 0, 0, 0, 0, 0⟩

theorem isL_lt {c : UInt8} (h : isL c) : c.toNat < 128 := by rcases h with rfl | rfl | rfl | rfl | rfl | rfl | rfl <;> decide
theorem fold_snoc {α β : Type} (f : α → β → α) (h : α) (L : List β) (c : β) : (L ++ [c]).foldl f h = f (L.foldl f h) c := by
  rw [List.foldl_append, List.foldl_cons, List.foldl_nil]
theorem take_next (s : ByteArray) (p : Nat) (h : p < s.size) : s.data.toList.take (p + 1) = s.data.toList.take p ++ [s[p]] := by
  have : p < s.data.toList.length := by simpa using h
  rw [List.take_succ_eq_append_getElem this]; rfl
theorem keepL_next (x : In) (s : ByteArray) (p : Nat) (h : p < s.size) : keepL x (s.data.toList.take (p + 1)) = keep1 x (keepL x (s.data.toList.take p)) s[p] := by
  rw [take_next s p h]; unfold keepL; exact fold_snoc _ _ _ _

theorem ret_six {fn : Func} (k : Nat) (h : fn.results = #[.cell k 53]) (tmps : Array Value) (b : Nat) (hb : tmps[k]?.getD undef = .pointer (some ⟨b, 0, none⟩)) (W : World) {x : In} (F : Six W b x) :
    (results fn tmps).run Try.prog W = .ok (iv x) W := by
  obtain ⟨c0, c1, c2, c3, c4, c5, _⟩ := F
  simp [results, h, hb, go_sem, c0, c1, c2, c3, c4, c5, iv]

/-- what is so at each round's head of 'only': the iterator stands at q, p letters are kept -/
structure OI (w wr : World) (s : ByteArray) (x : In) (p q : Nat) : Prop where
  it : wr.heap[w.heap.size + 3]? = some (.stringIter s q)
  hx : Six wr w.heap.size x
  hy : Six wr (w.heap.size + 1 + 1) (keepL x (s.data.toList.take p))
  hz : ∃ y, Six wr (w.heap.size + 1) y
  hb : Below w.heap.size w wr
theorem OI.pos {w wr : World} {s : ByteArray} {x : In} {p q : Nat} (h : OI w wr s x p q) : wr.iterPos (w.heap.size + 3) = q := by simp [World.iterPos, h.it]
theorem OI.next {w wr : World} {s : ByteArray} {x : In} {p q : Nat} (h : OI w wr s x p q) (q' : Nat) : OI w (wr.iterAt (w.heap.size + 3) s q') s x p q' := by
  have hs : wr.heap.size ≤ (wr.iterAt (w.heap.size + 3) s q').heap.size := by rw [Lib.iterAt_size]; exact Nat.le_refl _
  obtain ⟨y, hy⟩ := h.hz
  exact ⟨Lib.iterAt_heap wr _ s q q' h.it, h.hx.block (Lib.iterAt_other wr _ _ s q' (by omega)) hs, h.hy.block (Lib.iterAt_other wr _ _ s q' (by omega)) hs, ⟨y, hy.block (Lib.iterAt_other wr _ _ s q' (by omega)) hs⟩, Lib.below_iterAt h.hb (by omega) s q'⟩
theorem OI.step {w wr : World} {s : ByteArray} {x : In} {p q : Nat} (h : OI w wr s x p q) (hp : p < s.size) (i : Nat) (v : Value) (hi : i < 6) (hy : Six (wr.setCell ⟨w.heap.size + 1 + 1, i, none⟩ v) (w.heap.size + 1 + 1) (keepL x (s.data.toList.take (p + 1)))) : OI w (wr.setCell ⟨w.heap.size + 1 + 1, i, none⟩ v) s x (p + 1) q := by
  have hs : wr.heap.size ≤ (wr.setCell ⟨w.heap.size + 1 + 1, i, none⟩ v).heap.size := by simp [World.setCell]
  obtain ⟨y, hz⟩ := h.hz
  refine ⟨(Below.heap_setCell _ _ _ _ ?_).trans h.it, h.hx.block (Below.heap_setCell _ _ _ _ ?_) hs, hy, ⟨y, hz.block (Below.heap_setCell _ _ _ _ ?_) hs⟩, Below.setCell h.hb ?_ _⟩
  · show w.heap.size + 3 ≠ w.heap.size + 1 + 1; omega
  · show w.heap.size ≠ w.heap.size + 1 + 1; omega
  · show w.heap.size + 1 ≠ w.heap.size + 1 + 1; omega
  · show w.heap.size ≤ w.heap.size + 1 + 1; omega

theorem Six.alloc {w : World} {b : Nat} {x : In} (h : Six w b x) (o : Obj) : Six (w.alloc o) b x := h.block (Below.heap_alloc _ _ _ h.lt) (by simp)
theorem OI.start (w : World) (s : ByteArray) (x : In) : OI w ((((w.alloc (.cells #[.int .i64 x.kind, .int .i64 x.op, .int .i64 x.a, .int .i64 x.b, .int .i64 x.c, .int .i64 x.k] 53)).alloc (.cells #[.int .i64 0, .int .i64 0, .int .i64 0, .int .i64 0, .int .i64 0, .int .i64 0] 53)).alloc (.cells #[.int .i64 x.kind, .int .i64 0, .int .i64 0, .int .i64 0, .int .i64 0, .int .i64 0] 53)).iter s 0) s x 0 0 := by
  have h1 := Six.new w x
  have h2 := Six.new (w.alloc (.cells #[.int .i64 x.kind, .int .i64 x.op, .int .i64 x.a, .int .i64 x.b, .int .i64 x.c, .int .i64 x.k] 53)) ⟨0, 0, 0, 0, 0, 0⟩
  have h3 := Six.new ((w.alloc (.cells #[.int .i64 x.kind, .int .i64 x.op, .int .i64 x.a, .int .i64 x.b, .int .i64 x.c, .int .i64 x.k] 53)).alloc (.cells #[.int .i64 0, .int .i64 0, .int .i64 0, .int .i64 0, .int .i64 0, .int .i64 0] 53)) ⟨x.kind, 0, 0, 0, 0, 0⟩
  rw [show (w.alloc (.cells #[.int .i64 x.kind, .int .i64 x.op, .int .i64 x.a, .int .i64 x.b, .int .i64 x.c, .int .i64 x.k] 53)).heap.size = w.heap.size + 1 by simp] at h2
  rw [show ((w.alloc (.cells #[.int .i64 x.kind, .int .i64 x.op, .int .i64 x.a, .int .i64 x.b, .int .i64 x.c, .int .i64 x.k] 53)).alloc (.cells #[.int .i64 0, .int .i64 0, .int .i64 0, .int .i64 0, .int .i64 0, .int .i64 0] 53)).heap.size = w.heap.size + 1 + 1 by simp] at h3
  refine ⟨?_, ((h1.alloc _).alloc _).alloc _, ?_, ⟨_, (h2.alloc _).alloc _⟩, ((((Below.refl _ _).alloc (Nat.le_refl _) _).alloc (by simp) _).alloc (by simp; omega) _).alloc (by simp; omega) _⟩
  · have := World.iter_heap (((w.alloc (.cells #[.int .i64 x.kind, .int .i64 x.op, .int .i64 x.a, .int .i64 x.b, .int .i64 x.c, .int .i64 x.k] 53)).alloc (.cells #[.int .i64 0, .int .i64 0, .int .i64 0, .int .i64 0, .int .i64 0, .int .i64 0] 53)).alloc (.cells #[.int .i64 x.kind, .int .i64 0, .int .i64 0, .int .i64 0, .int .i64 0, .int .i64 0] 53)) s 0
    simpa using this
  · exact h3.alloc _

/-- an instruction is stored whole -/
def put6 (w : World) (b : Nat) (x : In) : World := (((((w.setCell ⟨b, 0, none⟩ (.int .i64 x.kind)).setCell ⟨b, 1, none⟩ (.int .i64 x.op)).setCell ⟨b, 2, none⟩ (.int .i64 x.a)).setCell ⟨b, 3, none⟩ (.int .i64 x.b)).setCell ⟨b, 4, none⟩ (.int .i64 x.c)).setCell ⟨b, 5, none⟩ (.int .i64 x.k)
theorem put6_six {w : World} {b : Nat} {y : In} (h : Six w b y) (x : In) : Six (put6 w b x) b x := by
  have h0 : Six (w.setCell ⟨b, 0, none⟩ (.int .i64 x.kind)) b ⟨x.kind, y.op, y.a, y.b, y.c, y.k⟩ := by
    refine ⟨World.cell?_setCell_same w _ _ h.c0, ?_, ?_, ?_, ?_, ?_, by simpa using h.f0, by simpa using h.f1, by simpa using h.f2, by simpa using h.f3, by simpa using h.f4, by simpa using h.f5, by simpa [World.setCell] using h.lt⟩
    · rw [cell_set_ne _ _ _ _ _ (by omega)]; exact h.c1
    · rw [cell_set_ne _ _ _ _ _ (by omega)]; exact h.c2
    · rw [cell_set_ne _ _ _ _ _ (by omega)]; exact h.c3
    · rw [cell_set_ne _ _ _ _ _ (by omega)]; exact h.c4
    · rw [cell_set_ne _ _ _ _ _ (by omega)]; exact h.c5
  have h1 := h0.set (y := ⟨x.kind, x.op, y.a, y.b, y.c, y.k⟩) 1 x.op (by simp) (by simp) (by simp) (by simp) (by simp) (by simp)
  have h2 := h1.set (y := ⟨x.kind, x.op, x.a, y.b, y.c, y.k⟩) 2 x.a (by simp) (by simp) (by simp) (by simp) (by simp) (by simp)
  have h3 := h2.set (y := ⟨x.kind, x.op, x.a, x.b, y.c, y.k⟩) 3 x.b (by simp) (by simp) (by simp) (by simp) (by simp) (by simp)
  have h4 := h3.set (y := ⟨x.kind, x.op, x.a, x.b, x.c, y.k⟩) 4 x.c (by simp) (by simp) (by simp) (by simp) (by simp) (by simp)
  exact h4.set (y := x) 5 x.k (by simp) (by simp) (by simp) (by simp) (by simp) (by simp)
theorem put6_other (w : World) (b j : Nat) (x : In) (h : j ≠ b) : (put6 w b x).heap[j]? = w.heap[j]? := by
  unfold put6
  rw [Below.heap_setCell _ _ _ _ h, Below.heap_setCell _ _ _ _ h, Below.heap_setCell _ _ _ _ h, Below.heap_setCell _ _ _ _ h, Below.heap_setCell _ _ _ _ h, Below.heap_setCell _ _ _ _ h]
theorem put6_size (w : World) (b : Nat) (x : In) : (put6 w b x).heap.size = w.heap.size := by simp [put6, World.setCell]
theorem put6_below {B : Nat} {a w : World} (h : Below B a w) {b : Nat} (hb : B ≤ b) (x : In) : Below B a (put6 w b x) :=
  Below.setCell (Below.setCell (Below.setCell (Below.setCell (Below.setCell (Below.setCell h hb _) hb _) hb _) hb _) hb _) hb _

set_option maxRecDepth 100000 in
set_option maxHeartbeats 4000000 in
theorem only_any (x : In) (s : ByteArray) (w : World) (hs : okL s) : Calls Try.prog 36 #[iv x, .string s] w fun e w' => e = .returned (iv (keepL x s.data.toList)) ∧ Below w.heap.size w w' := by
  have HS : Hid (okL s) := hs
  have HI : Hid (iv x = .agg #[.int .i64 x.kind, .int .i64 x.op, .int .i64 x.a, .int .i64 x.b, .int .i64 x.c, .int .i64 x.k]) := rfl
  rw [HI.out]
  obtain ⟨R, hR⟩ : ∃ R, iv (keepL x s.data.toList) = R := ⟨_, rfl⟩
  rw [hR]
  have HR : Hid (iv (keepL x s.data.toList) = R) := hR
  clear hs HI hR
  go_enter Try.func36, Try.ntmps36
  go_wp2_with fail
  go_loopw [] (fun wr => ∃ pos : Nat, pos ≤ s.size ∧ Hid (OI w wr s x pos pos)) (fun wr => s.size - wr.iterPos (w.heap.size + 3))
  case atStart =>
    exact ⟨0, Nat.zero_le _, OI.start w s x⟩
  case round =>
    obtain ⟨pos, hps, H⟩ := hrel
    by_cases hp : pos < s.size
    · have hL := HS.out pos hp
      have hnx : ∀ ty, (Instr.next (.pointer (some ⟨w.heap.size + 3, 0, none⟩)) true ty).run Try.prog wr = _ := fun ty => Lib.run_next_ascii_at wr (w.heap.size + 3) s pos ty H.out.it hp (isL_lt hL)
      have H2 : Hid _ := H.out.next (pos + 1)
      obtain ⟨W2, hW2⟩ : ∃ W2, wr.iterAt (w.heap.size + 3) s (pos + 1) = W2 := ⟨_, rfl⟩
      rw [hW2] at hnx H2
      have HY2 : Hid (Six W2 (w.heap.size + 1 + 1) (keepL x (s.data.toList.take pos))) := H2.out.hy
      obtain ⟨_, x1, x2, x3, x4, x5, _, _, _, _, _, _, _⟩ := H2.out.hx
      obtain ⟨_, y1, y2, y3, y4, y5, g0, g1, g2, g3, g4, g5, _⟩ := H2.out.hy
      clear hW2
      rcases hL with ec | ec | ec | ec | ec | ec | ec
      · have hn : ((s[pos]).toNat : Int) = 111 := by rw [ec]; rfl
        rw [hn] at hnx
        have HK : Hid (OI w (W2.setCell ⟨w.heap.size + 1 + 1, 1, none⟩ (.int .i64 x.op)) s x (pos + 1) (pos + 1)) := H2.out.step hp 1 _ (by omega) (by
          show Six _ _ _
          rw [keepL_next x s pos hp, ec]
          exact HY2.out.set 1 _ (by simp [keep1]) (by simp [keep1]) (by simp [keep1]) (by simp [keep1]) (by simp [keep1]) (by simp [keep1]))
        have HE : Hid (s.size - (W2.setCell ⟨w.heap.size + 1 + 1, 1, none⟩ (.int .i64 x.op)).iterPos (w.heap.size + 3) < s.size - wr.iterPos (w.heap.size + 3)) := by
          show _ < _
          rw [HK.out.pos, H.out.pos]; omega
        clear HY2
        go_wp2
        go_roundw
        case rel => exact ⟨pos + 1, hp, HK⟩
        case measure => exact HE.out
      · have hn : ((s[pos]).toNat : Int) = 97 := by rw [ec]; rfl
        rw [hn] at hnx
        have HK : Hid (OI w (W2.setCell ⟨w.heap.size + 1 + 1, 2, none⟩ (.int .i64 x.a)) s x (pos + 1) (pos + 1)) := H2.out.step hp 2 _ (by omega) (by
          show Six _ _ _
          rw [keepL_next x s pos hp, ec]
          exact HY2.out.set 2 _ (by simp [keep1]) (by simp [keep1]) (by simp [keep1]) (by simp [keep1]) (by simp [keep1]) (by simp [keep1]))
        have HE : Hid (s.size - (W2.setCell ⟨w.heap.size + 1 + 1, 2, none⟩ (.int .i64 x.a)).iterPos (w.heap.size + 3) < s.size - wr.iterPos (w.heap.size + 3)) := by
          show _ < _
          rw [HK.out.pos, H.out.pos]; omega
        clear HY2
        go_wp2_with (first | (go_at_call 60; refine (intOf_any _ _ _ _).mono ?_; rintro e w' ⟨rfl, rfl⟩) | fail)
        go_roundw
        case rel => exact ⟨pos + 1, hp, HK⟩
        case measure => exact HE.out
      · have hn : ((s[pos]).toNat : Int) = 98 := by rw [ec]; rfl
        rw [hn] at hnx
        have HK : Hid (OI w (W2.setCell ⟨w.heap.size + 1 + 1, 3, none⟩ (.int .i64 x.b)) s x (pos + 1) (pos + 1)) := H2.out.step hp 3 _ (by omega) (by
          show Six _ _ _
          rw [keepL_next x s pos hp, ec]
          exact HY2.out.set 3 _ (by simp [keep1]) (by simp [keep1]) (by simp [keep1]) (by simp [keep1]) (by simp [keep1]) (by simp [keep1]))
        have HE : Hid (s.size - (W2.setCell ⟨w.heap.size + 1 + 1, 3, none⟩ (.int .i64 x.b)).iterPos (w.heap.size + 3) < s.size - wr.iterPos (w.heap.size + 3)) := by
          show _ < _
          rw [HK.out.pos, H.out.pos]; omega
        clear HY2
        go_wp2_with (first | (go_at_call 60; refine (intOf_any _ _ _ _).mono ?_; rintro e w' ⟨rfl, rfl⟩) | fail)
        go_roundw
        case rel => exact ⟨pos + 1, hp, HK⟩
        case measure => exact HE.out
      · have hn : ((s[pos]).toNat : Int) = 99 := by rw [ec]; rfl
        rw [hn] at hnx
        have HK : Hid (OI w (W2.setCell ⟨w.heap.size + 1 + 1, 4, none⟩ (.int .i64 x.c)) s x (pos + 1) (pos + 1)) := H2.out.step hp 4 _ (by omega) (by
          show Six _ _ _
          rw [keepL_next x s pos hp, ec]
          exact HY2.out.set 4 _ (by simp [keep1]) (by simp [keep1]) (by simp [keep1]) (by simp [keep1]) (by simp [keep1]) (by simp [keep1]))
        have HE : Hid (s.size - (W2.setCell ⟨w.heap.size + 1 + 1, 4, none⟩ (.int .i64 x.c)).iterPos (w.heap.size + 3) < s.size - wr.iterPos (w.heap.size + 3)) := by
          show _ < _
          rw [HK.out.pos, H.out.pos]; omega
        clear HY2
        go_wp2_with (first | (go_at_call 60; refine (intOf_any _ _ _ _).mono ?_; rintro e w' ⟨rfl, rfl⟩) | fail)
        go_roundw
        case rel => exact ⟨pos + 1, hp, HK⟩
        case measure => exact HE.out
      · have hn : ((s[pos]).toNat : Int) = 114 := by rw [ec]; rfl
        rw [hn] at hnx
        have HK : Hid (OI w (W2.setCell ⟨w.heap.size + 1 + 1, 4, none⟩ (.int .i64 x.c)) s x (pos + 1) (pos + 1)) := H2.out.step hp 4 _ (by omega) (by
          show Six _ _ _
          rw [keepL_next x s pos hp, ec]
          exact HY2.out.set 4 _ (by simp [keep1]) (by simp [keep1]) (by simp [keep1]) (by simp [keep1]) (by simp [keep1]) (by simp [keep1]))
        have HE : Hid (s.size - (W2.setCell ⟨w.heap.size + 1 + 1, 4, none⟩ (.int .i64 x.c)).iterPos (w.heap.size + 3) < s.size - wr.iterPos (w.heap.size + 3)) := by
          show _ < _
          rw [HK.out.pos, H.out.pos]; omega
        clear HY2
        go_wp2_with (first | (go_at_call 60; refine (intOf_any _ _ _ _).mono ?_; rintro e w' ⟨rfl, rfl⟩) | fail)
        go_roundw
        case rel => exact ⟨pos + 1, hp, HK⟩
        case measure => exact HE.out
      · have hn : ((s[pos]).toNat : Int) = 107 := by rw [ec]; rfl
        rw [hn] at hnx
        have HK : Hid (OI w (W2.setCell ⟨w.heap.size + 1 + 1, 5, none⟩ (.int .i64 x.k)) s x (pos + 1) (pos + 1)) := H2.out.step hp 5 _ (by omega) (by
          show Six _ _ _
          rw [keepL_next x s pos hp, ec]
          exact HY2.out.set 5 _ (by simp [keep1]) (by simp [keep1]) (by simp [keep1]) (by simp [keep1]) (by simp [keep1]) (by simp [keep1]))
        have HE : Hid (s.size - (W2.setCell ⟨w.heap.size + 1 + 1, 5, none⟩ (.int .i64 x.k)).iterPos (w.heap.size + 3) < s.size - wr.iterPos (w.heap.size + 3)) := by
          show _ < _
          rw [HK.out.pos, H.out.pos]; omega
        clear HY2
        go_wp2
        go_roundw
        case rel => exact ⟨pos + 1, hp, HK⟩
        case measure => exact HE.out
      · have hn : ((s[pos]).toNat : Int) = 108 := by rw [ec]; rfl
        rw [hn] at hnx
        have HK : Hid (OI w (W2.setCell ⟨w.heap.size + 1 + 1, 5, none⟩ (.int .i64 x.k)) s x (pos + 1) (pos + 1)) := H2.out.step hp 5 _ (by omega) (by
          show Six _ _ _
          rw [keepL_next x s pos hp, ec]
          exact HY2.out.set 5 _ (by simp [keep1]) (by simp [keep1]) (by simp [keep1]) (by simp [keep1]) (by simp [keep1]) (by simp [keep1]))
        have HE : Hid (s.size - (W2.setCell ⟨w.heap.size + 1 + 1, 5, none⟩ (.int .i64 x.k)).iterPos (w.heap.size + 3) < s.size - wr.iterPos (w.heap.size + 3)) := by
          show _ < _
          rw [HK.out.pos, H.out.pos]; omega
        clear HY2
        go_wp2
        go_roundw
        case rel => exact ⟨pos + 1, hp, HK⟩
        case measure => exact HE.out
    · have hnx : ∀ ty, (Instr.next (.pointer (some ⟨w.heap.size + 3, 0, none⟩)) true ty).run Try.prog wr = _ := fun ty => Lib.run_next_end_at wr (w.heap.size + 3) s pos ty H.out.it hp
      obtain rfl : pos = s.size := by omega
      have HY : Hid (Six wr (w.heap.size + 1 + 1) (keepL x s.data.toList)) := by
        have := H.out.hy
        rw [List.take_of_length_le (by simp)] at this
        exact this
      obtain ⟨z, hz⟩ := H.out.hz
      have HZ : Hid (Six wr (w.heap.size + 1) z) := hz
      obtain ⟨z0, z1, z2, z3, z4, z5, k0, k1, k2, k3, k4, k5, _⟩ := hz
      obtain ⟨y, hy⟩ : ∃ y, keepL x s.data.toList = y := ⟨_, rfl⟩
      rw [hy] at HY HR
      obtain ⟨y0, y1, y2, y3, y4, y5, _⟩ := HY.out
      go_wp2
      refine bodyPost_ret (ret_six 4 Try.results36 _ (w.heap.size + 1) rfl _ (put6_six HZ.out y)) rfl ?_
      exact ⟨by rw [← HR.out], put6_below H.out.hb (by omega) y⟩
end Go.Proofs.Ytcaefimnhoeimaa
