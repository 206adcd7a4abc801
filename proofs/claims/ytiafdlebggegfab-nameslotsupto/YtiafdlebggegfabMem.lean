/- Trees in memory; a walker's state; what a call of a walker leaves alone. -/
import Derived.Test.YtiafdlebggegfabRows
import Derived.Test.YtiafdlebggegfabTree
import Derived.WalkKit
import Derived.WalkSpells
import Derived.WalkLawsBesides
import Derived.Handy
import Derived.Tactics
import Derived.Tactics2
import Derived.Laws.Pointers
import Derived.OwnWalk
import Derived.Below
import Derived.Maps.Own
import Derived.Maps.OwnOps
import Derived.Maps.OwnSet
import Derived.Maps.Views
import Derived.Maps.AppendAt
namespace Go.Proofs.Ytiafdlebggegfab
open Go.RowKit Go.Maps
set_option linter.unusedVariables false

/-- expressions in memory, from a cell on -/
def EAt (w : World) : EL → Nat → Nat → Prop
  | .nil, _, _ => True
  | .cons k n s p a r, b, o => w.cell? ⟨b, o, none⟩ = some (.int .i64 k) ∧ w.cell? ⟨b, o + 1, none⟩ = some (.int .i64 n) ∧ w.cell? ⟨b, o + 2, none⟩ = some (.string s) ∧ w.cell? ⟨b, o + 3, none⟩ = some (.int .i64 p) ∧ s.size ≤ maxLen ∧
      (∃ ad cap b' o', w.cell? ⟨b, o + 4, none⟩ = some (.slice ad a.len cap) ∧ a.len ≤ cap ∧ cap ≤ maxLen ∧ (0 < a.len → ad = some ⟨b', o', none⟩) ∧ EAt w a b' o') ∧ EAt w r b (o + 5)
/-- a slice of them -/
def ESl (w : World) (v : Value) (l : EL) : Prop := ∃ ad cap b o, v = .slice ad l.len cap ∧ l.len ≤ cap ∧ cap ≤ maxLen ∧ (0 < l.len → ad = some ⟨b, o, none⟩) ∧ EAt w l b o
theorem EAt.below {w w' : World} (hb : Below w.heap.size w w') : ∀ {l : EL} {b o : Nat}, EAt w l b o → EAt w' l b o := by
  intro l
  induction l with
  | nil => intro b o _; trivial
  | cons k n s p a r iha ihr =>
    intro b o ⟨h1, h2, h3, h4, h5, ⟨ad, cap, b', o', g1, g2, g3, g4, g5⟩, h7⟩
    have hlt : b < w.heap.size := World.block_lt_of_cell? w ⟨b, o, none⟩ h1
    exact ⟨(hb.cell (p := ⟨b, o, none⟩) hlt).trans h1, (hb.cell (p := ⟨b, o + 1, none⟩) hlt).trans h2, (hb.cell (p := ⟨b, o + 2, none⟩) hlt).trans h3, (hb.cell (p := ⟨b, o + 3, none⟩) hlt).trans h4, h5, ⟨ad, cap, b', o', (hb.cell (p := ⟨b, o + 4, none⟩) hlt).trans g1, g2, g3, g4, iha g5⟩, ihr h7⟩
theorem ESl.below {w w' : World} (hb : Below w.heap.size w w') {v : Value} {l : EL} (h : ESl w v l) : ESl w' v l := by
  obtain ⟨ad, cap, b, o, h1, h2, h3, h4, h5⟩ := h
  exact ⟨ad, cap, b, o, h1, h2, h3, h4, h5.below hb⟩

/-- statements in memory, from a cell on -/
def SAt (w : World) : SL → Nat → Nat → Prop
  | .nil, _, _ => True
  | .cons k s c a d e r, b, o => w.cell? ⟨b, o, none⟩ = some (.int .i64 k) ∧ w.cell? ⟨b, o + 1, none⟩ = some (.string s) ∧ w.cell? ⟨b, o + 2, none⟩ = some (.int .i64 c) ∧ s.size ≤ maxLen ∧
      (∃ v, w.cell? ⟨b, o + 3, none⟩ = some v ∧ ESl w v a) ∧
      (∃ ad cap b' o', w.cell? ⟨b, o + 4, none⟩ = some (.slice ad d.len cap) ∧ d.len ≤ cap ∧ cap ≤ maxLen ∧ (0 < d.len → ad = some ⟨b', o', none⟩) ∧ SAt w d b' o') ∧
      (∃ ad cap b' o', w.cell? ⟨b, o + 5, none⟩ = some (.slice ad e.len cap) ∧ e.len ≤ cap ∧ cap ≤ maxLen ∧ (0 < e.len → ad = some ⟨b', o', none⟩) ∧ SAt w e b' o') ∧ SAt w r b (o + 6)
def SSl (w : World) (v : Value) (l : SL) : Prop := ∃ ad cap b o, v = .slice ad l.len cap ∧ l.len ≤ cap ∧ cap ≤ maxLen ∧ (0 < l.len → ad = some ⟨b, o, none⟩) ∧ SAt w l b o
theorem SAt.below {w w' : World} (hb : Below w.heap.size w w') : ∀ {l : SL} {b o : Nat}, SAt w l b o → SAt w' l b o := by
  intro l
  induction l with
  | nil => intro b o _; trivial
  | cons k s c a d e r ihd ihe ihr =>
    intro b o ⟨h1, h2, h3, h4, ⟨v, h5, h5'⟩, ⟨ad, cap, b', o', g1, g2, g3, g4, g5⟩, ⟨ad', cap', b'', o'', f1, f2, f3, f4, f5⟩, h7⟩
    have hlt : b < w.heap.size := World.block_lt_of_cell? w ⟨b, o, none⟩ h1
    exact ⟨(hb.cell (p := ⟨b, o, none⟩) hlt).trans h1, (hb.cell (p := ⟨b, o + 1, none⟩) hlt).trans h2, (hb.cell (p := ⟨b, o + 2, none⟩) hlt).trans h3, h4, ⟨v, (hb.cell (p := ⟨b, o + 3, none⟩) hlt).trans h5, h5'.below hb⟩, ⟨ad, cap, b', o', (hb.cell (p := ⟨b, o + 4, none⟩) hlt).trans g1, g2, g3, g4, ihd g5⟩, ⟨ad', cap', b'', o'', (hb.cell (p := ⟨b, o + 5, none⟩) hlt).trans f1, f2, f3, f4, ihe f5⟩, ihr h7⟩
theorem SSl.below {w w' : World} (hb : Below w.heap.size w w') {v : Value} {l : SL} (h : SSl w v l) : SSl w' v l := by
  obtain ⟨ad, cap, b, o, h1, h2, h3, h4, h5⟩ := h
  exact ⟨ad, cap, b, o, h1, h2, h3, h4, h5.below hb⟩

/-- the map of the names that are there -/
def kl (s : List UInt8) : Lit := .string s
def rl (r : Int) : DataW Unit := .lit (.int .i64 r)
structure Rep (T : Tab) (D : DataW Unit) : Prop where
  has : ∀ s, Maps.has D (kl s) = (find T s).isSome
  at_ : ∀ s r, find T s = some r → D.atKey (kl s) (rl 0) = rl r
  size : Maps.size D = T.length
  tidy : Tidy D

/-- integers of the call's own -/
def Ints (w : World) (base : Nat) (v : Value) (l : List Int) : Prop := w.ownsRow base 3 1 v l.length (l.map fun x => Value.int .i64 x)

structure WSt (w : World) (pb mb base : Nat) (cells : Int) (v : Value) (st : Sta) : Prop where
  c0 : w.cell? ⟨pb, 0, none⟩ = some (.map (some mb))
  c1 : w.cell? ⟨pb, 1, none⟩ = some (.int .i64 cells)
  c2 : w.cell? ⟨pb, 2, none⟩ = some v
  c3 : w.cell? ⟨pb, 3, none⟩ = some (.int .i64 st.most)
  f2 : w.frozen? ⟨pb, 2, none⟩ = false
  f3 : w.frozen? ⟨pb, 3, none⟩ = false
  ints : Ints w base v st.out
  map : ∃ D, w.ownsMap Try.prog 9 (plainElem Try.prog 3) mb st.T.length D ∧ Rep st.T D
  pl : pb < base
  ml : mb < base
  ne : mb ≠ pb
  bs : base ≤ w.heap.size

/-- what a walker's call leaves alone -/
structure FW (pb mb : Nat) (w w' : World) (v v' : Value) : Prop where
  os : w'.os = w.os
  tape : w'.tape = w.tape
  output : w'.output = w.output
  size : w.heap.size ≤ w'.heap.size
  block : ∀ k, k < w.heap.size → k ≠ pb → k ≠ mb → some k ≠ v.ownBlock → w'.heap[k]? = w.heap[k]?
  loc : ∀ k, v'.ownBlock = some k → v.ownBlock = some k ∨ w.heap.size ≤ k
theorem FW.refl (pb mb : Nat) (w : World) (v : Value) : FW pb mb w w v v := ⟨rfl, rfl, rfl, Nat.le_refl _, fun _ _ _ _ _ => rfl, fun k h => Or.inl h⟩
theorem FW.trans {pb mb : Nat} {a b c : World} {v v1 v2 : Value} (h : FW pb mb a b v v1) (k : FW pb mb b c v1 v2) : FW pb mb a c v v2 := by
  refine ⟨k.os.trans h.os, k.tape.trans h.tape, k.output.trans h.output, Nat.le_trans h.size k.size, fun i hi h1 h2 h3 => ?_, fun i hi => ?_⟩
  · refine (k.block i (Nat.lt_of_lt_of_le hi h.size) h1 h2 ?_).trans (h.block i hi h1 h2 h3)
    intro e
    rcases h.loc i e.symm with h4 | h4
    · exact h3 h4.symm
    · omega
  · rcases k.loc i hi with h4 | h4
    · exact h.loc i h4
    · exact Or.inr (Nat.le_trans h.size h4)
/-- memory that is made beside -/
theorem FW.after {pb mb : Nat} {a b c : World} {v v1 : Value} (h : FW pb mb a b v v1) (k : Below b.heap.size b c) : FW pb mb a c v v1 :=
  ⟨k.os.trans h.os, k.tape.trans h.tape, k.output.trans h.output, Nat.le_trans h.size k.size, fun i hi h1 h2 h3 => (k.block i (Nat.lt_of_lt_of_le hi h.size)).trans (h.block i hi h1 h2 h3), h.loc⟩
theorem FW.below {pb mb B : Nat} {w w' : World} {v v' : Value} (h : FW pb mb w w' v v') (hB : B ≤ w.heap.size) (h1 : B ≤ pb) (h2 : B ≤ mb) (h3 : ∀ k, v.ownBlock = some k → B ≤ k) : Below B w w' :=
  ⟨h.os, h.tape, h.output, h.size, fun k hk => h.block k (by omega) (by omega) (by omega) (fun e => by have := h3 k e.symm; omega)⟩

theorem Ints.own {w : World} {base : Nat} {v : Value} {l : List Int} (h : Ints w base v l) : ∀ k, v.ownBlock = some k → base ≤ k ∧ k < w.heap.size := World.ownsRow.lt h
theorem Ints.keep {w w' : World} {base : Nat} {v : Value} {l : List Int} (h : Ints w base v l) (hb : ∀ k, v.ownBlock = some k → w'.heap[k]? = w.heap[k]?) : Ints w' base v l := by
  obtain ⟨h1, h2⟩ := h
  refine ⟨h1, ?_⟩
  rcases h2 with h2 | ⟨g, cap, cur, e1, e2, e3, e4⟩
  · exact Or.inl h2
  · refine Or.inr ⟨g, cap, cur, e1, e2, ?_, e4⟩
    rw [hb g (by rw [e1]; rfl)]; exact e3
theorem ownsMap_keep {w w' : World} {b n : Nat} {D : DataW Unit} (h : w.ownsMap Try.prog 9 (plainElem Try.prog 3) b n D) (hb : w'.heap[b]? = w.heap[b]?) : w'.ownsMap Try.prog 9 (plainElem Try.prog 3) b n D := by
  obtain ⟨es, clock, h1, h2⟩ := h
  exact ⟨es, clock, hb.trans h1, h2⟩
theorem ownsMap_tight {w : World} {b n : Nat} {D : DataW Unit} (h : w.ownsMap Try.prog 9 (plainElem Try.prog 3) b n D) : w.ownsMap Try.prog 9 (plainElem Try.prog 3) b (Maps.size D) D := by
  obtain ⟨es, clock, h1, h2, h3, h4⟩ := h
  refine ⟨es, clock, h1, h2, ?_, h4⟩
  rw [h4]
  simp [Maps.size, length_sorted]
/-- a walker stands while its three blocks stand -/
theorem WSt.keep {w w' : World} {pb mb base : Nat} {cells : Int} {v : Value} {st : Sta} (h : WSt w pb mb base cells v st) (h1 : w'.heap[pb]? = w.heap[pb]?) (h2 : w'.heap[mb]? = w.heap[mb]?) (h3 : ∀ k, v.ownBlock = some k → w'.heap[k]? = w.heap[k]?) (hs : w.heap.size ≤ w'.heap.size) : WSt w' pb mb base cells v st := by
  obtain ⟨D, m1, m2⟩ := h.map
  exact ⟨(World.cell?_of_block (w := w) (a := ⟨pb, 0, none⟩) h1).trans h.c0, (World.cell?_of_block (w := w) (a := ⟨pb, 1, none⟩) h1).trans h.c1, (World.cell?_of_block (w := w) (a := ⟨pb, 2, none⟩) h1).trans h.c2, (World.cell?_of_block (w := w) (a := ⟨pb, 3, none⟩) h1).trans h.c3, (World.frozen?_of_block (w := w) (a := ⟨pb, 2, none⟩) h1).trans h.f2, (World.frozen?_of_block (w := w) (a := ⟨pb, 3, none⟩) h1).trans h.f3, h.ints.keep h3, ⟨D, ownsMap_keep m1 h2, m2⟩, h.pl, h.ml, h.ne, Nat.le_trans h.bs hs⟩
theorem WSt.below {w w' : World} {pb mb base : Nat} {cells : Int} {v : Value} {st : Sta} (h : WSt w pb mb base cells v st) (hb : Below w.heap.size w w') : WSt w' pb mb base cells v st :=
  h.keep (hb.block _ (Nat.lt_of_lt_of_le h.pl h.bs)) (hb.block _ (Nat.lt_of_lt_of_le h.ml h.bs)) (fun k hk => hb.block _ (h.ints.own k hk).2) hb.size

/-- what becomes of a walker's call -/
def RPost (pb mb base : Nat) (cells : Int) (w : World) (v : Value) : Res → Ending → World → Prop
  | .err x, e, w' => e = .returned (.int .i64 x) ∧ (x == 0) = false ∧ ∃ v', FW pb mb w w' v v'
  | .ok st, e, w' => e = .returned (.int .i64 0) ∧ ∃ v', WSt w' pb mb base cells v' st ∧ FW pb mb w w' v v'
theorem RPost.pre {pb mb base : Nat} {cells : Int} {w w1 : World} {v v1 : Value} {r : Res} {e : Ending} {w' : World} (h : RPost pb mb base cells w1 v1 r e w') (k : FW pb mb w w1 v v1) : RPost pb mb base cells w v r e w' := by
  cases r with
  | err x => obtain ⟨h1, h2, v', h3⟩ := h; exact ⟨h1, h2, v', k.trans h3⟩
  | ok st => obtain ⟨h1, v', h2, h3⟩ := h; exact ⟨h1, v', h2, k.trans h3⟩

theorem law9 : Keyed Try.prog 9 := string_keyed Try.underlying9
theorem zero3 (w : World) : (zeroValue 3).run Try.prog w = .ok (.int .i64 0) w := by kernel_rfl
theorem info3 : (Try.prog.info? 3).map (fun i => (i.zero, i.size, i.bytes)) = some (some (.int .i64 0), 1, 8) := by kernel_rfl
theorem info9 : (Try.prog.info? 9).map (fun i => (i.zero, i.size, i.bytes)) = some (some (.string ⟨#[]⟩), 1, 16) := by kernel_rfl

theorem ints_one (l : List Int) : ∀ u ∈ (l.map fun x => Value.int .i64 x), u.oneCell' = true := by
  intro u hu
  obtain ⟨_, _, rfl⟩ := List.mem_map.1 hu
  rfl
end Go.Proofs.Ytiafdlebggegfab
