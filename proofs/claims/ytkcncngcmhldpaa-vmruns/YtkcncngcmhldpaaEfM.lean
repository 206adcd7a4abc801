/- What a run has done, in memory. -/
import Derived.Test.YtkcncngcmhldpaaRunP
import Derived.Test.YtkcncngcmhldpaaPld
import Derived.Test.YtkcncngcmhldpaaRNew
import Derived.OneCell
namespace Go.Proofs.Ytkcncngcmhldpaa
open Go.RowKit Go.Maps
set_option linter.unusedVariables false

def iE (l : List Int) : List Value := l.map (Value.int .i64)
def pE (l : List (Int × Int)) : List Value := l.flatMap fun p => [Value.int .i64 p.1, .int .i64 p.2]
theorem iE_len (l : List Int) : (iE l).length = l.length := by simp [iE]
theorem pE_len : ∀ l : List (Int × Int), (pE l).length = l.length * 2
  | [] => rfl
  | p :: l => by
    have := pE_len l
    simp only [pE, List.flatMap_cons, List.length_append, List.length_cons, List.length_nil] at this ⊢
    omega
theorem iE_snoc (l : List Int) (x : Int) : iE (l ++ [x]) = iE l ++ [.int .i64 x] := by simp [iE]
theorem pE_snoc (l : List (Int × Int)) (x y : Int) : pE (l ++ [(x, y)]) = pE l ++ [.int .i64 x, .int .i64 y] := by simp [pE]
theorem iE_at (l : List Int) (i : Nat) (h : i < l.length) : (iE l)[i]? = some (.int .i64 l[i]) := by simp [iE, h]
theorem iE_set (l : List Int) (i : Nat) (x : Int) : (iE l).set i (.int .i64 x) = iE (l.set i x) := by simp [iE, List.map_set]
theorem pE_at : ∀ (l : List (Int × Int)) (i : Nat) (h : i < l.length), (pE l)[i * 2]? = some (.int .i64 l[i].1) ∧ (pE l)[i * 2 + 1]? = some (.int .i64 l[i].2)
  | p :: l, 0, _ => ⟨rfl, rfl⟩
  | p :: l, i + 1, h => by
    have := pE_at l i (by simpa using h)
    have e1 : (i + 1) * 2 = i * 2 + 1 + 1 := by omega
    rw [e1]
    simpa [pE] using this
/-- of one row and another -/
def Apart (a b : Value) : Prop := a.ownBlock = none ∨ b.ownBlock = none ∨ a.ownBlock ≠ b.ownBlock
theorem Apart.symm {a b : Value} (h : Apart a b) : Apart b a := by
  rcases h with h | h | h
  · exact Or.inr (Or.inl h)
  · exact Or.inl h
  · exact Or.inr (Or.inr (Ne.symm h))
theorem Apart.keep {a b : Value} (h : Apart a b) : a.ownBlock = none ∨ a.ownBlock ≠ b.ownBlock := by
  rcases h with h | h | h
  · exact Or.inl h
  · rw [h]; cases a.ownBlock with
    | none => exact Or.inl rfl
    | some k => exact Or.inr (by simp)
  · exact Or.inr h
/-- a run's world lies in block wb, all its rows from B on -/
structure EF (w : World) (t B wb : Nat) (mv ov nv : Value) (E : Ef) : Prop where
  blk : w.heap[wb]? = some (.cells #[mv, ov, nv, .int .i64 0, .int .i64 0, .int .i64 0] t)
  base : B ≤ wb
  m : w.ownsRow B 2 1 mv E.mem.length (iE E.mem)
  o : w.ownsRow B 2 1 ov E.outs.length (iE E.outs)
  n : w.ownsRow B 97 2 nv E.intos.length (pE E.intos)
  mo : Apart mv ov
  mn : Apart mv nv
  on : Apart ov nv
  mw : mv.ownBlock ≠ some wb
  ow : ov.ownBlock ≠ some wb
  nw : nv.ownBlock ≠ some wb
theorem ownsRow_blocks {w w' : World} {B : Nat} {e : TypeId} {size : Nat} {v : Value} {n : Nat} {xs : List Value} (h : w.ownsRow B e size v n xs) (hb : ∀ k, B ≤ k → k < w.heap.size → w'.heap[k]? = w.heap[k]?) : w'.ownsRow B e size v n xs := by
  refine ⟨h.1, ?_⟩
  rcases h.2 with h2 | ⟨g, cap, cur, hv, hg, hh, r⟩
  · exact Or.inl h2
  · exact Or.inr ⟨g, cap, cur, hv, hg, (hb g hg (Array.getElem?_eq_some_iff.1 hh).1).trans hh, r⟩
section
variable {w w' : World} {t B wb : Nat} {mv ov nv : Value} {E : Ef}
theorem EF.lt (h : EF w t B wb mv ov nv E) : wb < w.heap.size := (Array.getElem?_eq_some_iff.1 h.blk).1
theorem EF.keep (h : EF w t B wb mv ov nv E) (hb : ∀ k, B ≤ k → k < w.heap.size → w'.heap[k]? = w.heap[k]?) : EF w' t B wb mv ov nv E :=
  ⟨(hb wb h.base h.lt).trans h.blk, h.base, ownsRow_blocks h.m hb, ownsRow_blocks h.o hb, ownsRow_blocks h.n hb, h.mo, h.mn, h.on, h.mw, h.ow, h.nw⟩
theorem EF.below (h : EF w t B wb mv ov nv E) (hb : Below w.heap.size w w') : EF w' t B wb mv ov nv E := h.keep fun k _ hk => hb.block k hk
theorem EF.ch {vb : Nat} (h : EF w t B wb mv ov nv E) (hv : vb < B) (hb : Ch vb w w') : EF w' t B wb mv ov nv E := h.keep fun k hk hl => hb.block k hl (by omega)
theorem EF.drew (h : EF w t B wb mv ov nv E) : EF w.drew t B wb mv ov nv E := h.keep fun _ _ _ => rfl
theorem EF.alloc (h : EF w t B wb mv ov nv E) (o : Obj) : EF (w.alloc o) t B wb mv ov nv E := h.keep fun k _ hk => Below.heap_alloc _ _ _ hk
theorem EF.c0 (h : EF w t B wb mv ov nv E) : w.cell? ⟨wb, 0, none⟩ = some mv := by rw [cell_of_row w _ 0 _ _ _ h.blk]; rfl
theorem EF.c1 (h : EF w t B wb mv ov nv E) : w.cell? ⟨wb, 1, none⟩ = some ov := by rw [cell_of_row w _ 1 _ _ _ h.blk]; rfl
theorem EF.c2 (h : EF w t B wb mv ov nv E) : w.cell? ⟨wb, 2, none⟩ = some nv := by rw [cell_of_row w _ 2 _ _ _ h.blk]; rfl
theorem EF.fz (h : EF w t B wb mv ov nv E) (j : Nat) : w.frozen? ⟨wb, j, none⟩ = false := frozen_of_row w wb j _ _ h.blk
/-- the memory's row, where it isn't empty -/
theorem EF.mem (h : EF w t B wb mv ov nv E) (h0 : 0 < E.mem.length) : ∃ g cap, mv = .slice (some ⟨g, 0, none⟩) E.mem.length cap ∧ B ≤ g ∧ g ≠ wb ∧ E.mem.length ≤ cap ∧ cap ≤ maxLen ∧ (∀ i (hi : i < E.mem.length), w.cell? ⟨g, i, none⟩ = some (.int .i64 E.mem[i])) ∧ ∀ i, w.frozen? ⟨g, i, none⟩ = false := by
  have hc := fun g => World.ownsRow.cells h.m (g := g)
  rcases h.m.2 with ⟨_, h2⟩ | ⟨g, cap, cur, rfl, hg, hh, r1, r2, r3, r4⟩
  · omega
  · refine ⟨g, cap, rfl, hg, fun e => h.mw (by rw [e]; rfl), r1, r2, fun i hi => ?_, fun i => frozen_of_row w g i _ _ hh⟩
    have := hc g rfl i _ (iE_at E.mem i hi)
    rw [addn, Nat.zero_add] at this
    exact this
theorem ownsRow_set {B : Nat} {e : TypeId} {g cap n i : Nat} {xs : List Value} (h : w.ownsRow B e 1 (.slice (some ⟨g, 0, none⟩) n cap) n xs) (hi : i < n) (u : Value) : (w.setCell ⟨g, i, none⟩ u).ownsRow B e 1 (.slice (some ⟨g, 0, none⟩) n cap) n (xs.set i u) := by
  refine ⟨by rw [List.length_set]; exact h.1, Or.inr ?_⟩
  rcases h.2 with ⟨h1, _⟩ | ⟨g', cap', cur, hv, hg, hh, r1, r2, r3, r4⟩
  · cases h1
  · injection hv with a b c
    injection a with a
    injection a with a1 a2 a3
    subst a1 c
    refine ⟨g, cap, cur.setIfInBounds i u, rfl, hg, heap_setCell_same w g i cur e u hh, r1, r2, by simpa using r3, ?_⟩
    rw [← r4]
    simp [Nat.mul_one, List.take_set]
theorem EF.put (h : EF w t B wb mv ov nv E) {g cap : Nat} (hv : mv = .slice (some ⟨g, 0, none⟩) E.mem.length cap) (i : Nat) (hi : i < E.mem.length) (x : Int) : EF (w.setCell ⟨g, i, none⟩ (.int .i64 x)) t B wb mv ov nv { E with mem := E.mem.set i x } := by
  have hgw : wb ≠ g := fun e => h.mw (by rw [hv, ← e]; rfl)
  have ho : mv.ownBlock = some g := by rw [hv]; rfl
  refine ⟨(Below.heap_setCell _ _ _ _ hgw).trans h.blk, h.base, ?_, ?_, ?_, h.mo, h.mn, h.on, h.mw, h.ow, h.nw⟩
  · have h1 := h.m
    rw [hv] at h1 ⊢
    have := ownsRow_set h1 hi (.int .i64 x)
    rw [iE_set] at this
    rw [List.length_set]
    exact this
  · refine ownsRow_setCell_other h.o ?_ _
    rcases h.mo with h1 | h1 | h1
    · rw [ho] at h1; cases h1
    · rw [h1]; simp
    · rw [← ho]; exact Ne.symm h1
  · refine ownsRow_setCell_other h.n ?_ _
    rcases h.mn with h1 | h1 | h1
    · rw [ho] at h1; cases h1
    · rw [h1]; simp
    · rw [← ho]; exact Ne.symm h1
theorem apart_new {a v v' : Value} {w : World} {k : Nat} (h : Apart a v) (hv : v'.ownBlock = v.ownBlock ∨ v'.ownBlock = some k) (ha : a.ownBlock ≠ some k) : Apart a v' := by
  rcases hv with hv | hv
  · unfold Apart; rw [hv]; exact h
  · exact Or.inr (Or.inr (by rw [hv]; exact ha))
theorem ownBlock_ne {B : Nat} {e : TypeId} {size n : Nat} {v : Value} {xs : List Value} (h : w.ownsRow B e size v n xs) {k : Nat} (hk : w.heap.size ≤ k) : v.ownBlock ≠ some k := fun e => by have := (h.lt k e).2; omega
/-- the numbers put out have become one more -/
theorem EF.out (h : EF w t B wb mv ov nv E) (x : Int) {v' : Value} (hw : w'.ownsRow B 2 1 v' (E.outs.length + 1) (iE E.outs ++ [.int .i64 x])) (hg : w.grownBy w' ov.ownBlock) (hv : v'.ownBlock = ov.ownBlock ∨ v'.ownBlock = some w.heap.size) : EF (w'.setCell ⟨wb, 1, none⟩ v') t B wb mv v' nv { E with outs := E.outs ++ [x] } := by
  have hlt := h.lt
  have hbl : w'.heap[wb]? = _ := (hg.block wb hlt (by have := h.ow; exact Ne.symm this)).trans h.blk
  have how : v'.ownBlock ≠ some wb := by
    rcases hv with e | e
    · rw [e]; exact h.ow
    · rw [e]; intro e2; injection e2 with e2; omega
  refine ⟨?_, h.base, ?_, ?_, ?_, ?_, h.mn, ?_, h.mw, how, h.nw⟩
  · rw [heap_setCell_same w' wb 1 _ t v' hbl]; rfl
  · exact ownsRow_setCell_other (h.m.kept hg h.mo.keep) h.mw _
  · have e1 : ({ E with outs := E.outs ++ [x] } : Ef).outs.length = E.outs.length + 1 := by simp
    rw [e1]
    show World.ownsRow _ B 2 1 v' _ (iE (E.outs ++ [x]))
    rw [iE_snoc]
    exact ownsRow_setCell_other hw how _
  · exact ownsRow_setCell_other (h.n.kept hg h.on.symm.keep) h.nw _
  · exact apart_new (w := w) h.mo hv (ownBlock_ne h.m (Nat.le_refl _))
  · exact (apart_new (w := w) h.on.symm hv (ownBlock_ne h.n (Nat.le_refl _))).symm
/-- what went into reductions has become one more -/
theorem EF.into (h : EF w t B wb mv ov nv E) (x y : Int) {v' : Value} (hw : w'.ownsRow B 97 2 v' (E.intos.length + 1) (pE E.intos ++ [.int .i64 x, .int .i64 y])) (hg : w.grownBy w' nv.ownBlock) (hv : v'.ownBlock = nv.ownBlock ∨ v'.ownBlock = some w.heap.size) : EF (w'.setCell ⟨wb, 2, none⟩ v') t B wb mv ov v' { E with intos := E.intos ++ [(x, y)] } := by
  have hlt := h.lt
  have hbl : w'.heap[wb]? = _ := (hg.block wb hlt (by have := h.nw; exact Ne.symm this)).trans h.blk
  have how : v'.ownBlock ≠ some wb := by
    rcases hv with e | e
    · rw [e]; exact h.nw
    · rw [e]; intro e2; injection e2 with e2; omega
  refine ⟨?_, h.base, ?_, ?_, ?_, h.mo, ?_, ?_, h.mw, h.ow, how⟩
  · rw [heap_setCell_same w' wb 2 _ t v' hbl]; rfl
  · exact ownsRow_setCell_other (h.m.kept hg h.mn.keep) h.mw _
  · exact ownsRow_setCell_other (h.o.kept hg h.on.keep) h.ow _
  · have e1 : ({ E with intos := E.intos ++ [(x, y)] } : Ef).intos.length = E.intos.length + 1 := by simp
    rw [e1]
    show World.ownsRow _ B 97 2 v' _ (pE (E.intos ++ [(x, y)]))
    rw [pE_snoc]
    exact ownsRow_setCell_other hw how _
  · exact apart_new (w := w) h.mn hv (ownBlock_ne h.m (Nat.le_refl _))
  · exact apart_new (w := w) h.on hv (ownBlock_ne h.o (Nat.le_refl _))
/-- what is below B stays -/
theorem below_grown {B : Nat} {V : World} {v : Value} (hB : B ≤ w.heap.size) (hV : Below B V w) (hg : w.grownBy w' v.ownBlock) (hv : ∀ k, v.ownBlock = some k → B ≤ k) : Below B V w' :=
  ⟨hg.os.trans hV.os, hg.tape.trans hV.tape, hg.output.trans hV.output, Nat.le_trans hV.size hg.size, fun k hk => (hg.block k (by omega) (fun e => by have := hv k e.symm; omega)).trans (hV.block k hk)⟩
theorem below_put {B : Nat} {V : World} {g i : Nat} {v : Value} (h : Below B V w) (hg : B ≤ g) : Below B V (w.setCell ⟨g, i, none⟩ v) :=
  ⟨h.os, h.tape, h.output, by simpa [World.setCell] using h.size, fun k hk => (Below.heap_setCell _ _ _ _ (by show k ≠ g; omega)).trans (h.block k hk)⟩
theorem EF.nb (h : EF w t B wb mv ov nv E) : (∀ k, ov.ownBlock = some k → B ≤ k) ∧ (∀ k, nv.ownBlock = some k → B ≤ k) := ⟨fun k hk => (h.o.lt k hk).1, fun k hk => (h.n.lt k hk).1⟩
end
theorem cell_alloc {W : World} {p : Addr} {u : Value} (h : W.cell? p = some u) (A : Obj) : (W.alloc A).cell? p = some u := (World.cell?_of_block (a := p) (Below.heap_alloc _ _ _ (World.block_lt_of_cell? W p h))).trans h
end Go.Proofs.Ytkcncngcmhldpaa
