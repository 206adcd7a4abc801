/- Both dealers side by side: the program's, and the document's in a variable. -/
import Derived.Test.YtamlnagipmomgaaR7
namespace Go.Proofs.Ytamlnagipmomgaa
open Go.RowKit Go.Maps
set_option linter.unusedVariables false

theorem GSl.form {w : World} {v : Value} {G : List Int} (h : GSl w v G) : ∃ a l c, v = Value.slice a l c := by obtain ⟨a, c, _, _, e, _⟩ := h; exact ⟨_, _, _, e⟩
theorem GSl.apart {w w' : World} {v : Value} {G : List Int} {rb B : Nat} (h : GSl w v G) (hn : NewV B v) (hB : rb < B) (C : Ch (fun k => k = rb) w w') : GSl w' v G := by
  obtain ⟨a, c, b, o, e1, e2, e3, e4, e5⟩ := h
  refine ⟨a, c, b, o, e1, e2, e3, e4, fun i hi => ?_⟩
  have ha := e4 (by omega)
  rw [ha] at e1
  have hb : B ≤ b := hn _ _ _ e1
  have hlt : b < w.heap.size := World.block_lt_of_cell? w _ (e5 i hi)
  exact (World.cell?_of_block (a := ⟨b, o + i, none⟩) (C.block b hlt (by omega))).trans (e5 i hi)
theorem XB.ch {w w' : World} {x : Nat} {p s k n : Int} {v : Value} {q : Nat → Prop} (h : XB w x p s k n v) (c : Ch q w w') (hx : ¬ q x) : XB w' x p s k n v := (c.block _ h.lt hx).trans h
theorem RB.ch {w w' : World} {g : Nat} {p s k n next : Int} {tv : Value} {q : Nat → Prop} (h : RB w g p s k n next tv) (c : Ch q w w') (hx : ¬ q g) : RB w' g p s k n next tv := (c.block _ h.lt hx).trans h
structure SM (w : World) (x rb db tb : Nat) (p : Int) (S W N : Nat) (v tv : Value) (nd : Int) (td : List Int) (nr : Int) (tr : List Int) (wr : World) : Prop where
  dl : DL wr db tb p (S : Int) (N : Int) nd td
  len : td.length = W
  box : XB wr x p (S : Int) (W : Int) (N : Int) v
  ref : RB wr rb p (S : Int) (W : Int) (N : Int) nr tv
  row : GSl wr tv tr
  nv : ∀ a l c, tv = .slice (some a) l c → a.block ≠ db ∧ a.block ≠ tb ∧ a.block ≠ rb
  bel : Below w.heap.size w wr
  lo : w.heap.size ≤ x ∧ w.heap.size ≤ rb ∧ w.heap.size ≤ db ∧ w.heap.size ≤ tb
  n1 : x ≠ rb
  n2 : x ≠ db
  n3 : x ≠ tb
  n4 : rb ≠ db
  n5 : rb ≠ tb
section
variable {w : World} {x rb db tb : Nat} {p : Int} {S W N : Nat} {v tv : Value} {nd nr : Int} {td tr : List Int} {wr wr' : World}
theorem SM.same (h : SM w x rb db tb p S W N v tv nd td nr tr wr) (c : Below wr.heap.size wr wr') : SM w x rb db tb p S W N v tv nd td nr tr wr' :=
  ⟨h.dl.below c, h.len, h.box.below c, h.ref.below c, h.row.below c, h.nv, h.bel.trans (c.mono h.bel.size), h.lo, h.n1, h.n2, h.n3, h.n4, h.n5⟩
theorem SM.lt (h : SM w x rb db tb p S W N v tv nd td nr tr wr) : rb < wr.heap.size ∧ db < wr.heap.size ∧ tb < wr.heap.size := ⟨h.ref.lt, h.dl.lt.1, h.dl.lt.2⟩
/-- the program's dealer goes on -/
theorem SM.deal (h : SM w x rb db tb p S W N v tv nd td nr tr wr) {nd' : Int} {td' : List Int} (D : DL wr' db tb p (S : Int) (N : Int) nd' td') (hl : td'.length = W) (C : Ch (dw db tb) wr wr') : SM w x rb db tb p S W N v tv nd' td' nr tr wr' := by
  have hlo := h.lo
  have hq : ∀ q, dw db tb q → w.heap.size ≤ q := fun q hq => by rcases hq with rfl | rfl; exact hlo.2.2.1; exact hlo.2.2.2
  have n1 := h.n1; have n2 := h.n2; have n3 := h.n3; have n4 := h.n4; have n5 := h.n5
  refine ⟨D, hl, h.box.ch C (by unfold dw; omega), h.ref.ch C (by unfold dw; omega), ?_, h.nv, h.bel.trans (C.below h.bel.size hq), h.lo, h.n1, h.n2, h.n3, h.n4, h.n5⟩
  obtain ⟨a, c, b, o, e1, e2, e3, e4, e5⟩ := h.row
  refine ⟨a, c, b, o, e1, e2, e3, e4, fun i hi => ?_⟩
  have ha := e4 (by omega)
  rw [ha] at e1
  have hnv := h.nv _ _ _ e1
  have hlt : b < wr.heap.size := World.block_lt_of_cell? wr _ (e5 i hi)
  exact (World.cell?_of_block (a := ⟨b, o + i, none⟩) (C.block b hlt (by unfold dw; simp only [] at hnv; omega))).trans (e5 i hi)
/-- the document's dealer goes on -/
theorem SM.put (h : SM w x rb db tb p S W N v tv nd td nr tr wr) {nr' : Int} {tr' : List Int} {tv' : Value} (C : Ch (fun k => k = rb) wr wr') (hr : RB wr' rb p (S : Int) (W : Int) (N : Int) nr' tv') (hg : GSl wr tv' tr') (hnv : ∀ a l c, tv' = .slice (some a) l c → a.block ≠ db ∧ a.block ≠ tb ∧ a.block ≠ rb) : SM w x rb db tb p S W N v tv' nd td nr' tr' wr' := by
  have hlo := h.lo
  have n1 := h.n1; have n4 := h.n4; have n5 := h.n5
  refine ⟨h.dl.ch C (fun q => n4 q.symm) (fun q => n5 q.symm), h.len, h.box.ch C n1, hr, ?_, hnv, h.bel.trans (C.below h.bel.size (fun k hk => by rw [hk]; exact hlo.2.1)), h.lo, h.n1, h.n2, h.n3, h.n4, h.n5⟩
  obtain ⟨a, c, b, o, e1, e2, e3, e4, e5⟩ := hg
  refine ⟨a, c, b, o, e1, e2, e3, e4, fun i hi => ?_⟩
  have ha := e4 (by omega)
  rw [ha] at e1
  have hb := (hnv _ _ _ e1).2.2
  have hlt : b < wr.heap.size := World.block_lt_of_cell? wr _ (e5 i hi)
  exact (World.cell?_of_block (a := ⟨b, o + i, none⟩) (C.block b hlt hb)).trans (e5 i hi)
end
theorem put6C {W : World} {g : Nat} (a b c d e f : Value) : Ch (fun k => k = g) W ((((((W.setCell ⟨g, 0, none⟩ a).setCell ⟨g, 1, none⟩ b).setCell ⟨g, 2, none⟩ c).setCell ⟨g, 3, none⟩ d).setCell ⟨g, 4, none⟩ e).setCell ⟨g, 5, none⟩ f) :=
  ((((((Ch.refl (fun k => k = g) W).set (.inl rfl) 0 a).set (.inl rfl) 1 b).set (.inl rfl) 2 c).set (.inl rfl) 3 d).set (.inl rfl) 4 e).set (.inl rfl) 5 f
/-- what a new row, or the one that was, is apart from -/
theorem apart {tv tv' : Value} {B rb db tb : Nat} (h0 : ∀ a l c, tv = .slice (some a) l c → a.block ≠ db ∧ a.block ≠ tb ∧ a.block ≠ rb) (h : tv' = tv ∨ NewV B tv') (hB : rb < B ∧ db < B ∧ tb < B) : ∀ a l c, tv' = .slice (some a) l c → a.block ≠ db ∧ a.block ≠ tb ∧ a.block ≠ rb := by
  rcases h with rfl | h
  · exact h0
  · intro a l c e
    have := h a l c e
    omega
end Go.Proofs.Ytamlnagipmomgaa
