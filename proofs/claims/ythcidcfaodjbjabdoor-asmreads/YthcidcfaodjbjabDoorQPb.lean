/- The five lists of the document's Parse: a label has become a place. -/
import Derived.Test.YthcidcfaodjbjabDoorQLn
import Derived.Test.YthcidcfaodjbjabDoorQFd
import Derived.Test.YthcidcfaodjbjabDoorAim
namespace Go.Proofs.YthcidcfaodjbjabDoor
open Go.RowKit Go.Maps
set_option linter.unusedVariables false

/-- a list of the call's own: its value, its elements' type and size, how many, their cells -/
structure Rw where
  v : Value
  e : Nat
  size : Nat
  n : Nat
  xs : List Value
def Rw.at (w : World) (base : Nat) (r : Rw) : Prop := w.ownsRow base r.e r.size r.v r.n r.xs
/-- two lists lie apart -/
def Rw.apart (r s : Rw) : Prop := ∀ k, r.v.ownBlock = some k → s.v.ownBlock ≠ some k
theorem Rw.apart_symm {r s : Rw} (h : r.apart s) : s.apart r := fun k h1 h2 => h k h2 h1
theorem Rw.at.lt {w : World} {base : Nat} {r : Rw} (h : r.at w base) : ∀ k, r.v.ownBlock = some k → base ≤ k ∧ k < w.heap.size := World.ownsRow.lt h
theorem Rw.at.keep {w w' : World} {base : Nat} {r : Rw} (h : r.at w base) (hb : ∀ k, r.v.ownBlock = some k → w'.heap[k]? = w.heap[k]?) : r.at w' base := own_keep h hb
theorem Rw.at.below {w w' : World} {base : Nat} {r : Rw} (h : r.at w base) (hb : Below w.heap.size w w') : r.at w' base := h.keep (fun k hk => hb.block k (h.lt k hk).2)
/-- another list has grown -/
theorem Rw.at.other {w w' : World} {base : Nat} {r s : Rw} (h : r.at w base) (ha : r.apart s) (hg : w.grownBy w' s.v.ownBlock) : r.at w' base :=
  h.keep (fun k hk => hg.block k (h.lt k hk).2 (fun e => ha k hk e.symm))
/-- a list that has grown lies apart still -/
theorem Rw.apart_grown {w : World} {base : Nat} {r s s' : Rw} (h : r.at w base) (ha : r.apart s) (hv : s'.v.ownBlock = s.v.ownBlock ∨ ∃ f, s'.v.ownBlock = some f ∧ w.heap.size ≤ f) : r.apart s' := by
  intro k h1 h2
  rcases hv with e | ⟨f, e, hf⟩
  · exact ha k h1 (e.symm.trans h2)
  · rw [e] at h2
    have e2 : f = k := Option.some.inj h2
    have := (h.lt k h1).2
    omega
/-- five lists side by side -/
structure P5 (w : World) (base : Nat) (a b c d e : Rw) : Prop where
  ha : a.at w base
  hb : b.at w base
  hc : c.at w base
  hd : d.at w base
  he : e.at w base
  ab : a.apart b
  ac : a.apart c
  ad : a.apart d
  ae : a.apart e
  bc : b.apart c
  bd : b.apart d
  be : b.apart e
  cd : c.apart d
  ce : c.apart e
  de : d.apart e
theorem P5.below {w w' : World} {base : Nat} {a b c d e : Rw} (h : P5 w base a b c d e) (hb : Below w.heap.size w w') : P5 w' base a b c d e :=
  ⟨h.ha.below hb, h.hb.below hb, h.hc.below hb, h.hd.below hb, h.he.below hb, h.ab, h.ac, h.ad, h.ae, h.bc, h.bd, h.be, h.cd, h.ce, h.de⟩
/-- the first grows -/
theorem P5.one {w w' : World} {base : Nat} {a a' b c d e : Rw} (h : P5 w base a b c d e) (hg : w.grownBy w' a.v.ownBlock) (ho : a'.at w' base) (hv : a'.v.ownBlock = a.v.ownBlock ∨ ∃ f, a'.v.ownBlock = some f ∧ w.heap.size ≤ f) : P5 w' base a' b c d e :=
  ⟨ho, h.hb.other (Rw.apart_symm h.ab) hg, h.hc.other (Rw.apart_symm h.ac) hg, h.hd.other (Rw.apart_symm h.ad) hg, h.he.other (Rw.apart_symm h.ae) hg,
   Rw.apart_symm (Rw.apart_grown h.hb (Rw.apart_symm h.ab) hv), Rw.apart_symm (Rw.apart_grown h.hc (Rw.apart_symm h.ac) hv), Rw.apart_symm (Rw.apart_grown h.hd (Rw.apart_symm h.ad) hv), Rw.apart_symm (Rw.apart_grown h.he (Rw.apart_symm h.ae) hv), h.bc, h.bd, h.be, h.cd, h.ce, h.de⟩
/-- the lists in another order -/
theorem P5.turn {w : World} {base : Nat} {a b c d e : Rw} (h : P5 w base a b c d e) : P5 w base b c d e a :=
  ⟨h.hb, h.hc, h.hd, h.he, h.ha, h.bc, h.bd, h.be, Rw.apart_symm h.ab, h.cd, h.ce, Rw.apart_symm h.ac, h.de, Rw.apart_symm h.ad, Rw.apart_symm h.ae⟩
theorem P5.two {w w' : World} {base : Nat} {a b b' c d e : Rw} (h : P5 w base a b c d e) (hg : w.grownBy w' b.v.ownBlock) (ho : b'.at w' base) (hv : b'.v.ownBlock = b.v.ownBlock ∨ ∃ f, b'.v.ownBlock = some f ∧ w.heap.size ≤ f) : P5 w' base a b' c d e :=
  ((((h.turn.one hg ho hv).turn).turn).turn).turn
theorem P5.three {w w' : World} {base : Nat} {a b c c' d e : Rw} (h : P5 w base a b c d e) (hg : w.grownBy w' c.v.ownBlock) (ho : c'.at w' base) (hv : c'.v.ownBlock = c.v.ownBlock ∨ ∃ f, c'.v.ownBlock = some f ∧ w.heap.size ≤ f) : P5 w' base a b c' d e :=
  (((h.turn.turn.one hg ho hv).turn).turn).turn
theorem P5.four {w w' : World} {base : Nat} {a b c d d' e : Rw} (h : P5 w base a b c d e) (hg : w.grownBy w' d.v.ownBlock) (ho : d'.at w' base) (hv : d'.v.ownBlock = d.v.ownBlock ∨ ∃ f, d'.v.ownBlock = some f ∧ w.heap.size ≤ f) : P5 w' base a b c d' e :=
  ((h.turn.turn.turn.one hg ho hv).turn).turn
theorem P5.five {w w' : World} {base : Nat} {a b c d e e' : Rw} (h : P5 w base a b c d e) (hg : w.grownBy w' e.v.ownBlock) (ho : e'.at w' base) (hv : e'.v.ownBlock = e.v.ownBlock ∨ ∃ f, e'.v.ownBlock = some f ∧ w.heap.size ≤ f) : P5 w' base a b c d e' :=
  (h.turn.turn.turn.turn.one hg ho hv).turn

/-- the five lists of the document's Parse: instructions, labels wanted, their lines, labels, their places -/
def rIns (v : Value) (l : List In) : Rw := ⟨v, 25, 6, l.length, ics l⟩
def rStr (v : Value) (l : List (List UInt8)) : Rw := ⟨v, 9, 1, l.length, l.map fun x => Value.string ⟨x.toArray⟩⟩
def rInt (v : Value) (l : List Int) : Rw := ⟨v, 3, 1, l.length, l.map fun x => Value.int .i64 x⟩
def D5 (w : World) (base : Nat) (vl vw va vb vp : Value) (st : Rs) : Prop :=
  P5 w base (rIns vl st.code) (rStr vw (st.frm.map (·.2))) (rInt va (st.frm.map (·.1))) (rStr vb (st.tab.map (·.1))) (rInt vp (st.tab.map (·.2)))
theorem D5.new (w : World) (base : Nat) : D5 w base (.slice none 0 0) (.slice none 0 0) (.slice none 0 0) (.slice none 0 0) (.slice none 0 0) ⟨[], [], []⟩ := by
  have hn : ∀ e s, w.ownsRow base e s (.slice none 0 0) 0 [] := fun e s => ⟨by simp, Or.inl ⟨rfl, rfl⟩⟩
  exact ⟨hn _ _, hn _ _, hn _ _, hn _ _, hn _ _, (fun k h => by cases h), (fun k h => by cases h), (fun k h => by cases h), (fun k h => by cases h), (fun k h => by cases h), (fun k h => by cases h), (fun k h => by cases h), (fun k h => by cases h), (fun k h => by cases h), (fun k h => by cases h)⟩
end Go.Proofs.YthcidcfaodjbjabDoor
namespace Go.Proofs.YthcidcfaodjbjabDoor
open Go.RowKit Go.Maps
set_option linter.unusedVariables false

/-- a text of a list -/
def bs (l : List UInt8) : ByteArray := ⟨l.toArray⟩
theorem bs_toList (l : List UInt8) : (bs l).toList = l := by rw [ByteArray.toList_eq]; simp [bs]
theorem bs_data (t : ByteArray) : bs t.data.toList = t := by simp [bs]
/-- find in the labels is find in the table -/
theorem find_link (t : ByteArray) : ∀ (tab : List (List UInt8 × Int)) (k : Nat), (findT tab t.data.toList = none ∧ findI t (tab.map fun x => bs x.1) k = -1) ∨ ∃ (i : Nat) (h : i < tab.length), findT tab t.data.toList = some tab[i].2 ∧ findI t (tab.map fun x => bs x.1) k = ((k + i : Nat) : Int)
  | [], k => Or.inl ⟨rfl, rfl⟩
  | x :: r, k => by
    by_cases he : x.1 = t.data.toList
    · refine Or.inr ⟨0, by simp, ?_, ?_⟩
      · unfold findT
        rw [List.find?_cons_of_pos (by simpa using he)]
        rfl
      · show (if (bs x.1).toList = t.toList then (k : Int) else _) = _
        rw [if_pos (by rw [bs_toList, ByteArray.toList_eq]; exact he)]
        rfl
    · have h1 : findT (x :: r) t.data.toList = findT r t.data.toList := by
        unfold findT
        rw [List.find?_cons_of_neg (by simpa using he)]
      have h2 : findI t ((x :: r).map fun x => bs x.1) k = findI t (r.map fun x => bs x.1) (k + 1) := by
        show (if (bs x.1).toList = t.toList then (k : Int) else _) = _
        rw [if_neg (by rw [bs_toList, ByteArray.toList_eq]; exact he)]
      rcases find_link t r (k + 1) with ⟨a, b⟩ | ⟨i, hi, a, b⟩
      · exact Or.inl ⟨h1.trans a, h2.trans b⟩
      · refine Or.inr ⟨i + 1, by simpa using hi, h1.trans a, h2.trans (b.trans ?_)⟩
        congr 1; omega
theorem rStr_snoc {w : World} {base : Nat} {v : Value} {l : List (List UInt8)} {x : List UInt8} (h : w.ownsRow base 9 1 v (l.length + 1) ((l.map fun x => Value.string ⟨x.toArray⟩) ++ [.string ⟨x.toArray⟩])) : (rStr v (l ++ [x])).at w base := by
  show w.ownsRow _ _ _ _ _ _
  simpa [rStr] using h
theorem rInt_snoc {w : World} {base : Nat} {v : Value} {l : List Int} {x : Int} (h : w.ownsRow base 3 1 v (l.length + 1) ((l.map fun x => Value.int .i64 x) ++ [.int .i64 x])) : (rInt v (l ++ [x])).at w base := by
  show w.ownsRow _ _ _ _ _ _
  simpa [rInt] using h
theorem rIns_snoc {w : World} {base : Nat} {v : Value} {l : List In} {x : In} (h : w.ownsRow base 25 6 v (l.length + 1) (ics l ++ ics [x])) : (rIns v (l ++ [x])).at w base := by
  show w.ownsRow _ _ _ _ _ _
  simpa [rIns, ics_app] using h
/-- a list's value -/
theorem Rw.at.form {w : World} {base : Nat} {r : Rw} (h : r.at w base) : ∃ a c, r.v = .slice a r.n c := by
  rcases h.2 with ⟨h, h0⟩ | ⟨g, cap, _, h, _⟩
  · exact ⟨none, 0, by rw [h0]; exact h⟩
  · exact ⟨_, _, h⟩
/-- the labels as texts of the call's own -/
theorem rStr_strs {w : World} {base : Nat} {v : Value} {l : List (List UInt8)} (h : (rStr v l).at w base) : Strs w base v (l.map bs) := by
  show w.ownsRow _ _ _ _ _ _
  have h' : w.ownsRow base 9 1 v l.length (l.map fun x => Value.string ⟨x.toArray⟩) := h
  simpa [bs, Function.comp_def] using h'
end Go.Proofs.YthcidcfaodjbjabDoor
namespace Go.Proofs.YthcidcfaodjbjabDoor
open Go.RowKit Go.Maps
set_option linter.unusedVariables false
theorem P5.setK {w : World} {B lg n cap : Nat} {D R : List In} {x : In} {b c d e : Rw} (h : P5 w B (rIns (.slice (some ⟨lg, 0, none⟩) n cap) (D ++ x :: R)) b c d e) (p : Int) : P5 (w.setCell ⟨lg, D.length * 6 + 5, none⟩ (.int .i64 p)) B (rIns (.slice (some ⟨lg, 0, none⟩) n cap) (D ++ { x with k := p } :: R)) b c d e := by
  refine h.one ⟨rfl, rfl, rfl, by simp [World.setCell], fun k hk hn => Below.heap_setCell _ _ _ _ (fun e => hn (by rw [e]; rfl))⟩ ?_ (Or.inl rfl)
  exact IOwn.setK (D := D) (R := R) (x := x) h.ha p
theorem rStr_at {w : World} {B g n cap : Nat} {l : List (List UInt8)} (h : (rStr (.slice (some ⟨g, 0, none⟩) n cap) l).at w B) (i : Nat) (hi : i < l.length) : w.cell? ⟨g, i, none⟩ = some (.string ⟨l[i].toArray⟩) := by
  have hc := World.ownsRow.cells (show w.ownsRow B 9 1 (.slice (some ⟨g, 0, none⟩) n cap) l.length (l.map fun x => Value.string ⟨x.toArray⟩) from h) (g := g) rfl i (.string ⟨l[i].toArray⟩) (by rw [List.getElem?_map, List.getElem?_eq_getElem hi]; rfl)
  rw [addn, Nat.zero_add] at hc
  exact hc
theorem rInt_at {w : World} {B g n cap : Nat} {l : List Int} (h : (rInt (.slice (some ⟨g, 0, none⟩) n cap) l).at w B) (i : Nat) (hi : i < l.length) : w.cell? ⟨g, i, none⟩ = some (.int .i64 l[i]) := by
  have hc := World.ownsRow.cells (show w.ownsRow B 3 1 (.slice (some ⟨g, 0, none⟩) n cap) l.length (l.map fun x => Value.int .i64 x) from h) (g := g) rfl i (.int .i64 l[i]) (by rw [List.getElem?_map, List.getElem?_eq_getElem hi]; rfl)
  rw [addn, Nat.zero_add] at hc
  exact hc
/-- a list that is not empty -/
theorem Rw.at.some {w : World} {B : Nat} {r : Rw} (h : r.at w B) (h0 : 0 < r.n) : ∃ g cap, r.v = .slice (some ⟨g, 0, none⟩) r.n cap ∧ r.n ≤ cap ∧ cap ≤ maxLen ∧ g < w.heap.size := by
  rcases h.2 with ⟨_, h2⟩ | ⟨g, cap, cur, e1, e2, e3, e4, e5, _⟩
  · omega
  · exact ⟨g, cap, e1, e4, e5, (Array.getElem?_eq_some_iff.1 e3).1⟩
theorem IOwn.low {w : World} {B B' : Nat} {v : Value} {l : List In} (h : IOwn w B v l) (hB : B' ≤ B) : IOwn w B' v l := by
  obtain ⟨h1, h2⟩ := h
  refine ⟨h1, ?_⟩
  rcases h2 with h2 | ⟨g, cap, cur, e1, e2, e3⟩
  · exact Or.inl h2
  · exact Or.inr ⟨g, cap, cur, e1, by omega, e3⟩
end Go.Proofs.YthcidcfaodjbjabDoor
