/- Expressions in memory; what comes of a reading. -/
import Derived.Test.YtnofibjchhcmeabDoorMk
namespace Go.Proofs.YtnofibjchhcmeabDoor
open Go.RowKit Go.Maps
set_option linter.unusedVariables false

/-- expressions in memory, from a cell on, in blocks of which ok speaks -/
def EAt (w : World) (ok : Nat → Prop) : EL → Nat → Nat → Prop
  | .leaf, _, _ => True
  | .inner _ (k, n, s, p) _ a r, b, o => w.cell? ⟨b, o, none⟩ = some (.int .i64 k) ∧ w.cell? ⟨b, o + 1, none⟩ = some (.int .i64 n) ∧ w.cell? ⟨b, o + 2, none⟩ = some (.string s) ∧ w.cell? ⟨b, o + 3, none⟩ = some (.int .i64 p) ∧
      (∃ ad cap b' o', w.cell? ⟨b, o + 4, none⟩ = some (.slice ad (elen a) cap) ∧ elen a ≤ cap ∧ cap ≤ maxLen ∧ (0 < elen a → ad = some ⟨b', o', none⟩ ∧ ok b') ∧ EAt w ok a b' o') ∧ EAt w ok r b (o + 5)
/-- a slice of them -/
def ESlP (w : World) (ok : Nat → Prop) (v : Value) (l : EL) : Prop := ∃ ad cap b o, v = .slice ad (elen l) cap ∧ elen l ≤ cap ∧ cap ≤ maxLen ∧ (0 < elen l → ad = some ⟨b, o, none⟩ ∧ ok b) ∧ EAt w ok l b o
def ESl (w : World) (lo : Nat) (v : Value) (l : EL) : Prop := ESlP w (fun k => lo ≤ k) v l
theorem elen_pos {i d v a r} : 0 < elen (Std.DTreeMap.Internal.Impl.inner i d v a r : EL) := Nat.succ_pos _
theorem EAt.keep {w w' : World} {ok : Nat → Prop} (hb : ∀ k, ok k → k < w.heap.size → w'.heap[k]? = w.heap[k]?) : ∀ {l : EL} {b o : Nat}, (0 < elen l → ok b) → EAt w ok l b o → EAt w' ok l b o := by
  intro l
  induction l with
  | leaf => intro b o _ _; trivial
  | inner i d v a r iha ihr =>
    obtain ⟨k, n, s, p⟩ := d
    intro b o hlo ⟨h1, h2, h3, h4, ⟨ad, cap, b', o', g1, g2, g3, g4, g5⟩, h7⟩
    have hl : ok b := hlo elen_pos
    have hlt : b < w.heap.size := World.block_lt_of_cell? w ⟨b, o, none⟩ h1
    have e := hb b hl hlt
    refine ⟨(World.cell?_of_block (a := ⟨b, o, none⟩) e).trans h1, (World.cell?_of_block (a := ⟨b, o + 1, none⟩) e).trans h2, (World.cell?_of_block (a := ⟨b, o + 2, none⟩) e).trans h3, (World.cell?_of_block (a := ⟨b, o + 3, none⟩) e).trans h4, ⟨ad, cap, b', o', (World.cell?_of_block (a := ⟨b, o + 4, none⟩) e).trans g1, g2, g3, g4, iha (fun q => (g4 q).2) g5⟩, ihr (fun _ => hl) h7⟩
theorem ESlP.keep {w w' : World} {ok : Nat → Prop} {v : Value} {l : EL} (h : ESlP w ok v l) (hb : ∀ k, ok k → k < w.heap.size → w'.heap[k]? = w.heap[k]?) : ESlP w' ok v l := by
  obtain ⟨ad, cap, b, o, h1, h2, h3, h4, h5⟩ := h
  exact ⟨ad, cap, b, o, h1, h2, h3, h4, h5.keep hb (fun q => (h4 q).2)⟩
theorem ESl.keep {w w' : World} {lo : Nat} {v : Value} {l : EL} (h : ESl w lo v l) (hb : ∀ k, lo ≤ k → k < w.heap.size → w'.heap[k]? = w.heap[k]?) : ESl w' lo v l := ESlP.keep h hb
theorem ESl.below {w w' : World} {lo : Nat} {v : Value} {l : EL} (h : ESl w lo v l) (hb : Below w.heap.size w w') : ESl w' lo v l := h.keep fun k _ hs => hb.block k hs
theorem ESlP.below {w w' : World} {ok : Nat → Prop} {v : Value} {l : EL} (h : ESlP w ok v l) (hb : Below w.heap.size w w') : ESlP w' ok v l := h.keep fun k _ hs => hb.block k hs
theorem ESlP.sl {w : World} {ok : Nat → Prop} {v : Value} {l : EL} (h : ESlP w ok v l) : Sl v := by
  obtain ⟨ad, cap, b, o, h1, _⟩ := h
  exact ⟨_, _, _, h1⟩
theorem ESl.sl {w : World} {lo : Nat} {v : Value} {l : EL} (h : ESl w lo v l) : Sl v := ESlP.sl h
theorem ESlP.nil (w : World) (ok : Nat → Prop) : ESlP w ok (.slice none 0 0) .leaf := ⟨none, 0, 0, 0, rfl, Nat.le_refl _, Nat.zero_le _, fun h => absurd h (Nat.lt_irrefl 0), trivial⟩

def rx (y : PE) (v : Value) : RX := ⟨y.kind, y.num, y.name, y.op, v, y.deep⟩
def rxs (ys : List (PE × Value)) : List RX := ys.map fun y => rx y.1 y.2
theorem deepR_rxs (ys : List (PE × Value)) : deepR (rxs ys) = deepOf (ys.map (·.1)) := by
  unfold deepR deepOf rxs
  rw [List.foldl_map, List.foldl_map]
  rfl
theorem EAt.of_cells {w : World} {ok : Nat → Prop} {g : Nat} : ∀ (ys : List (PE × Value)) (o : Nat), (∀ j u, (xcs (rxs ys))[j]? = some u → w.cell? ⟨g, o + j, none⟩ = some u) → (∀ y ∈ ys, ESlP w ok y.2 y.1.args) → EAt w ok (erow (ys.map (·.1))) g o := by
  intro ys
  induction ys with
  | nil => intro o _ _; trivial
  | cons y ys ih =>
    intro o hc hs
    obtain ⟨ad, cap, b', o', e1, e2, e3, e4, e5⟩ := hs y (List.mem_cons_self ..)
    refine ⟨?_, ?_, ?_, ?_, ⟨ad, cap, b', o', ?_, e2, e3, e4, e5⟩, ih (o + 5) (fun j u hj => ?_) (fun z hz => hs z (List.mem_cons_of_mem _ hz))⟩
    · exact hc 0 _ (by simp [rxs, xcs, xc, rx])
    · exact hc 1 _ (by simp [rxs, xcs, xc, rx])
    · exact hc 2 _ (by simp [rxs, xcs, xc, rx])
    · exact hc 3 _ (by simp [rxs, xcs, xc, rx])
    · rw [← e1]; exact hc 4 _ (by simp [rxs, xcs, xc, rx])
    · have := hc (j + 5) u (by simp only [rxs, List.map_cons, xcs, xc] at hj ⊢; simpa using hj)
      rw [show o + 5 + j = o + (j + 5) by omega]
      exact this
theorem XOwn.esl {w : World} {base : Nat} {ok : Nat → Prop} {v : Value} {ys : List (PE × Value)} (h : XOwn w base v (rxs ys)) (hb : ∀ k, base ≤ k → ok k) (hs : ∀ y ∈ ys, ESlP w ok y.2 y.1.args) : ESlP w ok v (erow (ys.map (·.1))) := by
  have hce := fun g => World.ownsRow.cells h (g := g)
  have hlen : elen (erow (ys.map (·.1))) = ys.length := by rw [elen_row, List.length_map]
  have hlen2 : (rxs ys).length = ys.length := by simp [rxs]
  obtain ⟨h1, h2⟩ := h
  unfold ESlP
  rw [hlen]
  rcases h2 with ⟨h2, h3⟩ | ⟨g, cap, cur, e1, e2, e3, e4, e5, e6, e7⟩
  · have h0 : ys = [] := by
      have : (rxs ys).length = 0 := h3
      rw [hlen2] at this
      exact List.eq_nil_of_length_eq_zero this
    subst h0
    exact ⟨none, 0, 0, 0, h2, Nat.le_refl _, Nat.zero_le _, fun q => absurd q (Nat.lt_irrefl 0), trivial⟩
  · rw [hlen2] at e1 e4
    refine ⟨some ⟨g, 0, none⟩, cap, g, 0, e1, e4, e5, fun _ => ⟨rfl, hb g (by omega)⟩, EAt.of_cells ys 0 (fun j u hj => ?_) hs⟩
    have := hce g (by rw [e1]; rfl) j u hj
    rw [← this]
    congr 1
    unfold Addr.add
    split <;> simp_all

theorem EAt.mono {w : World} {ok ok' : Nat → Prop} (hl : ∀ k, ok k → ok' k) : ∀ {l : EL} {b o : Nat}, EAt w ok l b o → EAt w ok' l b o := by
  intro l
  induction l with
  | leaf => intro b o _; trivial
  | inner i d v a r iha ihr =>
    obtain ⟨k, n, s, p⟩ := d
    intro b o ⟨h1, h2, h3, h4, ⟨ad, cap, b', o', g1, g2, g3, g4, g5⟩, h7⟩
    exact ⟨h1, h2, h3, h4, ⟨ad, cap, b', o', g1, g2, g3, fun q => ⟨(g4 q).1, hl _ (g4 q).2⟩, iha g5⟩, ihr h7⟩
theorem ESlP.mono {w : World} {ok ok' : Nat → Prop} {v : Value} {l : EL} (h : ESlP w ok v l) (hl : ∀ k, ok k → ok' k) : ESlP w ok' v l := by
  obtain ⟨ad, cap, b, o, h1, h2, h3, h4, h5⟩ := h
  exact ⟨ad, cap, b, o, h1, h2, h3, fun q => ⟨(h4 q).1, hl _ (h4 q).2⟩, h5.mono hl⟩
theorem ESl.mono {w : World} {lo lo' : Nat} {v : Value} {l : EL} (h : ESl w lo v l) (hl : lo' ≤ lo) : ESl w lo' v l := ESlP.mono h fun k hk => Nat.le_trans hl hk
theorem ESlP.gr {w w' : World} {pb : Nat} {ok : Nat → Prop} {v : Value} {l : EL} (h : ESlP w ok v l) (g : Gr w w' pb) (hl : ∀ k, ok k → pb < k) : ESlP w' ok v l :=
  h.keep fun k hk hs => g.block k hs (by intro e; cases e; exact Nat.lt_irrefl _ (hl _ hk))
theorem ESl.grr {w w' : World} {pb lo : Nat} {v : Value} {l : EL} (h : ESl w lo v l) (g : Gr w w' pb) (hl : pb < lo) : ESl w' lo v l := ESlP.gr h g fun k hk => Nat.lt_of_lt_of_le hl hk
/-- what comes of a reading of an expression -/
def EPostP (w : World) (ok : Nat → Prop) (pb g c : Nat) (L : List Tok) (o b : Nat) : PR → Ending → World → Prop
  | .error (k, er), e, w' => e = gaveUpT (k : Int) er ∧ Gr w w' pb
  | .ok (x, q, m), e, w' => ∃ v, e = .returned (rxv (rx x v)) ∧ ESlP w' ok v x.args ∧ PS w' pb g c L q o b m ∧ Gr w w' pb ∧ x.deep ≤ 48 ∧ m ≤ 600
def EPost (w : World) (lo pb g c : Nat) (L : List Tok) (o b : Nat) (r : PR) (e : Ending) (w' : World) : Prop := EPostP w (fun k => lo ≤ k) pb g c L o b r e w'
theorem makeE_P (ok : Nat → Prop) (pb g c : Nat) (L : List Tok) (p o b n : Nat) (t : Tok) (k m : Int) (s : ByteArray) (op : Int) (ys : List (PE × Value)) (v : Value) (w : World) (h : PS w pb g c L p o b n) (hn : n ≤ 600) (hx : PA w v (rxs ys)) (hs : ∀ y ∈ ys, ESlP w ok y.2 y.1.args) (hlo : ∀ k, w.heap.size ≤ k → ok k) (hpl : ∀ k, ok k → pb < k) :
    Calls Tryd.prog 101 #[.pointer (some ⟨pb, 0, none⟩), tv t, .agg #[.int .i64 k, .int .i64 m, .string s, .int .i64 op, .slice none 0 0], v] w (EPostP w ok pb g c L o b (mk' p (mkE t k m s op (ys.map (·.1)) n))) := by
  refine (makeExpr_any pb g c L p o b n t k m s op (rxs ys) v w h hn hx).mono fun e w' hp => ?_
  unfold MkPost at hp
  rw [deepR_rxs] at hp
  unfold mkE
  split at hp
  · rename_i h1; rw [if_pos h1]; exact hp
  · rename_i h1; rw [if_neg h1]
    split at hp
    · rename_i h2; rw [if_pos h2]; exact hp
    · rename_i h2; rw [if_neg h2]
      obtain ⟨v', e1, e2, e3, e4⟩ := hp
      exact ⟨v', e1, e2.esl hlo (fun y hy => (hs y hy).gr e4 hpl), e3, e4, by show deepOf _ ≤ 48; omega, by omega⟩
theorem makeE_any (lo pb g c : Nat) (L : List Tok) (p o b n : Nat) (t : Tok) (k m : Int) (s : ByteArray) (op : Int) (ys : List (PE × Value)) (v : Value) (w : World) (h : PS w pb g c L p o b n) (hn : n ≤ 600) (hx : PA w v (rxs ys)) (hs : ∀ y ∈ ys, ESl w lo y.2 y.1.args) (hlo : lo ≤ w.heap.size) (hpl : pb < lo) :
    Calls Tryd.prog 101 #[.pointer (some ⟨pb, 0, none⟩), tv t, .agg #[.int .i64 k, .int .i64 m, .string s, .int .i64 op, .slice none 0 0], v] w (EPost w lo pb g c L o b (mk' p (mkE t k m s op (ys.map (·.1)) n))) :=
  makeE_P (fun k => lo ≤ k) pb g c L p o b n t k m s op ys v w h hn hx hs (fun k hk => Nat.le_trans hlo hk) (fun k hk => Nat.lt_of_lt_of_le hpl hk)
end Go.Proofs.YtnofibjchhcmeabDoor
