/- An expression is made of its parts. -/
import Derived.Test.YtnofibjchhcmeabDoorPar3
import Derived.Test.YtnofibjchhcmeabDoorRank
import Derived.Test.YtnofibjchhcmeabDoorPlS
import Derived.Laws.Rows
import Derived.Laws.MakeOwn
import Derived.Maps.AppendAt
namespace Go.Proofs.YtnofibjchhcmeabDoor
open Go.RowKit Go.Maps
set_option linter.unusedVariables false

/-- an expression as it lies: its cells, and its depth -/
structure RX where
  k : Int
  m : Int
  s : ByteArray
  op : Int
  v : Value
  d : Nat
def xv (x : RX) : Value := .agg #[.int .i64 x.k, .int .i64 x.m, .string x.s, .int .i64 x.op, x.v]
def rxv (x : RX) : Value := .agg #[.int .i64 x.k, .int .i64 x.m, .string x.s, .int .i64 x.op, x.v, .int .i64 (x.d : Int)]
def xc (x : RX) : List Value := [.int .i64 x.k, .int .i64 x.m, .string x.s, .int .i64 x.op, x.v]
def xcs : List RX → List Value
  | [] => []
  | x :: l => xc x ++ xcs l
theorem xcs_len (l : List RX) : (xcs l).length = l.length * 5 := by
  induction l with
  | nil => rfl
  | cons t l ih => simp [xcs, xc, ih]; omega
theorem xcs_app (a b : List RX) : xcs (a ++ b) = xcs a ++ xcs b := by
  induction a with
  | nil => rfl
  | cons t a ih => simp [xcs, ih]
/-- slices are cells of their own -/
def Sl (v : Value) : Prop := ∃ a n c, v = .slice a n c
theorem xc_one (x : RX) (h : Sl x.v) : ∀ u ∈ xcs [x], u.oneCell' = true := by
  intro u hu
  obtain ⟨a, n, c, h⟩ := h
  simp [xcs, xc] at hu
  rcases hu with rfl | rfl | rfl | rfl | rfl
  · rfl
  · rfl
  · rfl
  · rfl
  · rw [h]; rfl
def XOwn (w : World) (base : Nat) (v : Value) (l : List RX) : Prop := w.ownsRow base 42 5 v l.length (xcs l)
theorem XOwn.keep {w w' : World} {base : Nat} {v : Value} {l : List RX} (h : XOwn w base v l) (hb : ∀ k, base ≤ k → k < w.heap.size → w'.heap[k]? = w.heap[k]?) : XOwn w' base v l := by
  obtain ⟨h1, h2⟩ := h
  refine ⟨h1, ?_⟩
  rcases h2 with h2 | ⟨g, cap, cur, e1, e2, e3, e4⟩
  · exact Or.inl h2
  · refine Or.inr ⟨g, cap, cur, e1, e2, ?_, e4⟩
    have hg : g < w.heap.size := by
      rcases Nat.lt_or_ge g w.heap.size with h | h
      · exact h
      · rw [Array.getElem?_eq_none h] at e3; cases e3
    rw [hb g e2 hg]; exact e3
theorem XOwn.mono {w : World} {base base' : Nat} {v : Value} {l : List RX} (h : XOwn w base v l) (hb : base' ≤ base) : XOwn w base' v l := by
  obtain ⟨h1, h2⟩ := h
  refine ⟨h1, ?_⟩
  rcases h2 with h2 | ⟨g, cap, cur, e1, e2, e3⟩
  · exact Or.inl h2
  · exact Or.inr ⟨g, cap, cur, e1, by omega, e3⟩
theorem XOwn.nil (w : World) (base : Nat) : XOwn w base (.slice none 0 0) [] := ⟨rfl, Or.inl ⟨rfl, rfl⟩⟩
theorem XOwn.sl {w : World} {base : Nat} {v : Value} {l : List RX} (h : XOwn w base v l) : Sl v := by
  obtain ⟨h1, h2⟩ := h
  rcases h2 with ⟨h2, _⟩ | ⟨g, cap, cur, e1, _⟩
  · exact ⟨_, _, _, h2⟩
  · exact ⟨_, _, _, e1⟩
/-- the parts that are handed over -/
structure PA (w : World) (v : Value) (l : List RX) : Prop where
  ex : ∃ ad cap g, v = .slice ad l.length cap ∧ l.length ≤ cap ∧ cap ≤ 1000 ∧ (0 < l.length → ad = some ⟨g, 0, none⟩ ∧ g < w.heap.size) ∧ ∀ i (hi : i < l.length), w.cell? ⟨g, i * 6, none⟩ = some (.int .i64 l[i].k) ∧ w.cell? ⟨g, i * 6 + 1, none⟩ = some (.int .i64 l[i].m) ∧ w.cell? ⟨g, i * 6 + 2, none⟩ = some (.string l[i].s) ∧ w.cell? ⟨g, i * 6 + 3, none⟩ = some (.int .i64 l[i].op) ∧ w.cell? ⟨g, i * 6 + 4, none⟩ = some l[i].v ∧ w.cell? ⟨g, i * 6 + 5, none⟩ = some (.int .i64 (l[i].d : Int))
  sl : ∀ x ∈ l, Sl x.v
  dp : ∀ x ∈ l, x.d ≤ 1000
def deepR (l : List RX) : Nat := l.foldl (fun d x => max d (x.d + 1)) 1
theorem deepR_snoc (l : List RX) (x : RX) : deepR (l ++ [x]) = max (deepR l) (x.d + 1) := by simp [deepR]
theorem deepR_le (l : List RX) (h : ∀ x ∈ l, x.d ≤ 1000) : deepR l ≤ 1001 := by
  have : ∀ (l : List RX) (a : Nat), a ≤ 1001 → (∀ x ∈ l, x.d ≤ 1000) → l.foldl (fun d x => max d (x.d + 1)) a ≤ 1001 := by
    intro l
    induction l with
    | nil => intro a ha _; exact ha
    | cons x l ih =>
      intro a ha hx
      refine ih _ ?_ (fun y hy => hx y (List.mem_cons_of_mem _ hy))
      have := hx x (List.mem_cons_self ..)
      show max a (x.d + 1) ≤ 1001
      omega
  exact this l 1 (by omega) h

theorem put6 {W : World} {g : Nat} {T : TypeId} {x0 x1 x2 x3 x4 x5 a0 a1 a2 a3 a4 a5 : Value} (h : W.heap[g]? = some (.cells #[x0, x1, x2, x3, x4, x5] T)) : ((((((W.setCell ⟨g, 0, none⟩ a0).setCell ⟨g, 1, none⟩ a1).setCell ⟨g, 2, none⟩ a2).setCell ⟨g, 3, none⟩ a3).setCell ⟨g, 4, none⟩ a4).setCell ⟨g, 5, none⟩ a5).heap[g]? = some (.cells #[a0, a1, a2, a3, a4, a5] T) := by
  have e0 := heap_setCell_same W g 0 _ T a0 h
  have e1 := heap_setCell_same _ g 1 _ T a1 e0
  have e2 := heap_setCell_same _ g 2 _ T a2 e1
  have e3 := heap_setCell_same _ g 3 _ T a3 e2
  have e4 := heap_setCell_same _ g 4 _ T a4 e3
  rw [heap_setCell_same _ g 5 _ T a5 e4]
  rfl
/-- a part as a block -/
def pc (x : RX) : Obj := .cells #[.int .i64 x.k, .int .i64 x.m, .string x.s, .int .i64 x.op, x.v, .int .i64 (x.d : Int)] 98
theorem ret_part {fn : Func} (k : Nat) (h : fn.results = #[.cell k 98]) (tmps : Array Value) (b : Nat) (hb : tmps[k]?.getD undef = .pointer (some ⟨b, 0, none⟩)) (W : World) (x : RX) (F : W.heap[b]? = some (pc x)) :
    (results fn tmps).run Tryd.prog W = .ok (rxv x) W := by
  unfold pc at F
  have c0 := cell_of_row W b 0 _ _ _ F
  have c1 := cell_of_row W b 1 _ _ _ F
  have c2 := cell_of_row W b 2 _ _ _ F
  have c3 := cell_of_row W b 3 _ _ _ F
  have c4 := cell_of_row W b 4 _ _ _ F
  have c5 := cell_of_row W b 5 _ _ _ F
  have d0 : W.cell? ⟨b, 0, none⟩ = some (.int .i64 x.k) := c0
  have d1 : W.cell? ⟨b, 1, none⟩ = some (.int .i64 x.m) := c1
  have d2 : W.cell? ⟨b, 2, none⟩ = some (.string x.s) := c2
  have d3 : W.cell? ⟨b, 3, none⟩ = some (.int .i64 x.op) := c3
  have d4 : W.cell? ⟨b, 4, none⟩ = some x.v := c4
  have d5 : W.cell? ⟨b, 5, none⟩ = some (.int .i64 (x.d : Int)) := c5
  unfold rxv
  simp [results, h, hb, go_sem, d0, d1, d2, d3, d4, d5]
theorem info42 : (Tryd.prog.info? 42).map (fun i => (i.zero, i.size, i.bytes)) = some (some (.agg #[.int .i64 0, .int .i64 0, .string ⟨#[]⟩, .int .i64 0, .slice none 0 0]), 5, 64) := by kernel_rfl

/-- what comes of a making -/
def MkPost (w : World) (pb g c : Nat) (L : List Tok) (p o b n : Nat) (t : Tok) (k m : Int) (s : ByteArray) (op : Int) (xs : List RX) (e : Ending) (w' : World) : Prop :=
  if 48 < deepR xs then e = gaveUpT (t.pos : Int) 41 ∧ Gr w w' pb
  else if 600 < n + 1 then e = gaveUpT (t.pos : Int) 42 ∧ Gr w w' pb
  else ∃ v, e = .returned (rxv ⟨k, m, s, op, v, deepR xs⟩) ∧ XOwn w' w.heap.size v xs ∧ PS w' pb g c L p o b (n + 1) ∧ Gr w w' pb
theorem PA.below {w w' : World} {v : Value} {l : List RX} (h : PA w v l) (hb : Below w.heap.size w w') : PA w' v l := by
  obtain ⟨⟨ad, cap, g, h1, h2, h3, h4, h5⟩, h6, h7⟩ := h
  refine ⟨⟨ad, cap, g, h1, h2, h3, fun q => ⟨(h4 q).1, Nat.lt_of_lt_of_le (h4 q).2 hb.size⟩, fun i hi => ?_⟩, h6, h7⟩
  have hg : g < w.heap.size := (h4 (by omega)).2
  obtain ⟨c0, c1, c2, c3, c4, c5⟩ := h5 i hi
  exact ⟨(hb.cell (p := ⟨g, i * 6, none⟩) hg).trans c0, (hb.cell (p := ⟨g, i * 6 + 1, none⟩) hg).trans c1, (hb.cell (p := ⟨g, i * 6 + 2, none⟩) hg).trans c2, (hb.cell (p := ⟨g, i * 6 + 3, none⟩) hg).trans c3, (hb.cell (p := ⟨g, i * 6 + 4, none⟩) hg).trans c4, (hb.cell (p := ⟨g, i * 6 + 5, none⟩) hg).trans c5⟩

/-- what stands in memory while an expression is made -/
structure MS (w wr : World) (N : Nat) (t : Tok) (k m : Int) (s : ByteArray) (op : Int) (v : Value) (l : List RX) : Prop where
  b5 : wr.heap[N]? = some (.cells #[.int .i64 t.kind, .string ⟨t.text.toArray⟩, .int .i64 t.num, .int .i64 (t.pos : Int)] 84)
  b8 : wr.heap[N + 1 + 1]? = some (.cells #[.int .i64 0, .int .i64 0, .string ⟨#[]⟩, .int .i64 0, .slice none 0 0, .int .i64 0] 98)
  b9 : wr.heap[N + 1 + 1 + 1]? = some (.cells #[.int .i64 k, .int .i64 m, .string s, .int .i64 op, v, .int .i64 (deepR l : Int)] 98)
  own : XOwn wr (N + 4) v l
  bl : Below N w wr
  sz : N + 4 ≤ wr.heap.size
theorem MS.drew {w wr : World} {N : Nat} {t : Tok} {k m : Int} {s : ByteArray} {op : Int} {v : Value} {l : List RX} (h : MS w wr N t k m s op v l) : MS w wr.drew N t k m s op v l :=
  ⟨h.b5, h.b8, h.b9, h.own.keep fun _ _ _ => rfl, h.bl.drew, h.sz⟩
theorem MS.alloc {w wr : World} {N : Nat} {t : Tok} {k m : Int} {s : ByteArray} {op : Int} {v : Value} {l : List RX} (h : MS w wr N t k m s op v l) (A : Obj) : MS w (wr.alloc A) N t k m s op v l := by
  have := h.sz
  exact ⟨(heap_alloc_old _ _ (by omega)).trans h.b5, (heap_alloc_old _ _ (by omega)).trans h.b8, (heap_alloc_old _ _ (by omega)).trans h.b9, h.own.keep fun _ _ hk => heap_alloc_old _ _ hk, h.bl.alloc (by omega) A, by simp; omega⟩

set_option maxRecDepth 100000 in
set_option maxHeartbeats 4000000 in
theorem makeExpr_any (pb g c : Nat) (L : List Tok) (p o b n : Nat) (t : Tok) (k m : Int) (s : ByteArray) (op : Int) (xs : List RX) (v : Value) (w : World) (h : PS w pb g c L p o b n) (hn : n ≤ 600) (hx : PA w v xs) :
    Calls Tryd.prog 101 #[.pointer (some ⟨pb, 0, none⟩), tv t, .agg #[.int .i64 k, .int .i64 m, .string s, .int .i64 op, .slice none 0 0], v] w (MkPost w pb g c L p o b n t k m s op xs) := by
  obtain ⟨P, hP⟩ : ∃ P, MkPost w pb g c L p o b n t k m s op xs = P := ⟨_, rfl⟩
  have HP : Hid (MkPost w pb g c L p o b n t k m s op xs = P) := hP
  rw [hP]
  clear hP
  obtain ⟨⟨ad, cap, pg, rfl, hlc, hcm, hpg, hce⟩, hsl, hdp⟩ := hx
  have HS : Hid (PS w pb g c L p o b n) := h
  have HSL : Hid (∀ x ∈ xs, Sl x.v) := hsl
  have HDP : Hid (∀ x ∈ xs, x.d ≤ 1000) := hdp
  have HPG : Hid (0 < xs.length → ad = some ⟨pg, 0, none⟩ ∧ pg < w.heap.size) := hpg
  have HCE : Hid (∀ i (hi : i < xs.length), w.cell? ⟨pg, i * 6, none⟩ = some (.int .i64 xs[i].k) ∧ w.cell? ⟨pg, i * 6 + 1, none⟩ = some (.int .i64 xs[i].m) ∧ w.cell? ⟨pg, i * 6 + 2, none⟩ = some (.string xs[i].s) ∧ w.cell? ⟨pg, i * 6 + 3, none⟩ = some (.int .i64 xs[i].op) ∧ w.cell? ⟨pg, i * 6 + 4, none⟩ = some xs[i].v ∧ w.cell? ⟨pg, i * 6 + 5, none⟩ = some (.int .i64 (xs[i].d : Int))) := hce
  have hlt := h.lt
  obtain ⟨i0, hi, hz0, hz1, hz2⟩ := info_parts info42
  unfold tv
  clear h hsl hdp hpg hce
  have M0 : Hid (MS w ((((w.alloc (.cells #[.int .i64 t.kind, .string ⟨t.text.toArray⟩, .int .i64 t.num, .int .i64 (t.pos : Int)] 84)).alloc (.cells #[.int .i64 k, .int .i64 m, .string s, .int .i64 op, .slice none 0 0] 42)).alloc (.cells #[.int .i64 0, .int .i64 0, .string ⟨#[]⟩, .int .i64 0, .slice none 0 0, .int .i64 0] 98)).alloc (.cells #[.int .i64 k, .int .i64 m, .string s, .int .i64 op, .slice none 0 0, .int .i64 1] 98)) w.heap.size t k m s op (.slice none 0 0) (xs.take 0)) := by
    refine ⟨?_, ?_, ?_, XOwn.nil _ _, ?_, by simp⟩
    · rw [heap_alloc_old _ _ (by simp; omega), heap_alloc_old _ _ (by simp; omega), heap_alloc_old _ _ (by simp), heap_alloc_new]
    · rw [heap_alloc_old _ _ (by simp)]
      have := heap_alloc_new ((w.alloc (.cells #[.int .i64 t.kind, .string ⟨t.text.toArray⟩, .int .i64 t.num, .int .i64 (t.pos : Int)] 84)).alloc (.cells #[.int .i64 k, .int .i64 m, .string s, .int .i64 op, .slice none 0 0] 42)) (.cells #[.int .i64 0, .int .i64 0, .string ⟨#[]⟩, .int .i64 0, .slice none 0 0, .int .i64 0] 98)
      simpa using this
    · have := heap_alloc_new (((w.alloc (.cells #[.int .i64 t.kind, .string ⟨t.text.toArray⟩, .int .i64 t.num, .int .i64 (t.pos : Int)] 84)).alloc (.cells #[.int .i64 k, .int .i64 m, .string s, .int .i64 op, .slice none 0 0] 42)).alloc (.cells #[.int .i64 0, .int .i64 0, .string ⟨#[]⟩, .int .i64 0, .slice none 0 0, .int .i64 0] 98)) (.cells #[.int .i64 k, .int .i64 m, .string s, .int .i64 op, .slice none 0 0, .int .i64 1] 98)
      simpa [deepR] using this
    · exact ((((Below.refl _ w).alloc (Nat.le_refl _) _).alloc (by simp) _).alloc (by simp; omega) _).alloc (by simp; omega) _
  go_enter Tryd.func101, Tryd.ntmps101
  go_wp2
  go_loopw [16] (fun u wr => ∃ (i : Nat) (va : Value), i ≤ xs.length ∧ u = .int .i64 (i : Int) ∧ Hid (MS w wr w.heap.size t k m s op va (xs.take i))) (fun u _ => xs.length - (intOf u).toNat)
  case atStart => exact ⟨0, _, Nat.zero_le _, rfl, M0⟩
  case round =>
    obtain ⟨i, va, hi1, rfl, HM⟩ := hrel
    by_cases hlt : i < xs.length
    · obtain ⟨q1, q2⟩ := HPG.out (by omega)
      subst q1
      obtain ⟨c0, c1, c2, c3, c4, c5⟩ := HCE.out i hlt
      have hb := HM.out.bl
      have d0 := (hb.cell (p := ⟨pg, i * 6, none⟩) q2).trans c0
      have d1 := (hb.cell (p := ⟨pg, i * 6 + 1, none⟩) q2).trans c1
      have d2 := (hb.cell (p := ⟨pg, i * 6 + 2, none⟩) q2).trans c2
      have d3 := (hb.cell (p := ⟨pg, i * 6 + 3, none⟩) q2).trans c3
      have d4 := (hb.cell (p := ⟨pg, i * 6 + 4, none⟩) q2).trans c4
      have d5 := (hb.cell (p := ⟨pg, i * 6 + 5, none⟩) q2).trans c5
      have HSX : Hid (Sl xs[i].v) := HSL.out _ (List.getElem_mem hlt)
      have hdx := HDP.out _ (List.getElem_mem hlt)
      have hdl := deepR_le (xs.take i) (fun x hx => HDP.out x (List.mem_of_mem_take hx))
      have HTS : Hid (xs.take (i + 1) = xs.take i ++ [xs[i]]) := by show _ = _; rw [List.take_add_one, List.getElem?_eq_getElem hlt]; rfl
      have hpgN : Hid (pg < w.heap.size) := q2
      generalize xs[i] = x at *
      obtain ⟨xk, xm, xs1, xop, xvv, xd⟩ := x
      obtain ⟨xa, xn, xcp, hxv⟩ := HSX.out
      simp only at hxv d0 d1 d2 d3 d4 d5 hdx
      subst hxv
      obtain ⟨va1, va2, va3, rfl⟩ := HM.out.own.sl
      have e4 : ∀ A, (wr.alloc A).cell? ⟨w.heap.size + 1 + 1 + 1, 4, none⟩ = some (.slice va1 va2 va3) := fun A => by rw [cell_of_row _ _ 4 _ _ _ (HM.out.alloc A).b9]; rfl
      have e5 : wr.cell? ⟨w.heap.size + 1 + 1 + 1, 5, none⟩ = some (.int .i64 (deepR (xs.take i) : Int)) := by rw [cell_of_row wr _ 5 _ _ _ HM.out.b9]; rfl
      have f4 : wr.frozen? ⟨w.heap.size + 1 + 1 + 1, 4, none⟩ = false := frozen_of_row wr _ 4 _ _ HM.out.b9
      have f5 : wr.frozen? ⟨w.heap.size + 1 + 1 + 1, 5, none⟩ = false := frozen_of_row wr _ 5 _ _ HM.out.b9
      have sz := HM.out.sz
      have HM1 : Hid (MS w (wr.alloc (.cells #[.int .i64 xk, .int .i64 xm, .string xs1, .int .i64 xop, .slice xa xn xcp, .int .i64 (xd : Int)] 98)) w.heap.size t k m s op (.slice va1 va2 va3) (xs.take i)) := HM.out.alloc _
      obtain ⟨D, hD⟩ : ∃ D, deepR (xs.take i) = D := ⟨_, rfl⟩
      rw [hD] at e5 hdl
      have HD : Hid (deepR (xs.take i) = D) := hD
      obtain ⟨l, hl⟩ : ∃ l, xs.take i = l := ⟨_, rfl⟩
      have hll : l.length = i := by rw [← hl]; simp; omega
      have HLL : Hid (l.length = i) := hll
      rw [hl] at HM1 HTS HD HM
      clear c0 c1 c2 c3 c4 c5 hb q2 hD hl hll
      go_wp2_with (at_builtin; refine wpList_append_own _ rfl _ _ 37 rfl (w.heap.size + 4) 42 i0 (.agg #[.int .i64 0, .int .i64 0, .string ⟨#[]⟩, .int .i64 0, .slice none 0 0]) 5 64 Tryd.underlying37 hi hz0 hz1 hz2 rfl (by decide) _ _ _ rfl (World.ownsRow.alloc HM1.out.own _) ⟨wr.heap.size + 1, 0, none⟩ 1 1 (xcs [⟨xk, xm, xs1, xop, .slice xa xn xcp, xd⟩]) rfl rfl ?c1 ?c2 ?c3 ?c4 ?c5 ?_)
      case c1 =>
        intro j u hj
        simpa [xcs, xc] using hj
      case c2 => exact xc_one _ ⟨_, _, _, rfl⟩
      case c3 => have := HLL.out; unfold maxLen; omega
      case c4 => have := HLL.out; omega
      case c5 => omega
      intro v' w4 hown' hgrow _
      have hlt1 := World.ownsRow.lt HM1.out.own
      have hlt0 := World.ownsRow.lt HM.out.own
      have hs4 := hgrow.size
      simp at hs4
      have hk : ∀ k, k < wr.heap.size + 1 → (k < w.heap.size + 4 ∨ k = wr.heap.size) → w4.heap[k]? = (wr.alloc (.cells #[.int .i64 xk, .int .i64 xm, .string xs1, .int .i64 xop, .slice xa xn xcp, .int .i64 (xd : Int)] 98)).heap[k]? := by
        intro k h1 h2
        rw [hgrow.block k (by simp; omega) (by intro q; have := hlt0 k q.symm; omega), heap_alloc_old _ _ (by simp; omega)]
      have B5 := (hk _ (by omega) (Or.inl (by omega))).trans HM1.out.b5
      have B8 := (hk _ (by omega) (Or.inl (by omega))).trans HM1.out.b8
      have B9 := (hk _ (by omega) (Or.inl (by omega))).trans HM1.out.b9
      have B11 : w4.heap[wr.heap.size]? = some (.cells #[.int .i64 xk, .int .i64 xm, .string xs1, .int .i64 xop, .slice xa xn xcp, .int .i64 (xd : Int)] 98) := (hk _ (by omega) (Or.inr rfl)).trans (heap_alloc_new _ _)
      have BL4 : Below w.heap.size w w4 := (HM1.out.bl.alloc (by simp; omega) (.cells #[.int .i64 xk, .int .i64 xm, .string xs1, .int .i64 xop, .slice xa xn xcp] 42)).grown hgrow (by simp; omega) (fun k hk => by have := hlt0 k hk; omega)
      have O4 : XOwn w4 (w.heap.size + 4) v' (l ++ [⟨xk, xm, xs1, xop, .slice xa xn xcp, xd⟩]) := by
        show w4.ownsRow _ _ _ _ _ _
        rw [List.length_append, xcs_app]
        exact hown'
      obtain ⟨n1, n2, n3, rfl⟩ := O4.sl
      rw [HD.out] at B9
      have g4 : w4.cell? ⟨w.heap.size + 1 + 1 + 1, 4, none⟩ = some (.slice va1 va2 va3) := by rw [cell_of_row w4 _ 4 _ _ _ B9]; rfl
      have g5 : w4.cell? ⟨w.heap.size + 1 + 1 + 1, 5, none⟩ = some (.int .i64 (D : Int)) := by rw [cell_of_row w4 _ 5 _ _ _ B9]; rfl
      have y4 : w4.frozen? ⟨w.heap.size + 1 + 1 + 1, 4, none⟩ = false := frozen_of_row w4 _ 4 _ _ B9
      have y5 : w4.frozen? ⟨w.heap.size + 1 + 1 + 1, 5, none⟩ = false := frozen_of_row w4 _ 5 _ _ B9
      have g11 : w4.cell? ⟨wr.heap.size, 5, none⟩ = some (.int .i64 (xd : Int)) := by rw [cell_of_row w4 _ 5 _ _ _ B11]; rfl
      have hne : ¬ w.heap.size + 1 + 1 + 1 = wr.heap.size := by omega
      have hne' : ¬ wr.heap.size = w.heap.size + 1 + 1 + 1 := by omega
      have HS4 : Hid (w.heap.size + 4 ≤ w4.heap.size) := by show _ ≤ _; omega
      have HB5 : Hid (w4.heap[w.heap.size]? = some (.cells #[.int .i64 t.kind, .string ⟨t.text.toArray⟩, .int .i64 t.num, .int .i64 (t.pos : Int)] 84)) := B5
      have HB8 : Hid (w4.heap[w.heap.size + 1 + 1]? = some (.cells #[.int .i64 0, .int .i64 0, .string ⟨#[]⟩, .int .i64 0, .slice none 0 0, .int .i64 0] 98)) := B8
      have HB9 : Hid (w4.heap[w.heap.size + 1 + 1 + 1]? = some (.cells #[.int .i64 k, .int .i64 m, .string s, .int .i64 op, .slice va1 va2 va3, .int .i64 (D : Int)] 98)) := B9
      have HBL : Hid (Below w.heap.size w w4) := BL4
      have HO4 : Hid (XOwn w4 (w.heap.size + 4) (.slice n1 n2 n3) (l ++ [⟨xk, xm, xs1, xop, .slice xa xn xcp, xd⟩])) := O4
      clear hown' hgrow hlt1 hlt0 hs4 hk B5 B8 B9 B11 BL4 O4 e4 e5 f4 f5 d0 d1 d2 d3 d4 d5
      go_wp2
      have HDM : Hid ((if (D : Int) < (xd : Int) + 1 then (xd : Int) + 1 else (D : Int)) = (deepR (l ++ [⟨xk, xm, xs1, xop, .slice xa xn xcp, xd⟩]) : Int)) := by
        show _ = _
        rw [deepR_snoc, HD.out]
        show _ = ((max D (xd + 1) : Nat) : Int)
        split <;> omega
      rw [HDM.out]
      refine ⟨⟨i + 1, .slice n1 n2 n3, by omega, by simp, ?_⟩, by simp [intOf]; omega⟩
      rw [HTS.out]
      have z1 := heap_setCell_same w4 (w.heap.size + 1 + 1 + 1) 4 _ 98 (.slice n1 n2 n3) HB9.out
      have z2 := heap_setCell_same _ (w.heap.size + 1 + 1 + 1) 5 _ 98 (.int .i64 (deepR (l ++ [⟨xk, xm, xs1, xop, .slice xa xn xcp, xd⟩]) : Int)) z1
      have q : ∀ j, j ≠ w.heap.size + 1 + 1 + 1 → ((w4.setCell ⟨w.heap.size + 1 + 1 + 1, 4, none⟩ (.slice n1 n2 n3)).setCell ⟨w.heap.size + 1 + 1 + 1, 5, none⟩ (.int .i64 (deepR (l ++ [⟨xk, xm, xs1, xop, .slice xa xn xcp, xd⟩]) : Int))).heap[j]? = w4.heap[j]? := fun j hj => (Below.heap_setCell _ _ _ _ hj).trans (Below.heap_setCell _ _ _ _ hj)
      refine ⟨(q _ (by omega)).trans HB5.out, (q _ (by omega)).trans HB8.out, z2, HO4.out.keep fun j hj _ => q j (by omega), ?_, ?_⟩
      · exact (HBL.out.setCell (p := ⟨w.heap.size + 1 + 1 + 1, 4, none⟩) (by show w.heap.size ≤ w.heap.size + 1 + 1 + 1; omega) _).setCell (p := ⟨w.heap.size + 1 + 1 + 1, 5, none⟩) (by show w.heap.size ≤ w.heap.size + 1 + 1 + 1; omega) _
      · simpa [World.setCell] using HS4.out
    · have hie : i = xs.length := by omega
      subst hie
      rw [List.take_length] at HM
      obtain ⟨va1, va2, va3, rfl⟩ := HM.out.own.sl
      have e0 : wr.cell? ⟨w.heap.size + 1 + 1 + 1, 0, none⟩ = some (.int .i64 k) := by rw [cell_of_row wr _ 0 _ _ _ HM.out.b9]; rfl
      have e1 : wr.cell? ⟨w.heap.size + 1 + 1 + 1, 1, none⟩ = some (.int .i64 m) := by rw [cell_of_row wr _ 1 _ _ _ HM.out.b9]; rfl
      have e2 : wr.cell? ⟨w.heap.size + 1 + 1 + 1, 2, none⟩ = some (.string s) := by rw [cell_of_row wr _ 2 _ _ _ HM.out.b9]; rfl
      have e3 : wr.cell? ⟨w.heap.size + 1 + 1 + 1, 3, none⟩ = some (.int .i64 op) := by rw [cell_of_row wr _ 3 _ _ _ HM.out.b9]; rfl
      have e4 : wr.cell? ⟨w.heap.size + 1 + 1 + 1, 4, none⟩ = some (.slice va1 va2 va3) := by rw [cell_of_row wr _ 4 _ _ _ HM.out.b9]; rfl
      have e5 : wr.cell? ⟨w.heap.size + 1 + 1 + 1, 5, none⟩ = some (.int .i64 (deepR xs : Int)) := by rw [cell_of_row wr _ 5 _ _ _ HM.out.b9]; rfl
      have t0 : wr.cell? ⟨w.heap.size, 0, none⟩ = some (.int .i64 t.kind) := by rw [cell_of_row wr _ 0 _ _ _ HM.out.b5]; rfl
      have t1 : wr.cell? ⟨w.heap.size, 1, none⟩ = some (.string ⟨t.text.toArray⟩) := by rw [cell_of_row wr _ 1 _ _ _ HM.out.b5]; rfl
      have t2 : wr.cell? ⟨w.heap.size, 2, none⟩ = some (.int .i64 t.num) := by rw [cell_of_row wr _ 2 _ _ _ HM.out.b5]; rfl
      have t3 : wr.cell? ⟨w.heap.size, 3, none⟩ = some (.int .i64 (t.pos : Int)) := by rw [cell_of_row wr _ 3 _ _ _ HM.out.b5]; rfl
      have HPR : Hid (PS wr pb g c L p o b n) := HS.out.below HM.out.bl
      by_cases hd : 48 < deepR xs
      · have HF : Hid (∀ w', Gr w w' pb → P (gaveUpT (t.pos : Int) 41) w') := fun w' hw => by rw [← HP.out]; unfold MkPost; rw [if_pos hd]; exact ⟨rfl, hw⟩
        go_wp2_with fail
        refine (giveUpT_any _ _ _).mono ?_
        rintro e w2 ⟨rfl, hw2⟩
        rw [hw2]
        exact ⟨rfl, HF.out _ (Gr.below HM.out.bl)⟩
      · by_cases hc : 600 < n + 1
        · have HF : Hid (∀ w', Gr w w' pb → P (gaveUpT (t.pos : Int) 42) w') := fun w' hw => by rw [← HP.out]; unfold MkPost; rw [if_neg hd, if_pos hc]; exact ⟨rfl, hw⟩
          go_wp2_with fail
          refine (count_bad pb g c L p o b n t _ HPR.out hc (by omega)).mono ?_
          rintro e w2 ⟨rfl, hg⟩
          exact ⟨rfl, HF.out _ ((Gr.below HM.out.bl).trans hg)⟩
        · have HF : Hid (∀ e w', (∃ v, e = .returned (rxv ⟨k, m, s, op, v, deepR xs⟩) ∧ XOwn w' w.heap.size v xs ∧ PS w' pb g c L p o b (n + 1) ∧ Gr w w' pb) → P e w') := fun e w' hw => by rw [← HP.out]; unfold MkPost; rw [if_neg hd, if_neg hc]; exact hw
          go_wp2_with fail
          refine (count_ok pb g c L p o b n t _ HPR.out (by omega)).mono ?_
          rintro e w2 ⟨rfl, hp2, hg⟩
          have hpl : pb < w.heap.size := HS.out.lt
          have hg2 : ∀ j, j < wr.heap.size → w.heap.size ≤ j → w2.heap[j]? = wr.heap[j]? := fun j h1 h2 => hg.block j h1 (by intro e; cases e; omega)
          have szr := HM.out.sz
          have HO2 : Hid (XOwn w2 (w.heap.size + 4) (.slice va1 va2 va3) xs) := HM.out.own.keep fun j h1 h2 => hg2 j h2 (Nat.le_trans (Nat.le_add_right _ _) h1)
          have HB8 : Hid (w2.heap[w.heap.size + 1 + 1]? = some (.cells #[.int .i64 0, .int .i64 0, .string ⟨#[]⟩, .int .i64 0, .slice none 0 0, .int .i64 0] 98)) := (hg2 (w.heap.size + 1 + 1) (by omega) (by omega)).trans HM.out.b8
          have B9 := (hg2 (w.heap.size + 1 + 1 + 1) (by omega) (by omega)).trans HM.out.b9
          have HP2 : Hid (PS w2 pb g c L p o b (n + 1)) := hp2
          have HG2 : Hid (Gr w w2 pb) := (Gr.below HM.out.bl).trans hg
          have HSZ : Hid (wr.heap.size ≤ w2.heap.size ∧ w.heap.size + 4 ≤ wr.heap.size) := ⟨hg.size, szr⟩
          clear e0 e1 e2 e3 e4 e5 t0 t1 t2 t3
          have e0 : w2.cell? ⟨w.heap.size + 1 + 1 + 1, 0, none⟩ = some (.int .i64 k) := by rw [cell_of_row w2 _ 0 _ _ _ B9]; rfl
          have e1 : w2.cell? ⟨w.heap.size + 1 + 1 + 1, 1, none⟩ = some (.int .i64 m) := by rw [cell_of_row w2 _ 1 _ _ _ B9]; rfl
          have e2 : w2.cell? ⟨w.heap.size + 1 + 1 + 1, 2, none⟩ = some (.string s) := by rw [cell_of_row w2 _ 2 _ _ _ B9]; rfl
          have e3 : w2.cell? ⟨w.heap.size + 1 + 1 + 1, 3, none⟩ = some (.int .i64 op) := by rw [cell_of_row w2 _ 3 _ _ _ B9]; rfl
          have e4 : w2.cell? ⟨w.heap.size + 1 + 1 + 1, 4, none⟩ = some (.slice va1 va2 va3) := by rw [cell_of_row w2 _ 4 _ _ _ B9]; rfl
          have e5 : w2.cell? ⟨w.heap.size + 1 + 1 + 1, 5, none⟩ = some (.int .i64 (deepR xs : Int)) := by rw [cell_of_row w2 _ 5 _ _ _ B9]; rfl
          have r0 : w2.cell? ⟨w.heap.size + 1 + 1, 0, none⟩ = some (.int .i64 0) := by rw [cell_of_row w2 _ 0 _ _ _ HB8.out]; rfl
          have r1 : w2.cell? ⟨w.heap.size + 1 + 1, 1, none⟩ = some (.int .i64 0) := by rw [cell_of_row w2 _ 1 _ _ _ HB8.out]; rfl
          have r2 : w2.cell? ⟨w.heap.size + 1 + 1, 2, none⟩ = some (.string ⟨#[]⟩) := by rw [cell_of_row w2 _ 2 _ _ _ HB8.out]; rfl
          have r3 : w2.cell? ⟨w.heap.size + 1 + 1, 3, none⟩ = some (.int .i64 0) := by rw [cell_of_row w2 _ 3 _ _ _ HB8.out]; rfl
          have r4 : w2.cell? ⟨w.heap.size + 1 + 1, 4, none⟩ = some (.slice none 0 0) := by rw [cell_of_row w2 _ 4 _ _ _ HB8.out]; rfl
          have r5 : w2.cell? ⟨w.heap.size + 1 + 1, 5, none⟩ = some (.int .i64 0) := by rw [cell_of_row w2 _ 5 _ _ _ HB8.out]; rfl
          have fz := fun j => frozen_of_row w2 (w.heap.size + 1 + 1) j _ _ HB8.out
          have z0 := fz 0
          have z1 := fz 1
          have z2 := fz 2
          have z3 := fz 3
          have z4 := fz 4
          have z5 := fz 5
          clear hp2 hg hg2 B9 szr fz
          go_wp2
          have hn2 : w.heap.size ≤ w.heap.size + 1 + 1 := by omega
          refine bodyPost_ret (ret_part 8 Tryd.results101 _ (w.heap.size + 1 + 1) rfl _ ⟨k, m, s, op, .slice va1 va2 va3, deepR xs⟩ (put6 HB8.out)) rfl (HF.out _ _ ⟨_, rfl, ?_, ?_, ?_⟩)
          · refine (XOwn.keep HO2.out fun j h1 h2 => ?_).mono (by omega)
            have hj : j ≠ w.heap.size + 1 + 1 := by omega
            rw [Below.heap_setCell _ _ _ _ hj, Below.heap_setCell _ _ _ _ hj, Below.heap_setCell _ _ _ _ hj, Below.heap_setCell _ _ _ _ hj, Below.heap_setCell _ _ _ _ hj, Below.heap_setCell _ _ _ _ hj]
          · have hp1 : pb ≠ w.heap.size + 1 + 1 := by omega
            have hg1 : g ≠ w.heap.size + 1 + 1 := by have := HS.out.gl; omega
            exact (((((HP2.out.setNew hp1 hg1 _).setNew hp1 hg1 _).setNew hp1 hg1 _).setNew hp1 hg1 _).setNew hp1 hg1 _).setNew hp1 hg1 _
          · exact (((((HG2.out.setNew hn2 _).setNew hn2 _).setNew hn2 _).setNew hn2 _).setNew hn2 _).setNew hn2 _
end Go.Proofs.YtnofibjchhcmeabDoor
