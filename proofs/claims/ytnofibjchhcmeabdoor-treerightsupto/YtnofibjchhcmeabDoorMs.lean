/- A statement is made of its parts. -/
import Derived.Test.YtnofibjchhcmeabDoorEa
namespace Go.Proofs.YtnofibjchhcmeabDoor
open Go.RowKit Go.Maps
set_option linter.unusedVariables false

/-- what comes of a making -/
def MsPost (w : World) (pb g c : Nat) (L : List Tok) (p o b n : Nat) (t : Tok) (k : Int) (s : ByteArray) (cl : Int) (bv ev : Value) (xs : List RX) (e : Ending) (w' : World) : Prop :=
  if 600 < n + 1 then e = gaveUpT (t.pos : Int) 42 ∧ Gr w w' pb
  else ∃ v, e = .returned (.agg #[.int .i64 k, .string s, .int .i64 cl, v, bv, ev]) ∧ XOwn w' w.heap.size v xs ∧ PS w' pb g c L p o b (n + 1) ∧ Gr w w' pb
def z39 : Obj := .cells #[.int .i64 0, .string ⟨#[]⟩, .int .i64 0, .slice none 0 0, .slice none 0 0, .slice none 0 0] 39
theorem ret_stmt {fn : Func} (k : Nat) (h : fn.results = #[.cell k 39]) (tmps : Array Value) (b : Nat) (hb : tmps[k]?.getD undef = .pointer (some ⟨b, 0, none⟩)) (W : World) (a0 a1 a2 a3 a4 a5 : Value) (F : W.heap[b]? = some (.cells #[a0, a1, a2, a3, a4, a5] 39)) :
    (results fn tmps).run Tryd.prog W = .ok (.agg #[a0, a1, a2, a3, a4, a5]) W := by
  have d0 : W.cell? ⟨b, 0, none⟩ = some a0 := by rw [cell_of_row W b 0 _ _ _ F]; rfl
  have d1 : W.cell? ⟨b, 1, none⟩ = some a1 := by rw [cell_of_row W b 1 _ _ _ F]; rfl
  have d2 : W.cell? ⟨b, 2, none⟩ = some a2 := by rw [cell_of_row W b 2 _ _ _ F]; rfl
  have d3 : W.cell? ⟨b, 3, none⟩ = some a3 := by rw [cell_of_row W b 3 _ _ _ F]; rfl
  have d4 : W.cell? ⟨b, 4, none⟩ = some a4 := by rw [cell_of_row W b 4 _ _ _ F]; rfl
  have d5 : W.cell? ⟨b, 5, none⟩ = some a5 := by rw [cell_of_row W b 5 _ _ _ F]; rfl
  simp [results, h, hb, go_sem, d0, d1, d2, d3, d4, d5]
theorem c6 {W : World} {k : Nat} {T : TypeId} {a0 a1 a2 a3 a4 a5 : Value} (h : W.heap[k]? = some (.cells #[a0, a1, a2, a3, a4, a5] T)) : W.cell? ⟨k, 0, none⟩ = some a0 ∧ W.cell? ⟨k, 1, none⟩ = some a1 ∧ W.cell? ⟨k, 2, none⟩ = some a2 ∧ W.cell? ⟨k, 3, none⟩ = some a3 ∧ W.cell? ⟨k, 4, none⟩ = some a4 ∧ W.cell? ⟨k, 5, none⟩ = some a5 := by
  refine ⟨?_, ?_, ?_, ?_, ?_, ?_⟩
  · rw [cell_of_row W k 0 _ _ _ h]; rfl
  · rw [cell_of_row W k 1 _ _ _ h]; rfl
  · rw [cell_of_row W k 2 _ _ _ h]; rfl
  · rw [cell_of_row W k 3 _ _ _ h]; rfl
  · rw [cell_of_row W k 4 _ _ _ h]; rfl
  · rw [cell_of_row W k 5 _ _ _ h]; rfl
/-- what stands in memory while a statement is made -/
structure MT (w wr : World) (N : Nat) (t : Tok) (k : Int) (s : ByteArray) (cl : Int) (bv ev : Value) (v : Value) (l : List RX) : Prop where
  b5 : wr.heap[N]? = some (.cells #[.int .i64 t.kind, .string ⟨t.text.toArray⟩, .int .i64 t.num, .int .i64 (t.pos : Int)] 84)
  b8 : wr.heap[N + 1 + 1]? = some z39
  b9 : wr.heap[N + 1]? = some (.cells #[.int .i64 k, .string s, .int .i64 cl, v, bv, ev] 39)
  own : XOwn wr (N + 3) v l
  bl : Below N w wr
  sz : N + 3 ≤ wr.heap.size
theorem MT.alloc {w wr : World} {N : Nat} {t : Tok} {k : Int} {s : ByteArray} {cl : Int} {bv ev v : Value} {l : List RX} (h : MT w wr N t k s cl bv ev v l) (A : Obj) : MT w (wr.alloc A) N t k s cl bv ev v l := by
  have := h.sz
  exact ⟨(heap_alloc_old _ _ (by omega)).trans h.b5, (heap_alloc_old _ _ (by omega)).trans h.b8, (heap_alloc_old _ _ (by omega)).trans h.b9, h.own.keep fun _ _ hk => heap_alloc_old _ _ hk, h.bl.alloc (by omega) A, by simp; omega⟩

set_option maxRecDepth 100000 in
set_option maxHeartbeats 4000000 in
theorem makeStmt_any (pb g c : Nat) (L : List Tok) (p o b n : Nat) (t : Tok) (k : Int) (s : ByteArray) (cl : Int) (bv ev : Value) (hbv : Sl bv) (hev : Sl ev) (xs : List RX) (v : Value) (w : World) (h : PS w pb g c L p o b n) (hn : n ≤ 600) (hx : PA w v xs) :
    Calls Tryd.prog 76 #[.pointer (some ⟨pb, 0, none⟩), tv t, .agg #[.int .i64 k, .string s, .int .i64 cl, .slice none 0 0, bv, ev], v] w (MsPost w pb g c L p o b n t k s cl bv ev xs) := by
  obtain ⟨bv1, bv2, bv3, rfl⟩ := hbv
  obtain ⟨ev1, ev2, ev3, rfl⟩ := hev
  obtain ⟨P, hP⟩ : ∃ P, MsPost w pb g c L p o b n t k s cl (.slice bv1 bv2 bv3) (.slice ev1 ev2 ev3) xs = P := ⟨_, rfl⟩
  have HP : Hid (MsPost w pb g c L p o b n t k s cl (.slice bv1 bv2 bv3) (.slice ev1 ev2 ev3) xs = P) := hP
  rw [hP]
  clear hP
  obtain ⟨⟨ad, cap, pg, rfl, hlc, hcm, hpg, hce⟩, hsl, hdp⟩ := hx
  have HS : Hid (PS w pb g c L p o b n) := h
  have HSL : Hid (∀ x ∈ xs, Sl x.v) := hsl
  have HDP : Hid (∀ x ∈ xs, x.d ≤ 1000) := hdp
  have HPG : Hid (0 < xs.length → ad = some ⟨pg, 0, none⟩ ∧ pg < w.heap.size) := hpg
  have HCE : Hid (∀ i (hi : i < xs.length), w.cell? ⟨pg, i * 6, none⟩ = some (.int .i64 xs[i].k) ∧ w.cell? ⟨pg, i * 6 + 1, none⟩ = some (.int .i64 xs[i].m) ∧ w.cell? ⟨pg, i * 6 + 2, none⟩ = some (.string xs[i].s) ∧ w.cell? ⟨pg, i * 6 + 3, none⟩ = some (.int .i64 xs[i].op) ∧ w.cell? ⟨pg, i * 6 + 4, none⟩ = some xs[i].v ∧ w.cell? ⟨pg, i * 6 + 5, none⟩ = some (.int .i64 (xs[i].d : Int))) := hce
  have hlt := h.lt
  obtain ⟨i0, hi, hz0, hz1, hz2⟩ := info_parts info42
  unfold tv
  clear h hsl hdp hpg hce
  have M0 : Hid (MT w (((w.alloc (.cells #[.int .i64 t.kind, .string ⟨t.text.toArray⟩, .int .i64 t.num, .int .i64 (t.pos : Int)] 84)).alloc (.cells #[.int .i64 k, .string s, .int .i64 cl, .slice none 0 0, .slice bv1 bv2 bv3, .slice ev1 ev2 ev3] 39)).alloc z39) w.heap.size t k s cl (.slice bv1 bv2 bv3) (.slice ev1 ev2 ev3) (.slice none 0 0) (xs.take 0)) := by
    refine ⟨?_, ?_, ?_, XOwn.nil _ _, ?_, by simp⟩
    · rw [heap_alloc_old _ _ (by simp; omega), heap_alloc_old _ _ (by simp), heap_alloc_new]
    · have := heap_alloc_new ((w.alloc (.cells #[.int .i64 t.kind, .string ⟨t.text.toArray⟩, .int .i64 t.num, .int .i64 (t.pos : Int)] 84)).alloc (.cells #[.int .i64 k, .string s, .int .i64 cl, .slice none 0 0, .slice bv1 bv2 bv3, .slice ev1 ev2 ev3] 39)) z39
      simpa using this
    · rw [heap_alloc_old _ _ (by simp)]
      have := heap_alloc_new (w.alloc (.cells #[.int .i64 t.kind, .string ⟨t.text.toArray⟩, .int .i64 t.num, .int .i64 (t.pos : Int)] 84)) (.cells #[.int .i64 k, .string s, .int .i64 cl, .slice none 0 0, .slice bv1 bv2 bv3, .slice ev1 ev2 ev3] 39)
      simpa using this
    · exact (((Below.refl _ w).alloc (Nat.le_refl _) _).alloc (by simp) _).alloc (by simp; omega) _
  go_enter Tryd.func76, Tryd.ntmps76
  go_wp2
  go_loopw [13] (fun u wr => ∃ (i : Nat) (va : Value), i ≤ xs.length ∧ u = .int .i64 (i : Int) ∧ Hid (MT w wr w.heap.size t k s cl (.slice bv1 bv2 bv3) (.slice ev1 ev2 ev3) va (xs.take i))) (fun u _ => xs.length - (intOf u).toNat)
  case atStart => exact ⟨0, _, Nat.zero_le _, rfl, M0⟩
  case round =>
    obtain ⟨i, va, hi1, rfl, HM⟩ := hrel
    by_cases hlt : i < xs.length
    · obtain ⟨q1, q2⟩ := HPG.out (by omega)
      subst q1
      obtain ⟨c0, c1, c2, c3, c4, c5⟩ := HCE.out i hlt
      have hb := HM.out.bl
      have d0 := (hb.cell (p := ⟨pg, i * 6, none⟩) q2).trans c0
      have d1 := (hb.cell (p := ⟨pg, i * 6 + 1, none⟩) q2).trans c1
      have d2 := (hb.cell (p := ⟨pg, i * 6 + 2, none⟩) q2).trans c2
      have d3 := (hb.cell (p := ⟨pg, i * 6 + 3, none⟩) q2).trans c3
      have d4 := (hb.cell (p := ⟨pg, i * 6 + 4, none⟩) q2).trans c4
      have d5 := (hb.cell (p := ⟨pg, i * 6 + 5, none⟩) q2).trans c5
      have HSX : Hid (Sl xs[i].v) := HSL.out _ (List.getElem_mem hlt)
      have HTS : Hid (xs.take (i + 1) = xs.take i ++ [xs[i]]) := by show _ = _; rw [List.take_add_one, List.getElem?_eq_getElem hlt]; rfl
      generalize xs[i] = x at *
      obtain ⟨xk, xm, xs1, xop, xvv, xd⟩ := x
      obtain ⟨xa, xn, xcp, hxv⟩ := HSX.out
      simp only at hxv d0 d1 d2 d3 d4 d5
      subst hxv
      obtain ⟨va1, va2, va3, rfl⟩ := HM.out.own.sl
      have e4 : ∀ A, (wr.alloc A).cell? ⟨w.heap.size + 1, 3, none⟩ = some (.slice va1 va2 va3) := fun A => by rw [cell_of_row _ _ 3 _ _ _ (HM.out.alloc A).b9]; rfl
      have sz := HM.out.sz
      have HM1 : Hid (MT w (wr.alloc (.cells #[.int .i64 xk, .int .i64 xm, .string xs1, .int .i64 xop, .slice xa xn xcp, .int .i64 (xd : Int)] 98)) w.heap.size t k s cl (.slice bv1 bv2 bv3) (.slice ev1 ev2 ev3) (.slice va1 va2 va3) (xs.take i)) := HM.out.alloc _
      obtain ⟨l, hl⟩ : ∃ l, xs.take i = l := ⟨_, rfl⟩
      have hll : l.length = i := by rw [← hl]; simp; omega
      have HLL : Hid (l.length = i) := hll
      rw [hl] at HM1 HTS HM
      clear c0 c1 c2 c3 c4 c5 hb q2 hl hll
      go_wp2_with (at_builtin; refine wpList_append_own _ rfl _ _ 37 rfl (w.heap.size + 3) 42 i0 (.agg #[.int .i64 0, .int .i64 0, .string ⟨#[]⟩, .int .i64 0, .slice none 0 0]) 5 64 Tryd.underlying37 hi hz0 hz1 hz2 rfl (by decide) _ _ _ rfl (World.ownsRow.alloc HM1.out.own _) ⟨wr.heap.size + 1, 0, none⟩ 1 1 (xcs [⟨xk, xm, xs1, xop, .slice xa xn xcp, xd⟩]) rfl rfl ?c1 ?c2 ?c3 ?c4 ?c5 ?_)
      case c1 =>
        intro j u hj
        simpa [xcs, xc] using hj
      case c2 => exact xc_one _ ⟨_, _, _, rfl⟩
      case c3 => have := HLL.out; unfold maxLen; omega
      case c4 => have := HLL.out; omega
      case c5 => omega
      intro v' w4 hown' hgrow _
      have hlt0 := World.ownsRow.lt HM.out.own
      have hs4 := hgrow.size
      simp at hs4
      have hk : ∀ k, k < w.heap.size + 3 → w4.heap[k]? = (wr.alloc (.cells #[.int .i64 xk, .int .i64 xm, .string xs1, .int .i64 xop, .slice xa xn xcp, .int .i64 (xd : Int)] 98)).heap[k]? := by
        intro k h1
        rw [hgrow.block k (by simp; omega) (by intro q; have := hlt0 k q.symm; omega), heap_alloc_old _ _ (by simp; omega)]
      have B5 := (hk _ (by omega)).trans HM1.out.b5
      have B8 := (hk _ (by omega)).trans HM1.out.b8
      have B9 := (hk _ (by omega)).trans HM1.out.b9
      have BL4 : Below w.heap.size w w4 := (HM1.out.bl.alloc (by simp; omega) (.cells #[.int .i64 xk, .int .i64 xm, .string xs1, .int .i64 xop, .slice xa xn xcp] 42)).grown hgrow (by simp; omega) (fun k hk => by have := hlt0 k hk; omega)
      have O4 : XOwn w4 (w.heap.size + 3) v' (l ++ [⟨xk, xm, xs1, xop, .slice xa xn xcp, xd⟩]) := by
        show w4.ownsRow _ _ _ _ _ _
        rw [List.length_append, xcs_app]
        exact hown'
      obtain ⟨n1, n2, n3, rfl⟩ := O4.sl
      have g4 : w4.cell? ⟨w.heap.size + 1, 3, none⟩ = some (.slice va1 va2 va3) := by rw [cell_of_row w4 _ 3 _ _ _ B9]; rfl
      have y4 : w4.frozen? ⟨w.heap.size + 1, 3, none⟩ = false := frozen_of_row w4 _ 3 _ _ B9
      have HS4 : Hid (w.heap.size + 3 ≤ w4.heap.size) := by show _ ≤ _; omega
      have HB5 : Hid (w4.heap[w.heap.size]? = some (.cells #[.int .i64 t.kind, .string ⟨t.text.toArray⟩, .int .i64 t.num, .int .i64 (t.pos : Int)] 84)) := B5
      have HB8 : Hid (w4.heap[w.heap.size + 1 + 1]? = some z39) := B8
      have HB9 : Hid (w4.heap[w.heap.size + 1]? = some (.cells #[.int .i64 k, .string s, .int .i64 cl, .slice va1 va2 va3, .slice bv1 bv2 bv3, .slice ev1 ev2 ev3] 39)) := B9
      have HBL : Hid (Below w.heap.size w w4) := BL4
      have HO4 : Hid (XOwn w4 (w.heap.size + 3) (.slice n1 n2 n3) (l ++ [⟨xk, xm, xs1, xop, .slice xa xn xcp, xd⟩])) := O4
      clear hown' hgrow hlt0 hs4 hk B5 B8 B9 BL4 O4 e4 d0 d1 d2 d3 d4 d5
      go_wp2
      refine ⟨⟨i + 1, .slice n1 n2 n3, by omega, by simp, ?_⟩, by simp [intOf]; omega⟩
      rw [HTS.out]
      have z1 := heap_setCell_same w4 (w.heap.size + 1) 3 _ 39 (.slice n1 n2 n3) HB9.out
      have q : ∀ j, j ≠ w.heap.size + 1 → (w4.setCell ⟨w.heap.size + 1, 3, none⟩ (.slice n1 n2 n3)).heap[j]? = w4.heap[j]? := fun j hj => Below.heap_setCell _ _ _ _ hj
      refine ⟨(q _ (by omega)).trans HB5.out, (q _ (by omega)).trans HB8.out, z1, HO4.out.keep fun j hj _ => q j (by omega), ?_, ?_⟩
      · exact HBL.out.setCell (p := ⟨w.heap.size + 1, 3, none⟩) (by show w.heap.size ≤ w.heap.size + 1; omega) _
      · simpa [World.setCell] using HS4.out
    · have hie : i = xs.length := by omega
      subst hie
      rw [List.take_length] at HM
      obtain ⟨va1, va2, va3, rfl⟩ := HM.out.own.sl
      obtain ⟨t0, t1, t2, t3⟩ := tc4_c HM.out.b5
      have HPR : Hid (PS wr pb g c L p o b n) := HS.out.below HM.out.bl
      by_cases hc : 600 < n + 1
      · have HF : Hid (∀ w', Gr w w' pb → P (gaveUpT (t.pos : Int) 42) w') := fun w' hw => by rw [← HP.out]; unfold MsPost; rw [if_pos hc]; exact ⟨rfl, hw⟩
        go_wp2_with fail
        refine (count_bad pb g c L p o b n t _ HPR.out hc (by omega)).mono ?_
        rintro e w2 ⟨rfl, hg⟩
        exact ⟨rfl, HF.out _ ((Gr.below HM.out.bl).trans hg)⟩
      · have HF : Hid (∀ e w', (∃ v, e = .returned (.agg #[.int .i64 k, .string s, .int .i64 cl, v, .slice bv1 bv2 bv3, .slice ev1 ev2 ev3]) ∧ XOwn w' w.heap.size v xs ∧ PS w' pb g c L p o b (n + 1) ∧ Gr w w' pb) → P e w') := fun e w' hw => by rw [← HP.out]; unfold MsPost; rw [if_neg hc]; exact hw
        go_wp2_with fail
        refine (count_ok pb g c L p o b n t _ HPR.out (by omega)).mono ?_
        rintro e w2 ⟨rfl, hp2, hg⟩
        have hpl : pb < w.heap.size := HS.out.lt
        have hg2 : ∀ j, j < wr.heap.size → w.heap.size ≤ j → w2.heap[j]? = wr.heap[j]? := fun j h1 h2 => hg.block j h1 (by intro e; cases e; omega)
        have szr := HM.out.sz
        have HO2 : Hid (XOwn w2 (w.heap.size + 3) (.slice va1 va2 va3) xs) := HM.out.own.keep fun j h1 h2 => hg2 j h2 (Nat.le_trans (Nat.le_add_right _ _) h1)
        have B8 : w2.heap[w.heap.size + 1 + 1]? = some z39 := (hg2 (w.heap.size + 1 + 1) (by omega) (by omega)).trans HM.out.b8
        have HB8 : Hid (w2.heap[w.heap.size + 1 + 1]? = some z39) := B8
        have B9 := (hg2 (w.heap.size + 1) (by omega) (by omega)).trans HM.out.b9
        have HP2 : Hid (PS w2 pb g c L p o b (n + 1)) := hp2
        have HG2 : Hid (Gr w w2 pb) := (Gr.below HM.out.bl).trans hg
        have HSZ : Hid (wr.heap.size ≤ w2.heap.size ∧ w.heap.size + 3 ≤ wr.heap.size) := ⟨hg.size, szr⟩
        clear t0 t1 t2 t3
        obtain ⟨e0, e1, e2, e3, e4, e5⟩ := c6 B9
        obtain ⟨r0, r1, r2, r3, r4, r5⟩ := c6 (show w2.heap[w.heap.size + 1 + 1]? = some (.cells #[.int .i64 0, .string ⟨#[]⟩, .int .i64 0, .slice none 0 0, .slice none 0 0, .slice none 0 0] 39) from B8)
        have fz := fun j => frozen_of_row w2 (w.heap.size + 1 + 1) j _ _ B8
        have z0 := fz 0
        have z1 := fz 1
        have z2 := fz 2
        have z3 := fz 3
        have z4 := fz 4
        have z5 := fz 5
        clear hp2 hg hg2 B9 szr fz B8
        go_wp2
        have hn2 : w.heap.size ≤ w.heap.size + 1 + 1 := by omega
        refine bodyPost_ret (ret_stmt 8 Tryd.results76 _ (w.heap.size + 1 + 1) rfl _ _ _ _ _ _ _ (put6 HB8.out)) rfl (HF.out _ _ ⟨_, rfl, ?_, ?_, ?_⟩)
        · refine (XOwn.keep HO2.out fun j h1 h2 => ?_).mono (by omega)
          exact set6_blk (by omega)
        · exact set6_ps HP2.out (by omega) (by have := HS.out.gl; omega)
        · exact set6_gr HG2.out hn2
end Go.Proofs.YtnofibjchhcmeabDoor
