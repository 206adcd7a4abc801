/- A call of both logs: what stands beside them. -/
import Derived.Test.YtongeppdaeekeaaAtM
namespace Go.Proofs.Ytongeppdaeekeaa
open Go.RowKit Go.Maps
set_option linter.unusedVariables false

/-- a slice that isn't empty lies in a block of which p is so -/
def PB (p : Nat → Prop) (v : Value) : Prop := ∀ g o n c, v = .slice (some ⟨g, o, none⟩) n c → 0 < n → p g
theorem RS.part {α : Type} {K : RK α} {w w' : World} {v : Value} {l : List α} {p p' : Nat → Prop} (h : RS K w v l) (hp : PB p v) (hk : ∀ k, k < w.heap.size → p k → w'.heap[k]? = w.heap[k]? ∧ p' k) : RS K w' v l ∧ PB p' v := by
  have hf : ∀ g o n c, v = .slice (some ⟨g, o, none⟩) n c → 0 < n → g < w.heap.size := fun g o n c e hn => by
    obtain ⟨a, c', b, o', h1, h2, h3, h4, h5⟩ := h
    rw [e] at h1
    injection h1 with e1 e2 e3
    have hl : 0 < l.length := by omega
    rw [h4 hl] at e1
    injection e1 with e1
    injection e1 with e1 e1'
    obtain ⟨u, hu⟩ := cl_some K l[0] 0 K.pos
    have := h5 0 hl 0 K.pos
    rw [hu] at this
    have := World.block_lt_of_cell? w _ this
    rw [e1]; exact this
  have hform := h.form
  refine ⟨h.keep fun g hg ⟨o, n, c, e⟩ h0 => (hk g hg (hp g o n c e (by obtain ⟨a, c', e'⟩ := hform; rw [e'] at e; injection e with _ e2 _; omega))).1, fun g o n c e hn => (hk g (hf g o n c e hn) (hp g o n c e hn)).2⟩
/-- the document's log, its rows in blocks of which p is so -/
structure DW (p : Nat → Prop) (w : World) (v : Value) (d : Dg) : Prop where
  out : ∃ dv rv wv ov iv, v = .agg #[.int .i64 d.R, .int .i64 d.W, .int .i64 d.O, dv, rv, wv, ov, iv] ∧ DX w d dv rv wv ov iv ∧ PB p dv ∧ PB p rv ∧ PB p wv ∧ PB p ov ∧ PB p iv
section
variable {w w' W W' : World} {lab lab' : Nat → Nat} {c lb : Nat} {s s' : Lg} {v : Value} {d : Dg} {p p' : Nat → Prop} {Y : Nat → Prop}
theorem DW.dv (h : DW p w v d) : DV w v d := by
  obtain ⟨_, _, _, _, _, e, h, _⟩ := h.out
  exact ⟨_, _, _, _, _, e, h⟩
theorem DW.keep (h : DW p w v d) (hk : ∀ k, k < w.heap.size → p k → w'.heap[k]? = w.heap[k]? ∧ p' k) : DW p' w' v d := by
  obtain ⟨dv, rv, wv, ov, iv, e, h, h1, h2, h3, h4, h5⟩ := h.out
  obtain ⟨q1, r1⟩ := h.dd.part h1 hk
  obtain ⟨q2, r2⟩ := h.rr.part h2 hk
  obtain ⟨q3, r3⟩ := h.ww.part h3 hk
  obtain ⟨q4, r4⟩ := h.oo.part h4 hk
  obtain ⟨q5, r5⟩ := h.ii.part h5 hk
  exact ⟨⟨dv, rv, wv, ov, iv, e, ⟨q1, q2, q3, q4, q5⟩, r1, r2, r3, r4, r5⟩⟩
theorem PB.step {B : Nat} {u u' : Value} (h : PB p u) (hf : FB B u u') (hp : ∀ k, B ≤ k → p k) : PB p u' := by
  rcases hf with rfl | hf
  · exact h
  · exact fun g o n c e _ => hp g (hf g o n c e)
theorem DW.step {B : Nat} {v' : Value} {d' : Dg} (h : DW p w v d) (hv : DV w' v' d') (hf : FV B v v') (hp : ∀ k, B ≤ k → p k) : DW p w' v' d' := by
  obtain ⟨dv, rv, wv, ov, iv, e, _, h1, h2, h3, h4, h5⟩ := h.out
  obtain ⟨R, W, O, R', W', O', dv2, rv2, wv2, ov2, iv2, rv', wv', ov', iv', e2, e3, f1, f2, f3, f4⟩ := hf
  obtain ⟨dv3, rv3, wv3, ov3, iv3, e4, hx⟩ := hv
  rw [e] at e2
  rw [e3] at e4
  simp only [Value.agg.injEq, Array.mk.injEq, List.cons.injEq, and_true] at e2 e4
  obtain ⟨_, _, _, rfl, rfl, rfl, rfl, rfl⟩ := e2
  obtain ⟨rfl, rfl, rfl, rfl, rfl, rfl, rfl, rfl⟩ := e4
  exact ⟨⟨_, _, _, _, _, e3, hx, h1, h2.step f1 hp, h3.step f2 hp, h4.step f3 hp, h5.step f4 hp⟩⟩
/-- blocks that no log has -/
def Free (lab : Nat → Nat) : Nat → Prop := fun k => lab k = 0
/-- a log, as it stands behind some steps from w on; Y are blocks beside it -/
structure OI (w W : World) (lab : Nat → Nat) (c lb : Nat) (s : Lg) (Y : Nat → Prop) (lab' : Nat → Nat) : Prop where
  lv : LV W lab' c lb s
  lq : LabQ c lab lab' w W
  y : ∀ k, Y k → lab' k = 0 ∧ k < W.heap.size ∧ w.heap.size ≤ k
theorem OI.first (h : LV w lab c lb s) : OI w w lab c lb s (fun _ => False) lab := ⟨h, LabQ.refl _ _ _, fun k hk => hk.elim⟩
theorem OI.below (h : OI w W lab c lb s Y lab') (b : Below W.heap.size W W') : OI w W' lab c lb s Y lab' := ⟨h.lv.below b, h.lq.trans (LabQ.of b), fun k hk => ⟨(h.y k hk).1, Nat.lt_of_lt_of_le (h.y k hk).2.1 b.size, (h.y k hk).2.2⟩⟩
theorem OI.alloc (h : OI w W lab c lb s Y lab') (A : Obj) : OI w (W.alloc A) lab c lb s (fun k => Y k ∨ k = W.heap.size) lab' := by
  have hb := h.below (bl1 W A)
  refine ⟨hb.lv, hb.lq, fun k hk => ?_⟩
  rcases hk with hk | rfl
  · exact hb.y k hk
  · refine ⟨?_, by simp, h.lq.2.size⟩
    rcases Nat.eq_zero_or_pos (lab' W.heap.size) with r | r
    · exact r
    · have := h.lv.lt W.heap.size (by omega); omega
theorem OI.call {f : Nat} {args : Array Value} {x : Value} (h : OI w W lab c lb s Y lab') (hc : Calls Try.prog f args W (LQ c lab' lb s' x W)) :
    Calls Try.prog f args W fun e W' => e = .returned x ∧ ∃ lab'', OI w W' lab c lb s' Y lab'' ∧ LabQ c lab' lab'' W W' ∧ ∀ k, Y k → W'.heap[k]? = W.heap[k]? := by
  refine hc.mono ?_
  rintro e W' ⟨rfl, lab'', h1, h2⟩
  refine ⟨rfl, lab'', ⟨h1, h.lq.trans h2, fun k hk => ?_⟩, h2, fun k hk => ?_⟩
  · obtain ⟨a, b, d⟩ := h.y k hk
    exact ⟨(h2.1 k b).trans a, Nat.lt_of_lt_of_le b h2.2.size, d⟩
  · obtain ⟨a, b, d⟩ := h.y k hk
    exact h2.2.block k b (by rw [a]; omega)
theorem OI.look {f : Nat} {args : Array Value} {x : Value} (h : OI w W lab c lb s Y lab') (hc : Calls Try.prog f args W (AN W x)) :
    Calls Try.prog f args W fun e W' => e = .returned x ∧ OI w W' lab c lb s Y lab' ∧ Below W.heap.size W W' := by
  refine hc.mono ?_
  rintro e W' ⟨rfl, b⟩
  exact ⟨rfl, h.below b, b⟩
theorem OI.same (h : OI w W lab c lb s Y lab') (hk : ∀ k, lab' k ≠ 0 → W'.heap[k]? = W.heap[k]?) (hs : W.heap.size ≤ W'.heap.size) (hq : Ch (fun k => c < lab k ∧ lab k ≤ c + 7) w W') : OI w W' lab c lb s Y lab' := by
  obtain ⟨⟨hb, bo, bn, rv, wv, ov, many, x⟩, h2, h3⟩ := h
  refine ⟨(x.keep (fun k _ h1 _ => ⟨hk k (by omega), rfl⟩) (fun k h0 => Nat.lt_of_lt_of_le (x.lt k h0) hs)).lv, ⟨h2.1, hq⟩, fun k hY => ⟨(h3 k hY).1, Nat.lt_of_lt_of_le (h3 k hY).2.1 hs, (h3 k hY).2.2⟩⟩
theorem OI.set (h : OI w W lab c lb s Y lab') {k : Nat} (hk : Y k) (j : Nat) (u : Value) : OI w (W.setCell ⟨k, j, none⟩ u) lab c lb s Y lab' := by
  obtain ⟨a, b, d⟩ := h.y k hk
  exact h.same (fun k' h0 => Below.heap_setCell _ _ _ _ (by show k' ≠ k; intro e; rw [e] at h0; exact h0 a)) (by simp [World.setCell]) (h.lq.2.set (.inr d) _ _)
theorem OI.put8 (h : OI w W lab c lb s Y lab') {k : Nat} (hk : Y k) (a0 a1 a2 a3 a4 a5 a6 a7 : Value) : OI w (put8W W k a0 a1 a2 a3 a4 a5 a6 a7) lab c lb s Y lab' := by
  unfold put8W
  exact (((((((h.set hk 0 a0).set hk 1 a1).set hk 2 a2).set hk 3 a3).set hk 4 a4).set hk 5 a5).set hk 6 a6).set hk 7 a7
theorem OI.mono {Y' : Nat → Prop} (h : OI w W lab c lb s Y lab') (hY : ∀ k, Y' k → Y k) : OI w W lab c lb s Y' lab' := ⟨h.lv, h.lq, fun k hk => h.y k (hY k hk)⟩
end
end Go.Proofs.Ytongeppdaeekeaa
