/- What stands while a copy is turned: the copy's own cells may be written; all that is older or younger stays. -/
import Derived.Test.YtnofibjchhcmeabDoorCt
namespace Go.Proofs.YtnofibjchhcmeabDoor
open Go.RowKit Go.Maps
set_option linter.unusedVariables false

/-- a row that may be written in blocks from lo up to hi, but not in block b -/
def Wq (w : World) (lo hi b sz : Nat) (u : Value) : Prop := ∃ ad n cap, u = .slice ad n cap ∧ cap ≤ maxLen ∧ n ≤ cap ∧ (0 < n → ∃ g, ad = some ⟨g, 0, none⟩ ∧ lo ≤ g ∧ g < hi ∧ g ≠ b ∧ ∃ cur t, w.heap[g]? = some (.cells cur t) ∧ sz ≤ cur.size)
theorem Wr.wq {w : World} {lo b sz : Nat} {u : Value} (h : Wr w (fun j => lo ≤ j ∧ some j ≠ some b) sz u) : Wq w lo w.heap.size b sz u := by
  rcases h with h | ⟨g, n, cap, cur, t, h1, ⟨h2, h3⟩, h4, h5, h6, h7⟩
  · exact ⟨none, 0, 0, h, Nat.zero_le _, Nat.le_refl _, fun q => absurd q (Nat.lt_irrefl 0)⟩
  · refine ⟨_, n, cap, h1, h7, h5, fun q => ⟨g, rfl, h2, (Array.getElem?_eq_some_iff.1 h4).1, fun e => h3 (by rw [e]), cur, t, h4, ?_⟩⟩
    rw [h6]
    exact Nat.le_mul_of_pos_left _ (by omega)
/-- cells of a block of cells: there, and not frozen -/
theorem cell_there {w : World} {g q : Nat} {cur : Array Value} {t : TypeId} (h : w.heap[g]? = some (.cells cur t)) (hq : q < cur.size) : ∃ v, w.cell? ⟨g, q, none⟩ = some v := by
  rw [cell_of_row w g q _ _ _ h]
  exact ⟨cur[q], by simp [hq]⟩
/-- the copy -/
structure Cc (w0 : World) (lo hi b n : Nat) (w : World) : Prop where
  sz : w.heap.size = w0.heap.size
  hi_le : hi ≤ w0.heap.size
  os : w.os = w0.os
  tape : w.tape = w0.tape
  out : w.output = w0.output
  rest : ∀ j, j < lo ∨ hi ≤ j → w.heap[j]? = w0.heap[j]?
  le : lo ≤ hi
  bb : 0 < n → lo ≤ b ∧ b < hi
  blk : 0 < n → ∃ cur t, w.heap[b]? = some (.cells cur t) ∧ n * 6 ≤ cur.size ∧ ∀ i, i < n → ∃ va vb ve, w.cell? ⟨b, i * 6 + 3, none⟩ = some va ∧ w.cell? ⟨b, i * 6 + 4, none⟩ = some vb ∧ w.cell? ⟨b, i * 6 + 5, none⟩ = some ve ∧ Wq w lo hi b 5 va ∧ Wq w lo hi b 6 vb ∧ Wq w lo hi b 6 ve
theorem heap_set (w : World) (g q : Nat) (cur : Array Value) (t : TypeId) (v : Value) (h : w.heap[g]? = some (.cells cur t)) : (w.setCell ⟨g, q, none⟩ v).heap[g]? = some (.cells (cur.setIfInBounds q v) t) := heap_setCell_same w g q cur t v h
theorem Wq.set {w : World} {lo hi b sz g q : Nat} {cur : Array Value} {t : TypeId} {u v : Value} (h : Wq w lo hi b sz u) (hg : w.heap[g]? = some (.cells cur t)) : Wq (w.setCell ⟨g, q, none⟩ v) lo hi b sz u := by
  obtain ⟨ad, n, cap, h1, h2, h3, h4⟩ := h
  refine ⟨ad, n, cap, h1, h2, h3, fun q0 => ?_⟩
  obtain ⟨k, e1, e2, e3, e4, cur', t', e5, e6⟩ := h4 q0
  refine ⟨k, e1, e2, e3, e4, ?_⟩
  by_cases hk : k = g
  · subst hk
    rw [hg] at e5
    cases e5
    exact ⟨_, _, heap_set w k q cur t v hg, by simpa using e6⟩
  · exact ⟨cur', t', (Below.heap_setCell _ _ _ _ hk).trans e5, e6⟩
/-- a cell of the copy is written -/
theorem Cc.set {w0 w : World} {lo hi b n g q : Nat} (h : Cc w0 lo hi b n w) (hn : 0 < n) (hg : lo ≤ g ∧ g < hi) (hc : ∃ cur t, w.heap[g]? = some (.cells cur t)) (hq : g = b → ∃ i, q = i * 6) (v : Value) : Cc w0 lo hi b n (w.setCell ⟨g, q, none⟩ v) := by
  obtain ⟨cg, tg, hcg⟩ := hc
  have hsz : (w.setCell ⟨g, q, none⟩ v).heap.size = w.heap.size := by simp [World.setCell]
  obtain ⟨cur, t, hb1, hb2, hb3⟩ := h.blk hn
  refine ⟨by rw [hsz]; exact h.sz, h.hi_le, h.os, h.tape, h.out, fun j hj => (Below.heap_setCell _ _ _ _ (by rintro rfl; omega)).trans (h.rest j hj), h.le, h.bb, fun _ => ?_⟩
  by_cases hgb : g = b
  · subst hgb
    rw [hcg] at hb1
    cases hb1
    refine ⟨_, _, heap_set w g q cg tg v hcg, by simpa using hb2, fun i hi => ?_⟩
    obtain ⟨va, vb, ve, e1, e2, e3, e4, e5, e6⟩ := hb3 i hi
    obtain ⟨i', rfl⟩ := hq rfl
    refine ⟨va, vb, ve, ?_, ?_, ?_, e4.set hcg, e5.set hcg, e6.set hcg⟩
    · rw [cell_of_row _ _ _ _ _ _ (heap_set w g _ cg tg v hcg)]
      rw [cell_of_row _ _ _ _ _ _ hcg] at e1
      rw [← e1, Array.getElem?_setIfInBounds_ne (by omega)]
    · rw [cell_of_row _ _ _ _ _ _ (heap_set w g _ cg tg v hcg)]
      rw [cell_of_row _ _ _ _ _ _ hcg] at e2
      rw [← e2, Array.getElem?_setIfInBounds_ne (by omega)]
    · rw [cell_of_row _ _ _ _ _ _ (heap_set w g _ cg tg v hcg)]
      rw [cell_of_row _ _ _ _ _ _ hcg] at e3
      rw [← e3, Array.getElem?_setIfInBounds_ne (by omega)]
  · have hbk := Below.heap_setCell w ⟨g, q, none⟩ v b (fun e => hgb e.symm)
    refine ⟨cur, t, hbk.trans hb1, hb2, fun i hi => ?_⟩
    obtain ⟨va, vb, ve, e1, e2, e3, e4, e5, e6⟩ := hb3 i hi
    exact ⟨va, vb, ve, (World.cell?_of_block (w := w) (a := ⟨b, i * 6 + 3, none⟩) hbk).trans e1, (World.cell?_of_block (w := w) (a := ⟨b, i * 6 + 4, none⟩) hbk).trans e2, (World.cell?_of_block (w := w) (a := ⟨b, i * 6 + 5, none⟩) hbk).trans e3, e4.set hcg, e5.set hcg, e6.set hcg⟩
theorem addz (b j : Nat) : (⟨b, 0, none⟩ : Addr).add j = ⟨b, j, none⟩ := by
  unfold Addr.add
  split
  · rename_i h; subst h; rfl
  · simp
theorem scs_at (ys : List RT) : ∀ (i : Nat) (hi : i < ys.length) (q : Nat) (hq : q < 6), (scs ys)[i * 6 + q]? = some ((sc ys[i])[q]'(by simp [sc]; omega)) := by
  induction ys with
  | nil => intro i hi; simp at hi
  | cons y ys ih =>
    intro i hi q hq
    have hl : (sc y).length = 6 := by simp [sc]
    show (sc y ++ scs ys)[i * 6 + q]? = _
    cases i with
    | zero =>
      rw [List.getElem?_append_left (by rw [hl]; omega)]
      simp [sc]
    | succ i =>
      rw [List.getElem?_append_right (by rw [hl]; omega), hl, show (i + 1) * 6 + q - 6 = i * 6 + q by omega]
      exact ih i (by simpa using hi) q hq
theorem Cc.new {w3 w5 : World} {base b n : Nat} {cap : Nat} {ys : List RT} {ad : Option Addr} (ho : SOwn w3 base (.slice ad n cap) ys) (hn : ys.length = n) (hb : 0 < n → ad = some ⟨b, 0, none⟩) (hm : ∀ y ∈ ys, TM2 w3 (fun j => base ≤ j ∧ some j ≠ (Value.slice ad n cap).ownBlock) y) (h0 : base ≤ w3.heap.size) (h35 : w3.heap.size ≤ w5.heap.size) (hk : ∀ j, j < w3.heap.size → w5.heap[j]? = w3.heap[j]?) : Cc w5 base w3.heap.size b n w5 := by
  have hce := fun g => World.ownsRow.cells ho (g := g)
  refine ⟨rfl, h35, rfl, rfl, rfl, fun _ _ => rfl, h0, ?_, ?_⟩
  · intro h
    have hl := World.ownsRow.lt ho b (by rw [hb h]; rfl)
    exact hl
  · intro h
    have hbe := hb h
    subst hbe
    have hl := World.ownsRow.lt ho b rfl
    obtain ⟨h1, ⟨h2, h3⟩ | ⟨g, cap', cur, e1, e2, e3, e4, e5, e6, e7⟩⟩ := ho
    · cases h2
    · injection e1 with e1 e1' e1''
      injection e1 with e1
      injection e1 with e1
      subst e1 e1''
      refine ⟨cur, 39, (hk b hl.2).trans e3, by rw [e6]; exact Nat.mul_le_mul_right _ (by omega), fun i hi => ?_⟩
      have hy : ys[i] ∈ ys := List.getElem_mem _
      obtain ⟨_, q1, q2, q3⟩ := hm ys[i] hy
      have hcell : ∀ q (hq : q < 6), w5.cell? ⟨b, i * 6 + q, none⟩ = (sc ys[i])[q]? := by
        intro q hq
        have hx := hce b rfl (i * 6 + q) ((sc ys[i])[q]'(by simp [sc]; omega)) (scs_at ys i (by omega) q hq)
        have ha : (⟨b, 0, none⟩ : Addr).add (i * 6 + q) = ⟨b, i * 6 + q, none⟩ := addz _ _
        rw [ha] at hx
        rw [(World.cell?_of_block (w := w3) (a := ⟨b, i * 6 + q, none⟩) (hk b hl.2)).trans hx]
        simp
      have hW : ∀ sz u, Wr w3 (fun j => base ≤ j ∧ some j ≠ some b) sz u → Wq w5 base w3.heap.size b sz u := by
        intro sz u hu
        obtain ⟨ad, n', c', f1, f2, f3, f4⟩ := hu.wq
        refine ⟨ad, n', c', f1, f2, f3, fun q0 => ?_⟩
        obtain ⟨k, k1, k2, k3, k4, cu, t, k5, k6⟩ := f4 q0
        exact ⟨k, k1, k2, k3, k4, cu, t, (hk k k3).trans k5, k6⟩
      exact ⟨_, _, _, (hcell 3 (by omega)).trans rfl, (hcell 4 (by omega)).trans rfl, (hcell 5 (by omega)).trans rfl, hW _ _ q1, hW _ _ q2, hW _ _ q3⟩
end Go.Proofs.YtnofibjchhcmeabDoor
