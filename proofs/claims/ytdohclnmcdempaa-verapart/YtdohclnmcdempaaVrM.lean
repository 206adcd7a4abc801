/- A store as it lies in memory. -/
import Derived.Test.YtdohclnmcdempaaVrQ
import Derived.Test.YtdohclnmcdempaaArE
import Derived.Maps.OwnSet
import Derived.Maps.OwnOps
import Derived.Maps.Views
namespace Go.Proofs.Ytdohclnmcdempaa
open Go.RowKit Go.Maps
set_option linter.unusedVariables false

/-- pairs of numbers as cells -/
def prs (H : Ch2) : Array Value := (H.flatMap fun x => [Value.int .i64 x.1, Value.int .i64 x.2]).toArray
theorem prs_get : ∀ (H : Ch2) (i : Nat) (h : i < H.length) (j : Nat), j < 2 → (H.flatMap fun x => [Value.int .i64 x.1, Value.int .i64 x.2])[2 * i + j]? = [Value.int .i64 H[i].1, Value.int .i64 H[i].2][j]?
  | [], i, h, _, _ => absurd h (Nat.not_lt_zero _)
  | x :: H, 0, h, j, hj => by
    match j, hj with
    | 0, _ => rfl
    | 1, _ => rfl
  | x :: H, i + 1, h, j, hj => by
    have := prs_get H i (by simpa using h) j hj
    rw [show 2 * (i + 1) + j = (2 * i + j) + 2 by omega]
    simpa using this
theorem prs_len (H : Ch2) : (H.flatMap fun x => [Value.int .i64 x.1, Value.int .i64 x.2]).length = 2 * H.length := by induction H with
  | nil => rfl
  | cons x H ih => simp [ih] at *; omega
theorem prs_set : ∀ (H : Ch2) (i : Nat) (a v : Int), i < H.length → ((H.flatMap fun x => [Value.int .i64 x.1, Value.int .i64 x.2]).set (2 * i) (.int .i64 a)).set (2 * i + 1) (.int .i64 v) = (H.set i (a, v)).flatMap fun x => [Value.int .i64 x.1, Value.int .i64 x.2]
  | [], i, _, _, h => absurd h (Nat.not_lt_zero _)
  | x :: H, 0, a, v, h => rfl
  | x :: H, i + 1, a, v, h => by
    have := prs_set H i a v (by simpa using h)
    rw [show 2 * (i + 1) = (2 * i + 1) + 1 by omega, show (2 * i + 1) + 1 + 1 = (2 * i + 1 + 1) + 1 by omega]
    simp only [List.flatMap_cons, List.cons_append, List.nil_append, List.set_cons_succ]
    rw [this]
abbrev M1 := DataW Unit
def klit (a : Int) : Lit := .int .i64 a
def i64d (c : Int) : M1 := .lit (.int .i64 c)
/-- how many words an age has versions of -/
def manyK (W : Nat) (K : Nat → Ch2) (a : Int) : Nat := ((List.range W).filter fun i => hasK (K i) a).length
/-- what the map holds -/
def MD (D : M1) (f : Int → Nat) : Prop := ∀ a, -9223372036854775808 ≤ a ∧ a ≤ 9223372036854775807 → D.atKey (klit a) (i64d 0) = i64d (f a) ∧ Maps.has D (klit a) = decide (f a ≠ 0)
structure SV (w : World) (lab : Nat → Nat) (sb ab ub hb wb mb : Nat) (ob : Option Nat) (R W n : Nat) (L : List Nat) (H : Ch2) (C : List (List Nat)) (cv : List Value) (D : M1) : Prop where
  bl : w.heap[sb]? = some (.cells #[.pointer (some ⟨ab, 0, none⟩), .slice (some ⟨hb, 0, none⟩) R R, .slice (some ⟨wb, 0, none⟩) W W, .map (some mb)] 75)
  bH : w.heap[hb]? = some (.cells (prs H) 62)
  bW : w.heap[wb]? = some (.cells cv.toArray 22)
  ar : AA w ab ub ob R L
  lv : cv.length = W
  ch : ∀ i v, cv[i]? = some v → IZ w 0 v (cs (cc C i))
  mp : w.ownsMap Try.prog 3 (plainElem Try.prog 3) mb n D
  md : MD D (manyK W (kf H C))
  ok : OkS R W L H C
  l1 : lab sb = 1
  l2 : lab hb = 2
  l3 : lab wb = 3
  l4 : lab mb = 4
  l5 : lab ab = 5
  l6 : lab ub = 6
  l7 : ∀ g, ob = some g → lab g = 7
  l8 : ∀ i v g, cv[i]? = some v → v.ownBlock = some g → lab g = 8 + i
  lt : ∀ k, lab k ≠ 0 → k < w.heap.size
  wW : 1 ≤ W ∧ W ≤ 64
theorem ownsMap_keep {w w' : World} {b n : Nat} {D : M1} (h : w.ownsMap Try.prog 3 (plainElem Try.prog 3) b n D) (hk : w'.heap[b]? = w.heap[b]?) : w'.ownsMap Try.prog 3 (plainElem Try.prog 3) b n D := by
  obtain ⟨es, clock, hb, r⟩ := h
  exact ⟨es, clock, hk.trans hb, r⟩
section
variable {w w' : World} {lab : Nat → Nat} {sb ab ub hb wb mb : Nat} {ob : Option Nat} {R W n : Nat} {L : List Nat} {H : Ch2} {C : List (List Nat)} {cv : List Value} {D : M1}
theorem SV.keep (h : SV w lab sb ab ub hb wb mb ob R W n L H C cv D) (hk : ∀ k, lab k ≠ 0 → w'.heap[k]? = w.heap[k]?) (hs : w.heap.size ≤ w'.heap.size) : SV w' lab sb ab ub hb wb mb ob R W n L H C cv D := by
  refine ⟨(hk sb (by rw [h.l1]; decide)).trans h.bl, (hk hb (by rw [h.l2]; decide)).trans h.bH, (hk wb (by rw [h.l3]; decide)).trans h.bW, h.ar.keep (hk ab (by rw [h.l5]; decide)) (hk ub (by rw [h.l6]; decide)) (fun g hg => hk g (by rw [h.l7 g hg]; decide)), h.lv, fun i v hv => (h.ch i v hv).keepO (fun g hg => hk g (by rw [h.l8 i v g hv hg]; omega)), ownsMap_keep h.mp (hk mb (by rw [h.l4]; decide)), h.md, h.ok, h.l1, h.l2, h.l3, h.l4, h.l5, h.l6, h.l7, h.l8, fun k hk' => Nat.lt_of_lt_of_le (h.lt k hk') hs, h.wW⟩
theorem SV.below (h : SV w lab sb ab ub hb wb mb ob R W n L H C cv D) (c : Below w.heap.size w w') : SV w' lab sb ab ub hb wb mb ob R W n L H C cv D := h.keep (fun k hk => c.block k (h.lt k hk)) c.size
theorem SV.alloc (h : SV w lab sb ab ub hb wb mb ob R W n L H C cv D) (A : Obj) : SV (w.alloc A) lab sb ab ub hb wb mb ob R W n L H C cv D := h.below (bl1 w A)
theorem SV.drewN (h : SV w lab sb ab ub hb wb mb ob R W n L H C cv D) (k : Nat) : SV (w.drewN k) lab sb ab ub hb wb mb ob R W n L H C cv D := h.below (Below.dN (Below.refl _ _) k)
theorem SV.c0 (h : SV w lab sb ab ub hb wb mb ob R W n L H C cv D) : w.cell? ⟨sb, 0, none⟩ = some (.pointer (some ⟨ab, 0, none⟩)) := by rw [cell_of_row w sb 0 _ _ _ h.bl]; rfl
theorem SV.c1 (h : SV w lab sb ab ub hb wb mb ob R W n L H C cv D) : w.cell? ⟨sb, 1, none⟩ = some (.slice (some ⟨hb, 0, none⟩) R R) := by rw [cell_of_row w sb 1 _ _ _ h.bl]; rfl
theorem SV.c2 (h : SV w lab sb ab ub hb wb mb ob R W n L H C cv D) : w.cell? ⟨sb, 2, none⟩ = some (.slice (some ⟨wb, 0, none⟩) W W) := by rw [cell_of_row w sb 2 _ _ _ h.bl]; rfl
theorem SV.c3 (h : SV w lab sb ab ub hb wb mb ob R W n L H C cv D) : w.cell? ⟨sb, 3, none⟩ = some (.map (some mb)) := by rw [cell_of_row w sb 3 _ _ _ h.bl]; rfl
theorem SV.cH (h : SV w lab sb ab ub hb wb mb ob R W n L H C cv D) (i : Nat) (hi : i < R) : w.cell? ⟨hb, i * 2, none⟩ = some (.int .i64 (H.getD i (0, 0)).1) ∧ w.cell? ⟨hb, i * 2 + 1, none⟩ = some (.int .i64 (H.getD i (0, 0)).2) := by
  have hl : i < H.length := by rw [h.ok.hH]; exact hi
  have e : H.getD i (0, 0) = H[i] := by simp [List.getD, hl]
  rw [cell_of_row w hb _ _ _ _ h.bH, cell_of_row w hb _ _ _ _ h.bH, e, Nat.mul_comm]
  unfold prs
  rw [List.getElem?_toArray, List.getElem?_toArray]
  exact ⟨prs_get H i hl 0 (by omega), prs_get H i hl 1 (by omega)⟩
theorem SV.fH (h : SV w lab sb ab ub hb wb mb ob R W n L H C cv D) (j : Nat) : w.frozen? ⟨hb, j, none⟩ = false := frozen_of_row w hb j _ _ h.bH
theorem SV.fW (h : SV w lab sb ab ub hb wb mb ob R W n L H C cv D) (j : Nat) : w.frozen? ⟨wb, j, none⟩ = false := frozen_of_row w wb j _ _ h.bW
theorem SV.cW (h : SV w lab sb ab ub hb wb mb ob R W n L H C cv D) (i : Nat) (hi : i < W) : ∃ v, cv[i]? = some v ∧ w.cell? ⟨wb, i, none⟩ = some v ∧ IZ w 0 v (cs (cc C i)) := by
  have hl : i < cv.length := by rw [h.lv]; exact hi
  refine ⟨cv[i], by simp [hl], ?_, h.ch i _ (by simp [hl])⟩
  rw [cell_of_row w wb _ _ _ _ h.bW]
  simp [hl]
end
end Go.Proofs.Ytdohclnmcdempaa
