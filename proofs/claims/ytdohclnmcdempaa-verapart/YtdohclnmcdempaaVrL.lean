/- A store as it lies in memory: what each step of a call turns of it. -/
import Derived.Test.YtdohclnmcdempaaVrK
import Derived.Test.YtdohclnmcdempaaVrJ
namespace Go.Proofs.Ytdohclnmcdempaa
open Go.RowKit Go.Maps
set_option linter.unusedVariables false

/-- a store's memory alone -/
structure SM (w : World) (lab : Nat → Nat) (sb ab ub hb wb mb : Nat) (ob : Option Nat) (R W n : Nat) (L : List Nat) (H : Ch2) (C : List (List Nat)) (cv : List Value) (D : M1) : Prop where
  bl : w.heap[sb]? = some (.cells #[.pointer (some ⟨ab, 0, none⟩), .slice (some ⟨hb, 0, none⟩) R R, .slice (some ⟨wb, 0, none⟩) W W, .map (some mb)] 75)
  bH : w.heap[hb]? = some (.cells (prs H) 62)
  bW : w.heap[wb]? = some (.cells cv.toArray 22)
  ar : AA w ab ub ob R L
  lv : cv.length = W
  lh : H.length = R
  lc : C.length = W
  ch : ∀ i v, cv[i]? = some v → IZ w 0 v (cs (cc C i))
  mp : w.ownsMap Try.prog 3 (plainElem Try.prog 3) mb n D
  l1 : lab sb = 1
  l2 : lab hb = 2
  l3 : lab wb = 3
  l4 : lab mb = 4
  l5 : lab ab = 5
  l6 : lab ub = 6
  l7 : ∀ g, ob = some g → lab g = 7
  l8 : ∀ i v g, cv[i]? = some v → v.ownBlock = some g → lab g = 8 + i
  lt : ∀ k, lab k ≠ 0 → k < w.heap.size
  wW : 1 ≤ W ∧ W ≤ 64
/-- the labels that were stay, and only what is labelled is written -/
def LabQ (lab lab' : Nat → Nat) (w w' : World) : Prop := (∀ k, k < w.heap.size → lab' k = lab k) ∧ Ch (fun k => lab k ≠ 0) w w'
theorem LabQ.refl (lab : Nat → Nat) (w : World) : LabQ lab lab w w := ⟨fun _ _ => rfl, Ch.refl _ _⟩
theorem LabQ.trans {l1 l2 l3 : Nat → Nat} {a b c : World} (h : LabQ l1 l2 a b) (k : LabQ l2 l3 b c) : LabQ l1 l3 a c := by
  refine ⟨fun i hi => (k.1 i (Nat.lt_of_lt_of_le hi h.2.size)).trans (h.1 i hi), ⟨k.2.os.trans h.2.os, k.2.tape.trans h.2.tape, k.2.output.trans h.2.output, Nat.le_trans h.2.size k.2.size, fun i hi hn => ?_⟩⟩
  exact (k.2.block i (Nat.lt_of_lt_of_le hi h.2.size) (by rw [h.1 i hi]; exact hn)).trans (h.2.block i hi hn)
theorem LabQ.of {lab : Nat → Nat} {w w' : World} (h : Below w.heap.size w w') : LabQ lab lab w w' := ⟨fun _ _ => rfl, Ch.of h⟩
section
variable {w w' : World} {lab : Nat → Nat} {sb ab ub hb wb mb : Nat} {ob : Option Nat} {R W n : Nat} {L : List Nat} {H : Ch2} {C : List (List Nat)} {cv : List Value} {D : M1}
theorem SV.sm (h : SV w lab sb ab ub hb wb mb ob R W n L H C cv D) : SM w lab sb ab ub hb wb mb ob R W n L H C cv D :=
  ⟨h.bl, h.bH, h.bW, h.ar, h.lv, h.ok.hH, h.ok.hC, h.ch, h.mp, h.l1, h.l2, h.l3, h.l4, h.l5, h.l6, h.l7, h.l8, h.lt, h.wW⟩
theorem SM.sv (h : SM w lab sb ab ub hb wb mb ob R W n L H C cv D) (ok : OkS R W L H C) (md : MD D (manyK W (kf H C))) : SV w lab sb ab ub hb wb mb ob R W n L H C cv D :=
  ⟨h.bl, h.bH, h.bW, h.ar, h.lv, h.ch, h.mp, md, ok, h.l1, h.l2, h.l3, h.l4, h.l5, h.l6, h.l7, h.l8, h.lt, h.wW⟩
theorem SM.below (h : SM w lab sb ab ub hb wb mb ob R W n L H C cv D) (c : Below w.heap.size w w') : SM w' lab sb ab ub hb wb mb ob R W n L H C cv D := by
  have hk : ∀ k, lab k ≠ 0 → w'.heap[k]? = w.heap[k]? := fun k hk => c.block k (h.lt k hk)
  exact ⟨(hk sb (by rw [h.l1]; decide)).trans h.bl, (hk hb (by rw [h.l2]; decide)).trans h.bH, (hk wb (by rw [h.l3]; decide)).trans h.bW, h.ar.below c, h.lv, h.lh, h.lc, fun i v hv => (h.ch i v hv).below c, ownsMap_keep h.mp (hk mb (by rw [h.l4]; decide)), h.l1, h.l2, h.l3, h.l4, h.l5, h.l6, h.l7, h.l8, fun k hk' => Nat.lt_of_lt_of_le (h.lt k hk') c.size, h.wW⟩
/-- the arena has been called -/
theorem SM.arena (h : SM w lab sb ab ub hb wb mb ob R W n L H C cv D) {L' : List Nat} {ob' : Option Nat} (a : AA w' ab ub ob' R L') (c : Ch (aw3 ab ub ob) w w') (ho : ob' = ob ∨ ∃ g, ob' = some g ∧ w.heap.size ≤ g) :
    ∃ lab', SM w' lab' sb ab ub hb wb mb ob' R W n L' H C cv D ∧ LabQ lab lab' w w' := by
  have hk : ∀ k, lab k ≠ 0 → lab k ≠ 5 → lab k ≠ 6 → lab k ≠ 7 → w'.heap[k]? = w.heap[k]? := fun k h0 h1 h2 h3 => c.block k (h.lt k h0) (by
    rintro (rfl | rfl | q)
    · exact h1 h.l5
    · exact h2 h.l6
    · exact h3 (h.l7 k q))
  have hold : ∀ g, ob' = some g → g < w.heap.size → lab g = 7 := fun g hg hl => by
    rcases ho with e | ⟨g', e, hl'⟩
    · exact h.l7 g (e ▸ hg)
    · rw [e] at hg; injection hg with hg; omega
  have hlab : ∀ k, k < w.heap.size → (if ob' = some k then 7 else lab k) = lab k := fun k hk => by
    split
    · rename_i q; exact (hold k q hk).symm
    · rfl
  refine ⟨fun k => if ob' = some k then 7 else lab k, ⟨(hk sb (by rw [h.l1]; decide) (by rw [h.l1]; decide) (by rw [h.l1]; decide) (by rw [h.l1]; decide)).trans h.bl, (hk hb (by rw [h.l2]; decide) (by rw [h.l2]; decide) (by rw [h.l2]; decide) (by rw [h.l2]; decide)).trans h.bH, (hk wb (by rw [h.l3]; decide) (by rw [h.l3]; decide) (by rw [h.l3]; decide) (by rw [h.l3]; decide)).trans h.bW, a, h.lv, h.lh, h.lc, fun i v hv => (h.ch i v hv).keepO (fun g hg => hk g (by rw [h.l8 i v g hv hg]; omega) (by rw [h.l8 i v g hv hg]; omega) (by rw [h.l8 i v g hv hg]; omega) (by rw [h.l8 i v g hv hg]; omega)), ownsMap_keep h.mp (hk mb (by rw [h.l4]; decide) (by rw [h.l4]; decide) (by rw [h.l4]; decide) (by rw [h.l4]; decide)), ?_, ?_, ?_, ?_, ?_, ?_, ?_, ?_, ?_, h.wW⟩, ?_⟩
  · rw [hlab sb (h.lt sb (by rw [h.l1]; decide))]; exact h.l1
  · rw [hlab hb (h.lt hb (by rw [h.l2]; decide))]; exact h.l2
  · rw [hlab wb (h.lt wb (by rw [h.l3]; decide))]; exact h.l3
  · rw [hlab mb (h.lt mb (by rw [h.l4]; decide))]; exact h.l4
  · rw [hlab ab (h.lt ab (by rw [h.l5]; decide))]; exact h.l5
  · rw [hlab ub (h.lt ub (by rw [h.l6]; decide))]; exact h.l6
  · intro g hg; rw [if_pos hg]
  · intro i v g hv hg
    rw [hlab g (h.lt g (by rw [h.l8 i v g hv hg]; omega))]
    exact h.l8 i v g hv hg
  · intro k hk'
    split at hk'
    · rename_i q; exact a.lt.2.2 k q
    · exact Nat.lt_of_lt_of_le (h.lt k hk') c.size
  · refine ⟨hlab, c.mono (fun k hk' => ?_)⟩
    rcases hk' with rfl | rfl | q
    · rw [h.l5]; decide
    · rw [h.l6]; decide
    · rw [h.l7 k q]; decide
/-- the versions are written -/
theorem SM.held (h : SM w lab sb ab ub hb wb mb ob R W n L H C cv D) (H' : Ch2) (hl : H'.length = R) (hw : w'.heap[hb]? = some (.cells (prs H') 62)) (ho : ∀ k, k ≠ hb → w'.heap[k]? = w.heap[k]?) (hs : w'.heap.size = w.heap.size) (h1 : w'.os = w.os) (h2 : w'.tape = w.tape) (h3 : w'.output = w.output) :
    SM w' lab sb ab ub hb wb mb ob R W n L H' C cv D ∧ LabQ lab lab w w' := by
  have hk : ∀ k, lab k ≠ 2 → w'.heap[k]? = w.heap[k]? := fun k hk => ho k (fun e => hk (e ▸ h.l2))
  refine ⟨⟨(hk sb (by rw [h.l1]; decide)).trans h.bl, hw, (hk wb (by rw [h.l3]; decide)).trans h.bW, h.ar.keep (hk ab (by rw [h.l5]; decide)) (hk ub (by rw [h.l6]; decide)) (fun g hg => hk g (by rw [h.l7 g hg]; decide)), h.lv, hl, h.lc, fun i v hv => (h.ch i v hv).keepO (fun g hg => hk g (by rw [h.l8 i v g hv hg]; omega)), ownsMap_keep h.mp (hk mb (by rw [h.l4]; decide)), h.l1, h.l2, h.l3, h.l4, h.l5, h.l6, h.l7, h.l8, fun k hk' => by rw [hs]; exact h.lt k hk', h.wW⟩, fun _ _ => rfl, ⟨h1, h2, h3, Nat.le_of_eq hs.symm, fun k _ hn => ho k (fun e => hn (by rw [e, h.l2]; decide))⟩⟩
/-- a word's chain is another one -/
theorem SM.row (h : SM w lab sb ab ub hb wb mb ob R W n L H C cv D) {i : Nat} (hi : i < W) {v v' : Value} (hv : cv[i]? = some v) {c' : List Nat} {w4 : World} (g4 : w.grownBy w4 v.ownBlock) (hz : IZ w4 0 v' (cs c')) (ho : v'.ownBlock = v.ownBlock ∨ ∃ g, v'.ownBlock = some g ∧ w.heap.size ≤ g) :
    ∃ lab', SM (w4.setCell ⟨wb, i, none⟩ v') lab' sb ab ub hb wb mb ob R W n L H (C.set i c') (cv.set i v') D ∧ LabQ lab lab' w (w4.setCell ⟨wb, i, none⟩ v') := by
  have hiC : i < C.length := by rw [h.lc]; exact hi
  have hic : i < cv.length := by rw [h.lv]; exact hi
  have hwb : wb < w.heap.size := h.lt wb (by rw [h.l3]; decide)
  have hk4 : ∀ k, lab k ≠ 0 → lab k ≠ 8 + i → w4.heap[k]? = w.heap[k]? := fun k h0 h1 => g4.block k (h.lt k h0) (fun e => h1 (h.l8 i v k hv e.symm))
  have hk : ∀ k, lab k ≠ 0 → lab k ≠ 8 + i → lab k ≠ 3 → (w4.setCell ⟨wb, i, none⟩ v').heap[k]? = w.heap[k]? := fun k h0 h1 h2 => (Below.heap_setCell _ _ _ _ (by show k ≠ wb; exact fun e => h2 (e ▸ h.l3))).trans (hk4 k h0 h1)
  have hsz : (w4.setCell ⟨wb, i, none⟩ v').heap.size = w4.heap.size := by simp [World.setCell]
  have hown : ∀ g, v'.ownBlock = some g → g < w.heap.size → lab g = 8 + i := fun g hg hl => by
    rcases ho with e | ⟨g', e, hl'⟩
    · exact h.l8 i v g hv (e ▸ hg)
    · rw [e] at hg; injection hg with hg; omega
  have hlab : ∀ k, k < w.heap.size → (if v'.ownBlock = some k then 8 + i else lab k) = lab k := fun k hk => by
    split
    · rename_i q; exact (hown k q hk).symm
    · rfl
  have hvw : v'.ownBlock ≠ some wb := fun e => by have := hown wb e hwb; rw [h.l3] at this; omega
  refine ⟨fun k => if v'.ownBlock = some k then 8 + i else lab k, ⟨(hk sb (by rw [h.l1]; decide) (by rw [h.l1]; omega) (by rw [h.l1]; decide)).trans h.bl, (hk hb (by rw [h.l2]; decide) (by rw [h.l2]; omega) (by rw [h.l2]; decide)).trans h.bH, ?_, h.ar.keep (hk ab (by rw [h.l5]; decide) (by rw [h.l5]; omega) (by rw [h.l5]; decide)) (hk ub (by rw [h.l6]; decide) (by rw [h.l6]; omega) (by rw [h.l6]; decide)) (fun g hg => hk g (by rw [h.l7 g hg]; decide) (by rw [h.l7 g hg]; omega) (by rw [h.l7 g hg]; decide)), by rw [List.length_set]; exact h.lv, h.lh, by rw [List.length_set]; exact h.lc, ?_, ownsMap_keep h.mp (hk mb (by rw [h.l4]; decide) (by rw [h.l4]; omega) (by rw [h.l4]; decide)), ?_, ?_, ?_, ?_, ?_, ?_, ?_, ?_, ?_, h.wW⟩, ?_⟩
  · rw [heap_setCell_same w4 wb i _ 22 _ ((hk4 wb (by rw [h.l3]; decide) (by rw [h.l3]; omega)).trans h.bW)]
    congr 2
    apply Array.toList_inj.1
    simp
  · intro j u hu
    rw [cc_set _ _ _ hiC]
    split
    · rename_i e
      subst e
      rw [List.getElem?_set_self hic] at hu
      injection hu with hu
      subst hu
      exact hz.keepO (fun g hg => Below.heap_setCell _ _ _ _ (by show g ≠ wb; exact fun e => hvw (e ▸ hg)))
    · rename_i e
      rw [List.getElem?_set_ne (fun q => e q.symm)] at hu
      exact (h.ch j u hu).keepO (fun g hg => hk g (by rw [h.l8 j u g hu hg]; omega) (by rw [h.l8 j u g hu hg]; omega) (by rw [h.l8 j u g hu hg]; omega))
  · rw [hlab sb (h.lt sb (by rw [h.l1]; decide))]; exact h.l1
  · rw [hlab hb (h.lt hb (by rw [h.l2]; decide))]; exact h.l2
  · rw [hlab wb (h.lt wb (by rw [h.l3]; decide))]; exact h.l3
  · rw [hlab mb (h.lt mb (by rw [h.l4]; decide))]; exact h.l4
  · rw [hlab ab (h.lt ab (by rw [h.l5]; decide))]; exact h.l5
  · rw [hlab ub (h.lt ub (by rw [h.l6]; decide))]; exact h.l6
  · intro g hg
    rw [hlab g (h.lt g (by rw [h.l7 g hg]; decide))]; exact h.l7 g hg
  · intro j u g hu hg
    by_cases e : j = i
    · subst e
      rw [List.getElem?_set_self hic] at hu
      injection hu with hu
      subst hu
      rw [if_pos hg]
    · rw [List.getElem?_set_ne (fun q => e q.symm)] at hu
      rw [hlab g (h.lt g (by rw [h.l8 j u g hu hg]; omega))]
      exact h.l8 j u g hu hg
  · intro k hk'
    rw [hsz]
    split at hk'
    · rename_i q; exact (hz.own q).2
    · exact Nat.lt_of_lt_of_le (h.lt k hk') g4.size
  · refine ⟨hlab, ⟨g4.os, g4.tape, g4.output, by rw [hsz]; exact g4.size, fun k hk' hn => ?_⟩⟩
    have h0 : lab k = 0 := Decidable.byContradiction hn
    rw [Below.heap_setCell _ _ _ _ (by show k ≠ wb; exact fun e => by rw [e, h.l3] at h0; cases h0)]
    exact g4.block k hk' (fun e => by have := h.l8 i v k hv e.symm; omega)
/-- the map is written -/
theorem SM.map (h : SM w lab sb ab ub hb wb mb ob R W n L H C cv D) {n' : Nat} {D' : M1} (g : w.grownBy w' (some mb)) (m : w'.ownsMap Try.prog 3 (plainElem Try.prog 3) mb n' D') : SM w' lab sb ab ub hb wb mb ob R W n' L H C cv D' ∧ LabQ lab lab w w' := by
  have hk : ∀ k, lab k ≠ 0 → lab k ≠ 4 → w'.heap[k]? = w.heap[k]? := fun k h0 h1 => g.block k (h.lt k h0) (fun e => h1 (by injection e with e; rw [e]; exact h.l4))
  refine ⟨⟨(hk sb (by rw [h.l1]; decide) (by rw [h.l1]; decide)).trans h.bl, (hk hb (by rw [h.l2]; decide) (by rw [h.l2]; decide)).trans h.bH, (hk wb (by rw [h.l3]; decide) (by rw [h.l3]; decide)).trans h.bW, h.ar.keep (hk ab (by rw [h.l5]; decide) (by rw [h.l5]; decide)) (hk ub (by rw [h.l6]; decide) (by rw [h.l6]; decide)) (fun g hg => hk g (by rw [h.l7 g hg]; decide) (by rw [h.l7 g hg]; decide)), h.lv, h.lh, h.lc, fun i v hv => (h.ch i v hv).keepO (fun g hg => hk g (by rw [h.l8 i v g hv hg]; omega) (by rw [h.l8 i v g hv hg]; omega)), m, h.l1, h.l2, h.l3, h.l4, h.l5, h.l6, h.l7, h.l8, fun k hk' => Nat.lt_of_lt_of_le (h.lt k hk') g.size, h.wW⟩, fun _ _ => rfl, ⟨g.os, g.tape, g.output, g.size, fun k hk' hn => g.block k hk' (fun e => hn (by injection e with e; rw [e, h.l4]; decide))⟩⟩
theorem SM.c0 (h : SM w lab sb ab ub hb wb mb ob R W n L H C cv D) : w.cell? ⟨sb, 0, none⟩ = some (.pointer (some ⟨ab, 0, none⟩)) := by rw [cell_of_row w sb 0 _ _ _ h.bl]; rfl
theorem SM.c1 (h : SM w lab sb ab ub hb wb mb ob R W n L H C cv D) : w.cell? ⟨sb, 1, none⟩ = some (.slice (some ⟨hb, 0, none⟩) R R) := by rw [cell_of_row w sb 1 _ _ _ h.bl]; rfl
theorem SM.c2 (h : SM w lab sb ab ub hb wb mb ob R W n L H C cv D) : w.cell? ⟨sb, 2, none⟩ = some (.slice (some ⟨wb, 0, none⟩) W W) := by rw [cell_of_row w sb 2 _ _ _ h.bl]; rfl
theorem SM.c3 (h : SM w lab sb ab ub hb wb mb ob R W n L H C cv D) : w.cell? ⟨sb, 3, none⟩ = some (.map (some mb)) := by rw [cell_of_row w sb 3 _ _ _ h.bl]; rfl
theorem SM.cH (h : SM w lab sb ab ub hb wb mb ob R W n L H C cv D) (i : Nat) (hi : i < R) : ∃ a v : Int, w.cell? ⟨hb, i * 2, none⟩ = some (.int .i64 a) ∧ w.cell? ⟨hb, i * 2 + 1, none⟩ = some (.int .i64 v) := by
  have hl : i < H.length := by rw [h.lh]; exact hi
  refine ⟨H[i].1, H[i].2, ?_, ?_⟩
  · rw [cell_of_row w hb _ _ _ _ h.bH, Nat.mul_comm]
    unfold prs
    rw [List.getElem?_toArray]
    exact prs_get H i hl 0 (by omega)
  · rw [cell_of_row w hb _ _ _ _ h.bH, Nat.mul_comm]
    unfold prs
    rw [List.getElem?_toArray]
    exact prs_get H i hl 1 (by omega)
theorem SM.fH (h : SM w lab sb ab ub hb wb mb ob R W n L H C cv D) (j : Nat) : w.frozen? ⟨hb, j, none⟩ = false := frozen_of_row w hb j _ _ h.bH
theorem SM.fW (h : SM w lab sb ab ub hb wb mb ob R W n L H C cv D) (j : Nat) : w.frozen? ⟨wb, j, none⟩ = false := frozen_of_row w wb j _ _ h.bW
theorem SM.cW (h : SM w lab sb ab ub hb wb mb ob R W n L H C cv D) (i : Nat) (hi : i < W) : ∃ v, cv[i]? = some v ∧ w.cell? ⟨wb, i, none⟩ = some v := by
  have hl : i < cv.length := by rw [h.lv]; exact hi
  refine ⟨cv[i], by simp [hl], ?_⟩
  rw [cell_of_row w wb _ _ _ _ h.bW]
  simp [hl]
end
end Go.Proofs.Ytdohclnmcdempaa
