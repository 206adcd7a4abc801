/- A dealer deals: so many of the ages that nobody got. -/
import Derived.Test.YtamlnagipmomgaaC1
namespace Go.Proofs.Ytamlnagipmomgaa
open Go.RowKit Go.Maps
set_option linter.unusedVariables false

theorem put2 {W : World} {g : Nat} {x y a b : Value} (h : W.heap[g]? = some (.cells #[x, y] 53)) : ((W.setCell ⟨g, 0, none⟩ a).setCell ⟨g, 1, none⟩ b).heap[g]? = some (.cells #[a, b] 53) := by
  have e1 := heap_setCell_same W g 0 _ 53 a h
  rw [heap_setCell_same _ g 1 _ 53 b e1]
  rfl
theorem from_bd {many first size : Int} (hm : 0 ≤ many) (hf : 0 ≤ first) (hs : 0 ≤ size) : 0 ≤ (fromP many first size).1 ∧ (fromP many first size).1 ≤ (fromP many first size).2 ∧ (fromP many first size).2 ≤ many := by
  unfold fromP
  split
  · exact ⟨Int.le_refl _, Int.le_refl _, hm⟩
  · split <;> refine ⟨hf, ?_, ?_⟩ <;> simp only [] <;> omega
theorem take_bd {many next size : Int} (hn : 0 ≤ next ∧ next ≤ many) (hs : 0 ≤ size) : 0 ≤ next + ((fromP many next size).2 - (fromP many next size).1) ∧ next + ((fromP many next size).2 - (fromP many next size).1) ≤ many := by
  unfold fromP
  split
  · exact ⟨by simp only []; omega, by simp only []; omega⟩
  · split <;> exact ⟨by simp only []; omega, by simp only []; omega⟩
def SpQ (db tb : Nat) (p size many : Int) (x : Int × Int) (next' : Int) (turns' : List Int) (w : World) (e : Ending) (w' : World) : Prop := e = .returned (sp x) ∧ DL w' db tb p size many next' turns' ∧ Ch (dw db tb) w w'

set_option maxRecDepth 100000 in
set_option maxHeartbeats 2000000 in
theorem take_any {db tb : Nat} {p size many next : Int} {turns : List Int} (sz : Int) (h2 : 0 ≤ sz ∧ sz ≤ 1000000) (w : World) (h : DL w db tb p size many next turns) : Calls Try.prog 34 #[.pointer (some ⟨db, 0, none⟩), .int .i64 sz] w (SpQ db tb p size many (fromP many next sz) (next + ((fromP many next sz).2 - (fromP many next sz).1)) turns w) := by
  have hbd := take_bd h.hn h2.1
  have hfb := from_bd (size := sz) h.hm.1 h.hn.1 h2.1
  have hm := h.hm
  have hn := h.hn
  have HFR : Hid (∀ W, DL W db tb p size many next turns → Calls Try.prog 33 #[.pointer (some ⟨db, 0, none⟩), .int .i64 next, .int .i64 sz] W fun e w' => e = .returned (sp (fromP many next sz)) ∧ Below W.heap.size W w') := fun W hW => from_any next sz ⟨hn.1, by omega⟩ h2 W hW
  obtain ⟨P, hP⟩ : ∃ P, SpQ db tb p size many (fromP many next sz) (next + ((fromP many next sz).2 - (fromP many next sz).1)) turns w = P := ⟨_, rfl⟩
  have HP : Hid (SpQ db tb p size many (fromP many next sz) (next + ((fromP many next sz).2 - (fromP many next sz).1)) turns w = P) := hP
  rw [hP]
  clear hP
  unfold sp at HFR
  generalize fromP many next sz = X at *
  obtain ⟨a, b⟩ := X
  simp only [] at *
  have H : Hid (DL w db tb p size many next turns) := h
  have HL : Hid (db < w.heap.size ∧ tb < w.heap.size) := h.lt
  have hw1 : wrap64 (b - a) = b - a := w64in _ ⟨by omega, by omega⟩
  have hw2 : wrap64 (next + (b - a)) = next + (b - a) := w64in _ ⟨by omega, by omega⟩
  have c3 := fun A => (h.alloc A).c3
  have HB : Hid (0 ≤ next + (b - a) ∧ next + (b - a) ≤ many) := hbd
  clear h hbd hfb hm hn h2
  go_enter Try.func34, Try.ntmps34
  go_wp2_with fail
  refine (HFR.out _ (H.out.alloc _)).mono ?_
  rintro e w4 ⟨rfl, b4⟩
  have D4 : Hid (DL w4 db tb p size many next turns) := (H.out.alloc _).below b4
  have C4 : Hid (Ch (dw db tb) w w4) := (Ch.of (bl1 w _)).trans (Ch.of b4)
  have G4 : Hid (w4.heap[w.heap.size]? = some (.cells #[.int .i64 0, .int .i64 0] 53)) := (b4.block _ (by simp)).trans (heap_alloc_new w _)
  have L4 : Hid (w.heap.size < w4.heap.size) := Nat.lt_of_lt_of_le (by simp) b4.size
  clear b4 c3
  go_wp2_with fail
  have HD5 : Hid (DL (w4.alloc (.cells #[.int .i64 a, .int .i64 b] 53)) db tb p size many next turns) := D4.out.alloc _
  have HC5 : Hid (Ch (dw db tb) w (w4.alloc (.cells #[.int .i64 a, .int .i64 b] 53))) := C4.out.alloc _
  have HG5 : Hid ((w4.alloc (.cells #[.int .i64 a, .int .i64 b] 53)).heap[w.heap.size]? = some (.cells #[.int .i64 0, .int .i64 0] 53)) := (heap_alloc_old _ _ L4.out).trans G4.out
  have HS5 : Hid ((w4.alloc (.cells #[.int .i64 a, .int .i64 b] 53)).heap[w4.heap.size]? = some (.cells #[.int .i64 a, .int .i64 b] 53)) := heap_alloc_new _ _
  generalize (w4.alloc (.cells #[.int .i64 a, .int .i64 b] 53)) = V at *
  have hgs : Hid (w.heap.size ≠ w4.heap.size) := by show _ ≠ _; have := L4.out; omega
  have hds : Hid (db ≠ w4.heap.size ∧ db ≠ w.heap.size ∧ tb ≠ w.heap.size) := by show _ ∧ _ ∧ _; have := L4.out; have := HL.out; omega
  have HLE : Hid (w.heap.size ≤ w.heap.size) := Nat.le_refl _
  obtain ⟨s, hs⟩ : ∃ s, w4.heap.size = s := ⟨_, rfl⟩
  obtain ⟨g, hg⟩ : ∃ g, w.heap.size = g := ⟨_, rfl⟩
  rw [hs] at HS5 hgs hds
  rw [hg] at HG5 hgs hds
  have HGE : Hid (w.heap.size = g) := hg
  rw [hs, hg]
  clear hs hg
  have d3 := HD5.out.c3
  have f3 := HD5.out.f 3
  have e0 : V.cell? ⟨s, 0, none⟩ = some (.int .i64 a) := by rw [cell_of_row V s 0 _ _ _ HS5.out]; rfl
  have e1 : V.cell? ⟨s, 1, none⟩ = some (.int .i64 b) := by rw [cell_of_row V s 1 _ _ _ HS5.out]; rfl
  have g0 : V.cell? ⟨g, 0, none⟩ = some (.int .i64 0) := by rw [cell_of_row V g 0 _ _ _ HG5.out]; rfl
  have g1 : V.cell? ⟨g, 1, none⟩ = some (.int .i64 0) := by rw [cell_of_row V g 1 _ _ _ HG5.out]; rfl
  have gf0 : V.frozen? ⟨g, 0, none⟩ = false := frozen_of_row V g 0 _ _ HG5.out
  have gf1 : V.frozen? ⟨g, 1, none⟩ = false := frozen_of_row V g 1 _ _ HG5.out
  have n1 : ¬ db = g := hds.out.2.1
  have n2 : ¬ g = db := fun q => n1 q.symm
  have n3 : ¬ s = g := fun q => hgs.out q.symm
  have n4 : ¬ db = s := hds.out.1
  have n5 : ¬ s = db := fun q => n4 q.symm
  refine wp_region_still_tail 12 (by kernel_rfl) (by kernel_rfl) ?_
  simp only [List.take_succ_cons, List.take_zero, List.drop_succ_cons, List.drop_zero]
  repeat still_step
  refine wpStill_nil ?_
  go_wp2_with fail
  have hd2 := hds.out
  refine bodyPost_ret (ret_sp Try.results34 _ g rfl _ _ _ (put2 (x := .int .i64 0) (y := .int .i64 0) ((Below.heap_setCell _ _ _ _ (by show g ≠ db; exact n2)).trans HG5.out))) rfl ?_
  rw [← HP.out]
  refine ⟨rfl, (((HD5.out.setN _ HB.out).other hd2.2.1 hd2.2.2 _ _).other hd2.2.1 hd2.2.2 _ _).drew, ?_⟩
  exact (((HC5.out.set (.inl (.inl rfl)) _ _).set (.inr (by rw [HGE.out]; exact Nat.le_refl _)) _ _).set (.inr (by rw [HGE.out]; exact Nat.le_refl _)) _ _).drew
end Go.Proofs.Ytamlnagipmomgaa
