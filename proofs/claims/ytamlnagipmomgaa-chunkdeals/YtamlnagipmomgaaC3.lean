/- A dealer deals: each of the three ways. -/
import Derived.Test.YtamlnagipmomgaaC2
namespace Go.Proofs.Ytamlnagipmomgaa
open Go.RowKit Go.Maps
set_option linter.unusedVariables false

theorem Ch.heap {q : Nat → Prop} {w w' : World} (c : Ch q w w') {g : Nat} {o : Obj} (h : w.heap[g]? = some o) (hg : ¬ q g) : w'.heap[g]? = some o := (c.block g (Array.getElem?_eq_some_iff.1 h).1 hg).trans h
theorem Ch.first {q : Nat → Prop} {w w' : World} {A : Obj} (c : Ch q (w.alloc A) w') : Ch q w w' := (Ch.of (bl1 w A)).trans c

set_option maxRecDepth 100000 in
set_option maxHeartbeats 2000000 in
theorem ages_any {db tb : Nat} {p size many next : Int} {turns : List Int} (wk : Int) (w : World) (h : DL w db tb p size many next turns) : Calls Try.prog 28 #[.pointer (some ⟨db, 0, none⟩), .int .i64 wk] w (SpQ db tb p size many (fromP many next size) (next + ((fromP many next size).2 - (fromP many next size).1)) turns w) := by
  have hs := h.hs
  have HT : Hid (∀ W, DL W db tb p size many next turns → Calls Try.prog 34 #[.pointer (some ⟨db, 0, none⟩), .int .i64 size] W (SpQ db tb p size many (fromP many next size) (next + ((fromP many next size).2 - (fromP many next size).1)) turns W)) := fun W hW => take_any size ⟨by omega, by omega⟩ W hW
  obtain ⟨P, hP⟩ : ∃ P, SpQ db tb p size many (fromP many next size) (next + ((fromP many next size).2 - (fromP many next size).1)) turns w = P := ⟨_, rfl⟩
  have HP : Hid (SpQ db tb p size many (fromP many next size) (next + ((fromP many next size).2 - (fromP many next size).1)) turns w = P) := hP
  rw [hP]
  clear hP
  generalize next + ((fromP many next size).2 - (fromP many next size).1) = nx at *
  generalize fromP many next size = X at *
  obtain ⟨a, b⟩ := X
  have H : Hid (DL w db tb p size many next turns) := h
  have HL : Hid (db < w.heap.size ∧ tb < w.heap.size) := h.lt
  have c1 := fun A => (h.alloc A).c1
  clear h hs
  go_enter Try.func28, Try.ntmps28
  go_wp2_with fail
  refine (HT.out _ (H.out.alloc _)).mono ?_
  rintro e w4 ⟨rfl, D, C⟩
  have D4 : Hid (DL w4 db tb p size many nx turns) := D
  have C4 : Hid (Ch (dw db tb) w w4) := C.first
  have G4 : Hid (w4.heap[w.heap.size]? = some (.cells #[.int .i64 0, .int .i64 0] 53)) := C.heap (heap_alloc_new w _) (by unfold dw; have := HL.out; omega)
  clear D C c1
  obtain ⟨g, hg⟩ : ∃ g, w.heap.size = g := ⟨_, rfl⟩
  have HGE : Hid (w.heap.size = g) := hg
  rw [hg] at G4
  rw [hg]
  clear hg
  have g0 : w4.cell? ⟨g, 0, none⟩ = some (.int .i64 0) := by rw [cell_of_row w4 g 0 _ _ _ G4.out]; rfl
  have g1 : w4.cell? ⟨g, 1, none⟩ = some (.int .i64 0) := by rw [cell_of_row w4 g 1 _ _ _ G4.out]; rfl
  have gf0 : w4.frozen? ⟨g, 0, none⟩ = false := frozen_of_row w4 g 0 _ _ G4.out
  have gf1 : w4.frozen? ⟨g, 1, none⟩ = false := frozen_of_row w4 g 1 _ _ G4.out
  unfold sp
  go_wp2_with fail
  refine bodyPost_ret (ret_sp Try.results28 _ g rfl _ _ _ (put2 (x := .int .i64 0) (y := .int .i64 0) G4.out)) rfl ?_
  rw [← HP.out]
  have hl := HL.out
  rw [HGE.out] at hl
  refine ⟨rfl, (D4.out.other (by omega) (by omega) _ _).other (by omega) (by omega) _ _, ?_⟩
  exact (C4.out.set (.inr (by rw [HGE.out]; exact Nat.le_refl _)) _ _).set (.inr (by rw [HGE.out]; exact Nat.le_refl _)) _ _

def shareI (many next : Int) (W : Nat) : Int := (many - next + 2 * (W : Int) - 1) / (2 * (W : Int))
def guideI (size many next : Int) (W : Nat) : Int := if size < shareI many next W then shareI many next W else size
theorem share_bd (many next : Int) (W : Nat) (h1 : 1 ≤ W ∧ W ≤ 8) (hm : 0 ≤ many ∧ many ≤ 200) (hn : 0 ≤ next ∧ next ≤ many) : 0 ≤ shareI many next W ∧ shareI many next W ≤ 1000 := by
  unfold shareI
  have h := Int.ediv_nonneg (a := many - next + 2 * (W : Int) - 1) (b := 2 * (W : Int)) (by omega) (by omega)
  have := Int.ediv_le_self (2 * (W : Int)) (show 0 ≤ many - next + 2 * (W : Int) - 1 by omega)
  omega
set_option maxRecDepth 100000 in
set_option maxHeartbeats 2000000 in
theorem share_any {db tb : Nat} {p size many next : Int} {turns : List Int} (wk : Int) (w : World) (h : DL w db tb p size many next turns) : Calls Try.prog 29 #[.pointer (some ⟨db, 0, none⟩), .int .i64 wk] w (SpQ db tb p size many (fromP many next (guideI size many next turns.length)) (next + ((fromP many next (guideI size many next turns.length)).2 - (fromP many next (guideI size many next turns.length)).1)) turns w) := by
  have hs := h.hs
  have hm := h.hm
  have hn := h.hn
  have hl := h.hl
  have hsb := share_bd many next turns.length hl hm hn
  have HT : Hid (∀ W, DL W db tb p size many next turns → Calls Try.prog 34 #[.pointer (some ⟨db, 0, none⟩), .int .i64 (guideI size many next turns.length)] W (SpQ db tb p size many (fromP many next (guideI size many next turns.length)) (next + ((fromP many next (guideI size many next turns.length)).2 - (fromP many next (guideI size many next turns.length)).1)) turns W)) := fun W hW => take_any _ (by unfold guideI; split <;> omega) W hW
  obtain ⟨P, hP⟩ : ∃ P, SpQ db tb p size many (fromP many next (guideI size many next turns.length)) (next + ((fromP many next (guideI size many next turns.length)).2 - (fromP many next (guideI size many next turns.length)).1)) turns w = P := ⟨_, rfl⟩
  have HP := hP
  have HP : Hid (SpQ db tb p size many (fromP many next (guideI size many next turns.length)) (next + ((fromP many next (guideI size many next turns.length)).2 - (fromP many next (guideI size many next turns.length)).1)) turns w = P) := hP
  rw [hP]
  clear hP
  generalize next + ((fromP many next (guideI size many next turns.length)).2 - (fromP many next (guideI size many next turns.length)).1) = nx at *
  generalize fromP many next (guideI size many next turns.length) = X at *
  obtain ⟨a, b⟩ := X
  have H : Hid (DL w db tb p size many next turns) := h
  have HL : Hid (db < w.heap.size ∧ tb < w.heap.size) := h.lt
  have c1 := fun A => (h.alloc A).c1
  have c2 := fun A => (h.alloc A).c2
  have c3 := fun A => (h.alloc A).c3
  have c4 := fun A => (h.alloc A).c4
  obtain ⟨W, hW⟩ : ∃ W, turns.length = W := ⟨_, rfl⟩
  rw [hW] at c4 hl HT hsb
  have k1 : wrap64 (2 * (W : Int)) = 2 * (W : Int) := w64in _ ⟨by omega, by omega⟩
  have k2 : wrap64 (many - next) = many - next := w64in _ ⟨by omega, by omega⟩
  have k3 : wrap64 (many - next + 2 * (W : Int)) = many - next + 2 * (W : Int) := w64in _ ⟨by omega, by omega⟩
  have k4 : wrap64 (many - next + 2 * (W : Int) - 1) = many - next + 2 * (W : Int) - 1 := w64in _ ⟨by omega, by omega⟩
  have k5 : 2 * (W : Int) ≠ 0 := by omega
  have k6 : Int.tdiv (many - next + 2 * (W : Int) - 1) (2 * (W : Int)) = shareI many next W := by rw [Int.tdiv_eq_ediv_of_nonneg (by omega)]; rfl
  have k7 : wrap64 (shareI many next W) = shareI many next W := w64in _ ⟨by omega, by omega⟩
  clear h
  by_cases q : size < shareI many next W
  · rw [show guideI size many next W = shareI many next W by unfold guideI; rw [if_pos q]] at HT
    go_enter Try.func29, Try.ntmps29
    go_wp2_with fail
    go_quiet (fail)
    go_wp2_with fail
    refine (HT.out _ ((H.out.alloc _).drewN _)).mono ?_
    rintro e w4 ⟨rfl, D, C0⟩
    have C : Ch (dw db tb) (w.alloc (.cells #[.int .i64 0, .int .i64 0] 53)) w4 := ⟨C0.os, C0.tape, C0.output, C0.size, C0.block⟩
    have D4 : Hid (DL w4 db tb p size many nx turns) := D
    have C4 : Hid (Ch (dw db tb) w w4) := C.first
    have G4 : Hid (w4.heap[w.heap.size]? = some (.cells #[.int .i64 0, .int .i64 0] 53)) := C.heap (heap_alloc_new w _) (by unfold dw; have := HL.out; omega)
    clear D C C0 c1 c2 c3 c4 k1 k2 k3 k4 k5 k6 k7
    obtain ⟨g, hg⟩ : ∃ g, w.heap.size = g := ⟨_, rfl⟩
    have HGE : Hid (w.heap.size = g) := hg
    rw [hg] at G4
    rw [hg]
    clear hg
    have g0 : w4.cell? ⟨g, 0, none⟩ = some (.int .i64 0) := by rw [cell_of_row w4 g 0 _ _ _ G4.out]; rfl
    have g1 : w4.cell? ⟨g, 1, none⟩ = some (.int .i64 0) := by rw [cell_of_row w4 g 1 _ _ _ G4.out]; rfl
    have gf0 : w4.frozen? ⟨g, 0, none⟩ = false := frozen_of_row w4 g 0 _ _ G4.out
    have gf1 : w4.frozen? ⟨g, 1, none⟩ = false := frozen_of_row w4 g 1 _ _ G4.out
    unfold sp
    go_wp2_with fail
    refine bodyPost_ret (ret_sp Try.results29 _ g rfl _ _ _ (put2 (x := .int .i64 0) (y := .int .i64 0) G4.out)) rfl ?_
    rw [← HP.out]
    have hl := HL.out
    rw [HGE.out] at hl
    refine ⟨rfl, (D4.out.other (by omega) (by omega) _ _).other (by omega) (by omega) _ _, ?_⟩
    exact (C4.out.set (.inr (by rw [HGE.out]; exact Nat.le_refl _)) _ _).set (.inr (by rw [HGE.out]; exact Nat.le_refl _)) _ _
  · rw [show guideI size many next W = size by unfold guideI; rw [if_neg q]] at HT
    have q2 : shareI many next W ≤ size := by omega
    go_enter Try.func29, Try.ntmps29
    go_wp2_with fail
    go_quiet (fail)
    go_wp2_with fail
    refine (HT.out _ ((H.out.alloc _).drewN _)).mono ?_
    rintro e w4 ⟨rfl, D, C0⟩
    have C : Ch (dw db tb) (w.alloc (.cells #[.int .i64 0, .int .i64 0] 53)) w4 := ⟨C0.os, C0.tape, C0.output, C0.size, C0.block⟩
    have D4 : Hid (DL w4 db tb p size many nx turns) := D
    have C4 : Hid (Ch (dw db tb) w w4) := C.first
    have G4 : Hid (w4.heap[w.heap.size]? = some (.cells #[.int .i64 0, .int .i64 0] 53)) := C.heap (heap_alloc_new w _) (by unfold dw; have := HL.out; omega)
    clear D C C0 c1 c2 c3 c4 k1 k2 k3 k4 k5 k6 k7
    obtain ⟨g, hg⟩ : ∃ g, w.heap.size = g := ⟨_, rfl⟩
    have HGE : Hid (w.heap.size = g) := hg
    rw [hg] at G4
    rw [hg]
    clear hg
    have g0 : w4.cell? ⟨g, 0, none⟩ = some (.int .i64 0) := by rw [cell_of_row w4 g 0 _ _ _ G4.out]; rfl
    have g1 : w4.cell? ⟨g, 1, none⟩ = some (.int .i64 0) := by rw [cell_of_row w4 g 1 _ _ _ G4.out]; rfl
    have gf0 : w4.frozen? ⟨g, 0, none⟩ = false := frozen_of_row w4 g 0 _ _ G4.out
    have gf1 : w4.frozen? ⟨g, 1, none⟩ = false := frozen_of_row w4 g 1 _ _ G4.out
    unfold sp
    go_wp2_with fail
    refine bodyPost_ret (ret_sp Try.results29 _ g rfl _ _ _ (put2 (x := .int .i64 0) (y := .int .i64 0) G4.out)) rfl ?_
    rw [← HP.out]
    have hl := HL.out
    rw [HGE.out] at hl
    refine ⟨rfl, (D4.out.other (by omega) (by omega) _ _).other (by omega) (by omega) _ _, ?_⟩
    exact (C4.out.set (.inr (by rw [HGE.out]; exact Nat.le_refl _)) _ _).set (.inr (by rw [HGE.out]; exact Nat.le_refl _)) _ _
end Go.Proofs.Ytamlnagipmomgaa
