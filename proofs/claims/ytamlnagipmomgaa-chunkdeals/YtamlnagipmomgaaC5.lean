/- A dealer is asked. -/
import Derived.Test.YtamlnagipmomgaaC4
import Derived.Laws.ResultCell
namespace Go.Proofs.Ytamlnagipmomgaa
open Go.RowKit Go.Maps
set_option linter.unusedVariables false

def spanD (p size many next : Int) (turns : List Int) (k : Nat) : Int × Int := if p = 1 then fromP many (ownI size turns.length k (turns[k]?.getD 0)) size else if p = 2 then fromP many next size else fromP many next (guideI size many next turns.length)
def nextD (p size many next : Int) (turns : List Int) (k : Nat) : Int := if p = 1 then next else next + ((spanD p size many next turns k).2 - (spanD p size many next turns k).1)
def turnsD (p size many next : Int) (turns : List Int) (k : Nat) : List Int := if p = 1 then (if (spanD p size many next turns k).1 < (spanD p size many next turns k).2 then turns.set k (turns[k]?.getD 0 + 1) else turns) else turns
def askX (p size many next : Int) (turns : List Int) (wk : Int) : Int × Int := if 0 ≤ wk ∧ wk < turns.length then spanD p size many next turns wk.toNat else (0, 0)
def askN (p size many next : Int) (turns : List Int) (wk : Int) : Int := if 0 ≤ wk ∧ wk < turns.length then nextD p size many next turns wk.toNat else next
def askT (p size many next : Int) (turns : List Int) (wk : Int) : List Int := if 0 ≤ wk ∧ wk < turns.length then turnsD p size many next turns wk.toNat else turns
def fnD (p : Int) : Nat := if p = 1 then 27 else if p = 2 then 28 else 29
theorem deal_any {db tb : Nat} {p size many next : Int} {turns : List Int} (k : Nat) (hk : k < turns.length) (w : World) (h : DL w db tb p size many next turns) : Calls Try.prog (fnD p) #[.pointer (some ⟨db, 0, none⟩), .int .i64 (k : Int)] w (SpQ db tb p size many (spanD p size many next turns k) (nextD p size many next turns k) (turnsD p size many next turns k) w) := by
  have e : turns[k]?.getD 0 = turns[k] := by simp [hk]
  rcases h.hp with rfl | rfl | rfl
  · have := own_any k hk w h
    unfold nextD turnsD spanD fnD
    rw [e]
    simpa using this
  · have := ages_any (k : Int) w h
    unfold nextD turnsD spanD fnD
    simpa using this
  · have := share_any (k : Int) w h
    unfold nextD turnsD spanD fnD
    simpa using this
theorem ret_sp2 {fn : Func} {q u : Nat} (h : fn.results = #[.cell q 53, .tmp u]) (tmps : Array Value) (g : Nat) (hb : tmps.getD q undef = .pointer (some ⟨g, 0, none⟩)) (W : World) (a b : Value) (hg : W.heap[g]? = some (.cells #[a, b] 53)) :
    (results fn tmps).run Try.prog W = .ok (.tuple #[.agg #[a, b], tmps.getD u undef]) W := by
  rw [results_cell_tmp h, hb]
  simp [asAddr, run_loadVar_row W g 53 53 #[a, b] _ _ hg Try.underlying53 rfl size39]
def AskQ (db tb : Nat) (p size many : Int) (x : Int × Int) (next' : Int) (turns' : List Int) (w : World) (e : Ending) (w' : World) : Prop := e = .returned (.tuple #[sp x, .bool (decide (x.1 < x.2))]) ∧ DL w' db tb p size many next' turns' ∧ Ch (dw db tb) w w'
set_option maxRecDepth 100000 in
set_option maxHeartbeats 2000000 in
theorem next_any {db tb : Nat} {p size many next : Int} {turns : List Int} (wk : Int) (w : World) (h : DL w db tb p size many next turns) : Calls Try.prog 17 #[.pointer (some ⟨db, 0, none⟩), .int .i64 wk] w (AskQ db tb p size many (askX p size many next turns wk) (askN p size many next turns wk) (askT p size many next turns wk) w) := by
  have H : Hid (DL w db tb p size many next turns) := h
  have HL : Hid (db < w.heap.size ∧ tb < w.heap.size) := h.lt
  have c4 := fun A => (h.alloc A).c4
  have c0 := fun A => (h.alloc A).c0
  obtain ⟨W, hW⟩ : ∃ W, turns.length = W := ⟨_, rfl⟩
  have HWE : Hid (turns.length = W) := hW
  have hlW := h.hl
  rw [hW] at c4 hlW
  have G0 : Hid ((w.alloc (.cells #[.int .i64 0, .int .i64 0] 53)).heap[w.heap.size]? = some (.cells #[.int .i64 0, .int .i64 0] 53)) := heap_alloc_new _ _
  by_cases hin : 0 ≤ wk ∧ wk < turns.length
  · obtain ⟨k, rfl⟩ : ∃ k : Nat, wk = (k : Int) := ⟨wk.toNat, by omega⟩
    have hk : k < turns.length := by omega
    have HD : Hid (∀ V, DL V db tb p size many next turns → Calls Try.prog (fnD p) #[.pointer (some ⟨db, 0, none⟩), .int .i64 (k : Int)] V (SpQ db tb p size many (spanD p size many next turns k) (nextD p size many next turns k) (turnsD p size many next turns k) V)) := fun V hV => deal_any k hk V hV
    rw [show askX p size many next turns (k : Int) = spanD p size many next turns k by unfold askX; rw [if_pos hin]; simp, show askN p size many next turns (k : Int) = nextD p size many next turns k by unfold askN; rw [if_pos hin]; simp, show askT p size many next turns (k : Int) = turnsD p size many next turns k by unfold askT; rw [if_pos hin]; simp]
    obtain ⟨P, hP⟩ : ∃ P, AskQ db tb p size many (spanD p size many next turns k) (nextD p size many next turns k) (turnsD p size many next turns k) w = P := ⟨_, rfl⟩
    have HP : Hid (AskQ db tb p size many (spanD p size many next turns k) (nextD p size many next turns k) (turnsD p size many next turns k) w = P) := hP
    rw [hP]
    generalize spanD p size many next turns k = X at *
    generalize nextD p size many next turns k = nx at *
    generalize turnsD p size many next turns k = tx at *
    obtain ⟨a, b⟩ := X
    have e1 : decide ((k : Int) < 0) = false := by simp
    have e2 : decide (W ≤ k) = false := by simp; omega
    have hp := h.hp
    clear h hP hW hin hk
    rcases hp with rfl | rfl | rfl
    · unfold wayF fnD at *
      simp only [if_true] at c0 HD
      go_enter Try.func17, Try.ntmps17
      go_wp2_with fail
      refine (HD.out _ (H.out.alloc _)).mono ?_
      rintro e w4 ⟨rfl, D, C⟩
      have D4 : Hid (DL w4 db tb _ size many nx tx) := D
      have C4 : Hid (Ch (dw db tb) w w4) := C.first
      have G4 : Hid (w4.heap[w.heap.size]? = some (.cells #[.int .i64 0, .int .i64 0] 53)) := C.heap (heap_alloc_new w _) (by unfold dw; have := HL.out; omega)
      clear D C c0 c4
      unfold sp
      go_wp2_with fail
      have L4 : Hid (w.heap.size < w4.heap.size) := (Array.getElem?_eq_some_iff.1 G4.out).1
      have D5 : Hid (DL (w4.alloc (.cells #[.int .i64 a, .int .i64 b] 53)) db tb _ size many nx tx) := D4.out.alloc _
      have C5 : Hid (Ch (dw db tb) w (w4.alloc (.cells #[.int .i64 a, .int .i64 b] 53))) := C4.out.alloc _
      have G5 : Hid ((w4.alloc (.cells #[.int .i64 a, .int .i64 b] 53)).heap[w.heap.size]? = some (.cells #[.int .i64 0, .int .i64 0] 53)) := (heap_alloc_old _ _ L4.out).trans G4.out
      have S5 : Hid ((w4.alloc (.cells #[.int .i64 a, .int .i64 b] 53)).heap[w4.heap.size]? = some (.cells #[.int .i64 a, .int .i64 b] 53)) := heap_alloc_new _ _
      generalize (w4.alloc (.cells #[.int .i64 a, .int .i64 b] 53)) = V at *
      obtain ⟨s, hs⟩ : ∃ s, w4.heap.size = s := ⟨_, rfl⟩
      obtain ⟨g, hg⟩ : ∃ g, w.heap.size = g := ⟨_, rfl⟩
      rw [hs] at S5 L4
      rw [hg] at G5 L4 HL
      have HGE : Hid (w.heap.size = g) := hg
      rw [hs, hg]
      clear hs hg
      have s0 : V.cell? ⟨s, 0, none⟩ = some (.int .i64 a) := by rw [cell_of_row V s 0 _ _ _ S5.out]; rfl
      have s1 : V.cell? ⟨s, 1, none⟩ = some (.int .i64 b) := by rw [cell_of_row V s 1 _ _ _ S5.out]; rfl
      have g0 : V.cell? ⟨g, 0, none⟩ = some (.int .i64 0) := by rw [cell_of_row V g 0 _ _ _ G5.out]; rfl
      have g1 : V.cell? ⟨g, 1, none⟩ = some (.int .i64 0) := by rw [cell_of_row V g 1 _ _ _ G5.out]; rfl
      have gf0 : V.frozen? ⟨g, 0, none⟩ = false := frozen_of_row V g 0 _ _ G5.out
      have gf1 : V.frozen? ⟨g, 1, none⟩ = false := frozen_of_row V g 1 _ _ G5.out
      have HKK : Hid (∀ (Y : World) (x y : Value), Y.cell? ⟨s, 0, none⟩ = some (.int .i64 a) ∧ Y.cell? ⟨s, 1, none⟩ = some (.int .i64 b) → ((Y.setCell ⟨g, 0, none⟩ x).setCell ⟨g, 1, none⟩ y).cell? ⟨s, 0, none⟩ = some (.int .i64 a) ∧ ((Y.setCell ⟨g, 0, none⟩ x).setCell ⟨g, 1, none⟩ y).cell? ⟨s, 1, none⟩ = some (.int .i64 b)) := by
        intro Y x y h
        have hsg : s ≠ g := by have := L4.out; omega
        have e : ∀ i, ((Y.setCell ⟨g, 0, none⟩ x).setCell ⟨g, 1, none⟩ y).cell? ⟨s, i, none⟩ = Y.cell? ⟨s, i, none⟩ := fun i => World.cell?_of_block (a := ⟨s, i, none⟩) ((Below.heap_setCell _ _ _ _ hsg).trans (Below.heap_setCell _ _ _ _ hsg))
        rw [e 0, e 1]; exact h
      go_region_held3 (fun w' => w'.cell? ⟨s, 0, none⟩ = some (.int .i64 a) ∧ w'.cell? ⟨s, 1, none⟩ = some (.int .i64 b)) (first | assumption | (refine HKK.out _ _ _ ?_; first | assumption | go_keep) | go_keep) (fail)
      go_wp2_with fail
      refine bodyPost_ret (ret_sp2 Try.results17 _ g rfl _ _ _ (put2 (x := .int .i64 0) (y := .int .i64 0) G5.out)) rfl ?_
      rw [← HP.out]
      have hl := HL.out
      refine ⟨rfl, ((D5.out.other (by omega) (by omega) _ _).other (by omega) (by omega) _ _).drew, ?_⟩
      exact ((C5.out.set (.inr (by rw [HGE.out]; exact Nat.le_refl _)) _ _).set (.inr (by rw [HGE.out]; exact Nat.le_refl _)) _ _).drew
    · unfold wayF fnD at *
      simp only [show ¬ ((2 : Int) = 1) by omega, if_true, if_false] at c0 HD
      go_enter Try.func17, Try.ntmps17
      go_wp2_with fail
      refine (HD.out _ (H.out.alloc _)).mono ?_
      rintro e w4 ⟨rfl, D, C⟩
      have D4 : Hid (DL w4 db tb _ size many nx tx) := D
      have C4 : Hid (Ch (dw db tb) w w4) := C.first
      have G4 : Hid (w4.heap[w.heap.size]? = some (.cells #[.int .i64 0, .int .i64 0] 53)) := C.heap (heap_alloc_new w _) (by unfold dw; have := HL.out; omega)
      clear D C c0 c4
      unfold sp
      go_wp2_with fail
      have L4 : Hid (w.heap.size < w4.heap.size) := (Array.getElem?_eq_some_iff.1 G4.out).1
      have D5 : Hid (DL (w4.alloc (.cells #[.int .i64 a, .int .i64 b] 53)) db tb _ size many nx tx) := D4.out.alloc _
      have C5 : Hid (Ch (dw db tb) w (w4.alloc (.cells #[.int .i64 a, .int .i64 b] 53))) := C4.out.alloc _
      have G5 : Hid ((w4.alloc (.cells #[.int .i64 a, .int .i64 b] 53)).heap[w.heap.size]? = some (.cells #[.int .i64 0, .int .i64 0] 53)) := (heap_alloc_old _ _ L4.out).trans G4.out
      have S5 : Hid ((w4.alloc (.cells #[.int .i64 a, .int .i64 b] 53)).heap[w4.heap.size]? = some (.cells #[.int .i64 a, .int .i64 b] 53)) := heap_alloc_new _ _
      generalize (w4.alloc (.cells #[.int .i64 a, .int .i64 b] 53)) = V at *
      obtain ⟨s, hs⟩ : ∃ s, w4.heap.size = s := ⟨_, rfl⟩
      obtain ⟨g, hg⟩ : ∃ g, w.heap.size = g := ⟨_, rfl⟩
      rw [hs] at S5 L4
      rw [hg] at G5 L4 HL
      have HGE : Hid (w.heap.size = g) := hg
      rw [hs, hg]
      clear hs hg
      have s0 : V.cell? ⟨s, 0, none⟩ = some (.int .i64 a) := by rw [cell_of_row V s 0 _ _ _ S5.out]; rfl
      have s1 : V.cell? ⟨s, 1, none⟩ = some (.int .i64 b) := by rw [cell_of_row V s 1 _ _ _ S5.out]; rfl
      have g0 : V.cell? ⟨g, 0, none⟩ = some (.int .i64 0) := by rw [cell_of_row V g 0 _ _ _ G5.out]; rfl
      have g1 : V.cell? ⟨g, 1, none⟩ = some (.int .i64 0) := by rw [cell_of_row V g 1 _ _ _ G5.out]; rfl
      have gf0 : V.frozen? ⟨g, 0, none⟩ = false := frozen_of_row V g 0 _ _ G5.out
      have gf1 : V.frozen? ⟨g, 1, none⟩ = false := frozen_of_row V g 1 _ _ G5.out
      have HKK : Hid (∀ (Y : World) (x y : Value), Y.cell? ⟨s, 0, none⟩ = some (.int .i64 a) ∧ Y.cell? ⟨s, 1, none⟩ = some (.int .i64 b) → ((Y.setCell ⟨g, 0, none⟩ x).setCell ⟨g, 1, none⟩ y).cell? ⟨s, 0, none⟩ = some (.int .i64 a) ∧ ((Y.setCell ⟨g, 0, none⟩ x).setCell ⟨g, 1, none⟩ y).cell? ⟨s, 1, none⟩ = some (.int .i64 b)) := by
        intro Y x y h
        have hsg : s ≠ g := by have := L4.out; omega
        have e : ∀ i, ((Y.setCell ⟨g, 0, none⟩ x).setCell ⟨g, 1, none⟩ y).cell? ⟨s, i, none⟩ = Y.cell? ⟨s, i, none⟩ := fun i => World.cell?_of_block (a := ⟨s, i, none⟩) ((Below.heap_setCell _ _ _ _ hsg).trans (Below.heap_setCell _ _ _ _ hsg))
        rw [e 0, e 1]; exact h
      go_region_held3 (fun w' => w'.cell? ⟨s, 0, none⟩ = some (.int .i64 a) ∧ w'.cell? ⟨s, 1, none⟩ = some (.int .i64 b)) (first | assumption | (refine HKK.out _ _ _ ?_; first | assumption | go_keep) | go_keep) (fail)
      go_wp2_with fail
      refine bodyPost_ret (ret_sp2 Try.results17 _ g rfl _ _ _ (put2 (x := .int .i64 0) (y := .int .i64 0) G5.out)) rfl ?_
      rw [← HP.out]
      have hl := HL.out
      refine ⟨rfl, ((D5.out.other (by omega) (by omega) _ _).other (by omega) (by omega) _ _).drew, ?_⟩
      exact ((C5.out.set (.inr (by rw [HGE.out]; exact Nat.le_refl _)) _ _).set (.inr (by rw [HGE.out]; exact Nat.le_refl _)) _ _).drew
    · unfold wayF fnD at *
      simp only [show ¬ ((3 : Int) = 1) by omega, show ¬ ((3 : Int) = 2) by omega, if_false] at c0 HD
      go_enter Try.func17, Try.ntmps17
      go_wp2_with fail
      refine (HD.out _ (H.out.alloc _)).mono ?_
      rintro e w4 ⟨rfl, D, C⟩
      have D4 : Hid (DL w4 db tb _ size many nx tx) := D
      have C4 : Hid (Ch (dw db tb) w w4) := C.first
      have G4 : Hid (w4.heap[w.heap.size]? = some (.cells #[.int .i64 0, .int .i64 0] 53)) := C.heap (heap_alloc_new w _) (by unfold dw; have := HL.out; omega)
      clear D C c0 c4
      unfold sp
      go_wp2_with fail
      have L4 : Hid (w.heap.size < w4.heap.size) := (Array.getElem?_eq_some_iff.1 G4.out).1
      have D5 : Hid (DL (w4.alloc (.cells #[.int .i64 a, .int .i64 b] 53)) db tb _ size many nx tx) := D4.out.alloc _
      have C5 : Hid (Ch (dw db tb) w (w4.alloc (.cells #[.int .i64 a, .int .i64 b] 53))) := C4.out.alloc _
      have G5 : Hid ((w4.alloc (.cells #[.int .i64 a, .int .i64 b] 53)).heap[w.heap.size]? = some (.cells #[.int .i64 0, .int .i64 0] 53)) := (heap_alloc_old _ _ L4.out).trans G4.out
      have S5 : Hid ((w4.alloc (.cells #[.int .i64 a, .int .i64 b] 53)).heap[w4.heap.size]? = some (.cells #[.int .i64 a, .int .i64 b] 53)) := heap_alloc_new _ _
      generalize (w4.alloc (.cells #[.int .i64 a, .int .i64 b] 53)) = V at *
      obtain ⟨s, hs⟩ : ∃ s, w4.heap.size = s := ⟨_, rfl⟩
      obtain ⟨g, hg⟩ : ∃ g, w.heap.size = g := ⟨_, rfl⟩
      rw [hs] at S5 L4
      rw [hg] at G5 L4 HL
      have HGE : Hid (w.heap.size = g) := hg
      rw [hs, hg]
      clear hs hg
      have s0 : V.cell? ⟨s, 0, none⟩ = some (.int .i64 a) := by rw [cell_of_row V s 0 _ _ _ S5.out]; rfl
      have s1 : V.cell? ⟨s, 1, none⟩ = some (.int .i64 b) := by rw [cell_of_row V s 1 _ _ _ S5.out]; rfl
      have g0 : V.cell? ⟨g, 0, none⟩ = some (.int .i64 0) := by rw [cell_of_row V g 0 _ _ _ G5.out]; rfl
      have g1 : V.cell? ⟨g, 1, none⟩ = some (.int .i64 0) := by rw [cell_of_row V g 1 _ _ _ G5.out]; rfl
      have gf0 : V.frozen? ⟨g, 0, none⟩ = false := frozen_of_row V g 0 _ _ G5.out
      have gf1 : V.frozen? ⟨g, 1, none⟩ = false := frozen_of_row V g 1 _ _ G5.out
      have HKK : Hid (∀ (Y : World) (x y : Value), Y.cell? ⟨s, 0, none⟩ = some (.int .i64 a) ∧ Y.cell? ⟨s, 1, none⟩ = some (.int .i64 b) → ((Y.setCell ⟨g, 0, none⟩ x).setCell ⟨g, 1, none⟩ y).cell? ⟨s, 0, none⟩ = some (.int .i64 a) ∧ ((Y.setCell ⟨g, 0, none⟩ x).setCell ⟨g, 1, none⟩ y).cell? ⟨s, 1, none⟩ = some (.int .i64 b)) := by
        intro Y x y h
        have hsg : s ≠ g := by have := L4.out; omega
        have e : ∀ i, ((Y.setCell ⟨g, 0, none⟩ x).setCell ⟨g, 1, none⟩ y).cell? ⟨s, i, none⟩ = Y.cell? ⟨s, i, none⟩ := fun i => World.cell?_of_block (a := ⟨s, i, none⟩) ((Below.heap_setCell _ _ _ _ hsg).trans (Below.heap_setCell _ _ _ _ hsg))
        rw [e 0, e 1]; exact h
      go_region_held3 (fun w' => w'.cell? ⟨s, 0, none⟩ = some (.int .i64 a) ∧ w'.cell? ⟨s, 1, none⟩ = some (.int .i64 b)) (first | assumption | (refine HKK.out _ _ _ ?_; first | assumption | go_keep) | go_keep) (fail)
      go_wp2_with fail
      refine bodyPost_ret (ret_sp2 Try.results17 _ g rfl _ _ _ (put2 (x := .int .i64 0) (y := .int .i64 0) G5.out)) rfl ?_
      rw [← HP.out]
      have hl := HL.out
      refine ⟨rfl, ((D5.out.other (by omega) (by omega) _ _).other (by omega) (by omega) _ _).drew, ?_⟩
      exact ((C5.out.set (.inr (by rw [HGE.out]; exact Nat.le_refl _)) _ _).set (.inr (by rw [HGE.out]; exact Nat.le_refl _)) _ _).drew
  · rw [show askX p size many next turns wk = (0, 0) by unfold askX; rw [if_neg hin], show askN p size many next turns wk = next by unfold askN; rw [if_neg hin], show askT p size many next turns wk = turns by unfold askT; rw [if_neg hin]]
    rw [hW] at hin
    have HF : Hid (AskQ db tb p size many (0, 0) next turns w (.returned (.tuple #[.agg #[.int .i64 0, .int .i64 0], .bool false])) (w.alloc (.cells #[.int .i64 0, .int .i64 0] 53))) := ⟨rfl, h.alloc _, Ch.of (bl1 _ _)⟩
    clear h hW
    by_cases q1 : wk < 0
    · clear hin
      go_enter Try.func17, Try.ntmps17
      go_wp2_with fail
      refine bodyPost_ret (ret_sp2 Try.results17 _ w.heap.size rfl _ _ _ (heap_alloc_new w _)) rfl ?_
      exact HF.out
    · have q2 : (W : Int) ≤ wk := by omega
      clear hin
      go_enter Try.func17, Try.ntmps17
      go_wp2_with fail
      refine bodyPost_ret (ret_sp2 Try.results17 _ w.heap.size rfl _ _ _ (heap_alloc_new w _)) rfl ?_
      exact HF.out
end Go.Proofs.Ytamlnagipmomgaa
