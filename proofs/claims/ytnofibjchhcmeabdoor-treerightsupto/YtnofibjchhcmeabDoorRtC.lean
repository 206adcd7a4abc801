/- Has an expression, a statement what its kind says? -/
import Derived.Test.YtnofibjchhcmeabDoorRtB
namespace Go.Proofs.YtnofibjchhcmeabDoor
open Go.RowKit Go.Maps
set_option linter.unusedVariables false
set_option linter.unusedSimpArgs false

def exprTb : Array Value := #[.bool false, .bool false, .int .i64 0, .int .i64 0, .int .i64 0, .bool true, .bool false, .int .i64 0, .int .i64 0, .int .i64 0, .bool false, .bool true, .int .i64 0, .int .i64 0, .int .i64 0, .bool false, .bool false, .int .i64 0, .int .i64 0, .int .i64 1, .bool false, .bool false, .int .i64 19, .int .i64 21, .int .i64 1, .bool false, .bool false, .int .i64 1, .int .i64 18, .int .i64 2]
def stmtTb : Array Value := #[.bool false, .bool false, .bool false, .bool false, .int .i64 0, .bool true, .bool false, .bool false, .bool false, .int .i64 1, .bool true, .bool false, .bool false, .bool false, .int .i64 1, .bool false, .bool false, .bool false, .bool false, .int .i64 2, .bool false, .bool false, .bool false, .bool false, .int .i64 1, .bool false, .bool true, .bool false, .bool false, .int .i64 1, .bool false, .bool false, .bool true, .bool true, .int .i64 1, .bool false, .bool false, .bool true, .bool false, .int .i64 1, .bool false, .bool false, .bool false, .bool false, .int .i64 1, .bool false, .bool false, .bool false, .bool false, .int .i64 0]
/-- the two tables -/
structure TB (w : World) : Prop where
  e : ∃ t fr, w.heap[2]? = some (.cells exprTb t fr)
  s : ∃ t fr, w.heap[1]? = some (.cells stmtTb t fr)
theorem TB.below {w w' : World} (h : TB w) (hb : Below w.heap.size w w') : TB w' := by
  obtain ⟨⟨t, fr, h1⟩, ⟨t', fr', h2⟩⟩ := h
  exact ⟨⟨t, fr, (hb.block 2 (Array.getElem?_eq_some_iff.1 h1).1).trans h1⟩, ⟨t', fr', (hb.block 1 (Array.getElem?_eq_some_iff.1 h2).1).trans h2⟩⟩
def hasE (k : Int) : HasE := if k = 1 then ⟨true, false, 0, 0, 0⟩ else if k = 2 then ⟨false, true, 0, 0, 0⟩ else if k = 3 then ⟨false, false, 0, 0, 1⟩ else if k = 4 then ⟨false, false, 19, 21, 1⟩ else ⟨false, false, 1, 18, 2⟩
def exprOk (k n : Int) (s : ByteArray) (p : Int) (m : Nat) : Bool := decide (1 ≤ k ∧ k ≤ 5) && exprB (hasE k) n s p m

set_option maxRecDepth 100000 in
set_option maxHeartbeats 8000000 in
theorem exprFits_1 (n : Int) (s : ByteArray) (p : Int) (ad : Option Addr) (m cap : Nat) (hm : m ≤ 9223372036854775807) (hs : s.size ≤ maxLen) (w : World) (hT : TB w) : Calls Tryd.prog 49 #[.agg #[.int .i64 1, .int .i64 n, .string s, .int .i64 p, .slice ad m cap]] w (QB w (exprB ⟨true, false, 0, 0, 0⟩ n s p m)) := by
  obtain ⟨⟨ty, fr, hT⟩, _⟩ := hT
  have hlt : 2 < w.heap.size := (Array.getElem?_eq_some_iff.1 hT).1
  have t0 : ∀ A, (w.alloc A).cell? ⟨2, 5, none⟩ = some (.bool true) := fun A => by rw [World.cell?_of_block (a := ⟨2, 5, none⟩) (Below.heap_alloc _ _ _ hlt)]; exact (cell_of_row w 2 5 _ _ _ hT).trans rfl
  have t1 : ∀ A, (w.alloc A).cell? ⟨2, 6, none⟩ = some (.bool false) := fun A => by rw [World.cell?_of_block (a := ⟨2, 6, none⟩) (Below.heap_alloc _ _ _ hlt)]; exact (cell_of_row w 2 6 _ _ _ hT).trans rfl
  have t2 : ∀ A, (w.alloc A).cell? ⟨2, 7, none⟩ = some (.int .i64 0) := fun A => by rw [World.cell?_of_block (a := ⟨2, 7, none⟩) (Below.heap_alloc _ _ _ hlt)]; exact (cell_of_row w 2 7 _ _ _ hT).trans rfl
  have t3 : ∀ A, (w.alloc A).cell? ⟨2, 8, none⟩ = some (.int .i64 0) := fun A => by rw [World.cell?_of_block (a := ⟨2, 8, none⟩) (Below.heap_alloc _ _ _ hlt)]; exact (cell_of_row w 2 8 _ _ _ hT).trans rfl
  have t4 : ∀ A, (w.alloc A).cell? ⟨2, 9, none⟩ = some (.int .i64 0) := fun A => by rw [World.cell?_of_block (a := ⟨2, 9, none⟩) (Below.heap_alloc _ _ _ hlt)]; exact (cell_of_row w 2 9 _ _ _ hT).trans rfl
  have HN : Hid (∀ W, Calls Tryd.prog 48 #[.string s, .bool false] W (QB W (nameF s false))) := fun W => nameFits_any s false hs W
  obtain ⟨res, hres⟩ : ∃ r, exprB ⟨true, false, 0, 0, 0⟩ n s p m = r := ⟨_, rfl⟩
  have HR : Hid (exprB ⟨true, false, 0, 0, 0⟩ n s p m = res) := hres
  rw [hres]
  unfold exprB at HR
  simp only at HR
  obtain ⟨b2, hb2⟩ : ∃ b, nameF s false = b := ⟨_, rfl⟩
  rw [hb2] at HN HR
  clear hres hb2 hT hs
  have HB2 : Hid (Below w.heap.size w ((w.alloc (.cells #[.int .i64 1, .int .i64 n, .string s, .int .i64 p, .slice ad m cap] 42)).alloc (.cells #[.bool true, .bool false, .int .i64 0, .int .i64 0, .int .i64 0] 92))) := ((Below.refl _ _).alloc (Nat.le_refl _) _).alloc (by simp) _
  have HF : Hid (∀ w4, Below ((w.alloc (.cells #[.int .i64 1, .int .i64 n, .string s, .int .i64 p, .slice ad m cap] 42)).alloc (.cells #[.bool true, .bool false, .int .i64 0, .int .i64 0, .int .i64 0] 92)).heap.size ((w.alloc (.cells #[.int .i64 1, .int .i64 n, .string s, .int .i64 p, .slice ad m cap] 42)).alloc (.cells #[.bool true, .bool false, .int .i64 0, .int .i64 0, .int .i64 0] 92)) w4 → w4.heap[w.heap.size]? = some (.cells #[.int .i64 1, .int .i64 n, .string s, .int .i64 p, .slice ad m cap] 42) ∧ w4.heap[w.heap.size + 1]? = some (.cells #[.bool true, .bool false, .int .i64 0, .int .i64 0, .int .i64 0] 92) ∧ Below w.heap.size w w4) := by
    intro w4 hb
    refine ⟨(hb.block _ (by simp; omega)).trans ((Below.heap_alloc _ _ _ (by simp)).trans (heap_alloc_new w _)), (hb.block _ (by simp)).trans ?_, HB2.out.trans (hb.mono (by simp; omega))⟩
    have := heap_alloc_new (w.alloc (.cells #[.int .i64 1, .int .i64 n, .string s, .int .i64 p, .slice ad m cap] 42)) (.cells #[.bool true, .bool false, .int .i64 0, .int .i64 0, .int .i64 0] 92)
    rw [show (w.alloc (.cells #[.int .i64 1, .int .i64 n, .string s, .int .i64 p, .slice ad m cap] 42)).heap.size = w.heap.size + 1 by simp] at this
    exact this
  by_cases c0 : n = 0
  · subst c0
    cases b2
    · go_enter Tryd.func49, Tryd.ntmps49
      go_wp2_with fail
      refine (HN.out _).mono ?_
      rintro e w4 ⟨rfl, hb4⟩
      obtain ⟨f1, f2, f3⟩ := HF.out w4 hb4
      have F3 : Hid (Below w.heap.size w w4) := f3
      have x3 : w4.cell? ⟨w.heap.size, 3, none⟩ = some (.int .i64 p) := (cell_of_row _ _ 3 _ _ _ f1).trans rfl
      have x4 : w4.cell? ⟨w.heap.size, 4, none⟩ = some (.slice ad m cap) := (cell_of_row _ _ 4 _ _ _ f1).trans rfl
      have y2 : w4.cell? ⟨w.heap.size + 1, 2, none⟩ = some (.int .i64 0) := (cell_of_row _ _ 2 _ _ _ f2).trans rfl
      have y3 : w4.cell? ⟨w.heap.size + 1, 3, none⟩ = some (.int .i64 0) := (cell_of_row _ _ 3 _ _ _ f2).trans rfl
      have y4 : w4.cell? ⟨w.heap.size + 1, 4, none⟩ = some (.int .i64 0) := (cell_of_row _ _ 4 _ _ _ f2).trans rfl
      clear hb4 f1 f2 f3
      go_wp2_with fail
      go_ret
      exact ⟨by rw [← HR.out]; simp_all; try (intros; omega), F3.out⟩
    · by_cases d3 : (0 : Int) ≤ p
      · have g3 : decide ((0 : Int) ≤ p) = true := by simpa using d3
        by_cases d4 : p ≤ (0 : Int)
        · have g4 : decide (p ≤ (0 : Int)) = true := by simpa using d4
          by_cases d5 : (m : Int) = 0
          · have g5 : ((m : Int) == 0) = true := by simpa using d5
            go_enter Tryd.func49, Tryd.ntmps49
            go_wp2_with fail
            refine (HN.out _).mono ?_
            rintro e w4 ⟨rfl, hb4⟩
            obtain ⟨f1, f2, f3⟩ := HF.out w4 hb4
            have F3 : Hid (Below w.heap.size w w4) := f3
            have x3 : w4.cell? ⟨w.heap.size, 3, none⟩ = some (.int .i64 p) := (cell_of_row _ _ 3 _ _ _ f1).trans rfl
            have x4 : w4.cell? ⟨w.heap.size, 4, none⟩ = some (.slice ad m cap) := (cell_of_row _ _ 4 _ _ _ f1).trans rfl
            have y2 : w4.cell? ⟨w.heap.size + 1, 2, none⟩ = some (.int .i64 0) := (cell_of_row _ _ 2 _ _ _ f2).trans rfl
            have y3 : w4.cell? ⟨w.heap.size + 1, 3, none⟩ = some (.int .i64 0) := (cell_of_row _ _ 3 _ _ _ f2).trans rfl
            have y4 : w4.cell? ⟨w.heap.size + 1, 4, none⟩ = some (.int .i64 0) := (cell_of_row _ _ 4 _ _ _ f2).trans rfl
            clear hb4 f1 f2 f3
            go_wp2_with fail
            go_ret
            exact ⟨by rw [← HR.out]; simp_all; try (intros; omega), F3.out⟩
          · have g5 : ((m : Int) == 0) = false := by simpa using d5
            go_enter Tryd.func49, Tryd.ntmps49
            go_wp2_with fail
            refine (HN.out _).mono ?_
            rintro e w4 ⟨rfl, hb4⟩
            obtain ⟨f1, f2, f3⟩ := HF.out w4 hb4
            have F3 : Hid (Below w.heap.size w w4) := f3
            have x3 : w4.cell? ⟨w.heap.size, 3, none⟩ = some (.int .i64 p) := (cell_of_row _ _ 3 _ _ _ f1).trans rfl
            have x4 : w4.cell? ⟨w.heap.size, 4, none⟩ = some (.slice ad m cap) := (cell_of_row _ _ 4 _ _ _ f1).trans rfl
            have y2 : w4.cell? ⟨w.heap.size + 1, 2, none⟩ = some (.int .i64 0) := (cell_of_row _ _ 2 _ _ _ f2).trans rfl
            have y3 : w4.cell? ⟨w.heap.size + 1, 3, none⟩ = some (.int .i64 0) := (cell_of_row _ _ 3 _ _ _ f2).trans rfl
            have y4 : w4.cell? ⟨w.heap.size + 1, 4, none⟩ = some (.int .i64 0) := (cell_of_row _ _ 4 _ _ _ f2).trans rfl
            clear hb4 f1 f2 f3
            go_wp2_with fail
            go_ret
            exact ⟨by rw [← HR.out]; simp_all; try (intros; omega), F3.out⟩
        · have g4 : decide (p ≤ (0 : Int)) = false := by simpa using d4
          go_enter Tryd.func49, Tryd.ntmps49
          go_wp2_with fail
          refine (HN.out _).mono ?_
          rintro e w4 ⟨rfl, hb4⟩
          obtain ⟨f1, f2, f3⟩ := HF.out w4 hb4
          have F3 : Hid (Below w.heap.size w w4) := f3
          have x3 : w4.cell? ⟨w.heap.size, 3, none⟩ = some (.int .i64 p) := (cell_of_row _ _ 3 _ _ _ f1).trans rfl
          have x4 : w4.cell? ⟨w.heap.size, 4, none⟩ = some (.slice ad m cap) := (cell_of_row _ _ 4 _ _ _ f1).trans rfl
          have y2 : w4.cell? ⟨w.heap.size + 1, 2, none⟩ = some (.int .i64 0) := (cell_of_row _ _ 2 _ _ _ f2).trans rfl
          have y3 : w4.cell? ⟨w.heap.size + 1, 3, none⟩ = some (.int .i64 0) := (cell_of_row _ _ 3 _ _ _ f2).trans rfl
          have y4 : w4.cell? ⟨w.heap.size + 1, 4, none⟩ = some (.int .i64 0) := (cell_of_row _ _ 4 _ _ _ f2).trans rfl
          clear hb4 f1 f2 f3
          go_wp2_with fail
          go_ret
          exact ⟨by rw [← HR.out]; simp_all; try (intros; omega), F3.out⟩
      · have g3 : decide ((0 : Int) ≤ p) = false := by simpa using d3
        go_enter Tryd.func49, Tryd.ntmps49
        go_wp2_with fail
        refine (HN.out _).mono ?_
        rintro e w4 ⟨rfl, hb4⟩
        obtain ⟨f1, f2, f3⟩ := HF.out w4 hb4
        have F3 : Hid (Below w.heap.size w w4) := f3
        have x3 : w4.cell? ⟨w.heap.size, 3, none⟩ = some (.int .i64 p) := (cell_of_row _ _ 3 _ _ _ f1).trans rfl
        have x4 : w4.cell? ⟨w.heap.size, 4, none⟩ = some (.slice ad m cap) := (cell_of_row _ _ 4 _ _ _ f1).trans rfl
        have y2 : w4.cell? ⟨w.heap.size + 1, 2, none⟩ = some (.int .i64 0) := (cell_of_row _ _ 2 _ _ _ f2).trans rfl
        have y3 : w4.cell? ⟨w.heap.size + 1, 3, none⟩ = some (.int .i64 0) := (cell_of_row _ _ 3 _ _ _ f2).trans rfl
        have y4 : w4.cell? ⟨w.heap.size + 1, 4, none⟩ = some (.int .i64 0) := (cell_of_row _ _ 4 _ _ _ f2).trans rfl
        clear hb4 f1 f2 f3
        go_wp2_with fail
        go_ret
        exact ⟨by rw [← HR.out]; simp_all; try (intros; omega), F3.out⟩
  · have e0 : (n == 0) = false := by simpa using c0
    by_cases c1 : 0 < n
    · have e1 : decide (0 < n) = true := by simpa using c1
      cases b2
      · go_enter Tryd.func49, Tryd.ntmps49
        go_wp2_with fail
        refine (HN.out _).mono ?_
        rintro e w4 ⟨rfl, hb4⟩
        obtain ⟨f1, f2, f3⟩ := HF.out w4 hb4
        have F3 : Hid (Below w.heap.size w w4) := f3
        have x3 : w4.cell? ⟨w.heap.size, 3, none⟩ = some (.int .i64 p) := (cell_of_row _ _ 3 _ _ _ f1).trans rfl
        have x4 : w4.cell? ⟨w.heap.size, 4, none⟩ = some (.slice ad m cap) := (cell_of_row _ _ 4 _ _ _ f1).trans rfl
        have y2 : w4.cell? ⟨w.heap.size + 1, 2, none⟩ = some (.int .i64 0) := (cell_of_row _ _ 2 _ _ _ f2).trans rfl
        have y3 : w4.cell? ⟨w.heap.size + 1, 3, none⟩ = some (.int .i64 0) := (cell_of_row _ _ 3 _ _ _ f2).trans rfl
        have y4 : w4.cell? ⟨w.heap.size + 1, 4, none⟩ = some (.int .i64 0) := (cell_of_row _ _ 4 _ _ _ f2).trans rfl
        clear hb4 f1 f2 f3
        go_wp2_with fail
        go_ret
        exact ⟨by rw [← HR.out]; simp_all; try (intros; omega), F3.out⟩
      · by_cases d3 : (0 : Int) ≤ p
        · have g3 : decide ((0 : Int) ≤ p) = true := by simpa using d3
          by_cases d4 : p ≤ (0 : Int)
          · have g4 : decide (p ≤ (0 : Int)) = true := by simpa using d4
            by_cases d5 : (m : Int) = 0
            · have g5 : ((m : Int) == 0) = true := by simpa using d5
              go_enter Tryd.func49, Tryd.ntmps49
              go_wp2_with fail
              refine (HN.out _).mono ?_
              rintro e w4 ⟨rfl, hb4⟩
              obtain ⟨f1, f2, f3⟩ := HF.out w4 hb4
              have F3 : Hid (Below w.heap.size w w4) := f3
              have x3 : w4.cell? ⟨w.heap.size, 3, none⟩ = some (.int .i64 p) := (cell_of_row _ _ 3 _ _ _ f1).trans rfl
              have x4 : w4.cell? ⟨w.heap.size, 4, none⟩ = some (.slice ad m cap) := (cell_of_row _ _ 4 _ _ _ f1).trans rfl
              have y2 : w4.cell? ⟨w.heap.size + 1, 2, none⟩ = some (.int .i64 0) := (cell_of_row _ _ 2 _ _ _ f2).trans rfl
              have y3 : w4.cell? ⟨w.heap.size + 1, 3, none⟩ = some (.int .i64 0) := (cell_of_row _ _ 3 _ _ _ f2).trans rfl
              have y4 : w4.cell? ⟨w.heap.size + 1, 4, none⟩ = some (.int .i64 0) := (cell_of_row _ _ 4 _ _ _ f2).trans rfl
              clear hb4 f1 f2 f3
              go_wp2_with fail
              go_ret
              exact ⟨by rw [← HR.out]; simp_all; try (intros; omega), F3.out⟩
            · have g5 : ((m : Int) == 0) = false := by simpa using d5
              go_enter Tryd.func49, Tryd.ntmps49
              go_wp2_with fail
              refine (HN.out _).mono ?_
              rintro e w4 ⟨rfl, hb4⟩
              obtain ⟨f1, f2, f3⟩ := HF.out w4 hb4
              have F3 : Hid (Below w.heap.size w w4) := f3
              have x3 : w4.cell? ⟨w.heap.size, 3, none⟩ = some (.int .i64 p) := (cell_of_row _ _ 3 _ _ _ f1).trans rfl
              have x4 : w4.cell? ⟨w.heap.size, 4, none⟩ = some (.slice ad m cap) := (cell_of_row _ _ 4 _ _ _ f1).trans rfl
              have y2 : w4.cell? ⟨w.heap.size + 1, 2, none⟩ = some (.int .i64 0) := (cell_of_row _ _ 2 _ _ _ f2).trans rfl
              have y3 : w4.cell? ⟨w.heap.size + 1, 3, none⟩ = some (.int .i64 0) := (cell_of_row _ _ 3 _ _ _ f2).trans rfl
              have y4 : w4.cell? ⟨w.heap.size + 1, 4, none⟩ = some (.int .i64 0) := (cell_of_row _ _ 4 _ _ _ f2).trans rfl
              clear hb4 f1 f2 f3
              go_wp2_with fail
              go_ret
              exact ⟨by rw [← HR.out]; simp_all; try (intros; omega), F3.out⟩
          · have g4 : decide (p ≤ (0 : Int)) = false := by simpa using d4
            go_enter Tryd.func49, Tryd.ntmps49
            go_wp2_with fail
            refine (HN.out _).mono ?_
            rintro e w4 ⟨rfl, hb4⟩
            obtain ⟨f1, f2, f3⟩ := HF.out w4 hb4
            have F3 : Hid (Below w.heap.size w w4) := f3
            have x3 : w4.cell? ⟨w.heap.size, 3, none⟩ = some (.int .i64 p) := (cell_of_row _ _ 3 _ _ _ f1).trans rfl
            have x4 : w4.cell? ⟨w.heap.size, 4, none⟩ = some (.slice ad m cap) := (cell_of_row _ _ 4 _ _ _ f1).trans rfl
            have y2 : w4.cell? ⟨w.heap.size + 1, 2, none⟩ = some (.int .i64 0) := (cell_of_row _ _ 2 _ _ _ f2).trans rfl
            have y3 : w4.cell? ⟨w.heap.size + 1, 3, none⟩ = some (.int .i64 0) := (cell_of_row _ _ 3 _ _ _ f2).trans rfl
            have y4 : w4.cell? ⟨w.heap.size + 1, 4, none⟩ = some (.int .i64 0) := (cell_of_row _ _ 4 _ _ _ f2).trans rfl
            clear hb4 f1 f2 f3
            go_wp2_with fail
            go_ret
            exact ⟨by rw [← HR.out]; simp_all; try (intros; omega), F3.out⟩
        · have g3 : decide ((0 : Int) ≤ p) = false := by simpa using d3
          go_enter Tryd.func49, Tryd.ntmps49
          go_wp2_with fail
          refine (HN.out _).mono ?_
          rintro e w4 ⟨rfl, hb4⟩
          obtain ⟨f1, f2, f3⟩ := HF.out w4 hb4
          have F3 : Hid (Below w.heap.size w w4) := f3
          have x3 : w4.cell? ⟨w.heap.size, 3, none⟩ = some (.int .i64 p) := (cell_of_row _ _ 3 _ _ _ f1).trans rfl
          have x4 : w4.cell? ⟨w.heap.size, 4, none⟩ = some (.slice ad m cap) := (cell_of_row _ _ 4 _ _ _ f1).trans rfl
          have y2 : w4.cell? ⟨w.heap.size + 1, 2, none⟩ = some (.int .i64 0) := (cell_of_row _ _ 2 _ _ _ f2).trans rfl
          have y3 : w4.cell? ⟨w.heap.size + 1, 3, none⟩ = some (.int .i64 0) := (cell_of_row _ _ 3 _ _ _ f2).trans rfl
          have y4 : w4.cell? ⟨w.heap.size + 1, 4, none⟩ = some (.int .i64 0) := (cell_of_row _ _ 4 _ _ _ f2).trans rfl
          clear hb4 f1 f2 f3
          go_wp2_with fail
          go_ret
          exact ⟨by rw [← HR.out]; simp_all; try (intros; omega), F3.out⟩
    · have e1 : decide (0 < n) = false := by simpa using c1
      go_enter Tryd.func49, Tryd.ntmps49
      go_wp2_with fail
      go_ret
      exact ⟨by rw [← HR.out]; simp_all; try (intros; omega), HB2.out⟩

set_option maxRecDepth 100000 in
set_option maxHeartbeats 8000000 in
theorem exprFits_2 (n : Int) (s : ByteArray) (p : Int) (ad : Option Addr) (m cap : Nat) (hm : m ≤ 9223372036854775807) (hs : s.size ≤ maxLen) (w : World) (hT : TB w) : Calls Tryd.prog 49 #[.agg #[.int .i64 2, .int .i64 n, .string s, .int .i64 p, .slice ad m cap]] w (QB w (exprB ⟨false, true, 0, 0, 0⟩ n s p m)) := by
  obtain ⟨⟨ty, fr, hT⟩, _⟩ := hT
  have hlt : 2 < w.heap.size := (Array.getElem?_eq_some_iff.1 hT).1
  have t0 : ∀ A, (w.alloc A).cell? ⟨2, 10, none⟩ = some (.bool false) := fun A => by rw [World.cell?_of_block (a := ⟨2, 10, none⟩) (Below.heap_alloc _ _ _ hlt)]; exact (cell_of_row w 2 10 _ _ _ hT).trans rfl
  have t1 : ∀ A, (w.alloc A).cell? ⟨2, 11, none⟩ = some (.bool true) := fun A => by rw [World.cell?_of_block (a := ⟨2, 11, none⟩) (Below.heap_alloc _ _ _ hlt)]; exact (cell_of_row w 2 11 _ _ _ hT).trans rfl
  have t2 : ∀ A, (w.alloc A).cell? ⟨2, 12, none⟩ = some (.int .i64 0) := fun A => by rw [World.cell?_of_block (a := ⟨2, 12, none⟩) (Below.heap_alloc _ _ _ hlt)]; exact (cell_of_row w 2 12 _ _ _ hT).trans rfl
  have t3 : ∀ A, (w.alloc A).cell? ⟨2, 13, none⟩ = some (.int .i64 0) := fun A => by rw [World.cell?_of_block (a := ⟨2, 13, none⟩) (Below.heap_alloc _ _ _ hlt)]; exact (cell_of_row w 2 13 _ _ _ hT).trans rfl
  have t4 : ∀ A, (w.alloc A).cell? ⟨2, 14, none⟩ = some (.int .i64 0) := fun A => by rw [World.cell?_of_block (a := ⟨2, 14, none⟩) (Below.heap_alloc _ _ _ hlt)]; exact (cell_of_row w 2 14 _ _ _ hT).trans rfl
  have HN : Hid (∀ W, Calls Tryd.prog 48 #[.string s, .bool true] W (QB W (nameF s true))) := fun W => nameFits_any s true hs W
  obtain ⟨res, hres⟩ : ∃ r, exprB ⟨false, true, 0, 0, 0⟩ n s p m = r := ⟨_, rfl⟩
  have HR : Hid (exprB ⟨false, true, 0, 0, 0⟩ n s p m = res) := hres
  rw [hres]
  unfold exprB at HR
  simp only at HR
  obtain ⟨b2, hb2⟩ : ∃ b, nameF s true = b := ⟨_, rfl⟩
  rw [hb2] at HN HR
  clear hres hb2 hT hs
  have HB2 : Hid (Below w.heap.size w ((w.alloc (.cells #[.int .i64 2, .int .i64 n, .string s, .int .i64 p, .slice ad m cap] 42)).alloc (.cells #[.bool false, .bool true, .int .i64 0, .int .i64 0, .int .i64 0] 92))) := ((Below.refl _ _).alloc (Nat.le_refl _) _).alloc (by simp) _
  have HF : Hid (∀ w4, Below ((w.alloc (.cells #[.int .i64 2, .int .i64 n, .string s, .int .i64 p, .slice ad m cap] 42)).alloc (.cells #[.bool false, .bool true, .int .i64 0, .int .i64 0, .int .i64 0] 92)).heap.size ((w.alloc (.cells #[.int .i64 2, .int .i64 n, .string s, .int .i64 p, .slice ad m cap] 42)).alloc (.cells #[.bool false, .bool true, .int .i64 0, .int .i64 0, .int .i64 0] 92)) w4 → w4.heap[w.heap.size]? = some (.cells #[.int .i64 2, .int .i64 n, .string s, .int .i64 p, .slice ad m cap] 42) ∧ w4.heap[w.heap.size + 1]? = some (.cells #[.bool false, .bool true, .int .i64 0, .int .i64 0, .int .i64 0] 92) ∧ Below w.heap.size w w4) := by
    intro w4 hb
    refine ⟨(hb.block _ (by simp; omega)).trans ((Below.heap_alloc _ _ _ (by simp)).trans (heap_alloc_new w _)), (hb.block _ (by simp)).trans ?_, HB2.out.trans (hb.mono (by simp; omega))⟩
    have := heap_alloc_new (w.alloc (.cells #[.int .i64 2, .int .i64 n, .string s, .int .i64 p, .slice ad m cap] 42)) (.cells #[.bool false, .bool true, .int .i64 0, .int .i64 0, .int .i64 0] 92)
    rw [show (w.alloc (.cells #[.int .i64 2, .int .i64 n, .string s, .int .i64 p, .slice ad m cap] 42)).heap.size = w.heap.size + 1 by simp] at this
    exact this
  by_cases c0 : n = 0
  · subst c0
    cases b2
    · go_enter Tryd.func49, Tryd.ntmps49
      go_wp2_with fail
      refine (HN.out _).mono ?_
      rintro e w4 ⟨rfl, hb4⟩
      obtain ⟨f1, f2, f3⟩ := HF.out w4 hb4
      have F3 : Hid (Below w.heap.size w w4) := f3
      have x3 : w4.cell? ⟨w.heap.size, 3, none⟩ = some (.int .i64 p) := (cell_of_row _ _ 3 _ _ _ f1).trans rfl
      have x4 : w4.cell? ⟨w.heap.size, 4, none⟩ = some (.slice ad m cap) := (cell_of_row _ _ 4 _ _ _ f1).trans rfl
      have y2 : w4.cell? ⟨w.heap.size + 1, 2, none⟩ = some (.int .i64 0) := (cell_of_row _ _ 2 _ _ _ f2).trans rfl
      have y3 : w4.cell? ⟨w.heap.size + 1, 3, none⟩ = some (.int .i64 0) := (cell_of_row _ _ 3 _ _ _ f2).trans rfl
      have y4 : w4.cell? ⟨w.heap.size + 1, 4, none⟩ = some (.int .i64 0) := (cell_of_row _ _ 4 _ _ _ f2).trans rfl
      clear hb4 f1 f2 f3
      go_wp2_with fail
      go_ret
      exact ⟨by rw [← HR.out]; simp_all; try (intros; omega), F3.out⟩
    · by_cases d3 : (0 : Int) ≤ p
      · have g3 : decide ((0 : Int) ≤ p) = true := by simpa using d3
        by_cases d4 : p ≤ (0 : Int)
        · have g4 : decide (p ≤ (0 : Int)) = true := by simpa using d4
          by_cases d5 : (m : Int) = 0
          · have g5 : ((m : Int) == 0) = true := by simpa using d5
            go_enter Tryd.func49, Tryd.ntmps49
            go_wp2_with fail
            refine (HN.out _).mono ?_
            rintro e w4 ⟨rfl, hb4⟩
            obtain ⟨f1, f2, f3⟩ := HF.out w4 hb4
            have F3 : Hid (Below w.heap.size w w4) := f3
            have x3 : w4.cell? ⟨w.heap.size, 3, none⟩ = some (.int .i64 p) := (cell_of_row _ _ 3 _ _ _ f1).trans rfl
            have x4 : w4.cell? ⟨w.heap.size, 4, none⟩ = some (.slice ad m cap) := (cell_of_row _ _ 4 _ _ _ f1).trans rfl
            have y2 : w4.cell? ⟨w.heap.size + 1, 2, none⟩ = some (.int .i64 0) := (cell_of_row _ _ 2 _ _ _ f2).trans rfl
            have y3 : w4.cell? ⟨w.heap.size + 1, 3, none⟩ = some (.int .i64 0) := (cell_of_row _ _ 3 _ _ _ f2).trans rfl
            have y4 : w4.cell? ⟨w.heap.size + 1, 4, none⟩ = some (.int .i64 0) := (cell_of_row _ _ 4 _ _ _ f2).trans rfl
            clear hb4 f1 f2 f3
            go_wp2_with fail
            go_ret
            exact ⟨by rw [← HR.out]; simp_all; try (intros; omega), F3.out⟩
          · have g5 : ((m : Int) == 0) = false := by simpa using d5
            go_enter Tryd.func49, Tryd.ntmps49
            go_wp2_with fail
            refine (HN.out _).mono ?_
            rintro e w4 ⟨rfl, hb4⟩
            obtain ⟨f1, f2, f3⟩ := HF.out w4 hb4
            have F3 : Hid (Below w.heap.size w w4) := f3
            have x3 : w4.cell? ⟨w.heap.size, 3, none⟩ = some (.int .i64 p) := (cell_of_row _ _ 3 _ _ _ f1).trans rfl
            have x4 : w4.cell? ⟨w.heap.size, 4, none⟩ = some (.slice ad m cap) := (cell_of_row _ _ 4 _ _ _ f1).trans rfl
            have y2 : w4.cell? ⟨w.heap.size + 1, 2, none⟩ = some (.int .i64 0) := (cell_of_row _ _ 2 _ _ _ f2).trans rfl
            have y3 : w4.cell? ⟨w.heap.size + 1, 3, none⟩ = some (.int .i64 0) := (cell_of_row _ _ 3 _ _ _ f2).trans rfl
            have y4 : w4.cell? ⟨w.heap.size + 1, 4, none⟩ = some (.int .i64 0) := (cell_of_row _ _ 4 _ _ _ f2).trans rfl
            clear hb4 f1 f2 f3
            go_wp2_with fail
            go_ret
            exact ⟨by rw [← HR.out]; simp_all; try (intros; omega), F3.out⟩
        · have g4 : decide (p ≤ (0 : Int)) = false := by simpa using d4
          go_enter Tryd.func49, Tryd.ntmps49
          go_wp2_with fail
          refine (HN.out _).mono ?_
          rintro e w4 ⟨rfl, hb4⟩
          obtain ⟨f1, f2, f3⟩ := HF.out w4 hb4
          have F3 : Hid (Below w.heap.size w w4) := f3
          have x3 : w4.cell? ⟨w.heap.size, 3, none⟩ = some (.int .i64 p) := (cell_of_row _ _ 3 _ _ _ f1).trans rfl
          have x4 : w4.cell? ⟨w.heap.size, 4, none⟩ = some (.slice ad m cap) := (cell_of_row _ _ 4 _ _ _ f1).trans rfl
          have y2 : w4.cell? ⟨w.heap.size + 1, 2, none⟩ = some (.int .i64 0) := (cell_of_row _ _ 2 _ _ _ f2).trans rfl
          have y3 : w4.cell? ⟨w.heap.size + 1, 3, none⟩ = some (.int .i64 0) := (cell_of_row _ _ 3 _ _ _ f2).trans rfl
          have y4 : w4.cell? ⟨w.heap.size + 1, 4, none⟩ = some (.int .i64 0) := (cell_of_row _ _ 4 _ _ _ f2).trans rfl
          clear hb4 f1 f2 f3
          go_wp2_with fail
          go_ret
          exact ⟨by rw [← HR.out]; simp_all; try (intros; omega), F3.out⟩
      · have g3 : decide ((0 : Int) ≤ p) = false := by simpa using d3
        go_enter Tryd.func49, Tryd.ntmps49
        go_wp2_with fail
        refine (HN.out _).mono ?_
        rintro e w4 ⟨rfl, hb4⟩
        obtain ⟨f1, f2, f3⟩ := HF.out w4 hb4
        have F3 : Hid (Below w.heap.size w w4) := f3
        have x3 : w4.cell? ⟨w.heap.size, 3, none⟩ = some (.int .i64 p) := (cell_of_row _ _ 3 _ _ _ f1).trans rfl
        have x4 : w4.cell? ⟨w.heap.size, 4, none⟩ = some (.slice ad m cap) := (cell_of_row _ _ 4 _ _ _ f1).trans rfl
        have y2 : w4.cell? ⟨w.heap.size + 1, 2, none⟩ = some (.int .i64 0) := (cell_of_row _ _ 2 _ _ _ f2).trans rfl
        have y3 : w4.cell? ⟨w.heap.size + 1, 3, none⟩ = some (.int .i64 0) := (cell_of_row _ _ 3 _ _ _ f2).trans rfl
        have y4 : w4.cell? ⟨w.heap.size + 1, 4, none⟩ = some (.int .i64 0) := (cell_of_row _ _ 4 _ _ _ f2).trans rfl
        clear hb4 f1 f2 f3
        go_wp2_with fail
        go_ret
        exact ⟨by rw [← HR.out]; simp_all; try (intros; omega), F3.out⟩
  · have e0 : (n == 0) = false := by simpa using c0
    go_enter Tryd.func49, Tryd.ntmps49
    go_wp2_with fail
    go_ret
    exact ⟨by rw [← HR.out]; simp_all; try (intros; omega), HB2.out⟩

set_option maxRecDepth 100000 in
set_option maxHeartbeats 8000000 in
theorem exprFits_3 (n : Int) (s : ByteArray) (p : Int) (ad : Option Addr) (m cap : Nat) (hm : m ≤ 9223372036854775807) (hs : s.size ≤ maxLen) (w : World) (hT : TB w) : Calls Tryd.prog 49 #[.agg #[.int .i64 3, .int .i64 n, .string s, .int .i64 p, .slice ad m cap]] w (QB w (exprB ⟨false, false, 0, 0, 1⟩ n s p m)) := by
  obtain ⟨⟨ty, fr, hT⟩, _⟩ := hT
  have hlt : 2 < w.heap.size := (Array.getElem?_eq_some_iff.1 hT).1
  have t0 : ∀ A, (w.alloc A).cell? ⟨2, 15, none⟩ = some (.bool false) := fun A => by rw [World.cell?_of_block (a := ⟨2, 15, none⟩) (Below.heap_alloc _ _ _ hlt)]; exact (cell_of_row w 2 15 _ _ _ hT).trans rfl
  have t1 : ∀ A, (w.alloc A).cell? ⟨2, 16, none⟩ = some (.bool false) := fun A => by rw [World.cell?_of_block (a := ⟨2, 16, none⟩) (Below.heap_alloc _ _ _ hlt)]; exact (cell_of_row w 2 16 _ _ _ hT).trans rfl
  have t2 : ∀ A, (w.alloc A).cell? ⟨2, 17, none⟩ = some (.int .i64 0) := fun A => by rw [World.cell?_of_block (a := ⟨2, 17, none⟩) (Below.heap_alloc _ _ _ hlt)]; exact (cell_of_row w 2 17 _ _ _ hT).trans rfl
  have t3 : ∀ A, (w.alloc A).cell? ⟨2, 18, none⟩ = some (.int .i64 0) := fun A => by rw [World.cell?_of_block (a := ⟨2, 18, none⟩) (Below.heap_alloc _ _ _ hlt)]; exact (cell_of_row w 2 18 _ _ _ hT).trans rfl
  have t4 : ∀ A, (w.alloc A).cell? ⟨2, 19, none⟩ = some (.int .i64 1) := fun A => by rw [World.cell?_of_block (a := ⟨2, 19, none⟩) (Below.heap_alloc _ _ _ hlt)]; exact (cell_of_row w 2 19 _ _ _ hT).trans rfl
  have HN : Hid (∀ W, Calls Tryd.prog 48 #[.string s, .bool false] W (QB W (nameF s false))) := fun W => nameFits_any s false hs W
  obtain ⟨res, hres⟩ : ∃ r, exprB ⟨false, false, 0, 0, 1⟩ n s p m = r := ⟨_, rfl⟩
  have HR : Hid (exprB ⟨false, false, 0, 0, 1⟩ n s p m = res) := hres
  rw [hres]
  unfold exprB at HR
  simp only at HR
  obtain ⟨b2, hb2⟩ : ∃ b, nameF s false = b := ⟨_, rfl⟩
  rw [hb2] at HN HR
  clear hres hb2 hT hs
  have HB2 : Hid (Below w.heap.size w ((w.alloc (.cells #[.int .i64 3, .int .i64 n, .string s, .int .i64 p, .slice ad m cap] 42)).alloc (.cells #[.bool false, .bool false, .int .i64 0, .int .i64 0, .int .i64 1] 92))) := ((Below.refl _ _).alloc (Nat.le_refl _) _).alloc (by simp) _
  have HF : Hid (∀ w4, Below ((w.alloc (.cells #[.int .i64 3, .int .i64 n, .string s, .int .i64 p, .slice ad m cap] 42)).alloc (.cells #[.bool false, .bool false, .int .i64 0, .int .i64 0, .int .i64 1] 92)).heap.size ((w.alloc (.cells #[.int .i64 3, .int .i64 n, .string s, .int .i64 p, .slice ad m cap] 42)).alloc (.cells #[.bool false, .bool false, .int .i64 0, .int .i64 0, .int .i64 1] 92)) w4 → w4.heap[w.heap.size]? = some (.cells #[.int .i64 3, .int .i64 n, .string s, .int .i64 p, .slice ad m cap] 42) ∧ w4.heap[w.heap.size + 1]? = some (.cells #[.bool false, .bool false, .int .i64 0, .int .i64 0, .int .i64 1] 92) ∧ Below w.heap.size w w4) := by
    intro w4 hb
    refine ⟨(hb.block _ (by simp; omega)).trans ((Below.heap_alloc _ _ _ (by simp)).trans (heap_alloc_new w _)), (hb.block _ (by simp)).trans ?_, HB2.out.trans (hb.mono (by simp; omega))⟩
    have := heap_alloc_new (w.alloc (.cells #[.int .i64 3, .int .i64 n, .string s, .int .i64 p, .slice ad m cap] 42)) (.cells #[.bool false, .bool false, .int .i64 0, .int .i64 0, .int .i64 1] 92)
    rw [show (w.alloc (.cells #[.int .i64 3, .int .i64 n, .string s, .int .i64 p, .slice ad m cap] 42)).heap.size = w.heap.size + 1 by simp] at this
    exact this
  by_cases c0 : n = 0
  · subst c0
    cases b2
    · go_enter Tryd.func49, Tryd.ntmps49
      go_wp2_with fail
      refine (HN.out _).mono ?_
      rintro e w4 ⟨rfl, hb4⟩
      obtain ⟨f1, f2, f3⟩ := HF.out w4 hb4
      have F3 : Hid (Below w.heap.size w w4) := f3
      have x3 : w4.cell? ⟨w.heap.size, 3, none⟩ = some (.int .i64 p) := (cell_of_row _ _ 3 _ _ _ f1).trans rfl
      have x4 : w4.cell? ⟨w.heap.size, 4, none⟩ = some (.slice ad m cap) := (cell_of_row _ _ 4 _ _ _ f1).trans rfl
      have y2 : w4.cell? ⟨w.heap.size + 1, 2, none⟩ = some (.int .i64 0) := (cell_of_row _ _ 2 _ _ _ f2).trans rfl
      have y3 : w4.cell? ⟨w.heap.size + 1, 3, none⟩ = some (.int .i64 0) := (cell_of_row _ _ 3 _ _ _ f2).trans rfl
      have y4 : w4.cell? ⟨w.heap.size + 1, 4, none⟩ = some (.int .i64 1) := (cell_of_row _ _ 4 _ _ _ f2).trans rfl
      clear hb4 f1 f2 f3
      go_wp2_with fail
      go_ret
      exact ⟨by rw [← HR.out]; simp_all; try (intros; omega), F3.out⟩
    · by_cases d3 : (0 : Int) ≤ p
      · have g3 : decide ((0 : Int) ≤ p) = true := by simpa using d3
        by_cases d4 : p ≤ (0 : Int)
        · have g4 : decide (p ≤ (0 : Int)) = true := by simpa using d4
          by_cases d5 : (m : Int) = 1
          · have g5 : ((m : Int) == 1) = true := by simpa using d5
            go_enter Tryd.func49, Tryd.ntmps49
            go_wp2_with fail
            refine (HN.out _).mono ?_
            rintro e w4 ⟨rfl, hb4⟩
            obtain ⟨f1, f2, f3⟩ := HF.out w4 hb4
            have F3 : Hid (Below w.heap.size w w4) := f3
            have x3 : w4.cell? ⟨w.heap.size, 3, none⟩ = some (.int .i64 p) := (cell_of_row _ _ 3 _ _ _ f1).trans rfl
            have x4 : w4.cell? ⟨w.heap.size, 4, none⟩ = some (.slice ad m cap) := (cell_of_row _ _ 4 _ _ _ f1).trans rfl
            have y2 : w4.cell? ⟨w.heap.size + 1, 2, none⟩ = some (.int .i64 0) := (cell_of_row _ _ 2 _ _ _ f2).trans rfl
            have y3 : w4.cell? ⟨w.heap.size + 1, 3, none⟩ = some (.int .i64 0) := (cell_of_row _ _ 3 _ _ _ f2).trans rfl
            have y4 : w4.cell? ⟨w.heap.size + 1, 4, none⟩ = some (.int .i64 1) := (cell_of_row _ _ 4 _ _ _ f2).trans rfl
            clear hb4 f1 f2 f3
            go_wp2_with fail
            go_ret
            exact ⟨by rw [← HR.out]; simp_all; try (intros; omega), F3.out⟩
          · have g5 : ((m : Int) == 1) = false := by simpa using d5
            go_enter Tryd.func49, Tryd.ntmps49
            go_wp2_with fail
            refine (HN.out _).mono ?_
            rintro e w4 ⟨rfl, hb4⟩
            obtain ⟨f1, f2, f3⟩ := HF.out w4 hb4
            have F3 : Hid (Below w.heap.size w w4) := f3
            have x3 : w4.cell? ⟨w.heap.size, 3, none⟩ = some (.int .i64 p) := (cell_of_row _ _ 3 _ _ _ f1).trans rfl
            have x4 : w4.cell? ⟨w.heap.size, 4, none⟩ = some (.slice ad m cap) := (cell_of_row _ _ 4 _ _ _ f1).trans rfl
            have y2 : w4.cell? ⟨w.heap.size + 1, 2, none⟩ = some (.int .i64 0) := (cell_of_row _ _ 2 _ _ _ f2).trans rfl
            have y3 : w4.cell? ⟨w.heap.size + 1, 3, none⟩ = some (.int .i64 0) := (cell_of_row _ _ 3 _ _ _ f2).trans rfl
            have y4 : w4.cell? ⟨w.heap.size + 1, 4, none⟩ = some (.int .i64 1) := (cell_of_row _ _ 4 _ _ _ f2).trans rfl
            clear hb4 f1 f2 f3
            go_wp2_with fail
            go_ret
            exact ⟨by rw [← HR.out]; simp_all; try (intros; omega), F3.out⟩
        · have g4 : decide (p ≤ (0 : Int)) = false := by simpa using d4
          go_enter Tryd.func49, Tryd.ntmps49
          go_wp2_with fail
          refine (HN.out _).mono ?_
          rintro e w4 ⟨rfl, hb4⟩
          obtain ⟨f1, f2, f3⟩ := HF.out w4 hb4
          have F3 : Hid (Below w.heap.size w w4) := f3
          have x3 : w4.cell? ⟨w.heap.size, 3, none⟩ = some (.int .i64 p) := (cell_of_row _ _ 3 _ _ _ f1).trans rfl
          have x4 : w4.cell? ⟨w.heap.size, 4, none⟩ = some (.slice ad m cap) := (cell_of_row _ _ 4 _ _ _ f1).trans rfl
          have y2 : w4.cell? ⟨w.heap.size + 1, 2, none⟩ = some (.int .i64 0) := (cell_of_row _ _ 2 _ _ _ f2).trans rfl
          have y3 : w4.cell? ⟨w.heap.size + 1, 3, none⟩ = some (.int .i64 0) := (cell_of_row _ _ 3 _ _ _ f2).trans rfl
          have y4 : w4.cell? ⟨w.heap.size + 1, 4, none⟩ = some (.int .i64 1) := (cell_of_row _ _ 4 _ _ _ f2).trans rfl
          clear hb4 f1 f2 f3
          go_wp2_with fail
          go_ret
          exact ⟨by rw [← HR.out]; simp_all; try (intros; omega), F3.out⟩
      · have g3 : decide ((0 : Int) ≤ p) = false := by simpa using d3
        go_enter Tryd.func49, Tryd.ntmps49
        go_wp2_with fail
        refine (HN.out _).mono ?_
        rintro e w4 ⟨rfl, hb4⟩
        obtain ⟨f1, f2, f3⟩ := HF.out w4 hb4
        have F3 : Hid (Below w.heap.size w w4) := f3
        have x3 : w4.cell? ⟨w.heap.size, 3, none⟩ = some (.int .i64 p) := (cell_of_row _ _ 3 _ _ _ f1).trans rfl
        have x4 : w4.cell? ⟨w.heap.size, 4, none⟩ = some (.slice ad m cap) := (cell_of_row _ _ 4 _ _ _ f1).trans rfl
        have y2 : w4.cell? ⟨w.heap.size + 1, 2, none⟩ = some (.int .i64 0) := (cell_of_row _ _ 2 _ _ _ f2).trans rfl
        have y3 : w4.cell? ⟨w.heap.size + 1, 3, none⟩ = some (.int .i64 0) := (cell_of_row _ _ 3 _ _ _ f2).trans rfl
        have y4 : w4.cell? ⟨w.heap.size + 1, 4, none⟩ = some (.int .i64 1) := (cell_of_row _ _ 4 _ _ _ f2).trans rfl
        clear hb4 f1 f2 f3
        go_wp2_with fail
        go_ret
        exact ⟨by rw [← HR.out]; simp_all; try (intros; omega), F3.out⟩
  · have e0 : (n == 0) = false := by simpa using c0
    go_enter Tryd.func49, Tryd.ntmps49
    go_wp2_with fail
    go_ret
    exact ⟨by rw [← HR.out]; simp_all; try (intros; omega), HB2.out⟩

set_option maxRecDepth 100000 in
set_option maxHeartbeats 8000000 in
theorem exprFits_4 (n : Int) (s : ByteArray) (p : Int) (ad : Option Addr) (m cap : Nat) (hm : m ≤ 9223372036854775807) (hs : s.size ≤ maxLen) (w : World) (hT : TB w) : Calls Tryd.prog 49 #[.agg #[.int .i64 4, .int .i64 n, .string s, .int .i64 p, .slice ad m cap]] w (QB w (exprB ⟨false, false, 19, 21, 1⟩ n s p m)) := by
  obtain ⟨⟨ty, fr, hT⟩, _⟩ := hT
  have hlt : 2 < w.heap.size := (Array.getElem?_eq_some_iff.1 hT).1
  have t0 : ∀ A, (w.alloc A).cell? ⟨2, 20, none⟩ = some (.bool false) := fun A => by rw [World.cell?_of_block (a := ⟨2, 20, none⟩) (Below.heap_alloc _ _ _ hlt)]; exact (cell_of_row w 2 20 _ _ _ hT).trans rfl
  have t1 : ∀ A, (w.alloc A).cell? ⟨2, 21, none⟩ = some (.bool false) := fun A => by rw [World.cell?_of_block (a := ⟨2, 21, none⟩) (Below.heap_alloc _ _ _ hlt)]; exact (cell_of_row w 2 21 _ _ _ hT).trans rfl
  have t2 : ∀ A, (w.alloc A).cell? ⟨2, 22, none⟩ = some (.int .i64 19) := fun A => by rw [World.cell?_of_block (a := ⟨2, 22, none⟩) (Below.heap_alloc _ _ _ hlt)]; exact (cell_of_row w 2 22 _ _ _ hT).trans rfl
  have t3 : ∀ A, (w.alloc A).cell? ⟨2, 23, none⟩ = some (.int .i64 21) := fun A => by rw [World.cell?_of_block (a := ⟨2, 23, none⟩) (Below.heap_alloc _ _ _ hlt)]; exact (cell_of_row w 2 23 _ _ _ hT).trans rfl
  have t4 : ∀ A, (w.alloc A).cell? ⟨2, 24, none⟩ = some (.int .i64 1) := fun A => by rw [World.cell?_of_block (a := ⟨2, 24, none⟩) (Below.heap_alloc _ _ _ hlt)]; exact (cell_of_row w 2 24 _ _ _ hT).trans rfl
  have HN : Hid (∀ W, Calls Tryd.prog 48 #[.string s, .bool false] W (QB W (nameF s false))) := fun W => nameFits_any s false hs W
  obtain ⟨res, hres⟩ : ∃ r, exprB ⟨false, false, 19, 21, 1⟩ n s p m = r := ⟨_, rfl⟩
  have HR : Hid (exprB ⟨false, false, 19, 21, 1⟩ n s p m = res) := hres
  rw [hres]
  unfold exprB at HR
  simp only at HR
  obtain ⟨b2, hb2⟩ : ∃ b, nameF s false = b := ⟨_, rfl⟩
  rw [hb2] at HN HR
  clear hres hb2 hT hs
  have HB2 : Hid (Below w.heap.size w ((w.alloc (.cells #[.int .i64 4, .int .i64 n, .string s, .int .i64 p, .slice ad m cap] 42)).alloc (.cells #[.bool false, .bool false, .int .i64 19, .int .i64 21, .int .i64 1] 92))) := ((Below.refl _ _).alloc (Nat.le_refl _) _).alloc (by simp) _
  have HF : Hid (∀ w4, Below ((w.alloc (.cells #[.int .i64 4, .int .i64 n, .string s, .int .i64 p, .slice ad m cap] 42)).alloc (.cells #[.bool false, .bool false, .int .i64 19, .int .i64 21, .int .i64 1] 92)).heap.size ((w.alloc (.cells #[.int .i64 4, .int .i64 n, .string s, .int .i64 p, .slice ad m cap] 42)).alloc (.cells #[.bool false, .bool false, .int .i64 19, .int .i64 21, .int .i64 1] 92)) w4 → w4.heap[w.heap.size]? = some (.cells #[.int .i64 4, .int .i64 n, .string s, .int .i64 p, .slice ad m cap] 42) ∧ w4.heap[w.heap.size + 1]? = some (.cells #[.bool false, .bool false, .int .i64 19, .int .i64 21, .int .i64 1] 92) ∧ Below w.heap.size w w4) := by
    intro w4 hb
    refine ⟨(hb.block _ (by simp; omega)).trans ((Below.heap_alloc _ _ _ (by simp)).trans (heap_alloc_new w _)), (hb.block _ (by simp)).trans ?_, HB2.out.trans (hb.mono (by simp; omega))⟩
    have := heap_alloc_new (w.alloc (.cells #[.int .i64 4, .int .i64 n, .string s, .int .i64 p, .slice ad m cap] 42)) (.cells #[.bool false, .bool false, .int .i64 19, .int .i64 21, .int .i64 1] 92)
    rw [show (w.alloc (.cells #[.int .i64 4, .int .i64 n, .string s, .int .i64 p, .slice ad m cap] 42)).heap.size = w.heap.size + 1 by simp] at this
    exact this
  by_cases c0 : n = 0
  · subst c0
    cases b2
    · go_enter Tryd.func49, Tryd.ntmps49
      go_wp2_with fail
      refine (HN.out _).mono ?_
      rintro e w4 ⟨rfl, hb4⟩
      obtain ⟨f1, f2, f3⟩ := HF.out w4 hb4
      have F3 : Hid (Below w.heap.size w w4) := f3
      have x3 : w4.cell? ⟨w.heap.size, 3, none⟩ = some (.int .i64 p) := (cell_of_row _ _ 3 _ _ _ f1).trans rfl
      have x4 : w4.cell? ⟨w.heap.size, 4, none⟩ = some (.slice ad m cap) := (cell_of_row _ _ 4 _ _ _ f1).trans rfl
      have y2 : w4.cell? ⟨w.heap.size + 1, 2, none⟩ = some (.int .i64 19) := (cell_of_row _ _ 2 _ _ _ f2).trans rfl
      have y3 : w4.cell? ⟨w.heap.size + 1, 3, none⟩ = some (.int .i64 21) := (cell_of_row _ _ 3 _ _ _ f2).trans rfl
      have y4 : w4.cell? ⟨w.heap.size + 1, 4, none⟩ = some (.int .i64 1) := (cell_of_row _ _ 4 _ _ _ f2).trans rfl
      clear hb4 f1 f2 f3
      go_wp2_with fail
      go_ret
      exact ⟨by rw [← HR.out]; simp_all; try (intros; omega), F3.out⟩
    · by_cases d3 : (19 : Int) ≤ p
      · have g3 : decide ((19 : Int) ≤ p) = true := by simpa using d3
        by_cases d4 : p ≤ (21 : Int)
        · have g4 : decide (p ≤ (21 : Int)) = true := by simpa using d4
          by_cases d5 : (m : Int) = 1
          · have g5 : ((m : Int) == 1) = true := by simpa using d5
            go_enter Tryd.func49, Tryd.ntmps49
            go_wp2_with fail
            refine (HN.out _).mono ?_
            rintro e w4 ⟨rfl, hb4⟩
            obtain ⟨f1, f2, f3⟩ := HF.out w4 hb4
            have F3 : Hid (Below w.heap.size w w4) := f3
            have x3 : w4.cell? ⟨w.heap.size, 3, none⟩ = some (.int .i64 p) := (cell_of_row _ _ 3 _ _ _ f1).trans rfl
            have x4 : w4.cell? ⟨w.heap.size, 4, none⟩ = some (.slice ad m cap) := (cell_of_row _ _ 4 _ _ _ f1).trans rfl
            have y2 : w4.cell? ⟨w.heap.size + 1, 2, none⟩ = some (.int .i64 19) := (cell_of_row _ _ 2 _ _ _ f2).trans rfl
            have y3 : w4.cell? ⟨w.heap.size + 1, 3, none⟩ = some (.int .i64 21) := (cell_of_row _ _ 3 _ _ _ f2).trans rfl
            have y4 : w4.cell? ⟨w.heap.size + 1, 4, none⟩ = some (.int .i64 1) := (cell_of_row _ _ 4 _ _ _ f2).trans rfl
            clear hb4 f1 f2 f3
            go_wp2_with fail
            go_ret
            exact ⟨by rw [← HR.out]; simp_all; try (intros; omega), F3.out⟩
          · have g5 : ((m : Int) == 1) = false := by simpa using d5
            go_enter Tryd.func49, Tryd.ntmps49
            go_wp2_with fail
            refine (HN.out _).mono ?_
            rintro e w4 ⟨rfl, hb4⟩
            obtain ⟨f1, f2, f3⟩ := HF.out w4 hb4
            have F3 : Hid (Below w.heap.size w w4) := f3
            have x3 : w4.cell? ⟨w.heap.size, 3, none⟩ = some (.int .i64 p) := (cell_of_row _ _ 3 _ _ _ f1).trans rfl
            have x4 : w4.cell? ⟨w.heap.size, 4, none⟩ = some (.slice ad m cap) := (cell_of_row _ _ 4 _ _ _ f1).trans rfl
            have y2 : w4.cell? ⟨w.heap.size + 1, 2, none⟩ = some (.int .i64 19) := (cell_of_row _ _ 2 _ _ _ f2).trans rfl
            have y3 : w4.cell? ⟨w.heap.size + 1, 3, none⟩ = some (.int .i64 21) := (cell_of_row _ _ 3 _ _ _ f2).trans rfl
            have y4 : w4.cell? ⟨w.heap.size + 1, 4, none⟩ = some (.int .i64 1) := (cell_of_row _ _ 4 _ _ _ f2).trans rfl
            clear hb4 f1 f2 f3
            go_wp2_with fail
            go_ret
            exact ⟨by rw [← HR.out]; simp_all; try (intros; omega), F3.out⟩
        · have g4 : decide (p ≤ (21 : Int)) = false := by simpa using d4
          go_enter Tryd.func49, Tryd.ntmps49
          go_wp2_with fail
          refine (HN.out _).mono ?_
          rintro e w4 ⟨rfl, hb4⟩
          obtain ⟨f1, f2, f3⟩ := HF.out w4 hb4
          have F3 : Hid (Below w.heap.size w w4) := f3
          have x3 : w4.cell? ⟨w.heap.size, 3, none⟩ = some (.int .i64 p) := (cell_of_row _ _ 3 _ _ _ f1).trans rfl
          have x4 : w4.cell? ⟨w.heap.size, 4, none⟩ = some (.slice ad m cap) := (cell_of_row _ _ 4 _ _ _ f1).trans rfl
          have y2 : w4.cell? ⟨w.heap.size + 1, 2, none⟩ = some (.int .i64 19) := (cell_of_row _ _ 2 _ _ _ f2).trans rfl
          have y3 : w4.cell? ⟨w.heap.size + 1, 3, none⟩ = some (.int .i64 21) := (cell_of_row _ _ 3 _ _ _ f2).trans rfl
          have y4 : w4.cell? ⟨w.heap.size + 1, 4, none⟩ = some (.int .i64 1) := (cell_of_row _ _ 4 _ _ _ f2).trans rfl
          clear hb4 f1 f2 f3
          go_wp2_with fail
          go_ret
          exact ⟨by rw [← HR.out]; simp_all; try (intros; omega), F3.out⟩
      · have g3 : decide ((19 : Int) ≤ p) = false := by simpa using d3
        go_enter Tryd.func49, Tryd.ntmps49
        go_wp2_with fail
        refine (HN.out _).mono ?_
        rintro e w4 ⟨rfl, hb4⟩
        obtain ⟨f1, f2, f3⟩ := HF.out w4 hb4
        have F3 : Hid (Below w.heap.size w w4) := f3
        have x3 : w4.cell? ⟨w.heap.size, 3, none⟩ = some (.int .i64 p) := (cell_of_row _ _ 3 _ _ _ f1).trans rfl
        have x4 : w4.cell? ⟨w.heap.size, 4, none⟩ = some (.slice ad m cap) := (cell_of_row _ _ 4 _ _ _ f1).trans rfl
        have y2 : w4.cell? ⟨w.heap.size + 1, 2, none⟩ = some (.int .i64 19) := (cell_of_row _ _ 2 _ _ _ f2).trans rfl
        have y3 : w4.cell? ⟨w.heap.size + 1, 3, none⟩ = some (.int .i64 21) := (cell_of_row _ _ 3 _ _ _ f2).trans rfl
        have y4 : w4.cell? ⟨w.heap.size + 1, 4, none⟩ = some (.int .i64 1) := (cell_of_row _ _ 4 _ _ _ f2).trans rfl
        clear hb4 f1 f2 f3
        go_wp2_with fail
        go_ret
        exact ⟨by rw [← HR.out]; simp_all; try (intros; omega), F3.out⟩
  · have e0 : (n == 0) = false := by simpa using c0
    go_enter Tryd.func49, Tryd.ntmps49
    go_wp2_with fail
    go_ret
    exact ⟨by rw [← HR.out]; simp_all; try (intros; omega), HB2.out⟩

set_option maxRecDepth 100000 in
set_option maxHeartbeats 8000000 in
theorem exprFits_5 (n : Int) (s : ByteArray) (p : Int) (ad : Option Addr) (m cap : Nat) (hm : m ≤ 9223372036854775807) (hs : s.size ≤ maxLen) (w : World) (hT : TB w) : Calls Tryd.prog 49 #[.agg #[.int .i64 5, .int .i64 n, .string s, .int .i64 p, .slice ad m cap]] w (QB w (exprB ⟨false, false, 1, 18, 2⟩ n s p m)) := by
  obtain ⟨⟨ty, fr, hT⟩, _⟩ := hT
  have hlt : 2 < w.heap.size := (Array.getElem?_eq_some_iff.1 hT).1
  have t0 : ∀ A, (w.alloc A).cell? ⟨2, 25, none⟩ = some (.bool false) := fun A => by rw [World.cell?_of_block (a := ⟨2, 25, none⟩) (Below.heap_alloc _ _ _ hlt)]; exact (cell_of_row w 2 25 _ _ _ hT).trans rfl
  have t1 : ∀ A, (w.alloc A).cell? ⟨2, 26, none⟩ = some (.bool false) := fun A => by rw [World.cell?_of_block (a := ⟨2, 26, none⟩) (Below.heap_alloc _ _ _ hlt)]; exact (cell_of_row w 2 26 _ _ _ hT).trans rfl
  have t2 : ∀ A, (w.alloc A).cell? ⟨2, 27, none⟩ = some (.int .i64 1) := fun A => by rw [World.cell?_of_block (a := ⟨2, 27, none⟩) (Below.heap_alloc _ _ _ hlt)]; exact (cell_of_row w 2 27 _ _ _ hT).trans rfl
  have t3 : ∀ A, (w.alloc A).cell? ⟨2, 28, none⟩ = some (.int .i64 18) := fun A => by rw [World.cell?_of_block (a := ⟨2, 28, none⟩) (Below.heap_alloc _ _ _ hlt)]; exact (cell_of_row w 2 28 _ _ _ hT).trans rfl
  have t4 : ∀ A, (w.alloc A).cell? ⟨2, 29, none⟩ = some (.int .i64 2) := fun A => by rw [World.cell?_of_block (a := ⟨2, 29, none⟩) (Below.heap_alloc _ _ _ hlt)]; exact (cell_of_row w 2 29 _ _ _ hT).trans rfl
  have HN : Hid (∀ W, Calls Tryd.prog 48 #[.string s, .bool false] W (QB W (nameF s false))) := fun W => nameFits_any s false hs W
  obtain ⟨res, hres⟩ : ∃ r, exprB ⟨false, false, 1, 18, 2⟩ n s p m = r := ⟨_, rfl⟩
  have HR : Hid (exprB ⟨false, false, 1, 18, 2⟩ n s p m = res) := hres
  rw [hres]
  unfold exprB at HR
  simp only at HR
  obtain ⟨b2, hb2⟩ : ∃ b, nameF s false = b := ⟨_, rfl⟩
  rw [hb2] at HN HR
  clear hres hb2 hT hs
  have HB2 : Hid (Below w.heap.size w ((w.alloc (.cells #[.int .i64 5, .int .i64 n, .string s, .int .i64 p, .slice ad m cap] 42)).alloc (.cells #[.bool false, .bool false, .int .i64 1, .int .i64 18, .int .i64 2] 92))) := ((Below.refl _ _).alloc (Nat.le_refl _) _).alloc (by simp) _
  have HF : Hid (∀ w4, Below ((w.alloc (.cells #[.int .i64 5, .int .i64 n, .string s, .int .i64 p, .slice ad m cap] 42)).alloc (.cells #[.bool false, .bool false, .int .i64 1, .int .i64 18, .int .i64 2] 92)).heap.size ((w.alloc (.cells #[.int .i64 5, .int .i64 n, .string s, .int .i64 p, .slice ad m cap] 42)).alloc (.cells #[.bool false, .bool false, .int .i64 1, .int .i64 18, .int .i64 2] 92)) w4 → w4.heap[w.heap.size]? = some (.cells #[.int .i64 5, .int .i64 n, .string s, .int .i64 p, .slice ad m cap] 42) ∧ w4.heap[w.heap.size + 1]? = some (.cells #[.bool false, .bool false, .int .i64 1, .int .i64 18, .int .i64 2] 92) ∧ Below w.heap.size w w4) := by
    intro w4 hb
    refine ⟨(hb.block _ (by simp; omega)).trans ((Below.heap_alloc _ _ _ (by simp)).trans (heap_alloc_new w _)), (hb.block _ (by simp)).trans ?_, HB2.out.trans (hb.mono (by simp; omega))⟩
    have := heap_alloc_new (w.alloc (.cells #[.int .i64 5, .int .i64 n, .string s, .int .i64 p, .slice ad m cap] 42)) (.cells #[.bool false, .bool false, .int .i64 1, .int .i64 18, .int .i64 2] 92)
    rw [show (w.alloc (.cells #[.int .i64 5, .int .i64 n, .string s, .int .i64 p, .slice ad m cap] 42)).heap.size = w.heap.size + 1 by simp] at this
    exact this
  by_cases c0 : n = 0
  · subst c0
    cases b2
    · go_enter Tryd.func49, Tryd.ntmps49
      go_wp2_with fail
      refine (HN.out _).mono ?_
      rintro e w4 ⟨rfl, hb4⟩
      obtain ⟨f1, f2, f3⟩ := HF.out w4 hb4
      have F3 : Hid (Below w.heap.size w w4) := f3
      have x3 : w4.cell? ⟨w.heap.size, 3, none⟩ = some (.int .i64 p) := (cell_of_row _ _ 3 _ _ _ f1).trans rfl
      have x4 : w4.cell? ⟨w.heap.size, 4, none⟩ = some (.slice ad m cap) := (cell_of_row _ _ 4 _ _ _ f1).trans rfl
      have y2 : w4.cell? ⟨w.heap.size + 1, 2, none⟩ = some (.int .i64 1) := (cell_of_row _ _ 2 _ _ _ f2).trans rfl
      have y3 : w4.cell? ⟨w.heap.size + 1, 3, none⟩ = some (.int .i64 18) := (cell_of_row _ _ 3 _ _ _ f2).trans rfl
      have y4 : w4.cell? ⟨w.heap.size + 1, 4, none⟩ = some (.int .i64 2) := (cell_of_row _ _ 4 _ _ _ f2).trans rfl
      clear hb4 f1 f2 f3
      go_wp2_with fail
      go_ret
      exact ⟨by rw [← HR.out]; simp_all; try (intros; omega), F3.out⟩
    · by_cases d3 : (1 : Int) ≤ p
      · have g3 : decide ((1 : Int) ≤ p) = true := by simpa using d3
        by_cases d4 : p ≤ (18 : Int)
        · have g4 : decide (p ≤ (18 : Int)) = true := by simpa using d4
          by_cases d5 : (m : Int) = 2
          · have g5 : ((m : Int) == 2) = true := by simpa using d5
            go_enter Tryd.func49, Tryd.ntmps49
            go_wp2_with fail
            refine (HN.out _).mono ?_
            rintro e w4 ⟨rfl, hb4⟩
            obtain ⟨f1, f2, f3⟩ := HF.out w4 hb4
            have F3 : Hid (Below w.heap.size w w4) := f3
            have x3 : w4.cell? ⟨w.heap.size, 3, none⟩ = some (.int .i64 p) := (cell_of_row _ _ 3 _ _ _ f1).trans rfl
            have x4 : w4.cell? ⟨w.heap.size, 4, none⟩ = some (.slice ad m cap) := (cell_of_row _ _ 4 _ _ _ f1).trans rfl
            have y2 : w4.cell? ⟨w.heap.size + 1, 2, none⟩ = some (.int .i64 1) := (cell_of_row _ _ 2 _ _ _ f2).trans rfl
            have y3 : w4.cell? ⟨w.heap.size + 1, 3, none⟩ = some (.int .i64 18) := (cell_of_row _ _ 3 _ _ _ f2).trans rfl
            have y4 : w4.cell? ⟨w.heap.size + 1, 4, none⟩ = some (.int .i64 2) := (cell_of_row _ _ 4 _ _ _ f2).trans rfl
            clear hb4 f1 f2 f3
            go_wp2_with fail
            go_ret
            exact ⟨by rw [← HR.out]; simp_all; try (intros; omega), F3.out⟩
          · have g5 : ((m : Int) == 2) = false := by simpa using d5
            go_enter Tryd.func49, Tryd.ntmps49
            go_wp2_with fail
            refine (HN.out _).mono ?_
            rintro e w4 ⟨rfl, hb4⟩
            obtain ⟨f1, f2, f3⟩ := HF.out w4 hb4
            have F3 : Hid (Below w.heap.size w w4) := f3
            have x3 : w4.cell? ⟨w.heap.size, 3, none⟩ = some (.int .i64 p) := (cell_of_row _ _ 3 _ _ _ f1).trans rfl
            have x4 : w4.cell? ⟨w.heap.size, 4, none⟩ = some (.slice ad m cap) := (cell_of_row _ _ 4 _ _ _ f1).trans rfl
            have y2 : w4.cell? ⟨w.heap.size + 1, 2, none⟩ = some (.int .i64 1) := (cell_of_row _ _ 2 _ _ _ f2).trans rfl
            have y3 : w4.cell? ⟨w.heap.size + 1, 3, none⟩ = some (.int .i64 18) := (cell_of_row _ _ 3 _ _ _ f2).trans rfl
            have y4 : w4.cell? ⟨w.heap.size + 1, 4, none⟩ = some (.int .i64 2) := (cell_of_row _ _ 4 _ _ _ f2).trans rfl
            clear hb4 f1 f2 f3
            go_wp2_with fail
            go_ret
            exact ⟨by rw [← HR.out]; simp_all; try (intros; omega), F3.out⟩
        · have g4 : decide (p ≤ (18 : Int)) = false := by simpa using d4
          go_enter Tryd.func49, Tryd.ntmps49
          go_wp2_with fail
          refine (HN.out _).mono ?_
          rintro e w4 ⟨rfl, hb4⟩
          obtain ⟨f1, f2, f3⟩ := HF.out w4 hb4
          have F3 : Hid (Below w.heap.size w w4) := f3
          have x3 : w4.cell? ⟨w.heap.size, 3, none⟩ = some (.int .i64 p) := (cell_of_row _ _ 3 _ _ _ f1).trans rfl
          have x4 : w4.cell? ⟨w.heap.size, 4, none⟩ = some (.slice ad m cap) := (cell_of_row _ _ 4 _ _ _ f1).trans rfl
          have y2 : w4.cell? ⟨w.heap.size + 1, 2, none⟩ = some (.int .i64 1) := (cell_of_row _ _ 2 _ _ _ f2).trans rfl
          have y3 : w4.cell? ⟨w.heap.size + 1, 3, none⟩ = some (.int .i64 18) := (cell_of_row _ _ 3 _ _ _ f2).trans rfl
          have y4 : w4.cell? ⟨w.heap.size + 1, 4, none⟩ = some (.int .i64 2) := (cell_of_row _ _ 4 _ _ _ f2).trans rfl
          clear hb4 f1 f2 f3
          go_wp2_with fail
          go_ret
          exact ⟨by rw [← HR.out]; simp_all; try (intros; omega), F3.out⟩
      · have g3 : decide ((1 : Int) ≤ p) = false := by simpa using d3
        go_enter Tryd.func49, Tryd.ntmps49
        go_wp2_with fail
        refine (HN.out _).mono ?_
        rintro e w4 ⟨rfl, hb4⟩
        obtain ⟨f1, f2, f3⟩ := HF.out w4 hb4
        have F3 : Hid (Below w.heap.size w w4) := f3
        have x3 : w4.cell? ⟨w.heap.size, 3, none⟩ = some (.int .i64 p) := (cell_of_row _ _ 3 _ _ _ f1).trans rfl
        have x4 : w4.cell? ⟨w.heap.size, 4, none⟩ = some (.slice ad m cap) := (cell_of_row _ _ 4 _ _ _ f1).trans rfl
        have y2 : w4.cell? ⟨w.heap.size + 1, 2, none⟩ = some (.int .i64 1) := (cell_of_row _ _ 2 _ _ _ f2).trans rfl
        have y3 : w4.cell? ⟨w.heap.size + 1, 3, none⟩ = some (.int .i64 18) := (cell_of_row _ _ 3 _ _ _ f2).trans rfl
        have y4 : w4.cell? ⟨w.heap.size + 1, 4, none⟩ = some (.int .i64 2) := (cell_of_row _ _ 4 _ _ _ f2).trans rfl
        clear hb4 f1 f2 f3
        go_wp2_with fail
        go_ret
        exact ⟨by rw [← HR.out]; simp_all; try (intros; omega), F3.out⟩
  · have e0 : (n == 0) = false := by simpa using c0
    go_enter Tryd.func49, Tryd.ntmps49
    go_wp2_with fail
    go_ret
    exact ⟨by rw [← HR.out]; simp_all; try (intros; omega), HB2.out⟩
structure HasS where
  name : Bool
  cell : Bool
  body : Bool
  other : Bool
  args : Int
def stmtB (h : HasS) (s : ByteArray) (c : Int) (m bl el : Nat) : Bool := nameF s h.name && (c == 0 || (h.cell && decide (0 < c) && decide (c ≤ 255))) && decide ((m : Int) = h.args) && (h.body || decide (bl = 0)) && (h.other || decide (el = 0))
def hasS (k : Int) : HasS := if k = 1 ∨ k = 2 then ⟨true, false, false, false, 1⟩ else if k = 3 then ⟨false, false, false, false, 2⟩ else if k = 4 ∨ k = 8 then ⟨false, false, false, false, 1⟩ else if k = 5 then ⟨false, true, false, false, 1⟩ else if k = 6 then ⟨false, false, true, true, 1⟩ else if k = 7 then ⟨false, false, true, false, 1⟩ else ⟨false, false, false, false, 0⟩
def stmtOk (k : Int) (s : ByteArray) (c : Int) (m bl el : Nat) : Bool := decide (1 ≤ k ∧ k ≤ 9) && stmtB (hasS k) s c m bl el

theorem exprFits_any (k n : Int) (s : ByteArray) (p : Int) (ad : Option Addr) (m cap : Nat) (hm : m ≤ 9223372036854775807) (hs : s.size ≤ maxLen) (w : World) (hT : TB w) : Calls Tryd.prog 49 #[.agg #[.int .i64 k, .int .i64 n, .string s, .int .i64 p, .slice ad m cap]] w (QB w (exprOk k n s p m)) := by
  by_cases hk : k < 1 ∨ 5 < k
  · have e : exprOk k n s p m = false := by unfold exprOk; rw [show decide (1 ≤ k ∧ k ≤ 5) = false by simp; omega]; rfl
    rw [e]; exact exprFits_out k n s p ad m cap w hk
  · have e : exprOk k n s p m = exprB (hasE k) n s p m := by unfold exprOk; rw [show decide (1 ≤ k ∧ k ≤ 5) = true by simp; omega]; rfl
    rw [e]
    have hk5 : k = 1 ∨ k = 2 ∨ k = 3 ∨ k = 4 ∨ k = 5 := by omega
    rcases hk5 with rfl | rfl | rfl | rfl | rfl
    · exact exprFits_1 n s p ad m cap hm hs w hT
    · exact exprFits_2 n s p ad m cap hm hs w hT
    · exact exprFits_3 n s p ad m cap hm hs w hT
    · exact exprFits_4 n s p ad m cap hm hs w hT
    · exact exprFits_5 n s p ad m cap hm hs w hT
end Go.Proofs.YtnofibjchhcmeabDoor
