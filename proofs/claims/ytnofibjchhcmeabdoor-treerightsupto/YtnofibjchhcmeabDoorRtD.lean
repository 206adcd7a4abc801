/- Has a statement what its kind says? -/
import Derived.Test.YtnofibjchhcmeabDoorRtC
namespace Go.Proofs.YtnofibjchhcmeabDoor
open Go.RowKit Go.Maps
set_option linter.unusedVariables false
set_option linter.unusedSimpArgs false

set_option maxRecDepth 100000 in
set_option maxHeartbeats 8000000 in
theorem stmtFits_1 (s : ByteArray) (c : Int) (a1 b1 e1 : Option Addr) (m a3 bl b3 el e3 : Nat) (hm : m ≤ 9223372036854775807) (hm1 : bl ≤ 9223372036854775807) (hm2 : el ≤ 9223372036854775807) (hs : s.size ≤ maxLen) (w : World) (hT : TB w) : Calls Tryd.prog 35 #[.agg #[.int .i64 1, .string s, .int .i64 c, .slice a1 m a3, .slice b1 bl b3, .slice e1 el e3]] w (QB w (stmtB ⟨true, false, false, false, 1⟩ s c m bl el)) := by
  obtain ⟨_, ⟨ty, fr, hT⟩⟩ := hT
  have hlt : 1 < w.heap.size := (Array.getElem?_eq_some_iff.1 hT).1
  have t0 : ∀ A, (w.alloc A).cell? ⟨1, 5, none⟩ = some (.bool true) := fun A => by rw [World.cell?_of_block (a := ⟨1, 5, none⟩) (Below.heap_alloc _ _ _ hlt)]; exact (cell_of_row w 1 5 _ _ _ hT).trans rfl
  have t1 : ∀ A, (w.alloc A).cell? ⟨1, 6, none⟩ = some (.bool false) := fun A => by rw [World.cell?_of_block (a := ⟨1, 6, none⟩) (Below.heap_alloc _ _ _ hlt)]; exact (cell_of_row w 1 6 _ _ _ hT).trans rfl
  have t2 : ∀ A, (w.alloc A).cell? ⟨1, 7, none⟩ = some (.bool false) := fun A => by rw [World.cell?_of_block (a := ⟨1, 7, none⟩) (Below.heap_alloc _ _ _ hlt)]; exact (cell_of_row w 1 7 _ _ _ hT).trans rfl
  have t3 : ∀ A, (w.alloc A).cell? ⟨1, 8, none⟩ = some (.bool false) := fun A => by rw [World.cell?_of_block (a := ⟨1, 8, none⟩) (Below.heap_alloc _ _ _ hlt)]; exact (cell_of_row w 1 8 _ _ _ hT).trans rfl
  have t4 : ∀ A, (w.alloc A).cell? ⟨1, 9, none⟩ = some (.int .i64 1) := fun A => by rw [World.cell?_of_block (a := ⟨1, 9, none⟩) (Below.heap_alloc _ _ _ hlt)]; exact (cell_of_row w 1 9 _ _ _ hT).trans rfl
  have HN : Hid (∀ W, Calls Tryd.prog 48 #[.string s, .bool true] W (QB W (nameF s true))) := fun W => nameFits_any s true hs W
  obtain ⟨res, hres⟩ : ∃ r, stmtB ⟨true, false, false, false, 1⟩ s c m bl el = r := ⟨_, rfl⟩
  have HR : Hid (stmtB ⟨true, false, false, false, 1⟩ s c m bl el = res) := hres
  rw [hres]
  unfold stmtB at HR
  simp only at HR
  obtain ⟨z2, hz2⟩ : ∃ b, nameF s true = b := ⟨_, rfl⟩
  rw [hz2] at HN HR
  clear hres hz2 hT hs
  have HB2 : Hid (Below w.heap.size w ((w.alloc (.cells #[.int .i64 1, .string s, .int .i64 c, .slice a1 m a3, .slice b1 bl b3, .slice e1 el e3] 39)).alloc (.cells #[.bool true, .bool false, .bool false, .bool false, .int .i64 1] 87))) := ((Below.refl _ _).alloc (Nat.le_refl _) _).alloc (by simp) _
  have HF : Hid (∀ w4, Below ((w.alloc (.cells #[.int .i64 1, .string s, .int .i64 c, .slice a1 m a3, .slice b1 bl b3, .slice e1 el e3] 39)).alloc (.cells #[.bool true, .bool false, .bool false, .bool false, .int .i64 1] 87)).heap.size ((w.alloc (.cells #[.int .i64 1, .string s, .int .i64 c, .slice a1 m a3, .slice b1 bl b3, .slice e1 el e3] 39)).alloc (.cells #[.bool true, .bool false, .bool false, .bool false, .int .i64 1] 87)) w4 → w4.heap[w.heap.size]? = some (.cells #[.int .i64 1, .string s, .int .i64 c, .slice a1 m a3, .slice b1 bl b3, .slice e1 el e3] 39) ∧ w4.heap[w.heap.size + 1]? = some (.cells #[.bool true, .bool false, .bool false, .bool false, .int .i64 1] 87) ∧ Below w.heap.size w w4) := by
    intro w4 hb
    refine ⟨(hb.block _ (by simp; omega)).trans ((Below.heap_alloc _ _ _ (by simp)).trans (heap_alloc_new w _)), (hb.block _ (by simp)).trans ?_, HB2.out.trans (hb.mono (by simp; omega))⟩
    have := heap_alloc_new (w.alloc (.cells #[.int .i64 1, .string s, .int .i64 c, .slice a1 m a3, .slice b1 bl b3, .slice e1 el e3] 39)) (.cells #[.bool true, .bool false, .bool false, .bool false, .int .i64 1] 87)
    rw [show (w.alloc (.cells #[.int .i64 1, .string s, .int .i64 c, .slice a1 m a3, .slice b1 bl b3, .slice e1 el e3] 39)).heap.size = w.heap.size + 1 by simp] at this
    exact this
  cases z2
  · go_enter Tryd.func35, Tryd.ntmps35
    go_wp2_with fail
    refine (HN.out _).mono ?_
    rintro e w4 ⟨rfl, hb4⟩
    obtain ⟨f1, f2, f3⟩ := HF.out w4 hb4
    have F3 : Hid (Below w.heap.size w w4) := f3
    have x2 : w4.cell? ⟨w.heap.size, 2, none⟩ = some (.int .i64 _) := (cell_of_row _ _ 2 _ _ _ f1).trans rfl
    have x3 : w4.cell? ⟨w.heap.size, 3, none⟩ = some (.slice a1 m a3) := (cell_of_row _ _ 3 _ _ _ f1).trans rfl
    have x4 : w4.cell? ⟨w.heap.size, 4, none⟩ = some (.slice b1 bl b3) := (cell_of_row _ _ 4 _ _ _ f1).trans rfl
    have x5 : w4.cell? ⟨w.heap.size, 5, none⟩ = some (.slice e1 el e3) := (cell_of_row _ _ 5 _ _ _ f1).trans rfl
    have y1 : w4.cell? ⟨w.heap.size + 1, 1, none⟩ = some (.bool false) := (cell_of_row _ _ 1 _ _ _ f2).trans rfl
    have y2 : w4.cell? ⟨w.heap.size + 1, 2, none⟩ = some (.bool false) := (cell_of_row _ _ 2 _ _ _ f2).trans rfl
    have y3 : w4.cell? ⟨w.heap.size + 1, 3, none⟩ = some (.bool false) := (cell_of_row _ _ 3 _ _ _ f2).trans rfl
    have y4 : w4.cell? ⟨w.heap.size + 1, 4, none⟩ = some (.int .i64 1) := (cell_of_row _ _ 4 _ _ _ f2).trans rfl
    clear hb4 f1 f2 f3
    go_wp2_with fail
    go_ret
    exact ⟨by rw [← HR.out]; simp_all; try (intros; omega), F3.out⟩
  · by_cases c0 : c = 0
    · subst c0
      by_cases d4 : (m : Int) = 1
      · have d4' : ((m : Int) == 1) = true := by simpa using d4
        by_cases d5 : (bl : Int) = 0
        · have d5' : ((bl : Int) == 0) = true := by simpa using d5
          by_cases d6 : (el : Int) = 0
          · have d6' : ((el : Int) == 0) = true := by simpa using d6
            go_enter Tryd.func35, Tryd.ntmps35
            go_wp2_with fail
            refine (HN.out _).mono ?_
            rintro e w4 ⟨rfl, hb4⟩
            obtain ⟨f1, f2, f3⟩ := HF.out w4 hb4
            have F3 : Hid (Below w.heap.size w w4) := f3
            have x2 : w4.cell? ⟨w.heap.size, 2, none⟩ = some (.int .i64 _) := (cell_of_row _ _ 2 _ _ _ f1).trans rfl
            have x3 : w4.cell? ⟨w.heap.size, 3, none⟩ = some (.slice a1 m a3) := (cell_of_row _ _ 3 _ _ _ f1).trans rfl
            have x4 : w4.cell? ⟨w.heap.size, 4, none⟩ = some (.slice b1 bl b3) := (cell_of_row _ _ 4 _ _ _ f1).trans rfl
            have x5 : w4.cell? ⟨w.heap.size, 5, none⟩ = some (.slice e1 el e3) := (cell_of_row _ _ 5 _ _ _ f1).trans rfl
            have y1 : w4.cell? ⟨w.heap.size + 1, 1, none⟩ = some (.bool false) := (cell_of_row _ _ 1 _ _ _ f2).trans rfl
            have y2 : w4.cell? ⟨w.heap.size + 1, 2, none⟩ = some (.bool false) := (cell_of_row _ _ 2 _ _ _ f2).trans rfl
            have y3 : w4.cell? ⟨w.heap.size + 1, 3, none⟩ = some (.bool false) := (cell_of_row _ _ 3 _ _ _ f2).trans rfl
            have y4 : w4.cell? ⟨w.heap.size + 1, 4, none⟩ = some (.int .i64 1) := (cell_of_row _ _ 4 _ _ _ f2).trans rfl
            clear hb4 f1 f2 f3
            go_wp2_with fail
            go_ret
            exact ⟨by rw [← HR.out]; simp_all; try (intros; omega), F3.out⟩
          · have d6' : ((el : Int) == 0) = false := by simpa using d6
            go_enter Tryd.func35, Tryd.ntmps35
            go_wp2_with fail
            refine (HN.out _).mono ?_
            rintro e w4 ⟨rfl, hb4⟩
            obtain ⟨f1, f2, f3⟩ := HF.out w4 hb4
            have F3 : Hid (Below w.heap.size w w4) := f3
            have x2 : w4.cell? ⟨w.heap.size, 2, none⟩ = some (.int .i64 _) := (cell_of_row _ _ 2 _ _ _ f1).trans rfl
            have x3 : w4.cell? ⟨w.heap.size, 3, none⟩ = some (.slice a1 m a3) := (cell_of_row _ _ 3 _ _ _ f1).trans rfl
            have x4 : w4.cell? ⟨w.heap.size, 4, none⟩ = some (.slice b1 bl b3) := (cell_of_row _ _ 4 _ _ _ f1).trans rfl
            have x5 : w4.cell? ⟨w.heap.size, 5, none⟩ = some (.slice e1 el e3) := (cell_of_row _ _ 5 _ _ _ f1).trans rfl
            have y1 : w4.cell? ⟨w.heap.size + 1, 1, none⟩ = some (.bool false) := (cell_of_row _ _ 1 _ _ _ f2).trans rfl
            have y2 : w4.cell? ⟨w.heap.size + 1, 2, none⟩ = some (.bool false) := (cell_of_row _ _ 2 _ _ _ f2).trans rfl
            have y3 : w4.cell? ⟨w.heap.size + 1, 3, none⟩ = some (.bool false) := (cell_of_row _ _ 3 _ _ _ f2).trans rfl
            have y4 : w4.cell? ⟨w.heap.size + 1, 4, none⟩ = some (.int .i64 1) := (cell_of_row _ _ 4 _ _ _ f2).trans rfl
            clear hb4 f1 f2 f3
            go_wp2_with fail
            go_ret
            exact ⟨by rw [← HR.out]; simp_all; try (intros; omega), F3.out⟩
        · have d5' : ((bl : Int) == 0) = false := by simpa using d5
          go_enter Tryd.func35, Tryd.ntmps35
          go_wp2_with fail
          refine (HN.out _).mono ?_
          rintro e w4 ⟨rfl, hb4⟩
          obtain ⟨f1, f2, f3⟩ := HF.out w4 hb4
          have F3 : Hid (Below w.heap.size w w4) := f3
          have x2 : w4.cell? ⟨w.heap.size, 2, none⟩ = some (.int .i64 _) := (cell_of_row _ _ 2 _ _ _ f1).trans rfl
          have x3 : w4.cell? ⟨w.heap.size, 3, none⟩ = some (.slice a1 m a3) := (cell_of_row _ _ 3 _ _ _ f1).trans rfl
          have x4 : w4.cell? ⟨w.heap.size, 4, none⟩ = some (.slice b1 bl b3) := (cell_of_row _ _ 4 _ _ _ f1).trans rfl
          have x5 : w4.cell? ⟨w.heap.size, 5, none⟩ = some (.slice e1 el e3) := (cell_of_row _ _ 5 _ _ _ f1).trans rfl
          have y1 : w4.cell? ⟨w.heap.size + 1, 1, none⟩ = some (.bool false) := (cell_of_row _ _ 1 _ _ _ f2).trans rfl
          have y2 : w4.cell? ⟨w.heap.size + 1, 2, none⟩ = some (.bool false) := (cell_of_row _ _ 2 _ _ _ f2).trans rfl
          have y3 : w4.cell? ⟨w.heap.size + 1, 3, none⟩ = some (.bool false) := (cell_of_row _ _ 3 _ _ _ f2).trans rfl
          have y4 : w4.cell? ⟨w.heap.size + 1, 4, none⟩ = some (.int .i64 1) := (cell_of_row _ _ 4 _ _ _ f2).trans rfl
          clear hb4 f1 f2 f3
          go_wp2_with fail
          go_ret
          exact ⟨by rw [← HR.out]; simp_all; try (intros; omega), F3.out⟩
      · have d4' : ((m : Int) == 1) = false := by simpa using d4
        go_enter Tryd.func35, Tryd.ntmps35
        go_wp2_with fail
        refine (HN.out _).mono ?_
        rintro e w4 ⟨rfl, hb4⟩
        obtain ⟨f1, f2, f3⟩ := HF.out w4 hb4
        have F3 : Hid (Below w.heap.size w w4) := f3
        have x2 : w4.cell? ⟨w.heap.size, 2, none⟩ = some (.int .i64 _) := (cell_of_row _ _ 2 _ _ _ f1).trans rfl
        have x3 : w4.cell? ⟨w.heap.size, 3, none⟩ = some (.slice a1 m a3) := (cell_of_row _ _ 3 _ _ _ f1).trans rfl
        have x4 : w4.cell? ⟨w.heap.size, 4, none⟩ = some (.slice b1 bl b3) := (cell_of_row _ _ 4 _ _ _ f1).trans rfl
        have x5 : w4.cell? ⟨w.heap.size, 5, none⟩ = some (.slice e1 el e3) := (cell_of_row _ _ 5 _ _ _ f1).trans rfl
        have y1 : w4.cell? ⟨w.heap.size + 1, 1, none⟩ = some (.bool false) := (cell_of_row _ _ 1 _ _ _ f2).trans rfl
        have y2 : w4.cell? ⟨w.heap.size + 1, 2, none⟩ = some (.bool false) := (cell_of_row _ _ 2 _ _ _ f2).trans rfl
        have y3 : w4.cell? ⟨w.heap.size + 1, 3, none⟩ = some (.bool false) := (cell_of_row _ _ 3 _ _ _ f2).trans rfl
        have y4 : w4.cell? ⟨w.heap.size + 1, 4, none⟩ = some (.int .i64 1) := (cell_of_row _ _ 4 _ _ _ f2).trans rfl
        clear hb4 f1 f2 f3
        go_wp2_with fail
        go_ret
        exact ⟨by rw [← HR.out]; simp_all; try (intros; omega), F3.out⟩
    · have e0 : (c == 0) = false := by simpa using c0
      go_enter Tryd.func35, Tryd.ntmps35
      go_wp2_with fail
      refine (HN.out _).mono ?_
      rintro e w4 ⟨rfl, hb4⟩
      obtain ⟨f1, f2, f3⟩ := HF.out w4 hb4
      have F3 : Hid (Below w.heap.size w w4) := f3
      have x2 : w4.cell? ⟨w.heap.size, 2, none⟩ = some (.int .i64 _) := (cell_of_row _ _ 2 _ _ _ f1).trans rfl
      have x3 : w4.cell? ⟨w.heap.size, 3, none⟩ = some (.slice a1 m a3) := (cell_of_row _ _ 3 _ _ _ f1).trans rfl
      have x4 : w4.cell? ⟨w.heap.size, 4, none⟩ = some (.slice b1 bl b3) := (cell_of_row _ _ 4 _ _ _ f1).trans rfl
      have x5 : w4.cell? ⟨w.heap.size, 5, none⟩ = some (.slice e1 el e3) := (cell_of_row _ _ 5 _ _ _ f1).trans rfl
      have y1 : w4.cell? ⟨w.heap.size + 1, 1, none⟩ = some (.bool false) := (cell_of_row _ _ 1 _ _ _ f2).trans rfl
      have y2 : w4.cell? ⟨w.heap.size + 1, 2, none⟩ = some (.bool false) := (cell_of_row _ _ 2 _ _ _ f2).trans rfl
      have y3 : w4.cell? ⟨w.heap.size + 1, 3, none⟩ = some (.bool false) := (cell_of_row _ _ 3 _ _ _ f2).trans rfl
      have y4 : w4.cell? ⟨w.heap.size + 1, 4, none⟩ = some (.int .i64 1) := (cell_of_row _ _ 4 _ _ _ f2).trans rfl
      clear hb4 f1 f2 f3
      go_wp2_with fail
      go_ret
      exact ⟨by rw [← HR.out]; simp_all; try (intros; omega), F3.out⟩

set_option maxRecDepth 100000 in
set_option maxHeartbeats 8000000 in
theorem stmtFits_2 (s : ByteArray) (c : Int) (a1 b1 e1 : Option Addr) (m a3 bl b3 el e3 : Nat) (hm : m ≤ 9223372036854775807) (hm1 : bl ≤ 9223372036854775807) (hm2 : el ≤ 9223372036854775807) (hs : s.size ≤ maxLen) (w : World) (hT : TB w) : Calls Tryd.prog 35 #[.agg #[.int .i64 2, .string s, .int .i64 c, .slice a1 m a3, .slice b1 bl b3, .slice e1 el e3]] w (QB w (stmtB ⟨true, false, false, false, 1⟩ s c m bl el)) := by
  obtain ⟨_, ⟨ty, fr, hT⟩⟩ := hT
  have hlt : 1 < w.heap.size := (Array.getElem?_eq_some_iff.1 hT).1
  have t0 : ∀ A, (w.alloc A).cell? ⟨1, 10, none⟩ = some (.bool true) := fun A => by rw [World.cell?_of_block (a := ⟨1, 10, none⟩) (Below.heap_alloc _ _ _ hlt)]; exact (cell_of_row w 1 10 _ _ _ hT).trans rfl
  have t1 : ∀ A, (w.alloc A).cell? ⟨1, 11, none⟩ = some (.bool false) := fun A => by rw [World.cell?_of_block (a := ⟨1, 11, none⟩) (Below.heap_alloc _ _ _ hlt)]; exact (cell_of_row w 1 11 _ _ _ hT).trans rfl
  have t2 : ∀ A, (w.alloc A).cell? ⟨1, 12, none⟩ = some (.bool false) := fun A => by rw [World.cell?_of_block (a := ⟨1, 12, none⟩) (Below.heap_alloc _ _ _ hlt)]; exact (cell_of_row w 1 12 _ _ _ hT).trans rfl
  have t3 : ∀ A, (w.alloc A).cell? ⟨1, 13, none⟩ = some (.bool false) := fun A => by rw [World.cell?_of_block (a := ⟨1, 13, none⟩) (Below.heap_alloc _ _ _ hlt)]; exact (cell_of_row w 1 13 _ _ _ hT).trans rfl
  have t4 : ∀ A, (w.alloc A).cell? ⟨1, 14, none⟩ = some (.int .i64 1) := fun A => by rw [World.cell?_of_block (a := ⟨1, 14, none⟩) (Below.heap_alloc _ _ _ hlt)]; exact (cell_of_row w 1 14 _ _ _ hT).trans rfl
  have HN : Hid (∀ W, Calls Tryd.prog 48 #[.string s, .bool true] W (QB W (nameF s true))) := fun W => nameFits_any s true hs W
  obtain ⟨res, hres⟩ : ∃ r, stmtB ⟨true, false, false, false, 1⟩ s c m bl el = r := ⟨_, rfl⟩
  have HR : Hid (stmtB ⟨true, false, false, false, 1⟩ s c m bl el = res) := hres
  rw [hres]
  unfold stmtB at HR
  simp only at HR
  obtain ⟨z2, hz2⟩ : ∃ b, nameF s true = b := ⟨_, rfl⟩
  rw [hz2] at HN HR
  clear hres hz2 hT hs
  have HB2 : Hid (Below w.heap.size w ((w.alloc (.cells #[.int .i64 2, .string s, .int .i64 c, .slice a1 m a3, .slice b1 bl b3, .slice e1 el e3] 39)).alloc (.cells #[.bool true, .bool false, .bool false, .bool false, .int .i64 1] 87))) := ((Below.refl _ _).alloc (Nat.le_refl _) _).alloc (by simp) _
  have HF : Hid (∀ w4, Below ((w.alloc (.cells #[.int .i64 2, .string s, .int .i64 c, .slice a1 m a3, .slice b1 bl b3, .slice e1 el e3] 39)).alloc (.cells #[.bool true, .bool false, .bool false, .bool false, .int .i64 1] 87)).heap.size ((w.alloc (.cells #[.int .i64 2, .string s, .int .i64 c, .slice a1 m a3, .slice b1 bl b3, .slice e1 el e3] 39)).alloc (.cells #[.bool true, .bool false, .bool false, .bool false, .int .i64 1] 87)) w4 → w4.heap[w.heap.size]? = some (.cells #[.int .i64 2, .string s, .int .i64 c, .slice a1 m a3, .slice b1 bl b3, .slice e1 el e3] 39) ∧ w4.heap[w.heap.size + 1]? = some (.cells #[.bool true, .bool false, .bool false, .bool false, .int .i64 1] 87) ∧ Below w.heap.size w w4) := by
    intro w4 hb
    refine ⟨(hb.block _ (by simp; omega)).trans ((Below.heap_alloc _ _ _ (by simp)).trans (heap_alloc_new w _)), (hb.block _ (by simp)).trans ?_, HB2.out.trans (hb.mono (by simp; omega))⟩
    have := heap_alloc_new (w.alloc (.cells #[.int .i64 2, .string s, .int .i64 c, .slice a1 m a3, .slice b1 bl b3, .slice e1 el e3] 39)) (.cells #[.bool true, .bool false, .bool false, .bool false, .int .i64 1] 87)
    rw [show (w.alloc (.cells #[.int .i64 2, .string s, .int .i64 c, .slice a1 m a3, .slice b1 bl b3, .slice e1 el e3] 39)).heap.size = w.heap.size + 1 by simp] at this
    exact this
  cases z2
  · go_enter Tryd.func35, Tryd.ntmps35
    go_wp2_with fail
    refine (HN.out _).mono ?_
    rintro e w4 ⟨rfl, hb4⟩
    obtain ⟨f1, f2, f3⟩ := HF.out w4 hb4
    have F3 : Hid (Below w.heap.size w w4) := f3
    have x2 : w4.cell? ⟨w.heap.size, 2, none⟩ = some (.int .i64 _) := (cell_of_row _ _ 2 _ _ _ f1).trans rfl
    have x3 : w4.cell? ⟨w.heap.size, 3, none⟩ = some (.slice a1 m a3) := (cell_of_row _ _ 3 _ _ _ f1).trans rfl
    have x4 : w4.cell? ⟨w.heap.size, 4, none⟩ = some (.slice b1 bl b3) := (cell_of_row _ _ 4 _ _ _ f1).trans rfl
    have x5 : w4.cell? ⟨w.heap.size, 5, none⟩ = some (.slice e1 el e3) := (cell_of_row _ _ 5 _ _ _ f1).trans rfl
    have y1 : w4.cell? ⟨w.heap.size + 1, 1, none⟩ = some (.bool false) := (cell_of_row _ _ 1 _ _ _ f2).trans rfl
    have y2 : w4.cell? ⟨w.heap.size + 1, 2, none⟩ = some (.bool false) := (cell_of_row _ _ 2 _ _ _ f2).trans rfl
    have y3 : w4.cell? ⟨w.heap.size + 1, 3, none⟩ = some (.bool false) := (cell_of_row _ _ 3 _ _ _ f2).trans rfl
    have y4 : w4.cell? ⟨w.heap.size + 1, 4, none⟩ = some (.int .i64 1) := (cell_of_row _ _ 4 _ _ _ f2).trans rfl
    clear hb4 f1 f2 f3
    go_wp2_with fail
    go_ret
    exact ⟨by rw [← HR.out]; simp_all; try (intros; omega), F3.out⟩
  · by_cases c0 : c = 0
    · subst c0
      by_cases d4 : (m : Int) = 1
      · have d4' : ((m : Int) == 1) = true := by simpa using d4
        by_cases d5 : (bl : Int) = 0
        · have d5' : ((bl : Int) == 0) = true := by simpa using d5
          by_cases d6 : (el : Int) = 0
          · have d6' : ((el : Int) == 0) = true := by simpa using d6
            go_enter Tryd.func35, Tryd.ntmps35
            go_wp2_with fail
            refine (HN.out _).mono ?_
            rintro e w4 ⟨rfl, hb4⟩
            obtain ⟨f1, f2, f3⟩ := HF.out w4 hb4
            have F3 : Hid (Below w.heap.size w w4) := f3
            have x2 : w4.cell? ⟨w.heap.size, 2, none⟩ = some (.int .i64 _) := (cell_of_row _ _ 2 _ _ _ f1).trans rfl
            have x3 : w4.cell? ⟨w.heap.size, 3, none⟩ = some (.slice a1 m a3) := (cell_of_row _ _ 3 _ _ _ f1).trans rfl
            have x4 : w4.cell? ⟨w.heap.size, 4, none⟩ = some (.slice b1 bl b3) := (cell_of_row _ _ 4 _ _ _ f1).trans rfl
            have x5 : w4.cell? ⟨w.heap.size, 5, none⟩ = some (.slice e1 el e3) := (cell_of_row _ _ 5 _ _ _ f1).trans rfl
            have y1 : w4.cell? ⟨w.heap.size + 1, 1, none⟩ = some (.bool false) := (cell_of_row _ _ 1 _ _ _ f2).trans rfl
            have y2 : w4.cell? ⟨w.heap.size + 1, 2, none⟩ = some (.bool false) := (cell_of_row _ _ 2 _ _ _ f2).trans rfl
            have y3 : w4.cell? ⟨w.heap.size + 1, 3, none⟩ = some (.bool false) := (cell_of_row _ _ 3 _ _ _ f2).trans rfl
            have y4 : w4.cell? ⟨w.heap.size + 1, 4, none⟩ = some (.int .i64 1) := (cell_of_row _ _ 4 _ _ _ f2).trans rfl
            clear hb4 f1 f2 f3
            go_wp2_with fail
            go_ret
            exact ⟨by rw [← HR.out]; simp_all; try (intros; omega), F3.out⟩
          · have d6' : ((el : Int) == 0) = false := by simpa using d6
            go_enter Tryd.func35, Tryd.ntmps35
            go_wp2_with fail
            refine (HN.out _).mono ?_
            rintro e w4 ⟨rfl, hb4⟩
            obtain ⟨f1, f2, f3⟩ := HF.out w4 hb4
            have F3 : Hid (Below w.heap.size w w4) := f3
            have x2 : w4.cell? ⟨w.heap.size, 2, none⟩ = some (.int .i64 _) := (cell_of_row _ _ 2 _ _ _ f1).trans rfl
            have x3 : w4.cell? ⟨w.heap.size, 3, none⟩ = some (.slice a1 m a3) := (cell_of_row _ _ 3 _ _ _ f1).trans rfl
            have x4 : w4.cell? ⟨w.heap.size, 4, none⟩ = some (.slice b1 bl b3) := (cell_of_row _ _ 4 _ _ _ f1).trans rfl
            have x5 : w4.cell? ⟨w.heap.size, 5, none⟩ = some (.slice e1 el e3) := (cell_of_row _ _ 5 _ _ _ f1).trans rfl
            have y1 : w4.cell? ⟨w.heap.size + 1, 1, none⟩ = some (.bool false) := (cell_of_row _ _ 1 _ _ _ f2).trans rfl
            have y2 : w4.cell? ⟨w.heap.size + 1, 2, none⟩ = some (.bool false) := (cell_of_row _ _ 2 _ _ _ f2).trans rfl
            have y3 : w4.cell? ⟨w.heap.size + 1, 3, none⟩ = some (.bool false) := (cell_of_row _ _ 3 _ _ _ f2).trans rfl
            have y4 : w4.cell? ⟨w.heap.size + 1, 4, none⟩ = some (.int .i64 1) := (cell_of_row _ _ 4 _ _ _ f2).trans rfl
            clear hb4 f1 f2 f3
            go_wp2_with fail
            go_ret
            exact ⟨by rw [← HR.out]; simp_all; try (intros; omega), F3.out⟩
        · have d5' : ((bl : Int) == 0) = false := by simpa using d5
          go_enter Tryd.func35, Tryd.ntmps35
          go_wp2_with fail
          refine (HN.out _).mono ?_
          rintro e w4 ⟨rfl, hb4⟩
          obtain ⟨f1, f2, f3⟩ := HF.out w4 hb4
          have F3 : Hid (Below w.heap.size w w4) := f3
          have x2 : w4.cell? ⟨w.heap.size, 2, none⟩ = some (.int .i64 _) := (cell_of_row _ _ 2 _ _ _ f1).trans rfl
          have x3 : w4.cell? ⟨w.heap.size, 3, none⟩ = some (.slice a1 m a3) := (cell_of_row _ _ 3 _ _ _ f1).trans rfl
          have x4 : w4.cell? ⟨w.heap.size, 4, none⟩ = some (.slice b1 bl b3) := (cell_of_row _ _ 4 _ _ _ f1).trans rfl
          have x5 : w4.cell? ⟨w.heap.size, 5, none⟩ = some (.slice e1 el e3) := (cell_of_row _ _ 5 _ _ _ f1).trans rfl
          have y1 : w4.cell? ⟨w.heap.size + 1, 1, none⟩ = some (.bool false) := (cell_of_row _ _ 1 _ _ _ f2).trans rfl
          have y2 : w4.cell? ⟨w.heap.size + 1, 2, none⟩ = some (.bool false) := (cell_of_row _ _ 2 _ _ _ f2).trans rfl
          have y3 : w4.cell? ⟨w.heap.size + 1, 3, none⟩ = some (.bool false) := (cell_of_row _ _ 3 _ _ _ f2).trans rfl
          have y4 : w4.cell? ⟨w.heap.size + 1, 4, none⟩ = some (.int .i64 1) := (cell_of_row _ _ 4 _ _ _ f2).trans rfl
          clear hb4 f1 f2 f3
          go_wp2_with fail
          go_ret
          exact ⟨by rw [← HR.out]; simp_all; try (intros; omega), F3.out⟩
      · have d4' : ((m : Int) == 1) = false := by simpa using d4
        go_enter Tryd.func35, Tryd.ntmps35
        go_wp2_with fail
        refine (HN.out _).mono ?_
        rintro e w4 ⟨rfl, hb4⟩
        obtain ⟨f1, f2, f3⟩ := HF.out w4 hb4
        have F3 : Hid (Below w.heap.size w w4) := f3
        have x2 : w4.cell? ⟨w.heap.size, 2, none⟩ = some (.int .i64 _) := (cell_of_row _ _ 2 _ _ _ f1).trans rfl
        have x3 : w4.cell? ⟨w.heap.size, 3, none⟩ = some (.slice a1 m a3) := (cell_of_row _ _ 3 _ _ _ f1).trans rfl
        have x4 : w4.cell? ⟨w.heap.size, 4, none⟩ = some (.slice b1 bl b3) := (cell_of_row _ _ 4 _ _ _ f1).trans rfl
        have x5 : w4.cell? ⟨w.heap.size, 5, none⟩ = some (.slice e1 el e3) := (cell_of_row _ _ 5 _ _ _ f1).trans rfl
        have y1 : w4.cell? ⟨w.heap.size + 1, 1, none⟩ = some (.bool false) := (cell_of_row _ _ 1 _ _ _ f2).trans rfl
        have y2 : w4.cell? ⟨w.heap.size + 1, 2, none⟩ = some (.bool false) := (cell_of_row _ _ 2 _ _ _ f2).trans rfl
        have y3 : w4.cell? ⟨w.heap.size + 1, 3, none⟩ = some (.bool false) := (cell_of_row _ _ 3 _ _ _ f2).trans rfl
        have y4 : w4.cell? ⟨w.heap.size + 1, 4, none⟩ = some (.int .i64 1) := (cell_of_row _ _ 4 _ _ _ f2).trans rfl
        clear hb4 f1 f2 f3
        go_wp2_with fail
        go_ret
        exact ⟨by rw [← HR.out]; simp_all; try (intros; omega), F3.out⟩
    · have e0 : (c == 0) = false := by simpa using c0
      go_enter Tryd.func35, Tryd.ntmps35
      go_wp2_with fail
      refine (HN.out _).mono ?_
      rintro e w4 ⟨rfl, hb4⟩
      obtain ⟨f1, f2, f3⟩ := HF.out w4 hb4
      have F3 : Hid (Below w.heap.size w w4) := f3
      have x2 : w4.cell? ⟨w.heap.size, 2, none⟩ = some (.int .i64 _) := (cell_of_row _ _ 2 _ _ _ f1).trans rfl
      have x3 : w4.cell? ⟨w.heap.size, 3, none⟩ = some (.slice a1 m a3) := (cell_of_row _ _ 3 _ _ _ f1).trans rfl
      have x4 : w4.cell? ⟨w.heap.size, 4, none⟩ = some (.slice b1 bl b3) := (cell_of_row _ _ 4 _ _ _ f1).trans rfl
      have x5 : w4.cell? ⟨w.heap.size, 5, none⟩ = some (.slice e1 el e3) := (cell_of_row _ _ 5 _ _ _ f1).trans rfl
      have y1 : w4.cell? ⟨w.heap.size + 1, 1, none⟩ = some (.bool false) := (cell_of_row _ _ 1 _ _ _ f2).trans rfl
      have y2 : w4.cell? ⟨w.heap.size + 1, 2, none⟩ = some (.bool false) := (cell_of_row _ _ 2 _ _ _ f2).trans rfl
      have y3 : w4.cell? ⟨w.heap.size + 1, 3, none⟩ = some (.bool false) := (cell_of_row _ _ 3 _ _ _ f2).trans rfl
      have y4 : w4.cell? ⟨w.heap.size + 1, 4, none⟩ = some (.int .i64 1) := (cell_of_row _ _ 4 _ _ _ f2).trans rfl
      clear hb4 f1 f2 f3
      go_wp2_with fail
      go_ret
      exact ⟨by rw [← HR.out]; simp_all; try (intros; omega), F3.out⟩

set_option maxRecDepth 100000 in
set_option maxHeartbeats 8000000 in
theorem stmtFits_3 (s : ByteArray) (c : Int) (a1 b1 e1 : Option Addr) (m a3 bl b3 el e3 : Nat) (hm : m ≤ 9223372036854775807) (hm1 : bl ≤ 9223372036854775807) (hm2 : el ≤ 9223372036854775807) (hs : s.size ≤ maxLen) (w : World) (hT : TB w) : Calls Tryd.prog 35 #[.agg #[.int .i64 3, .string s, .int .i64 c, .slice a1 m a3, .slice b1 bl b3, .slice e1 el e3]] w (QB w (stmtB ⟨false, false, false, false, 2⟩ s c m bl el)) := by
  obtain ⟨_, ⟨ty, fr, hT⟩⟩ := hT
  have hlt : 1 < w.heap.size := (Array.getElem?_eq_some_iff.1 hT).1
  have t0 : ∀ A, (w.alloc A).cell? ⟨1, 15, none⟩ = some (.bool false) := fun A => by rw [World.cell?_of_block (a := ⟨1, 15, none⟩) (Below.heap_alloc _ _ _ hlt)]; exact (cell_of_row w 1 15 _ _ _ hT).trans rfl
  have t1 : ∀ A, (w.alloc A).cell? ⟨1, 16, none⟩ = some (.bool false) := fun A => by rw [World.cell?_of_block (a := ⟨1, 16, none⟩) (Below.heap_alloc _ _ _ hlt)]; exact (cell_of_row w 1 16 _ _ _ hT).trans rfl
  have t2 : ∀ A, (w.alloc A).cell? ⟨1, 17, none⟩ = some (.bool false) := fun A => by rw [World.cell?_of_block (a := ⟨1, 17, none⟩) (Below.heap_alloc _ _ _ hlt)]; exact (cell_of_row w 1 17 _ _ _ hT).trans rfl
  have t3 : ∀ A, (w.alloc A).cell? ⟨1, 18, none⟩ = some (.bool false) := fun A => by rw [World.cell?_of_block (a := ⟨1, 18, none⟩) (Below.heap_alloc _ _ _ hlt)]; exact (cell_of_row w 1 18 _ _ _ hT).trans rfl
  have t4 : ∀ A, (w.alloc A).cell? ⟨1, 19, none⟩ = some (.int .i64 2) := fun A => by rw [World.cell?_of_block (a := ⟨1, 19, none⟩) (Below.heap_alloc _ _ _ hlt)]; exact (cell_of_row w 1 19 _ _ _ hT).trans rfl
  have HN : Hid (∀ W, Calls Tryd.prog 48 #[.string s, .bool false] W (QB W (nameF s false))) := fun W => nameFits_any s false hs W
  obtain ⟨res, hres⟩ : ∃ r, stmtB ⟨false, false, false, false, 2⟩ s c m bl el = r := ⟨_, rfl⟩
  have HR : Hid (stmtB ⟨false, false, false, false, 2⟩ s c m bl el = res) := hres
  rw [hres]
  unfold stmtB at HR
  simp only at HR
  obtain ⟨z2, hz2⟩ : ∃ b, nameF s false = b := ⟨_, rfl⟩
  rw [hz2] at HN HR
  clear hres hz2 hT hs
  have HB2 : Hid (Below w.heap.size w ((w.alloc (.cells #[.int .i64 3, .string s, .int .i64 c, .slice a1 m a3, .slice b1 bl b3, .slice e1 el e3] 39)).alloc (.cells #[.bool false, .bool false, .bool false, .bool false, .int .i64 2] 87))) := ((Below.refl _ _).alloc (Nat.le_refl _) _).alloc (by simp) _
  have HF : Hid (∀ w4, Below ((w.alloc (.cells #[.int .i64 3, .string s, .int .i64 c, .slice a1 m a3, .slice b1 bl b3, .slice e1 el e3] 39)).alloc (.cells #[.bool false, .bool false, .bool false, .bool false, .int .i64 2] 87)).heap.size ((w.alloc (.cells #[.int .i64 3, .string s, .int .i64 c, .slice a1 m a3, .slice b1 bl b3, .slice e1 el e3] 39)).alloc (.cells #[.bool false, .bool false, .bool false, .bool false, .int .i64 2] 87)) w4 → w4.heap[w.heap.size]? = some (.cells #[.int .i64 3, .string s, .int .i64 c, .slice a1 m a3, .slice b1 bl b3, .slice e1 el e3] 39) ∧ w4.heap[w.heap.size + 1]? = some (.cells #[.bool false, .bool false, .bool false, .bool false, .int .i64 2] 87) ∧ Below w.heap.size w w4) := by
    intro w4 hb
    refine ⟨(hb.block _ (by simp; omega)).trans ((Below.heap_alloc _ _ _ (by simp)).trans (heap_alloc_new w _)), (hb.block _ (by simp)).trans ?_, HB2.out.trans (hb.mono (by simp; omega))⟩
    have := heap_alloc_new (w.alloc (.cells #[.int .i64 3, .string s, .int .i64 c, .slice a1 m a3, .slice b1 bl b3, .slice e1 el e3] 39)) (.cells #[.bool false, .bool false, .bool false, .bool false, .int .i64 2] 87)
    rw [show (w.alloc (.cells #[.int .i64 3, .string s, .int .i64 c, .slice a1 m a3, .slice b1 bl b3, .slice e1 el e3] 39)).heap.size = w.heap.size + 1 by simp] at this
    exact this
  cases z2
  · go_enter Tryd.func35, Tryd.ntmps35
    go_wp2_with fail
    refine (HN.out _).mono ?_
    rintro e w4 ⟨rfl, hb4⟩
    obtain ⟨f1, f2, f3⟩ := HF.out w4 hb4
    have F3 : Hid (Below w.heap.size w w4) := f3
    have x2 : w4.cell? ⟨w.heap.size, 2, none⟩ = some (.int .i64 _) := (cell_of_row _ _ 2 _ _ _ f1).trans rfl
    have x3 : w4.cell? ⟨w.heap.size, 3, none⟩ = some (.slice a1 m a3) := (cell_of_row _ _ 3 _ _ _ f1).trans rfl
    have x4 : w4.cell? ⟨w.heap.size, 4, none⟩ = some (.slice b1 bl b3) := (cell_of_row _ _ 4 _ _ _ f1).trans rfl
    have x5 : w4.cell? ⟨w.heap.size, 5, none⟩ = some (.slice e1 el e3) := (cell_of_row _ _ 5 _ _ _ f1).trans rfl
    have y1 : w4.cell? ⟨w.heap.size + 1, 1, none⟩ = some (.bool false) := (cell_of_row _ _ 1 _ _ _ f2).trans rfl
    have y2 : w4.cell? ⟨w.heap.size + 1, 2, none⟩ = some (.bool false) := (cell_of_row _ _ 2 _ _ _ f2).trans rfl
    have y3 : w4.cell? ⟨w.heap.size + 1, 3, none⟩ = some (.bool false) := (cell_of_row _ _ 3 _ _ _ f2).trans rfl
    have y4 : w4.cell? ⟨w.heap.size + 1, 4, none⟩ = some (.int .i64 2) := (cell_of_row _ _ 4 _ _ _ f2).trans rfl
    clear hb4 f1 f2 f3
    go_wp2_with fail
    go_ret
    exact ⟨by rw [← HR.out]; simp_all; try (intros; omega), F3.out⟩
  · by_cases c0 : c = 0
    · subst c0
      by_cases d4 : (m : Int) = 2
      · have d4' : ((m : Int) == 2) = true := by simpa using d4
        by_cases d5 : (bl : Int) = 0
        · have d5' : ((bl : Int) == 0) = true := by simpa using d5
          by_cases d6 : (el : Int) = 0
          · have d6' : ((el : Int) == 0) = true := by simpa using d6
            go_enter Tryd.func35, Tryd.ntmps35
            go_wp2_with fail
            refine (HN.out _).mono ?_
            rintro e w4 ⟨rfl, hb4⟩
            obtain ⟨f1, f2, f3⟩ := HF.out w4 hb4
            have F3 : Hid (Below w.heap.size w w4) := f3
            have x2 : w4.cell? ⟨w.heap.size, 2, none⟩ = some (.int .i64 _) := (cell_of_row _ _ 2 _ _ _ f1).trans rfl
            have x3 : w4.cell? ⟨w.heap.size, 3, none⟩ = some (.slice a1 m a3) := (cell_of_row _ _ 3 _ _ _ f1).trans rfl
            have x4 : w4.cell? ⟨w.heap.size, 4, none⟩ = some (.slice b1 bl b3) := (cell_of_row _ _ 4 _ _ _ f1).trans rfl
            have x5 : w4.cell? ⟨w.heap.size, 5, none⟩ = some (.slice e1 el e3) := (cell_of_row _ _ 5 _ _ _ f1).trans rfl
            have y1 : w4.cell? ⟨w.heap.size + 1, 1, none⟩ = some (.bool false) := (cell_of_row _ _ 1 _ _ _ f2).trans rfl
            have y2 : w4.cell? ⟨w.heap.size + 1, 2, none⟩ = some (.bool false) := (cell_of_row _ _ 2 _ _ _ f2).trans rfl
            have y3 : w4.cell? ⟨w.heap.size + 1, 3, none⟩ = some (.bool false) := (cell_of_row _ _ 3 _ _ _ f2).trans rfl
            have y4 : w4.cell? ⟨w.heap.size + 1, 4, none⟩ = some (.int .i64 2) := (cell_of_row _ _ 4 _ _ _ f2).trans rfl
            clear hb4 f1 f2 f3
            go_wp2_with fail
            go_ret
            exact ⟨by rw [← HR.out]; simp_all; try (intros; omega), F3.out⟩
          · have d6' : ((el : Int) == 0) = false := by simpa using d6
            go_enter Tryd.func35, Tryd.ntmps35
            go_wp2_with fail
            refine (HN.out _).mono ?_
            rintro e w4 ⟨rfl, hb4⟩
            obtain ⟨f1, f2, f3⟩ := HF.out w4 hb4
            have F3 : Hid (Below w.heap.size w w4) := f3
            have x2 : w4.cell? ⟨w.heap.size, 2, none⟩ = some (.int .i64 _) := (cell_of_row _ _ 2 _ _ _ f1).trans rfl
            have x3 : w4.cell? ⟨w.heap.size, 3, none⟩ = some (.slice a1 m a3) := (cell_of_row _ _ 3 _ _ _ f1).trans rfl
            have x4 : w4.cell? ⟨w.heap.size, 4, none⟩ = some (.slice b1 bl b3) := (cell_of_row _ _ 4 _ _ _ f1).trans rfl
            have x5 : w4.cell? ⟨w.heap.size, 5, none⟩ = some (.slice e1 el e3) := (cell_of_row _ _ 5 _ _ _ f1).trans rfl
            have y1 : w4.cell? ⟨w.heap.size + 1, 1, none⟩ = some (.bool false) := (cell_of_row _ _ 1 _ _ _ f2).trans rfl
            have y2 : w4.cell? ⟨w.heap.size + 1, 2, none⟩ = some (.bool false) := (cell_of_row _ _ 2 _ _ _ f2).trans rfl
            have y3 : w4.cell? ⟨w.heap.size + 1, 3, none⟩ = some (.bool false) := (cell_of_row _ _ 3 _ _ _ f2).trans rfl
            have y4 : w4.cell? ⟨w.heap.size + 1, 4, none⟩ = some (.int .i64 2) := (cell_of_row _ _ 4 _ _ _ f2).trans rfl
            clear hb4 f1 f2 f3
            go_wp2_with fail
            go_ret
            exact ⟨by rw [← HR.out]; simp_all; try (intros; omega), F3.out⟩
        · have d5' : ((bl : Int) == 0) = false := by simpa using d5
          go_enter Tryd.func35, Tryd.ntmps35
          go_wp2_with fail
          refine (HN.out _).mono ?_
          rintro e w4 ⟨rfl, hb4⟩
          obtain ⟨f1, f2, f3⟩ := HF.out w4 hb4
          have F3 : Hid (Below w.heap.size w w4) := f3
          have x2 : w4.cell? ⟨w.heap.size, 2, none⟩ = some (.int .i64 _) := (cell_of_row _ _ 2 _ _ _ f1).trans rfl
          have x3 : w4.cell? ⟨w.heap.size, 3, none⟩ = some (.slice a1 m a3) := (cell_of_row _ _ 3 _ _ _ f1).trans rfl
          have x4 : w4.cell? ⟨w.heap.size, 4, none⟩ = some (.slice b1 bl b3) := (cell_of_row _ _ 4 _ _ _ f1).trans rfl
          have x5 : w4.cell? ⟨w.heap.size, 5, none⟩ = some (.slice e1 el e3) := (cell_of_row _ _ 5 _ _ _ f1).trans rfl
          have y1 : w4.cell? ⟨w.heap.size + 1, 1, none⟩ = some (.bool false) := (cell_of_row _ _ 1 _ _ _ f2).trans rfl
          have y2 : w4.cell? ⟨w.heap.size + 1, 2, none⟩ = some (.bool false) := (cell_of_row _ _ 2 _ _ _ f2).trans rfl
          have y3 : w4.cell? ⟨w.heap.size + 1, 3, none⟩ = some (.bool false) := (cell_of_row _ _ 3 _ _ _ f2).trans rfl
          have y4 : w4.cell? ⟨w.heap.size + 1, 4, none⟩ = some (.int .i64 2) := (cell_of_row _ _ 4 _ _ _ f2).trans rfl
          clear hb4 f1 f2 f3
          go_wp2_with fail
          go_ret
          exact ⟨by rw [← HR.out]; simp_all; try (intros; omega), F3.out⟩
      · have d4' : ((m : Int) == 2) = false := by simpa using d4
        go_enter Tryd.func35, Tryd.ntmps35
        go_wp2_with fail
        refine (HN.out _).mono ?_
        rintro e w4 ⟨rfl, hb4⟩
        obtain ⟨f1, f2, f3⟩ := HF.out w4 hb4
        have F3 : Hid (Below w.heap.size w w4) := f3
        have x2 : w4.cell? ⟨w.heap.size, 2, none⟩ = some (.int .i64 _) := (cell_of_row _ _ 2 _ _ _ f1).trans rfl
        have x3 : w4.cell? ⟨w.heap.size, 3, none⟩ = some (.slice a1 m a3) := (cell_of_row _ _ 3 _ _ _ f1).trans rfl
        have x4 : w4.cell? ⟨w.heap.size, 4, none⟩ = some (.slice b1 bl b3) := (cell_of_row _ _ 4 _ _ _ f1).trans rfl
        have x5 : w4.cell? ⟨w.heap.size, 5, none⟩ = some (.slice e1 el e3) := (cell_of_row _ _ 5 _ _ _ f1).trans rfl
        have y1 : w4.cell? ⟨w.heap.size + 1, 1, none⟩ = some (.bool false) := (cell_of_row _ _ 1 _ _ _ f2).trans rfl
        have y2 : w4.cell? ⟨w.heap.size + 1, 2, none⟩ = some (.bool false) := (cell_of_row _ _ 2 _ _ _ f2).trans rfl
        have y3 : w4.cell? ⟨w.heap.size + 1, 3, none⟩ = some (.bool false) := (cell_of_row _ _ 3 _ _ _ f2).trans rfl
        have y4 : w4.cell? ⟨w.heap.size + 1, 4, none⟩ = some (.int .i64 2) := (cell_of_row _ _ 4 _ _ _ f2).trans rfl
        clear hb4 f1 f2 f3
        go_wp2_with fail
        go_ret
        exact ⟨by rw [← HR.out]; simp_all; try (intros; omega), F3.out⟩
    · have e0 : (c == 0) = false := by simpa using c0
      go_enter Tryd.func35, Tryd.ntmps35
      go_wp2_with fail
      refine (HN.out _).mono ?_
      rintro e w4 ⟨rfl, hb4⟩
      obtain ⟨f1, f2, f3⟩ := HF.out w4 hb4
      have F3 : Hid (Below w.heap.size w w4) := f3
      have x2 : w4.cell? ⟨w.heap.size, 2, none⟩ = some (.int .i64 _) := (cell_of_row _ _ 2 _ _ _ f1).trans rfl
      have x3 : w4.cell? ⟨w.heap.size, 3, none⟩ = some (.slice a1 m a3) := (cell_of_row _ _ 3 _ _ _ f1).trans rfl
      have x4 : w4.cell? ⟨w.heap.size, 4, none⟩ = some (.slice b1 bl b3) := (cell_of_row _ _ 4 _ _ _ f1).trans rfl
      have x5 : w4.cell? ⟨w.heap.size, 5, none⟩ = some (.slice e1 el e3) := (cell_of_row _ _ 5 _ _ _ f1).trans rfl
      have y1 : w4.cell? ⟨w.heap.size + 1, 1, none⟩ = some (.bool false) := (cell_of_row _ _ 1 _ _ _ f2).trans rfl
      have y2 : w4.cell? ⟨w.heap.size + 1, 2, none⟩ = some (.bool false) := (cell_of_row _ _ 2 _ _ _ f2).trans rfl
      have y3 : w4.cell? ⟨w.heap.size + 1, 3, none⟩ = some (.bool false) := (cell_of_row _ _ 3 _ _ _ f2).trans rfl
      have y4 : w4.cell? ⟨w.heap.size + 1, 4, none⟩ = some (.int .i64 2) := (cell_of_row _ _ 4 _ _ _ f2).trans rfl
      clear hb4 f1 f2 f3
      go_wp2_with fail
      go_ret
      exact ⟨by rw [← HR.out]; simp_all; try (intros; omega), F3.out⟩

set_option maxRecDepth 100000 in
set_option maxHeartbeats 8000000 in
theorem stmtFits_4 (s : ByteArray) (c : Int) (a1 b1 e1 : Option Addr) (m a3 bl b3 el e3 : Nat) (hm : m ≤ 9223372036854775807) (hm1 : bl ≤ 9223372036854775807) (hm2 : el ≤ 9223372036854775807) (hs : s.size ≤ maxLen) (w : World) (hT : TB w) : Calls Tryd.prog 35 #[.agg #[.int .i64 4, .string s, .int .i64 c, .slice a1 m a3, .slice b1 bl b3, .slice e1 el e3]] w (QB w (stmtB ⟨false, false, false, false, 1⟩ s c m bl el)) := by
  obtain ⟨_, ⟨ty, fr, hT⟩⟩ := hT
  have hlt : 1 < w.heap.size := (Array.getElem?_eq_some_iff.1 hT).1
  have t0 : ∀ A, (w.alloc A).cell? ⟨1, 20, none⟩ = some (.bool false) := fun A => by rw [World.cell?_of_block (a := ⟨1, 20, none⟩) (Below.heap_alloc _ _ _ hlt)]; exact (cell_of_row w 1 20 _ _ _ hT).trans rfl
  have t1 : ∀ A, (w.alloc A).cell? ⟨1, 21, none⟩ = some (.bool false) := fun A => by rw [World.cell?_of_block (a := ⟨1, 21, none⟩) (Below.heap_alloc _ _ _ hlt)]; exact (cell_of_row w 1 21 _ _ _ hT).trans rfl
  have t2 : ∀ A, (w.alloc A).cell? ⟨1, 22, none⟩ = some (.bool false) := fun A => by rw [World.cell?_of_block (a := ⟨1, 22, none⟩) (Below.heap_alloc _ _ _ hlt)]; exact (cell_of_row w 1 22 _ _ _ hT).trans rfl
  have t3 : ∀ A, (w.alloc A).cell? ⟨1, 23, none⟩ = some (.bool false) := fun A => by rw [World.cell?_of_block (a := ⟨1, 23, none⟩) (Below.heap_alloc _ _ _ hlt)]; exact (cell_of_row w 1 23 _ _ _ hT).trans rfl
  have t4 : ∀ A, (w.alloc A).cell? ⟨1, 24, none⟩ = some (.int .i64 1) := fun A => by rw [World.cell?_of_block (a := ⟨1, 24, none⟩) (Below.heap_alloc _ _ _ hlt)]; exact (cell_of_row w 1 24 _ _ _ hT).trans rfl
  have HN : Hid (∀ W, Calls Tryd.prog 48 #[.string s, .bool false] W (QB W (nameF s false))) := fun W => nameFits_any s false hs W
  obtain ⟨res, hres⟩ : ∃ r, stmtB ⟨false, false, false, false, 1⟩ s c m bl el = r := ⟨_, rfl⟩
  have HR : Hid (stmtB ⟨false, false, false, false, 1⟩ s c m bl el = res) := hres
  rw [hres]
  unfold stmtB at HR
  simp only at HR
  obtain ⟨z2, hz2⟩ : ∃ b, nameF s false = b := ⟨_, rfl⟩
  rw [hz2] at HN HR
  clear hres hz2 hT hs
  have HB2 : Hid (Below w.heap.size w ((w.alloc (.cells #[.int .i64 4, .string s, .int .i64 c, .slice a1 m a3, .slice b1 bl b3, .slice e1 el e3] 39)).alloc (.cells #[.bool false, .bool false, .bool false, .bool false, .int .i64 1] 87))) := ((Below.refl _ _).alloc (Nat.le_refl _) _).alloc (by simp) _
  have HF : Hid (∀ w4, Below ((w.alloc (.cells #[.int .i64 4, .string s, .int .i64 c, .slice a1 m a3, .slice b1 bl b3, .slice e1 el e3] 39)).alloc (.cells #[.bool false, .bool false, .bool false, .bool false, .int .i64 1] 87)).heap.size ((w.alloc (.cells #[.int .i64 4, .string s, .int .i64 c, .slice a1 m a3, .slice b1 bl b3, .slice e1 el e3] 39)).alloc (.cells #[.bool false, .bool false, .bool false, .bool false, .int .i64 1] 87)) w4 → w4.heap[w.heap.size]? = some (.cells #[.int .i64 4, .string s, .int .i64 c, .slice a1 m a3, .slice b1 bl b3, .slice e1 el e3] 39) ∧ w4.heap[w.heap.size + 1]? = some (.cells #[.bool false, .bool false, .bool false, .bool false, .int .i64 1] 87) ∧ Below w.heap.size w w4) := by
    intro w4 hb
    refine ⟨(hb.block _ (by simp; omega)).trans ((Below.heap_alloc _ _ _ (by simp)).trans (heap_alloc_new w _)), (hb.block _ (by simp)).trans ?_, HB2.out.trans (hb.mono (by simp; omega))⟩
    have := heap_alloc_new (w.alloc (.cells #[.int .i64 4, .string s, .int .i64 c, .slice a1 m a3, .slice b1 bl b3, .slice e1 el e3] 39)) (.cells #[.bool false, .bool false, .bool false, .bool false, .int .i64 1] 87)
    rw [show (w.alloc (.cells #[.int .i64 4, .string s, .int .i64 c, .slice a1 m a3, .slice b1 bl b3, .slice e1 el e3] 39)).heap.size = w.heap.size + 1 by simp] at this
    exact this
  cases z2
  · go_enter Tryd.func35, Tryd.ntmps35
    go_wp2_with fail
    refine (HN.out _).mono ?_
    rintro e w4 ⟨rfl, hb4⟩
    obtain ⟨f1, f2, f3⟩ := HF.out w4 hb4
    have F3 : Hid (Below w.heap.size w w4) := f3
    have x2 : w4.cell? ⟨w.heap.size, 2, none⟩ = some (.int .i64 _) := (cell_of_row _ _ 2 _ _ _ f1).trans rfl
    have x3 : w4.cell? ⟨w.heap.size, 3, none⟩ = some (.slice a1 m a3) := (cell_of_row _ _ 3 _ _ _ f1).trans rfl
    have x4 : w4.cell? ⟨w.heap.size, 4, none⟩ = some (.slice b1 bl b3) := (cell_of_row _ _ 4 _ _ _ f1).trans rfl
    have x5 : w4.cell? ⟨w.heap.size, 5, none⟩ = some (.slice e1 el e3) := (cell_of_row _ _ 5 _ _ _ f1).trans rfl
    have y1 : w4.cell? ⟨w.heap.size + 1, 1, none⟩ = some (.bool false) := (cell_of_row _ _ 1 _ _ _ f2).trans rfl
    have y2 : w4.cell? ⟨w.heap.size + 1, 2, none⟩ = some (.bool false) := (cell_of_row _ _ 2 _ _ _ f2).trans rfl
    have y3 : w4.cell? ⟨w.heap.size + 1, 3, none⟩ = some (.bool false) := (cell_of_row _ _ 3 _ _ _ f2).trans rfl
    have y4 : w4.cell? ⟨w.heap.size + 1, 4, none⟩ = some (.int .i64 1) := (cell_of_row _ _ 4 _ _ _ f2).trans rfl
    clear hb4 f1 f2 f3
    go_wp2_with fail
    go_ret
    exact ⟨by rw [← HR.out]; simp_all; try (intros; omega), F3.out⟩
  · by_cases c0 : c = 0
    · subst c0
      by_cases d4 : (m : Int) = 1
      · have d4' : ((m : Int) == 1) = true := by simpa using d4
        by_cases d5 : (bl : Int) = 0
        · have d5' : ((bl : Int) == 0) = true := by simpa using d5
          by_cases d6 : (el : Int) = 0
          · have d6' : ((el : Int) == 0) = true := by simpa using d6
            go_enter Tryd.func35, Tryd.ntmps35
            go_wp2_with fail
            refine (HN.out _).mono ?_
            rintro e w4 ⟨rfl, hb4⟩
            obtain ⟨f1, f2, f3⟩ := HF.out w4 hb4
            have F3 : Hid (Below w.heap.size w w4) := f3
            have x2 : w4.cell? ⟨w.heap.size, 2, none⟩ = some (.int .i64 _) := (cell_of_row _ _ 2 _ _ _ f1).trans rfl
            have x3 : w4.cell? ⟨w.heap.size, 3, none⟩ = some (.slice a1 m a3) := (cell_of_row _ _ 3 _ _ _ f1).trans rfl
            have x4 : w4.cell? ⟨w.heap.size, 4, none⟩ = some (.slice b1 bl b3) := (cell_of_row _ _ 4 _ _ _ f1).trans rfl
            have x5 : w4.cell? ⟨w.heap.size, 5, none⟩ = some (.slice e1 el e3) := (cell_of_row _ _ 5 _ _ _ f1).trans rfl
            have y1 : w4.cell? ⟨w.heap.size + 1, 1, none⟩ = some (.bool false) := (cell_of_row _ _ 1 _ _ _ f2).trans rfl
            have y2 : w4.cell? ⟨w.heap.size + 1, 2, none⟩ = some (.bool false) := (cell_of_row _ _ 2 _ _ _ f2).trans rfl
            have y3 : w4.cell? ⟨w.heap.size + 1, 3, none⟩ = some (.bool false) := (cell_of_row _ _ 3 _ _ _ f2).trans rfl
            have y4 : w4.cell? ⟨w.heap.size + 1, 4, none⟩ = some (.int .i64 1) := (cell_of_row _ _ 4 _ _ _ f2).trans rfl
            clear hb4 f1 f2 f3
            go_wp2_with fail
            go_ret
            exact ⟨by rw [← HR.out]; simp_all; try (intros; omega), F3.out⟩
          · have d6' : ((el : Int) == 0) = false := by simpa using d6
            go_enter Tryd.func35, Tryd.ntmps35
            go_wp2_with fail
            refine (HN.out _).mono ?_
            rintro e w4 ⟨rfl, hb4⟩
            obtain ⟨f1, f2, f3⟩ := HF.out w4 hb4
            have F3 : Hid (Below w.heap.size w w4) := f3
            have x2 : w4.cell? ⟨w.heap.size, 2, none⟩ = some (.int .i64 _) := (cell_of_row _ _ 2 _ _ _ f1).trans rfl
            have x3 : w4.cell? ⟨w.heap.size, 3, none⟩ = some (.slice a1 m a3) := (cell_of_row _ _ 3 _ _ _ f1).trans rfl
            have x4 : w4.cell? ⟨w.heap.size, 4, none⟩ = some (.slice b1 bl b3) := (cell_of_row _ _ 4 _ _ _ f1).trans rfl
            have x5 : w4.cell? ⟨w.heap.size, 5, none⟩ = some (.slice e1 el e3) := (cell_of_row _ _ 5 _ _ _ f1).trans rfl
            have y1 : w4.cell? ⟨w.heap.size + 1, 1, none⟩ = some (.bool false) := (cell_of_row _ _ 1 _ _ _ f2).trans rfl
            have y2 : w4.cell? ⟨w.heap.size + 1, 2, none⟩ = some (.bool false) := (cell_of_row _ _ 2 _ _ _ f2).trans rfl
            have y3 : w4.cell? ⟨w.heap.size + 1, 3, none⟩ = some (.bool false) := (cell_of_row _ _ 3 _ _ _ f2).trans rfl
            have y4 : w4.cell? ⟨w.heap.size + 1, 4, none⟩ = some (.int .i64 1) := (cell_of_row _ _ 4 _ _ _ f2).trans rfl
            clear hb4 f1 f2 f3
            go_wp2_with fail
            go_ret
            exact ⟨by rw [← HR.out]; simp_all; try (intros; omega), F3.out⟩
        · have d5' : ((bl : Int) == 0) = false := by simpa using d5
          go_enter Tryd.func35, Tryd.ntmps35
          go_wp2_with fail
          refine (HN.out _).mono ?_
          rintro e w4 ⟨rfl, hb4⟩
          obtain ⟨f1, f2, f3⟩ := HF.out w4 hb4
          have F3 : Hid (Below w.heap.size w w4) := f3
          have x2 : w4.cell? ⟨w.heap.size, 2, none⟩ = some (.int .i64 _) := (cell_of_row _ _ 2 _ _ _ f1).trans rfl
          have x3 : w4.cell? ⟨w.heap.size, 3, none⟩ = some (.slice a1 m a3) := (cell_of_row _ _ 3 _ _ _ f1).trans rfl
          have x4 : w4.cell? ⟨w.heap.size, 4, none⟩ = some (.slice b1 bl b3) := (cell_of_row _ _ 4 _ _ _ f1).trans rfl
          have x5 : w4.cell? ⟨w.heap.size, 5, none⟩ = some (.slice e1 el e3) := (cell_of_row _ _ 5 _ _ _ f1).trans rfl
          have y1 : w4.cell? ⟨w.heap.size + 1, 1, none⟩ = some (.bool false) := (cell_of_row _ _ 1 _ _ _ f2).trans rfl
          have y2 : w4.cell? ⟨w.heap.size + 1, 2, none⟩ = some (.bool false) := (cell_of_row _ _ 2 _ _ _ f2).trans rfl
          have y3 : w4.cell? ⟨w.heap.size + 1, 3, none⟩ = some (.bool false) := (cell_of_row _ _ 3 _ _ _ f2).trans rfl
          have y4 : w4.cell? ⟨w.heap.size + 1, 4, none⟩ = some (.int .i64 1) := (cell_of_row _ _ 4 _ _ _ f2).trans rfl
          clear hb4 f1 f2 f3
          go_wp2_with fail
          go_ret
          exact ⟨by rw [← HR.out]; simp_all; try (intros; omega), F3.out⟩
      · have d4' : ((m : Int) == 1) = false := by simpa using d4
        go_enter Tryd.func35, Tryd.ntmps35
        go_wp2_with fail
        refine (HN.out _).mono ?_
        rintro e w4 ⟨rfl, hb4⟩
        obtain ⟨f1, f2, f3⟩ := HF.out w4 hb4
        have F3 : Hid (Below w.heap.size w w4) := f3
        have x2 : w4.cell? ⟨w.heap.size, 2, none⟩ = some (.int .i64 _) := (cell_of_row _ _ 2 _ _ _ f1).trans rfl
        have x3 : w4.cell? ⟨w.heap.size, 3, none⟩ = some (.slice a1 m a3) := (cell_of_row _ _ 3 _ _ _ f1).trans rfl
        have x4 : w4.cell? ⟨w.heap.size, 4, none⟩ = some (.slice b1 bl b3) := (cell_of_row _ _ 4 _ _ _ f1).trans rfl
        have x5 : w4.cell? ⟨w.heap.size, 5, none⟩ = some (.slice e1 el e3) := (cell_of_row _ _ 5 _ _ _ f1).trans rfl
        have y1 : w4.cell? ⟨w.heap.size + 1, 1, none⟩ = some (.bool false) := (cell_of_row _ _ 1 _ _ _ f2).trans rfl
        have y2 : w4.cell? ⟨w.heap.size + 1, 2, none⟩ = some (.bool false) := (cell_of_row _ _ 2 _ _ _ f2).trans rfl
        have y3 : w4.cell? ⟨w.heap.size + 1, 3, none⟩ = some (.bool false) := (cell_of_row _ _ 3 _ _ _ f2).trans rfl
        have y4 : w4.cell? ⟨w.heap.size + 1, 4, none⟩ = some (.int .i64 1) := (cell_of_row _ _ 4 _ _ _ f2).trans rfl
        clear hb4 f1 f2 f3
        go_wp2_with fail
        go_ret
        exact ⟨by rw [← HR.out]; simp_all; try (intros; omega), F3.out⟩
    · have e0 : (c == 0) = false := by simpa using c0
      go_enter Tryd.func35, Tryd.ntmps35
      go_wp2_with fail
      refine (HN.out _).mono ?_
      rintro e w4 ⟨rfl, hb4⟩
      obtain ⟨f1, f2, f3⟩ := HF.out w4 hb4
      have F3 : Hid (Below w.heap.size w w4) := f3
      have x2 : w4.cell? ⟨w.heap.size, 2, none⟩ = some (.int .i64 _) := (cell_of_row _ _ 2 _ _ _ f1).trans rfl
      have x3 : w4.cell? ⟨w.heap.size, 3, none⟩ = some (.slice a1 m a3) := (cell_of_row _ _ 3 _ _ _ f1).trans rfl
      have x4 : w4.cell? ⟨w.heap.size, 4, none⟩ = some (.slice b1 bl b3) := (cell_of_row _ _ 4 _ _ _ f1).trans rfl
      have x5 : w4.cell? ⟨w.heap.size, 5, none⟩ = some (.slice e1 el e3) := (cell_of_row _ _ 5 _ _ _ f1).trans rfl
      have y1 : w4.cell? ⟨w.heap.size + 1, 1, none⟩ = some (.bool false) := (cell_of_row _ _ 1 _ _ _ f2).trans rfl
      have y2 : w4.cell? ⟨w.heap.size + 1, 2, none⟩ = some (.bool false) := (cell_of_row _ _ 2 _ _ _ f2).trans rfl
      have y3 : w4.cell? ⟨w.heap.size + 1, 3, none⟩ = some (.bool false) := (cell_of_row _ _ 3 _ _ _ f2).trans rfl
      have y4 : w4.cell? ⟨w.heap.size + 1, 4, none⟩ = some (.int .i64 1) := (cell_of_row _ _ 4 _ _ _ f2).trans rfl
      clear hb4 f1 f2 f3
      go_wp2_with fail
      go_ret
      exact ⟨by rw [← HR.out]; simp_all; try (intros; omega), F3.out⟩

set_option maxRecDepth 100000 in
set_option maxHeartbeats 8000000 in
theorem stmtFits_5 (s : ByteArray) (c : Int) (a1 b1 e1 : Option Addr) (m a3 bl b3 el e3 : Nat) (hm : m ≤ 9223372036854775807) (hm1 : bl ≤ 9223372036854775807) (hm2 : el ≤ 9223372036854775807) (hs : s.size ≤ maxLen) (w : World) (hT : TB w) : Calls Tryd.prog 35 #[.agg #[.int .i64 5, .string s, .int .i64 c, .slice a1 m a3, .slice b1 bl b3, .slice e1 el e3]] w (QB w (stmtB ⟨false, true, false, false, 1⟩ s c m bl el)) := by
  obtain ⟨_, ⟨ty, fr, hT⟩⟩ := hT
  have hlt : 1 < w.heap.size := (Array.getElem?_eq_some_iff.1 hT).1
  have t0 : ∀ A, (w.alloc A).cell? ⟨1, 25, none⟩ = some (.bool false) := fun A => by rw [World.cell?_of_block (a := ⟨1, 25, none⟩) (Below.heap_alloc _ _ _ hlt)]; exact (cell_of_row w 1 25 _ _ _ hT).trans rfl
  have t1 : ∀ A, (w.alloc A).cell? ⟨1, 26, none⟩ = some (.bool true) := fun A => by rw [World.cell?_of_block (a := ⟨1, 26, none⟩) (Below.heap_alloc _ _ _ hlt)]; exact (cell_of_row w 1 26 _ _ _ hT).trans rfl
  have t2 : ∀ A, (w.alloc A).cell? ⟨1, 27, none⟩ = some (.bool false) := fun A => by rw [World.cell?_of_block (a := ⟨1, 27, none⟩) (Below.heap_alloc _ _ _ hlt)]; exact (cell_of_row w 1 27 _ _ _ hT).trans rfl
  have t3 : ∀ A, (w.alloc A).cell? ⟨1, 28, none⟩ = some (.bool false) := fun A => by rw [World.cell?_of_block (a := ⟨1, 28, none⟩) (Below.heap_alloc _ _ _ hlt)]; exact (cell_of_row w 1 28 _ _ _ hT).trans rfl
  have t4 : ∀ A, (w.alloc A).cell? ⟨1, 29, none⟩ = some (.int .i64 1) := fun A => by rw [World.cell?_of_block (a := ⟨1, 29, none⟩) (Below.heap_alloc _ _ _ hlt)]; exact (cell_of_row w 1 29 _ _ _ hT).trans rfl
  have HN : Hid (∀ W, Calls Tryd.prog 48 #[.string s, .bool false] W (QB W (nameF s false))) := fun W => nameFits_any s false hs W
  obtain ⟨res, hres⟩ : ∃ r, stmtB ⟨false, true, false, false, 1⟩ s c m bl el = r := ⟨_, rfl⟩
  have HR : Hid (stmtB ⟨false, true, false, false, 1⟩ s c m bl el = res) := hres
  rw [hres]
  unfold stmtB at HR
  simp only at HR
  obtain ⟨z2, hz2⟩ : ∃ b, nameF s false = b := ⟨_, rfl⟩
  rw [hz2] at HN HR
  clear hres hz2 hT hs
  have HB2 : Hid (Below w.heap.size w ((w.alloc (.cells #[.int .i64 5, .string s, .int .i64 c, .slice a1 m a3, .slice b1 bl b3, .slice e1 el e3] 39)).alloc (.cells #[.bool false, .bool true, .bool false, .bool false, .int .i64 1] 87))) := ((Below.refl _ _).alloc (Nat.le_refl _) _).alloc (by simp) _
  have HF : Hid (∀ w4, Below ((w.alloc (.cells #[.int .i64 5, .string s, .int .i64 c, .slice a1 m a3, .slice b1 bl b3, .slice e1 el e3] 39)).alloc (.cells #[.bool false, .bool true, .bool false, .bool false, .int .i64 1] 87)).heap.size ((w.alloc (.cells #[.int .i64 5, .string s, .int .i64 c, .slice a1 m a3, .slice b1 bl b3, .slice e1 el e3] 39)).alloc (.cells #[.bool false, .bool true, .bool false, .bool false, .int .i64 1] 87)) w4 → w4.heap[w.heap.size]? = some (.cells #[.int .i64 5, .string s, .int .i64 c, .slice a1 m a3, .slice b1 bl b3, .slice e1 el e3] 39) ∧ w4.heap[w.heap.size + 1]? = some (.cells #[.bool false, .bool true, .bool false, .bool false, .int .i64 1] 87) ∧ Below w.heap.size w w4) := by
    intro w4 hb
    refine ⟨(hb.block _ (by simp; omega)).trans ((Below.heap_alloc _ _ _ (by simp)).trans (heap_alloc_new w _)), (hb.block _ (by simp)).trans ?_, HB2.out.trans (hb.mono (by simp; omega))⟩
    have := heap_alloc_new (w.alloc (.cells #[.int .i64 5, .string s, .int .i64 c, .slice a1 m a3, .slice b1 bl b3, .slice e1 el e3] 39)) (.cells #[.bool false, .bool true, .bool false, .bool false, .int .i64 1] 87)
    rw [show (w.alloc (.cells #[.int .i64 5, .string s, .int .i64 c, .slice a1 m a3, .slice b1 bl b3, .slice e1 el e3] 39)).heap.size = w.heap.size + 1 by simp] at this
    exact this
  cases z2
  · go_enter Tryd.func35, Tryd.ntmps35
    go_wp2_with fail
    refine (HN.out _).mono ?_
    rintro e w4 ⟨rfl, hb4⟩
    obtain ⟨f1, f2, f3⟩ := HF.out w4 hb4
    have F3 : Hid (Below w.heap.size w w4) := f3
    have x2 : w4.cell? ⟨w.heap.size, 2, none⟩ = some (.int .i64 _) := (cell_of_row _ _ 2 _ _ _ f1).trans rfl
    have x3 : w4.cell? ⟨w.heap.size, 3, none⟩ = some (.slice a1 m a3) := (cell_of_row _ _ 3 _ _ _ f1).trans rfl
    have x4 : w4.cell? ⟨w.heap.size, 4, none⟩ = some (.slice b1 bl b3) := (cell_of_row _ _ 4 _ _ _ f1).trans rfl
    have x5 : w4.cell? ⟨w.heap.size, 5, none⟩ = some (.slice e1 el e3) := (cell_of_row _ _ 5 _ _ _ f1).trans rfl
    have y1 : w4.cell? ⟨w.heap.size + 1, 1, none⟩ = some (.bool true) := (cell_of_row _ _ 1 _ _ _ f2).trans rfl
    have y2 : w4.cell? ⟨w.heap.size + 1, 2, none⟩ = some (.bool false) := (cell_of_row _ _ 2 _ _ _ f2).trans rfl
    have y3 : w4.cell? ⟨w.heap.size + 1, 3, none⟩ = some (.bool false) := (cell_of_row _ _ 3 _ _ _ f2).trans rfl
    have y4 : w4.cell? ⟨w.heap.size + 1, 4, none⟩ = some (.int .i64 1) := (cell_of_row _ _ 4 _ _ _ f2).trans rfl
    clear hb4 f1 f2 f3
    go_wp2_with fail
    go_ret
    exact ⟨by rw [← HR.out]; simp_all; try (intros; omega), F3.out⟩
  · by_cases c0 : c = 0
    · subst c0
      by_cases d4 : (m : Int) = 1
      · have d4' : ((m : Int) == 1) = true := by simpa using d4
        by_cases d5 : (bl : Int) = 0
        · have d5' : ((bl : Int) == 0) = true := by simpa using d5
          by_cases d6 : (el : Int) = 0
          · have d6' : ((el : Int) == 0) = true := by simpa using d6
            go_enter Tryd.func35, Tryd.ntmps35
            go_wp2_with fail
            refine (HN.out _).mono ?_
            rintro e w4 ⟨rfl, hb4⟩
            obtain ⟨f1, f2, f3⟩ := HF.out w4 hb4
            have F3 : Hid (Below w.heap.size w w4) := f3
            have x2 : w4.cell? ⟨w.heap.size, 2, none⟩ = some (.int .i64 _) := (cell_of_row _ _ 2 _ _ _ f1).trans rfl
            have x3 : w4.cell? ⟨w.heap.size, 3, none⟩ = some (.slice a1 m a3) := (cell_of_row _ _ 3 _ _ _ f1).trans rfl
            have x4 : w4.cell? ⟨w.heap.size, 4, none⟩ = some (.slice b1 bl b3) := (cell_of_row _ _ 4 _ _ _ f1).trans rfl
            have x5 : w4.cell? ⟨w.heap.size, 5, none⟩ = some (.slice e1 el e3) := (cell_of_row _ _ 5 _ _ _ f1).trans rfl
            have y1 : w4.cell? ⟨w.heap.size + 1, 1, none⟩ = some (.bool true) := (cell_of_row _ _ 1 _ _ _ f2).trans rfl
            have y2 : w4.cell? ⟨w.heap.size + 1, 2, none⟩ = some (.bool false) := (cell_of_row _ _ 2 _ _ _ f2).trans rfl
            have y3 : w4.cell? ⟨w.heap.size + 1, 3, none⟩ = some (.bool false) := (cell_of_row _ _ 3 _ _ _ f2).trans rfl
            have y4 : w4.cell? ⟨w.heap.size + 1, 4, none⟩ = some (.int .i64 1) := (cell_of_row _ _ 4 _ _ _ f2).trans rfl
            clear hb4 f1 f2 f3
            go_wp2_with fail
            go_ret
            exact ⟨by rw [← HR.out]; simp_all; try (intros; omega), F3.out⟩
          · have d6' : ((el : Int) == 0) = false := by simpa using d6
            go_enter Tryd.func35, Tryd.ntmps35
            go_wp2_with fail
            refine (HN.out _).mono ?_
            rintro e w4 ⟨rfl, hb4⟩
            obtain ⟨f1, f2, f3⟩ := HF.out w4 hb4
            have F3 : Hid (Below w.heap.size w w4) := f3
            have x2 : w4.cell? ⟨w.heap.size, 2, none⟩ = some (.int .i64 _) := (cell_of_row _ _ 2 _ _ _ f1).trans rfl
            have x3 : w4.cell? ⟨w.heap.size, 3, none⟩ = some (.slice a1 m a3) := (cell_of_row _ _ 3 _ _ _ f1).trans rfl
            have x4 : w4.cell? ⟨w.heap.size, 4, none⟩ = some (.slice b1 bl b3) := (cell_of_row _ _ 4 _ _ _ f1).trans rfl
            have x5 : w4.cell? ⟨w.heap.size, 5, none⟩ = some (.slice e1 el e3) := (cell_of_row _ _ 5 _ _ _ f1).trans rfl
            have y1 : w4.cell? ⟨w.heap.size + 1, 1, none⟩ = some (.bool true) := (cell_of_row _ _ 1 _ _ _ f2).trans rfl
            have y2 : w4.cell? ⟨w.heap.size + 1, 2, none⟩ = some (.bool false) := (cell_of_row _ _ 2 _ _ _ f2).trans rfl
            have y3 : w4.cell? ⟨w.heap.size + 1, 3, none⟩ = some (.bool false) := (cell_of_row _ _ 3 _ _ _ f2).trans rfl
            have y4 : w4.cell? ⟨w.heap.size + 1, 4, none⟩ = some (.int .i64 1) := (cell_of_row _ _ 4 _ _ _ f2).trans rfl
            clear hb4 f1 f2 f3
            go_wp2_with fail
            go_ret
            exact ⟨by rw [← HR.out]; simp_all; try (intros; omega), F3.out⟩
        · have d5' : ((bl : Int) == 0) = false := by simpa using d5
          go_enter Tryd.func35, Tryd.ntmps35
          go_wp2_with fail
          refine (HN.out _).mono ?_
          rintro e w4 ⟨rfl, hb4⟩
          obtain ⟨f1, f2, f3⟩ := HF.out w4 hb4
          have F3 : Hid (Below w.heap.size w w4) := f3
          have x2 : w4.cell? ⟨w.heap.size, 2, none⟩ = some (.int .i64 _) := (cell_of_row _ _ 2 _ _ _ f1).trans rfl
          have x3 : w4.cell? ⟨w.heap.size, 3, none⟩ = some (.slice a1 m a3) := (cell_of_row _ _ 3 _ _ _ f1).trans rfl
          have x4 : w4.cell? ⟨w.heap.size, 4, none⟩ = some (.slice b1 bl b3) := (cell_of_row _ _ 4 _ _ _ f1).trans rfl
          have x5 : w4.cell? ⟨w.heap.size, 5, none⟩ = some (.slice e1 el e3) := (cell_of_row _ _ 5 _ _ _ f1).trans rfl
          have y1 : w4.cell? ⟨w.heap.size + 1, 1, none⟩ = some (.bool true) := (cell_of_row _ _ 1 _ _ _ f2).trans rfl
          have y2 : w4.cell? ⟨w.heap.size + 1, 2, none⟩ = some (.bool false) := (cell_of_row _ _ 2 _ _ _ f2).trans rfl
          have y3 : w4.cell? ⟨w.heap.size + 1, 3, none⟩ = some (.bool false) := (cell_of_row _ _ 3 _ _ _ f2).trans rfl
          have y4 : w4.cell? ⟨w.heap.size + 1, 4, none⟩ = some (.int .i64 1) := (cell_of_row _ _ 4 _ _ _ f2).trans rfl
          clear hb4 f1 f2 f3
          go_wp2_with fail
          go_ret
          exact ⟨by rw [← HR.out]; simp_all; try (intros; omega), F3.out⟩
      · have d4' : ((m : Int) == 1) = false := by simpa using d4
        go_enter Tryd.func35, Tryd.ntmps35
        go_wp2_with fail
        refine (HN.out _).mono ?_
        rintro e w4 ⟨rfl, hb4⟩
        obtain ⟨f1, f2, f3⟩ := HF.out w4 hb4
        have F3 : Hid (Below w.heap.size w w4) := f3
        have x2 : w4.cell? ⟨w.heap.size, 2, none⟩ = some (.int .i64 _) := (cell_of_row _ _ 2 _ _ _ f1).trans rfl
        have x3 : w4.cell? ⟨w.heap.size, 3, none⟩ = some (.slice a1 m a3) := (cell_of_row _ _ 3 _ _ _ f1).trans rfl
        have x4 : w4.cell? ⟨w.heap.size, 4, none⟩ = some (.slice b1 bl b3) := (cell_of_row _ _ 4 _ _ _ f1).trans rfl
        have x5 : w4.cell? ⟨w.heap.size, 5, none⟩ = some (.slice e1 el e3) := (cell_of_row _ _ 5 _ _ _ f1).trans rfl
        have y1 : w4.cell? ⟨w.heap.size + 1, 1, none⟩ = some (.bool true) := (cell_of_row _ _ 1 _ _ _ f2).trans rfl
        have y2 : w4.cell? ⟨w.heap.size + 1, 2, none⟩ = some (.bool false) := (cell_of_row _ _ 2 _ _ _ f2).trans rfl
        have y3 : w4.cell? ⟨w.heap.size + 1, 3, none⟩ = some (.bool false) := (cell_of_row _ _ 3 _ _ _ f2).trans rfl
        have y4 : w4.cell? ⟨w.heap.size + 1, 4, none⟩ = some (.int .i64 1) := (cell_of_row _ _ 4 _ _ _ f2).trans rfl
        clear hb4 f1 f2 f3
        go_wp2_with fail
        go_ret
        exact ⟨by rw [← HR.out]; simp_all; try (intros; omega), F3.out⟩
    · have e0 : (c == 0) = false := by simpa using c0
      by_cases c1 : 0 < c
      · have c1' : decide (0 < c) = true := by simpa using c1
        by_cases c2 : c ≤ 255
        · have c2' : decide (c ≤ 255) = true := by simpa using c2
          by_cases d4 : (m : Int) = 1
          · have d4' : ((m : Int) == 1) = true := by simpa using d4
            by_cases d5 : (bl : Int) = 0
            · have d5' : ((bl : Int) == 0) = true := by simpa using d5
              by_cases d6 : (el : Int) = 0
              · have d6' : ((el : Int) == 0) = true := by simpa using d6
                go_enter Tryd.func35, Tryd.ntmps35
                go_wp2_with fail
                refine (HN.out _).mono ?_
                rintro e w4 ⟨rfl, hb4⟩
                obtain ⟨f1, f2, f3⟩ := HF.out w4 hb4
                have F3 : Hid (Below w.heap.size w w4) := f3
                have x2 : w4.cell? ⟨w.heap.size, 2, none⟩ = some (.int .i64 _) := (cell_of_row _ _ 2 _ _ _ f1).trans rfl
                have x3 : w4.cell? ⟨w.heap.size, 3, none⟩ = some (.slice a1 m a3) := (cell_of_row _ _ 3 _ _ _ f1).trans rfl
                have x4 : w4.cell? ⟨w.heap.size, 4, none⟩ = some (.slice b1 bl b3) := (cell_of_row _ _ 4 _ _ _ f1).trans rfl
                have x5 : w4.cell? ⟨w.heap.size, 5, none⟩ = some (.slice e1 el e3) := (cell_of_row _ _ 5 _ _ _ f1).trans rfl
                have y1 : w4.cell? ⟨w.heap.size + 1, 1, none⟩ = some (.bool true) := (cell_of_row _ _ 1 _ _ _ f2).trans rfl
                have y2 : w4.cell? ⟨w.heap.size + 1, 2, none⟩ = some (.bool false) := (cell_of_row _ _ 2 _ _ _ f2).trans rfl
                have y3 : w4.cell? ⟨w.heap.size + 1, 3, none⟩ = some (.bool false) := (cell_of_row _ _ 3 _ _ _ f2).trans rfl
                have y4 : w4.cell? ⟨w.heap.size + 1, 4, none⟩ = some (.int .i64 1) := (cell_of_row _ _ 4 _ _ _ f2).trans rfl
                clear hb4 f1 f2 f3
                go_wp2_with fail
                go_ret
                exact ⟨by rw [← HR.out]; simp_all; try (intros; omega), F3.out⟩
              · have d6' : ((el : Int) == 0) = false := by simpa using d6
                go_enter Tryd.func35, Tryd.ntmps35
                go_wp2_with fail
                refine (HN.out _).mono ?_
                rintro e w4 ⟨rfl, hb4⟩
                obtain ⟨f1, f2, f3⟩ := HF.out w4 hb4
                have F3 : Hid (Below w.heap.size w w4) := f3
                have x2 : w4.cell? ⟨w.heap.size, 2, none⟩ = some (.int .i64 _) := (cell_of_row _ _ 2 _ _ _ f1).trans rfl
                have x3 : w4.cell? ⟨w.heap.size, 3, none⟩ = some (.slice a1 m a3) := (cell_of_row _ _ 3 _ _ _ f1).trans rfl
                have x4 : w4.cell? ⟨w.heap.size, 4, none⟩ = some (.slice b1 bl b3) := (cell_of_row _ _ 4 _ _ _ f1).trans rfl
                have x5 : w4.cell? ⟨w.heap.size, 5, none⟩ = some (.slice e1 el e3) := (cell_of_row _ _ 5 _ _ _ f1).trans rfl
                have y1 : w4.cell? ⟨w.heap.size + 1, 1, none⟩ = some (.bool true) := (cell_of_row _ _ 1 _ _ _ f2).trans rfl
                have y2 : w4.cell? ⟨w.heap.size + 1, 2, none⟩ = some (.bool false) := (cell_of_row _ _ 2 _ _ _ f2).trans rfl
                have y3 : w4.cell? ⟨w.heap.size + 1, 3, none⟩ = some (.bool false) := (cell_of_row _ _ 3 _ _ _ f2).trans rfl
                have y4 : w4.cell? ⟨w.heap.size + 1, 4, none⟩ = some (.int .i64 1) := (cell_of_row _ _ 4 _ _ _ f2).trans rfl
                clear hb4 f1 f2 f3
                go_wp2_with fail
                go_ret
                exact ⟨by rw [← HR.out]; simp_all; try (intros; omega), F3.out⟩
            · have d5' : ((bl : Int) == 0) = false := by simpa using d5
              go_enter Tryd.func35, Tryd.ntmps35
              go_wp2_with fail
              refine (HN.out _).mono ?_
              rintro e w4 ⟨rfl, hb4⟩
              obtain ⟨f1, f2, f3⟩ := HF.out w4 hb4
              have F3 : Hid (Below w.heap.size w w4) := f3
              have x2 : w4.cell? ⟨w.heap.size, 2, none⟩ = some (.int .i64 _) := (cell_of_row _ _ 2 _ _ _ f1).trans rfl
              have x3 : w4.cell? ⟨w.heap.size, 3, none⟩ = some (.slice a1 m a3) := (cell_of_row _ _ 3 _ _ _ f1).trans rfl
              have x4 : w4.cell? ⟨w.heap.size, 4, none⟩ = some (.slice b1 bl b3) := (cell_of_row _ _ 4 _ _ _ f1).trans rfl
              have x5 : w4.cell? ⟨w.heap.size, 5, none⟩ = some (.slice e1 el e3) := (cell_of_row _ _ 5 _ _ _ f1).trans rfl
              have y1 : w4.cell? ⟨w.heap.size + 1, 1, none⟩ = some (.bool true) := (cell_of_row _ _ 1 _ _ _ f2).trans rfl
              have y2 : w4.cell? ⟨w.heap.size + 1, 2, none⟩ = some (.bool false) := (cell_of_row _ _ 2 _ _ _ f2).trans rfl
              have y3 : w4.cell? ⟨w.heap.size + 1, 3, none⟩ = some (.bool false) := (cell_of_row _ _ 3 _ _ _ f2).trans rfl
              have y4 : w4.cell? ⟨w.heap.size + 1, 4, none⟩ = some (.int .i64 1) := (cell_of_row _ _ 4 _ _ _ f2).trans rfl
              clear hb4 f1 f2 f3
              go_wp2_with fail
              go_ret
              exact ⟨by rw [← HR.out]; simp_all; try (intros; omega), F3.out⟩
          · have d4' : ((m : Int) == 1) = false := by simpa using d4
            go_enter Tryd.func35, Tryd.ntmps35
            go_wp2_with fail
            refine (HN.out _).mono ?_
            rintro e w4 ⟨rfl, hb4⟩
            obtain ⟨f1, f2, f3⟩ := HF.out w4 hb4
            have F3 : Hid (Below w.heap.size w w4) := f3
            have x2 : w4.cell? ⟨w.heap.size, 2, none⟩ = some (.int .i64 _) := (cell_of_row _ _ 2 _ _ _ f1).trans rfl
            have x3 : w4.cell? ⟨w.heap.size, 3, none⟩ = some (.slice a1 m a3) := (cell_of_row _ _ 3 _ _ _ f1).trans rfl
            have x4 : w4.cell? ⟨w.heap.size, 4, none⟩ = some (.slice b1 bl b3) := (cell_of_row _ _ 4 _ _ _ f1).trans rfl
            have x5 : w4.cell? ⟨w.heap.size, 5, none⟩ = some (.slice e1 el e3) := (cell_of_row _ _ 5 _ _ _ f1).trans rfl
            have y1 : w4.cell? ⟨w.heap.size + 1, 1, none⟩ = some (.bool true) := (cell_of_row _ _ 1 _ _ _ f2).trans rfl
            have y2 : w4.cell? ⟨w.heap.size + 1, 2, none⟩ = some (.bool false) := (cell_of_row _ _ 2 _ _ _ f2).trans rfl
            have y3 : w4.cell? ⟨w.heap.size + 1, 3, none⟩ = some (.bool false) := (cell_of_row _ _ 3 _ _ _ f2).trans rfl
            have y4 : w4.cell? ⟨w.heap.size + 1, 4, none⟩ = some (.int .i64 1) := (cell_of_row _ _ 4 _ _ _ f2).trans rfl
            clear hb4 f1 f2 f3
            go_wp2_with fail
            go_ret
            exact ⟨by rw [← HR.out]; simp_all; try (intros; omega), F3.out⟩
        · have c2' : decide (c ≤ 255) = false := by simpa using c2
          go_enter Tryd.func35, Tryd.ntmps35
          go_wp2_with fail
          refine (HN.out _).mono ?_
          rintro e w4 ⟨rfl, hb4⟩
          obtain ⟨f1, f2, f3⟩ := HF.out w4 hb4
          have F3 : Hid (Below w.heap.size w w4) := f3
          have x2 : w4.cell? ⟨w.heap.size, 2, none⟩ = some (.int .i64 _) := (cell_of_row _ _ 2 _ _ _ f1).trans rfl
          have x3 : w4.cell? ⟨w.heap.size, 3, none⟩ = some (.slice a1 m a3) := (cell_of_row _ _ 3 _ _ _ f1).trans rfl
          have x4 : w4.cell? ⟨w.heap.size, 4, none⟩ = some (.slice b1 bl b3) := (cell_of_row _ _ 4 _ _ _ f1).trans rfl
          have x5 : w4.cell? ⟨w.heap.size, 5, none⟩ = some (.slice e1 el e3) := (cell_of_row _ _ 5 _ _ _ f1).trans rfl
          have y1 : w4.cell? ⟨w.heap.size + 1, 1, none⟩ = some (.bool true) := (cell_of_row _ _ 1 _ _ _ f2).trans rfl
          have y2 : w4.cell? ⟨w.heap.size + 1, 2, none⟩ = some (.bool false) := (cell_of_row _ _ 2 _ _ _ f2).trans rfl
          have y3 : w4.cell? ⟨w.heap.size + 1, 3, none⟩ = some (.bool false) := (cell_of_row _ _ 3 _ _ _ f2).trans rfl
          have y4 : w4.cell? ⟨w.heap.size + 1, 4, none⟩ = some (.int .i64 1) := (cell_of_row _ _ 4 _ _ _ f2).trans rfl
          clear hb4 f1 f2 f3
          go_wp2_with fail
          go_ret
          exact ⟨by rw [← HR.out]; simp_all; try (intros; omega), F3.out⟩
      · have c1' : decide (0 < c) = false := by simpa using c1
        go_enter Tryd.func35, Tryd.ntmps35
        go_wp2_with fail
        refine (HN.out _).mono ?_
        rintro e w4 ⟨rfl, hb4⟩
        obtain ⟨f1, f2, f3⟩ := HF.out w4 hb4
        have F3 : Hid (Below w.heap.size w w4) := f3
        have x2 : w4.cell? ⟨w.heap.size, 2, none⟩ = some (.int .i64 _) := (cell_of_row _ _ 2 _ _ _ f1).trans rfl
        have x3 : w4.cell? ⟨w.heap.size, 3, none⟩ = some (.slice a1 m a3) := (cell_of_row _ _ 3 _ _ _ f1).trans rfl
        have x4 : w4.cell? ⟨w.heap.size, 4, none⟩ = some (.slice b1 bl b3) := (cell_of_row _ _ 4 _ _ _ f1).trans rfl
        have x5 : w4.cell? ⟨w.heap.size, 5, none⟩ = some (.slice e1 el e3) := (cell_of_row _ _ 5 _ _ _ f1).trans rfl
        have y1 : w4.cell? ⟨w.heap.size + 1, 1, none⟩ = some (.bool true) := (cell_of_row _ _ 1 _ _ _ f2).trans rfl
        have y2 : w4.cell? ⟨w.heap.size + 1, 2, none⟩ = some (.bool false) := (cell_of_row _ _ 2 _ _ _ f2).trans rfl
        have y3 : w4.cell? ⟨w.heap.size + 1, 3, none⟩ = some (.bool false) := (cell_of_row _ _ 3 _ _ _ f2).trans rfl
        have y4 : w4.cell? ⟨w.heap.size + 1, 4, none⟩ = some (.int .i64 1) := (cell_of_row _ _ 4 _ _ _ f2).trans rfl
        clear hb4 f1 f2 f3
        go_wp2_with fail
        go_ret
        exact ⟨by rw [← HR.out]; simp_all; try (intros; omega), F3.out⟩

set_option maxRecDepth 100000 in
set_option maxHeartbeats 8000000 in
theorem stmtFits_6 (s : ByteArray) (c : Int) (a1 b1 e1 : Option Addr) (m a3 bl b3 el e3 : Nat) (hm : m ≤ 9223372036854775807) (hm1 : bl ≤ 9223372036854775807) (hm2 : el ≤ 9223372036854775807) (hs : s.size ≤ maxLen) (w : World) (hT : TB w) : Calls Tryd.prog 35 #[.agg #[.int .i64 6, .string s, .int .i64 c, .slice a1 m a3, .slice b1 bl b3, .slice e1 el e3]] w (QB w (stmtB ⟨false, false, true, true, 1⟩ s c m bl el)) := by
  obtain ⟨_, ⟨ty, fr, hT⟩⟩ := hT
  have hlt : 1 < w.heap.size := (Array.getElem?_eq_some_iff.1 hT).1
  have t0 : ∀ A, (w.alloc A).cell? ⟨1, 30, none⟩ = some (.bool false) := fun A => by rw [World.cell?_of_block (a := ⟨1, 30, none⟩) (Below.heap_alloc _ _ _ hlt)]; exact (cell_of_row w 1 30 _ _ _ hT).trans rfl
  have t1 : ∀ A, (w.alloc A).cell? ⟨1, 31, none⟩ = some (.bool false) := fun A => by rw [World.cell?_of_block (a := ⟨1, 31, none⟩) (Below.heap_alloc _ _ _ hlt)]; exact (cell_of_row w 1 31 _ _ _ hT).trans rfl
  have t2 : ∀ A, (w.alloc A).cell? ⟨1, 32, none⟩ = some (.bool true) := fun A => by rw [World.cell?_of_block (a := ⟨1, 32, none⟩) (Below.heap_alloc _ _ _ hlt)]; exact (cell_of_row w 1 32 _ _ _ hT).trans rfl
  have t3 : ∀ A, (w.alloc A).cell? ⟨1, 33, none⟩ = some (.bool true) := fun A => by rw [World.cell?_of_block (a := ⟨1, 33, none⟩) (Below.heap_alloc _ _ _ hlt)]; exact (cell_of_row w 1 33 _ _ _ hT).trans rfl
  have t4 : ∀ A, (w.alloc A).cell? ⟨1, 34, none⟩ = some (.int .i64 1) := fun A => by rw [World.cell?_of_block (a := ⟨1, 34, none⟩) (Below.heap_alloc _ _ _ hlt)]; exact (cell_of_row w 1 34 _ _ _ hT).trans rfl
  have HN : Hid (∀ W, Calls Tryd.prog 48 #[.string s, .bool false] W (QB W (nameF s false))) := fun W => nameFits_any s false hs W
  obtain ⟨res, hres⟩ : ∃ r, stmtB ⟨false, false, true, true, 1⟩ s c m bl el = r := ⟨_, rfl⟩
  have HR : Hid (stmtB ⟨false, false, true, true, 1⟩ s c m bl el = res) := hres
  rw [hres]
  unfold stmtB at HR
  simp only at HR
  obtain ⟨z2, hz2⟩ : ∃ b, nameF s false = b := ⟨_, rfl⟩
  rw [hz2] at HN HR
  clear hres hz2 hT hs
  have HB2 : Hid (Below w.heap.size w ((w.alloc (.cells #[.int .i64 6, .string s, .int .i64 c, .slice a1 m a3, .slice b1 bl b3, .slice e1 el e3] 39)).alloc (.cells #[.bool false, .bool false, .bool true, .bool true, .int .i64 1] 87))) := ((Below.refl _ _).alloc (Nat.le_refl _) _).alloc (by simp) _
  have HF : Hid (∀ w4, Below ((w.alloc (.cells #[.int .i64 6, .string s, .int .i64 c, .slice a1 m a3, .slice b1 bl b3, .slice e1 el e3] 39)).alloc (.cells #[.bool false, .bool false, .bool true, .bool true, .int .i64 1] 87)).heap.size ((w.alloc (.cells #[.int .i64 6, .string s, .int .i64 c, .slice a1 m a3, .slice b1 bl b3, .slice e1 el e3] 39)).alloc (.cells #[.bool false, .bool false, .bool true, .bool true, .int .i64 1] 87)) w4 → w4.heap[w.heap.size]? = some (.cells #[.int .i64 6, .string s, .int .i64 c, .slice a1 m a3, .slice b1 bl b3, .slice e1 el e3] 39) ∧ w4.heap[w.heap.size + 1]? = some (.cells #[.bool false, .bool false, .bool true, .bool true, .int .i64 1] 87) ∧ Below w.heap.size w w4) := by
    intro w4 hb
    refine ⟨(hb.block _ (by simp; omega)).trans ((Below.heap_alloc _ _ _ (by simp)).trans (heap_alloc_new w _)), (hb.block _ (by simp)).trans ?_, HB2.out.trans (hb.mono (by simp; omega))⟩
    have := heap_alloc_new (w.alloc (.cells #[.int .i64 6, .string s, .int .i64 c, .slice a1 m a3, .slice b1 bl b3, .slice e1 el e3] 39)) (.cells #[.bool false, .bool false, .bool true, .bool true, .int .i64 1] 87)
    rw [show (w.alloc (.cells #[.int .i64 6, .string s, .int .i64 c, .slice a1 m a3, .slice b1 bl b3, .slice e1 el e3] 39)).heap.size = w.heap.size + 1 by simp] at this
    exact this
  cases z2
  · go_enter Tryd.func35, Tryd.ntmps35
    go_wp2_with fail
    refine (HN.out _).mono ?_
    rintro e w4 ⟨rfl, hb4⟩
    obtain ⟨f1, f2, f3⟩ := HF.out w4 hb4
    have F3 : Hid (Below w.heap.size w w4) := f3
    have x2 : w4.cell? ⟨w.heap.size, 2, none⟩ = some (.int .i64 _) := (cell_of_row _ _ 2 _ _ _ f1).trans rfl
    have x3 : w4.cell? ⟨w.heap.size, 3, none⟩ = some (.slice a1 m a3) := (cell_of_row _ _ 3 _ _ _ f1).trans rfl
    have x4 : w4.cell? ⟨w.heap.size, 4, none⟩ = some (.slice b1 bl b3) := (cell_of_row _ _ 4 _ _ _ f1).trans rfl
    have x5 : w4.cell? ⟨w.heap.size, 5, none⟩ = some (.slice e1 el e3) := (cell_of_row _ _ 5 _ _ _ f1).trans rfl
    have y1 : w4.cell? ⟨w.heap.size + 1, 1, none⟩ = some (.bool false) := (cell_of_row _ _ 1 _ _ _ f2).trans rfl
    have y2 : w4.cell? ⟨w.heap.size + 1, 2, none⟩ = some (.bool true) := (cell_of_row _ _ 2 _ _ _ f2).trans rfl
    have y3 : w4.cell? ⟨w.heap.size + 1, 3, none⟩ = some (.bool true) := (cell_of_row _ _ 3 _ _ _ f2).trans rfl
    have y4 : w4.cell? ⟨w.heap.size + 1, 4, none⟩ = some (.int .i64 1) := (cell_of_row _ _ 4 _ _ _ f2).trans rfl
    clear hb4 f1 f2 f3
    go_wp2_with fail
    go_ret
    exact ⟨by rw [← HR.out]; simp_all; try (intros; omega), F3.out⟩
  · by_cases c0 : c = 0
    · subst c0
      by_cases d4 : (m : Int) = 1
      · have d4' : ((m : Int) == 1) = true := by simpa using d4
        go_enter Tryd.func35, Tryd.ntmps35
        go_wp2_with fail
        refine (HN.out _).mono ?_
        rintro e w4 ⟨rfl, hb4⟩
        obtain ⟨f1, f2, f3⟩ := HF.out w4 hb4
        have F3 : Hid (Below w.heap.size w w4) := f3
        have x2 : w4.cell? ⟨w.heap.size, 2, none⟩ = some (.int .i64 _) := (cell_of_row _ _ 2 _ _ _ f1).trans rfl
        have x3 : w4.cell? ⟨w.heap.size, 3, none⟩ = some (.slice a1 m a3) := (cell_of_row _ _ 3 _ _ _ f1).trans rfl
        have x4 : w4.cell? ⟨w.heap.size, 4, none⟩ = some (.slice b1 bl b3) := (cell_of_row _ _ 4 _ _ _ f1).trans rfl
        have x5 : w4.cell? ⟨w.heap.size, 5, none⟩ = some (.slice e1 el e3) := (cell_of_row _ _ 5 _ _ _ f1).trans rfl
        have y1 : w4.cell? ⟨w.heap.size + 1, 1, none⟩ = some (.bool false) := (cell_of_row _ _ 1 _ _ _ f2).trans rfl
        have y2 : w4.cell? ⟨w.heap.size + 1, 2, none⟩ = some (.bool true) := (cell_of_row _ _ 2 _ _ _ f2).trans rfl
        have y3 : w4.cell? ⟨w.heap.size + 1, 3, none⟩ = some (.bool true) := (cell_of_row _ _ 3 _ _ _ f2).trans rfl
        have y4 : w4.cell? ⟨w.heap.size + 1, 4, none⟩ = some (.int .i64 1) := (cell_of_row _ _ 4 _ _ _ f2).trans rfl
        clear hb4 f1 f2 f3
        go_wp2_with fail
        go_ret
        exact ⟨by rw [← HR.out]; simp_all; try (intros; omega), F3.out⟩
      · have d4' : ((m : Int) == 1) = false := by simpa using d4
        go_enter Tryd.func35, Tryd.ntmps35
        go_wp2_with fail
        refine (HN.out _).mono ?_
        rintro e w4 ⟨rfl, hb4⟩
        obtain ⟨f1, f2, f3⟩ := HF.out w4 hb4
        have F3 : Hid (Below w.heap.size w w4) := f3
        have x2 : w4.cell? ⟨w.heap.size, 2, none⟩ = some (.int .i64 _) := (cell_of_row _ _ 2 _ _ _ f1).trans rfl
        have x3 : w4.cell? ⟨w.heap.size, 3, none⟩ = some (.slice a1 m a3) := (cell_of_row _ _ 3 _ _ _ f1).trans rfl
        have x4 : w4.cell? ⟨w.heap.size, 4, none⟩ = some (.slice b1 bl b3) := (cell_of_row _ _ 4 _ _ _ f1).trans rfl
        have x5 : w4.cell? ⟨w.heap.size, 5, none⟩ = some (.slice e1 el e3) := (cell_of_row _ _ 5 _ _ _ f1).trans rfl
        have y1 : w4.cell? ⟨w.heap.size + 1, 1, none⟩ = some (.bool false) := (cell_of_row _ _ 1 _ _ _ f2).trans rfl
        have y2 : w4.cell? ⟨w.heap.size + 1, 2, none⟩ = some (.bool true) := (cell_of_row _ _ 2 _ _ _ f2).trans rfl
        have y3 : w4.cell? ⟨w.heap.size + 1, 3, none⟩ = some (.bool true) := (cell_of_row _ _ 3 _ _ _ f2).trans rfl
        have y4 : w4.cell? ⟨w.heap.size + 1, 4, none⟩ = some (.int .i64 1) := (cell_of_row _ _ 4 _ _ _ f2).trans rfl
        clear hb4 f1 f2 f3
        go_wp2_with fail
        go_ret
        exact ⟨by rw [← HR.out]; simp_all; try (intros; omega), F3.out⟩
    · have e0 : (c == 0) = false := by simpa using c0
      go_enter Tryd.func35, Tryd.ntmps35
      go_wp2_with fail
      refine (HN.out _).mono ?_
      rintro e w4 ⟨rfl, hb4⟩
      obtain ⟨f1, f2, f3⟩ := HF.out w4 hb4
      have F3 : Hid (Below w.heap.size w w4) := f3
      have x2 : w4.cell? ⟨w.heap.size, 2, none⟩ = some (.int .i64 _) := (cell_of_row _ _ 2 _ _ _ f1).trans rfl
      have x3 : w4.cell? ⟨w.heap.size, 3, none⟩ = some (.slice a1 m a3) := (cell_of_row _ _ 3 _ _ _ f1).trans rfl
      have x4 : w4.cell? ⟨w.heap.size, 4, none⟩ = some (.slice b1 bl b3) := (cell_of_row _ _ 4 _ _ _ f1).trans rfl
      have x5 : w4.cell? ⟨w.heap.size, 5, none⟩ = some (.slice e1 el e3) := (cell_of_row _ _ 5 _ _ _ f1).trans rfl
      have y1 : w4.cell? ⟨w.heap.size + 1, 1, none⟩ = some (.bool false) := (cell_of_row _ _ 1 _ _ _ f2).trans rfl
      have y2 : w4.cell? ⟨w.heap.size + 1, 2, none⟩ = some (.bool true) := (cell_of_row _ _ 2 _ _ _ f2).trans rfl
      have y3 : w4.cell? ⟨w.heap.size + 1, 3, none⟩ = some (.bool true) := (cell_of_row _ _ 3 _ _ _ f2).trans rfl
      have y4 : w4.cell? ⟨w.heap.size + 1, 4, none⟩ = some (.int .i64 1) := (cell_of_row _ _ 4 _ _ _ f2).trans rfl
      clear hb4 f1 f2 f3
      go_wp2_with fail
      go_ret
      exact ⟨by rw [← HR.out]; simp_all; try (intros; omega), F3.out⟩

set_option maxRecDepth 100000 in
set_option maxHeartbeats 8000000 in
theorem stmtFits_7 (s : ByteArray) (c : Int) (a1 b1 e1 : Option Addr) (m a3 bl b3 el e3 : Nat) (hm : m ≤ 9223372036854775807) (hm1 : bl ≤ 9223372036854775807) (hm2 : el ≤ 9223372036854775807) (hs : s.size ≤ maxLen) (w : World) (hT : TB w) : Calls Tryd.prog 35 #[.agg #[.int .i64 7, .string s, .int .i64 c, .slice a1 m a3, .slice b1 bl b3, .slice e1 el e3]] w (QB w (stmtB ⟨false, false, true, false, 1⟩ s c m bl el)) := by
  obtain ⟨_, ⟨ty, fr, hT⟩⟩ := hT
  have hlt : 1 < w.heap.size := (Array.getElem?_eq_some_iff.1 hT).1
  have t0 : ∀ A, (w.alloc A).cell? ⟨1, 35, none⟩ = some (.bool false) := fun A => by rw [World.cell?_of_block (a := ⟨1, 35, none⟩) (Below.heap_alloc _ _ _ hlt)]; exact (cell_of_row w 1 35 _ _ _ hT).trans rfl
  have t1 : ∀ A, (w.alloc A).cell? ⟨1, 36, none⟩ = some (.bool false) := fun A => by rw [World.cell?_of_block (a := ⟨1, 36, none⟩) (Below.heap_alloc _ _ _ hlt)]; exact (cell_of_row w 1 36 _ _ _ hT).trans rfl
  have t2 : ∀ A, (w.alloc A).cell? ⟨1, 37, none⟩ = some (.bool true) := fun A => by rw [World.cell?_of_block (a := ⟨1, 37, none⟩) (Below.heap_alloc _ _ _ hlt)]; exact (cell_of_row w 1 37 _ _ _ hT).trans rfl
  have t3 : ∀ A, (w.alloc A).cell? ⟨1, 38, none⟩ = some (.bool false) := fun A => by rw [World.cell?_of_block (a := ⟨1, 38, none⟩) (Below.heap_alloc _ _ _ hlt)]; exact (cell_of_row w 1 38 _ _ _ hT).trans rfl
  have t4 : ∀ A, (w.alloc A).cell? ⟨1, 39, none⟩ = some (.int .i64 1) := fun A => by rw [World.cell?_of_block (a := ⟨1, 39, none⟩) (Below.heap_alloc _ _ _ hlt)]; exact (cell_of_row w 1 39 _ _ _ hT).trans rfl
  have HN : Hid (∀ W, Calls Tryd.prog 48 #[.string s, .bool false] W (QB W (nameF s false))) := fun W => nameFits_any s false hs W
  obtain ⟨res, hres⟩ : ∃ r, stmtB ⟨false, false, true, false, 1⟩ s c m bl el = r := ⟨_, rfl⟩
  have HR : Hid (stmtB ⟨false, false, true, false, 1⟩ s c m bl el = res) := hres
  rw [hres]
  unfold stmtB at HR
  simp only at HR
  obtain ⟨z2, hz2⟩ : ∃ b, nameF s false = b := ⟨_, rfl⟩
  rw [hz2] at HN HR
  clear hres hz2 hT hs
  have HB2 : Hid (Below w.heap.size w ((w.alloc (.cells #[.int .i64 7, .string s, .int .i64 c, .slice a1 m a3, .slice b1 bl b3, .slice e1 el e3] 39)).alloc (.cells #[.bool false, .bool false, .bool true, .bool false, .int .i64 1] 87))) := ((Below.refl _ _).alloc (Nat.le_refl _) _).alloc (by simp) _
  have HF : Hid (∀ w4, Below ((w.alloc (.cells #[.int .i64 7, .string s, .int .i64 c, .slice a1 m a3, .slice b1 bl b3, .slice e1 el e3] 39)).alloc (.cells #[.bool false, .bool false, .bool true, .bool false, .int .i64 1] 87)).heap.size ((w.alloc (.cells #[.int .i64 7, .string s, .int .i64 c, .slice a1 m a3, .slice b1 bl b3, .slice e1 el e3] 39)).alloc (.cells #[.bool false, .bool false, .bool true, .bool false, .int .i64 1] 87)) w4 → w4.heap[w.heap.size]? = some (.cells #[.int .i64 7, .string s, .int .i64 c, .slice a1 m a3, .slice b1 bl b3, .slice e1 el e3] 39) ∧ w4.heap[w.heap.size + 1]? = some (.cells #[.bool false, .bool false, .bool true, .bool false, .int .i64 1] 87) ∧ Below w.heap.size w w4) := by
    intro w4 hb
    refine ⟨(hb.block _ (by simp; omega)).trans ((Below.heap_alloc _ _ _ (by simp)).trans (heap_alloc_new w _)), (hb.block _ (by simp)).trans ?_, HB2.out.trans (hb.mono (by simp; omega))⟩
    have := heap_alloc_new (w.alloc (.cells #[.int .i64 7, .string s, .int .i64 c, .slice a1 m a3, .slice b1 bl b3, .slice e1 el e3] 39)) (.cells #[.bool false, .bool false, .bool true, .bool false, .int .i64 1] 87)
    rw [show (w.alloc (.cells #[.int .i64 7, .string s, .int .i64 c, .slice a1 m a3, .slice b1 bl b3, .slice e1 el e3] 39)).heap.size = w.heap.size + 1 by simp] at this
    exact this
  cases z2
  · go_enter Tryd.func35, Tryd.ntmps35
    go_wp2_with fail
    refine (HN.out _).mono ?_
    rintro e w4 ⟨rfl, hb4⟩
    obtain ⟨f1, f2, f3⟩ := HF.out w4 hb4
    have F3 : Hid (Below w.heap.size w w4) := f3
    have x2 : w4.cell? ⟨w.heap.size, 2, none⟩ = some (.int .i64 _) := (cell_of_row _ _ 2 _ _ _ f1).trans rfl
    have x3 : w4.cell? ⟨w.heap.size, 3, none⟩ = some (.slice a1 m a3) := (cell_of_row _ _ 3 _ _ _ f1).trans rfl
    have x4 : w4.cell? ⟨w.heap.size, 4, none⟩ = some (.slice b1 bl b3) := (cell_of_row _ _ 4 _ _ _ f1).trans rfl
    have x5 : w4.cell? ⟨w.heap.size, 5, none⟩ = some (.slice e1 el e3) := (cell_of_row _ _ 5 _ _ _ f1).trans rfl
    have y1 : w4.cell? ⟨w.heap.size + 1, 1, none⟩ = some (.bool false) := (cell_of_row _ _ 1 _ _ _ f2).trans rfl
    have y2 : w4.cell? ⟨w.heap.size + 1, 2, none⟩ = some (.bool true) := (cell_of_row _ _ 2 _ _ _ f2).trans rfl
    have y3 : w4.cell? ⟨w.heap.size + 1, 3, none⟩ = some (.bool false) := (cell_of_row _ _ 3 _ _ _ f2).trans rfl
    have y4 : w4.cell? ⟨w.heap.size + 1, 4, none⟩ = some (.int .i64 1) := (cell_of_row _ _ 4 _ _ _ f2).trans rfl
    clear hb4 f1 f2 f3
    go_wp2_with fail
    go_ret
    exact ⟨by rw [← HR.out]; simp_all; try (intros; omega), F3.out⟩
  · by_cases c0 : c = 0
    · subst c0
      by_cases d4 : (m : Int) = 1
      · have d4' : ((m : Int) == 1) = true := by simpa using d4
        by_cases d6 : (el : Int) = 0
        · have d6' : ((el : Int) == 0) = true := by simpa using d6
          go_enter Tryd.func35, Tryd.ntmps35
          go_wp2_with fail
          refine (HN.out _).mono ?_
          rintro e w4 ⟨rfl, hb4⟩
          obtain ⟨f1, f2, f3⟩ := HF.out w4 hb4
          have F3 : Hid (Below w.heap.size w w4) := f3
          have x2 : w4.cell? ⟨w.heap.size, 2, none⟩ = some (.int .i64 _) := (cell_of_row _ _ 2 _ _ _ f1).trans rfl
          have x3 : w4.cell? ⟨w.heap.size, 3, none⟩ = some (.slice a1 m a3) := (cell_of_row _ _ 3 _ _ _ f1).trans rfl
          have x4 : w4.cell? ⟨w.heap.size, 4, none⟩ = some (.slice b1 bl b3) := (cell_of_row _ _ 4 _ _ _ f1).trans rfl
          have x5 : w4.cell? ⟨w.heap.size, 5, none⟩ = some (.slice e1 el e3) := (cell_of_row _ _ 5 _ _ _ f1).trans rfl
          have y1 : w4.cell? ⟨w.heap.size + 1, 1, none⟩ = some (.bool false) := (cell_of_row _ _ 1 _ _ _ f2).trans rfl
          have y2 : w4.cell? ⟨w.heap.size + 1, 2, none⟩ = some (.bool true) := (cell_of_row _ _ 2 _ _ _ f2).trans rfl
          have y3 : w4.cell? ⟨w.heap.size + 1, 3, none⟩ = some (.bool false) := (cell_of_row _ _ 3 _ _ _ f2).trans rfl
          have y4 : w4.cell? ⟨w.heap.size + 1, 4, none⟩ = some (.int .i64 1) := (cell_of_row _ _ 4 _ _ _ f2).trans rfl
          clear hb4 f1 f2 f3
          go_wp2_with fail
          go_ret
          exact ⟨by rw [← HR.out]; simp_all; try (intros; omega), F3.out⟩
        · have d6' : ((el : Int) == 0) = false := by simpa using d6
          go_enter Tryd.func35, Tryd.ntmps35
          go_wp2_with fail
          refine (HN.out _).mono ?_
          rintro e w4 ⟨rfl, hb4⟩
          obtain ⟨f1, f2, f3⟩ := HF.out w4 hb4
          have F3 : Hid (Below w.heap.size w w4) := f3
          have x2 : w4.cell? ⟨w.heap.size, 2, none⟩ = some (.int .i64 _) := (cell_of_row _ _ 2 _ _ _ f1).trans rfl
          have x3 : w4.cell? ⟨w.heap.size, 3, none⟩ = some (.slice a1 m a3) := (cell_of_row _ _ 3 _ _ _ f1).trans rfl
          have x4 : w4.cell? ⟨w.heap.size, 4, none⟩ = some (.slice b1 bl b3) := (cell_of_row _ _ 4 _ _ _ f1).trans rfl
          have x5 : w4.cell? ⟨w.heap.size, 5, none⟩ = some (.slice e1 el e3) := (cell_of_row _ _ 5 _ _ _ f1).trans rfl
          have y1 : w4.cell? ⟨w.heap.size + 1, 1, none⟩ = some (.bool false) := (cell_of_row _ _ 1 _ _ _ f2).trans rfl
          have y2 : w4.cell? ⟨w.heap.size + 1, 2, none⟩ = some (.bool true) := (cell_of_row _ _ 2 _ _ _ f2).trans rfl
          have y3 : w4.cell? ⟨w.heap.size + 1, 3, none⟩ = some (.bool false) := (cell_of_row _ _ 3 _ _ _ f2).trans rfl
          have y4 : w4.cell? ⟨w.heap.size + 1, 4, none⟩ = some (.int .i64 1) := (cell_of_row _ _ 4 _ _ _ f2).trans rfl
          clear hb4 f1 f2 f3
          go_wp2_with fail
          go_ret
          exact ⟨by rw [← HR.out]; simp_all; try (intros; omega), F3.out⟩
      · have d4' : ((m : Int) == 1) = false := by simpa using d4
        go_enter Tryd.func35, Tryd.ntmps35
        go_wp2_with fail
        refine (HN.out _).mono ?_
        rintro e w4 ⟨rfl, hb4⟩
        obtain ⟨f1, f2, f3⟩ := HF.out w4 hb4
        have F3 : Hid (Below w.heap.size w w4) := f3
        have x2 : w4.cell? ⟨w.heap.size, 2, none⟩ = some (.int .i64 _) := (cell_of_row _ _ 2 _ _ _ f1).trans rfl
        have x3 : w4.cell? ⟨w.heap.size, 3, none⟩ = some (.slice a1 m a3) := (cell_of_row _ _ 3 _ _ _ f1).trans rfl
        have x4 : w4.cell? ⟨w.heap.size, 4, none⟩ = some (.slice b1 bl b3) := (cell_of_row _ _ 4 _ _ _ f1).trans rfl
        have x5 : w4.cell? ⟨w.heap.size, 5, none⟩ = some (.slice e1 el e3) := (cell_of_row _ _ 5 _ _ _ f1).trans rfl
        have y1 : w4.cell? ⟨w.heap.size + 1, 1, none⟩ = some (.bool false) := (cell_of_row _ _ 1 _ _ _ f2).trans rfl
        have y2 : w4.cell? ⟨w.heap.size + 1, 2, none⟩ = some (.bool true) := (cell_of_row _ _ 2 _ _ _ f2).trans rfl
        have y3 : w4.cell? ⟨w.heap.size + 1, 3, none⟩ = some (.bool false) := (cell_of_row _ _ 3 _ _ _ f2).trans rfl
        have y4 : w4.cell? ⟨w.heap.size + 1, 4, none⟩ = some (.int .i64 1) := (cell_of_row _ _ 4 _ _ _ f2).trans rfl
        clear hb4 f1 f2 f3
        go_wp2_with fail
        go_ret
        exact ⟨by rw [← HR.out]; simp_all; try (intros; omega), F3.out⟩
    · have e0 : (c == 0) = false := by simpa using c0
      go_enter Tryd.func35, Tryd.ntmps35
      go_wp2_with fail
      refine (HN.out _).mono ?_
      rintro e w4 ⟨rfl, hb4⟩
      obtain ⟨f1, f2, f3⟩ := HF.out w4 hb4
      have F3 : Hid (Below w.heap.size w w4) := f3
      have x2 : w4.cell? ⟨w.heap.size, 2, none⟩ = some (.int .i64 _) := (cell_of_row _ _ 2 _ _ _ f1).trans rfl
      have x3 : w4.cell? ⟨w.heap.size, 3, none⟩ = some (.slice a1 m a3) := (cell_of_row _ _ 3 _ _ _ f1).trans rfl
      have x4 : w4.cell? ⟨w.heap.size, 4, none⟩ = some (.slice b1 bl b3) := (cell_of_row _ _ 4 _ _ _ f1).trans rfl
      have x5 : w4.cell? ⟨w.heap.size, 5, none⟩ = some (.slice e1 el e3) := (cell_of_row _ _ 5 _ _ _ f1).trans rfl
      have y1 : w4.cell? ⟨w.heap.size + 1, 1, none⟩ = some (.bool false) := (cell_of_row _ _ 1 _ _ _ f2).trans rfl
      have y2 : w4.cell? ⟨w.heap.size + 1, 2, none⟩ = some (.bool true) := (cell_of_row _ _ 2 _ _ _ f2).trans rfl
      have y3 : w4.cell? ⟨w.heap.size + 1, 3, none⟩ = some (.bool false) := (cell_of_row _ _ 3 _ _ _ f2).trans rfl
      have y4 : w4.cell? ⟨w.heap.size + 1, 4, none⟩ = some (.int .i64 1) := (cell_of_row _ _ 4 _ _ _ f2).trans rfl
      clear hb4 f1 f2 f3
      go_wp2_with fail
      go_ret
      exact ⟨by rw [← HR.out]; simp_all; try (intros; omega), F3.out⟩

set_option maxRecDepth 100000 in
set_option maxHeartbeats 8000000 in
theorem stmtFits_8 (s : ByteArray) (c : Int) (a1 b1 e1 : Option Addr) (m a3 bl b3 el e3 : Nat) (hm : m ≤ 9223372036854775807) (hm1 : bl ≤ 9223372036854775807) (hm2 : el ≤ 9223372036854775807) (hs : s.size ≤ maxLen) (w : World) (hT : TB w) : Calls Tryd.prog 35 #[.agg #[.int .i64 8, .string s, .int .i64 c, .slice a1 m a3, .slice b1 bl b3, .slice e1 el e3]] w (QB w (stmtB ⟨false, false, false, false, 1⟩ s c m bl el)) := by
  obtain ⟨_, ⟨ty, fr, hT⟩⟩ := hT
  have hlt : 1 < w.heap.size := (Array.getElem?_eq_some_iff.1 hT).1
  have t0 : ∀ A, (w.alloc A).cell? ⟨1, 40, none⟩ = some (.bool false) := fun A => by rw [World.cell?_of_block (a := ⟨1, 40, none⟩) (Below.heap_alloc _ _ _ hlt)]; exact (cell_of_row w 1 40 _ _ _ hT).trans rfl
  have t1 : ∀ A, (w.alloc A).cell? ⟨1, 41, none⟩ = some (.bool false) := fun A => by rw [World.cell?_of_block (a := ⟨1, 41, none⟩) (Below.heap_alloc _ _ _ hlt)]; exact (cell_of_row w 1 41 _ _ _ hT).trans rfl
  have t2 : ∀ A, (w.alloc A).cell? ⟨1, 42, none⟩ = some (.bool false) := fun A => by rw [World.cell?_of_block (a := ⟨1, 42, none⟩) (Below.heap_alloc _ _ _ hlt)]; exact (cell_of_row w 1 42 _ _ _ hT).trans rfl
  have t3 : ∀ A, (w.alloc A).cell? ⟨1, 43, none⟩ = some (.bool false) := fun A => by rw [World.cell?_of_block (a := ⟨1, 43, none⟩) (Below.heap_alloc _ _ _ hlt)]; exact (cell_of_row w 1 43 _ _ _ hT).trans rfl
  have t4 : ∀ A, (w.alloc A).cell? ⟨1, 44, none⟩ = some (.int .i64 1) := fun A => by rw [World.cell?_of_block (a := ⟨1, 44, none⟩) (Below.heap_alloc _ _ _ hlt)]; exact (cell_of_row w 1 44 _ _ _ hT).trans rfl
  have HN : Hid (∀ W, Calls Tryd.prog 48 #[.string s, .bool false] W (QB W (nameF s false))) := fun W => nameFits_any s false hs W
  obtain ⟨res, hres⟩ : ∃ r, stmtB ⟨false, false, false, false, 1⟩ s c m bl el = r := ⟨_, rfl⟩
  have HR : Hid (stmtB ⟨false, false, false, false, 1⟩ s c m bl el = res) := hres
  rw [hres]
  unfold stmtB at HR
  simp only at HR
  obtain ⟨z2, hz2⟩ : ∃ b, nameF s false = b := ⟨_, rfl⟩
  rw [hz2] at HN HR
  clear hres hz2 hT hs
  have HB2 : Hid (Below w.heap.size w ((w.alloc (.cells #[.int .i64 8, .string s, .int .i64 c, .slice a1 m a3, .slice b1 bl b3, .slice e1 el e3] 39)).alloc (.cells #[.bool false, .bool false, .bool false, .bool false, .int .i64 1] 87))) := ((Below.refl _ _).alloc (Nat.le_refl _) _).alloc (by simp) _
  have HF : Hid (∀ w4, Below ((w.alloc (.cells #[.int .i64 8, .string s, .int .i64 c, .slice a1 m a3, .slice b1 bl b3, .slice e1 el e3] 39)).alloc (.cells #[.bool false, .bool false, .bool false, .bool false, .int .i64 1] 87)).heap.size ((w.alloc (.cells #[.int .i64 8, .string s, .int .i64 c, .slice a1 m a3, .slice b1 bl b3, .slice e1 el e3] 39)).alloc (.cells #[.bool false, .bool false, .bool false, .bool false, .int .i64 1] 87)) w4 → w4.heap[w.heap.size]? = some (.cells #[.int .i64 8, .string s, .int .i64 c, .slice a1 m a3, .slice b1 bl b3, .slice e1 el e3] 39) ∧ w4.heap[w.heap.size + 1]? = some (.cells #[.bool false, .bool false, .bool false, .bool false, .int .i64 1] 87) ∧ Below w.heap.size w w4) := by
    intro w4 hb
    refine ⟨(hb.block _ (by simp; omega)).trans ((Below.heap_alloc _ _ _ (by simp)).trans (heap_alloc_new w _)), (hb.block _ (by simp)).trans ?_, HB2.out.trans (hb.mono (by simp; omega))⟩
    have := heap_alloc_new (w.alloc (.cells #[.int .i64 8, .string s, .int .i64 c, .slice a1 m a3, .slice b1 bl b3, .slice e1 el e3] 39)) (.cells #[.bool false, .bool false, .bool false, .bool false, .int .i64 1] 87)
    rw [show (w.alloc (.cells #[.int .i64 8, .string s, .int .i64 c, .slice a1 m a3, .slice b1 bl b3, .slice e1 el e3] 39)).heap.size = w.heap.size + 1 by simp] at this
    exact this
  cases z2
  · go_enter Tryd.func35, Tryd.ntmps35
    go_wp2_with fail
    refine (HN.out _).mono ?_
    rintro e w4 ⟨rfl, hb4⟩
    obtain ⟨f1, f2, f3⟩ := HF.out w4 hb4
    have F3 : Hid (Below w.heap.size w w4) := f3
    have x2 : w4.cell? ⟨w.heap.size, 2, none⟩ = some (.int .i64 _) := (cell_of_row _ _ 2 _ _ _ f1).trans rfl
    have x3 : w4.cell? ⟨w.heap.size, 3, none⟩ = some (.slice a1 m a3) := (cell_of_row _ _ 3 _ _ _ f1).trans rfl
    have x4 : w4.cell? ⟨w.heap.size, 4, none⟩ = some (.slice b1 bl b3) := (cell_of_row _ _ 4 _ _ _ f1).trans rfl
    have x5 : w4.cell? ⟨w.heap.size, 5, none⟩ = some (.slice e1 el e3) := (cell_of_row _ _ 5 _ _ _ f1).trans rfl
    have y1 : w4.cell? ⟨w.heap.size + 1, 1, none⟩ = some (.bool false) := (cell_of_row _ _ 1 _ _ _ f2).trans rfl
    have y2 : w4.cell? ⟨w.heap.size + 1, 2, none⟩ = some (.bool false) := (cell_of_row _ _ 2 _ _ _ f2).trans rfl
    have y3 : w4.cell? ⟨w.heap.size + 1, 3, none⟩ = some (.bool false) := (cell_of_row _ _ 3 _ _ _ f2).trans rfl
    have y4 : w4.cell? ⟨w.heap.size + 1, 4, none⟩ = some (.int .i64 1) := (cell_of_row _ _ 4 _ _ _ f2).trans rfl
    clear hb4 f1 f2 f3
    go_wp2_with fail
    go_ret
    exact ⟨by rw [← HR.out]; simp_all; try (intros; omega), F3.out⟩
  · by_cases c0 : c = 0
    · subst c0
      by_cases d4 : (m : Int) = 1
      · have d4' : ((m : Int) == 1) = true := by simpa using d4
        by_cases d5 : (bl : Int) = 0
        · have d5' : ((bl : Int) == 0) = true := by simpa using d5
          by_cases d6 : (el : Int) = 0
          · have d6' : ((el : Int) == 0) = true := by simpa using d6
            go_enter Tryd.func35, Tryd.ntmps35
            go_wp2_with fail
            refine (HN.out _).mono ?_
            rintro e w4 ⟨rfl, hb4⟩
            obtain ⟨f1, f2, f3⟩ := HF.out w4 hb4
            have F3 : Hid (Below w.heap.size w w4) := f3
            have x2 : w4.cell? ⟨w.heap.size, 2, none⟩ = some (.int .i64 _) := (cell_of_row _ _ 2 _ _ _ f1).trans rfl
            have x3 : w4.cell? ⟨w.heap.size, 3, none⟩ = some (.slice a1 m a3) := (cell_of_row _ _ 3 _ _ _ f1).trans rfl
            have x4 : w4.cell? ⟨w.heap.size, 4, none⟩ = some (.slice b1 bl b3) := (cell_of_row _ _ 4 _ _ _ f1).trans rfl
            have x5 : w4.cell? ⟨w.heap.size, 5, none⟩ = some (.slice e1 el e3) := (cell_of_row _ _ 5 _ _ _ f1).trans rfl
            have y1 : w4.cell? ⟨w.heap.size + 1, 1, none⟩ = some (.bool false) := (cell_of_row _ _ 1 _ _ _ f2).trans rfl
            have y2 : w4.cell? ⟨w.heap.size + 1, 2, none⟩ = some (.bool false) := (cell_of_row _ _ 2 _ _ _ f2).trans rfl
            have y3 : w4.cell? ⟨w.heap.size + 1, 3, none⟩ = some (.bool false) := (cell_of_row _ _ 3 _ _ _ f2).trans rfl
            have y4 : w4.cell? ⟨w.heap.size + 1, 4, none⟩ = some (.int .i64 1) := (cell_of_row _ _ 4 _ _ _ f2).trans rfl
            clear hb4 f1 f2 f3
            go_wp2_with fail
            go_ret
            exact ⟨by rw [← HR.out]; simp_all; try (intros; omega), F3.out⟩
          · have d6' : ((el : Int) == 0) = false := by simpa using d6
            go_enter Tryd.func35, Tryd.ntmps35
            go_wp2_with fail
            refine (HN.out _).mono ?_
            rintro e w4 ⟨rfl, hb4⟩
            obtain ⟨f1, f2, f3⟩ := HF.out w4 hb4
            have F3 : Hid (Below w.heap.size w w4) := f3
            have x2 : w4.cell? ⟨w.heap.size, 2, none⟩ = some (.int .i64 _) := (cell_of_row _ _ 2 _ _ _ f1).trans rfl
            have x3 : w4.cell? ⟨w.heap.size, 3, none⟩ = some (.slice a1 m a3) := (cell_of_row _ _ 3 _ _ _ f1).trans rfl
            have x4 : w4.cell? ⟨w.heap.size, 4, none⟩ = some (.slice b1 bl b3) := (cell_of_row _ _ 4 _ _ _ f1).trans rfl
            have x5 : w4.cell? ⟨w.heap.size, 5, none⟩ = some (.slice e1 el e3) := (cell_of_row _ _ 5 _ _ _ f1).trans rfl
            have y1 : w4.cell? ⟨w.heap.size + 1, 1, none⟩ = some (.bool false) := (cell_of_row _ _ 1 _ _ _ f2).trans rfl
            have y2 : w4.cell? ⟨w.heap.size + 1, 2, none⟩ = some (.bool false) := (cell_of_row _ _ 2 _ _ _ f2).trans rfl
            have y3 : w4.cell? ⟨w.heap.size + 1, 3, none⟩ = some (.bool false) := (cell_of_row _ _ 3 _ _ _ f2).trans rfl
            have y4 : w4.cell? ⟨w.heap.size + 1, 4, none⟩ = some (.int .i64 1) := (cell_of_row _ _ 4 _ _ _ f2).trans rfl
            clear hb4 f1 f2 f3
            go_wp2_with fail
            go_ret
            exact ⟨by rw [← HR.out]; simp_all; try (intros; omega), F3.out⟩
        · have d5' : ((bl : Int) == 0) = false := by simpa using d5
          go_enter Tryd.func35, Tryd.ntmps35
          go_wp2_with fail
          refine (HN.out _).mono ?_
          rintro e w4 ⟨rfl, hb4⟩
          obtain ⟨f1, f2, f3⟩ := HF.out w4 hb4
          have F3 : Hid (Below w.heap.size w w4) := f3
          have x2 : w4.cell? ⟨w.heap.size, 2, none⟩ = some (.int .i64 _) := (cell_of_row _ _ 2 _ _ _ f1).trans rfl
          have x3 : w4.cell? ⟨w.heap.size, 3, none⟩ = some (.slice a1 m a3) := (cell_of_row _ _ 3 _ _ _ f1).trans rfl
          have x4 : w4.cell? ⟨w.heap.size, 4, none⟩ = some (.slice b1 bl b3) := (cell_of_row _ _ 4 _ _ _ f1).trans rfl
          have x5 : w4.cell? ⟨w.heap.size, 5, none⟩ = some (.slice e1 el e3) := (cell_of_row _ _ 5 _ _ _ f1).trans rfl
          have y1 : w4.cell? ⟨w.heap.size + 1, 1, none⟩ = some (.bool false) := (cell_of_row _ _ 1 _ _ _ f2).trans rfl
          have y2 : w4.cell? ⟨w.heap.size + 1, 2, none⟩ = some (.bool false) := (cell_of_row _ _ 2 _ _ _ f2).trans rfl
          have y3 : w4.cell? ⟨w.heap.size + 1, 3, none⟩ = some (.bool false) := (cell_of_row _ _ 3 _ _ _ f2).trans rfl
          have y4 : w4.cell? ⟨w.heap.size + 1, 4, none⟩ = some (.int .i64 1) := (cell_of_row _ _ 4 _ _ _ f2).trans rfl
          clear hb4 f1 f2 f3
          go_wp2_with fail
          go_ret
          exact ⟨by rw [← HR.out]; simp_all; try (intros; omega), F3.out⟩
      · have d4' : ((m : Int) == 1) = false := by simpa using d4
        go_enter Tryd.func35, Tryd.ntmps35
        go_wp2_with fail
        refine (HN.out _).mono ?_
        rintro e w4 ⟨rfl, hb4⟩
        obtain ⟨f1, f2, f3⟩ := HF.out w4 hb4
        have F3 : Hid (Below w.heap.size w w4) := f3
        have x2 : w4.cell? ⟨w.heap.size, 2, none⟩ = some (.int .i64 _) := (cell_of_row _ _ 2 _ _ _ f1).trans rfl
        have x3 : w4.cell? ⟨w.heap.size, 3, none⟩ = some (.slice a1 m a3) := (cell_of_row _ _ 3 _ _ _ f1).trans rfl
        have x4 : w4.cell? ⟨w.heap.size, 4, none⟩ = some (.slice b1 bl b3) := (cell_of_row _ _ 4 _ _ _ f1).trans rfl
        have x5 : w4.cell? ⟨w.heap.size, 5, none⟩ = some (.slice e1 el e3) := (cell_of_row _ _ 5 _ _ _ f1).trans rfl
        have y1 : w4.cell? ⟨w.heap.size + 1, 1, none⟩ = some (.bool false) := (cell_of_row _ _ 1 _ _ _ f2).trans rfl
        have y2 : w4.cell? ⟨w.heap.size + 1, 2, none⟩ = some (.bool false) := (cell_of_row _ _ 2 _ _ _ f2).trans rfl
        have y3 : w4.cell? ⟨w.heap.size + 1, 3, none⟩ = some (.bool false) := (cell_of_row _ _ 3 _ _ _ f2).trans rfl
        have y4 : w4.cell? ⟨w.heap.size + 1, 4, none⟩ = some (.int .i64 1) := (cell_of_row _ _ 4 _ _ _ f2).trans rfl
        clear hb4 f1 f2 f3
        go_wp2_with fail
        go_ret
        exact ⟨by rw [← HR.out]; simp_all; try (intros; omega), F3.out⟩
    · have e0 : (c == 0) = false := by simpa using c0
      go_enter Tryd.func35, Tryd.ntmps35
      go_wp2_with fail
      refine (HN.out _).mono ?_
      rintro e w4 ⟨rfl, hb4⟩
      obtain ⟨f1, f2, f3⟩ := HF.out w4 hb4
      have F3 : Hid (Below w.heap.size w w4) := f3
      have x2 : w4.cell? ⟨w.heap.size, 2, none⟩ = some (.int .i64 _) := (cell_of_row _ _ 2 _ _ _ f1).trans rfl
      have x3 : w4.cell? ⟨w.heap.size, 3, none⟩ = some (.slice a1 m a3) := (cell_of_row _ _ 3 _ _ _ f1).trans rfl
      have x4 : w4.cell? ⟨w.heap.size, 4, none⟩ = some (.slice b1 bl b3) := (cell_of_row _ _ 4 _ _ _ f1).trans rfl
      have x5 : w4.cell? ⟨w.heap.size, 5, none⟩ = some (.slice e1 el e3) := (cell_of_row _ _ 5 _ _ _ f1).trans rfl
      have y1 : w4.cell? ⟨w.heap.size + 1, 1, none⟩ = some (.bool false) := (cell_of_row _ _ 1 _ _ _ f2).trans rfl
      have y2 : w4.cell? ⟨w.heap.size + 1, 2, none⟩ = some (.bool false) := (cell_of_row _ _ 2 _ _ _ f2).trans rfl
      have y3 : w4.cell? ⟨w.heap.size + 1, 3, none⟩ = some (.bool false) := (cell_of_row _ _ 3 _ _ _ f2).trans rfl
      have y4 : w4.cell? ⟨w.heap.size + 1, 4, none⟩ = some (.int .i64 1) := (cell_of_row _ _ 4 _ _ _ f2).trans rfl
      clear hb4 f1 f2 f3
      go_wp2_with fail
      go_ret
      exact ⟨by rw [← HR.out]; simp_all; try (intros; omega), F3.out⟩

set_option maxRecDepth 100000 in
set_option maxHeartbeats 8000000 in
theorem stmtFits_9 (s : ByteArray) (c : Int) (a1 b1 e1 : Option Addr) (m a3 bl b3 el e3 : Nat) (hm : m ≤ 9223372036854775807) (hm1 : bl ≤ 9223372036854775807) (hm2 : el ≤ 9223372036854775807) (hs : s.size ≤ maxLen) (w : World) (hT : TB w) : Calls Tryd.prog 35 #[.agg #[.int .i64 9, .string s, .int .i64 c, .slice a1 m a3, .slice b1 bl b3, .slice e1 el e3]] w (QB w (stmtB ⟨false, false, false, false, 0⟩ s c m bl el)) := by
  obtain ⟨_, ⟨ty, fr, hT⟩⟩ := hT
  have hlt : 1 < w.heap.size := (Array.getElem?_eq_some_iff.1 hT).1
  have t0 : ∀ A, (w.alloc A).cell? ⟨1, 45, none⟩ = some (.bool false) := fun A => by rw [World.cell?_of_block (a := ⟨1, 45, none⟩) (Below.heap_alloc _ _ _ hlt)]; exact (cell_of_row w 1 45 _ _ _ hT).trans rfl
  have t1 : ∀ A, (w.alloc A).cell? ⟨1, 46, none⟩ = some (.bool false) := fun A => by rw [World.cell?_of_block (a := ⟨1, 46, none⟩) (Below.heap_alloc _ _ _ hlt)]; exact (cell_of_row w 1 46 _ _ _ hT).trans rfl
  have t2 : ∀ A, (w.alloc A).cell? ⟨1, 47, none⟩ = some (.bool false) := fun A => by rw [World.cell?_of_block (a := ⟨1, 47, none⟩) (Below.heap_alloc _ _ _ hlt)]; exact (cell_of_row w 1 47 _ _ _ hT).trans rfl
  have t3 : ∀ A, (w.alloc A).cell? ⟨1, 48, none⟩ = some (.bool false) := fun A => by rw [World.cell?_of_block (a := ⟨1, 48, none⟩) (Below.heap_alloc _ _ _ hlt)]; exact (cell_of_row w 1 48 _ _ _ hT).trans rfl
  have t4 : ∀ A, (w.alloc A).cell? ⟨1, 49, none⟩ = some (.int .i64 0) := fun A => by rw [World.cell?_of_block (a := ⟨1, 49, none⟩) (Below.heap_alloc _ _ _ hlt)]; exact (cell_of_row w 1 49 _ _ _ hT).trans rfl
  have HN : Hid (∀ W, Calls Tryd.prog 48 #[.string s, .bool false] W (QB W (nameF s false))) := fun W => nameFits_any s false hs W
  obtain ⟨res, hres⟩ : ∃ r, stmtB ⟨false, false, false, false, 0⟩ s c m bl el = r := ⟨_, rfl⟩
  have HR : Hid (stmtB ⟨false, false, false, false, 0⟩ s c m bl el = res) := hres
  rw [hres]
  unfold stmtB at HR
  simp only at HR
  obtain ⟨z2, hz2⟩ : ∃ b, nameF s false = b := ⟨_, rfl⟩
  rw [hz2] at HN HR
  clear hres hz2 hT hs
  have HB2 : Hid (Below w.heap.size w ((w.alloc (.cells #[.int .i64 9, .string s, .int .i64 c, .slice a1 m a3, .slice b1 bl b3, .slice e1 el e3] 39)).alloc (.cells #[.bool false, .bool false, .bool false, .bool false, .int .i64 0] 87))) := ((Below.refl _ _).alloc (Nat.le_refl _) _).alloc (by simp) _
  have HF : Hid (∀ w4, Below ((w.alloc (.cells #[.int .i64 9, .string s, .int .i64 c, .slice a1 m a3, .slice b1 bl b3, .slice e1 el e3] 39)).alloc (.cells #[.bool false, .bool false, .bool false, .bool false, .int .i64 0] 87)).heap.size ((w.alloc (.cells #[.int .i64 9, .string s, .int .i64 c, .slice a1 m a3, .slice b1 bl b3, .slice e1 el e3] 39)).alloc (.cells #[.bool false, .bool false, .bool false, .bool false, .int .i64 0] 87)) w4 → w4.heap[w.heap.size]? = some (.cells #[.int .i64 9, .string s, .int .i64 c, .slice a1 m a3, .slice b1 bl b3, .slice e1 el e3] 39) ∧ w4.heap[w.heap.size + 1]? = some (.cells #[.bool false, .bool false, .bool false, .bool false, .int .i64 0] 87) ∧ Below w.heap.size w w4) := by
    intro w4 hb
    refine ⟨(hb.block _ (by simp; omega)).trans ((Below.heap_alloc _ _ _ (by simp)).trans (heap_alloc_new w _)), (hb.block _ (by simp)).trans ?_, HB2.out.trans (hb.mono (by simp; omega))⟩
    have := heap_alloc_new (w.alloc (.cells #[.int .i64 9, .string s, .int .i64 c, .slice a1 m a3, .slice b1 bl b3, .slice e1 el e3] 39)) (.cells #[.bool false, .bool false, .bool false, .bool false, .int .i64 0] 87)
    rw [show (w.alloc (.cells #[.int .i64 9, .string s, .int .i64 c, .slice a1 m a3, .slice b1 bl b3, .slice e1 el e3] 39)).heap.size = w.heap.size + 1 by simp] at this
    exact this
  cases z2
  · go_enter Tryd.func35, Tryd.ntmps35
    go_wp2_with fail
    refine (HN.out _).mono ?_
    rintro e w4 ⟨rfl, hb4⟩
    obtain ⟨f1, f2, f3⟩ := HF.out w4 hb4
    have F3 : Hid (Below w.heap.size w w4) := f3
    have x2 : w4.cell? ⟨w.heap.size, 2, none⟩ = some (.int .i64 _) := (cell_of_row _ _ 2 _ _ _ f1).trans rfl
    have x3 : w4.cell? ⟨w.heap.size, 3, none⟩ = some (.slice a1 m a3) := (cell_of_row _ _ 3 _ _ _ f1).trans rfl
    have x4 : w4.cell? ⟨w.heap.size, 4, none⟩ = some (.slice b1 bl b3) := (cell_of_row _ _ 4 _ _ _ f1).trans rfl
    have x5 : w4.cell? ⟨w.heap.size, 5, none⟩ = some (.slice e1 el e3) := (cell_of_row _ _ 5 _ _ _ f1).trans rfl
    have y1 : w4.cell? ⟨w.heap.size + 1, 1, none⟩ = some (.bool false) := (cell_of_row _ _ 1 _ _ _ f2).trans rfl
    have y2 : w4.cell? ⟨w.heap.size + 1, 2, none⟩ = some (.bool false) := (cell_of_row _ _ 2 _ _ _ f2).trans rfl
    have y3 : w4.cell? ⟨w.heap.size + 1, 3, none⟩ = some (.bool false) := (cell_of_row _ _ 3 _ _ _ f2).trans rfl
    have y4 : w4.cell? ⟨w.heap.size + 1, 4, none⟩ = some (.int .i64 0) := (cell_of_row _ _ 4 _ _ _ f2).trans rfl
    clear hb4 f1 f2 f3
    go_wp2_with fail
    go_ret
    exact ⟨by rw [← HR.out]; simp_all; try (intros; omega), F3.out⟩
  · by_cases c0 : c = 0
    · subst c0
      by_cases d4 : (m : Int) = 0
      · have d4' : ((m : Int) == 0) = true := by simpa using d4
        by_cases d5 : (bl : Int) = 0
        · have d5' : ((bl : Int) == 0) = true := by simpa using d5
          by_cases d6 : (el : Int) = 0
          · have d6' : ((el : Int) == 0) = true := by simpa using d6
            go_enter Tryd.func35, Tryd.ntmps35
            go_wp2_with fail
            refine (HN.out _).mono ?_
            rintro e w4 ⟨rfl, hb4⟩
            obtain ⟨f1, f2, f3⟩ := HF.out w4 hb4
            have F3 : Hid (Below w.heap.size w w4) := f3
            have x2 : w4.cell? ⟨w.heap.size, 2, none⟩ = some (.int .i64 _) := (cell_of_row _ _ 2 _ _ _ f1).trans rfl
            have x3 : w4.cell? ⟨w.heap.size, 3, none⟩ = some (.slice a1 m a3) := (cell_of_row _ _ 3 _ _ _ f1).trans rfl
            have x4 : w4.cell? ⟨w.heap.size, 4, none⟩ = some (.slice b1 bl b3) := (cell_of_row _ _ 4 _ _ _ f1).trans rfl
            have x5 : w4.cell? ⟨w.heap.size, 5, none⟩ = some (.slice e1 el e3) := (cell_of_row _ _ 5 _ _ _ f1).trans rfl
            have y1 : w4.cell? ⟨w.heap.size + 1, 1, none⟩ = some (.bool false) := (cell_of_row _ _ 1 _ _ _ f2).trans rfl
            have y2 : w4.cell? ⟨w.heap.size + 1, 2, none⟩ = some (.bool false) := (cell_of_row _ _ 2 _ _ _ f2).trans rfl
            have y3 : w4.cell? ⟨w.heap.size + 1, 3, none⟩ = some (.bool false) := (cell_of_row _ _ 3 _ _ _ f2).trans rfl
            have y4 : w4.cell? ⟨w.heap.size + 1, 4, none⟩ = some (.int .i64 0) := (cell_of_row _ _ 4 _ _ _ f2).trans rfl
            clear hb4 f1 f2 f3
            go_wp2_with fail
            go_ret
            exact ⟨by rw [← HR.out]; simp_all; try (intros; omega), F3.out⟩
          · have d6' : ((el : Int) == 0) = false := by simpa using d6
            go_enter Tryd.func35, Tryd.ntmps35
            go_wp2_with fail
            refine (HN.out _).mono ?_
            rintro e w4 ⟨rfl, hb4⟩
            obtain ⟨f1, f2, f3⟩ := HF.out w4 hb4
            have F3 : Hid (Below w.heap.size w w4) := f3
            have x2 : w4.cell? ⟨w.heap.size, 2, none⟩ = some (.int .i64 _) := (cell_of_row _ _ 2 _ _ _ f1).trans rfl
            have x3 : w4.cell? ⟨w.heap.size, 3, none⟩ = some (.slice a1 m a3) := (cell_of_row _ _ 3 _ _ _ f1).trans rfl
            have x4 : w4.cell? ⟨w.heap.size, 4, none⟩ = some (.slice b1 bl b3) := (cell_of_row _ _ 4 _ _ _ f1).trans rfl
            have x5 : w4.cell? ⟨w.heap.size, 5, none⟩ = some (.slice e1 el e3) := (cell_of_row _ _ 5 _ _ _ f1).trans rfl
            have y1 : w4.cell? ⟨w.heap.size + 1, 1, none⟩ = some (.bool false) := (cell_of_row _ _ 1 _ _ _ f2).trans rfl
            have y2 : w4.cell? ⟨w.heap.size + 1, 2, none⟩ = some (.bool false) := (cell_of_row _ _ 2 _ _ _ f2).trans rfl
            have y3 : w4.cell? ⟨w.heap.size + 1, 3, none⟩ = some (.bool false) := (cell_of_row _ _ 3 _ _ _ f2).trans rfl
            have y4 : w4.cell? ⟨w.heap.size + 1, 4, none⟩ = some (.int .i64 0) := (cell_of_row _ _ 4 _ _ _ f2).trans rfl
            clear hb4 f1 f2 f3
            go_wp2_with fail
            go_ret
            exact ⟨by rw [← HR.out]; simp_all; try (intros; omega), F3.out⟩
        · have d5' : ((bl : Int) == 0) = false := by simpa using d5
          go_enter Tryd.func35, Tryd.ntmps35
          go_wp2_with fail
          refine (HN.out _).mono ?_
          rintro e w4 ⟨rfl, hb4⟩
          obtain ⟨f1, f2, f3⟩ := HF.out w4 hb4
          have F3 : Hid (Below w.heap.size w w4) := f3
          have x2 : w4.cell? ⟨w.heap.size, 2, none⟩ = some (.int .i64 _) := (cell_of_row _ _ 2 _ _ _ f1).trans rfl
          have x3 : w4.cell? ⟨w.heap.size, 3, none⟩ = some (.slice a1 m a3) := (cell_of_row _ _ 3 _ _ _ f1).trans rfl
          have x4 : w4.cell? ⟨w.heap.size, 4, none⟩ = some (.slice b1 bl b3) := (cell_of_row _ _ 4 _ _ _ f1).trans rfl
          have x5 : w4.cell? ⟨w.heap.size, 5, none⟩ = some (.slice e1 el e3) := (cell_of_row _ _ 5 _ _ _ f1).trans rfl
          have y1 : w4.cell? ⟨w.heap.size + 1, 1, none⟩ = some (.bool false) := (cell_of_row _ _ 1 _ _ _ f2).trans rfl
          have y2 : w4.cell? ⟨w.heap.size + 1, 2, none⟩ = some (.bool false) := (cell_of_row _ _ 2 _ _ _ f2).trans rfl
          have y3 : w4.cell? ⟨w.heap.size + 1, 3, none⟩ = some (.bool false) := (cell_of_row _ _ 3 _ _ _ f2).trans rfl
          have y4 : w4.cell? ⟨w.heap.size + 1, 4, none⟩ = some (.int .i64 0) := (cell_of_row _ _ 4 _ _ _ f2).trans rfl
          clear hb4 f1 f2 f3
          go_wp2_with fail
          go_ret
          exact ⟨by rw [← HR.out]; simp_all; try (intros; omega), F3.out⟩
      · have d4' : ((m : Int) == 0) = false := by simpa using d4
        go_enter Tryd.func35, Tryd.ntmps35
        go_wp2_with fail
        refine (HN.out _).mono ?_
        rintro e w4 ⟨rfl, hb4⟩
        obtain ⟨f1, f2, f3⟩ := HF.out w4 hb4
        have F3 : Hid (Below w.heap.size w w4) := f3
        have x2 : w4.cell? ⟨w.heap.size, 2, none⟩ = some (.int .i64 _) := (cell_of_row _ _ 2 _ _ _ f1).trans rfl
        have x3 : w4.cell? ⟨w.heap.size, 3, none⟩ = some (.slice a1 m a3) := (cell_of_row _ _ 3 _ _ _ f1).trans rfl
        have x4 : w4.cell? ⟨w.heap.size, 4, none⟩ = some (.slice b1 bl b3) := (cell_of_row _ _ 4 _ _ _ f1).trans rfl
        have x5 : w4.cell? ⟨w.heap.size, 5, none⟩ = some (.slice e1 el e3) := (cell_of_row _ _ 5 _ _ _ f1).trans rfl
        have y1 : w4.cell? ⟨w.heap.size + 1, 1, none⟩ = some (.bool false) := (cell_of_row _ _ 1 _ _ _ f2).trans rfl
        have y2 : w4.cell? ⟨w.heap.size + 1, 2, none⟩ = some (.bool false) := (cell_of_row _ _ 2 _ _ _ f2).trans rfl
        have y3 : w4.cell? ⟨w.heap.size + 1, 3, none⟩ = some (.bool false) := (cell_of_row _ _ 3 _ _ _ f2).trans rfl
        have y4 : w4.cell? ⟨w.heap.size + 1, 4, none⟩ = some (.int .i64 0) := (cell_of_row _ _ 4 _ _ _ f2).trans rfl
        clear hb4 f1 f2 f3
        go_wp2_with fail
        go_ret
        exact ⟨by rw [← HR.out]; simp_all; try (intros; omega), F3.out⟩
    · have e0 : (c == 0) = false := by simpa using c0
      go_enter Tryd.func35, Tryd.ntmps35
      go_wp2_with fail
      refine (HN.out _).mono ?_
      rintro e w4 ⟨rfl, hb4⟩
      obtain ⟨f1, f2, f3⟩ := HF.out w4 hb4
      have F3 : Hid (Below w.heap.size w w4) := f3
      have x2 : w4.cell? ⟨w.heap.size, 2, none⟩ = some (.int .i64 _) := (cell_of_row _ _ 2 _ _ _ f1).trans rfl
      have x3 : w4.cell? ⟨w.heap.size, 3, none⟩ = some (.slice a1 m a3) := (cell_of_row _ _ 3 _ _ _ f1).trans rfl
      have x4 : w4.cell? ⟨w.heap.size, 4, none⟩ = some (.slice b1 bl b3) := (cell_of_row _ _ 4 _ _ _ f1).trans rfl
      have x5 : w4.cell? ⟨w.heap.size, 5, none⟩ = some (.slice e1 el e3) := (cell_of_row _ _ 5 _ _ _ f1).trans rfl
      have y1 : w4.cell? ⟨w.heap.size + 1, 1, none⟩ = some (.bool false) := (cell_of_row _ _ 1 _ _ _ f2).trans rfl
      have y2 : w4.cell? ⟨w.heap.size + 1, 2, none⟩ = some (.bool false) := (cell_of_row _ _ 2 _ _ _ f2).trans rfl
      have y3 : w4.cell? ⟨w.heap.size + 1, 3, none⟩ = some (.bool false) := (cell_of_row _ _ 3 _ _ _ f2).trans rfl
      have y4 : w4.cell? ⟨w.heap.size + 1, 4, none⟩ = some (.int .i64 0) := (cell_of_row _ _ 4 _ _ _ f2).trans rfl
      clear hb4 f1 f2 f3
      go_wp2_with fail
      go_ret
      exact ⟨by rw [← HR.out]; simp_all; try (intros; omega), F3.out⟩

set_option maxRecDepth 100000 in
set_option maxHeartbeats 8000000 in
theorem stmtFits_out (k : Int) (s : ByteArray) (c : Int) (a1 b1 e1 : Option Addr) (m a3 bl b3 el e3 : Nat) (w : World) (hk : k < 1 ∨ 9 < k) : Calls Tryd.prog 35 #[.agg #[.int .i64 k, .string s, .int .i64 c, .slice a1 m a3, .slice b1 bl b3, .slice e1 el e3]] w (QB w false) := by
  have HB : Hid (∀ o, Below w.heap.size w (w.alloc o)) := fun o => (Below.refl _ _).alloc (Nat.le_refl _) _
  by_cases h1 : k < 1
  · go_enter Tryd.func35, Tryd.ntmps35
    go_wp2
    first | exact ⟨rfl, HB.out _⟩ | (go_ret; exact ⟨rfl, HB.out _⟩)
  · have h5 : 9 < k := by omega
    go_enter Tryd.func35, Tryd.ntmps35
    go_wp2
    first | exact ⟨rfl, HB.out _⟩ | (go_ret; exact ⟨rfl, HB.out _⟩)
theorem stmtFits_any (k : Int) (s : ByteArray) (c : Int) (a1 b1 e1 : Option Addr) (m a3 bl b3 el e3 : Nat) (hm : m ≤ 9223372036854775807) (hm1 : bl ≤ 9223372036854775807) (hm2 : el ≤ 9223372036854775807) (hs : s.size ≤ maxLen) (w : World) (hT : TB w) : Calls Tryd.prog 35 #[.agg #[.int .i64 k, .string s, .int .i64 c, .slice a1 m a3, .slice b1 bl b3, .slice e1 el e3]] w (QB w (stmtOk k s c m bl el)) := by
  by_cases hk : k < 1 ∨ 9 < k
  · have e : stmtOk k s c m bl el = false := by unfold stmtOk; rw [show decide (1 ≤ k ∧ k ≤ 9) = false by simp; omega]; rfl
    rw [e]; exact stmtFits_out k s c a1 b1 e1 m a3 bl b3 el e3 w hk
  · have e : stmtOk k s c m bl el = stmtB (hasS k) s c m bl el := by unfold stmtOk; rw [show decide (1 ≤ k ∧ k ≤ 9) = true by simp; omega]; rfl
    rw [e]
    have hk9 : k = 1 ∨ k = 2 ∨ k = 3 ∨ k = 4 ∨ k = 5 ∨ k = 6 ∨ k = 7 ∨ k = 8 ∨ k = 9 := by omega
    rcases hk9 with rfl | rfl | rfl | rfl | rfl | rfl | rfl | rfl | rfl
    · exact stmtFits_1 s c a1 b1 e1 m a3 bl b3 el e3 hm hm1 hm2 hs w hT
    · exact stmtFits_2 s c a1 b1 e1 m a3 bl b3 el e3 hm hm1 hm2 hs w hT
    · exact stmtFits_3 s c a1 b1 e1 m a3 bl b3 el e3 hm hm1 hm2 hs w hT
    · exact stmtFits_4 s c a1 b1 e1 m a3 bl b3 el e3 hm hm1 hm2 hs w hT
    · exact stmtFits_5 s c a1 b1 e1 m a3 bl b3 el e3 hm hm1 hm2 hs w hT
    · exact stmtFits_6 s c a1 b1 e1 m a3 bl b3 el e3 hm hm1 hm2 hs w hT
    · exact stmtFits_7 s c a1 b1 e1 m a3 bl b3 el e3 hm hm1 hm2 hs w hT
    · exact stmtFits_8 s c a1 b1 e1 m a3 bl b3 el e3 hm hm1 hm2 hs w hT
    · exact stmtFits_9 s c a1 b1 e1 m a3 bl b3 el e3 hm hm1 hm2 hs w hT
end Go.Proofs.YtnofibjchhcmeabDoor
