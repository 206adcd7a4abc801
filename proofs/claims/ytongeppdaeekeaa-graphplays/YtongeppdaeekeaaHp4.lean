/- A heap is made. -/
import Derived.Test.YtongeppdaeekeaaHp3
namespace Go.Proofs.Ytongeppdaeekeaa
open Go.RowKit Go.Maps
set_option linter.unusedVariables false

/-- a slice of pairs -/
def PSl (w : World) (v : Value) (G : List (Int × Int)) : Prop :=
  ∃ a c b o, v = .slice a G.length c ∧ G.length ≤ c ∧ c ≤ maxLen ∧ (0 < G.length → a = some ⟨b, o, none⟩) ∧ ∀ i (h : i < G.length), w.cell? ⟨b, o + i * 2, none⟩ = some (.int .i64 G[i].1) ∧ w.cell? ⟨b, o + (i * 2 + 1), none⟩ = some (.int .i64 G[i].2)
theorem PSl.below {w w' : World} {v : Value} {G : List (Int × Int)} (h : PSl w v G) (hb : Below w.heap.size w w') : PSl w' v G := by
  obtain ⟨a, c, b, o, h1, h2, h3, h4, h5⟩ := h
  exact ⟨a, c, b, o, h1, h2, h3, h4, fun i hi => ⟨(hb.cell (p := ⟨b, o + i * 2, none⟩) (World.block_lt_of_cell? w _ (h5 i hi).1)).trans (h5 i hi).1, (hb.cell (p := ⟨b, o + (i * 2 + 1), none⟩) (World.block_lt_of_cell? w _ (h5 i hi).2)).trans (h5 i hi).2⟩⟩

def opsQ (R : List (Int × Int)) (q : Nat) : List Int := (R.map Prod.fst).take q ++ List.replicate (R.length - q) 0
theorem opsQ_len (R : List (Int × Int)) (q : Nat) (h : q ≤ R.length) : (opsQ R q).length = R.length := by simp [opsQ]; omega
theorem opsQ_all (R : List (Int × Int)) : opsQ R R.length = R.map Prod.fst := by
  unfold opsQ
  rw [List.take_of_length_le (by simp)]; simp
theorem opsQ_next (R : List (Int × Int)) (q : Nat) (h : q < R.length) : (opsQ R q).set q R[q].1 = opsQ R (q + 1) := by
  unfold opsQ
  have e0 : q - ((R.map Prod.fst).take q).length = 0 := by simp; omega
  obtain ⟨m, hm⟩ : ∃ m, R.length - q = m + 1 := ⟨R.length - q - 1, by omega⟩
  rw [List.set_append_right _ _ (by simp; omega), List.take_succ_eq_append_getElem (by simpa using h), e0, hm, List.replicate_succ, List.set_cons_zero, List.append_assoc, show R.length - (q + 1) = m by omega]
  simp only [List.getElem_map, List.singleton_append]
theorem HP.setO {w : World} {hb bo bn : Nat} {ops now : List Int} {many : Int} (h : HP w hb bo bn ops now many) (i : Nat) (z : Int) : HP (w.setCell ⟨bo, i, none⟩ (.int .i64 z)) hb bo bn (ops.set i z) now many := by
  refine ⟨by simpa using h.len, ?_, ?_, (Below.heap_setCell _ _ _ _ h.n3.symm).trans h.bN, h.n1, h.n2, h.n3, by simpa using h.short⟩
  · rw [List.length_set]; exact (Below.heap_setCell _ _ _ _ h.n1).trans h.bl
  · rw [heap_setCell_same w bo i _ 38 _ h.bO, ints_set]

def rightL (R : List (Int × Int)) : Bool := R.all fun x => rightB x.1
def NewP (R : List (Int × Int)) (w : World) (e : Ending) (w' : World) : Prop :=
  (4 < R.length ∧ e = .returned (.tuple #[.pointer none, .int .i64 171]) ∧ Below w.heap.size w w') ∨
  (R.length ≤ 4 ∧ rightL R = false ∧ e = .returned (.tuple #[.pointer none, .int .i64 140]) ∧ Below w.heap.size w w') ∨
  (R.length ≤ 4 ∧ rightL R = true ∧ ∃ hb bo bn, e = .returned (.tuple #[.pointer (some ⟨hb, 0, none⟩), .int .i64 0]) ∧ HP w' hb bo bn (R.map Prod.fst) ((R.map Prod.fst).map zeroI) 0 ∧ w.heap.size ≤ hb ∧ w.heap.size ≤ bo ∧ w.heap.size ≤ bn ∧ Below w.heap.size w w')

theorem HP.made1 (w : World) (N : Nat) (hN : N ≤ 4) : HP (((w.alloc (Obj.cells (ints (List.replicate N 0)) 38)).alloc (Obj.cells (ints (List.replicate N 0)) 2)).alloc (Obj.cells #[Value.slice (some ⟨w.heap.size, 0, none⟩) N N, Value.slice (some ⟨w.heap.size + 1, 0, none⟩) N N, Value.int IntKind.i64 0] 147)).drew (w.heap.size + 1 + 1) w.heap.size (w.heap.size + 1) (List.replicate N 0) (List.replicate N 0) 0 := by
  refine ⟨rfl, ?_, ?_, ?_, by omega, by omega, by omega, by simpa using hN⟩
  · simp only [List.length_replicate]
    have := heap_alloc_new ((w.alloc (Obj.cells (ints (List.replicate N 0)) 38)).alloc (Obj.cells (ints (List.replicate N 0)) 2)) (Obj.cells #[Value.slice (some ⟨w.heap.size, 0, none⟩) N N, Value.slice (some ⟨w.heap.size + 1, 0, none⟩) N N, Value.int IntKind.i64 0] 147)
    rw [World.size_alloc, World.size_alloc] at this
    exact this
  · refine (Below.heap_alloc _ _ _ (by simp; omega)).trans ((Below.heap_alloc _ _ _ (by simp)).trans (heap_alloc_new w _))
  · have := heap_alloc_new (w.alloc (Obj.cells (ints (List.replicate N 0)) 38)) (Obj.cells (ints (List.replicate N 0)) 2)
    rw [World.size_alloc] at this
    exact (Below.heap_alloc _ _ _ (by simp)).trans this
theorem HP.made2 (w : World) (N : Nat) (hN : N ≤ 4) : HP (((w.alloc (Obj.cells (ints (List.replicate N 0)) 2)).alloc (Obj.cells (ints (List.replicate N 0)) 38)).alloc (Obj.cells #[Value.slice (some ⟨w.heap.size + 1, 0, none⟩) N N, Value.slice (some ⟨w.heap.size, 0, none⟩) N N, Value.int IntKind.i64 0] 147)).drew (w.heap.size + 1 + 1) (w.heap.size + 1) w.heap.size (List.replicate N 0) (List.replicate N 0) 0 := by
  refine ⟨rfl, ?_, ?_, ?_, by omega, by omega, by omega, by simpa using hN⟩
  · simp only [List.length_replicate]
    have := heap_alloc_new ((w.alloc (Obj.cells (ints (List.replicate N 0)) 2)).alloc (Obj.cells (ints (List.replicate N 0)) 38)) (Obj.cells #[Value.slice (some ⟨w.heap.size + 1, 0, none⟩) N N, Value.slice (some ⟨w.heap.size, 0, none⟩) N N, Value.int IntKind.i64 0] 147)
    rw [World.size_alloc, World.size_alloc] at this
    exact this
  · have := heap_alloc_new (w.alloc (Obj.cells (ints (List.replicate N 0)) 2)) (Obj.cells (ints (List.replicate N 0)) 38)
    rw [World.size_alloc] at this
    exact (Below.heap_alloc _ _ _ (by simp)).trans this
  · refine (Below.heap_alloc _ _ _ (by simp; omega)).trans ((Below.heap_alloc _ _ _ (by simp)).trans (heap_alloc_new w _))

set_option maxRecDepth 100000 in
set_option maxHeartbeats 2000000 in
theorem new_any (R : List (Int × Int)) (v : Value) (w : World) (hv : PSl w v R) : Calls Try.prog 43 #[v] w (NewP R w) := by
  obtain ⟨a1, cc, b1, o1, rfl, h2, h3, h4, h5⟩ := hv
  obtain ⟨N, hN⟩ : ∃ N, R.length = N := ⟨_, rfl⟩
  have HN : Hid (R.length = N) := hN
  have H5 : Hid (∀ i (h : i < R.length), w.cell? ⟨b1, o1 + i * 2, none⟩ = some (.int .i64 R[i].1) ∧ w.cell? ⟨b1, o1 + (i * 2 + 1), none⟩ = some (.int .i64 R[i].2)) := h5
  have H4 : Hid (0 < R.length → a1 = some ⟨b1, o1, none⟩) := h4
  obtain ⟨P, hP⟩ : ∃ P, NewP R w = P := ⟨_, rfl⟩
  have HQ : Hid (NewP R w = P) := hP
  rw [hP, hN]
  rw [hN] at h2
  unfold maxLen at h3
  clear hN hP h4 h5
  by_cases h6 : 4 < N
  · have e1 : decide (4 < (N : Int)) = true := by simp; omega
    have HF : Hid (P (.returned (.tuple #[.pointer none, .int .i64 171])) w) := by
      show P _ _
      rw [← HQ.out]
      exact .inl ⟨by rw [HN.out]; exact h6, rfl, Below.refl _ _⟩
    go_enter Try.func43, Try.ntmps43
    go_wp2
    first | exact HF.out | (go_ret2; exact HF.out)
  have e1 : decide (4 < (N : Int)) = false := by simp; omega
  have m1 := made26 N (by omega)
  have m2 := made145 N (by omega)
  go_enter Try.func43, Try.ntmps43
  go_wp2_with fail
  go_region
  · have HH : Hid (HP (((w.alloc (Obj.cells (ints (List.replicate N 0)) 38)).alloc (Obj.cells (ints (List.replicate N 0)) 2)).alloc (Obj.cells #[Value.slice (some ⟨w.heap.size, 0, none⟩) N N, Value.slice (some ⟨w.heap.size + 1, 0, none⟩) N N, Value.int IntKind.i64 0] 147)).drew (w.heap.size + 1 + 1) w.heap.size (w.heap.size + 1) (List.replicate N 0) (List.replicate N 0) 0) := HP.made1 w N (by omega)
    have HB0 : Hid (Below w.heap.size w (((w.alloc (Obj.cells (ints (List.replicate N 0)) 38)).alloc (Obj.cells (ints (List.replicate N 0)) 2)).alloc (Obj.cells #[Value.slice (some ⟨w.heap.size, 0, none⟩) N N, Value.slice (some ⟨w.heap.size + 1, 0, none⟩) N N, Value.int IntKind.i64 0] 147)).drew) := ((((Below.refl _ _).alloc (Nat.le_refl _) _).alloc (by simp) _).alloc (by simp; omega) _).drew
    obtain ⟨W, hW⟩ : ∃ W, (((w.alloc (Obj.cells (ints (List.replicate N 0)) 38)).alloc (Obj.cells (ints (List.replicate N 0)) 2)).alloc (Obj.cells #[Value.slice (some ⟨w.heap.size, 0, none⟩) N N, Value.slice (some ⟨w.heap.size + 1, 0, none⟩) N N, Value.int IntKind.i64 0] 147)).drew = W := ⟨_, rfl⟩
    rw [hW] at HH HB0
    rw [hW]
    clear hW
    have HO : Hid (opsQ R 0 = List.replicate N 0) := by show _ = _; simp [opsQ, HN.out]
    rw [← HO.out] at HH
    rw [HO.out] at HH
    go_wp2_with fail
    go_loopw [20] (fun i wr => ∃ q : Nat, i = .int .i64 (q : Int) ∧ q ≤ N ∧ Hid (Below w.heap.size w wr) ∧ Hid (HP wr (w.heap.size + 1 + 1) w.heap.size (w.heap.size + 1) (opsQ R q) (List.replicate N 0) 0) ∧ Hid (∀ i (h : i < R.length), i < q → rightB R[i].1 = true)) (fun i _ => N - (intOf i).toNat)
    case atStart => exact ⟨0, rfl, Nat.zero_le _, HB0, by rw [HO.out]; exact HH, fun i _ h => absurd h (by omega)⟩
    case round =>
      obtain ⟨q, rfl, hq, HB, HX, HR⟩ := hrel
      by_cases hlt : q < N
      · have q1 : q < R.length := by rw [HN.out]; exact hlt
        obtain rfl := H4.out (by omega)
        obtain ⟨z, hz⟩ : ∃ z, R[q] = z := ⟨_, rfl⟩
        obtain ⟨x, y⟩ := z
        have d1 : wr.cell? ⟨b1, o1 + q * 2, none⟩ = some (.int .i64 x) := by
          have := (H5.out q q1).1
          rw [hz] at this
          exact (HB.out.cell (p := ⟨b1, o1 + q * 2, none⟩) (World.block_lt_of_cell? w _ this)).trans this
        have d2 : wr.cell? ⟨b1, o1 + (q * 2 + 1), none⟩ = some (.int .i64 y) := by
          have := (H5.out q q1).2
          rw [hz] at this
          exact (HB.out.cell (p := ⟨b1, o1 + (q * 2 + 1), none⟩) (World.block_lt_of_cell? w _ this)).trans this
        have d3 : wr.cell? ⟨b1, o1 + q * 2 + 1, none⟩ = some (.int .i64 y) := d2
        have e2 : decide ((q : Int) < (N : Int)) = true := by simp; omega
        obtain ⟨V, hV⟩ : ∃ V, wr.alloc (Obj.cells #[Value.int IntKind.i64 x, Value.int IntKind.i64 y] 40) = V := ⟨_, rfl⟩
        have HBV : Hid (Below w.heap.size w V) := by rw [← hV]; exact HB.out.alloc HB.out.size _
        have HXV : Hid (HP V (w.heap.size + 1 + 1) w.heap.size (w.heap.size + 1) (opsQ R q) (List.replicate N 0) 0) := by rw [← hV]; exact HX.out.below ((Below.refl _ _).alloc (Nat.le_refl _) _)
        have d4 : V.cell? ⟨wr.heap.size, 0, none⟩ = some (.int .i64 x) := by rw [← hV]; simp
        have HV : Hid (wr.alloc (Obj.cells #[Value.int IntKind.i64 x, Value.int IntKind.i64 y] 40) = V) := hV
        clear hV
        by_cases hr : rightB x = true
        · have c0 := HXV.out.c0
          rw [opsQ_len _ _ (by rw [HN.out]; omega), HN.out] at c0
          obtain ⟨u, hu⟩ : ∃ u, V.cell? ⟨w.heap.size, q, none⟩ = some u := ⟨_, HXV.out.cO q (by rw [opsQ_len _ _ (by rw [HN.out]; omega)]; exact q1)⟩
          have fz : V.frozen? ⟨w.heap.size, q, none⟩ = false := frozen_of_row V w.heap.size q _ _ HXV.out.bO
          have HX2 : Hid (HP (V.drew.setCell ⟨w.heap.size, q, none⟩ (.int .i64 x)) (w.heap.size + 1 + 1) w.heap.size (w.heap.size + 1) (opsQ R (q + 1)) (List.replicate N 0) 0) := by
            have := HXV.out.drew.setO q x
            rw [show (opsQ R q).set q x = opsQ R (q + 1) by rw [← opsQ_next R q q1, hz]] at this
            exact this
          have HB2 : Hid (Below w.heap.size w (V.drew.setCell ⟨w.heap.size, q, none⟩ (.int .i64 x))) := Below.setCell HBV.out.drew (by show w.heap.size ≤ w.heap.size; omega) _
          have HR2 : Hid (∀ i (h : i < R.length), i < q + 1 → rightB R[i].1 = true) := fun i h h2 => by
            rcases Nat.lt_or_ge i q with h3 | h3
            · exact HR.out i h h3
            · have : i = q := by omega
              subst this
              rw [hz]; exact hr
          clear hz
          go_wp2_with fail
          rw [HV.out]
          refine (right_any _ _).mono ?_
          rintro e w4 ⟨rfl, hw4⟩
          rw [hw4, hr]
          clear hw4 w4
          go_wp2_with fail
          refine wp_region_still_tail 8 (by kernel_rfl) (by kernel_rfl) ?_
          simp only [List.take_succ_cons, List.take_zero, List.drop_succ_cons, List.drop_zero]
          repeat still_step
          refine wpStill_nil ?_
          go_wp2_with fail
          go_roundw
          case rel => exact ⟨q + 1, by go_num, by omega, HB2, HX2, HR2⟩
          case measure => simp [intOf]; omega
        · have er : rightB x = false := by simpa using hr
          have HF : Hid (P (.returned (.tuple #[.pointer none, .int .i64 140])) V) := by
            show P _ _
            rw [← HQ.out]
            refine .inr (.inl ⟨by rw [HN.out]; omega, ?_, rfl, HBV.out⟩)
            unfold rightL
            rw [List.all_eq_false]
            exact ⟨R[q], List.getElem_mem _, by rw [hz]; simpa using er⟩
          clear hz hr
          go_wp2_with fail
          rw [HV.out]
          refine (right_any _ _).mono ?_
          rintro e w4 ⟨rfl, hw4⟩
          rw [hw4, er]
          clear hw4 w4
          go_wp2
          first | exact HF.out | (go_ret2; exact HF.out)
      · have e2 : decide ((q : Int) < (N : Int)) = false := by simp; omega
        have hqN : q = N := by omega
        subst hqN
        have HF : Hid (∀ w5, HP w5 (w.heap.size + 1 + 1) w.heap.size (w.heap.size + 1) (opsQ R q) ((opsQ R q).map zeroI) 0 → Below w.heap.size w w5 → P (.returned (.tuple #[.pointer (some ⟨w.heap.size + 1 + 1, 0, none⟩), .int .i64 0])) w5) := by
          intro w5 h7 h8
          rw [← HQ.out]
          have e : opsQ R q = R.map Prod.fst := by have := opsQ_all R; rw [HN.out] at this; exact this
          rw [e] at h7
          refine .inr (.inr ⟨by rw [HN.out]; omega, ?_, _, _, _, rfl, h7, by omega, by omega, by omega, h8⟩)
          unfold rightL
          rw [List.all_eq_true]
          intro y hy
          obtain ⟨i, hi, rfl⟩ := List.getElem_of_mem hy
          exact HR.out i hi (by rw [HN.out] at hi; exact hi)
        have HC := clear_any wr HX.out
        have HCC : Hid (Calls Try.prog 62 #[.pointer (some ⟨w.heap.size + 1 + 1, 0, none⟩)] wr fun e w' => e = .returned (.tuple #[]) ∧ HP w' (w.heap.size + 1 + 1) w.heap.size (w.heap.size + 1) (opsQ R q) ((opsQ R q).map zeroI) 0 ∧ Ch (hw (w.heap.size + 1 + 1) (w.heap.size + 1)) wr w') := HC
        clear HC
        go_wp2_with fail
        refine HCC.out.mono ?_
        rintro e w5 ⟨rfl, h7, h8⟩
        have HFF : Hid (P (.returned (.tuple #[.pointer (some ⟨w.heap.size + 1 + 1, 0, none⟩), .int .i64 0])) w5) := HF.out w5 h7 (HB.out.trans (h8.below HB.out.size (fun k hk => by rcases hk with rfl | rfl <;> omega)))
        clear h7 h8
        go_wp2
        first | exact HFF.out | (go_ret2; exact HFF.out)
  · have HH : Hid (HP (((w.alloc (Obj.cells (ints (List.replicate N 0)) 2)).alloc (Obj.cells (ints (List.replicate N 0)) 38)).alloc (Obj.cells #[Value.slice (some ⟨w.heap.size + 1, 0, none⟩) N N, Value.slice (some ⟨w.heap.size, 0, none⟩) N N, Value.int IntKind.i64 0] 147)).drew (w.heap.size + 1 + 1) (w.heap.size + 1) w.heap.size (List.replicate N 0) (List.replicate N 0) 0) := HP.made2 w N (by omega)
    have HB0 : Hid (Below w.heap.size w (((w.alloc (Obj.cells (ints (List.replicate N 0)) 2)).alloc (Obj.cells (ints (List.replicate N 0)) 38)).alloc (Obj.cells #[Value.slice (some ⟨w.heap.size + 1, 0, none⟩) N N, Value.slice (some ⟨w.heap.size, 0, none⟩) N N, Value.int IntKind.i64 0] 147)).drew) := ((((Below.refl _ _).alloc (Nat.le_refl _) _).alloc (by simp) _).alloc (by simp; omega) _).drew
    obtain ⟨W, hW⟩ : ∃ W, (((w.alloc (Obj.cells (ints (List.replicate N 0)) 2)).alloc (Obj.cells (ints (List.replicate N 0)) 38)).alloc (Obj.cells #[Value.slice (some ⟨w.heap.size + 1, 0, none⟩) N N, Value.slice (some ⟨w.heap.size, 0, none⟩) N N, Value.int IntKind.i64 0] 147)).drew = W := ⟨_, rfl⟩
    rw [hW] at HH HB0
    rw [hW]
    clear hW
    have HO : Hid (opsQ R 0 = List.replicate N 0) := by show _ = _; simp [opsQ, HN.out]
    rw [← HO.out] at HH
    rw [HO.out] at HH
    go_wp2_with fail
    go_loopw [20] (fun i wr => ∃ q : Nat, i = .int .i64 (q : Int) ∧ q ≤ N ∧ Hid (Below w.heap.size w wr) ∧ Hid (HP wr (w.heap.size + 1 + 1) (w.heap.size + 1) w.heap.size (opsQ R q) (List.replicate N 0) 0) ∧ Hid (∀ i (h : i < R.length), i < q → rightB R[i].1 = true)) (fun i _ => N - (intOf i).toNat)
    case atStart => exact ⟨0, rfl, Nat.zero_le _, HB0, by rw [HO.out]; exact HH, fun i _ h => absurd h (by omega)⟩
    case round =>
      obtain ⟨q, rfl, hq, HB, HX, HR⟩ := hrel
      by_cases hlt : q < N
      · have q1 : q < R.length := by rw [HN.out]; exact hlt
        obtain rfl := H4.out (by omega)
        obtain ⟨z, hz⟩ : ∃ z, R[q] = z := ⟨_, rfl⟩
        obtain ⟨x, y⟩ := z
        have d1 : wr.cell? ⟨b1, o1 + q * 2, none⟩ = some (.int .i64 x) := by
          have := (H5.out q q1).1
          rw [hz] at this
          exact (HB.out.cell (p := ⟨b1, o1 + q * 2, none⟩) (World.block_lt_of_cell? w _ this)).trans this
        have d2 : wr.cell? ⟨b1, o1 + (q * 2 + 1), none⟩ = some (.int .i64 y) := by
          have := (H5.out q q1).2
          rw [hz] at this
          exact (HB.out.cell (p := ⟨b1, o1 + (q * 2 + 1), none⟩) (World.block_lt_of_cell? w _ this)).trans this
        have d3 : wr.cell? ⟨b1, o1 + q * 2 + 1, none⟩ = some (.int .i64 y) := d2
        have e2 : decide ((q : Int) < (N : Int)) = true := by simp; omega
        obtain ⟨V, hV⟩ : ∃ V, wr.alloc (Obj.cells #[Value.int IntKind.i64 x, Value.int IntKind.i64 y] 40) = V := ⟨_, rfl⟩
        have HBV : Hid (Below w.heap.size w V) := by rw [← hV]; exact HB.out.alloc HB.out.size _
        have HXV : Hid (HP V (w.heap.size + 1 + 1) (w.heap.size + 1) w.heap.size (opsQ R q) (List.replicate N 0) 0) := by rw [← hV]; exact HX.out.below ((Below.refl _ _).alloc (Nat.le_refl _) _)
        have d4 : V.cell? ⟨wr.heap.size, 0, none⟩ = some (.int .i64 x) := by rw [← hV]; simp
        have HV : Hid (wr.alloc (Obj.cells #[Value.int IntKind.i64 x, Value.int IntKind.i64 y] 40) = V) := hV
        clear hV
        by_cases hr : rightB x = true
        · have c0 := HXV.out.c0
          rw [opsQ_len _ _ (by rw [HN.out]; omega), HN.out] at c0
          obtain ⟨u, hu⟩ : ∃ u, V.cell? ⟨(w.heap.size + 1), q, none⟩ = some u := ⟨_, HXV.out.cO q (by rw [opsQ_len _ _ (by rw [HN.out]; omega)]; exact q1)⟩
          have fz : V.frozen? ⟨(w.heap.size + 1), q, none⟩ = false := frozen_of_row V (w.heap.size + 1) q _ _ HXV.out.bO
          have HX2 : Hid (HP (V.drew.setCell ⟨(w.heap.size + 1), q, none⟩ (.int .i64 x)) (w.heap.size + 1 + 1) (w.heap.size + 1) w.heap.size (opsQ R (q + 1)) (List.replicate N 0) 0) := by
            have := HXV.out.drew.setO q x
            rw [show (opsQ R q).set q x = opsQ R (q + 1) by rw [← opsQ_next R q q1, hz]] at this
            exact this
          have HB2 : Hid (Below w.heap.size w (V.drew.setCell ⟨(w.heap.size + 1), q, none⟩ (.int .i64 x))) := Below.setCell HBV.out.drew (by show w.heap.size ≤ (w.heap.size + 1); omega) _
          have HR2 : Hid (∀ i (h : i < R.length), i < q + 1 → rightB R[i].1 = true) := fun i h h2 => by
            rcases Nat.lt_or_ge i q with h3 | h3
            · exact HR.out i h h3
            · have : i = q := by omega
              subst this
              rw [hz]; exact hr
          clear hz
          go_wp2_with fail
          rw [HV.out]
          refine (right_any _ _).mono ?_
          rintro e w4 ⟨rfl, hw4⟩
          rw [hw4, hr]
          clear hw4 w4
          go_wp2_with fail
          refine wp_region_still_tail 8 (by kernel_rfl) (by kernel_rfl) ?_
          simp only [List.take_succ_cons, List.take_zero, List.drop_succ_cons, List.drop_zero]
          repeat still_step
          refine wpStill_nil ?_
          go_wp2_with fail
          go_roundw
          case rel => exact ⟨q + 1, by go_num, by omega, HB2, HX2, HR2⟩
          case measure => simp [intOf]; omega
        · have er : rightB x = false := by simpa using hr
          have HF : Hid (P (.returned (.tuple #[.pointer none, .int .i64 140])) V) := by
            show P _ _
            rw [← HQ.out]
            refine .inr (.inl ⟨by rw [HN.out]; omega, ?_, rfl, HBV.out⟩)
            unfold rightL
            rw [List.all_eq_false]
            exact ⟨R[q], List.getElem_mem _, by rw [hz]; simpa using er⟩
          clear hz hr
          go_wp2_with fail
          rw [HV.out]
          refine (right_any _ _).mono ?_
          rintro e w4 ⟨rfl, hw4⟩
          rw [hw4, er]
          clear hw4 w4
          go_wp2
          first | exact HF.out | (go_ret2; exact HF.out)
      · have e2 : decide ((q : Int) < (N : Int)) = false := by simp; omega
        have hqN : q = N := by omega
        subst hqN
        have HF : Hid (∀ w5, HP w5 (w.heap.size + 1 + 1) (w.heap.size + 1) w.heap.size (opsQ R q) ((opsQ R q).map zeroI) 0 → Below w.heap.size w w5 → P (.returned (.tuple #[.pointer (some ⟨w.heap.size + 1 + 1, 0, none⟩), .int .i64 0])) w5) := by
          intro w5 h7 h8
          rw [← HQ.out]
          have e : opsQ R q = R.map Prod.fst := by have := opsQ_all R; rw [HN.out] at this; exact this
          rw [e] at h7
          refine .inr (.inr ⟨by rw [HN.out]; omega, ?_, _, _, _, rfl, h7, by omega, by omega, by omega, h8⟩)
          unfold rightL
          rw [List.all_eq_true]
          intro y hy
          obtain ⟨i, hi, rfl⟩ := List.getElem_of_mem hy
          exact HR.out i hi (by rw [HN.out] at hi; exact hi)
        have HC := clear_any wr HX.out
        have HCC : Hid (Calls Try.prog 62 #[.pointer (some ⟨w.heap.size + 1 + 1, 0, none⟩)] wr fun e w' => e = .returned (.tuple #[]) ∧ HP w' (w.heap.size + 1 + 1) (w.heap.size + 1) w.heap.size (opsQ R q) ((opsQ R q).map zeroI) 0 ∧ Ch (hw (w.heap.size + 1 + 1) w.heap.size) wr w') := HC
        clear HC
        go_wp2_with fail
        refine HCC.out.mono ?_
        rintro e w5 ⟨rfl, h7, h8⟩
        have HFF : Hid (P (.returned (.tuple #[.pointer (some ⟨w.heap.size + 1 + 1, 0, none⟩), .int .i64 0])) w5) := HF.out w5 h7 (HB.out.trans (h8.below HB.out.size (fun k hk => by rcases hk with rfl | rfl <;> omega)))
        clear h7 h8
        go_wp2
        first | exact HFF.out | (go_ret2; exact HFF.out)
end Go.Proofs.Ytongeppdaeekeaa
