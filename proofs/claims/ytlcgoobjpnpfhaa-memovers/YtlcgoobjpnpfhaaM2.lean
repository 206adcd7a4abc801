/- A memory is made of cells. -/
import Derived.Test.YtlcgoobjpnpfhaaM1
namespace Go.Proofs.Ytlcgoobjpnpfhaa
open Go.RowKit Go.Maps
set_option linter.unusedVariables false

def bools (l : List Bool) : Array Value := (l.map Value.bool).toArray
theorem bools_at (l : List Bool) (i : Nat) (h : i < l.length) : (bools l)[i]? = some (.bool l[i]) := by simp [bools, h]
theorem bools_set (l : List Bool) (i : Nat) (z : Bool) : (bools l).setIfInBounds i (.bool z) = bools (l.set i z) := by simp [bools, List.map_set]
/-- the words of cells -/
def ofM (n : Nat) (C : List (Int × Int)) : List Int := (List.range n).map fun i : Nat => (lastC C (i : Int)).getD 0
/-- which places have cells -/
def toldM (C : List (Int × Int)) : List Bool := (List.range 64).map fun i : Nat => (lastC C (i : Int)).isSome
theorem ofM_len (n : Nat) (C : List (Int × Int)) : (ofM n C).length = n := by simp [ofM]
theorem toldM_len (C : List (Int × Int)) : (toldM C).length = 64 := by simp [toldM]
theorem ofM_snoc (n : Nat) (C : List (Int × Int)) (k : Nat) (y : Int) : (ofM n C).set k y = ofM n (C ++ [((k : Int), y)]) := by
  apply List.ext_getElem
  · simp [ofM]
  · intro i h1 h2
    simp only [ofM, List.getElem_set, List.getElem_map, List.getElem_range, lastC_snoc]
    by_cases h : k = i
    · simp [h]
    · have : ¬ (k : Int) = (i : Int) := by omega
      simp [h, this]
theorem toldM_snoc (C : List (Int × Int)) (k : Nat) (y : Int) : (toldM C).set k true = toldM (C ++ [((k : Int), y)]) := by
  apply List.ext_getElem
  · simp [toldM]
  · intro i h1 h2
    simp only [toldM, List.getElem_set, List.getElem_map, List.getElem_range, lastC_snoc]
    by_cases h : k = i
    · simp [h]
    · have : ¬ (k : Int) = (i : Int) := by omega
      simp [h, this]
theorem ofM_nil (n : Nat) : ofM n [] = List.replicate n 0 := by
  apply List.ext_getElem <;> simp [ofM, lastC]
theorem toldM_nil : toldM [] = List.replicate 64 false := List.eq_replicate_iff.2 ⟨toldM_len _, by intro b hb; simp [toldM, lastC] at hb; exact hb.2⟩
def ofE (n : Int) : List (Int × Int) → List (Int × Int) → Int
  | _, [] => 0
  | d, c :: r => if withinB c.1 n = true then (if (lastC d c.1).isSome = true then 61 else ofE n (d ++ [c]) r) else 131
def ofA (n : Int) (C : List (Int × Int)) : Int := if n < 1 ∨ 64 < n then 130 else ofE n [] C
def OfP (n : Int) (C : List (Int × Int)) (w : World) (e : Ending) (w' : World) : Prop :=
  (ofA n C ≠ 0 ∧ e = .returned (.tuple #[.slice none 0 0, .int .i64 (ofA n C)]) ∧ Below w.heap.size w w') ∨
  (ofA n C = 0 ∧ ∃ N : Nat, n = (N : Int) ∧ N ≤ 64 ∧ e = .returned (.tuple #[.slice (some ⟨w.heap.size, 0, none⟩) N N, .int .i64 0]) ∧ w'.heap[w.heap.size]? = some (.cells (ints (ofM N C)) 2) ∧ Below w.heap.size w w')

set_option maxRecDepth 100000 in
set_option maxHeartbeats 2000000 in
theorem of_any (n : Int) (C : List (Int × Int)) (v : Value) (w : World) (hl : C.length ≤ 100000) (hv : PSl w v C) : Calls Try.prog 9 #[.int .i64 n, v] w (OfP n C w) := by
  obtain ⟨a1, c1, b1, o1, rfl, h2, h3, h4, h5⟩ := hv
  obtain ⟨N, hN⟩ : ∃ N, C.length = N := ⟨_, rfl⟩
  have HN : Hid (C.length = N) := hN
  have H5 : Hid (∀ i (h : i < C.length), w.cell? ⟨b1, o1 + i * 2, none⟩ = some (.int .i64 C[i].1) ∧ w.cell? ⟨b1, o1 + (i * 2 + 1), none⟩ = some (.int .i64 C[i].2)) := h5
  have H4 : Hid (0 < C.length → a1 = some ⟨b1, o1, none⟩) := h4
  obtain ⟨P, hP⟩ : ∃ P, OfP n C w = P := ⟨_, rfl⟩
  have HQ : Hid (OfP n C w = P) := hP
  rw [hP, hN]
  rw [hN] at h2 hl
  unfold maxLen at h3
  clear hN h5 h4 hP
  by_cases g1 : n < 1
  · have e1 : decide (n < 1) = true := by simp [g1]
    have HF : Hid (P (.returned (.tuple #[.slice none 0 0, .int .i64 130])) w) := by
      show P _ _
      rw [← HQ.out]
      have : ofA n C = 130 := by unfold ofA; rw [if_pos (.inl g1)]
      exact .inl ⟨by rw [this]; decide, by rw [this], Below.refl _ _⟩
    go_enter Try.func9, Try.ntmps9
    go_wp2
    first | exact HF.out | (go_ret2; exact HF.out)
  have e1 : decide (n < 1) = false := by simp; omega
  by_cases g2 : 64 < n
  · have e2 : decide (64 < n) = true := by simp [g2]
    have HF : Hid (P (.returned (.tuple #[.slice none 0 0, .int .i64 130])) w) := by
      show P _ _
      rw [← HQ.out]
      have : ofA n C = 130 := by unfold ofA; rw [if_pos (.inr g2)]
      exact .inl ⟨by rw [this]; decide, by rw [this], Below.refl _ _⟩
    go_enter Try.func9, Try.ntmps9
    go_wp2
    first | exact HF.out | (go_ret2; exact HF.out)
  have e2 : decide (64 < n) = false := by simp; omega
  obtain ⟨K, rfl⟩ : ∃ K : Nat, n = (K : Int) := ⟨n.toNat, by omega⟩
  have hK : 1 ≤ K ∧ K ≤ 64 := by omega
  have mk := made30 K (by omega)
  go_enter Try.func9, Try.ntmps9
  go_wp2_with fail
  go_loopw [20] (fun i wr => ∃ q : Nat, i = .int .i64 (q : Int) ∧ q ≤ N ∧ Hid (Below w.heap.size w wr) ∧ Hid (wr.heap[w.heap.size]? = some (.cells (ints (ofM K (C.take q))) 2)) ∧ Hid (wr.heap[w.heap.size + 1]? = some (.cells (bools (toldM (C.take q))) 40)) ∧ Hid (ofE (K : Int) [] C = ofE (K : Int) (C.take q) (C.drop q))) (fun i _ => N - (intOf i).toNat)
  case atStart =>
    refine ⟨0, rfl, Nat.zero_le _, ((Below.refl _ _).alloc (Nat.le_refl _) _).alloc (by simp) _, ?_, ?_, rfl⟩
    · show _ = _
      rw [List.take_zero, ofM_nil]
      exact (Below.heap_alloc _ _ _ (by simp)).trans (heap_alloc_new w _)
    · show _ = _
      rw [List.take_zero, toldM_nil]
      have := heap_alloc_new (w.alloc (Obj.cells (ints (List.replicate K 0)) 2)) (Obj.cells (bools (List.replicate 64 false)) 40)
      rw [World.size_alloc] at this
      exact this
  case round =>
    obtain ⟨q, rfl, hq, HB, HM, HT, HE⟩ := hrel
    by_cases hlt : q < N
    · have q1 : q < C.length := by rw [HN.out]; exact hlt
      obtain rfl := H4.out (by omega)
      obtain ⟨z, hz⟩ : ∃ z, C[q] = z := ⟨_, rfl⟩
      obtain ⟨x, y⟩ := z
      have d1 : wr.cell? ⟨b1, o1 + q * 2, none⟩ = some (.int .i64 x) := by
        have := (H5.out q q1).1
        rw [hz] at this
        exact (HB.out.cell (p := ⟨b1, o1 + q * 2, none⟩) (World.block_lt_of_cell? w _ this)).trans this
      have d2 : wr.cell? ⟨b1, o1 + (q * 2 + 1), none⟩ = some (.int .i64 y) := by
        have := (H5.out q q1).2
        rw [hz] at this
        exact (HB.out.cell (p := ⟨b1, o1 + (q * 2 + 1), none⟩) (World.block_lt_of_cell? w _ this)).trans this
      have d3 : wr.cell? ⟨b1, o1 + q * 2 + 1, none⟩ = some (.int .i64 y) := d2
      have HE2 : Hid (ofE (K : Int) [] C = if withinB x K = true then (if (lastC (C.take q) x).isSome = true then 61 else ofE (K : Int) (C.take (q + 1)) (C.drop (q + 1))) else 131) := by
        show _ = _
        rw [HE.out, List.drop_eq_getElem_cons q1, hz, List.take_succ_eq_append_getElem q1, hz]
        rfl
      have HA : Hid (ofA (K : Int) C = ofE (K : Int) [] C) := by show _ = _; unfold ofA; rw [if_neg (by omega)]
      have HTK : Hid (C.take q ++ [(x, y)] = C.take (q + 1)) := by show _ = _; rw [List.take_succ_eq_append_getElem q1, hz]
      have e3 : decide ((q : Int) < (N : Int)) = true := by simp; omega
      obtain ⟨V, hV⟩ : ∃ V, wr.alloc (Obj.cells #[Value.int IntKind.i64 x, Value.int IntKind.i64 y] 47) = V := ⟨_, rfl⟩
      have HBV : Hid (Below w.heap.size w V) := by rw [← hV]; exact HB.out.alloc HB.out.size _
      have hgt : w.heap.size + 1 < wr.heap.size := (Array.getElem?_eq_some_iff.1 HT.out).1
      have HMV : Hid (V.heap[w.heap.size]? = some (.cells (ints (ofM K (C.take q))) 2)) := by rw [← hV]; exact (Below.heap_alloc _ _ _ (by omega)).trans HM.out
      have HTV : Hid (V.heap[w.heap.size + 1]? = some (.cells (bools (toldM (C.take q))) 40)) := by rw [← hV]; exact (Below.heap_alloc _ _ _ hgt).trans HT.out
      have d4 : V.cell? ⟨wr.heap.size, 0, none⟩ = some (.int .i64 x) := by rw [← hV]; simp
      have d5 : V.cell? ⟨wr.heap.size, 1, none⟩ = some (.int .i64 y) := by rw [← hV]; simp
      have HV : Hid (wr.alloc (Obj.cells #[Value.int IntKind.i64 x, Value.int IntKind.i64 y] 47) = V) := hV
      have HGT : Hid (w.heap.size + 1 < wr.heap.size) := hgt
      clear hV hz hgt
      by_cases hw : withinB x K = true
      · obtain ⟨k, rfl⟩ : ∃ k : Nat, x = (k : Int) := ⟨x.toNat, by unfold withinB at hw; simp at hw; omega⟩
        have hk : k < K := by unfold withinB at hw; simp at hw; omega
        obtain ⟨t, ht⟩ : ∃ t, (lastC (C.take q) (k : Int)).isSome = t := ⟨_, rfl⟩
        have d6 : V.cell? ⟨w.heap.size + 1, k, none⟩ = some (.bool t) := by
          rw [cell_of_row V _ k _ _ _ HTV.out, bools_at _ _ (by rw [toldM_len]; omega)]
          simp [toldM, ht]
        cases t with
        | true =>
          have HF : Hid (P (.returned (.tuple #[.slice none 0 0, .int .i64 61])) V) := by
            show P _ _
            rw [← HQ.out]
            have : ofA (K : Int) C = 61 := by rw [HA.out, HE2.out, if_pos hw, if_pos ht]
            exact .inl ⟨by rw [this]; decide, by rw [this], HBV.out⟩
          clear ht
          go_wp2_with fail
          rw [HV.out]
          refine (within_any _ _ _).mono ?_
          rintro e w4 ⟨rfl, hw4⟩
          rw [hw4, hw]
          clear hw4 w4
          go_wp2
          first | exact HF.out | (go_ret2; exact HF.out)
        | false =>
          have HE3 : Hid (ofE (K : Int) [] C = ofE (K : Int) (C.take (q + 1)) (C.drop (q + 1))) := by
            show _ = _
            rw [HE2.out, if_pos hw, ht]
            rfl
          obtain ⟨u, hu⟩ : ∃ u, V.cell? ⟨w.heap.size, k, none⟩ = some u := ⟨_, (cell_of_row V _ k _ _ _ HMV.out).trans (ints_at _ _ (by rw [ofM_len]; exact hk))⟩
          have f1 := frozen_of_row V w.heap.size k _ _ HMV.out
          have f2 := frozen_of_row V (w.heap.size + 1) k _ _ HTV.out
          have HX1 : Hid (((V.drew.setCell ⟨w.heap.size, k, none⟩ (.int .i64 y)).setCell ⟨w.heap.size + 1, k, none⟩ (.bool true)).heap[w.heap.size]? = some (.cells (ints (ofM K (C.take (q + 1)))) 2)) := by
            show _ = _
            rw [Below.heap_setCell _ _ _ _ (by show w.heap.size ≠ w.heap.size + 1; omega), heap_setCell_same V.drew w.heap.size k _ 2 _ HMV.out, ints_set, ofM_snoc, HTK.out]
          have HX2 : Hid (((V.drew.setCell ⟨w.heap.size, k, none⟩ (.int .i64 y)).setCell ⟨w.heap.size + 1, k, none⟩ (.bool true)).heap[w.heap.size + 1]? = some (.cells (bools (toldM (C.take (q + 1)))) 40)) := by
            show _ = _
            have h7 : (V.drew.setCell ⟨w.heap.size, k, none⟩ (.int .i64 y)).heap[w.heap.size + 1]? = some (.cells (bools (toldM (C.take q))) 40) := (Below.heap_setCell _ _ _ _ (by show w.heap.size + 1 ≠ w.heap.size; omega)).trans HTV.out
            rw [heap_setCell_same _ (w.heap.size + 1) k _ 40 _ h7, bools_set, toldM_snoc (C.take q) k y, HTK.out]
          have HX3 : Hid (Below w.heap.size w ((V.drew.setCell ⟨w.heap.size, k, none⟩ (.int .i64 y)).setCell ⟨w.heap.size + 1, k, none⟩ (.bool true))) := Below.setCell (Below.setCell HBV.out.drew (Nat.le_refl _) _) (by show w.heap.size ≤ w.heap.size + 1; omega) _
          have hk64 : k < 64 := by omega
          have hk64i : (k : Int) < 64 := by omega
          have hk0i : (0 : Int) ≤ (k : Int) := by omega
          have HK1 : Hid ((V.setCell ⟨w.heap.size, k, none⟩ (.int .i64 y)).drew.cell? ⟨wr.heap.size, 0, none⟩ = some (.int .i64 (k : Int)) ∧ (V.setCell ⟨w.heap.size, k, none⟩ (.int .i64 y)).drew.cell? ⟨wr.heap.size, 1, none⟩ = some (.int .i64 y)) := by
            have := HGT.out
            have h8 : (V.setCell ⟨w.heap.size, k, none⟩ (.int .i64 y)).heap[wr.heap.size]? = V.heap[wr.heap.size]? := Below.heap_setCell _ _ _ _ (by show wr.heap.size ≠ w.heap.size; omega)
            exact ⟨(World.cell?_of_block (a := ⟨wr.heap.size, 0, none⟩) h8).trans d4, (World.cell?_of_block (a := ⟨wr.heap.size, 1, none⟩) h8).trans d5⟩
          have HK2 : Hid (((V.setCell ⟨w.heap.size, k, none⟩ (.int .i64 y)).setCell ⟨w.heap.size + 1, k, none⟩ (.bool true)).drew.cell? ⟨wr.heap.size, 0, none⟩ = some (.int .i64 (k : Int)) ∧ ((V.setCell ⟨w.heap.size, k, none⟩ (.int .i64 y)).setCell ⟨w.heap.size + 1, k, none⟩ (.bool true)).drew.cell? ⟨wr.heap.size, 1, none⟩ = some (.int .i64 y)) := by
            have := HGT.out
            have h8 : ((V.setCell ⟨w.heap.size, k, none⟩ (.int .i64 y)).setCell ⟨w.heap.size + 1, k, none⟩ (.bool true)).heap[wr.heap.size]? = (V.setCell ⟨w.heap.size, k, none⟩ (.int .i64 y)).heap[wr.heap.size]? := Below.heap_setCell _ _ _ _ (by show wr.heap.size ≠ w.heap.size + 1; omega)
            exact ⟨(World.cell?_of_block (a := ⟨wr.heap.size, 0, none⟩) h8).trans HK1.out.1, (World.cell?_of_block (a := ⟨wr.heap.size, 1, none⟩) h8).trans HK1.out.2⟩
          have d7 : (V.setCell ⟨w.heap.size, k, none⟩ (.int .i64 y)).cell? ⟨w.heap.size + 1, k, none⟩ = some (.bool false) := (World.cell?_of_block (a := ⟨w.heap.size + 1, k, none⟩) (Below.heap_setCell _ _ _ _ (by show w.heap.size + 1 ≠ w.heap.size; omega))).trans d6
          clear ht
          go_wp2_with fail
          rw [HV.out]
          refine (within_any _ _ _).mono ?_
          rintro e w4 ⟨rfl, hw4⟩
          rw [hw4, hw]
          clear hw4 w4
          go_wp2_with fail
          go_region_held3 (fun w' => w'.cell? ⟨wr.heap.size, 0, none⟩ = some (.int .i64 (k : Int)) ∧ w'.cell? ⟨wr.heap.size, 1, none⟩ = some (.int .i64 y)) (first | exact HK1.out | exact HK2.out | assumption | go_keep) (fail)
          go_wp2_with fail
          go_roundw
          case rel => exact ⟨q + 1, by go_num, by omega, HX3, HX1, HX2, HE3⟩
          case measure => simp [intOf]; omega
      · have er : withinB x K = false := by simpa using hw
        have HF : Hid (P (.returned (.tuple #[.slice none 0 0, .int .i64 131])) V) := by
          show P _ _
          rw [← HQ.out]
          have : ofA (K : Int) C = 131 := by rw [HA.out, HE2.out, if_neg hw]
          exact .inl ⟨by rw [this]; decide, by rw [this], HBV.out⟩
        go_wp2_with fail
        rw [HV.out]
        refine (within_any _ _ _).mono ?_
        rintro e w4 ⟨rfl, hw4⟩
        rw [hw4, er]
        clear hw4 w4
        go_wp2
        first | exact HF.out | (go_ret2; exact HF.out)
    · have e3 : decide ((q : Int) < (N : Int)) = false := by simp; omega
      have hqN : q = N := by omega
      subst hqN
      have HF : Hid (P (.returned (.tuple #[.slice (some ⟨w.heap.size, 0, none⟩) K K, .int .i64 0])) wr) := by
        show P _ _
        rw [← HQ.out]
        have h8 := HE.out
        rw [List.drop_of_length_le (by rw [HN.out]; exact Nat.le_refl _)] at h8
        have h9 := HM.out
        rw [List.take_of_length_le (by rw [HN.out]; exact Nat.le_refl _)] at h9
        refine .inr ⟨?_, K, rfl, hK.2, rfl, h9, HB.out⟩
        unfold ofA
        rw [if_neg (by omega), h8]
        rfl
      go_wp2
      first | exact HF.out | (go_ret2; exact HF.out)
end Go.Proofs.Ytlcgoobjpnpfhaa
