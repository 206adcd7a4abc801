/- Cells are put into a memory: the program's way and the document's. -/
import Derived.Test.YtlcgoobjpnpfhaaM6
import Derived.Laws.CopyRow
namespace Go.Proofs.Ytlcgoobjpnpfhaa
open Go.RowKit Go.Maps
set_option linter.unusedVariables false

def putE (n : Int) : List (Int × Int) → Int
  | [] => 0
  | c :: r => if withinB c.1 n = true then putE n r else 131
def putM (m : List Int) (C : List (Int × Int)) : List Int := (List.range m.length).map fun i : Nat => (lastC C (i : Int)).getD (m.getD i 0)
theorem putM_len (m : List Int) (C : List (Int × Int)) : (putM m C).length = m.length := by simp [putM]
theorem putM_nil (m : List Int) : putM m [] = m := by
  apply List.ext_getElem
  · simp [putM]
  · intro i h1 h2
    simp [putM, lastC, List.getD, h2]
theorem putM_snoc (m : List Int) (C : List (Int × Int)) (k : Nat) (y : Int) : (putM m C).set k y = putM m (C ++ [((k : Int), y)]) := by
  apply List.ext_getElem
  · simp [putM]
  · intro i h1 h2
    simp only [putM, List.getElem_set, List.getElem_map, List.getElem_range, lastC_snoc]
    by_cases h : k = i
    · simp [h]
    · have : ¬ (k : Int) = (i : Int) := by omega
      simp [h, this]
theorem copy_gsl (w : World) (ty : TypeId) (g N : Nat) (xv : Value) (m : List Int) (hg : w.heap[g]? = some (.cells (ints (zer N)) 2)) (hx : GSl w xv m) (hm : m.length = N) :
    ∃ w', (Builtin.copy_ #[23, 23] ty #[.slice (some ⟨g, 0, none⟩) N N, xv]).run Try.prog w = .ok (.int .i64 (N : Int)) w' ∧ w'.heap[g]? = some (.cells (ints m) 2) ∧ Ch (fun k => k = g) w w' := by
  obtain ⟨a, c, b, o, rfl, h2, h3, h4, h5⟩ := hx
  cases a with
  | some ad =>
    have hn : ∀ j u, (m.map (Value.int .i64))[j]? = some u → w.cell? (ad.add j) = some u := by
      intro j u hj
      have hjl : j < m.length := by
        have := (List.getElem?_eq_some_iff.1 hj).1
        simpa using this
      have := h4 (by omega)
      injection this with this
      subst this
      rw [addn, h5 j hjl]
      simp [hjl] at hj
      rw [hj]
    have := run_copy_row (P := Try.prog) w 23 23 ty 2 g 0 N N ad m.length c (ints (zer N)) 2 (m.map (Value.int .i64)) Try.underlying23 (by kernel_rfl) hg (by rw [List.length_map, hm]; exact (Nat.min_self N).symm) hn (by rw [ints_size]; simp [zer, hm]) (by intro u hu; obtain ⟨z, _, rfl⟩ := List.mem_map.1 hu; rfl)
    rw [List.length_map] at this
    have e : ((ints (zer N)).toList.take 0 ++ m.map (Value.int .i64) ++ (ints (zer N)).toList.drop (0 + m.length)).toArray = ints m := by
      rw [List.drop_of_length_le (by simp [ints, zer, hm])]
      simp [ints]
    rw [e] at this
    refine ⟨_, by rw [this, hm]; rfl, setRow_heap w g _ _ _ _ hg, ⟨rfl, rfl, rfl, by simp [World.setRow], fun k hk hn => setRow_other w g k _ hn⟩⟩
  | none =>
    have hX : m = [] := by
      rcases Nat.eq_zero_or_pos m.length with h | h
      · exact List.length_eq_zero_iff.1 h
      · have := h4 h; cases this
    subst hX
    obtain rfl : N = 0 := hm.symm
    refine ⟨w, ?_, hg, Ch.refl _ _⟩
    obtain ⟨i0, hi, hz0, hz1, hz2⟩ := info_parts info2
    simp [Builtin.copy_, run_underlying Try.underlying23, Builtin.lenOf, Builtin.firstCells, sizeOf, typeInfo, hi, storeCells, goInt]

def PutP (m : List Int) (C : List (Int × Int)) (w : World) (e : Ending) (w' : World) : Prop :=
  (putE m.length C ≠ 0 ∧ e = .returned (.tuple #[.slice none 0 0, .int .i64 (putE m.length C)]) ∧ Below w.heap.size w w') ∨
  (putE m.length C = 0 ∧ e = .returned (.tuple #[.slice (some ⟨w.heap.size, 0, none⟩) m.length m.length, .int .i64 0]) ∧ w'.heap[w.heap.size]? = some (.cells (ints (putM m C)) 2) ∧ Below w.heap.size w w')
set_option maxRecDepth 100000 in
set_option maxHeartbeats 4000000 in
theorem put_any (m : List Int) (C : List (Int × Int)) (u v : Value) (w : World) (hml : m.length ≤ 100000) (hl : C.length ≤ 100000) (hu : GSl w u m) (hv : PSl w v C) : Calls Try.prog 13 #[u, v] w (PutP m C w) := by
  have hu0 := hu
  obtain ⟨ma, mc, _, _, rfl, _⟩ := hu
  obtain ⟨a1, c1, b1, o1, rfl, h2, h3, h4, h5⟩ := hv
  obtain ⟨N, hN⟩ : ∃ N, C.length = N := ⟨_, rfl⟩
  have HN : Hid (C.length = N) := hN
  obtain ⟨K, hK⟩ : ∃ K, m.length = K := ⟨_, rfl⟩
  have HK : Hid (m.length = K) := hK
  have H5 : Hid (∀ i (h : i < C.length), w.cell? ⟨b1, o1 + i * 2, none⟩ = some (.int .i64 C[i].1) ∧ w.cell? ⟨b1, o1 + (i * 2 + 1), none⟩ = some (.int .i64 C[i].2)) := h5
  have H4 : Hid (0 < C.length → a1 = some ⟨b1, o1, none⟩) := h4
  obtain ⟨P, hP⟩ : ∃ P, PutP m C w = P := ⟨_, rfl⟩
  have HQ : Hid (PutP m C w = P) := hP
  rw [hP, hN, hK]
  rw [hN] at h2 hl
  rw [hK] at hml hu0
  unfold maxLen at h3
  have mk := made23 K hml
  obtain ⟨W2, hcp, hW2, hch⟩ := copy_gsl (w.alloc (.cells (ints (zer K)) 2)) 3 w.heap.size K _ m (heap_alloc_new w _) (hu0.below ((Below.refl _ _).alloc (Nat.le_refl _) _)) hK
  have HW2 : Hid (W2.heap[w.heap.size]? = some (.cells (ints m) 2)) := hW2
  have HB2 : Hid (Below w.heap.size w W2) := ((Below.refl _ _).alloc (Nat.le_refl _) _).trans (hch.below (by simp) (fun k hk => by omega))
  clear hN hK h5 h4 hP hW2 hch hu0
  go_enter Try.func13, Try.ntmps13
  go_wp2_with fail
  go_loopw [17] (fun i wr => ∃ q : Nat, i = .int .i64 (q : Int) ∧ q ≤ N ∧ Hid (Below w.heap.size w wr) ∧ Hid (wr.heap[w.heap.size]? = some (.cells (ints (putM m (C.take q))) 2)) ∧ Hid (putE (K : Int) C = putE (K : Int) (C.drop q))) (fun i _ => N - (intOf i).toNat)
  case atStart => exact ⟨0, rfl, Nat.zero_le _, HB2, by show _ = _; rw [List.take_zero, putM_nil]; exact HW2.out, rfl⟩
  case round =>
    obtain ⟨q, rfl, hq, HB, HM, HE⟩ := hrel
    clear hcp mk
    by_cases hlt : q < N
    · have q1 : q < C.length := by rw [HN.out]; exact hlt
      obtain rfl := H4.out (by omega)
      obtain ⟨z, hz⟩ : ∃ z, C[q] = z := ⟨_, rfl⟩
      obtain ⟨x, y⟩ := z
      have d1 : wr.cell? ⟨b1, o1 + q * 2, none⟩ = some (.int .i64 x) := by
        have := (H5.out q q1).1
        rw [hz] at this
        exact (HB.out.cell (p := ⟨b1, o1 + q * 2, none⟩) (World.block_lt_of_cell? w _ this)).trans this
      have d2 : wr.cell? ⟨b1, o1 + (q * 2 + 1), none⟩ = some (.int .i64 y) := by
        have := (H5.out q q1).2
        rw [hz] at this
        exact (HB.out.cell (p := ⟨b1, o1 + (q * 2 + 1), none⟩) (World.block_lt_of_cell? w _ this)).trans this
      have d3 : wr.cell? ⟨b1, o1 + q * 2 + 1, none⟩ = some (.int .i64 y) := d2
      have HE2 : Hid (putE (K : Int) C = if withinB x K = true then putE (K : Int) (C.drop (q + 1)) else 131) := by
        show _ = _
        rw [HE.out, List.drop_eq_getElem_cons q1, hz]
        rfl
      have HTK : Hid (C.take q ++ [(x, y)] = C.take (q + 1)) := by show _ = _; rw [List.take_succ_eq_append_getElem q1, hz]
      have e3 : decide ((q : Int) < (N : Int)) = true := by simp; omega
      obtain ⟨V, hV⟩ : ∃ V, wr.alloc (Obj.cells #[Value.int IntKind.i64 x, Value.int IntKind.i64 y] 47) = V := ⟨_, rfl⟩
      have HBV : Hid (Below w.heap.size w V) := by rw [← hV]; exact HB.out.alloc HB.out.size _
      have hgt : w.heap.size < wr.heap.size := (Array.getElem?_eq_some_iff.1 HM.out).1
      have HMV : Hid (V.heap[w.heap.size]? = some (.cells (ints (putM m (C.take q))) 2)) := by rw [← hV]; exact (Below.heap_alloc _ _ _ hgt).trans HM.out
      have d4 : V.cell? ⟨wr.heap.size, 0, none⟩ = some (.int .i64 x) := by rw [← hV]; simp
      have d5 : V.cell? ⟨wr.heap.size, 1, none⟩ = some (.int .i64 y) := by rw [← hV]; simp
      have HV : Hid (wr.alloc (Obj.cells #[Value.int IntKind.i64 x, Value.int IntKind.i64 y] 47) = V) := hV
      clear hV hz hgt
      by_cases hw : withinB x K = true
      · obtain ⟨k, rfl⟩ : ∃ k : Nat, x = (k : Int) := ⟨x.toNat, by unfold withinB at hw; simp at hw; omega⟩
        have hk : k < K := by unfold withinB at hw; simp at hw; omega
        have HE3 : Hid (putE (K : Int) C = putE (K : Int) (C.drop (q + 1))) := by
          show _ = _
          rw [HE2.out, if_pos hw]
        obtain ⟨u, hu⟩ : ∃ u, V.cell? ⟨w.heap.size, k, none⟩ = some u := ⟨_, (cell_of_row V _ k _ _ _ HMV.out).trans (ints_at _ _ (by rw [putM_len, HK.out]; exact hk))⟩
        have f1 := frozen_of_row V w.heap.size k _ _ HMV.out
        have HX1 : Hid ((V.setCell ⟨w.heap.size, k, none⟩ (.int .i64 y)).heap[w.heap.size]? = some (.cells (ints (putM m (C.take (q + 1)))) 2)) := by
          show _ = _
          rw [heap_setCell_same V w.heap.size k _ 2 _ HMV.out, ints_set, putM_snoc, HTK.out]
        have HX3 : Hid (Below w.heap.size w (V.setCell ⟨w.heap.size, k, none⟩ (.int .i64 y))) := Below.setCell HBV.out (Nat.le_refl _) _
        go_wp2_with fail
        rw [HV.out]
        refine (within_any _ _ _).mono ?_
        rintro e w4 ⟨rfl, hw4⟩
        rw [hw4, hw]
        clear hw4 w4
        go_wp2_with fail
        go_roundw
        case rel => exact ⟨q + 1, by go_num, by omega, HX3, HX1, HE3⟩
        case measure => simp [intOf]; omega
      · have er : withinB x K = false := by simpa using hw
        have HF : Hid (P (.returned (.tuple #[.slice none 0 0, .int .i64 131])) V) := by
          show P _ _
          rw [← HQ.out]
          have : putE (m.length : Int) C = 131 := by rw [HK.out, HE2.out, if_neg hw]
          exact .inl ⟨by rw [this]; decide, by rw [this], HBV.out⟩
        go_wp2_with fail
        rw [HV.out]
        refine (within_any _ _ _).mono ?_
        rintro e w4 ⟨rfl, hw4⟩
        rw [hw4, er]
        clear hw4 w4
        go_wp2
        first | exact HF.out | (go_ret2; exact HF.out)
    · have e3 : decide ((q : Int) < (N : Int)) = false := by simp; omega
      have hqN : q = N := by omega
      subst hqN
      have HF : Hid (P (.returned (.tuple #[.slice (some ⟨w.heap.size, 0, none⟩) K K, .int .i64 0])) wr) := by
        show P _ _
        rw [← HQ.out]
        have h8 := HE.out
        rw [List.drop_of_length_le (by rw [HN.out]; exact Nat.le_refl _)] at h8
        have h9 := HM.out
        rw [List.take_of_length_le (by rw [HN.out]; exact Nat.le_refl _)] at h9
        exact .inr ⟨by rw [HK.out, h8]; rfl, by rw [HK.out], h9, HB.out⟩
      go_wp2
      first | exact HF.out | (go_ret2; exact HF.out)

def RPutP (m : List Int) (C : List (Int × Int)) (w : World) (e : Ending) (w' : World) : Prop :=
  (putE m.length C ≠ 0 ∧ e = .returned (.tuple #[.slice none 0 0, .int .i64 (putE m.length C)]) ∧ Below w.heap.size w w') ∨
  (putE m.length C = 0 ∧ ∃ oa oc, e = .returned (.tuple #[.slice oa m.length oc, .int .i64 0]) ∧ IZ w' w.heap.size (.slice oa m.length oc) (putM m C) ∧ Below w.heap.size w w')
def putT (m : List Int) (C : List (Int × Int)) (q : Nat) : List Int := (List.range q).map fun i : Nat => (lastC C (i : Int)).getD (m.getD i 0)
theorem putT_succ (m : List Int) (C : List (Int × Int)) (q : Nat) : putT m C q ++ [(lastC C (q : Int)).getD (m.getD q 0)] = putT m C (q + 1) := by simp [putT, List.range_succ]
theorem putT_len (m : List Int) (C : List (Int × Int)) (q : Nat) : (putT m C q).length = q := by simp [putT]
set_option maxRecDepth 100000 in
set_option maxHeartbeats 4000000 in
theorem rput_any (m : List Int) (C : List (Int × Int)) (u v : Value) (w : World) (hml : m.length ≤ 50000) (hl : C.length ≤ 100000) (hu : GSl w u m) (hv : PSl w v C) : Calls Try.prog 14 #[u, v] w (RPutP m C w) := by
  have hv0 := hv
  obtain ⟨ma, mc, mb, mo, rfl, l2, l3, l4, l5⟩ := hu
  obtain ⟨a1, c1, b1, o1, rfl, h2, h3, h4, h5⟩ := hv
  obtain ⟨N, hN⟩ : ∃ N, C.length = N := ⟨_, rfl⟩
  have HN : Hid (C.length = N) := hN
  obtain ⟨K, hK⟩ : ∃ K, m.length = K := ⟨_, rfl⟩
  have HK : Hid (m.length = K) := hK
  have H5 : Hid (∀ i (h : i < C.length), w.cell? ⟨b1, o1 + i * 2, none⟩ = some (.int .i64 C[i].1) ∧ w.cell? ⟨b1, o1 + (i * 2 + 1), none⟩ = some (.int .i64 C[i].2)) := h5
  have H4 : Hid (0 < C.length → a1 = some ⟨b1, o1, none⟩) := h4
  have L5 : Hid (∀ i (h : i < m.length), w.cell? ⟨mb, mo + i, none⟩ = some (.int .i64 m[i])) := l5
  have L4 : Hid (0 < m.length → ma = some ⟨mb, mo, none⟩) := l4
  obtain ⟨P, hP⟩ : ∃ P, RPutP m C w = P := ⟨_, rfl⟩
  have HQ : Hid (RPutP m C w = P) := hP
  rw [hP, hN, hK]
  rw [hN] at h2 hl hv0
  rw [hK] at hml l2
  have HV : Hid (PSl w (.slice a1 N c1) C) := hv0
  unfold maxLen at h3 l3
  clear hN hK h5 h4 hP hv0 l4 l5
  go_enter Try.func14, Try.ntmps14
  go_wp2_with fail
  go_loopw [6] (fun i wr => ∃ q : Nat, i = .int .i64 (q : Int) ∧ q ≤ N ∧ Hid (wr = w) ∧ Hid (putE (K : Int) C = putE (K : Int) (C.drop q))) (fun i _ => N - (intOf i).toNat)
  case atStart => exact ⟨0, rfl, Nat.zero_le _, rfl, rfl⟩
  case round =>
    obtain ⟨q, rfl, hq, HW, HE⟩ := hrel
    rw [HW.out]
    by_cases hlt : q < N
    · have q1 : q < C.length := by rw [HN.out]; exact hlt
      obtain rfl := H4.out (by omega)
      obtain ⟨z, hz⟩ : ∃ z, C[q] = z := ⟨_, rfl⟩
      obtain ⟨x, y⟩ := z
      have d1 : w.cell? ⟨b1, o1 + q * 2, none⟩ = some (.int .i64 x) := by
        have := (H5.out q q1).1
        rw [hz] at this
        exact this
      have HE2 : Hid (putE (K : Int) C = if withinB x K = true then putE (K : Int) (C.drop (q + 1)) else 131) := by
        show _ = _
        rw [HE.out, List.drop_eq_getElem_cons q1, hz]
        rfl
      have e3 : decide ((q : Int) < (N : Int)) = true := by simp; omega
      clear hz
      by_cases hx0 : x < 0
      · have e4 : decide (x < 0) = true := by simp [hx0]
        have HF : Hid (P (.returned (.tuple #[.slice none 0 0, .int .i64 131])) w) := by
          show P _ _
          rw [← HQ.out]
          have : putE (m.length : Int) C = 131 := by rw [HK.out, HE2.out, if_neg (by unfold withinB; simp; omega)]
          exact .inl ⟨by rw [this]; decide, by rw [this], Below.refl _ _⟩
        go_wp2
        first | exact HF.out | (go_ret2; exact HF.out)
      have e4 : decide (x < 0) = false := by simp; omega
      by_cases hxK : (K : Int) ≤ x
      · have e5 : decide ((K : Int) ≤ x) = true := by simp [hxK]
        have HF : Hid (P (.returned (.tuple #[.slice none 0 0, .int .i64 131])) w) := by
          show P _ _
          rw [← HQ.out]
          have : putE (m.length : Int) C = 131 := by rw [HK.out, HE2.out, if_neg (by unfold withinB; simp; omega)]
          exact .inl ⟨by rw [this]; decide, by rw [this], Below.refl _ _⟩
        go_wp2
        first | exact HF.out | (go_ret2; exact HF.out)
      have e5 : decide ((K : Int) ≤ x) = false := by simp; omega
      have HE3 : Hid (putE (K : Int) C = putE (K : Int) (C.drop (q + 1))) := by
        show _ = _
        rw [HE2.out, if_pos (by unfold withinB; simp; omega)]
      go_wp2_with fail
      go_roundw
      case rel => exact ⟨q + 1, by go_num, by omega, trivial, HE3⟩
      case measure => simp [intOf]; omega
    · have hqN : q = N := by omega
      subst hqN
      have e3 : decide ((q : Int) < (q : Int)) = false := by simp
      have HZ : Hid (putE (m.length : Int) C = 0) := by
        show _ = _
        have h8 := HE.out
        rw [List.drop_of_length_le (by rw [HN.out]; exact Nat.le_refl _)] at h8
        rw [HK.out, h8]
        rfl
      clear HE HW
      rename World => W1
      go_wp2_with fail
      go_loopw [7, 8] (fun av i wr => ∃ (p : Nat) (oa : Option Addr) (oc : Nat), i = .int .i64 (p : Int) ∧ av = .slice oa p oc ∧ p ≤ K ∧ Hid (IZ wr w.heap.size (.slice oa p oc) (putT m C p)) ∧ Hid (Below w.heap.size w wr)) (fun _ i _ => K - (intOf i).toNat)
      case atStart => exact ⟨0, none, 0, rfl, rfl, Nat.zero_le _, IZ.nil _ _, Below.refl _ _⟩
      case round =>
        obtain ⟨p, oa, oc, rfl, rfl, hp, HI, HB⟩ := hrel
        by_cases hlt2 : p < K
        · have e4 : decide ((p : Int) < (K : Int)) = true := by simp; omega
          have n4 : (p : Int) < (K : Int) := by omega
          have p1 : p < m.length := by rw [HK.out]; exact hlt2
          obtain rfl := L4.out (by omega)
          have HC : Hid (Calls Try.prog 35 #[.slice a1 q c1, .int .i64 (p : Int)] wr fun e w' => e = .returned (.tuple #[.int .i64 ((lastC C (p : Int)).getD 0), .bool (lastC C (p : Int)).isSome]) ∧ w' = wr) := last_any C _ (p : Int) (by rw [HN.out]; omega) wr (HV.out.below HB.out)
          have HS : Hid (putT m C p ++ [(lastC C (p : Int)).getD (m.getD p 0)] = putT m C (p + 1)) := putT_succ m C p
          have HLN : Hid ((putT m C p).length ≤ 100000) := by show _ ≤ _; rw [putT_len]; omega
          have d6 : wr.cell? ⟨mb, mo + p, none⟩ = some (.int .i64 m[p]) := (HB.out.cell (p := ⟨mb, mo + p, none⟩) (World.block_lt_of_cell? w _ (L5.out p p1))).trans (L5.out p p1)
          have HGD : Hid (m.getD p 0 = m[p]) := by show _ = _; simp [List.getD, p1]
          rw [HGD.out] at HS
          generalize m[p] = mp at *
          cases hlc : lastC C (p : Int) with
          | none =>
            rw [hlc] at HC HS
            clear hlc HGD
            have HIA : Hid (IZ (wr.alloc (Obj.cells #[Value.int .i64 mp] 2)) w.heap.size (.slice oa p oc) (putT m C p)) := HI.out.below ((Below.refl _ _).alloc (Nat.le_refl _) _)
            have HCL : Hid ((wr.alloc (Obj.cells #[Value.int .i64 mp] 2)).cell? ⟨wr.heap.size, 0, none⟩ = some (.int .i64 mp)) := by show _ = _; simp
            have HBA : Hid (Below w.heap.size w (wr.alloc (Obj.cells #[Value.int .i64 mp] 2))) := HB.out.alloc HB.out.size _
            have HS2 : Hid (putT m C p ++ [mp] = putT m C (p + 1)) := HS
            have HC2 : Hid (Calls Try.prog 35 #[.slice a1 q c1, .int .i64 (p : Int)] wr fun e w' => e = .returned (.tuple #[.int .i64 0, .bool false]) ∧ w' = wr) := HC
            clear HS HC
            go_wp2_with fail
            refine HC2.out.mono ?_
            rintro e w5 ⟨rfl, hw5⟩
            rw [hw5]
            clear hw5 w5
            go_wp2_with (at_builtin; refine push_int _ rfl _ _ rfl w.heap.size _ (putT m C p) mp rfl HIA.out wr.heap.size rfl HCL.out HLN.out HBA.out.size ?_)
            intro v' w' hi' hb'
            rw [HS2.out] at hi'
            obtain ⟨oa', oc', rfl⟩ := hi'.sl
            rw [putT_len] at hi' ⊢
            have HI2 : Hid (IZ w' w.heap.size (.slice oa' (p + 1) oc') (putT m C (p + 1))) := hi'
            have HB2 : Hid (Below w.heap.size w w') := HBA.out.trans hb'
            clear hi' hb'
            go_wp2_with fail
            go_roundw
            case rel => exact ⟨p + 1, oa', oc', by go_num, rfl, by omega, HI2, HB2⟩
            case measure => simp [intOf]; omega
          | some y =>
            rw [hlc] at HC HS
            clear hlc HGD
            have HIA : Hid (IZ (wr.alloc (Obj.cells #[Value.int .i64 y] 2)) w.heap.size (.slice oa p oc) (putT m C p)) := HI.out.below ((Below.refl _ _).alloc (Nat.le_refl _) _)
            have HCL : Hid ((wr.alloc (Obj.cells #[Value.int .i64 y] 2)).cell? ⟨wr.heap.size, 0, none⟩ = some (.int .i64 y)) := by show _ = _; simp
            have HBA : Hid (Below w.heap.size w (wr.alloc (Obj.cells #[Value.int .i64 y] 2))) := HB.out.alloc HB.out.size _
            have HS2 : Hid (putT m C p ++ [y] = putT m C (p + 1)) := HS
            have HC2 : Hid (Calls Try.prog 35 #[.slice a1 q c1, .int .i64 (p : Int)] wr fun e w' => e = .returned (.tuple #[.int .i64 y, .bool true]) ∧ w' = wr) := HC
            clear HS HC
            go_wp2_with fail
            refine HC2.out.mono ?_
            rintro e w5 ⟨rfl, hw5⟩
            rw [hw5]
            clear hw5 w5
            go_wp2_with (at_builtin; refine push_int _ rfl _ _ rfl w.heap.size _ (putT m C p) y rfl HIA.out wr.heap.size rfl HCL.out HLN.out HBA.out.size ?_)
            intro v' w' hi' hb'
            rw [HS2.out] at hi'
            obtain ⟨oa', oc', rfl⟩ := hi'.sl
            rw [putT_len] at hi' ⊢
            have HI2 : Hid (IZ w' w.heap.size (.slice oa' (p + 1) oc') (putT m C (p + 1))) := hi'
            have HB2 : Hid (Below w.heap.size w w') := HBA.out.trans hb'
            clear hi' hb'
            go_wp2_with fail
            go_roundw
            case rel => exact ⟨p + 1, oa', oc', by go_num, rfl, by omega, HI2, HB2⟩
            case measure => simp [intOf]; omega
        · have hpK : p = K := by omega
          subst hpK
          have e4 : decide ((p : Int) < (p : Int)) = false := by simp
          have HF : Hid (P (.returned (.tuple #[.slice oa p oc, .int .i64 0])) wr) := by
            show P _ _
            rw [← HQ.out]
            refine .inr ⟨HZ.out, oa, oc, by rw [HK.out], ?_, HB.out⟩
            have : putM m C = putT m C p := by unfold putM putT; rw [HK.out]
            rw [this, HK.out]
            exact HI.out
          go_wp2
          first | exact HF.out | (go_ret2; exact HF.out)
end Go.Proofs.Ytlcgoobjpnpfhaa
