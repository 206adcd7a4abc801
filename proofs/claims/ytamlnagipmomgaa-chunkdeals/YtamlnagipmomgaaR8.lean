/- Now, and two rows held against each other. -/
import Derived.Test.YtamlnagipmomgaaStA
import Derived.Laws.CopyRow
namespace Go.Proofs.Ytamlnagipmomgaa
open Go.RowKit Go.Maps
set_option linter.unusedVariables false

theorem copy_gsl (w : World) (ty : TypeId) (g N : Nat) (xv : Value) (l0 m : List Int) (hg : w.heap[g]? = some (.cells (ints l0) 3)) (h0 : l0.length = N) (hx : GSl w xv m) (hm : m.length = N) :
    ∃ w', (Builtin.copy_ #[42, 42] ty #[.slice (some ⟨g, 0, none⟩) N N, xv]).run Try.prog w = .ok (.int .i64 (N : Int)) w' ∧ w'.heap[g]? = some (.cells (ints m) 3) ∧ Ch (fun k => k = g) w w' := by
  obtain ⟨a, c, b, o, rfl, h2, h3, h4, h5⟩ := hx
  cases a with
  | some ad =>
    have hn : ∀ j u, (m.map (Value.int .i64))[j]? = some u → w.cell? (ad.add j) = some u := by
      intro j u hj
      have hjl : j < m.length := by
        have := (List.getElem?_eq_some_iff.1 hj).1
        simpa using this
      have := h4 (by omega)
      injection this with this
      subst this
      rw [addn, h5 j hjl]
      simp [hjl] at hj
      rw [hj]
    have := run_copy_row (P := Try.prog) w 42 42 ty 3 g 0 N N ad m.length c (ints l0) 3 (m.map (Value.int .i64)) Try.underlying42 (by kernel_rfl) hg (by rw [List.length_map, hm]; exact (Nat.min_self N).symm) hn (by rw [ints_size]; simp [h0, hm]) (by intro u hu; obtain ⟨z, _, rfl⟩ := List.mem_map.1 hu; rfl)
    rw [List.length_map] at this
    have e : ((ints l0).toList.take 0 ++ m.map (Value.int .i64) ++ (ints l0).toList.drop (0 + m.length)).toArray = ints m := by
      rw [List.drop_of_length_le (by simp [ints, h0, hm])]
      simp [ints]
    rw [e] at this
    refine ⟨_, by rw [this, hm]; rfl, setRow_heap w g _ _ _ _ hg, ⟨rfl, rfl, rfl, by simp [World.setRow], fun k hk hn => setRow_other w g k _ hn⟩⟩
  | none =>
    have hX : m = [] := by
      rcases Nat.eq_zero_or_pos m.length with h | h
      · exact List.length_eq_zero_iff.1 h
      · have := h4 h; cases this
    subst hX
    obtain rfl : N = 0 := hm.symm
    have hl0 : l0 = [] := List.length_eq_zero_iff.1 h0
    subst hl0
    refine ⟨w, ?_, hg, Ch.refl _ _⟩
    obtain ⟨i0, hi, hz0, hz1, hz2⟩ := info_parts info3
    simp [Builtin.copy_, run_underlying Try.underlying42, Builtin.lenOf, Builtin.firstCells, sizeOf, typeInfo, hi, storeCells, goInt]
theorem err_ok {p s k n : Int} (h : errN p s k n = 0) : (1 ≤ s ∧ s ≤ 200) ∧ (1 ≤ k ∧ k ≤ 8) ∧ (0 ≤ n ∧ n ≤ 200) := by
  unfold errN at h
  split at h
  · omega
  · split at h
    · omega
    · split at h
      · omega
      · split at h <;> omega
set_option maxRecDepth 100000 in
set_option maxHeartbeats 2000000 in
theorem now_any {db tb : Nat} {p size many next : Int} {turns : List Int} (w : World) (h : DL w db tb p size many next turns) : Calls Try.prog 19 #[.pointer (some ⟨db, 0, none⟩)] w fun e w' => ∃ v, e = .returned (.tuple #[.int .i64 next, v]) ∧ GSl w' v turns ∧ Below w.heap.size w w' := by
  have c4 := h.c4
  obtain ⟨W, hW⟩ : ∃ W, turns.length = W := ⟨_, rfl⟩
  have hl := h.hl
  rw [hW] at c4 hl
  have hmk := made23 W (by omega)
  have hgt : GSl (w.alloc (.cells (ints (List.replicate W 0)) 3)) (.slice (some ⟨tb, 0, none⟩) W W) turns := by
    have := GSl.blk (h.alloc (.cells (ints (List.replicate W 0)) 3)).bT (by omega)
    rw [hW] at this
    exact this
  obtain ⟨w3, hcp, h3, c3⟩ := copy_gsl (w.alloc (.cells (ints (List.replicate W 0)) 3)) 3 w.heap.size W (.slice (some ⟨tb, 0, none⟩) W W) (List.replicate W 0) turns (heap_alloc_new w _) (by simp) hgt hW
  have c4A := fun A => (h.alloc A).c4
  rw [hW] at c4A
  have hlt := h.lt
  have HB : Hid (Below w.heap.size w w3) := (bl1 w _).trans (c3.below (by simp) (fun k hk => by omega))
  have n3 : w3.cell? ⟨db, 3, none⟩ = some (.int .i64 next) := (h.below HB.out).c3
  have HG : Hid (GSl w3 (.slice (some ⟨w.heap.size, 0, none⟩) W W) turns) := by
    have := GSl.blk h3 (by omega)
    rw [hW] at this
    exact this
  clear h hgt h3 c3 hW hlt
  go_enter Try.func19, Try.ntmps19
  go_wp2_with fail
  go_ret2
  exact ⟨_, rfl, HG.out, HB.out⟩
set_option maxRecDepth 100000 in
set_option maxHeartbeats 2000000 in
theorem row_any (G : List Int) (u v : Value) (w : World) (hu : GSl w u G) (hv : GSl w v G) : Calls Try.prog 21 #[u, v] w fun e w' => e = .returned (.bool true) ∧ Below w.heap.size w w' := by
  obtain ⟨a1, c1, b1, o1, rfl, h2, h3, h4, h5⟩ := hu
  obtain ⟨a2, c2, b2, o2, rfl, k2, k3, k4, k5⟩ := hv
  obtain ⟨N, hN⟩ : ∃ N, G.length = N := ⟨_, rfl⟩
  have HN : Hid (G.length = N) := hN
  have H5 : Hid (∀ i (h : i < G.length), w.cell? ⟨b1, o1 + i, none⟩ = some (.int .i64 G[i])) := h5
  have K5 : Hid (∀ i (h : i < G.length), w.cell? ⟨b2, o2 + i, none⟩ = some (.int .i64 G[i])) := k5
  rw [hN] at h2 h4 k2 k4 ⊢
  have H4 : Hid (0 < N → a1 = some ⟨b1, o1, none⟩) := h4
  have K4 : Hid (0 < N → a2 = some ⟨b2, o2, none⟩) := k4
  unfold maxLen at h3 k3
  clear hN h5 k5 h4 k4
  go_enter Try.func21, Try.ntmps21
  go_wp2_with fail
  go_loopw [5] (fun i wr => ∃ q : Nat, i = .int .i64 (q : Int) ∧ q ≤ N ∧ Hid (Below w.heap.size w wr)) (fun i _ => N - (intOf i).toNat)
  case atStart => exact ⟨0, rfl, Nat.zero_le _, Below.refl _ _⟩
  case round =>
    obtain ⟨q, rfl, hq, HB⟩ := hrel
    by_cases hlt : q < N
    · obtain rfl := H4.out (by omega)
      obtain rfl := K4.out (by omega)
      have hqG : q < G.length := by rw [HN.out]; exact hlt
      obtain ⟨z, hz⟩ : ∃ z, G[q] = z := ⟨_, rfl⟩
      have e5 := H5.out q hqG
      have f5 := K5.out q hqG
      rw [hz] at e5 f5
      have d1 : wr.cell? ⟨b1, o1 + q, none⟩ = some (.int .i64 z) := (HB.out.cell (p := ⟨b1, o1 + q, none⟩) (World.block_lt_of_cell? w _ e5)).trans e5
      have d2 : wr.cell? ⟨b2, o2 + q, none⟩ = some (.int .i64 z) := (HB.out.cell (p := ⟨b2, o2 + q, none⟩) (World.block_lt_of_cell? w _ f5)).trans f5
      have e1 : decide (q < N) = true := by simp; omega
      clear hz e5 f5
      go_wp2_with fail
      go_quiet (fail)
      go_wp2_with fail
      go_roundw
      case rel => exact ⟨q + 1, by go_num, by omega, Below.dN HB.out _⟩
      case measure => simp [intOf]; omega
    · have e1 : decide (q < N) = false := by simp; omega
      go_wp2
      go_ret
      exact ⟨rfl, HB.out⟩
end Go.Proofs.Ytamlnagipmomgaa
