/- What is in a heap is joined onto other numbers. -/
import Derived.Test.YtongeppdaeekeaaHp2
namespace Go.Proofs.Ytongeppdaeekeaa
open Go.RowKit Go.Maps
set_option linter.unusedVariables false

/-- a number made of three lists at one place -/
def ontoX (ops A now : List Int) (i : Nat) : Int := joinI (ops.getD i 0) (A.getD i 0) (now.getD i 0)
def ontoL (ops A now : List Int) : List Int := (List.range ops.length).map (ontoX ops A now)
/-- the first q of them stand there -/
def ontoQ (ops A now : List Int) (q : Nat) : List Int := (List.range q).map (ontoX ops A now) ++ List.replicate (ops.length - q) 0
theorem ontoQ_len (ops A now : List Int) (q : Nat) (h : q ≤ ops.length) : (ontoQ ops A now q).length = ops.length := by simp [ontoQ]; omega
theorem ontoQ_all (ops A now : List Int) : ontoQ ops A now ops.length = ontoL ops A now := by simp [ontoQ, ontoL]
theorem ontoQ_next (ops A now : List Int) (q : Nat) (h : q < ops.length) : (ontoQ ops A now q).set q (ontoX ops A now q) = ontoQ ops A now (q + 1) := by
  unfold ontoQ
  rw [List.set_append_right _ _ (by simp), List.range_succ, List.map_append, List.append_assoc]
  congr 1
  simp only [List.length_map, List.length_range, Nat.sub_self]
  obtain ⟨m, hm⟩ : ∃ m, ops.length - q = m + 1 := ⟨ops.length - q - 1, by omega⟩
  rw [hm, List.replicate_succ, List.set_cons_zero, show ops.length - (q + 1) = m by omega]
  rfl
theorem ontoX_at (ops A now : List Int) (q : Nat) (h1 : q < ops.length) (h2 : q < A.length) (h3 : q < now.length) : ontoX ops A now q = joinI ops[q] A[q] now[q] := by simp [ontoX, List.getD, h1, h2, h3]

theorem zeros_made (n : Nat) : madeCells (Value.int .i64 0).cells (((n : Int).toNat) * 1) = ints (List.replicate n 0) := by
  simp only [madeCells, Value.cells, ints]
  apply Array.ext
  · simp
  · intro i h1 h2
    simp [Nat.mod_one]
theorem made26 (n : Nat) (hn : n ≤ 1000) : ∀ w, (Instr.makeSlice 26 (.int .i64 (n : Int)) (.int .i64 (n : Int))).run Try.prog w = .ok (.slice (some ⟨w.heap.size, 0, none⟩) n n) (w.alloc (.cells (ints (List.replicate n 0)) 2)) := by
  intro w
  have hi : (Try.prog.info? 2).map (fun i => (i.zero, i.size, i.bytes)) = some (some (.int .i64 0), 1, 8) := by kernel_rfl
  obtain ⟨i, h1, h2⟩ := Option.map_eq_some_iff.1 hi
  simp only [Prod.mk.injEq] at h2
  obtain ⟨e1, e2, e3⟩ := h2
  have := run_make (P := Try.prog) w 26 2 i (.int .i64 0) Try.underlying26 h1 e1 .i64 .i64 (n : Int) (n : Int) (by omega) (by omega) (by rw [e3]; omega) (by omega)
  rw [this, e2, zeros_made]
  simp
theorem made145 (n : Nat) (hn : n ≤ 1000) : ∀ w, (Instr.makeSlice 145 (.int .i64 (n : Int)) (.int .i64 (n : Int))).run Try.prog w = .ok (.slice (some ⟨w.heap.size, 0, none⟩) n n) (w.alloc (.cells (ints (List.replicate n 0)) 38)) := by
  intro w
  have hi : (Try.prog.info? 38).map (fun i => (i.zero, i.size, i.bytes)) = some (some (.int .i64 0), 1, 8) := by kernel_rfl
  obtain ⟨i, h1, h2⟩ := Option.map_eq_some_iff.1 hi
  simp only [Prod.mk.injEq] at h2
  obtain ⟨e1, e2, e3⟩ := h2
  have := run_make (P := Try.prog) w 145 38 i (.int .i64 0) Try.underlying145 h1 e1 .i64 .i64 (n : Int) (n : Int) (by omega) (by omega) (by rw [e3]; omega) (by omega)
  rw [this, e2, zeros_made]
  simp

/-- what Onto answers -/
def OntoP (ops now A : List Int) (w : World) (e : Ending) (w' : World) : Prop :=
  (A.length ≠ ops.length ∧ e = .returned (.tuple #[.slice none 0 0, .bool false]) ∧ Below w.heap.size w w') ∨
  (A.length = ops.length ∧ e = .returned (.tuple #[.slice (some ⟨w.heap.size, 0, none⟩) ops.length ops.length, .bool true]) ∧ w'.heap[w.heap.size]? = some (.cells (ints (ontoL ops A now)) 2) ∧ Below w.heap.size w w')

set_option maxRecDepth 100000 in
set_option maxHeartbeats 2000000 in
theorem onto_any {hb bo bn : Nat} {ops now : List Int} {many : Int} (A : List Int) (v : Value) (w : World) (h : HP w hb bo bn ops now many) (hv : GSl w v A) : Calls Try.prog 66 #[.pointer (some ⟨hb, 0, none⟩), v] w (OntoP ops now A w) := by
  have H : Hid (HP w hb bo bn ops now many) := h
  obtain ⟨a1, cc, b1, o1, rfl, h2, h3, h4, h5⟩ := hv
  obtain ⟨N, hN⟩ : ∃ N, ops.length = N := ⟨_, rfl⟩
  have HN : Hid (ops.length = N) := hN
  obtain ⟨M, hM⟩ : ∃ M, A.length = M := ⟨_, rfl⟩
  have HM : Hid (A.length = M) := hM
  have HS : N ≤ 4 := by rw [← hN]; exact h.short
  have H5 : Hid (∀ i (h : i < A.length), w.cell? ⟨b1, o1 + i, none⟩ = some (.int .i64 A[i])) := h5
  have H4 : Hid (0 < A.length → a1 = some ⟨b1, o1, none⟩) := h4
  have c0 := h.c0
  rw [hN] at c0
  obtain ⟨P, hP⟩ : ∃ P, OntoP ops now A w = P := ⟨_, rfl⟩
  have HQ : Hid (OntoP ops now A w = P) := hP
  rw [hP, hM]
  rw [hM] at h2
  unfold maxLen at h3
  have mk := made26 N (by omega)
  clear h hN hP hM h4 h5
  by_cases hMN : M = N
  · subst hMN
    have HC : Hid (∀ wr, Below w.heap.size w wr → HP wr hb bo bn ops now many) := fun wr hb => H.out.below hb
    have hne : ((M : Int) != (M : Int)) = false := by simp
    have HA : Hid (Below w.heap.size w (w.alloc (.cells (ints (List.replicate M 0)) 2))) := (Below.refl _ _).alloc (Nat.le_refl _) _
    have HG : Hid ((w.alloc (.cells (ints (List.replicate M 0)) 2)).heap[w.heap.size]? = some (.cells (ints (ontoQ ops A now 0)) 2)) := by
      show _ = _
      rw [heap_alloc_new]
      simp [ontoQ, HN.out]
    have c0' := (HC.out _ HA.out).c0
    rw [HN.out] at c0'
    go_enter Try.func66, Try.ntmps66
    go_wp2_with fail
    go_loopw [25] (fun i wr => ∃ q : Nat, i = .int .i64 (q : Int) ∧ q ≤ M ∧ Hid (Below w.heap.size w wr) ∧ Hid (wr.heap[w.heap.size]? = some (.cells (ints (ontoQ ops A now q)) 2))) (fun i _ => M - (intOf i).toNat)
    case atStart => exact ⟨0, rfl, Nat.zero_le _, HA, HG⟩
    case round =>
      obtain ⟨q, rfl, hq, HB, HK⟩ := hrel
      clear c0' c0 mk
      by_cases hlt : q < M
      · have q1 : q < ops.length := by rw [HN.out]; exact hlt
        have q2 : q < A.length := by rw [HM.out]; exact hlt
        have q3 : q < now.length := by rw [H.out.len]; exact q1
        obtain rfl := H4.out (by omega)
        obtain ⟨z, hz⟩ : ∃ z, ops[q] = z := ⟨_, rfl⟩
        obtain ⟨x, hx⟩ : ∃ x, A[q] = x := ⟨_, rfl⟩
        obtain ⟨y, hy⟩ : ∃ y, now[q] = y := ⟨_, rfl⟩
        have X := HC.out wr HB.out
        have d1 : wr.cell? ⟨bo, q, none⟩ = some (.int .i64 z) := by rw [X.cO q q1, hz]
        have d2 : wr.cell? ⟨bn, q, none⟩ = some (.int .i64 y) := by rw [X.cN q q3, hy]
        have d3 : wr.cell? ⟨b1, o1 + q, none⟩ = some (.int .i64 x) := by
          have := H5.out q q2
          rw [hx] at this
          exact (HB.out.cell (p := ⟨b1, o1 + q, none⟩) (World.block_lt_of_cell? w _ this)).trans this
        have d4 := X.c1
        rw [HN.out] at d4
        obtain ⟨u, hu⟩ : ∃ u, wr.cell? ⟨w.heap.size, q, none⟩ = some u := by
          rw [cell_of_row wr _ q _ _ _ HK.out]
          exact ⟨_, ints_at _ _ (by rw [ontoQ_len _ _ _ _ (by omega)]; exact q1)⟩
        have f4 := frozen_of_row wr w.heap.size q _ _ HK.out
        have HX : Hid ((wr.drew.setCell ⟨w.heap.size, q, none⟩ (.int .i64 (joinI z x y))).heap[w.heap.size]? = some (.cells (ints (ontoQ ops A now (q + 1))) 2)) := by
          show _ = _
          rw [heap_setCell_same wr.drew w.heap.size q _ 2 _ HK.out, ints_set, ← hz, ← hx, ← hy, ← ontoX_at ops A now q q1 q2 q3, ontoQ_next _ _ _ _ q1]
        have HY : Hid (Below w.heap.size w (wr.drew.setCell ⟨w.heap.size, q, none⟩ (.int .i64 (joinI z x y)))) := Below.setCell HB.out.drew (Nat.le_refl _) _
        have e1 : decide ((q : Int) < (M : Int)) = true := by simp; omega
        clear hz hx hy q1 q2 q3 X
        go_wp2_with fail
        refine wp_region_still_tail 16 (by kernel_rfl) (by kernel_rfl) ?_
        simp only [List.take_succ_cons, List.take_zero, List.drop_succ_cons, List.drop_zero]
        repeat still_step
        still_call (join_any _ _ _ _)
        repeat still_step
        refine wpStill_nil ?_
        go_wp2_with fail
        go_roundw
        case rel => exact ⟨q + 1, by go_num, by omega, HY, HX⟩
        case measure => simp [intOf]; omega
      · have e1 : decide ((q : Int) < (M : Int)) = false := by simp; omega
        have : q = M := by omega
        subst this
        have HF : Hid (P (.returned (.tuple #[.slice (some ⟨w.heap.size, 0, none⟩) q q, .bool true])) wr) := by
          show P _ _
          rw [← HQ.out]
          refine .inr ⟨HM.out.trans HN.out.symm, by rw [HN.out], ?_, HB.out⟩
          rw [← ontoQ_all, HN.out]; exact HK.out
        go_wp2
        first | exact HF.out | (go_ret2; exact HF.out)
  · have hne : ((M : Int) != (N : Int)) = true := by simp; omega
    have HF : Hid (P (.returned (.tuple #[.slice none 0 0, .bool false])) w) := by
      show P _ _
      rw [← HQ.out]
      exact .inl ⟨by rw [HM.out, HN.out]; exact hMN, rfl, Below.refl _ _⟩
    go_enter Try.func66, Try.ntmps66
    go_wp2
    first | exact HF.out | (go_ret2; exact HF.out)
end Go.Proofs.Ytongeppdaeekeaa
