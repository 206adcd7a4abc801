/- Where two memories differ; the words that aren't 0. -/
import Derived.Test.YtlcgoobjpnpfhaaM3
namespace Go.Proofs.Ytlcgoobjpnpfhaa
open Go.RowKit Go.Maps
set_option linter.unusedVariables false

def diffX (a b : List Int) (i : Nat) : List (Int × Int) := if a.getD i 0 = b.getD i 0 then [] else [((i : Int), b.getD i 0)]
def diffQ (a b : List Int) (q : Nat) : List (Int × Int) := (List.range q).flatMap (diffX a b)
def diffL (a b : List Int) : List (Int × Int) := diffQ a b (min a.length b.length)
theorem diffQ_succ (a b : List Int) (q : Nat) : diffQ a b (q + 1) = diffQ a b q ++ diffX a b q := by simp [diffQ, List.range_succ]
theorem diffQ_len (a b : List Int) (q : Nat) : (diffQ a b q).length ≤ q := by
  induction q with
  | zero => simp [diffQ]
  | succ q ih =>
    rw [diffQ_succ, List.length_append]
    have : (diffX a b q).length ≤ 1 := by unfold diffX; split <;> simp
    omega
def DiffP (l : List (Int × Int)) (w : World) (e : Ending) (w' : World) : Prop := ∃ oa oc, e = .returned (.slice oa l.length oc) ∧ PZ w' w.heap.size (.slice oa l.length oc) l ∧ Below w.heap.size w w'

set_option maxRecDepth 100000 in
set_option maxHeartbeats 2000000 in
theorem diff_any (A B : List Int) (u v : Value) (hl : A.length ≤ 4000 ∧ B.length ≤ 4000) (w : World) (hu : GSl w u A) (hv : GSl w v B) : Calls Try.prog 18 #[u, v] w (DiffP (diffL A B) w) := by
  obtain ⟨a1, c1, b1, o1, rfl, h2, h3, h4, h5⟩ := hu
  obtain ⟨a2, c2, b2, o2, rfl, k2, k3, k4, k5⟩ := hv
  obtain ⟨N, hN⟩ : ∃ N, A.length = N := ⟨_, rfl⟩
  have HN : Hid (A.length = N) := hN
  obtain ⟨M, hM⟩ : ∃ M, B.length = M := ⟨_, rfl⟩
  have HM : Hid (B.length = M) := hM
  have H5 : Hid (∀ i (h : i < A.length), w.cell? ⟨b1, o1 + i, none⟩ = some (.int .i64 A[i])) := h5
  have K5 : Hid (∀ i (h : i < B.length), w.cell? ⟨b2, o2 + i, none⟩ = some (.int .i64 B[i])) := k5
  obtain ⟨P, hP⟩ : ∃ P, DiffP (diffL A B) w = P := ⟨_, rfl⟩
  have HQ : Hid (DiffP (diffL A B) w = P) := hP
  rw [hN] at h2 h4
  rw [hM] at k2 k4
  rw [hN, hM] at hl
  rw [hP, hN, hM]
  have H4 : Hid (0 < N → a1 = some ⟨b1, o1, none⟩) := h4
  have K4 : Hid (0 < M → a2 = some ⟨b2, o2, none⟩) := k4
  unfold maxLen at h3 k3
  obtain ⟨hl1, hl2⟩ := hl
  clear hN hM hP h5 k5 h4 k4
  by_cases hNM : N ≤ M
  · have hNMi : (N : Int) ≤ (M : Int) := by omega
    go_enter Try.func18, Try.ntmps18
    go_wp2_with fail
    go_loopw [5, 12] (fun av i wr => ∃ (q : Nat) (oa : Option Addr) (oc : Nat) (m : Nat), i = .int .i64 (q : Int) ∧ av = .slice oa m oc ∧ q ≤ N ∧ Hid (m = (diffQ A B q).length) ∧ Hid (PZ wr w.heap.size (.slice oa m oc) (diffQ A B q)) ∧ Hid (Below w.heap.size w wr)) (fun _ i _ => N - (intOf i).toNat)
    case atStart => exact ⟨0, none, 0, 0, rfl, rfl, Nat.zero_le _, rfl, PZ.nil _ _, Below.refl _ _⟩
    case round =>
      obtain ⟨q, oa, oc, m, rfl, rfl, hq, HML, HI, HB⟩ := hrel
      by_cases hlt : q < N
      · have q1 : q < A.length := by rw [HN.out]; omega
        have q2 : q < B.length := by rw [HM.out]; omega
        obtain rfl := H4.out (by omega)
        obtain rfl := K4.out (by omega)
        obtain ⟨x, hx⟩ : ∃ x, A[q] = x := ⟨_, rfl⟩
        obtain ⟨y, hy⟩ : ∃ y, B[q] = y := ⟨_, rfl⟩
        have d1 : wr.cell? ⟨b1, o1 + q, none⟩ = some (.int .i64 x) := by
          have := H5.out q q1
          rw [hx] at this
          exact (HB.out.cell (p := ⟨b1, o1 + q, none⟩) (World.block_lt_of_cell? w _ this)).trans this
        have d2 : wr.cell? ⟨b2, o2 + q, none⟩ = some (.int .i64 y) := by
          have := K5.out q q2
          rw [hy] at this
          exact (HB.out.cell (p := ⟨b2, o2 + q, none⟩) (World.block_lt_of_cell? w _ this)).trans this
        have HD : Hid (diffX A B q = if x = y then [] else [((q : Int), y)]) := by
          show _ = _
          unfold diffX
          have e1 : A.getD q 0 = x := by simp [List.getD, q1, hx]
          have e2 : B.getD q 0 = y := by simp [List.getD, q2, hy]
          rw [e1, e2]
        have e3 : decide ((q : Int) < (N : Int)) = true := by simp; omega
        have e4 : decide ((q : Int) < (M : Int)) = true := by simp; omega
        have n1 : (q : Int) < (N : Int) := by omega
        have n2 : (q : Int) < (M : Int) := by omega
        clear hx hy
        by_cases hxy : x = y
        · have e5 : (x != y) = false := by simp [hxy]
          have HS : Hid (diffQ A B (q + 1) = diffQ A B q) := by show _ = _; rw [diffQ_succ, HD.out, if_pos hxy, List.append_nil]
          have HM2 : Hid (m = (diffQ A B (q + 1)).length) := by show _ = _; rw [HS.out]; exact HML.out
          have HI2 : Hid (PZ wr.drew w.heap.size (.slice oa m oc) (diffQ A B (q + 1))) := by show PZ _ _ _ _; rw [HS.out]; exact HI.out.keep (fun _ _ _ => rfl)
          have HB2 : Hid (Below w.heap.size w wr.drew) := HB.out.drew
          clear hxy
          go_wp2_with fail
          go_region_held3 (fun w' => w'.cell? ⟨b1, o1 + q, none⟩ = some (.int .i64 x) ∧ w'.cell? ⟨b2, o2 + q, none⟩ = some (.int .i64 y)) (go_keep) (fail)
          go_wp2_with fail
          go_roundw
          case rel => exact ⟨q + 1, oa, oc, m, by go_num, rfl, by omega, HM2, HI2, HB2⟩
          case measure => simp [intOf]; omega
        · have e5 : (x != y) = true := by simp [hxy]
          have HS : Hid (diffQ A B q ++ [((q : Int), y)] = diffQ A B (q + 1)) := by show _ = _; rw [diffQ_succ, HD.out, if_neg hxy]
          have HLQ : Hid ((diffQ A B q).length ≤ 100000) := by have := diffQ_len A B q; show _ ≤ _; omega
          clear hxy
          go_wp2_with fail
          go_region_held3 (fun w' => w'.cell? ⟨b1, o1 + q, none⟩ = some (.int .i64 x) ∧ w'.cell? ⟨b2, o2 + q, none⟩ = some (.int .i64 y)) (go_keep) (fail)
          have HIA : Hid (PZ (wr.alloc (Obj.cells #[Value.int .i64 (q : Int), Value.int .i64 y] 47)).drew w.heap.size (.slice oa m oc) (diffQ A B q)) := (HI.out.below ((Below.refl _ _).alloc (Nat.le_refl _) _)).keep (fun _ _ _ => rfl)
          have HCL : Hid ((wr.alloc (Obj.cells #[Value.int .i64 (q : Int), Value.int .i64 y] 47)).drew.cell? ⟨wr.heap.size, 0, none⟩ = some (.int .i64 (q : Int)) ∧ (wr.alloc (Obj.cells #[Value.int .i64 (q : Int), Value.int .i64 y] 47)).drew.cell? ⟨wr.heap.size, 1, none⟩ = some (.int .i64 y)) := by show _ ∧ _; constructor <;> simp
          have HBA : Hid (Below w.heap.size w (wr.alloc (Obj.cells #[Value.int .i64 (q : Int), Value.int .i64 y] 47)).drew) := (HB.out.alloc HB.out.size _).drew
          go_wp2_with (at_builtin; refine push_pair _ rfl _ _ rfl w.heap.size _ (diffQ A B q) (q : Int) y rfl HIA.out wr.heap.size rfl HCL.out HLQ.out HBA.out.size ?_)
          intro v' w' hi' hb'
          rw [HS.out] at hi'
          obtain ⟨oa', oc', rfl⟩ := hi'.sl
          obtain ⟨m', hm'⟩ : ∃ m', (diffQ A B (q + 1)).length = m' := ⟨_, rfl⟩
          rw [hm'] at hi' ⊢
          have HM2 : Hid (m' = (diffQ A B (q + 1)).length) := hm'.symm
          have HI2 : Hid (PZ w' w.heap.size (.slice oa' m' oc') (diffQ A B (q + 1))) := hi'
          have HB2 : Hid (Below w.heap.size w w') := HBA.out.trans hb'
          clear hi' hb' hm'
          go_wp2_with fail
          go_roundw
          case rel => exact ⟨q + 1, oa', oc', m', by go_num, rfl, by omega, HM2, HI2, HB2⟩
          case measure => simp [intOf]; omega
      · have hqK : q = N := by omega
        subst hqK
        have HF : Hid (P (.returned (.slice oa m oc)) wr) := by
          show P _ _
          rw [← HQ.out]
          have hmin : min A.length B.length = q := by rw [HN.out, HM.out]; omega
          have h8 := HI.out
          have h9 := HML.out
          subst h9
          unfold diffL
          rw [hmin]
          exact ⟨oa, oc, rfl, h8, HB.out⟩
        have e3 : decide ((q : Int) < (q : Int)) = false := by simp
        go_wp2
        first | exact HF.out | (go_ret; exact HF.out)
  · have hNMi : ¬ (N : Int) ≤ (M : Int) := by omega
    have hMN : (M : Int) < (N : Int) := by omega
    go_enter Try.func18, Try.ntmps18
    go_wp2_with fail
    go_loopw [5, 12] (fun av i wr => ∃ (q : Nat) (oa : Option Addr) (oc : Nat) (m : Nat), i = .int .i64 (q : Int) ∧ av = .slice oa m oc ∧ q ≤ M ∧ Hid (m = (diffQ A B q).length) ∧ Hid (PZ wr w.heap.size (.slice oa m oc) (diffQ A B q)) ∧ Hid (Below w.heap.size w wr)) (fun _ i _ => M - (intOf i).toNat)
    case atStart => exact ⟨0, none, 0, 0, rfl, rfl, Nat.zero_le _, rfl, PZ.nil _ _, Below.refl _ _⟩
    case round =>
      obtain ⟨q, oa, oc, m, rfl, rfl, hq, HML, HI, HB⟩ := hrel
      by_cases hlt : q < M
      · have q1 : q < A.length := by rw [HN.out]; omega
        have q2 : q < B.length := by rw [HM.out]; omega
        obtain rfl := H4.out (by omega)
        obtain rfl := K4.out (by omega)
        obtain ⟨x, hx⟩ : ∃ x, A[q] = x := ⟨_, rfl⟩
        obtain ⟨y, hy⟩ : ∃ y, B[q] = y := ⟨_, rfl⟩
        have d1 : wr.cell? ⟨b1, o1 + q, none⟩ = some (.int .i64 x) := by
          have := H5.out q q1
          rw [hx] at this
          exact (HB.out.cell (p := ⟨b1, o1 + q, none⟩) (World.block_lt_of_cell? w _ this)).trans this
        have d2 : wr.cell? ⟨b2, o2 + q, none⟩ = some (.int .i64 y) := by
          have := K5.out q q2
          rw [hy] at this
          exact (HB.out.cell (p := ⟨b2, o2 + q, none⟩) (World.block_lt_of_cell? w _ this)).trans this
        have HD : Hid (diffX A B q = if x = y then [] else [((q : Int), y)]) := by
          show _ = _
          unfold diffX
          have e1 : A.getD q 0 = x := by simp [List.getD, q1, hx]
          have e2 : B.getD q 0 = y := by simp [List.getD, q2, hy]
          rw [e1, e2]
        have e3 : decide ((q : Int) < (N : Int)) = true := by simp; omega
        have e4 : decide ((q : Int) < (M : Int)) = true := by simp; omega
        have n1 : (q : Int) < (N : Int) := by omega
        have n2 : (q : Int) < (M : Int) := by omega
        clear hx hy
        by_cases hxy : x = y
        · have e5 : (x != y) = false := by simp [hxy]
          have HS : Hid (diffQ A B (q + 1) = diffQ A B q) := by show _ = _; rw [diffQ_succ, HD.out, if_pos hxy, List.append_nil]
          have HM2 : Hid (m = (diffQ A B (q + 1)).length) := by show _ = _; rw [HS.out]; exact HML.out
          have HI2 : Hid (PZ wr.drew w.heap.size (.slice oa m oc) (diffQ A B (q + 1))) := by show PZ _ _ _ _; rw [HS.out]; exact HI.out.keep (fun _ _ _ => rfl)
          have HB2 : Hid (Below w.heap.size w wr.drew) := HB.out.drew
          clear hxy
          go_wp2_with fail
          go_region_held3 (fun w' => w'.cell? ⟨b1, o1 + q, none⟩ = some (.int .i64 x) ∧ w'.cell? ⟨b2, o2 + q, none⟩ = some (.int .i64 y)) (go_keep) (fail)
          go_wp2_with fail
          go_roundw
          case rel => exact ⟨q + 1, oa, oc, m, by go_num, rfl, by omega, HM2, HI2, HB2⟩
          case measure => simp [intOf]; omega
        · have e5 : (x != y) = true := by simp [hxy]
          have HS : Hid (diffQ A B q ++ [((q : Int), y)] = diffQ A B (q + 1)) := by show _ = _; rw [diffQ_succ, HD.out, if_neg hxy]
          have HLQ : Hid ((diffQ A B q).length ≤ 100000) := by have := diffQ_len A B q; show _ ≤ _; omega
          clear hxy
          go_wp2_with fail
          go_region_held3 (fun w' => w'.cell? ⟨b1, o1 + q, none⟩ = some (.int .i64 x) ∧ w'.cell? ⟨b2, o2 + q, none⟩ = some (.int .i64 y)) (go_keep) (fail)
          have HIA : Hid (PZ (wr.alloc (Obj.cells #[Value.int .i64 (q : Int), Value.int .i64 y] 47)).drew w.heap.size (.slice oa m oc) (diffQ A B q)) := (HI.out.below ((Below.refl _ _).alloc (Nat.le_refl _) _)).keep (fun _ _ _ => rfl)
          have HCL : Hid ((wr.alloc (Obj.cells #[Value.int .i64 (q : Int), Value.int .i64 y] 47)).drew.cell? ⟨wr.heap.size, 0, none⟩ = some (.int .i64 (q : Int)) ∧ (wr.alloc (Obj.cells #[Value.int .i64 (q : Int), Value.int .i64 y] 47)).drew.cell? ⟨wr.heap.size, 1, none⟩ = some (.int .i64 y)) := by show _ ∧ _; constructor <;> simp
          have HBA : Hid (Below w.heap.size w (wr.alloc (Obj.cells #[Value.int .i64 (q : Int), Value.int .i64 y] 47)).drew) := (HB.out.alloc HB.out.size _).drew
          go_wp2_with (at_builtin; refine push_pair _ rfl _ _ rfl w.heap.size _ (diffQ A B q) (q : Int) y rfl HIA.out wr.heap.size rfl HCL.out HLQ.out HBA.out.size ?_)
          intro v' w' hi' hb'
          rw [HS.out] at hi'
          obtain ⟨oa', oc', rfl⟩ := hi'.sl
          obtain ⟨m', hm'⟩ : ∃ m', (diffQ A B (q + 1)).length = m' := ⟨_, rfl⟩
          rw [hm'] at hi' ⊢
          have HM2 : Hid (m' = (diffQ A B (q + 1)).length) := hm'.symm
          have HI2 : Hid (PZ w' w.heap.size (.slice oa' m' oc') (diffQ A B (q + 1))) := hi'
          have HB2 : Hid (Below w.heap.size w w') := HBA.out.trans hb'
          clear hi' hb' hm'
          go_wp2_with fail
          go_roundw
          case rel => exact ⟨q + 1, oa', oc', m', by go_num, rfl, by omega, HM2, HI2, HB2⟩
          case measure => simp [intOf]; omega
      · have hqK : q = M := by omega
        subst hqK
        have HF : Hid (P (.returned (.slice oa m oc)) wr) := by
          show P _ _
          rw [← HQ.out]
          have hmin : min A.length B.length = q := by rw [HN.out, HM.out]; omega
          have h8 := HI.out
          have h9 := HML.out
          subst h9
          unfold diffL
          rw [hmin]
          exact ⟨oa, oc, rfl, h8, HB.out⟩
        have e3 : decide ((q : Int) < (q : Int)) = false := by simp
        go_wp2
        first | exact HF.out | (go_ret; exact HF.out)
set_option maxRecDepth 100000 in
set_option maxHeartbeats 2000000 in
theorem rdiff_any (A B : List Int) (u v : Value) (hl : A.length ≤ 4000 ∧ B.length ≤ 4000) (w : World) (hu : GSl w u A) (hv : GSl w v B) : Calls Try.prog 19 #[u, v] w (DiffP (diffL A B) w) := by
  obtain ⟨a1, c1, b1, o1, rfl, h2, h3, h4, h5⟩ := hu
  obtain ⟨a2, c2, b2, o2, rfl, k2, k3, k4, k5⟩ := hv
  obtain ⟨N, hN⟩ : ∃ N, A.length = N := ⟨_, rfl⟩
  have HN : Hid (A.length = N) := hN
  obtain ⟨M, hM⟩ : ∃ M, B.length = M := ⟨_, rfl⟩
  have HM : Hid (B.length = M) := hM
  have H5 : Hid (∀ i (h : i < A.length), w.cell? ⟨b1, o1 + i, none⟩ = some (.int .i64 A[i])) := h5
  have K5 : Hid (∀ i (h : i < B.length), w.cell? ⟨b2, o2 + i, none⟩ = some (.int .i64 B[i])) := k5
  obtain ⟨P, hP⟩ : ∃ P, DiffP (diffL A B) w = P := ⟨_, rfl⟩
  have HQ : Hid (DiffP (diffL A B) w = P) := hP
  rw [hN] at h2 h4
  rw [hM] at k2 k4
  rw [hN, hM] at hl
  rw [hP, hN, hM]
  have H4 : Hid (0 < N → a1 = some ⟨b1, o1, none⟩) := h4
  have K4 : Hid (0 < M → a2 = some ⟨b2, o2, none⟩) := k4
  unfold maxLen at h3 k3
  obtain ⟨hl1, hl2⟩ := hl
  clear hN hM hP h5 k5 h4 k4
  by_cases hNM : N ≤ M
  · have hNMi : (N : Int) ≤ (M : Int) := by omega
    go_enter Try.func19, Try.ntmps19
    go_wp2_with fail
    go_loopw [5, 6] (fun av i wr => ∃ (q : Nat) (oa : Option Addr) (oc : Nat) (m : Nat), i = .int .i64 (q : Int) ∧ av = .slice oa m oc ∧ q ≤ N ∧ Hid (m = (diffQ A B q).length) ∧ Hid (PZ wr w.heap.size (.slice oa m oc) (diffQ A B q)) ∧ Hid (Below w.heap.size w wr)) (fun _ i _ => N - (intOf i).toNat)
    case atStart => exact ⟨0, none, 0, 0, rfl, rfl, Nat.zero_le _, rfl, PZ.nil _ _, Below.refl _ _⟩
    case round =>
      obtain ⟨q, oa, oc, m, rfl, rfl, hq, HML, HI, HB⟩ := hrel
      by_cases hlt : q < N
      · have q1 : q < A.length := by rw [HN.out]; omega
        have q2 : q < B.length := by rw [HM.out]; omega
        obtain rfl := H4.out (by omega)
        obtain rfl := K4.out (by omega)
        obtain ⟨x, hx⟩ : ∃ x, A[q] = x := ⟨_, rfl⟩
        obtain ⟨y, hy⟩ : ∃ y, B[q] = y := ⟨_, rfl⟩
        have d1 : wr.cell? ⟨b1, o1 + q, none⟩ = some (.int .i64 x) := by
          have := H5.out q q1
          rw [hx] at this
          exact (HB.out.cell (p := ⟨b1, o1 + q, none⟩) (World.block_lt_of_cell? w _ this)).trans this
        have d2 : wr.cell? ⟨b2, o2 + q, none⟩ = some (.int .i64 y) := by
          have := K5.out q q2
          rw [hy] at this
          exact (HB.out.cell (p := ⟨b2, o2 + q, none⟩) (World.block_lt_of_cell? w _ this)).trans this
        have HD : Hid (diffX A B q = if x = y then [] else [((q : Int), y)]) := by
          show _ = _
          unfold diffX
          have e1 : A.getD q 0 = x := by simp [List.getD, q1, hx]
          have e2 : B.getD q 0 = y := by simp [List.getD, q2, hy]
          rw [e1, e2]
        have e3 : decide ((q : Int) < (N : Int)) = true := by simp; omega
        have e4 : decide ((q : Int) < (M : Int)) = true := by simp; omega
        have n1 : (q : Int) < (N : Int) := by omega
        have n2 : (q : Int) < (M : Int) := by omega
        clear hx hy
        by_cases hxy : x = y
        · have e5 : (x != y) = false := by simp [hxy]
          have HS : Hid (diffQ A B (q + 1) = diffQ A B q) := by show _ = _; rw [diffQ_succ, HD.out, if_pos hxy, List.append_nil]
          have HM2 : Hid (m = (diffQ A B (q + 1)).length) := by show _ = _; rw [HS.out]; exact HML.out
          have HI2 : Hid (PZ wr.drew w.heap.size (.slice oa m oc) (diffQ A B (q + 1))) := by show PZ _ _ _ _; rw [HS.out]; exact HI.out.keep (fun _ _ _ => rfl)
          have HB2 : Hid (Below w.heap.size w wr.drew) := HB.out.drew
          clear hxy
          go_wp2_with fail
          go_region_held3 (fun w' => w'.cell? ⟨b1, o1 + q, none⟩ = some (.int .i64 x) ∧ w'.cell? ⟨b2, o2 + q, none⟩ = some (.int .i64 y)) (go_keep) (fail)
          go_wp2_with fail
          go_roundw
          case rel => exact ⟨q + 1, oa, oc, m, by go_num, rfl, by omega, HM2, HI2, HB2⟩
          case measure => simp [intOf]; omega
        · have e5 : (x != y) = true := by simp [hxy]
          have HS : Hid (diffQ A B q ++ [((q : Int), y)] = diffQ A B (q + 1)) := by show _ = _; rw [diffQ_succ, HD.out, if_neg hxy]
          have HLQ : Hid ((diffQ A B q).length ≤ 100000) := by have := diffQ_len A B q; show _ ≤ _; omega
          clear hxy
          go_wp2_with fail
          go_region_held3 (fun w' => w'.cell? ⟨b1, o1 + q, none⟩ = some (.int .i64 x) ∧ w'.cell? ⟨b2, o2 + q, none⟩ = some (.int .i64 y)) (go_keep) (fail)
          have HIA : Hid (PZ (wr.alloc (Obj.cells #[Value.int .i64 (q : Int), Value.int .i64 y] 47)).drew w.heap.size (.slice oa m oc) (diffQ A B q)) := (HI.out.below ((Below.refl _ _).alloc (Nat.le_refl _) _)).keep (fun _ _ _ => rfl)
          have HCL : Hid ((wr.alloc (Obj.cells #[Value.int .i64 (q : Int), Value.int .i64 y] 47)).drew.cell? ⟨wr.heap.size, 0, none⟩ = some (.int .i64 (q : Int)) ∧ (wr.alloc (Obj.cells #[Value.int .i64 (q : Int), Value.int .i64 y] 47)).drew.cell? ⟨wr.heap.size, 1, none⟩ = some (.int .i64 y)) := by show _ ∧ _; constructor <;> simp
          have HBA : Hid (Below w.heap.size w (wr.alloc (Obj.cells #[Value.int .i64 (q : Int), Value.int .i64 y] 47)).drew) := (HB.out.alloc HB.out.size _).drew
          go_wp2_with (at_builtin; refine push_pair _ rfl _ _ rfl w.heap.size _ (diffQ A B q) (q : Int) y rfl HIA.out wr.heap.size rfl HCL.out HLQ.out HBA.out.size ?_)
          intro v' w' hi' hb'
          rw [HS.out] at hi'
          obtain ⟨oa', oc', rfl⟩ := hi'.sl
          obtain ⟨m', hm'⟩ : ∃ m', (diffQ A B (q + 1)).length = m' := ⟨_, rfl⟩
          rw [hm'] at hi' ⊢
          have HM2 : Hid (m' = (diffQ A B (q + 1)).length) := hm'.symm
          have HI2 : Hid (PZ w' w.heap.size (.slice oa' m' oc') (diffQ A B (q + 1))) := hi'
          have HB2 : Hid (Below w.heap.size w w') := HBA.out.trans hb'
          clear hi' hb' hm'
          go_wp2_with fail
          go_roundw
          case rel => exact ⟨q + 1, oa', oc', m', by go_num, rfl, by omega, HM2, HI2, HB2⟩
          case measure => simp [intOf]; omega
      · have hqK : q = N := by omega
        subst hqK
        have HF : Hid (P (.returned (.slice oa m oc)) wr) := by
          show P _ _
          rw [← HQ.out]
          have hmin : min A.length B.length = q := by rw [HN.out, HM.out]; omega
          have h8 := HI.out
          have h9 := HML.out
          subst h9
          unfold diffL
          rw [hmin]
          exact ⟨oa, oc, rfl, h8, HB.out⟩
        have e3 : decide ((q : Int) < (q : Int)) = false := by simp
        go_wp2
        first | exact HF.out | (go_ret; exact HF.out)
  · have hNMi : ¬ (N : Int) ≤ (M : Int) := by omega
    have hMN : (M : Int) < (N : Int) := by omega
    go_enter Try.func19, Try.ntmps19
    go_wp2_with fail
    go_loopw [5, 6] (fun av i wr => ∃ (q : Nat) (oa : Option Addr) (oc : Nat) (m : Nat), i = .int .i64 (q : Int) ∧ av = .slice oa m oc ∧ q ≤ M ∧ Hid (m = (diffQ A B q).length) ∧ Hid (PZ wr w.heap.size (.slice oa m oc) (diffQ A B q)) ∧ Hid (Below w.heap.size w wr)) (fun _ i _ => M - (intOf i).toNat)
    case atStart => exact ⟨0, none, 0, 0, rfl, rfl, Nat.zero_le _, rfl, PZ.nil _ _, Below.refl _ _⟩
    case round =>
      obtain ⟨q, oa, oc, m, rfl, rfl, hq, HML, HI, HB⟩ := hrel
      by_cases hlt : q < M
      · have q1 : q < A.length := by rw [HN.out]; omega
        have q2 : q < B.length := by rw [HM.out]; omega
        obtain rfl := H4.out (by omega)
        obtain rfl := K4.out (by omega)
        obtain ⟨x, hx⟩ : ∃ x, A[q] = x := ⟨_, rfl⟩
        obtain ⟨y, hy⟩ : ∃ y, B[q] = y := ⟨_, rfl⟩
        have d1 : wr.cell? ⟨b1, o1 + q, none⟩ = some (.int .i64 x) := by
          have := H5.out q q1
          rw [hx] at this
          exact (HB.out.cell (p := ⟨b1, o1 + q, none⟩) (World.block_lt_of_cell? w _ this)).trans this
        have d2 : wr.cell? ⟨b2, o2 + q, none⟩ = some (.int .i64 y) := by
          have := K5.out q q2
          rw [hy] at this
          exact (HB.out.cell (p := ⟨b2, o2 + q, none⟩) (World.block_lt_of_cell? w _ this)).trans this
        have HD : Hid (diffX A B q = if x = y then [] else [((q : Int), y)]) := by
          show _ = _
          unfold diffX
          have e1 : A.getD q 0 = x := by simp [List.getD, q1, hx]
          have e2 : B.getD q 0 = y := by simp [List.getD, q2, hy]
          rw [e1, e2]
        have e3 : decide ((q : Int) < (N : Int)) = true := by simp; omega
        have e4 : decide ((q : Int) < (M : Int)) = true := by simp; omega
        have n1 : (q : Int) < (N : Int) := by omega
        have n2 : (q : Int) < (M : Int) := by omega
        clear hx hy
        by_cases hxy : x = y
        · have e5 : (x != y) = false := by simp [hxy]
          have HS : Hid (diffQ A B (q + 1) = diffQ A B q) := by show _ = _; rw [diffQ_succ, HD.out, if_pos hxy, List.append_nil]
          have HM2 : Hid (m = (diffQ A B (q + 1)).length) := by show _ = _; rw [HS.out]; exact HML.out
          have HI2 : Hid (PZ wr.drew w.heap.size (.slice oa m oc) (diffQ A B (q + 1))) := by show PZ _ _ _ _; rw [HS.out]; exact HI.out.keep (fun _ _ _ => rfl)
          have HB2 : Hid (Below w.heap.size w wr.drew) := HB.out.drew
          clear hxy
          go_wp2_with fail
          go_region_held3 (fun w' => w'.cell? ⟨b1, o1 + q, none⟩ = some (.int .i64 x) ∧ w'.cell? ⟨b2, o2 + q, none⟩ = some (.int .i64 y)) (go_keep) (fail)
          go_wp2_with fail
          go_roundw
          case rel => exact ⟨q + 1, oa, oc, m, by go_num, rfl, by omega, HM2, HI2, HB2⟩
          case measure => simp [intOf]; omega
        · have e5 : (x != y) = true := by simp [hxy]
          have HS : Hid (diffQ A B q ++ [((q : Int), y)] = diffQ A B (q + 1)) := by show _ = _; rw [diffQ_succ, HD.out, if_neg hxy]
          have HLQ : Hid ((diffQ A B q).length ≤ 100000) := by have := diffQ_len A B q; show _ ≤ _; omega
          clear hxy
          go_wp2_with fail
          go_region_held3 (fun w' => w'.cell? ⟨b1, o1 + q, none⟩ = some (.int .i64 x) ∧ w'.cell? ⟨b2, o2 + q, none⟩ = some (.int .i64 y)) (go_keep) (fail)
          have HIA : Hid (PZ (wr.alloc (Obj.cells #[Value.int .i64 (q : Int), Value.int .i64 y] 47)).drew w.heap.size (.slice oa m oc) (diffQ A B q)) := (HI.out.below ((Below.refl _ _).alloc (Nat.le_refl _) _)).keep (fun _ _ _ => rfl)
          have HCL : Hid ((wr.alloc (Obj.cells #[Value.int .i64 (q : Int), Value.int .i64 y] 47)).drew.cell? ⟨wr.heap.size, 0, none⟩ = some (.int .i64 (q : Int)) ∧ (wr.alloc (Obj.cells #[Value.int .i64 (q : Int), Value.int .i64 y] 47)).drew.cell? ⟨wr.heap.size, 1, none⟩ = some (.int .i64 y)) := by show _ ∧ _; constructor <;> simp
          have HBA : Hid (Below w.heap.size w (wr.alloc (Obj.cells #[Value.int .i64 (q : Int), Value.int .i64 y] 47)).drew) := (HB.out.alloc HB.out.size _).drew
          go_wp2_with (at_builtin; refine push_pair _ rfl _ _ rfl w.heap.size _ (diffQ A B q) (q : Int) y rfl HIA.out wr.heap.size rfl HCL.out HLQ.out HBA.out.size ?_)
          intro v' w' hi' hb'
          rw [HS.out] at hi'
          obtain ⟨oa', oc', rfl⟩ := hi'.sl
          obtain ⟨m', hm'⟩ : ∃ m', (diffQ A B (q + 1)).length = m' := ⟨_, rfl⟩
          rw [hm'] at hi' ⊢
          have HM2 : Hid (m' = (diffQ A B (q + 1)).length) := hm'.symm
          have HI2 : Hid (PZ w' w.heap.size (.slice oa' m' oc') (diffQ A B (q + 1))) := hi'
          have HB2 : Hid (Below w.heap.size w w') := HBA.out.trans hb'
          clear hi' hb' hm'
          go_wp2_with fail
          go_roundw
          case rel => exact ⟨q + 1, oa', oc', m', by go_num, rfl, by omega, HM2, HI2, HB2⟩
          case measure => simp [intOf]; omega
      · have hqK : q = M := by omega
        subst hqK
        have HF : Hid (P (.returned (.slice oa m oc)) wr) := by
          show P _ _
          rw [← HQ.out]
          have hmin : min A.length B.length = q := by rw [HN.out, HM.out]; omega
          have h8 := HI.out
          have h9 := HML.out
          subst h9
          unfold diffL
          rw [hmin]
          exact ⟨oa, oc, rfl, h8, HB.out⟩
        have e4 : decide ((q : Int) < (q : Int)) = false := by simp
        have e3 : decide ((q : Int) < (N : Int)) = true := by simp; omega
        go_wp2
        first | exact HF.out | (go_ret; exact HF.out)
end Go.Proofs.Ytlcgoobjpnpfhaa
