/- The words that aren't 0; the chapter's examples. -/
import Derived.Test.YtlcgoobjpnpfhaaM4
import Derived.Test.YtlcgoobjpnpfhaaAliv
namespace Go.Proofs.Ytlcgoobjpnpfhaa
open Go.RowKit Go.Maps
set_option linter.unusedVariables false

def zer (n : Nat) : List Int := List.replicate n 0
def cellsL (B : List Int) : List (Int × Int) := diffL (zer B.length) B
theorem zer_x (n : Nat) (B : List Int) (q : Nat) (hq : q < n) (h : q < B.length) : diffX (zer n) B q = if B[q] = 0 then [] else [((q : Int), B[q])] := by
  unfold diffX
  have e1 : (zer n).getD q 0 = 0 := by simp [zer, List.getD, hq]
  have e2 : B.getD q 0 = B[q] := by simp [List.getD, h]
  rw [e1, e2]
  by_cases h0 : B[q] = 0
  · rw [if_pos h0, if_pos h0.symm]
  · rw [if_neg h0, if_neg (fun h => h0 h.symm)]
set_option maxRecDepth 100000 in
set_option maxHeartbeats 2000000 in
theorem cells_any (B : List Int) (v : Value) (hl : B.length ≤ 4000) (w : World) (hv : GSl w v B) : Calls Try.prog 16 #[v] w (DiffP (cellsL B) w) := by
  obtain ⟨a2, c2, b2, o2, rfl, k2, k3, k4, k5⟩ := hv
  obtain ⟨M, hM⟩ : ∃ M, B.length = M := ⟨_, rfl⟩
  have HM : Hid (B.length = M) := hM
  have K5 : Hid (∀ i (h : i < B.length), w.cell? ⟨b2, o2 + i, none⟩ = some (.int .i64 B[i])) := k5
  obtain ⟨P, hP⟩ : ∃ P, DiffP (cellsL B) w = P := ⟨_, rfl⟩
  have HQ : Hid (DiffP (cellsL B) w = P) := hP
  rw [hM] at k2 k4
  rw [hM] at hl
  rw [hP, hM]
  have K4 : Hid (0 < M → a2 = some ⟨b2, o2, none⟩) := k4
  unfold maxLen at k3
  clear hM hP k5 k4
  go_enter Try.func16, Try.ntmps16
  go_wp2_with fail
  go_loopw [3, 8] (fun av i wr => ∃ (q : Nat) (oa : Option Addr) (oc : Nat) (m : Nat), i = .int .i64 (q : Int) ∧ av = .slice oa m oc ∧ q ≤ M ∧ Hid (m = (diffQ (zer M) B q).length) ∧ Hid (PZ wr w.heap.size (.slice oa m oc) (diffQ (zer M) B q)) ∧ Hid (Below w.heap.size w wr)) (fun _ i _ => M - (intOf i).toNat)
  case atStart => exact ⟨0, none, 0, 0, rfl, rfl, Nat.zero_le _, rfl, PZ.nil _ _, Below.refl _ _⟩
  case round =>
    obtain ⟨q, oa, oc, m, rfl, rfl, hq, HML, HI, HB⟩ := hrel
    by_cases hlt : q < M
    · have q2 : q < B.length := by rw [HM.out]; omega
      obtain rfl := K4.out (by omega)
      obtain ⟨y, hy⟩ : ∃ y, B[q] = y := ⟨_, rfl⟩
      have d2 : wr.cell? ⟨b2, o2 + q, none⟩ = some (.int .i64 y) := by
        have := K5.out q q2
        rw [hy] at this
        exact (HB.out.cell (p := ⟨b2, o2 + q, none⟩) (World.block_lt_of_cell? w _ this)).trans this
      have HD : Hid (diffX (zer M) B q = if y = 0 then [] else [((q : Int), y)]) := by
        show _ = _
        rw [zer_x M B q hlt q2, hy]
      have e4 : decide ((q : Int) < (M : Int)) = true := by simp; omega
      clear hy
      by_cases hxy : y = 0
      · have e5 : (y != 0) = false := by simp [hxy]
        have HS : Hid (diffQ (zer M) B (q + 1) = diffQ (zer M) B q) := by show _ = _; rw [diffQ_succ, HD.out, if_pos hxy, List.append_nil]
        have HM2 : Hid (m = (diffQ (zer M) B (q + 1)).length) := by show _ = _; rw [HS.out]; exact HML.out
        have HI2 : Hid (PZ wr w.heap.size (.slice oa m oc) (diffQ (zer M) B (q + 1))) := by show PZ _ _ _ _; rw [HS.out]; exact HI.out
        clear hxy
        go_wp2_with fail
        go_roundw
        case rel => exact ⟨q + 1, oa, oc, m, by go_num, rfl, by omega, HM2, HI2, HB⟩
        case measure => simp [intOf]; omega
      · have e5 : (y != 0) = true := by simp [hxy]
        have HS : Hid (diffQ (zer M) B q ++ [((q : Int), y)] = diffQ (zer M) B (q + 1)) := by show _ = _; rw [diffQ_succ, HD.out, if_neg hxy]
        have HLQ : Hid ((diffQ (zer M) B q).length ≤ 100000) := by have := diffQ_len (zer M) B q; show _ ≤ _; omega
        clear hxy
        have HIA : Hid (PZ (wr.alloc (Obj.cells #[Value.int .i64 (q : Int), Value.int .i64 y] 47)) w.heap.size (.slice oa m oc) (diffQ (zer M) B q)) := HI.out.below ((Below.refl _ _).alloc (Nat.le_refl _) _)
        have HCL : Hid ((wr.alloc (Obj.cells #[Value.int .i64 (q : Int), Value.int .i64 y] 47)).cell? ⟨wr.heap.size, 0, none⟩ = some (.int .i64 (q : Int)) ∧ (wr.alloc (Obj.cells #[Value.int .i64 (q : Int), Value.int .i64 y] 47)).cell? ⟨wr.heap.size, 1, none⟩ = some (.int .i64 y)) := by show _ ∧ _; constructor <;> simp
        have HBA : Hid (Below w.heap.size w (wr.alloc (Obj.cells #[Value.int .i64 (q : Int), Value.int .i64 y] 47))) := HB.out.alloc HB.out.size _
        go_wp2_with (at_builtin; refine push_pair _ rfl _ _ rfl w.heap.size _ (diffQ (zer M) B q) (q : Int) y rfl HIA.out wr.heap.size rfl HCL.out HLQ.out HBA.out.size ?_)
        intro v' w' hi' hb'
        rw [HS.out] at hi'
        obtain ⟨oa', oc', rfl⟩ := hi'.sl
        obtain ⟨m', hm'⟩ : ∃ m', (diffQ (zer M) B (q + 1)).length = m' := ⟨_, rfl⟩
        rw [hm'] at hi' ⊢
        have HM2 : Hid (m' = (diffQ (zer M) B (q + 1)).length) := hm'.symm
        have HI2 : Hid (PZ w' w.heap.size (.slice oa' m' oc') (diffQ (zer M) B (q + 1))) := hi'
        have HB2 : Hid (Below w.heap.size w w') := HBA.out.trans hb'
        clear hi' hb' hm'
        go_wp2_with fail
        go_roundw
        case rel => exact ⟨q + 1, oa', oc', m', by go_num, rfl, by omega, HM2, HI2, HB2⟩
        case measure => simp [intOf]; omega
    · have hqK : q = M := by omega
      subst hqK
      have HF : Hid (P (.returned (.slice oa m oc)) wr) := by
        show P _ _
        rw [← HQ.out]
        have hmin : min (zer B.length).length B.length = q := by rw [HM.out]; simp [zer]
        have h8 := HI.out
        have h9 := HML.out
        subst h9
        unfold cellsL diffL
        rw [hmin, HM.out]
        exact ⟨oa, oc, rfl, h8, HB.out⟩
      have e4 : decide ((q : Int) < (q : Int)) = false := by simp
      go_wp2
      first | exact HF.out | (go_ret; exact HF.out)

theorem GSl.blkAny {w : World} {g : Nat} {l : List Int} (h : w.heap[g]? = some (.cells (ints l) 2)) (hl : l.length ≤ 100000) : GSl w (.slice (some ⟨g, 0, none⟩) l.length l.length) l :=
  ⟨_, _, g, 0, rfl, Nat.le_refl _, by unfold maxLen; omega, fun _ => rfl, fun i hi => by rw [Nat.zero_add, cell_of_row w g i _ _ _ h, ints_at _ _ hi]⟩
theorem made23 (n : Nat) (hn : n ≤ 100000) : ∀ w, (Instr.makeSlice 23 (.int .i64 (n : Int)) (.int .i64 (n : Int))).run Try.prog w = .ok (.slice (some ⟨w.heap.size, 0, none⟩) n n) (w.alloc (.cells (ints (zer n)) 2)) := by
  intro w
  obtain ⟨i, h1, e1, e2, e3⟩ := info_parts info2
  have := run_make (P := Try.prog) w 23 2 i (.int .i64 0) Try.underlying23 h1 e1 .i64 .i64 (n : Int) (n : Int) (by omega) (by omega) (by rw [e3]; omega) (by omega)
  rw [this, e2, zeros_made]
  simp [zer]
set_option maxRecDepth 100000 in
set_option maxHeartbeats 2000000 in
theorem rcells_any (B : List Int) (v : Value) (hl : B.length ≤ 4000) (w : World) (hv : GSl w v B) : Calls Try.prog 17 #[v] w (DiffP (cellsL B) w) := by
  have HV : Hid (GSl w v B) := hv
  obtain ⟨a2, c2, _, _, rfl, _⟩ := hv
  obtain ⟨M, hM⟩ : ∃ M, B.length = M := ⟨_, rfl⟩
  rw [hM] at HV hl ⊢
  have mk := made23 M (by omega)
  have HD : Hid (Calls Try.prog 19 #[.slice (some ⟨w.heap.size, 0, none⟩) M M, .slice a2 M c2] (w.alloc (.cells (ints (zer M)) 2)) (DiffP (cellsL B) w)) := by
    have hz : GSl (w.alloc (.cells (ints (zer M)) 2)) (.slice (some ⟨w.heap.size, 0, none⟩) M M) (zer M) := by
      have := GSl.blkAny (heap_alloc_new w (.cells (ints (zer M)) 2)) (by simp [zer]; omega)
      rw [show (zer M).length = M by simp [zer]] at this
      exact this
    refine (rdiff_any (zer M) B _ _ ⟨by simp [zer]; omega, by omega⟩ _ hz (HV.out.below ((Below.refl _ _).alloc (Nat.le_refl _) _))).mono ?_
    rintro e w' ⟨oa, oc, rfl, h1, h2⟩
    rw [World.size_alloc] at h1 h2
    unfold cellsL
    rw [hM]
    exact ⟨oa, oc, rfl, h1.base (by omega), ((Below.refl _ _).alloc (Nat.le_refl _) _).trans (h2.mono (by omega))⟩
  obtain ⟨P, hP⟩ : ∃ P, DiffP (cellsL B) w = P := ⟨_, rfl⟩
  have HQ : Hid (DiffP (cellsL B) w = P) := hP
  rw [hP] at HD ⊢
  clear hM hP
  go_enter Try.func17, Try.ntmps17
  go_wp2_with fail
  refine HD.out.mono ?_
  intro e w' h
  have HH : Hid (P e w') := h
  rw [← HQ.out] at h
  obtain ⟨oa, oc, rfl, _⟩ := h
  go_wp2
  first | exact HH.out | (go_ret; exact HH.out)

theorem PSl.one (w : World) (a b : Int) (t : Nat) : PSl (w.alloc (Obj.cells #[Value.int .i64 a, Value.int .i64 b] t)) (.slice (some ⟨w.heap.size, 0, none⟩) 1 1) [(a, b)] := by
  refine ⟨some ⟨w.heap.size, 0, none⟩, 1, w.heap.size, 0, rfl, Nat.le_refl _, by unfold maxLen; omega, fun _ => rfl, fun i hi => ?_⟩
  match i, hi with
  | 0, _ => exact ⟨by simp, by simp⟩
set_option maxRecDepth 100000 in
theorem eql_pr (x y : Int) (w : World) : (binOp .eql 47 (.agg #[.int .i64 x, .int .i64 y]) (.agg #[.int .i64 x, .int .i64 y])).run Try.prog w = .ok (.bool true) w := by
  rw [run_eql_struct, run_equalIn_agg w 9999 47 _ _ und47 stood47]
  simp only [Program.fieldsOf, Try.underlying47]
  simp [go_sem]
theorem eqge47 (a b : Int) (x y : Operand) (w : World) : (eqGuard .eql 47 x y (.agg #[.int .i64 a, .int .i64 b]) (.agg #[.int .i64 a, .int .i64 b])).run Try.prog w = .ok () w := by
  simp [eqGuard]
set_option maxRecDepth 100000 in
set_option maxHeartbeats 2000000 in
theorem malive_any (w : World) : Calls Try.prog 12 #[] w fun e w' => e = .returned (.bool true) ∧ Below w.heap.size w w' := by
  have HO : Hid (Calls Try.prog 9 #[.int .i64 3, .slice (some ⟨w.heap.size, 0, none⟩) 1 1] (w.alloc (Obj.cells #[Value.int .i64 1, Value.int .i64 5] 47)) fun e w' => e = .returned (.tuple #[.slice (some ⟨w.heap.size + 1, 0, none⟩) 3 3, .int .i64 0]) ∧ w'.heap[w.heap.size + 1]? = some (.cells (ints [0, 5, 0]) 2) ∧ Below w.heap.size w w') := by
    refine (of_any 3 [(1, 5)] _ _ (by decide) (PSl.one w 1 5 47)).mono ?_
    rintro e w' (⟨h, _⟩ | ⟨_, N, hN, h1, rfl, h2, h3⟩)
    · exact absurd (by decide) h
    · obtain rfl : N = 3 := by omega
      rw [World.size_alloc] at h2 h3 ⊢
      exact ⟨rfl, h2, ((Below.refl _ _).alloc (Nat.le_refl _) _).trans (h3.mono (by omega))⟩
  go_enter Try.func12, Try.ntmps12
  go_wp2_with fail
  refine HO.out.mono ?_
  rintro e w1 ⟨rfl, hm1, hb1⟩
  have HM1 : Hid (w1.heap[w.heap.size + 1]? = some (.cells (ints [0, 5, 0]) 2)) := hm1
  have HB1 : Hid (Below w.heap.size w w1) := hb1
  clear hm1 hb1 HO
  have HD : Hid (Calls Try.prog 18 #[.slice (some ⟨w1.heap.size, 0, none⟩) 3 3, .slice (some ⟨w1.heap.size + 1, 0, none⟩) 2 2] ((w1.alloc (Obj.cells #[Value.int .i64 1, Value.int .i64 2, Value.int .i64 3] 2)).alloc (Obj.cells #[Value.int .i64 1, Value.int .i64 4] 2)) fun e w' => ∃ g oc, e = .returned (.slice (some ⟨g, 0, none⟩) 1 oc) ∧ (w'.cell? ⟨g, 0, none⟩ = some (.int .i64 1) ∧ w'.cell? ⟨g, 1, none⟩ = some (.int .i64 4)) ∧ 1 ≤ oc ∧ oc ≤ maxLen ∧ Below w1.heap.size w1 w') := by
    have g2 := GSl.two (w1.alloc (Obj.cells #[Value.int .i64 1, Value.int .i64 2, Value.int .i64 3] 2)) 1 4 2
    rw [World.size_alloc] at g2
    have g1 := (GSl.three w1 1 2 3 2).below ((Below.refl _ _).alloc (Nat.le_refl _) (Obj.cells #[Value.int .i64 1, Value.int .i64 4] 2))
    refine (diff_any [1, 2, 3] [1, 4] _ _ ⟨by decide, by decide⟩ _ g1 g2).mono ?_
    rintro e w' ⟨oa, oc, rfl, h1, h2⟩
    have e1 : diffL [1, 2, 3] [1, 4] = [(1, 4)] := by decide
    rw [e1] at h1 ⊢
    have hb : Below w1.heap.size w1 w' := (((Below.refl _ _).alloc (Nat.le_refl _) _).alloc (by simp) _).trans (h2.mono (by simp; omega))
    have hc := fun g => World.ownsRow.cells h1 (g := g)
    rcases h1.2 with ⟨h3, _⟩ | ⟨g, cap, cur, h3, _, _, h4, h5, _⟩
    · exact absurd h3 (by simp)
    · injection h3 with h6 _ h7
      subst h6 h7
      have c0 := hc g rfl 0 (.int .i64 1) rfl
      have c1 := hc g rfl 1 (.int .i64 4) rfl
      rw [addn] at c0 c1
      exact ⟨g, oc, rfl, ⟨c0, c1⟩, h4, h5, hb⟩
  go_wp2_with fail
  refine HD.out.mono ?_
  rintro e w2 ⟨g, oc, rfl, ⟨d0, d1⟩, k1, k2, hb2⟩
  have HB2 : Hid (Below w.heap.size w w2) := HB1.out.trans (hb2.mono HB1.out.size)
  have m0 : w2.cell? ⟨w.heap.size + 1, 0, none⟩ = some (.int .i64 0) := by
    have : w2.heap[w.heap.size + 1]? = w1.heap[w.heap.size + 1]? := hb2.block _ (Array.getElem?_eq_some_iff.1 HM1.out).1
    exact (cell_of_row w2 _ 0 _ _ _ (this.trans HM1.out)).trans rfl
  have m1 : w2.cell? ⟨w.heap.size + 1, 1, none⟩ = some (.int .i64 5) := by
    have : w2.heap[w.heap.size + 1]? = w1.heap[w.heap.size + 1]? := hb2.block _ (Array.getElem?_eq_some_iff.1 HM1.out).1
    exact (cell_of_row w2 _ 1 _ _ _ (this.trans HM1.out)).trans rfl
  have heq : ∀ w' : World, (binOp .eql 47 (.agg #[.int .i64 1, .int .i64 4]) (.agg #[.int .i64 1, .int .i64 4])).run Try.prog w' = .ok (.bool true) w' := eql_pr 1 4
  have hge : ∀ (s t : Operand) (w' : World), (eqGuard .eql 47 s t (.agg #[.int .i64 1, .int .i64 4]) (.agg #[.int .i64 1, .int .i64 4])).run Try.prog w' = .ok () w' := eqge47 1 4
  unfold maxLen at k2
  clear hb2 HM1 HD
  go_wp2
  go_ret
  exact ⟨rfl, HB2.out⟩
end Go.Proofs.Ytlcgoobjpnpfhaa
