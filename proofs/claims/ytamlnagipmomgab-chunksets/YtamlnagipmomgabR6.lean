/- A dealer is set. -/
import Derived.Test.YtamlnagipmomgabR5
import Derived.Laws.CopyRow
namespace Go.Proofs.Ytamlnagipmomgab
open Go.RowKit Go.Maps
set_option linter.unusedVariables false

theorem copy_gsl (w : World) (ty : TypeId) (g N : Nat) (xv : Value) (l0 m : List Int) (hg : w.heap[g]? = some (.cells (ints l0) 3)) (h0 : l0.length = N) (hx : GSl w xv m) (hm : m.length = N) :
    ∃ w', (Builtin.copy_ #[23, 23] ty #[.slice (some ⟨g, 0, none⟩) N N, xv]).run Try.prog w = .ok (.int .i64 (N : Int)) w' ∧ w'.heap[g]? = some (.cells (ints m) 3) ∧ Ch (fun k => k = g) w w' := by
  obtain ⟨a, c, b, o, rfl, h2, h3, h4, h5⟩ := hx
  cases a with
  | some ad =>
    have hn : ∀ j u, (m.map (Value.int .i64))[j]? = some u → w.cell? (ad.add j) = some u := by
      intro j u hj
      have hjl : j < m.length := by
        have := (List.getElem?_eq_some_iff.1 hj).1
        simpa using this
      have := h4 (by omega)
      injection this with this
      subst this
      rw [addn, h5 j hjl]
      simp [hjl] at hj
      rw [hj]
    have := run_copy_row (P := Try.prog) w 23 23 ty 3 g 0 N N ad m.length c (ints l0) 3 (m.map (Value.int .i64)) Try.underlying23 (by kernel_rfl) hg (by rw [List.length_map, hm]; exact (Nat.min_self N).symm) hn (by rw [ints_size]; simp [h0, hm]) (by intro u hu; obtain ⟨z, _, rfl⟩ := List.mem_map.1 hu; rfl)
    rw [List.length_map] at this
    have e : ((ints l0).toList.take 0 ++ m.map (Value.int .i64) ++ (ints l0).toList.drop (0 + m.length)).toArray = ints m := by
      rw [List.drop_of_length_le (by simp [ints, h0, hm])]
      simp [ints]
    rw [e] at this
    refine ⟨_, by rw [this, hm]; rfl, setRow_heap w g _ _ _ _ hg, ⟨rfl, rfl, rfl, by simp [World.setRow], fun k hk hn => setRow_other w g k _ hn⟩⟩
  | none =>
    have hX : m = [] := by
      rcases Nat.eq_zero_or_pos m.length with h | h
      · exact List.length_eq_zero_iff.1 h
      · have := h4 h; cases this
    subst hX
    obtain rfl : N = 0 := hm.symm
    have hl0 : l0 = [] := List.length_eq_zero_iff.1 h0
    subst hl0
    refine ⟨w, ?_, hg, Ch.refl _ _⟩
    obtain ⟨i0, hi, hz0, hz1, hz2⟩ := info_parts info3
    simp [Builtin.copy_, run_underlying Try.underlying23, Builtin.lenOf, Builtin.firstCells, sizeOf, typeInfo, hi, storeCells, goInt]
theorem setB_of {N W : Nat} {nx : Int} {ts : List Int} (h1 : 0 ≤ nx ∧ nx ≤ (N : Int)) (h2 : ts.length = W) (h3 : ∀ t ∈ ts, 0 ≤ t ∧ t ≤ (N : Int)) : setB N W nx ts = true := decide_eq_true ⟨h1, h2, h3⟩
theorem setB_no {N W : Nat} {nx : Int} {ts : List Int} (h : ¬ ((0 ≤ nx ∧ nx ≤ (N : Int)) ∧ ts.length = W ∧ ∀ t ∈ ts, 0 ≤ t ∧ t ≤ (N : Int))) : setB N W nx ts = false := decide_eq_false h
def SetQ (db tb : Nat) (p : Int) (S N : Nat) (next : Int) (turns : List Int) (nx : Int) (ts : List Int) (w : World) (e : Ending) (w' : World) : Prop :=
  e = .returned (.bool (setB N turns.length nx ts)) ∧ DL w' db tb p (S : Int) (N : Int) (if setB N turns.length nx ts then nx else next) (if setB N turns.length nx ts then ts else turns) ∧ Ch (dw db tb) w w'
set_option maxRecDepth 100000 in
set_option maxHeartbeats 4000000 in
theorem set_any {db tb : Nat} {p : Int} {S N : Nat} {next : Int} {turns : List Int} (B : Nat) (nx : Int) (ts : List Int) (tsv : Value) (w : World) (h : DL w db tb p (S : Int) (N : Int) next turns) (hB : B ≤ db ∧ B ≤ tb) (hv : ∀ V, Below B w V → GSl V tsv ts) (hl : ts.length ≤ 100) : Calls Try.prog 9 #[.pointer (some ⟨db, 0, none⟩), .int .i64 nx, tsv] w (SetQ db tb p S N next turns nx ts w) := by
  have HW : Hid (∀ z, Calls Try.prog 17 #[.pointer (some ⟨db, 0, none⟩), .int .i64 z] w fun e w' => e = .returned (.bool (decide (0 ≤ z ∧ z ≤ (N : Int)))) ∧ w' = w) := fun z => within_any z w h
  have hv0 := hv w (Below.refl _ _)
  have c4 := h.c4
  have c3 := h.c3
  have f3 := h.f 3
  have hN := h.hm
  obtain ⟨W, hW⟩ : ∃ W, turns.length = W := ⟨_, rfl⟩
  rw [hW] at c4
  have HNO : Hid (setB N W nx ts = false → SetQ db tb p S N next turns nx ts w (.returned (.bool false)) w) := by
    intro q
    unfold SetQ
    rw [hW, q]
    exact ⟨rfl, h, Ch.refl _ _⟩
  have HYES : (0 ≤ nx ∧ nx ≤ (N : Int)) → ts.length = W → (∀ t ∈ ts, 0 ≤ t ∧ t ≤ (N : Int)) → ∃ w', (Builtin.copy_ #[23, 23] 3 #[.slice (some ⟨tb, 0, none⟩) W W, tsv]).run Try.prog (w.setCell ⟨db, 3, none⟩ (.int .i64 nx)) = .ok (.int .i64 (W : Int)) w' ∧ SetQ db tb p S N next turns nx ts w (.returned (.bool true)) w' := by
    intro h1 h2 h3
    have D1 := h.setN nx h1
    have hv1 := hv _ ((Below.refl B w).setCell (p := ⟨db, 3, none⟩) hB.1 (.int .i64 nx))
    obtain ⟨w', e1, e2, e3⟩ := copy_gsl (w.setCell ⟨db, 3, none⟩ (.int .i64 nx)) 3 tb W tsv turns ts D1.bT hW hv1 h2
    refine ⟨w', e1, ?_⟩
    unfold SetQ
    rw [hW, setB_of h1 h2 h3]
    have hbl : w'.heap[db]? = (w.setCell ⟨db, 3, none⟩ (.int .i64 nx)).heap[db]? := e3.block db D1.lt.1 (fun q => h.ne q)
    refine ⟨rfl, ⟨?_, e2, h.ne, h.hp, h.hs, h.hm, h1, ?_, fun t ht => ?_⟩, ?_⟩
    · rw [hbl, D1.bl, hW]
      simp only [if_true, h2]
    · simp only [if_true]; rw [h2, ← hW]; exact h.hl
    · have := h3 t (by simpa using ht); omega
    · exact ((Ch.refl (dw db tb) w).set (.inl (.inl rfl)) _ _).trans (e3.mono fun k hk => .inr hk)
  generalize SetQ db tb p S N next turns nx ts w = P at *
  obtain ⟨va, vc, vb, vo, rfl, h2, h3, h4, h5⟩ := hv0
  obtain ⟨L, hL⟩ : ∃ L, ts.length = L := ⟨_, rfl⟩
  have HL : Hid (ts.length = L) := hL
  have H4 : Hid (0 < ts.length → va = some ⟨vb, vo, none⟩) := h4
  have H5 : Hid (∀ i (h : i < ts.length), w.cell? ⟨vb, vo + i, none⟩ = some (.int .i64 ts[i])) := h5
  rw [hL] at h2 hl HYES ⊢
  unfold maxLen at h3
  clear h hv h4 h5 hL hW
  by_cases q1 : 0 ≤ nx ∧ nx ≤ (N : Int)
  · have e1 : decide (0 ≤ nx ∧ nx ≤ (N : Int)) = true := decide_eq_true q1
    by_cases q2 : L = W
    · subst q2
      have HY : Hid ((∀ t ∈ ts, 0 ≤ t ∧ t ≤ (N : Int)) → ∃ w', (Builtin.copy_ #[23, 23] 3 #[.slice (some ⟨tb, 0, none⟩) L L, .slice va L vc]).run Try.prog (w.setCell ⟨db, 3, none⟩ (.int .i64 nx)) = .ok (.int .i64 (L : Int)) w' ∧ P (.returned (.bool true)) w') := HYES q1 rfl
      have HQ1 : Hid (0 ≤ nx ∧ nx ≤ (N : Int)) := q1
      have HW1 : Hid (Calls Try.prog 17 #[.pointer (some ⟨db, 0, none⟩), .int .i64 nx] w fun e w' => e = .returned (.bool true) ∧ w' = w) := by have := HW.out nx; rw [e1] at this; exact this
      clear HYES q1 e1
      go_enter Try.func9, Try.ntmps9
      go_wp2_with fail
      refine HW1.out.mono ?_
      rintro e w4 ⟨rfl, hw4⟩
      rw [hw4]
      clear hw4 w4
      go_wp2_with fail
      go_loopw [25, 8] (fun i t wr => ∃ q : Nat, i = .int .i64 (q : Int) ∧ q ≤ L ∧ wr = w ∧ Hid (∀ j, (h : j < ts.length) → j < q → 0 ≤ ts[j] ∧ ts[j] ≤ (N : Int))) (fun i t _ => L - (intOf i).toNat)
      case atStart => exact ⟨0, rfl, Nat.zero_le _, rfl, fun j _ hj => absurd hj (by omega)⟩
      case round =>
        obtain ⟨q, rfl, hq, hwr, HJ⟩ := hrel
        rw [hwr]
        clear hwr
        by_cases hlt : q < L
        · have e2 : decide (q < L) = true := by simp; omega
          have hqt : q < ts.length := by rw [HL.out]; exact hlt
          obtain rfl := H4.out (by omega)
          have cq := H5.out q hqt
          obtain ⟨t, ht⟩ : ∃ t, ts[q] = t := ⟨_, rfl⟩
          have HT : Hid (ts[q] = t) := ht
          rw [ht] at cq
          clear ht
          by_cases hwt : 0 ≤ t ∧ t ≤ (N : Int)
          · have HW2 : Hid (Calls Try.prog 17 #[.pointer (some ⟨db, 0, none⟩), .int .i64 t] w fun e w' => e = .returned (.bool true) ∧ w' = w) := by have := HW.out t; rw [decide_eq_true hwt] at this; exact this
            have HWT : Hid (0 ≤ t ∧ t ≤ (N : Int)) := hwt
            clear hwt
            go_wp2_with fail
            refine HW2.out.mono ?_
            rintro e w4 ⟨rfl, hw4⟩
            rw [hw4]
            clear hw4 w4
            go_wp2_with fail
            go_roundw
            case rel =>
              refine ⟨q + 1, by go_num, by omega, trivial, fun j h hj => ?_⟩
              rcases Nat.lt_or_ge j q with h1 | h1
              · exact HJ.out j h h1
              · have : j = q := by omega
                subst this
                rw [HT.out]; exact HWT.out
            case measure => simp [intOf]; omega
          · have HW2 : Hid (Calls Try.prog 17 #[.pointer (some ⟨db, 0, none⟩), .int .i64 t] w fun e w' => e = .returned (.bool false) ∧ w' = w) := by have := HW.out t; rw [decide_eq_false hwt] at this; exact this
            have HF : Hid (P (.returned (.bool false)) w) := HNO.out (setB_no fun h => hwt (by rw [← HT.out]; exact h.2.2 _ (List.getElem_mem _)))
            clear hwt
            go_wp2_with fail
            refine HW2.out.mono ?_
            rintro e w4 ⟨rfl, hw4⟩
            rw [hw4]
            clear hw4 w4
            go_wp2
            first | exact HF.out | (go_ret; exact HF.out)
        · have e2 : decide (q < L) = false := by simp; omega
          obtain ⟨w7, hcp, HF0⟩ := HY.out (fun t ht => by
            obtain ⟨j, hj, e⟩ := List.mem_iff_getElem.1 ht
            rw [← e]
            have := HL.out
            exact HJ.out j hj (by omega))
          have HF : Hid (P (.returned (.bool true)) w7) := HF0
          clear HF0
          go_wp2_with fail
          first | exact HF.out | (go_ret; exact HF.out)
    · have HF : Hid (P (.returned (.bool false)) w) := HNO.out (setB_no fun h => q2 (by rw [← HL.out]; exact h.2.1))
      have HW1 : Hid (Calls Try.prog 17 #[.pointer (some ⟨db, 0, none⟩), .int .i64 nx] w fun e w' => e = .returned (.bool true) ∧ w' = w) := by have := HW.out nx; rw [e1] at this; exact this
      have f1 : ((L : Int) != (W : Int)) = true := by simp; omega
      clear HYES q1 e1
      go_enter Try.func9, Try.ntmps9
      go_wp2_with fail
      refine HW1.out.mono ?_
      rintro e w4 ⟨rfl, hw4⟩
      rw [hw4]
      clear hw4 w4
      go_wp2
      first | exact HF.out | (go_ret; exact HF.out)
  · have HF : Hid (P (.returned (.bool false)) w) := HNO.out (setB_no fun h => q1 h.1)
    have HW1 : Hid (Calls Try.prog 17 #[.pointer (some ⟨db, 0, none⟩), .int .i64 nx] w fun e w' => e = .returned (.bool false) ∧ w' = w) := by have := HW.out nx; rw [decide_eq_false q1] at this; exact this
    clear HYES q1
    go_enter Try.func9, Try.ntmps9
    go_wp2_with fail
    refine HW1.out.mono ?_
    rintro e w4 ⟨rfl, hw4⟩
    rw [hw4]
    clear hw4 w4
    go_wp2
    first | exact HF.out | (go_ret; exact HF.out)
end Go.Proofs.Ytamlnagipmomgab
