/- Two runs that came to the same are found the same: the whole. -/
import Derived.Test.YtkcncngcmhldpaaRunX
import Derived.Test.YtkcncngcmhldpaaEq
namespace Go.Proofs.Ytkcncngcmhldpaa
open Go.RowKit Go.Maps
set_option linter.unusedVariables false

set_option maxRecDepth 100000 in
set_option maxHeartbeats 2000000 in
theorem row_same (G : List Int) (u v : Value) (hl : G.length ≤ 4000) (w : World) (hu : GSl w u G) (hv : GSl w v G) : Calls Try.prog 20 #[u, v] w fun e w' => e = .returned (.bool true) ∧ Below w.heap.size w w' := by
  obtain ⟨a1, c1, b1, o1, rfl, h2, h3, h4, h5⟩ := hu
  obtain ⟨a2, c2, b2, o2, rfl, k2, k3, k4, k5⟩ := hv
  obtain ⟨N, hN⟩ : ∃ N, G.length = N := ⟨_, rfl⟩
  have HN : Hid (G.length = N) := hN
  have H5 : Hid (∀ i (h : i < G.length), w.cell? ⟨b1, o1 + i, none⟩ = some (.int .i64 G[i])) := h5
  have K5 : Hid (∀ i (h : i < G.length), w.cell? ⟨b2, o2 + i, none⟩ = some (.int .i64 G[i])) := k5
  rw [hN] at h2 h4 k2 k4 hl ⊢
  have H4 : Hid (0 < N → a1 = some ⟨b1, o1, none⟩) := h4
  have K4 : Hid (0 < N → a2 = some ⟨b2, o2, none⟩) := k4
  unfold maxLen at h3 k3
  clear hN h5 k5 h4 k4
  go_enter Try.func20, Try.ntmps20
  go_wp2_with fail
  go_loopw [5] (fun i wr => ∃ q : Nat, i = .int .i64 (q : Int) ∧ q ≤ N ∧ Below w.heap.size w wr) (fun i _ => N - (intOf i).toNat)
  case atStart => exact ⟨0, rfl, Nat.zero_le _, Below.refl _ _⟩
  case round =>
    obtain ⟨q, rfl, hq, hb⟩ := hrel
    have HB : Hid (Below w.heap.size w wr) := hb
    by_cases hlt : q < N
    · obtain rfl := H4.out (by omega)
      obtain rfl := K4.out (by omega)
      obtain ⟨z, hz⟩ : ∃ z, G[q]'(by rw [HN.out]; exact hlt) = z := ⟨_, rfl⟩
      have d1 : wr.cell? ⟨b1, o1 + q, none⟩ = some (.int .i64 z) := by
        have := H5.out q (by rw [HN.out]; exact hlt)
        rw [hz] at this
        exact (hb.cell (p := ⟨b1, o1 + q, none⟩) (World.block_lt_of_cell? w _ this)).trans this
      have d2 : wr.cell? ⟨b2, o2 + q, none⟩ = some (.int .i64 z) := by
        have := K5.out q (by rw [HN.out]; exact hlt)
        rw [hz] at this
        exact (hb.cell (p := ⟨b2, o2 + q, none⟩) (World.block_lt_of_cell? w _ this)).trans this
      have e1 : decide ((q : Int) < (N : Int)) = true := by simp; omega
      clear hz hb
      have hzz : (z != z) = false := by simp
      go_wp2_with fail
      go_region_held3 (fun w' => w'.cell? ⟨b1, o1 + q, none⟩ = some (.int .i64 z) ∧ w'.cell? ⟨b2, o2 + q, none⟩ = some (.int .i64 z)) (go_keep) (fail)
      go_wp2_with fail
      go_roundw
      case rel => exact ⟨q + 1, by go_num, by omega, HB.out.drew⟩
      case measure => simp [intOf]; omega
    · have e1 : decide ((q : Int) < (N : Int)) = false := by simp; omega
      clear hb
      go_wp2
      go_ret
      exact ⟨rfl, HB.out⟩

/-- a load of a pair that no step looks into -/
def ld97 (x : Value) : Sem Value := Instr.loadAt 97 x
@[local go_sem ↓] theorem ld97_hold (x : Value) : Instr.loadAt 97 x = ld97 x := rfl
def prV (x y : Int) : Value := .agg #[.int .i64 x, .int .i64 y]
theorem stood97 : Try.prog.stoodInHeld 97 = false := by kernel_rfl
theorem und97 : Try.prog.underlying 97 = some (.struct (Try.prog.fieldsOf 97)) := by kernel_rfl
theorem size97 : (Try.prog.info? 97).map (·.size) = some 2 := by kernel_rfl
set_option maxRecDepth 100000 in
theorem neq_pr (x y : Int) (w : World) : (binOp .neq 97 (prV x y) (prV x y)).run Try.prog w = .ok (.bool false) w := by
  unfold prV
  rw [run_neq_struct, run_equalIn_agg w 9999 97 _ _ und97 stood97]
  simp only [Program.fieldsOf, Try.underlying97]
  simp [go_sem]
theorem eqg97 (a b : Int) (x y : Operand) (w : World) : (eqGuard .neq 97 x y (prV a b) (prV a b)).run Try.prog w = .ok () w := by
  unfold prV
  simp [eqGuard]
theorem load97 {W : World} {b o : Nat} {x y : Int} (h : W.cell? ⟨b, o, none⟩ = some (.int .i64 x) ∧ W.cell? ⟨b, o + 1, none⟩ = some (.int .i64 y)) : (ld97 (.pointer (some ⟨b, o, none⟩))).run Try.prog W = .ok (prV x y) W := by
  unfold ld97 prV
  refine run_loadAt_mid W b o 97 [.int .i64 x, .int .i64 y] _ (fun j u hu => ?_) Try.underlying97 rfl size97
  match j, hu with
  | 0, hu => simp at hu; subst hu; exact h.1
  | 1, hu => simp at hu; subst hu; exact h.2

set_option maxRecDepth 100000 in
set_option maxHeartbeats 2000000 in
theorem intos_same (G : List (Int × Int)) (u v : Value) (hl : G.length ≤ 4000) (w : World) (hu : PSl w u G) (hv : PSl w v G) : Calls Try.prog 40 #[u, v] w fun e w' => e = .returned (.bool true) ∧ Below w.heap.size w w' := by
  obtain ⟨a1, c1, b1, o1, rfl, h2, h3, h4, h5⟩ := hu
  obtain ⟨a2, c2, b2, o2, rfl, k2, k3, k4, k5⟩ := hv
  obtain ⟨N, hN⟩ : ∃ N, G.length = N := ⟨_, rfl⟩
  have HN : Hid (G.length = N) := hN
  have H5 : Hid (∀ i (h : i < G.length), w.cell? ⟨b1, o1 + i * 2, none⟩ = some (.int .i64 G[i].1) ∧ w.cell? ⟨b1, o1 + (i * 2 + 1), none⟩ = some (.int .i64 G[i].2)) := h5
  have K5 : Hid (∀ i (h : i < G.length), w.cell? ⟨b2, o2 + i * 2, none⟩ = some (.int .i64 G[i].1) ∧ w.cell? ⟨b2, o2 + (i * 2 + 1), none⟩ = some (.int .i64 G[i].2)) := k5
  rw [hN] at h2 h4 k2 k4 hl ⊢
  have H4 : Hid (0 < N → a1 = some ⟨b1, o1, none⟩) := h4
  have K4 : Hid (0 < N → a2 = some ⟨b2, o2, none⟩) := k4
  unfold maxLen at h3 k3
  clear hN h5 k5 h4 k4
  go_enter Try.func40, Try.ntmps40
  go_wp2_with fail
  go_loopw [5] (fun i wr => ∃ q : Nat, i = .int .i64 (q : Int) ∧ q ≤ N ∧ Below w.heap.size w wr) (fun i _ => N - (intOf i).toNat)
  case atStart => exact ⟨0, rfl, Nat.zero_le _, Below.refl _ _⟩
  case round =>
    obtain ⟨q, rfl, hq, hb⟩ := hrel
    have HB : Hid (Below w.heap.size w wr) := hb
    by_cases hlt : q < N
    · obtain rfl := H4.out (by omega)
      obtain rfl := K4.out (by omega)
      obtain ⟨z, hz⟩ : ∃ z, G[q]'(by rw [HN.out]; exact hlt) = z := ⟨_, rfl⟩
      obtain ⟨x, y⟩ := z
      have d1 : wr.cell? ⟨b1, o1 + q * 2, none⟩ = some (.int .i64 x) ∧ wr.cell? ⟨b1, o1 + (q * 2 + 1), none⟩ = some (.int .i64 y) := by
        have := H5.out q (by rw [HN.out]; exact hlt)
        rw [hz] at this
        exact ⟨(hb.cell (p := ⟨b1, o1 + q * 2, none⟩) (World.block_lt_of_cell? w _ this.1)).trans this.1, (hb.cell (p := ⟨b1, o1 + (q * 2 + 1), none⟩) (World.block_lt_of_cell? w _ this.2)).trans this.2⟩
      have d2 : wr.cell? ⟨b2, o2 + q * 2, none⟩ = some (.int .i64 x) ∧ wr.cell? ⟨b2, o2 + (q * 2 + 1), none⟩ = some (.int .i64 y) := by
        have := K5.out q (by rw [HN.out]; exact hlt)
        rw [hz] at this
        exact ⟨(hb.cell (p := ⟨b2, o2 + q * 2, none⟩) (World.block_lt_of_cell? w _ this.1)).trans this.1, (hb.cell (p := ⟨b2, o2 + (q * 2 + 1), none⟩) (World.block_lt_of_cell? w _ this.2)).trans this.2⟩
      have e1 : decide ((q : Int) < (N : Int)) = true := by simp; omega
      have HL1 : ∀ w' : World, w'.cell? ⟨b1, o1 + q * 2, none⟩ = some (.int .i64 x) ∧ w'.cell? ⟨b1, o1 + (q * 2 + 1), none⟩ = some (.int .i64 y) → (ld97 (.pointer (some ⟨b1, o1 + q * 2, none⟩))).run Try.prog w' = .ok (prV x y) w' := fun w' h => load97 h
      have HL2 : ∀ w' : World, w'.cell? ⟨b2, o2 + q * 2, none⟩ = some (.int .i64 x) ∧ w'.cell? ⟨b2, o2 + (q * 2 + 1), none⟩ = some (.int .i64 y) → (ld97 (.pointer (some ⟨b2, o2 + q * 2, none⟩))).run Try.prog w' = .ok (prV x y) w' := fun w' h => load97 h
      have hneq : ∀ w' : World, (binOp .neq 97 (prV x y) (prV x y)).run Try.prog w' = .ok (.bool false) w' := neq_pr x y
      have hgd : ∀ (s t : Operand) (w' : World), (eqGuard .neq 97 s t (prV x y) (prV x y)).run Try.prog w' = .ok () w' := eqg97 x y
      clear hz hb
      go_wp2_with fail
      go_region_held3 (fun w' => (w'.cell? ⟨b1, o1 + q * 2, none⟩ = some (.int .i64 x) ∧ w'.cell? ⟨b1, o1 + (q * 2 + 1), none⟩ = some (.int .i64 y)) ∧ (w'.cell? ⟨b2, o2 + q * 2, none⟩ = some (.int .i64 x) ∧ w'.cell? ⟨b2, o2 + (q * 2 + 1), none⟩ = some (.int .i64 y))) (first | assumption | (exact ⟨d1, d2⟩) | go_keep) (fail)
      go_wp2_with fail
      go_roundw
      case rel => exact ⟨q + 1, by go_num, by omega, HB.out.drew⟩
      case measure => simp [intOf]; omega
    · have e1 : decide ((q : Int) < (N : Int)) = false := by simp; omega
      clear hb
      go_wp2
      go_ret
      exact ⟨rfl, HB.out⟩
end Go.Proofs.Ytkcncngcmhldpaa
namespace Go.Proofs.Ytkcncngcmhldpaa
open Go.RowKit Go.Maps
set_option linter.unusedVariables false

set_option maxRecDepth 100000 in
set_option maxHeartbeats 2000000 in
theorem same_true (m1 o1 n1 m2 o2 n2 : Value) (s : St) (E : Ef) (hl : E.mem.length ≤ 4000 ∧ E.outs.length ≤ 4000 ∧ E.intos.length ≤ 4000) (w : World) (h1 : ER w m1 o1 n1 E) (h2 : ER w m2 o2 n2 E) : Calls Try.prog 19 #[.agg (efV m1 o1 n1 s), .agg (efV m2 o2 n2 s), .bool true] w fun e w' => e = .returned (.bool true) ∧ Below w.heap.size w w' := by
  have HR : Hid (∀ W, Below w.heap.size w W → Calls Try.prog 20 #[m1, m2] W fun e w' => e = .returned (.bool true) ∧ Below W.heap.size W w') := fun W hb => row_same E.mem m1 m2 hl.1 W (h1.m.below hb) (h2.m.below hb)
  have HO : Hid (∀ W, Below w.heap.size w W → Calls Try.prog 20 #[o1, o2] W fun e w' => e = .returned (.bool true) ∧ Below W.heap.size W w') := fun W hb => row_same E.outs o1 o2 hl.2.1 W (h1.o.below hb) (h2.o.below hb)
  have HN : Hid (∀ W, Below w.heap.size w W → Calls Try.prog 40 #[n1, n2] W fun e w' => e = .returned (.bool true) ∧ Below W.heap.size W w') := fun W hb => intos_same E.intos n1 n2 hl.2.2 W (h1.n.below hb) (h2.n.below hb)
  obtain ⟨p1, p2, _, _, rfl, hh⟩ := h1.m
  clear hh
  obtain ⟨p3, p4, _, _, rfl, hh⟩ := h1.o
  clear hh
  obtain ⟨p5, p6, _, _, rfl, hh⟩ := h1.n
  clear hh
  obtain ⟨q1, q2, _, _, rfl, hh⟩ := h2.m
  clear hh
  obtain ⟨q3, q4, _, _, rfl, hh⟩ := h2.o
  clear hh
  obtain ⟨q5, q6, _, _, rfl, hh⟩ := h2.n
  clear hh
  unfold efV
  clear h1 h2 hl
  generalize E.mem.length = lm at *
  generalize E.outs.length = lo at *
  generalize E.intos.length = ln at *
  generalize s.over = so at *
  generalize s.value = sv at *
  generalize s.steps = ss at *
  go_enter Try.func19, Try.ntmps19
  go_wp2_with fail
  obtain ⟨W, hW⟩ : ∃ W, (w.alloc (Obj.cells #[Value.slice p1 lm p2, Value.slice p3 lo p4, Value.slice p5 ln p6, Value.int IntKind.i64 so, Value.int IntKind.i64 sv, Value.int IntKind.i64 ss] 54)).alloc (Obj.cells #[Value.slice q1 lm q2, Value.slice q3 lo q4, Value.slice q5 ln q6, Value.int IntKind.i64 so, Value.int IntKind.i64 sv, Value.int IntKind.i64 ss] 54) = W := ⟨_, rfl⟩
  have HBW : Hid (Below w.heap.size w W) := by rw [← hW]; exact ((Below.refl _ _).alloc (Nat.le_refl _) _).alloc (by simp) _
  have HA : W.heap[w.heap.size]? = some (.cells #[Value.slice p1 lm p2, Value.slice p3 lo p4, Value.slice p5 ln p6, Value.int IntKind.i64 so, Value.int IntKind.i64 sv, Value.int IntKind.i64 ss] 54) := by rw [← hW]; exact (Below.heap_alloc _ _ _ (by simp)).trans (heap_alloc_new w _)
  have HB : W.heap[w.heap.size + 1]? = some (.cells #[Value.slice q1 lm q2, Value.slice q3 lo q4, Value.slice q5 ln q6, Value.int IntKind.i64 so, Value.int IntKind.i64 sv, Value.int IntKind.i64 ss] 54) := by
    rw [← hW]
    have := heap_alloc_new (w.alloc (Obj.cells #[Value.slice p1 lm p2, Value.slice p3 lo p4, Value.slice p5 ln p6, Value.int IntKind.i64 so, Value.int IntKind.i64 sv, Value.int IntKind.i64 ss] 54)) (Obj.cells #[Value.slice q1 lm q2, Value.slice q3 lo q4, Value.slice q5 ln q6, Value.int IntKind.i64 so, Value.int IntKind.i64 sv, Value.int IntKind.i64 ss] 54)
    rw [World.size_alloc] at this
    exact this
  have HC : Hid (∀ V, Below W.heap.size W V → Below w.heap.size w V ∧ (∀ j, V.cell? ⟨w.heap.size, j, none⟩ = #[Value.slice p1 lm p2, Value.slice p3 lo p4, Value.slice p5 ln p6, Value.int IntKind.i64 so, Value.int IntKind.i64 sv, Value.int IntKind.i64 ss][j]?) ∧ (∀ j, V.cell? ⟨w.heap.size + 1, j, none⟩ = #[Value.slice q1 lm q2, Value.slice q3 lo q4, Value.slice q5 ln q6, Value.int IntKind.i64 so, Value.int IntKind.i64 sv, Value.int IntKind.i64 ss][j]?)) := fun V hV => ⟨HBW.out.trans (hV.mono HBW.out.size), fun j => cell_of_row V _ j _ _ _ ((hV.block _ (Array.getElem?_eq_some_iff.1 HA).1).trans HA), fun j => cell_of_row V _ j _ _ _ ((hV.block _ (Array.getElem?_eq_some_iff.1 HB).1).trans HB)⟩
  rw [hW]
  clear hW HA HB
  refine (HR.out W HBW.out).mono ?_
  rintro e w3 ⟨rfl, hb3⟩
  have HB3 : Hid (Below W.heap.size W w3) := hb3
  have t1 := (HC.out w3 hb3).2.1 1
  have t2 := (HC.out w3 hb3).2.2 1
  simp only [List.getElem?_toArray, List.getElem?_cons_succ, List.getElem?_cons_zero] at t1 t2
  clear hb3
  go_wp2_with fail
  refine (HO.out w3 (HC.out w3 HB3.out).1).mono ?_
  rintro e w4 ⟨rfl, hb4⟩
  have HB4 : Hid (Below W.heap.size W w4) := HB3.out.trans (hb4.mono HB3.out.size)
  have t3 := (HC.out w4 HB4.out).2.1 2
  have t4 := (HC.out w4 HB4.out).2.2 2
  simp only [List.getElem?_toArray, List.getElem?_cons_succ, List.getElem?_cons_zero] at t3 t4
  clear hb4
  go_wp2_with fail
  refine (HN.out w4 (HC.out w4 HB4.out).1).mono ?_
  rintro e w5 ⟨rfl, hb5⟩
  have HB5 : Hid (Below W.heap.size W w5) := HB4.out.trans (hb5.mono HB4.out.size)
  have s1 := (HC.out w5 HB5.out).2.1 3
  have s2 := (HC.out w5 HB5.out).2.2 3
  have s3 := (HC.out w5 HB5.out).2.1 4
  have s4 := (HC.out w5 HB5.out).2.2 4
  have s5 := (HC.out w5 HB5.out).2.1 5
  have s6 := (HC.out w5 HB5.out).2.2 5
  simp only [List.getElem?_toArray, List.getElem?_cons_succ, List.getElem?_cons_zero] at s1 s2 s3 s4 s5 s6
  clear hb5
  have g1 : (so == so) = true := by simp
  have g2 : (sv == sv) = true := by simp
  have g3 : (ss == ss) = true := by simp
  go_wp2_with fail
  go_ret
  exact ⟨rfl, (HC.out w5 HB5.out).1⟩
theorem er_nil (w : World) : ER w (.slice none 0 0) (.slice none 0 0) (.slice none 0 0) ⟨[], [], []⟩ := ⟨⟨none, 0, 0, 0, rfl, Nat.le_refl _, Nat.zero_le _, fun h => absurd h (by simp), fun i hi => absurd hi (by simp)⟩, ⟨none, 0, 0, 0, rfl, Nat.le_refl _, Nat.zero_le _, fun h => absurd h (by simp), fun i hi => absurd hi (by simp)⟩, ⟨none, 0, 0, 0, rfl, Nat.le_refl _, Nat.zero_le _, fun h => absurd h (by simp), fun i hi => absurd hi (by simp)⟩⟩
theorem same_nil (w : World) : Calls Try.prog 19 #[.agg efZ, .agg efZ, .bool true] w fun e w' => e = .returned (.bool true) ∧ Below w.heap.size w w' := same_true _ _ _ _ _ _ ⟨[], 0, 0, 0, 0⟩ ⟨[], [], []⟩ ⟨Nat.zero_le _, Nat.zero_le _, Nat.zero_le _⟩ w (er_nil w) (er_nil w)
end Go.Proofs.Ytkcncngcmhldpaa
