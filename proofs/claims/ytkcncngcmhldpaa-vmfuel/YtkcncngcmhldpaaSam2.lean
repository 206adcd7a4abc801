/- Two runs that came to the same are found the same: the whole. -/
import Derived.Test.YtkcncngcmhldpaaSame
namespace Go.Proofs.Ytkcncngcmhldpaa
open Go.RowKit Go.Maps
set_option linter.unusedVariables false

set_option maxRecDepth 100000 in
set_option maxHeartbeats 2000000 in
theorem same_true (m1 o1 n1 m2 o2 n2 : Value) (s : St) (E : Ef) (hl : E.mem.length ≤ 4000 ∧ E.outs.length ≤ 4000 ∧ E.intos.length ≤ 4000) (w : World) (h1 : ER w m1 o1 n1 E) (h2 : ER w m2 o2 n2 E) : Calls Try.prog 19 #[.agg (efV m1 o1 n1 s), .agg (efV m2 o2 n2 s), .bool true] w fun e w' => e = .returned (.bool true) ∧ Below w.heap.size w w' := by
  have HR : Hid (∀ W, Below w.heap.size w W → Calls Try.prog 20 #[m1, m2] W fun e w' => e = .returned (.bool true) ∧ Below W.heap.size W w') := fun W hb => row_same E.mem m1 m2 hl.1 W (h1.m.below hb) (h2.m.below hb)
  have HO : Hid (∀ W, Below w.heap.size w W → Calls Try.prog 20 #[o1, o2] W fun e w' => e = .returned (.bool true) ∧ Below W.heap.size W w') := fun W hb => row_same E.outs o1 o2 hl.2.1 W (h1.o.below hb) (h2.o.below hb)
  have HN : Hid (∀ W, Below w.heap.size w W → Calls Try.prog 40 #[n1, n2] W fun e w' => e = .returned (.bool true) ∧ Below W.heap.size W w') := fun W hb => intos_same E.intos n1 n2 hl.2.2 W (h1.n.below hb) (h2.n.below hb)
  obtain ⟨p1, p2, _, _, rfl, hh⟩ := h1.m
  clear hh
  obtain ⟨p3, p4, _, _, rfl, hh⟩ := h1.o
  clear hh
  obtain ⟨p5, p6, _, _, rfl, hh⟩ := h1.n
  clear hh
  obtain ⟨q1, q2, _, _, rfl, hh⟩ := h2.m
  clear hh
  obtain ⟨q3, q4, _, _, rfl, hh⟩ := h2.o
  clear hh
  obtain ⟨q5, q6, _, _, rfl, hh⟩ := h2.n
  clear hh
  unfold efV
  clear h1 h2 hl
  generalize E.mem.length = lm at *
  generalize E.outs.length = lo at *
  generalize E.intos.length = ln at *
  generalize s.over = so at *
  generalize s.value = sv at *
  generalize s.steps = ss at *
  go_enter Try.func19, Try.ntmps19
  go_wp2_with fail
  obtain ⟨W, hW⟩ : ∃ W, (w.alloc (Obj.cells #[Value.slice p1 lm p2, Value.slice p3 lo p4, Value.slice p5 ln p6, Value.int IntKind.i64 so, Value.int IntKind.i64 sv, Value.int IntKind.i64 ss] 54)).alloc (Obj.cells #[Value.slice q1 lm q2, Value.slice q3 lo q4, Value.slice q5 ln q6, Value.int IntKind.i64 so, Value.int IntKind.i64 sv, Value.int IntKind.i64 ss] 54) = W := ⟨_, rfl⟩
  have HBW : Hid (Below w.heap.size w W) := by rw [← hW]; exact ((Below.refl _ _).alloc (Nat.le_refl _) _).alloc (by simp) _
  have HA : W.heap[w.heap.size]? = some (.cells #[Value.slice p1 lm p2, Value.slice p3 lo p4, Value.slice p5 ln p6, Value.int IntKind.i64 so, Value.int IntKind.i64 sv, Value.int IntKind.i64 ss] 54) := by rw [← hW]; exact (Below.heap_alloc _ _ _ (by simp)).trans (heap_alloc_new w _)
  have HB : W.heap[w.heap.size + 1]? = some (.cells #[Value.slice q1 lm q2, Value.slice q3 lo q4, Value.slice q5 ln q6, Value.int IntKind.i64 so, Value.int IntKind.i64 sv, Value.int IntKind.i64 ss] 54) := by
    rw [← hW]
    have := heap_alloc_new (w.alloc (Obj.cells #[Value.slice p1 lm p2, Value.slice p3 lo p4, Value.slice p5 ln p6, Value.int IntKind.i64 so, Value.int IntKind.i64 sv, Value.int IntKind.i64 ss] 54)) (Obj.cells #[Value.slice q1 lm q2, Value.slice q3 lo q4, Value.slice q5 ln q6, Value.int IntKind.i64 so, Value.int IntKind.i64 sv, Value.int IntKind.i64 ss] 54)
    rw [World.size_alloc] at this
    exact this
  have HC : Hid (∀ V, Below W.heap.size W V → Below w.heap.size w V ∧ (∀ j, V.cell? ⟨w.heap.size, j, none⟩ = #[Value.slice p1 lm p2, Value.slice p3 lo p4, Value.slice p5 ln p6, Value.int IntKind.i64 so, Value.int IntKind.i64 sv, Value.int IntKind.i64 ss][j]?) ∧ (∀ j, V.cell? ⟨w.heap.size + 1, j, none⟩ = #[Value.slice q1 lm q2, Value.slice q3 lo q4, Value.slice q5 ln q6, Value.int IntKind.i64 so, Value.int IntKind.i64 sv, Value.int IntKind.i64 ss][j]?)) := fun V hV => ⟨HBW.out.trans (hV.mono HBW.out.size), fun j => cell_of_row V _ j _ _ _ ((hV.block _ (Array.getElem?_eq_some_iff.1 HA).1).trans HA), fun j => cell_of_row V _ j _ _ _ ((hV.block _ (Array.getElem?_eq_some_iff.1 HB).1).trans HB)⟩
  rw [hW]
  clear hW HA HB
  refine (HR.out W HBW.out).mono ?_
  rintro e w3 ⟨rfl, hb3⟩
  have HB3 : Hid (Below W.heap.size W w3) := hb3
  have t1 := (HC.out w3 hb3).2.1 1
  have t2 := (HC.out w3 hb3).2.2 1
  simp only [List.getElem?_toArray, List.getElem?_cons_succ, List.getElem?_cons_zero] at t1 t2
  clear hb3
  go_wp2_with fail
  refine (HO.out w3 (HC.out w3 HB3.out).1).mono ?_
  rintro e w4 ⟨rfl, hb4⟩
  have HB4 : Hid (Below W.heap.size W w4) := HB3.out.trans (hb4.mono HB3.out.size)
  have t3 := (HC.out w4 HB4.out).2.1 2
  have t4 := (HC.out w4 HB4.out).2.2 2
  simp only [List.getElem?_toArray, List.getElem?_cons_succ, List.getElem?_cons_zero] at t3 t4
  clear hb4
  go_wp2_with fail
  refine (HN.out w4 (HC.out w4 HB4.out).1).mono ?_
  rintro e w5 ⟨rfl, hb5⟩
  have HB5 : Hid (Below W.heap.size W w5) := HB4.out.trans (hb5.mono HB4.out.size)
  have s1 := (HC.out w5 HB5.out).2.1 3
  have s2 := (HC.out w5 HB5.out).2.2 3
  have s3 := (HC.out w5 HB5.out).2.1 4
  have s4 := (HC.out w5 HB5.out).2.2 4
  have s5 := (HC.out w5 HB5.out).2.1 5
  have s6 := (HC.out w5 HB5.out).2.2 5
  simp only [List.getElem?_toArray, List.getElem?_cons_succ, List.getElem?_cons_zero] at s1 s2 s3 s4 s5 s6
  clear hb5
  have g1 : (so == so) = true := by simp
  have g2 : (sv == sv) = true := by simp
  have g3 : (ss == ss) = true := by simp
  go_wp2_with fail
  go_ret
  exact ⟨rfl, (HC.out w5 HB5.out).1⟩
theorem er_nil (w : World) : ER w (.slice none 0 0) (.slice none 0 0) (.slice none 0 0) ⟨[], [], []⟩ := ⟨⟨none, 0, 0, 0, rfl, Nat.le_refl _, Nat.zero_le _, fun h => absurd h (by simp), fun i hi => absurd hi (by simp)⟩, ⟨none, 0, 0, 0, rfl, Nat.le_refl _, Nat.zero_le _, fun h => absurd h (by simp), fun i hi => absurd hi (by simp)⟩, ⟨none, 0, 0, 0, rfl, Nat.le_refl _, Nat.zero_le _, fun h => absurd h (by simp), fun i hi => absurd hi (by simp)⟩⟩
theorem same_nil (w : World) : Calls Try.prog 19 #[.agg efZ, .agg efZ, .bool true] w fun e w' => e = .returned (.bool true) ∧ Below w.heap.size w w' := same_true _ _ _ _ _ _ ⟨[], 0, 0, 0, 0⟩ ⟨[], [], []⟩ ⟨Nat.zero_le _, Nat.zero_le _, Nat.zero_le _⟩ w (er_nil w) (er_nil w)
end Go.Proofs.Ytkcncngcmhldpaa
