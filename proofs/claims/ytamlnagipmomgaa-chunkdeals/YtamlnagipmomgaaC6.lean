/- A dealer is made. -/
import Derived.Test.YtamlnagipmomgaaC5
import Derived.Laws.EntriesVeiled
namespace Go.Proofs.Ytamlnagipmomgaa
open Go.RowKit Go.Maps
set_option linter.unusedVariables false

theorem info_parts {P : Program} {t : Nat} {z : Value} {s b : Nat} (h : (P.info? t).map (fun i => (i.zero, i.size, i.bytes)) = some (some z, s, b)) : ∃ i, P.info? t = some i ∧ i.zero = some z ∧ i.size = s ∧ i.bytes = b := by
  obtain ⟨i, h1, h2⟩ := Option.map_eq_some_iff.1 h
  simp only [Prod.mk.injEq] at h2
  exact ⟨i, h1, h2.1, h2.2.1, h2.2.2⟩
theorem info3 : (Try.prog.info? 3).map (fun i => (i.zero, i.size, i.bytes)) = some (some (.int .i64 0), 1, 8) := by kernel_rfl
theorem info4 : (Try.prog.info? 4).map (fun i => (i.zero, i.size, i.bytes)) = some (some (.bool false), 1, 1) := by kernel_rfl
theorem zeros_made (n : Nat) : madeCells (Value.int .i64 0).cells (((n : Int).toNat) * 1) = ints (List.replicate n 0) := by
  simp only [madeCells, Value.cells, ints]
  apply Array.ext
  · simp
  · intro i h1 h2
    simp [Nat.mod_one]
theorem made23 (n : Nat) (hn : n ≤ 100000) : ∀ w, (Instr.makeSlice 42 (.int .i64 (n : Int)) (.int .i64 (n : Int))).run Try.prog w = .ok (.slice (some ⟨w.heap.size, 0, none⟩) n n) (w.alloc (.cells (ints (List.replicate n 0)) 3)) := by
  intro w
  obtain ⟨i, h1, e1, e2, e3⟩ := info_parts info3
  have := run_make (P := Try.prog) w 42 3 i (.int .i64 0) Try.underlying42 h1 e1 .i64 .i64 (n : Int) (n : Int) (by omega) (by omega) (by rw [e3]; omega) (by omega)
  rw [e2, zeros_made] at this
  simpa using this
/-- truths as cells -/
def bls (l : List Bool) : Array Value := (l.map Value.bool).toArray
theorem bls_at (l : List Bool) (i : Nat) (h : i < l.length) : (bls l)[i]? = some (.bool l[i]) := by simp [bls, h]
theorem bls_set (l : List Bool) (i : Nat) (z : Bool) : (bls l).setIfInBounds i (.bool z) = bls (l.set i z) := by simp [bls, List.map_set]
theorem falses_made (n : Nat) : madeCells (Value.bool false).cells (((n : Int).toNat) * 1) = bls (List.replicate n false) := by
  simp only [madeCells, Value.cells, bls]
  apply Array.ext
  · simp
  · intro i h1 h2
    simp [Nat.mod_one]
def errN (p size wk n : Int) : Int := if ¬ (p = 1 ∨ p = 2 ∨ p = 3) then 160 else if size < 1 ∨ 200 < size then 161 else if wk < 1 ∨ 8 < wk then 162 else if n < 0 ∨ 200 < n then 151 else 0
def NewQ (p size wk n : Int) (w : World) (e : Ending) (w' : World) : Prop :=
  Below w.heap.size w w' ∧ (errN p size wk n ≠ 0 → e = .returned (.tuple #[.pointer none, .int .i64 (errN p size wk n)])) ∧ (errN p size wk n = 0 → ∃ db tb, e = .returned (.tuple #[.pointer (some ⟨db, 0, none⟩), .int .i64 0]) ∧ DL w' db tb p size n 0 (List.replicate wk.toNat 0) ∧ w.heap.size ≤ db ∧ w.heap.size ≤ tb)
theorem NewQ.no {p size wk n z : Int} {w w' : World} (h : errN p size wk n = z) (hz : z ≠ 0) (hb : Below w.heap.size w w') : NewQ p size wk n w (.returned (.tuple #[.pointer none, .int .i64 z])) w' := ⟨hb, fun _ => by rw [h], fun q => absurd (h.symm.trans q) hz⟩
set_option maxRecDepth 100000 in
set_option maxHeartbeats 2000000 in
theorem new_way (p size wk n : Int) (hp : p = 1 ∨ p = 2 ∨ p = 3) (w : World) : Calls Try.prog 15 #[.int .i64 p, .int .i64 size, .int .i64 wk, .int .i64 n] w (NewQ p size wk n w) := by
  obtain ⟨P, hP⟩ : ∃ P, NewQ p size wk n w = P := ⟨_, rfl⟩
  have HP : Hid (NewQ p size wk n w = P) := hP
  rw [hP]
  clear hP
  have hmk : ∀ (fn : Fn) (first cap : Array Value) (w : World), (Instr.makeFunc fn first cap).run Try.prog w = .ok (.func fn first cap) w := fun _ _ _ _ => rfl
  have HE : Hid (errN p size wk n = if size < 1 ∨ 200 < size then 161 else if wk < 1 ∨ 8 < wk then 162 else if n < 0 ∨ 200 < n then 151 else 0) := by show _ = _; unfold errN; rw [if_neg (by simp [hp])]
  by_cases q1 : size < 1
  · have HF : Hid (∀ A, P (.returned (.tuple #[.pointer none, .int .i64 161])) (w.alloc A)) := fun A => by rw [← HP.out]; exact NewQ.no (by rw [HE.out, if_pos (.inl q1)]) (by omega) (bl1 _ _)
    rcases hp with rfl | rfl | rfl
    all_goals
      go_enter Try.func15, Try.ntmps15
      go_wp2
      first | exact HF.out _ | (go_ret2; exact HF.out _)
  by_cases q2 : 200 < size
  · have HF : Hid (∀ A, P (.returned (.tuple #[.pointer none, .int .i64 161])) (w.alloc A)) := fun A => by rw [← HP.out]; exact NewQ.no (by rw [HE.out, if_pos (.inr q2)]) (by omega) (bl1 _ _)
    rcases hp with rfl | rfl | rfl
    all_goals
      go_enter Try.func15, Try.ntmps15
      go_wp2
      first | exact HF.out _ | (go_ret2; exact HF.out _)
  by_cases q3 : wk < 1
  · have HF : Hid (∀ A, P (.returned (.tuple #[.pointer none, .int .i64 162])) (w.alloc A)) := fun A => by rw [← HP.out]; exact NewQ.no (by rw [HE.out, if_neg (by omega), if_pos (.inl q3)]) (by omega) (bl1 _ _)
    rcases hp with rfl | rfl | rfl
    all_goals
      go_enter Try.func15, Try.ntmps15
      go_wp2
      first | exact HF.out _ | (go_ret2; exact HF.out _)
  by_cases q4 : 8 < wk
  · have HF : Hid (∀ A, P (.returned (.tuple #[.pointer none, .int .i64 162])) (w.alloc A)) := fun A => by rw [← HP.out]; exact NewQ.no (by rw [HE.out, if_neg (by omega), if_pos (.inr q4)]) (by omega) (bl1 _ _)
    rcases hp with rfl | rfl | rfl
    all_goals
      go_enter Try.func15, Try.ntmps15
      go_wp2
      first | exact HF.out _ | (go_ret2; exact HF.out _)
  by_cases q5 : n < 0
  · have HF : Hid (∀ A, P (.returned (.tuple #[.pointer none, .int .i64 151])) (w.alloc A)) := fun A => by rw [← HP.out]; exact NewQ.no (by rw [HE.out, if_neg (by omega), if_neg (by omega), if_pos (.inl q5)]) (by omega) (bl1 _ _)
    rcases hp with rfl | rfl | rfl
    all_goals
      go_enter Try.func15, Try.ntmps15
      go_wp2
      first | exact HF.out _ | (go_ret2; exact HF.out _)
  by_cases q6 : 200 < n
  · have HF : Hid (∀ A, P (.returned (.tuple #[.pointer none, .int .i64 151])) (w.alloc A)) := fun A => by rw [← HP.out]; exact NewQ.no (by rw [HE.out, if_neg (by omega), if_neg (by omega), if_pos (.inr q6)]) (by omega) (bl1 _ _)
    rcases hp with rfl | rfl | rfl
    all_goals
      go_enter Try.func15, Try.ntmps15
      go_wp2
      first | exact HF.out _ | (go_ret2; exact HF.out _)
  obtain ⟨K, rfl⟩ : ∃ K : Nat, wk = (K : Int) := ⟨wk.toNat, by omega⟩
  have hmd := made23 K (by omega)
  have HE0 : Hid (errN p size (K : Int) n = 0) := by show _ = _; rw [HE.out, if_neg (by omega), if_neg (by omega), if_neg (by omega)]
  have HF : Hid (P (.returned (.tuple #[.pointer (some ⟨w.heap.size, 0, none⟩), .int .i64 0])) ((w.alloc (.cells #[wayF p w.heap.size, .int .i64 size, .int .i64 n, .int .i64 0, .slice (some ⟨w.heap.size + 1, 0, none⟩) K K] 66)).alloc (.cells (ints (List.replicate K 0)) 3))) := by
    show P _ _
    rw [← HP.out]
    refine ⟨(bl1 w _).trans ((bl1 _ _).mono (bl1 w _).size), fun q => absurd HE0.out q, fun _ => ⟨w.heap.size, w.heap.size + 1, rfl, ?_, Nat.le_refl _, by omega⟩⟩
    have e : ((K : Int)).toNat = K := by omega
    rw [e]
    refine ⟨?_, ?_, by omega, hp, ⟨by omega, by omega⟩, ⟨by omega, by omega⟩, ⟨by omega, by omega⟩, by rw [List.length_replicate]; omega, fun t ht => by rw [List.eq_of_mem_replicate ht]; omega⟩
    · rw [heap_alloc_old _ _ (by simp), heap_alloc_new, List.length_replicate]
    · exact heap_alloc2_new _ _ _
  rcases hp with rfl | rfl | rfl
  all_goals
    unfold wayF at HF
    simp only [show ¬ ((2 : Int) = 1) by omega, show ¬ ((3 : Int) = 1) by omega, show ¬ ((3 : Int) = 2) by omega, if_true, if_false] at HF
    go_enter Try.func15, Try.ntmps15
    go_wp2_with fail
    first | exact HF.out | (go_ret2; exact HF.out)
set_option maxRecDepth 100000 in
set_option maxHeartbeats 2000000 in
theorem new_any (p size wk n : Int) (w : World) : Calls Try.prog 15 #[.int .i64 p, .int .i64 size, .int .i64 wk, .int .i64 n] w (NewQ p size wk n w) := by
  by_cases hp : p = 1 ∨ p = 2 ∨ p = 3
  · exact new_way p size wk n hp w
  have HF : Hid (∀ A, NewQ p size wk n w (.returned (.tuple #[.pointer none, .int .i64 160])) (w.alloc A)) := fun A => NewQ.no (by unfold errN; rw [if_pos hp]) (by omega) (bl1 _ _)
  have q1 : ¬ p = 1 := fun q => hp (.inl q)
  have q2 : ¬ p = 2 := fun q => hp (.inr (.inl q))
  have q3 : ¬ p = 3 := fun q => hp (.inr (.inr q))
  clear hp
  generalize NewQ p size wk n w = P at *
  go_enter Try.func15, Try.ntmps15
  go_wp2
  first | exact HF.out _ | (go_ret2; exact HF.out _)

theorem und39s : Try.prog.underlying 53 = some (.struct (Try.prog.fieldsOf 53)) := by kernel_rfl
theorem stood39 : Try.prog.stoodInHeld 53 = false := by kernel_rfl
set_option maxRecDepth 100000 in
theorem eql_sp (a b c d : Int) (w : World) : (binOp .eql 53 (.agg #[.int .i64 a, .int .i64 b]) (.agg #[.int .i64 c, .int .i64 d])).run Try.prog w = .ok (.bool (a == c && b == d)) w := by
  rw [run_eql_struct, run_equalIn_agg w 9999 53 _ _ und39s stood39]
  simp only [Program.fieldsOf, Try.underlying53]
  simp [go_sem]
  by_cases h1 : a = c <;> by_cases h2 : b = d <;> simp [h1, h2]
theorem eqg39 (a b c d : Int) (x y : Operand) (w : World) : (eqGuard .eql 53 x y (.agg #[.int .i64 a, .int .i64 b]) (.agg #[.int .i64 c, .int .i64 d])).run Try.prog w = .ok () w := by
  simp [eqGuard]
set_option maxRecDepth 100000 in
set_option maxHeartbeats 2000000 in
theorem alive_any (w : World) : Calls Try.prog 22 #[] w fun e w' => e = .returned (.bool true) ∧ Below w.heap.size w w' := by
  go_enter Try.func22, Try.ntmps22
  go_wp2_with fail
  refine (new_any 3 1 2 10 _).mono ?_
  rintro e w1 ⟨b1, _, h1⟩
  obtain ⟨db, tb, rfl, D1, l1, l2⟩ := h1 (by decide)
  have B1 : Hid (Below w.heap.size w w1) := b1
  have DD1 : Hid (DL w1 db tb 3 1 10 0 [0, 0]) := D1
  have HL : Hid (w.heap.size ≤ db ∧ w.heap.size ≤ tb) := ⟨l1, l2⟩
  clear b1 h1 D1 l1 l2
  go_wp2_with fail
  refine (next_any 0 _ DD1.out).mono ?_
  rintro e w2 ⟨rfl, D2, C2⟩
  have DD2 : Hid (DL w2 db tb 3 1 10 3 [0, 0]) := D2
  have B2 : Hid (Below w.heap.size w w2) := B1.out.trans (C2.below B1.out.size (fun k hk => by rcases hk with rfl | rfl; exact HL.out.1; exact HL.out.2))
  have ex : askX 3 1 10 0 [0, 0] 0 = (0, 3) := by decide
  rw [ex]
  clear D2 C2 ex
  unfold sp
  have B3 : Hid (∀ A, Below w.heap.size w (w2.alloc A)) := fun A => B2.out.alloc B2.out.size A
  have DD3 : Hid (∀ A, DL (w2.alloc A) db tb 3 1 10 3 [0, 0]) := fun A => DD2.out.alloc A
  go_wp2_with fail
  refine (next_any 1 _ (DD3.out _)).mono ?_
  rintro e w4 ⟨rfl, D4, C4⟩
  have B4 : Hid (Below w.heap.size w w4) := (B3.out _).trans (C4.below (B3.out _).size (fun k hk => by rcases hk with rfl | rfl; exact HL.out.1; exact HL.out.2))
  have S4 : Hid (w4.heap[w2.heap.size]? = some (.cells #[.int .i64 0, .int .i64 3] 53)) := C4.heap (heap_alloc_new _ _) (by unfold dw; have := DD2.out.lt; omega)
  have ex : askX 3 1 10 3 [0, 0] 1 = (3, 5) := by decide
  rw [ex]
  clear D4 C4 ex
  have s0 : ∀ A, (w4.alloc A).cell? ⟨w2.heap.size, 0, none⟩ = some (.int .i64 0) := fun A => by rw [cell_of_row (w4.alloc A) _ 0 _ _ _ ((heap_alloc_old _ _ (Array.getElem?_eq_some_iff.1 S4.out).1).trans S4.out)]; rfl
  have s1 : ∀ A, (w4.alloc A).cell? ⟨w2.heap.size, 1, none⟩ = some (.int .i64 3) := fun A => by rw [cell_of_row (w4.alloc A) _ 1 _ _ _ ((heap_alloc_old _ _ (Array.getElem?_eq_some_iff.1 S4.out).1).trans S4.out)]; rfl
  have B5 : Hid (∀ A, Below w.heap.size w (w4.alloc A)) := fun A => B4.out.alloc B4.out.size A
  unfold sp
  go_wp2
  go_ret
  exact ⟨rfl, B5.out _⟩
end Go.Proofs.Ytamlnagipmomgaa
