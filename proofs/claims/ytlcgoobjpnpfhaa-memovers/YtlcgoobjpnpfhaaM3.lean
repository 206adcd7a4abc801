/- Rows of cells of the call's own; whether two rows of cells are the same. -/
import Derived.Test.YtlcgoobjpnpfhaaM2
import Derived.Deep.MidRow
import Derived.Laws.StructEq
namespace Go.Proofs.Ytlcgoobjpnpfhaa
open Go.RowKit Go.Maps
set_option linter.unusedVariables false

/-- cells of pairs -/
def pcs (l : List (Int × Int)) : List Value := l.flatMap fun z => [.int .i64 z.1, .int .i64 z.2]
theorem pcs_len (l : List (Int × Int)) : (pcs l).length = l.length * 2 := by
  induction l with
  | nil => rfl
  | cons z l ih => simp only [pcs, List.flatMap_cons, List.length_append, List.length_cons, List.length_nil] at *; omega
theorem pcs_app (l m : List (Int × Int)) : pcs (l ++ m) = pcs l ++ pcs m := by simp [pcs]
theorem pcs_at : ∀ (l : List (Int × Int)) (i : Nat) (h : i < l.length), (pcs l)[i * 2]? = some (.int .i64 l[i].1) ∧ (pcs l)[i * 2 + 1]? = some (.int .i64 l[i].2)
  | z :: l, 0, h => ⟨rfl, rfl⟩
  | z :: l, i + 1, h => by
    have := pcs_at l i (by simpa using h)
    have e1 : (i + 1) * 2 = i * 2 + 2 := by omega
    rw [e1]
    exact this
theorem info47 : (Try.prog.info? 47).map (fun i => (i.zero, i.size, i.bytes)) = some (some (.agg #[.int .i64 0, .int .i64 0]), 2, 16) := by kernel_rfl

def PZ (w : World) (base : Nat) (v : Value) (l : List (Int × Int)) : Prop := w.ownsRow base 47 2 v l.length (pcs l)
theorem PZ.nil (w : World) (base : Nat) : PZ w base (.slice none 0 0) [] := ⟨rfl, .inl ⟨rfl, rfl⟩⟩
theorem PZ.sl {w : World} {base : Nat} {v : Value} {l : List (Int × Int)} (h : PZ w base v l) : ∃ a c, v = .slice a l.length c := by
  rcases h.2 with ⟨rfl, h0⟩ | ⟨g, cap, cur, rfl, _⟩
  · exact ⟨none, 0, by rw [h0]⟩
  · exact ⟨_, _, rfl⟩
theorem PZ.keep {w w' : World} {base : Nat} {v : Value} {l : List (Int × Int)} (h : PZ w base v l) (hk : ∀ k, base ≤ k → k < w.heap.size → w'.heap[k]? = w.heap[k]?) : PZ w' base v l := by
  refine ⟨h.1, ?_⟩
  rcases h.2 with h0 | ⟨g, cap, cur, h1, h2, h3, h4⟩
  · exact .inl h0
  · exact .inr ⟨g, cap, cur, h1, h2, (hk g h2 (Array.getElem?_eq_some_iff.1 h3).1).trans h3, h4⟩
theorem PZ.below {w w' : World} {base : Nat} {v : Value} {l : List (Int × Int)} (h : PZ w base v l) (hb : Below w.heap.size w w') : PZ w' base v l := h.keep fun k _ hk => hb.block k hk
theorem PZ.base {w : World} {base b2 : Nat} {v : Value} {l : List (Int × Int)} (h : PZ w base v l) (hb : b2 ≤ base) : PZ w b2 v l := by
  refine ⟨h.1, ?_⟩
  rcases h.2 with h0 | ⟨g, cap, cur, h1, h2, h3, h4⟩
  · exact .inl h0
  · exact .inr ⟨g, cap, cur, h1, by omega, h3, h4⟩
theorem PSl.nil (w : World) : PSl w (.slice none 0 0) [] := ⟨none, 0, 0, 0, rfl, Nat.le_refl _, Nat.zero_le _, fun h => absurd h (by simp), fun i hi => absurd hi (by simp)⟩
theorem PZ.psl {w : World} {base : Nat} {v : Value} {l : List (Int × Int)} (h : PZ w base v l) : PSl w v l := by
  have hc := fun g => World.ownsRow.cells h (g := g)
  rcases h.2 with ⟨rfl, h0⟩ | ⟨g, cap, cur, rfl, h2, h3, h4, h5, _⟩
  · have : l = [] := List.length_eq_zero_iff.1 h0
    subst this
    exact PSl.nil w
  · refine ⟨_, cap, g, 0, rfl, h4, h5, fun _ => rfl, fun i hi => ?_⟩
    have h6 := hc g rfl (i * 2) _ (pcs_at l i hi).1
    have h7 := hc g rfl (i * 2 + 1) _ (pcs_at l i hi).2
    rw [addn] at h6 h7
    exact ⟨h6, h7⟩
/-- one cell more -/
theorem push_pair {ops : Array Oper} {rest : List Oper} {o : Oper} {a : Act} {Q : Exit → Act → World → Prop} (w : World) (hgd : o.guard = none) (s x : Operand)
    (ho : o.op = .call { callee := .builtin .append, args := #[s, x], argTypes := #[22, 22] }) (base : Nat) (v : Value) (l : List (Int × Int)) (z y : Int) (hs : a.eval s = v) (hown : PZ w base v l)
    (g : Nat) (hx : a.eval x = .slice (some ⟨g, 0, none⟩) 1 1) (hc : w.cell? ⟨g, 0, none⟩ = some (.int .i64 z) ∧ w.cell? ⟨g, 1, none⟩ = some (.int .i64 y)) (hlen : l.length ≤ 100000) (hb : base ≤ w.heap.size)
    (h : ∀ v' w', PZ w' base v' (l ++ [(z, y)]) → Below base w w' → wpList Try.prog ops Q rest (a.put o.dst v') w') : wpList Try.prog ops Q (o :: rest) a w := by
  obtain ⟨i0, hi, hz0, hz1, hz2⟩ := info_parts info47
  refine wpList_append_own w hgd s x 22 ho base 47 i0 (.agg #[.int .i64 0, .int .i64 0]) 2 16 Try.underlying22 hi hz0 hz1 hz2 rfl (by decide) v l.length (pcs l) hs hown ⟨g, 0, none⟩ 1 1 [.int .i64 z, .int .i64 y] hx rfl ?_ ?_ ?_ ?_ hb ?_
  · intro j u hj
    match j, hj with
    | 0, hj => simp at hj; subst hj; simpa [Addr.add] using hc.1
    | 1, hj => simp at hj; subst hj; rw [addn]; exact hc.2
  · intro u hu; simp at hu; rcases hu with rfl | rfl <;> rfl
  · unfold maxLen; omega
  · omega
  · intro v' w' h1 h2 _
    refine h v' w' ?_ ((Below.refl base w).grown h2 hb (fun k hk => (World.ownsRow.lt hown k hk).1))
    unfold PZ
    rw [List.length_append, pcs_app]
    exact h1

/-- a load of a pair that no step looks into -/
def ld47 (x : Value) : Sem Value := Instr.loadAt 47 x
@[local go_sem ↓] theorem ld47_hold (x : Value) : Instr.loadAt 47 x = ld47 x := rfl
def prV (x y : Int) : Value := .agg #[.int .i64 x, .int .i64 y]
theorem stood47 : Try.prog.stoodInHeld 47 = false := by kernel_rfl
theorem und47 : Try.prog.underlying 47 = some (.struct (Try.prog.fieldsOf 47)) := by kernel_rfl
theorem size47 : (Try.prog.info? 47).map (·.size) = some 2 := by kernel_rfl
set_option maxRecDepth 100000 in
theorem neq_pr (x y : Int) (w : World) : (binOp .neq 47 (prV x y) (prV x y)).run Try.prog w = .ok (.bool false) w := by
  unfold prV
  rw [run_neq_struct, run_equalIn_agg w 9999 47 _ _ und47 stood47]
  simp only [Program.fieldsOf, Try.underlying47]
  simp [go_sem]
theorem eqg47 (a b : Int) (x y : Operand) (w : World) : (eqGuard .neq 47 x y (prV a b) (prV a b)).run Try.prog w = .ok () w := by
  unfold prV
  simp [eqGuard]
theorem load47 {W : World} {b o : Nat} {x y : Int} (h : W.cell? ⟨b, o, none⟩ = some (.int .i64 x) ∧ W.cell? ⟨b, o + 1, none⟩ = some (.int .i64 y)) : (ld47 (.pointer (some ⟨b, o, none⟩))).run Try.prog W = .ok (prV x y) W := by
  unfold ld47 prV
  refine run_loadAt_mid W b o 47 [.int .i64 x, .int .i64 y] _ (fun j u hu => ?_) Try.underlying47 rfl size47
  match j, hu with
  | 0, hu => simp at hu; subst hu; exact h.1
  | 1, hu => simp at hu; subst hu; exact h.2

set_option maxRecDepth 100000 in
set_option maxHeartbeats 2000000 in
theorem same_any (G : List (Int × Int)) (u v : Value) (hl : G.length ≤ 4000) (w : World) (hu : PSl w u G) (hv : PSl w v G) : Calls Try.prog 15 #[u, v] w fun e w' => e = .returned (.bool true) ∧ Below w.heap.size w w' := by
  obtain ⟨a1, c1, b1, o1, rfl, h2, h3, h4, h5⟩ := hu
  obtain ⟨a2, c2, b2, o2, rfl, k2, k3, k4, k5⟩ := hv
  obtain ⟨N, hN⟩ : ∃ N, G.length = N := ⟨_, rfl⟩
  have HN : Hid (G.length = N) := hN
  have H5 : Hid (∀ i (h : i < G.length), w.cell? ⟨b1, o1 + i * 2, none⟩ = some (.int .i64 G[i].1) ∧ w.cell? ⟨b1, o1 + (i * 2 + 1), none⟩ = some (.int .i64 G[i].2)) := h5
  have K5 : Hid (∀ i (h : i < G.length), w.cell? ⟨b2, o2 + i * 2, none⟩ = some (.int .i64 G[i].1) ∧ w.cell? ⟨b2, o2 + (i * 2 + 1), none⟩ = some (.int .i64 G[i].2)) := k5
  rw [hN] at h2 h4 k2 k4 hl ⊢
  have H4 : Hid (0 < N → a1 = some ⟨b1, o1, none⟩) := h4
  have K4 : Hid (0 < N → a2 = some ⟨b2, o2, none⟩) := k4
  unfold maxLen at h3 k3
  clear hN h5 k5 h4 k4
  go_enter Try.func15, Try.ntmps15
  go_wp2_with fail
  go_loopw [5] (fun i wr => ∃ q : Nat, i = .int .i64 (q : Int) ∧ q ≤ N ∧ Below w.heap.size w wr) (fun i _ => N - (intOf i).toNat)
  case atStart => exact ⟨0, rfl, Nat.zero_le _, Below.refl _ _⟩
  case round =>
    obtain ⟨q, rfl, hq, hb⟩ := hrel
    have HB : Hid (Below w.heap.size w wr) := hb
    by_cases hlt : q < N
    · obtain rfl := H4.out (by omega)
      obtain rfl := K4.out (by omega)
      obtain ⟨z, hz⟩ : ∃ z, G[q]'(by rw [HN.out]; exact hlt) = z := ⟨_, rfl⟩
      obtain ⟨x, y⟩ := z
      have d1 : wr.cell? ⟨b1, o1 + q * 2, none⟩ = some (.int .i64 x) ∧ wr.cell? ⟨b1, o1 + (q * 2 + 1), none⟩ = some (.int .i64 y) := by
        have := H5.out q (by rw [HN.out]; exact hlt)
        rw [hz] at this
        exact ⟨(hb.cell (p := ⟨b1, o1 + q * 2, none⟩) (World.block_lt_of_cell? w _ this.1)).trans this.1, (hb.cell (p := ⟨b1, o1 + (q * 2 + 1), none⟩) (World.block_lt_of_cell? w _ this.2)).trans this.2⟩
      have d2 : wr.cell? ⟨b2, o2 + q * 2, none⟩ = some (.int .i64 x) ∧ wr.cell? ⟨b2, o2 + (q * 2 + 1), none⟩ = some (.int .i64 y) := by
        have := K5.out q (by rw [HN.out]; exact hlt)
        rw [hz] at this
        exact ⟨(hb.cell (p := ⟨b2, o2 + q * 2, none⟩) (World.block_lt_of_cell? w _ this.1)).trans this.1, (hb.cell (p := ⟨b2, o2 + (q * 2 + 1), none⟩) (World.block_lt_of_cell? w _ this.2)).trans this.2⟩
      have e1 : decide ((q : Int) < (N : Int)) = true := by simp; omega
      have HL1 : ∀ w' : World, w'.cell? ⟨b1, o1 + q * 2, none⟩ = some (.int .i64 x) ∧ w'.cell? ⟨b1, o1 + (q * 2 + 1), none⟩ = some (.int .i64 y) → (ld47 (.pointer (some ⟨b1, o1 + q * 2, none⟩))).run Try.prog w' = .ok (prV x y) w' := fun w' h => load47 h
      have HL2 : ∀ w' : World, w'.cell? ⟨b2, o2 + q * 2, none⟩ = some (.int .i64 x) ∧ w'.cell? ⟨b2, o2 + (q * 2 + 1), none⟩ = some (.int .i64 y) → (ld47 (.pointer (some ⟨b2, o2 + q * 2, none⟩))).run Try.prog w' = .ok (prV x y) w' := fun w' h => load47 h
      have hneq : ∀ w' : World, (binOp .neq 47 (prV x y) (prV x y)).run Try.prog w' = .ok (.bool false) w' := neq_pr x y
      have hgd : ∀ (s t : Operand) (w' : World), (eqGuard .neq 47 s t (prV x y) (prV x y)).run Try.prog w' = .ok () w' := eqg47 x y
      clear hz hb
      go_wp2_with fail
      go_region_held3 (fun w' => (w'.cell? ⟨b1, o1 + q * 2, none⟩ = some (.int .i64 x) ∧ w'.cell? ⟨b1, o1 + (q * 2 + 1), none⟩ = some (.int .i64 y)) ∧ (w'.cell? ⟨b2, o2 + q * 2, none⟩ = some (.int .i64 x) ∧ w'.cell? ⟨b2, o2 + (q * 2 + 1), none⟩ = some (.int .i64 y))) (first | assumption | (exact ⟨d1, d2⟩) | go_keep) (fail)
      go_wp2_with fail
      go_roundw
      case rel => exact ⟨q + 1, by go_num, by omega, HB.out.drew⟩
      case measure => simp [intOf]; omega
    · have e1 : decide ((q : Int) < (N : Int)) = false := by simp; omega
      clear hb
      go_wp2
      go_ret
      exact ⟨rfl, HB.out⟩
end Go.Proofs.Ytlcgoobjpnpfhaa
