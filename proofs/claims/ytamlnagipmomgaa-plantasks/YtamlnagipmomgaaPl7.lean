/- Rows of pairs of the call's own. -/
import Derived.Test.YtamlnagipmomgaaPl6
import Derived.Deep.RegionHeld3
import Derived.Maps.AppendAt
import Derived.Deep.MidRow
import Derived.Laws.Rows
namespace Go.Proofs.Ytamlnagipmomgaa
open Go.RowKit Go.Maps
set_option linter.unusedVariables false

theorem info_parts {P : Program} {t : Nat} {z : Value} {s b : Nat} (h : (P.info? t).map (fun i => (i.zero, i.size, i.bytes)) = some (some z, s, b)) : ∃ i, P.info? t = some i ∧ i.zero = some z ∧ i.size = s ∧ i.bytes = b := by
  obtain ⟨i, h1, h2⟩ := Option.map_eq_some_iff.1 h
  simp only [Prod.mk.injEq] at h2
  exact ⟨i, h1, h2.1, h2.2.1, h2.2.2⟩
theorem addn (b o j : Nat) : (⟨b, o, none⟩ : Addr).add j = ⟨b, o + j, none⟩ := by
  unfold Addr.add
  split
  · rename_i h; subst h; rfl
  · rfl
def pcs (l : List (Int × Int)) : List Value := l.flatMap fun z => [.int .i64 z.1, .int .i64 z.2]
theorem pcs_app (l m : List (Int × Int)) : pcs (l ++ m) = pcs l ++ pcs m := by simp [pcs]
theorem pcs_at : ∀ (l : List (Int × Int)) (i : Nat) (h : i < l.length), (pcs l)[i * 2]? = some (.int .i64 l[i].1) ∧ (pcs l)[i * 2 + 1]? = some (.int .i64 l[i].2)
  | z :: l, 0, h => ⟨rfl, rfl⟩
  | z :: l, i + 1, h => by
    have := pcs_at l i (by simpa using h)
    have e1 : (i + 1) * 2 = i * 2 + 2 := by omega
    rw [e1]
    exact this
theorem info36 : (Try.prog.info? 36).map (fun i => (i.zero, i.size, i.bytes)) = some (some (.agg #[.int .i64 0, .int .i64 0]), 2, 16) := by kernel_rfl
def PSl (w : World) (v : Value) (G : List (Int × Int)) : Prop :=
  ∃ a c b o, v = .slice a G.length c ∧ G.length ≤ c ∧ c ≤ maxLen ∧ (0 < G.length → a = some ⟨b, o, none⟩) ∧ ∀ i (h : i < G.length), w.cell? ⟨b, o + i * 2, none⟩ = some (.int .i64 G[i].1) ∧ w.cell? ⟨b, o + (i * 2 + 1), none⟩ = some (.int .i64 G[i].2)
theorem PSl.below {w w' : World} {v : Value} {G : List (Int × Int)} (h : PSl w v G) (hb : Below w.heap.size w w') : PSl w' v G := by
  obtain ⟨a, c, b, o, h1, h2, h3, h4, h5⟩ := h
  exact ⟨a, c, b, o, h1, h2, h3, h4, fun i hi => ⟨(hb.cell (p := ⟨b, o + i * 2, none⟩) (World.block_lt_of_cell? w _ (h5 i hi).1)).trans (h5 i hi).1, (hb.cell (p := ⟨b, o + (i * 2 + 1), none⟩) (World.block_lt_of_cell? w _ (h5 i hi).2)).trans (h5 i hi).2⟩⟩
theorem PSl.nil (w : World) : PSl w (.slice none 0 0) [] := ⟨none, 0, 0, 0, rfl, Nat.le_refl _, Nat.zero_le _, fun h => absurd h (by simp), fun i hi => absurd hi (by simp)⟩
def PZ (w : World) (base : Nat) (v : Value) (l : List (Int × Int)) : Prop := w.ownsRow base 36 2 v l.length (pcs l)
theorem PZ.nil (w : World) (base : Nat) : PZ w base (.slice none 0 0) [] := ⟨rfl, .inl ⟨rfl, rfl⟩⟩
theorem PZ.sl {w : World} {base : Nat} {v : Value} {l : List (Int × Int)} (h : PZ w base v l) : ∃ a c, v = .slice a l.length c := by
  rcases h.2 with ⟨rfl, h0⟩ | ⟨g, cap, cur, rfl, _⟩
  · exact ⟨none, 0, by rw [h0]⟩
  · exact ⟨_, _, rfl⟩
theorem PZ.keep {w w' : World} {base : Nat} {v : Value} {l : List (Int × Int)} (h : PZ w base v l) (hk : ∀ k, base ≤ k → k < w.heap.size → w'.heap[k]? = w.heap[k]?) : PZ w' base v l := by
  refine ⟨h.1, ?_⟩
  rcases h.2 with h0 | ⟨g, cap, cur, h1, h2, h3, h4⟩
  · exact .inl h0
  · exact .inr ⟨g, cap, cur, h1, h2, (hk g h2 (Array.getElem?_eq_some_iff.1 h3).1).trans h3, h4⟩
theorem PZ.below {w w' : World} {base : Nat} {v : Value} {l : List (Int × Int)} (h : PZ w base v l) (hb : Below w.heap.size w w') : PZ w' base v l := h.keep fun k _ hk => hb.block k hk
theorem PZ.psl {w : World} {base : Nat} {v : Value} {l : List (Int × Int)} (h : PZ w base v l) : PSl w v l := by
  have hc := fun g => World.ownsRow.cells h (g := g)
  rcases h.2 with ⟨rfl, h0⟩ | ⟨g, cap, cur, rfl, h2, h3, h4, h5, _⟩
  · have : l = [] := List.length_eq_zero_iff.1 h0
    subst this
    exact PSl.nil w
  · refine ⟨_, cap, g, 0, rfl, h4, h5, fun _ => rfl, fun i hi => ?_⟩
    have h6 := hc g rfl (i * 2) _ (pcs_at l i hi).1
    have h7 := hc g rfl (i * 2 + 1) _ (pcs_at l i hi).2
    rw [addn] at h6 h7
    exact ⟨h6, h7⟩
/-- one pair more -/
theorem push_pair {ops : Array Oper} {rest : List Oper} {o : Oper} {a : Act} {Q : Exit → Act → World → Prop} (w : World) (hgd : o.guard = none) (s x : Operand)
    (ho : o.op = .call { callee := .builtin .append, args := #[s, x], argTypes := #[28, 28] }) (base : Nat) (v : Value) (l : List (Int × Int)) (z y : Int) (hs : a.eval s = v) (hown : PZ w base v l)
    (g : Nat) (hx : a.eval x = .slice (some ⟨g, 0, none⟩) 1 1) (hc : w.cell? ⟨g, 0, none⟩ = some (.int .i64 z) ∧ w.cell? ⟨g, 1, none⟩ = some (.int .i64 y)) (hlen : l.length ≤ 100000) (hb : base ≤ w.heap.size)
    (h : ∀ v' w', PZ w' base v' (l ++ [(z, y)]) → Below base w w' → wpList Try.prog ops Q rest (a.put o.dst v') w') : wpList Try.prog ops Q (o :: rest) a w := by
  obtain ⟨i0, hi, hz0, hz1, hz2⟩ := info_parts info36
  refine wpList_append_own w hgd s x 28 ho base 36 i0 (.agg #[.int .i64 0, .int .i64 0]) 2 16 Try.underlying28 hi hz0 hz1 hz2 rfl (by decide) v l.length (pcs l) hs hown ⟨g, 0, none⟩ 1 1 [.int .i64 z, .int .i64 y] hx rfl ?_ ?_ ?_ ?_ hb ?_
  · intro j u hj
    match j, hj with
    | 0, hj => simp at hj; subst hj; simpa [Addr.add] using hc.1
    | 1, hj => simp at hj; subst hj; rw [addn]; exact hc.2
  · intro u hu; simp at hu; rcases hu with rfl | rfl <;> rfl
  · unfold maxLen; omega
  · omega
  · intro v' w' h1 h2 _
    refine h v' w' ?_ ((Below.refl base w).grown h2 hb (fun k hk => (World.ownsRow.lt hown k hk).1))
    unfold PZ
    rw [List.length_append, pcs_app]
    exact h1

/-- the tasks of a shape -/
def taskI (k lo st sg : Int) (a : Nat) : Int × Int := if k = 2 then ((a : Int) / sg, (a : Int) % sg) else (lo + (a : Int) * st, 0)
def tasksN (k lo st sg : Int) (n : Nat) : List (Int × Int) := (List.range n).map (taskI k lo st sg)
theorem tasksN_len (k lo st sg : Int) (n : Nat) : (tasksN k lo st sg n).length = n := by simp [tasksN]
theorem tasksN_snoc (k lo st sg : Int) (n : Nat) : tasksN k lo st sg n ++ [taskI k lo st sg n] = tasksN k lo st sg (n + 1) := by simp [tasksN, List.range_succ]
theorem tasksN_at (k lo st sg : Int) (n i : Nat) (h : i < (tasksN k lo st sg n).length) : (tasksN k lo st sg n)[i] = taskI k lo st sg i := by simp [tasksN]
theorem for_lt (lo hi st : Int) (h0 : R64 lo) (h1 : R64 hi) (h2 : R64 st) (h3 : st ≠ 0) (q : Nat) : (q : Int) < forN lo hi st ↔ (q : Int) * wideI st < farI lo hi st := by
  obtain ⟨s1, s2, s3⟩ := for_spec lo hi st h0 h1 h2 h3
  have hw := (wide_bd st h2 h3).1
  constructor
  · exact fun h => s3 q (by omega) h
  · intro h
    refine Int.lt_of_not_ge fun hn => ?_
    have := Int.mul_le_mul_of_nonneg_right hn (Int.le_of_lt hw)
    omega
theorem for_cond (lo hi st : Int) (h0 : R64 lo) (h1 : R64 hi) (h2 : R64 st) (h3 : st ≠ 0) (q : Nat) : (q : Int) < forN lo hi st ↔ (if st < 0 then hi < lo + (q : Int) * st else lo + (q : Int) * st < hi) := by
  rw [for_lt lo hi st h0 h1 h2 h3, step_wide (q : Int) st]
  unfold farI
  split <;> constructor <;> intro h <;> omega
end Go.Proofs.Ytamlnagipmomgaa
