/- Numbers of the call's own in a slice that grows. -/
import Derived.Test.YtamlnagipmomgaaLsA
import Derived.Deep.AppendSrc
import Derived.Test.YtamlnagipmomgaaDOpen
namespace Go.Proofs.Ytamlnagipmomgaa
open Go.RowKit Go.Maps
set_option linter.unusedVariables false
theorem GSl.nil (w : World) : GSl w (.slice none 0 0) [] := ⟨none, 0, 0, 0, rfl, Nat.le_refl _, Nat.zero_le _, fun h => absurd h (by simp), fun i hi => absurd hi (by simp)⟩
def IZ (w : World) (base : Nat) (v : Value) (l : List Int) : Prop := w.ownsRow base 3 1 v l.length (l.map (Value.int .i64))
theorem IZ.nil (w : World) (base : Nat) : IZ w base (.slice none 0 0) [] := ⟨rfl, .inl ⟨rfl, rfl⟩⟩
theorem IZ.empty (w : World) (base : Nat) (h : base ≤ w.heap.size) : IZ (w.alloc (.cells #[] 3)) base (.slice (some ⟨w.heap.size, 0, none⟩) 0 0) [] := ⟨rfl, .inr ⟨w.heap.size, 0, #[], rfl, h, heap_alloc_new _ _, Nat.le_refl _, Nat.zero_le _, rfl, rfl⟩⟩
theorem IZ.sl {w : World} {base : Nat} {v : Value} {l : List Int} (h : IZ w base v l) : ∃ a c, v = .slice a l.length c := by
  rcases h.2 with ⟨rfl, h0⟩ | ⟨g, cap, cur, rfl, _⟩
  · exact ⟨none, 0, by rw [h0]⟩
  · exact ⟨_, _, rfl⟩
theorem IZ.keep {w w' : World} {base : Nat} {v : Value} {l : List Int} (h : IZ w base v l) (hk : ∀ k, base ≤ k → k < w.heap.size → w'.heap[k]? = w.heap[k]?) : IZ w' base v l := by
  refine ⟨h.1, ?_⟩
  rcases h.2 with h0 | ⟨g, cap, cur, h1, h2, h3, h4⟩
  · exact .inl h0
  · exact .inr ⟨g, cap, cur, h1, h2, (hk g h2 (Array.getElem?_eq_some_iff.1 h3).1).trans h3, h4⟩
theorem IZ.below {w w' : World} {base : Nat} {v : Value} {l : List Int} (h : IZ w base v l) (hb : Below w.heap.size w w') : IZ w' base v l := h.keep fun k _ hk => hb.block k hk
theorem IZ.base {w : World} {base b2 : Nat} {v : Value} {l : List Int} (h : IZ w base v l) (hb : b2 ≤ base) : IZ w b2 v l := by
  refine ⟨h.1, ?_⟩
  rcases h.2 with h0 | ⟨g, cap, cur, h1, h2, h3, h4⟩
  · exact .inl h0
  · exact .inr ⟨g, cap, cur, h1, by omega, h3, h4⟩
theorem IZ.gsl {w : World} {base : Nat} {v : Value} {l : List Int} (h : IZ w base v l) : GSl w v l := by
  have hc := fun g => World.ownsRow.cells h (g := g)
  rcases h.2 with ⟨rfl, h0⟩ | ⟨g, cap, cur, rfl, h2, h3, h4, h5, _⟩
  · have : l = [] := List.length_eq_zero_iff.1 h0
    subst this
    exact GSl.nil w
  · refine ⟨_, cap, g, 0, rfl, h4, h5, fun _ => rfl, fun i hi => ?_⟩
    have := hc g rfl i (.int .i64 l[i]) (by simp [hi])
    have hadd : (⟨g, 0, none⟩ : Addr).add i = ⟨g, 0 + i, none⟩ := by unfold Addr.add; split <;> simp_all
    rw [hadd] at this
    exact this
/-- one number more -/
theorem push_int {ops : Array Oper} {rest : List Oper} {o : Oper} {a : Act} {Q : Exit → Act → World → Prop} (w : World) (hgd : o.guard = none) (s x : Operand)
    (ho : o.op = .call { callee := .builtin .append, args := #[s, x], argTypes := #[42, 42] }) (base : Nat) (v : Value) (l : List Int) (z : Int) (hs : a.eval s = v) (hown : IZ w base v l)
    (g : Nat) (hx : a.eval x = .slice (some ⟨g, 0, none⟩) 1 1) (hc : w.cell? ⟨g, 0, none⟩ = some (.int .i64 z)) (hlen : l.length ≤ 100000) (hb : base ≤ w.heap.size)
    (h : ∀ v' w', IZ w' base v' (l ++ [z]) → Below base w w' → wpList Try.prog ops Q rest (a.put o.dst v') w') : wpList Try.prog ops Q (o :: rest) a w := by
  obtain ⟨i0, hi, hz0, hz1, hz2⟩ := info_parts info3
  refine wpList_append_own w hgd s x 42 ho base 3 i0 (.int .i64 0) 1 8 Try.underlying42 hi hz0 hz1 hz2 rfl (by decide) v l.length (l.map (Value.int .i64)) hs hown ⟨g, 0, none⟩ 1 1 [.int .i64 z] hx rfl ?_ ?_ ?_ ?_ hb ?_
  · intro j u hj
    match j, hj with
    | 0, hj => simp at hj; subst hj; simpa [Addr.add] using hc
  · intro u hu; simp at hu; subst hu; rfl
  · unfold maxLen; omega
  · omega
  · intro v' w' h1 h2 _
    refine h v' w' ?_ ((Below.refl base w).grown h2 hb (fun k hk => (World.ownsRow.lt hown k hk).1))
    unfold IZ
    rw [List.length_append, List.map_append]
    exact h1
set_option maxRecDepth 100000 in
theorem app_gsl (w : World) (ty : TypeId) (base : Nat) (v xv : Value) (l X : List Int) (hown : IZ w base v l) (hx : GSl w xv X) (hlen : l.length + X.length ≤ 100000) (hb : base ≤ w.heap.size) :
    ∃ v' w', (Builtin.append_ #[42, 42] ty #[v, xv]).run Try.prog w = .ok v' w' ∧ IZ w' base v' (l ++ X) ∧ Below base w w' := by
  obtain ⟨i0, hi, hz0, hz1, hz2⟩ := info_parts info3
  obtain ⟨a, c, b, o, rfl, h2, h3, h4, h5⟩ := hx
  cases a with
  | some ad =>
    have hn : ∀ j u, (X.map (Value.int .i64))[j]? = some u → w.cell? (ad.add j) = some u := by
      intro j u hj
      have hjl : j < X.length := by
        have := (List.getElem?_eq_some_iff.1 hj).1
        simpa using this
      have := h4 (by omega)
      injection this with this
      subst this
      rw [addn, h5 j hjl]
      simp [hjl] at hj
      rw [hj]
    obtain ⟨v', w', e1, e2, e3, _⟩ := run_append_own (P := Try.prog) w base 42 ty 3 i0 (.int .i64 0) 1 8 Try.underlying42 hi hz0 hz1 hz2 rfl (by decide) v l.length (l.map (Value.int .i64)) hown ad X.length c (X.map (Value.int .i64)) (by simp) hn (by intro u hu; obtain ⟨z, _, rfl⟩ := List.mem_map.1 hu; rfl) (by unfold maxLen; omega) (by omega) hb
    refine ⟨v', w', e1, ?_, (Below.refl base w).grown e3 hb (fun k hk => (World.ownsRow.lt hown k hk).1)⟩
    unfold IZ
    rw [List.length_append, List.map_append]
    exact e2
  | none =>
    have hX : X = [] := by
      rcases Nat.eq_zero_or_pos X.length with h | h
      · exact List.length_eq_zero_iff.1 h
      · have := h4 h; cases this
    subst hX
    rw [List.append_nil]
    have hs : Src Try.prog i0.size 42 (.slice none 0 c) 0 [] w := Src.ofNil w Try.underlying42 c
    rcases hown.2 with ⟨rfl, h0⟩ | ⟨g, cap, cur, rfl, k2, k3, k4, k5, k6⟩
    · refine ⟨.slice none 0 0, w, ?_, hown, Below.refl _ _⟩
      simp [Builtin.append_, run_underlying Try.underlying42, sizeOf, typeInfo, hi, Builtin.lenOf, hs.cells]
    · have := run_append_room_src (P := Try.prog) w 42 42 ty 3 i0 Try.underlying42 hi g 0 l.length cap (.slice none 0 c) 0 [] hs (by omega) (fun j hj => absurd hj (by simp)) (fun j hj => absurd hj (by simp))
      exact ⟨_, _, this, hown, Below.refl _ _⟩
theorem push_ints {ops : Array Oper} {rest : List Oper} {o : Oper} {a : Act} {Q : Exit → Act → World → Prop} (w : World) (hgd : o.guard = none) (s x : Operand)
    (ho : o.op = .call { callee := .builtin .append, args := #[s, x], argTypes := #[42, 42] }) (base : Nat) (v xv : Value) (l X : List Int) (hs : a.eval s = v) (hx : a.eval x = xv) (hown : IZ w base v l) (hg : GSl w xv X)
    (hlen : l.length + X.length ≤ 100000) (hb : base ≤ w.heap.size)
    (h : ∀ v' w', IZ w' base v' (l ++ X) → Below base w w' → wpList Try.prog ops Q rest (a.put o.dst v') w') : wpList Try.prog ops Q (o :: rest) a w := by
  refine wpList_plain hgd fun K hK => ?_
  obtain ⟨v', w', hr, h2, h3⟩ := app_gsl w o.type base v xv l X hown hg hlen hb
  unfold Oper.wp execOp
  simp only [ho, resolve, invoke, builtin, Sem.run_bind, Sem.run_pure, Result.andThen_ok, List.map_toArray, List.map_cons, List.map_nil, hs, hx, hr]
  exact hK _ _ (h v' w' h2 h3)
end Go.Proofs.Ytamlnagipmomgaa
