/- A slice behind another one; parts of a slice. -/
import Derived.Test.YtongeppdaeekeaaOwn
import Derived.Deep.AppendSrc
namespace Go.Proofs.Ytongeppdaeekeaa
open Go.RowKit Go.Maps
set_option linter.unusedVariables false

theorem addn (b o j : Nat) : (⟨b, o, none⟩ : Addr).add j = ⟨b, o + j, none⟩ := by
  unfold Addr.add
  split
  · rename_i h; subst h; rfl
  · rfl
set_option maxRecDepth 100000 in
theorem app_gsl (w : World) (ty : TypeId) (base : Nat) (v xv : Value) (l X : List Int) (hown : IZ w base v l) (hx : GSl w xv X) (hlen : l.length + X.length ≤ 100000) (hb : base ≤ w.heap.size) :
    ∃ v' w', (Builtin.append_ #[26, 26] ty #[v, xv]).run Try.prog w = .ok v' w' ∧ IZ w' base v' (l ++ X) ∧ Below base w w' := by
  obtain ⟨i0, hi, hz0, hz1, hz2⟩ := info_parts info2
  obtain ⟨a, c, b, o, rfl, h2, h3, h4, h5⟩ := hx
  cases a with
  | some ad =>
    have hn : ∀ j u, (X.map (Value.int .i64))[j]? = some u → w.cell? (ad.add j) = some u := by
      intro j u hj
      have hjl : j < X.length := by
        have := (List.getElem?_eq_some_iff.1 hj).1
        simpa using this
      have := h4 (by omega)
      injection this with this
      subst this
      rw [addn, h5 j hjl]
      simp [hjl] at hj
      rw [hj]
    obtain ⟨v', w', e1, e2, e3, _⟩ := run_append_own (P := Try.prog) w base 26 ty 2 i0 (.int .i64 0) 1 8 Try.underlying26 hi hz0 hz1 hz2 rfl (by decide) v l.length (l.map (Value.int .i64)) hown ad X.length c (X.map (Value.int .i64)) (by simp) hn (by intro u hu; obtain ⟨z, _, rfl⟩ := List.mem_map.1 hu; rfl) (by unfold maxLen; omega) (by omega) hb
    refine ⟨v', w', e1, ?_, (Below.refl base w).grown e3 hb (fun k hk => (World.ownsRow.lt hown k hk).1)⟩
    unfold IZ
    rw [List.length_append, List.map_append]
    exact e2
  | none =>
    have hX : X = [] := by
      rcases Nat.eq_zero_or_pos X.length with h | h
      · exact List.length_eq_zero_iff.1 h
      · have := h4 h; cases this
    subst hX
    rw [List.append_nil]
    have hs : Src Try.prog i0.size 26 (.slice none 0 c) 0 [] w := Src.ofNil w Try.underlying26 c
    rcases hown.2 with ⟨rfl, h0⟩ | ⟨g, cap, cur, rfl, k2, k3, k4, k5, k6⟩
    · refine ⟨.slice none 0 0, w, ?_, hown, Below.refl _ _⟩
      simp [Builtin.append_, run_underlying Try.underlying26, sizeOf, typeInfo, hi, Builtin.lenOf, hs.cells]
    · have := run_append_room_src (P := Try.prog) w 26 26 ty 2 i0 Try.underlying26 hi g 0 l.length cap (.slice none 0 c) 0 [] hs (by omega) (fun j hj => absurd hj (by simp)) (fun j hj => absurd hj (by simp))
      exact ⟨_, _, this, hown, Below.refl _ _⟩
theorem push_ints {ops : Array Oper} {rest : List Oper} {o : Oper} {a : Act} {Q : Exit → Act → World → Prop} (w : World) (hgd : o.guard = none) (s x : Operand)
    (ho : o.op = .call { callee := .builtin .append, args := #[s, x], argTypes := #[26, 26] }) (base : Nat) (v xv : Value) (l X : List Int) (hs : a.eval s = v) (hx : a.eval x = xv) (hown : IZ w base v l) (hg : GSl w xv X)
    (hlen : l.length + X.length ≤ 100000) (hb : base ≤ w.heap.size)
    (h : ∀ v' w', IZ w' base v' (l ++ X) → Below base w w' → wpList Try.prog ops Q rest (a.put o.dst v') w') : wpList Try.prog ops Q (o :: rest) a w := by
  refine wpList_plain hgd fun K hK => ?_
  obtain ⟨v', w', hr, h2, h3⟩ := app_gsl w o.type base v xv l X hown hg hlen hb
  unfold Oper.wp execOp
  simp only [ho, resolve, invoke, builtin, Sem.run_bind, Sem.run_pure, Result.andThen_ok, List.map_toArray, List.map_cons, List.map_nil, hs, hx, hr]
  exact hK _ _ (h v' w' h2 h3)
theorem GSl.drop {w : World} {a : Option Addr} {N c : Nat} {G : List Int} (h : GSl w (.slice a N c) G) (k : Nat) (hk : k ≤ N) : GSl w (sliced a k N c 1) (G.drop k) := by
  obtain ⟨a', c', b, o, e, h2, h3, h4, h5⟩ := h
  injection e with e1 e2 e3
  subst e1 e2 e3
  refine ⟨_, _, b, o + k, by unfold sliced; rw [List.length_drop], by rw [List.length_drop]; omega, by omega, fun hp => ?_, fun i hi => ?_⟩
  · rw [List.length_drop] at hp
    rw [if_neg (by omega), h4 (by omega)]
    simp [addn]
  · rw [List.length_drop] at hi
    have := h5 (k + i) (by omega)
    rw [Nat.add_assoc, this]
    simp
theorem GSl.take {w : World} {a : Option Addr} {N c : Nat} {G : List Int} (h : GSl w (.slice a N c) G) (k : Nat) (hk : k ≤ N) : GSl w (.slice a k c) (G.take k) := by
  obtain ⟨a', c', b, o, e, h2, h3, h4, h5⟩ := h
  injection e with e1 e2 e3
  subst e1 e2 e3
  have hl : (G.take k).length = k := by rw [List.length_take]; omega
  refine ⟨a, c, b, o, by rw [hl], by rw [hl]; omega, by omega, fun hp => ?_, fun i hi => ?_⟩
  · rw [hl] at hp
    exact h4 (by omega)
  · rw [hl] at hi
    have := h5 i (by omega)
    rw [this]
    simp
end Go.Proofs.Ytongeppdaeekeaa
