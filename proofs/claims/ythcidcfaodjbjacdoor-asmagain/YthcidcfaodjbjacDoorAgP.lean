/- What Parse reads may be written: plain. -/
import Derived.Test.YthcidcfaodjbjacDoorBkC
namespace Go.Proofs.YthcidcfaodjbjacDoor
set_option linter.unusedVariables false
/-- its K is a word -/
def k64 (x : In) : Prop := -9223372036854775808 ≤ x.k ∧ x.k ≤ 9223372036854775807
theorem readL_k {x y : In × List UInt8} {p : UInt8} {s : List UInt8} (hx : k64 x.1) (h : readL x p s = some y) : k64 y.1 := by
  have hm : ∀ (o : Option Int) (f : Int → In × List UInt8), (∀ n, o = some n → k64 (f n).1) → o.map f = some y → k64 y.1 := by
    intro o f hf ho
    cases o with
    | none => cases ho
    | some n => cases ho; exact hf n rfl
  unfold readL at h
  split at h
  · refine hm _ _ ?_ h; intro n _; exact hx
  split at h
  · refine hm _ _ ?_ h; intro n _; exact hx
  split at h
  · refine hm _ _ ?_ h; intro n _; exact hx
  split at h
  · refine hm _ _ ?_ h; intro n _; exact hx
  split at h
  · refine hm _ _ (fun n hn => ?_) h
    unfold numL at hn
    split at hn
    · cases hn; exact parse_bd s
    · cases hn
  split at h
  · split at h
    · cases h; exact hx
    · cases h
  · cases h
theorem readAll_k : ∀ (ps : List UInt8) (ss : List (List UInt8)) (x y : In × List UInt8), k64 x.1 → readAll x ps ss = some y → k64 y.1
  | [], ss, x, y, hx, h => by cases ss <;> (cases h; exact hx)
  | p :: ps, [], x, y, hx, h => by cases h
  | p :: ps, s :: ss, x, y, hx, h => by
    unfold readAll at h
    cases hr : readL x p s with
    | none => rw [hr] at h; cases h
    | some z =>
      rw [hr] at h
      exact readAll_k ps ss z y (readL_k hx hr) h
theorem insL_k {t : List UInt8} {ss : List (List UInt8)} {y : In × List UInt8} (h : insL t ss = some y) : k64 y.1 := by
  unfold insL at h
  cases hm : meanL t with
  | none => rw [hm] at h; cases h
  | some s =>
    rw [hm] at h
    simp only [Option.bind_some] at h
    split at h
    · refine readAll_k _ _ _ _ ?_ h
      exact (show (-9223372036854775808 : Int) ≤ 0 ∧ (0 : Int) ≤ 9223372036854775807 by decide)
    · cases h
structure KI (n : Nat) (st : Rs) : Prop where
  code : ∀ x ∈ st.code, k64 x
  tab : ∀ t ∈ st.tab, 0 ≤ t.2 ∧ t.2 ≤ (n : Int)
  len : st.code.length ≤ n
theorem KI.line {n : Nat} {st st' : Rs} {m : Int} {ps : List (List UInt8)} (g : KI n st) (h : lineL st m ps = .ok st') : KI (n + 1) st' := by
  have hl := g.len
  cases ps with
  | nil => cases h; exact ⟨g.code, fun t ht => by have := g.tab t ht; omega, by omega⟩
  | cons p r =>
    unfold lineL at h
    dsimp only at h
    split at h
    · unfold labelL at h
      split at h
      · split at h
        · cases h
        · cases h
          refine ⟨g.code, fun t ht => ?_, by dsimp only; omega⟩
          rcases List.mem_append.1 ht with ht | ht
          · have := g.tab t ht; omega
          · rw [List.mem_singleton.1 ht]
            dsimp only
            omega
      · cases h
    · split at h
      · cases h
      · rename_i y hy
        cases h
        refine ⟨fun x hx => ?_, fun t ht => by have := g.tab t ht; omega, by simp; omega⟩
        rcases List.mem_append.1 hx with hx | hx
        · exact g.code x hx
        · rw [List.mem_singleton.1 hx]; exact insL_k hy
theorem linesR_ki : ∀ (L : List (List UInt8)) (st st' : Rs) (m : Int) (n : Nat), KI n st → linesR st m L = .ok st' → KI (n + L.length) st'
  | [], st, st', m, n, g, h => by cases h; exact g
  | a :: L, st, st', m, n, g, h => by
    rw [linesR] at h
    cases hl : lineL st m (fieldsL (saidL a)) with
    | err e => rw [hl] at h; cases h
    | ok s =>
      rw [hl] at h
      have := linesR_ki L s st' (m + 1) (n + 1) (g.line hl) h
      rw [List.length_cons, show n + (L.length + 1) = n + 1 + L.length by omega]
      exact this
theorem linesR_err : ∀ (L : List (List UInt8)) (st : Rs) (m k e : Int), linesR st m L = .err k e → e ≠ 0
  | [], st, m, k, e, h => by cases h
  | a :: L, st, m, k, e, h => by
    rw [linesR] at h
    cases hl : lineL st m (fieldsL (saidL a)) with
    | err e' => rw [hl] at h; cases h; exact lineL_err hl
    | ok s => rw [hl] at h; exact linesR_err L s (m + 1) k e h
theorem aim_k (T : List (List UInt8 × Int)) (hT : ∀ t ∈ T, 0 ≤ t.2 ∧ t.2 ≤ 10000) : ∀ (l : List In) (os : List (Int × List UInt8)) (l' : List In), aimL T l os = .inr l' → (∀ x ∈ l, k64 x) → ∀ x ∈ l', k64 x
  | [], os, l', h, _ => by cases h; intro x hx; cases hx
  | y :: l, [], l', h, hk => by cases h; exact hk
  | y :: l, o :: os, l', h, hk => by
    rw [aimL] at h
    split at h
    · cases ha : aimL T l os with
      | inl n => rw [ha] at h; cases h
      | inr l2 =>
        rw [ha] at h
        cases h
        intro x hx
        rcases List.mem_cons.1 hx with rfl | hx
        · exact hk _ (List.mem_cons_self ..)
        · exact aim_k T hT l os l2 ha (fun z hz => hk z (List.mem_cons_of_mem _ hz)) x hx
    · cases hf : findT T o.2 with
      | none => rw [hf] at h; cases h
      | some p =>
        rw [hf] at h
        dsimp only at h
        cases ha : aimL T l os with
        | inl n => rw [ha] at h; cases h
        | inr l2 =>
          rw [ha] at h
          cases h
          intro x hx
          rcases List.mem_cons.1 hx with rfl | hx
          · unfold findT at hf
            cases hq : T.find? (fun x => x.1 == o.2) with
            | none => rw [hq] at hf; cases hf
            | some t =>
              rw [hq] at hf
              cases hf
              have := hT t (List.mem_of_find?_eq_some hq)
              unfold k64
              dsimp only
              omega
          · exact aim_k T hT l os l2 ha (fun z hz => hk z (List.mem_cons_of_mem _ hz)) x hx
theorem oneC_abc {x : In} {cells long : Int} (h : oneC x cells long = 0) : (0 ≤ x.a ∧ x.a ≤ 15) ∧ (0 ≤ x.b ∧ x.b ≤ 15) ∧ (0 ≤ x.c ∧ x.c ≤ 15) := by
  obtain ⟨kd, op, xa, xb, xc, xk⟩ := x
  by_cases hk : kd < 1 ∨ 13 < kd
  · rw [oneC_none _ _ _ hk] at h; cases h
  have hk : kd = 1 ∨ kd = 2 ∨ kd = 3 ∨ kd = 4 ∨ kd = 5 ∨ kd = 6 ∨ kd = 7 ∨ kd = 8 ∨ kd = 9 ∨ kd = 10 ∨ kd = 11 ∨ kd = 12 ∨ kd = 13 := by omega
  dsimp only
  rcases hk with rfl | rfl | rfl | rfl | rfl | rfl | rfl | rfl | rfl | rfl | rfl | rfl | rfl
  all_goals
    first | rw [oneC_1] at h | rw [oneC_2] at h | rw [oneC_3] at h | rw [oneC_4] at h | rw [oneC_5] at h | rw [oneC_6] at h | rw [oneC_7] at h | rw [oneC_8] at h | rw [oneC_9] at h | rw [oneC_10] at h | rw [oneC_11] at h | rw [oneC_12] at h | rw [oneC_13] at h
    (repeat' split at h) <;> first | (cases h; done) | omega
theorem parse_cases (s : List UInt8) (cells : Int) : (∃ n e, e ≠ 0 ∧ parseA s cells = ([], n, e)) ∨ ∃ l, parseA s cells = (l, 0, 0) ∧ (checkL l cells).2 = 0 ∧ ∀ x ∈ l, InW x := by
  unfold parseA
  by_cases h8 : 8192 < s.length
  · rw [if_pos h8]
    exact Or.inl ⟨0, 30, by decide, rfl⟩
  · rw [if_neg h8]
    cases hl : linesR ⟨[], [], []⟩ 1 (linesL s) with
    | err n e => exact Or.inl ⟨n, e, linesR_err _ _ _ _ _ hl, rfl⟩
    | ok st =>
      have g := linesR_ki _ _ _ _ 0 ⟨fun x hx => (by cases hx), fun t ht => (by cases ht), Nat.le_refl _⟩ hl
      have hn := (linesL_len s).1
      unfold afterLines
      dsimp only
      cases ha : aimL st.tab st.code st.frm with
      | inl n => exact Or.inl ⟨n, 91, by decide, rfl⟩
      | inr l =>
        unfold afterAim
        dsimp only
        by_cases hc : (checkL l cells).2 = 0
        · rw [if_pos hc]
          refine Or.inr ⟨l, rfl, hc, fun x hx => ?_⟩
          have hk := aim_k st.tab (fun t ht => by have := g.tab t ht; omega) _ _ _ ha g.code x hx
          obtain ⟨a1, a2, a3⟩ := oneC_abc ((chk_tgt hc).2.1 x hx)
          exact ⟨by omega, by omega, by omega, hk⟩
        · rw [if_neg hc]
          by_cases h80 : (checkL l cells).2 = 80
          · rw [if_pos h80]
            exact Or.inl ⟨0, 80, by decide, rfl⟩
          · rw [if_neg h80]
            exact Or.inl ⟨_, _, hc, rfl⟩
end Go.Proofs.YthcidcfaodjbjacDoor
