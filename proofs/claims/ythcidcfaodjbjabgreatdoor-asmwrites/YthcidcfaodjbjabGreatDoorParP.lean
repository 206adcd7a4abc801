/- What a listing is read as: plain facts. -/
import Derived.Test.YthcidcfaodjbjabGreatDoorAim
namespace Go.Proofs.YthcidcfaodjbjabGreatDoor
set_option linter.unusedVariables false

theorem linesL_len : ∀ l : List UInt8, (linesL l).length ≤ l.length + 1 ∧ ∀ x ∈ linesL l, x.length ≤ l.length
  | [] => by simp [linesL]
  | b :: r => by
    obtain ⟨h1, h2⟩ := linesL_len r
    unfold linesL
    split
    · refine ⟨by simp; omega, fun x hx => ?_⟩
      rcases List.mem_cons.1 hx with rfl | hx
      · simp
      · have := h2 x hx; simp; omega
    · cases e : linesL r with
      | nil => simp
      | cons a t =>
        rw [e] at h1 h2
        refine ⟨by simp at h1 ⊢; omega, fun x hx => ?_⟩
        rcases List.mem_cons.1 hx with rfl | hx
        · have := h2 a (by simp); simp; omega
        · have := h2 x (by simp [hx]); simp; omega
theorem saidL_len : ∀ l : List UInt8, (saidL l).length ≤ l.length
  | [] => Nat.le_refl _
  | b :: r => by unfold saidL; split <;> simp; exact saidL_len r
theorem fieldsG_len : ∀ (l cur : List UInt8), (fieldsG l cur).length ≤ l.length + 1 ∧ ∀ x ∈ fieldsG l cur, x.length ≤ l.length + cur.length
  | [], cur => by
    unfold fieldsG
    split
    · simp
    · simp
  | b :: r, cur => by
    unfold fieldsG
    split
    · obtain ⟨h1, h2⟩ := fieldsG_len r []
      split
      · exact ⟨by simp; omega, fun x hx => by have := h2 x hx; simp at this ⊢; omega⟩
      · refine ⟨by simp; omega, fun x hx => ?_⟩
        rcases List.mem_cons.1 hx with rfl | hx
        · simp
        · have := h2 x hx; simp at this ⊢; omega
    · obtain ⟨h1, h2⟩ := fieldsG_len r (cur ++ [b])
      exact ⟨by simp; omega, fun x hx => by have := h2 x hx; simp at this ⊢; omega⟩

theorem labB_len {l : List UInt8} (h : labB l = true) : l.length ≤ 12 := by
  unfold labB at h
  simp only [Bool.and_eq_true, decide_eq_true_eq] at h
  exact h.1
theorem readL_lab {x y : In × List UInt8} {p : UInt8} {s : List UInt8} (hx : x.2.length ≤ 12) (h : readL x p s = some y) : y.2.length ≤ 12 := by
  unfold readL at h
  have hm : ∀ (o : Option Int) (f : Int → In), (o.map fun n => (f n, x.2)) = some y → y.2.length ≤ 12 := by
    intro o f hf
    cases o with
    | none => cases hf
    | some n => cases hf; exact hx
  split at h
  · exact hm _ _ h
  split at h
  · exact hm _ _ h
  split at h
  · exact hm _ _ h
  split at h
  · exact hm _ _ h
  split at h
  · exact hm _ _ h
  split at h
  · split at h
    · rename_i hl; cases h; exact labB_len hl
    · cases h
  · cases h
theorem readAll_lab : ∀ (ps : List UInt8) (ss : List (List UInt8)) (x y : In × List UInt8), x.2.length ≤ 12 → readAll x ps ss = some y → y.2.length ≤ 12
  | [], ss, x, y, hx, h => by cases ss <;> (cases h; exact hx)
  | p :: ps, [], x, y, hx, h => by cases h
  | p :: ps, s :: ss, x, y, hx, h => by
    unfold readAll at h
    cases hr : readL x p s with
    | none => rw [hr] at h; cases h
    | some z => rw [hr] at h; exact readAll_lab ps ss z y (readL_lab hx hr) h
theorem insL_lab {t : List UInt8} {ss : List (List UInt8)} {y : In × List UInt8} (h : insL t ss = some y) : y.2.length ≤ 12 := by
  unfold insL at h
  cases hm : meanL t with
  | none => rw [hm] at h; cases h
  | some s =>
    rw [hm] at h
    change (if _ then _ else _) = some y at h
    split at h
    · exact readAll_lab _ _ _ _ (by simp) h
    · cases h
/-- what stays so line by line -/
structure Good (k : Nat) (st : Rs) : Prop where
  len : st.code.length = st.frm.length
  code : st.code.length ≤ k
  tab : st.tab.length ≤ k
  lab : ∀ o ∈ st.frm, o.2.length ≤ 8192
theorem good0 : Good 0 ⟨[], [], []⟩ := ⟨rfl, Nat.le_refl _, Nat.le_refl _, fun o h => by cases h⟩
theorem Good.line {k : Nat} {st st' : Rs} {n : Int} {ps : List (List UInt8)} (g : Good k st) (h : lineL st n ps = .ok st') : Good (k + 1) st' := by
  have hi : ∀ o, insR st n o = .ok st' → (∀ y, o = some y → y.2.length ≤ 12) → Good (k + 1) st' := by
    intro o ho hy
    cases o with
    | none => cases ho
    | some y =>
      cases ho
      refine ⟨by simp [g.len], by have := g.code; simp; omega, by have := g.tab; simp; omega, fun o ho => ?_⟩
      rcases List.mem_append.1 ho with h | h
      · exact g.lab o h
      · rw [List.mem_singleton.1 h]; have := hy y rfl; simp; omega
  rcases ps with _ | ⟨p, r⟩
  · cases h
    exact ⟨g.len, by have := g.code; omega, by have := g.tab; omega, g.lab⟩
  · rcases r with _ | ⟨q, r⟩
    · by_cases hs : p.getLast? = some 58
      · rw [lineL_one_yes _ _ _ hs] at h
        unfold labelL at h
        split at h
        · split at h
          · cases h
          · cases h
            exact ⟨g.len, by have := g.code; simp; omega, by have := g.tab; simp; omega, g.lab⟩
        · cases h
      · rw [lineL_one_no _ _ _ hs] at h
        exact hi _ h (fun y hy => insL_lab hy)
    · rw [lineL_more] at h
      exact hi _ h (fun y hy => insL_lab hy)
theorem lineL_err {st : Rs} {n : Int} {ps : List (List UInt8)} {e : Int} (h : lineL st n ps = .err e) : e ≠ 0 := by
  have hi : ∀ o, insR st n o = .err e → e ≠ 0 := by
    intro o ho
    cases o with
    | none => cases ho; decide
    | some y => cases ho
  rcases ps with _ | ⟨p, r⟩
  · cases h
  · rcases r with _ | ⟨q, r⟩
    · by_cases hs : p.getLast? = some 58
      · rw [lineL_one_yes _ _ _ hs] at h
        unfold labelL at h
        split at h
        · split at h
          · cases h; decide
          · cases h
        · cases h; decide
      · rw [lineL_one_no _ _ _ hs] at h
        exact hi _ h
    · rw [lineL_more] at h
      exact hi _ h
theorem linesR_next (st : Rs) (n : Int) (L : List (List UInt8)) (k : Nat) (h : k < L.length) : linesR st n (L.drop k) = match lineL st n (fieldsL (saidL L[k])) with
    | .err e => .err n e
    | .ok s' => linesR s' (n + 1) (L.drop (k + 1)) := by
  rw [List.drop_eq_getElem_cons h]; rfl
theorem aimL_len (T : List (List UInt8 × Int)) : ∀ (l : List In) (os : List (Int × List UInt8)) (l' : List In), aimL T l os = .inr l' → l'.length = l.length
  | [], os, l', h => by cases os <;> (cases h; rfl)
  | x :: l, [], l', h => by cases h; rfl
  | x :: l, o :: os, l', h => by
    rw [aimL_cons] at h
    have hp : ∀ y, preA [y] (aimL T l os) = .inr l' → l'.length = (x :: l).length := by
      intro y hy
      cases e : aimL T l os with
      | inl n => rw [e] at hy; cases hy
      | inr m => rw [e] at hy; cases hy; have := aimL_len T l os m e; simp [this]
    split at h
    · exact hp _ h
    · split at h
      · cases h
      · exact hp _ h
/-- a line's number -/
def lineAt (frm : List (Int × List UInt8)) (i : Int) : Int := (frm.getD i.toNat (0, [])).1
/-- what comes of instructions whose labels are places -/
def afterAim (frm : List (Int × List UInt8)) (cells : Int) : Int ⊕ List In → List In × Int × Int
  | .inl n => ([], n, 91)
  | .inr l => if (checkL l cells).2 = 0 then (l, 0, 0) else if (checkL l cells).2 = 80 then ([], 0, 80) else ([], lineAt frm (checkL l cells).1, (checkL l cells).2)
def afterLines (cells : Int) : Pr → List In × Int × Int
  | .err n e => ([], n, e)
  | .ok st => afterAim st.frm cells (aimL st.tab st.code st.frm)
/-- what Parse answers: the instructions, the line, the error -/
def parseA (s : List UInt8) (cells : Int) : List In × Int × Int :=
  if 8192 < s.length then ([], 0, 30) else afterLines cells (linesR ⟨[], [], []⟩ 1 (linesL s))
theorem firstBad_lt (cells long : Int) : ∀ (l : List In) (i j : Nat) (e : Int), firstBad cells long i l = some (j, e) → i ≤ j ∧ j < i + l.length ∧ e ≠ 0
  | [], i, j, e, h => by cases h
  | x :: l, i, j, e, h => by
    unfold firstBad at h
    split at h
    · have := firstBad_lt cells long l (i + 1) j e h
      simp; omega
    · rename_i hne; cases h; exact ⟨Nat.le_refl _, by simp, hne⟩
theorem checkL_at (l : List In) (cells : Int) (h0 : (checkL l cells).2 ≠ 0) (h80 : (checkL l cells).2 ≠ 80) : ∃ i : Nat, (checkL l cells).1 = (i : Int) ∧ i < l.length := by
  unfold checkL at h0 h80 ⊢
  split
  · rename_i hl; rw [if_pos hl] at h80; exact absurd rfl h80
  · rename_i hl
    rw [if_neg hl] at h0 h80
    cases hb : firstBad cells (l.length : Int) 0 l with
    | some p =>
      obtain ⟨i, e⟩ := p
      have := firstBad_lt cells _ l 0 i e hb
      exact ⟨i, rfl, by omega⟩
    | none =>
      rw [hb] at h0 h80
      cases hg : l.getLast? with
      | none => rw [hg] at h80; exact absurd rfl h80
      | some x =>
        rw [hg] at h0 h80
        dsimp only at h0 h80 ⊢
        split
        · exact ⟨l.length - 1, by simp only; omega, by omega⟩
        · rename_i hf; rw [if_neg hf] at h0; exact absurd rfl h0
end Go.Proofs.YthcidcfaodjbjabGreatDoor
