/- What is written is read as the same. -/
import Derived.Test.YthcidcfaodjbjacDoorBkB
namespace Go.Proofs.YthcidcfaodjbjacDoor
set_option linter.unusedVariables false
/-- the lines of the first k -/
def linesN (l : List In) : Nat → List (List UInt8)
  | 0 => []
  | k + 1 => linesN l k ++ ((if aimT l k = true then [labelT k ++ [58]] else []) ++ [listT (l.getD k ⟨1, 0, 0, 0, 0, 0⟩)])
theorem linesN_succ (l : List In) (k : Nat) (h : k < l.length) : linesN l (k + 1) = linesN l k ++ ((if aimT l k = true then [labelT k ++ [58]] else []) ++ [listT l[k]]) := by
  rw [linesN, List.getD_eq_getElem?_getD, List.getElem?_eq_getElem h]
  rfl
theorem lines_text {l : List In} {cells : Int} (hl : l.length ≤ 600) (hf : ∀ x ∈ l, Fit x cells l.length) : ∀ (k : Nat), k ≤ l.length → ∀ r, linesL (textN l k ++ r) = linesN l k ++ linesL r
  | 0, _, r => rfl
  | k + 1, hk, r => by
    have f := hf l[k] (List.getElem_mem _)
    have h1 := join_count 10 (Or.inl rfl) _ _ (f.all (by omega))
    have h2 := cln_parts (label_cln k (by omega))
    have e1 : linesL (listT l[k] ++ 10 :: r) = listT l[k] :: linesL r := linesL_at _ _ h1
    rw [textN_succ l k (by omega), linesN_succ l k (by omega), List.append_assoc, lines_text hl hf k (by omega)]
    unfold lineT
    by_cases ha : aimT l k = true
    · rw [if_pos ha, if_pos ha]
      have e2 : linesL ((labelT k ++ [58]) ++ 10 :: (listT l[k] ++ 10 :: r)) = (labelT k ++ [58]) :: linesL (listT l[k] ++ 10 :: r) := linesL_at _ _ (by rw [List.count_append, h2.2.2.1]; rfl)
      rw [e1] at e2
      simp only [List.append_assoc, List.cons_append, List.nil_append] at e2 ⊢
      rw [e2]
    · rw [if_neg ha, if_neg ha]
      simp only [List.append_assoc, List.cons_append, List.nil_append]
      rw [e1]
theorem linesR_append : ∀ (A B : List (List UInt8)) (s : Rs) (n : Int), linesR s n (A ++ B) = match linesR s n A with
    | .err m e => .err m e
    | .ok s' => linesR s' (n + A.length) B
  | [], B, s, n => by simp [linesR]
  | a :: A, B, s, n => by
    rw [List.cons_append, linesR, linesR]
    cases lineL s n (fieldsL (saidL a)) with
    | err e => rfl
    | ok s' =>
      dsimp only
      rw [linesR_append A B s' (n + 1)]
      have : n + 1 + (A.length : Int) = n + ((a :: A).length : Int) := by simp; omega
      rw [this]
/-- the labels of the first k -/
def tabN (l : List In) : Nat → List (List UInt8 × Int)
  | 0 => []
  | k + 1 => tabN l k ++ (if aimT l k = true then [(labelT k, (k : Int))] else [])
theorem label_inj {i k : Nat} (hi : i < 600) (hk : k < 600) (h : labelT i = labelT k) : i = k := by
  unfold labelT at h
  injection h with _ h
  have h1 := (parse_text (i : Int) (by omega) (by omega)).1
  have h2 := (parse_text (k : Int) (by omega) (by omega)).1
  rw [h, h2] at h1
  injection h1 with h1
  omega
theorem find_append (A B : List (List UInt8 × Int)) (s : List UInt8) : findT (A ++ B) s = (findT A s).or (findT B s) := by
  unfold findT
  rw [List.find?_append]
  cases A.find? (fun x => x.1 == s) <;> rfl
theorem find_no (l : List In) (p : Nat) (hp : p < 600) : ∀ k : Nat, k ≤ p → findT (tabN l k) (labelT p) = none
  | 0, _ => rfl
  | k + 1, h => by
    rw [tabN, find_append, find_no l p hp k (by omega)]
    split
    · have : (labelT k == labelT p) = false := beq_eq_false_iff_ne.2 fun e => by have := label_inj (by omega) hp e; omega
      simp [findT, this]
    · rfl
theorem find_yes (l : List In) (p : Nat) (hp : p < 600) (ha : aimT l p = true) : ∀ k : Nat, p < k → findT (tabN l k) (labelT p) = some (p : Int)
  | 0, h => by omega
  | k + 1, h => by
    rw [tabN, find_append]
    by_cases e : p = k
    · subst e
      rw [find_no l p hp p (Nat.le_refl _), if_pos ha]
      simp [findT]
    · rw [find_yes l p hp ha k (by omega)]
      rfl
theorem read_lines {l : List In} {cells : Int} (hl : l.length ≤ 600) (hf : ∀ x ∈ l, Fit x cells l.length) : ∀ (k : Nat), k ≤ l.length → ∃ frm : List (Int × List UInt8), linesR ⟨[], [], []⟩ 1 (linesN l k) = .ok ⟨(l.take k).map baseI, frm, tabN l k⟩ ∧ frm.map (·.2) = (l.take k).map nameI
  | 0, _ => ⟨[], rfl, rfl⟩
  | k + 1, hk => by
    obtain ⟨frm, h1, h2⟩ := read_lines hl hf k (by omega)
    have f := hf l[k] (List.getElem_mem _)
    have ht : l.take (k + 1) = l.take k ++ [l[k]] := List.take_succ_eq_append_getElem (by omega)
    have hlen : ((l.take k).map baseI).length = k := by simp; omega
    rw [linesN_succ l k (by omega), linesR_append, h1]
    dsimp only
    rw [ht, List.map_append, List.map_append, tabN]
    by_cases ha : aimT l k = true
    · rw [if_pos ha, if_pos ha, List.cons_append, List.nil_append, linesR, lbl_line k (by omega) _ _ (find_no l k (by omega) k (Nat.le_refl _))]
      dsimp only
      rw [linesR, f.line (by omega)]
      dsimp only
      rw [linesR, hlen]
      exact ⟨_, rfl, by rw [List.map_append, h2]; rfl⟩
    · rw [if_neg ha, if_neg ha, List.nil_append, linesR, f.line (by omega)]
      dsimp only
      rw [linesR, List.append_nil]
      exact ⟨_, rfl, by rw [List.map_append, h2]; rfl⟩
theorem aim_back (T : List (List UInt8 × Int)) : ∀ (l : List In) (frm : List (Int × List UInt8)), frm.map (·.2) = l.map nameI → (∀ x ∈ l, labI x = true → findT T (labelT x.k) = some x.k) → aimL T (l.map baseI) frm = .inr l
  | [], _, _, _ => rfl
  | x :: l, [], h, _ => by cases h
  | x :: l, o :: os, h, hT => by
    rw [List.map_cons, List.map_cons] at h
    injection h with h1 h2
    have ih := aim_back T l os h2 (fun y hy => hT y (List.mem_cons_of_mem _ hy))
    rw [List.map_cons, aimL, h1, ih]
    cases hb : labI x with
    | false =>
      rw [(base_no hb).1, (base_no hb).2, if_pos rfl]
    | true =>
      rw [(base_yes hb).1, (base_yes hb).2, if_neg (by unfold labelT; simp), hT x (List.mem_cons_self ..) hb]
theorem parse_back {l : List In} {cells : Int} (hc : (checkL l cells).2 = 0) (hW : ∀ x ∈ l, InW x) (ht : (textN l l.length).length ≤ 8192) : parseA (textN l l.length) cells = (l, 0, 0) := by
  obtain ⟨hl, ho, hk⟩ := chk_tgt hc
  have hf : ∀ x ∈ l, Fit x cells l.length := fun x hx => ⟨hW x hx, ho x hx⟩
  obtain ⟨frm, h1, h2⟩ := read_lines hl.2 hf l.length (Nat.le_refl _)
  have e := lines_text hl.2 hf l.length (Nat.le_refl _) []
  rw [List.append_nil] at e
  unfold parseA
  rw [if_neg (by omega), e, linesR_append, h1]
  dsimp only
  rw [List.take_length] at h2 ⊢
  have e2 : ∀ s n, linesR s n (linesL []) = .ok s := fun s n => rfl
  rw [e2]
  unfold afterLines
  dsimp only
  rw [aim_back _ l frm h2 ?_]
  · unfold afterAim
    dsimp only
    rw [if_pos hc]
  · intro x hx hb
    obtain ⟨k0, k1⟩ := hk x hx hb
    obtain ⟨p, hp⟩ : ∃ p : Nat, x.k = p := ⟨x.k.toNat, by omega⟩
    rw [hp]
    refine find_yes l p (by omega) ?_ l.length (by omega)
    unfold aimT
    exact List.any_eq_true.2 ⟨x, hx, by rw [hb, hp]; simp⟩
end Go.Proofs.YthcidcfaodjbjacDoor
