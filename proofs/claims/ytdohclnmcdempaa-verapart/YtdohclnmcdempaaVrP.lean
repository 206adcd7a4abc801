/- A word's versions, without memory: rows of ages and values, the ages rising. -/
import Derived.Test.YtdohclnmcdempaaArP
namespace Go.Proofs.Ytdohclnmcdempaa
set_option linter.unusedVariables false

abbrev Ch2 := List (Int × Int)
def srt (k : Ch2) : Prop := k.Pairwise (fun x y => x.1 < y.1)
/-- the place of an age in a row -/
def pl : Ch2 → Int → Nat
  | [], _ => 0
  | x :: k, a => if x.1 < a then pl k a + 1 else 0
theorem pl_le : ∀ (k : Ch2) (a : Int), pl k a ≤ k.length
  | [], _ => Nat.le_refl _
  | x :: k, a => by
    unfold pl
    split
    · have := pl_le k a; simp; omega
    · omega
theorem pl_lt : ∀ (k : Ch2) (a : Int) (i : Nat) (h : i < k.length), i < pl k a → k[i].1 < a
  | [], _, i, h, _ => absurd h (Nat.not_lt_zero _)
  | x :: k, a, i, h, hi => by
    unfold pl at hi
    split at hi
    · rename_i q
      cases i with
      | zero => exact q
      | succ i => exact pl_lt k a i (by simpa using h) (by omega)
    · omega
theorem pl_ge : ∀ (k : Ch2) (a : Int), srt k → ∀ (i : Nat) (h : i < k.length), pl k a ≤ i → a ≤ k[i].1
  | [], _, _, i, h, _ => absurd h (Nat.not_lt_zero _)
  | x :: k, a, hs, i, h, hi => by
    have hs' := List.pairwise_cons.1 hs
    unfold pl at hi
    split at hi
    · cases i with
      | zero => omega
      | succ i => exact pl_ge k a hs'.2 i (by simpa using h) (by omega)
    · rename_i q
      cases i with
      | zero => exact Int.not_lt.1 q
      | succ i =>
        have := hs'.1 (k[i]'(by simpa using h)) (List.getElem_mem _)
        simp only [List.getElem_cons_succ]
        omega
/-- the place is told by what stands before and behind it -/
theorem pl_is (k : Ch2) (a : Int) (p : Nat) (hp : p ≤ k.length) (h1 : ∀ i (h : i < k.length), i < p → k[i].1 < a) (h2 : ∀ i (h : i < k.length), p ≤ i → a ≤ k[i].1) : pl k a = p := by
  induction k generalizing p with
  | nil => simp at hp; subst hp; rfl
  | cons x k ih =>
    cases p with
    | zero =>
      have := h2 0 (by simp) (Nat.le_refl _)
      unfold pl
      rw [if_neg (by simpa using this)]
    | succ p =>
      have := h1 0 (by simp) (by omega)
      unfold pl
      rw [if_pos (by simpa using this)]
      congr 1
      refine ih p (by simpa using hp) (fun i h hi => ?_) (fun i h hi => ?_)
      · exact h1 (i + 1) (by simpa using h) (by omega)
      · exact h2 (i + 1) (by simpa using h) (by omega)
def hasK (k : Ch2) (a : Int) : Bool := match k[pl k a]? with
  | some x => x.1 == a
  | none => false
theorem hasK_iff {k : Ch2} (hs : srt k) (a : Int) : hasK k a = true ↔ ∃ v, (a, v) ∈ k := by
  unfold hasK
  constructor
  · intro h
    cases hk : k[pl k a]? with
    | none => rw [hk] at h; simp at h
    | some x =>
      rw [hk] at h
      have e : x.1 = a := by simpa using h
      exact ⟨x.2, by rw [← e]; exact List.mem_of_getElem? hk⟩
  · rintro ⟨v, hv⟩
    obtain ⟨i, hi, e⟩ := List.getElem_of_mem hv
    have h1 : ¬ i < pl k a := fun q => by have := pl_lt k a i hi q; rw [e] at this; simp at this
    have h2 : pl k a = i := by
      rcases Nat.lt_or_ge (pl k a) i with q | q
      · have hl : pl k a < k.length := by omega
        have g1 := pl_ge k a hs (pl k a) hl (Nat.le_refl _)
        have g2 := (List.pairwise_iff_getElem.1 hs) (pl k a) i hl hi q
        rw [e] at g2
        simp only at g2
        omega
      · omega
    rw [h2, List.getElem?_eq_getElem hi, e]
    simp
/-- with an age's version -/
def putK (k : Ch2) (a v : Int) : Ch2 := if hasK k a then k.set (pl k a) (a, v) else k.take (pl k a) ++ (a, v) :: k.drop (pl k a)
def dropK (k : Ch2) (a : Int) : Ch2 := if hasK k a then k.take (pl k a) ++ k.drop (pl k a + 1) else k
theorem has_at {k : Ch2} {a : Int} (h : hasK k a = true) : ∃ h : pl k a < k.length, (k[pl k a]).1 = a := by
  unfold hasK at h
  cases hk : k[pl k a]? with
  | none => rw [hk] at h; simp at h
  | some x =>
    rw [hk] at h
    obtain ⟨h1, h2⟩ := List.getElem?_eq_some_iff.1 hk
    exact ⟨h1, by rw [h2]; simpa using h⟩
theorem nothas_at {k : Ch2} {a : Int} (h : hasK k a = false) (hl : pl k a < k.length) : (k[pl k a]).1 ≠ a := by
  unfold hasK at h
  rw [List.getElem?_eq_getElem hl] at h
  simpa using h
theorem srt_take_drop {k : Ch2} (hs : srt k) (p : Nat) : ∀ x ∈ k.take p, ∀ y ∈ k.drop p, x.1 < y.1 := by
  have : srt (k.take p ++ k.drop p) := by rw [List.take_append_drop]; exact hs
  exact (List.pairwise_append.1 this).2.2
theorem mem_take_lt {k : Ch2} {a : Int} {x : Int × Int} (h : x ∈ k.take (pl k a)) : x.1 < a := by
  obtain ⟨i, hi, rfl⟩ := List.getElem_of_mem h
  rw [List.getElem_take]
  exact pl_lt k a i _ (by simp at hi; omega)
theorem mem_drop_ge {k : Ch2} {a : Int} (hs : srt k) {x : Int × Int} (h : x ∈ k.drop (pl k a)) : a ≤ x.1 := by
  obtain ⟨i, hi, rfl⟩ := List.getElem_of_mem h
  rw [List.getElem_drop]
  exact pl_ge k a hs _ _ (by omega)
theorem split_at {k : Ch2} {a : Int} (h : hasK k a = true) : ∃ v, k = k.take (pl k a) ++ (a, v) :: k.drop (pl k a + 1) := by
  obtain ⟨h1, h2⟩ := has_at h
  refine ⟨(k[pl k a]).2, ?_⟩
  have e : (a, (k[pl k a]).2) = k[pl k a] := Prod.ext h2.symm rfl
  rw [e, List.getElem_cons_drop, List.take_append_drop]
theorem set_eq {k : Ch2} {p : Nat} (x : Int × Int) (h : p < k.length) : k.set p x = k.take p ++ x :: k.drop (p + 1) := by
  rw [List.set_eq_take_append_cons_drop, if_pos h]
theorem mem_rest {k : Ch2} {a : Int} (hs : srt k) (h : hasK k a = true) {x : Int × Int} (hx : x ∈ k.drop (pl k a + 1)) : a < x.1 := by
  obtain ⟨v, e⟩ := split_at h
  have : srt (k.take (pl k a) ++ (a, v) :: k.drop (pl k a + 1)) := by rw [← e]; exact hs
  exact (List.pairwise_cons.1 (List.pairwise_append.1 this).2.1).1 x hx
theorem mem_drop_gt {k : Ch2} {a : Int} (hs : srt k) (h : hasK k a = false) {x : Int × Int} (hx : x ∈ k.drop (pl k a)) : a < x.1 := by
  have h1 := mem_drop_ge hs hx
  have h2 : x.1 ≠ a := fun e => by
    have : hasK k a = true := (hasK_iff hs a).2 ⟨x.2, by rw [← e]; exact List.mem_of_mem_drop hx⟩
    rw [h] at this; cases this
  omega
theorem mem_putK {k : Ch2} (hs : srt k) (a v : Int) (x : Int × Int) : x ∈ putK k a v ↔ x = (a, v) ∨ (x.1 ≠ a ∧ x ∈ k) := by
  unfold putK
  cases h : hasK k a with
  | true =>
    obtain ⟨h1, h2⟩ := has_at h
    obtain ⟨u, e⟩ := split_at h
    rw [if_pos rfl, set_eq _ h1]
    constructor
    · intro q
      rcases List.mem_append.1 q with q | q
      · exact .inr ⟨by have := mem_take_lt q; omega, List.mem_of_mem_take q⟩
      · rcases List.mem_cons.1 q with q | q
        · exact .inl q
        · exact .inr ⟨by have := mem_rest hs h q; omega, List.mem_of_mem_drop q⟩
    · rintro (rfl | ⟨q1, q2⟩)
      · simp
      · rw [e] at q2
        rcases List.mem_append.1 q2 with q | q
        · exact List.mem_append.2 (.inl q)
        · rcases List.mem_cons.1 q with q | q
          · exact absurd (by rw [q]) q1
          · exact List.mem_append.2 (.inr (List.mem_cons_of_mem _ q))
  | false =>
    rw [if_neg (by simp)]
    constructor
    · intro q
      rcases List.mem_append.1 q with q | q
      · exact .inr ⟨by have := mem_take_lt q; omega, List.mem_of_mem_take q⟩
      · rcases List.mem_cons.1 q with q | q
        · exact .inl q
        · exact .inr ⟨by have := mem_drop_gt hs h q; omega, List.mem_of_mem_drop q⟩
    · rintro (rfl | ⟨q1, q2⟩)
      · simp
      · rw [← List.take_append_drop (pl k a) k] at q2
        rcases List.mem_append.1 q2 with q | q
        · exact List.mem_append.2 (.inl q)
        · exact List.mem_append.2 (.inr (List.mem_cons_of_mem _ q))
theorem mem_dropK {k : Ch2} (hs : srt k) (a : Int) (x : Int × Int) : x ∈ dropK k a ↔ x.1 ≠ a ∧ x ∈ k := by
  unfold dropK
  cases h : hasK k a with
  | true =>
    obtain ⟨u, e⟩ := split_at h
    rw [if_pos rfl]
    constructor
    · intro q
      rcases List.mem_append.1 q with q | q
      · exact ⟨by have := mem_take_lt q; omega, List.mem_of_mem_take q⟩
      · exact ⟨by have := mem_rest hs h q; omega, List.mem_of_mem_drop q⟩
    · rintro ⟨q1, q2⟩
      rw [e] at q2
      rcases List.mem_append.1 q2 with q | q
      · exact List.mem_append.2 (.inl q)
      · rcases List.mem_cons.1 q with q | q
        · exact absurd (by rw [q]) q1
        · exact List.mem_append.2 (.inr q)
  | false =>
    rw [if_neg (by simp)]
    constructor
    · intro q
      refine ⟨fun e => ?_, q⟩
      have : hasK k a = true := (hasK_iff hs a).2 ⟨x.2, by rw [← e]; exact q⟩
      rw [h] at this; cases this
    · exact fun q => q.2
theorem srt_putK {k : Ch2} (hs : srt k) (a v : Int) : srt (putK k a v) := by
  have ht := List.pairwise_append.1 (show srt (k.take (pl k a) ++ k.drop (pl k a)) by rw [List.take_append_drop]; exact hs)
  unfold putK
  cases h : hasK k a with
  | true =>
    obtain ⟨h1, h2⟩ := has_at h
    rw [if_pos rfl, set_eq _ h1]
    refine List.pairwise_append.2 ⟨ht.1, List.pairwise_cons.2 ⟨fun x hx => mem_rest hs h hx, ?_⟩, fun x hx y hy => ?_⟩
    · exact List.Pairwise.sublist (List.drop_sublist _ _) hs
    · have := mem_take_lt hx
      rcases List.mem_cons.1 hy with q | q
      · rw [q]; exact this
      · have := mem_rest hs h q; omega
  | false =>
    rw [if_neg (by simp)]
    refine List.pairwise_append.2 ⟨ht.1, List.pairwise_cons.2 ⟨fun x hx => mem_drop_gt hs h hx, ht.2.1⟩, fun x hx y hy => ?_⟩
    have := mem_take_lt hx
    rcases List.mem_cons.1 hy with q | q
    · rw [q]; exact this
    · have := mem_drop_gt hs h q; omega
theorem srt_dropK {k : Ch2} (hs : srt k) (a : Int) : srt (dropK k a) := by
  unfold dropK
  split
  · refine List.Pairwise.sublist ?_ hs
    have : List.Sublist (k.take (pl k a) ++ k.drop (pl k a + 1)) (k.take (pl k a) ++ k.drop (pl k a)) := List.Sublist.append (List.Sublist.refl _) (by rw [← List.drop_drop]; exact List.drop_sublist _ _)
    rw [List.take_append_drop] at this
    exact this
  · exact hs
/-- rising rows of the same things are one -/
theorem srt_ext : ∀ {k l : Ch2}, srt k → srt l → (∀ x, x ∈ k ↔ x ∈ l) → k = l
  | [], [], _, _, _ => rfl
  | [], y :: l, _, _, h => absurd ((h y).2 (by simp)) (by simp)
  | x :: k, [], _, _, h => absurd ((h x).1 (by simp)) (by simp)
  | x :: k, y :: l, hk, hl, h => by
    have h1 := List.pairwise_cons.1 hk
    have h2 := List.pairwise_cons.1 hl
    have e : x = y := by
      rcases List.mem_cons.1 ((h x).1 (by simp)) with q | q
      · exact q
      · rcases List.mem_cons.1 ((h y).2 (by simp)) with r | r
        · exact r.symm
        · have a := h2.1 x q; have b := h1.1 y r; omega
    subst e
    congr 1
    refine srt_ext h1.2 h2.2 (fun z => ?_)
    have := h z
    simp only [List.mem_cons] at this
    constructor
    · intro q
      rcases this.1 (.inr q) with r | r
      · subst r; have := h1.1 z q; omega
      · exact r
    · intro q
      rcases this.2 (.inr q) with r | r
      · subst r; have := h2.1 z q; omega
      · exact r
/-- what an age reads: the version of the greatest age below it -/
def oldK (k : Ch2) (a : Int) : Option (Int × Int) := if pl k a = 0 then none else k[pl k a - 1]?
theorem oldK_some {k : Ch2} (hs : srt k) {a : Int} {x : Int × Int} (h : oldK k a = some x) : x ∈ k ∧ x.1 < a ∧ ∀ y ∈ k, y.1 < a → y.1 ≤ x.1 := by
  unfold oldK at h
  split at h
  · cases h
  · rename_i hp
    obtain ⟨h1, h2⟩ := List.getElem?_eq_some_iff.1 h
    refine ⟨List.mem_of_getElem? h, ?_, fun y hy hlt => ?_⟩
    · rw [← h2]; exact pl_lt k a _ h1 (by omega)
    · obtain ⟨i, hi, rfl⟩ := List.getElem_of_mem hy
      have hip : i < pl k a := by
        rcases Nat.lt_or_ge i (pl k a) with q | q
        · exact q
        · have := pl_ge k a hs i hi q; omega
      rcases Nat.lt_or_ge i (pl k a - 1) with q | q
      · have := (List.pairwise_iff_getElem.1 hs) i (pl k a - 1) hi h1 q
        rw [h2] at this; omega
      · have : i = pl k a - 1 := by omega
        subst this
        rw [h2]; exact Int.le_refl _
theorem oldK_none {k : Ch2} (hs : srt k) {a : Int} (h : oldK k a = none) : ∀ y ∈ k, a ≤ y.1 := by
  unfold oldK at h
  have hp : pl k a = 0 := by
    split at h
    · assumption
    · have := List.getElem?_eq_none_iff.1 h
      have := pl_le k a
      omega
  intro y hy
  obtain ⟨i, hi, rfl⟩ := List.getElem_of_mem hy
  exact pl_ge k a hs i hi (by omega)
end Go.Proofs.Ytdohclnmcdempaa
