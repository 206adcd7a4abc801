/- Plain: a heap of numbers that lies in a row: one goes up, one goes down. -/
import Derived.WalkKit
namespace Go.Proofs.Ytongeppdaeekeaa
set_option linter.unusedVariables false

def at0 (a : List Int) (i : Nat) : Int := a.getD i 0
theorem at0_get (a : List Int) (i : Nat) (h : i < a.length) : at0 a i = a[i] := by simp [at0, List.getD, h]
def swp (a : List Int) (i j : Nat) : List Int := (a.set i (at0 a j)).set j (at0 a i)
theorem swp_len (a : List Int) (i j : Nat) : (swp a i j).length = a.length := by simp [swp]
theorem swp_at (a : List Int) (i j k : Nat) (hi : i < a.length) (hj : j < a.length) (hk : k < a.length) : at0 (swp a i j) k = if k = j then at0 a i else if k = i then at0 a j else at0 a k := by
  unfold swp
  generalize at0 a j = y
  generalize at0 a i = x
  unfold at0 List.getD
  rw [List.getElem?_set, List.getElem?_set]
  by_cases h1 : k = j
  · subst h1; simp [hk]
  · rw [if_neg (Ne.symm h1), if_neg h1]
    by_cases h2 : k = i
    · subst h2; simp [hk]
    · rw [if_neg (Ne.symm h2), if_neg h2]
theorem swp_perm (a : List Int) (i j : Nat) (hi : i < a.length) (hj : j < a.length) : (swp a i j).Perm a := by
  have h := Array.swap_perm (xs := a.toArray) (i := i) (j := j) (by simpa using hi) (by simpa using hj)
  have h2 := h.toList
  have e : (a.toArray.swap i j (by simpa using hi) (by simpa using hj)).toList = swp a i j := by
    unfold swp
    simp [Array.swap, at0_get, hi, hj]
  rw [e] at h2
  simpa using h2
/-- a heap: no one is above those below it -/
def HpO (a : List Int) (n : Nat) : Prop := ∀ k, 0 < k → k < n → at0 a ((k - 1) / 2) ≤ at0 a k
/-- a heap but at j, which may be less than what stands over it -/
def UpO (a : List Int) (n j : Nat) : Prop := (∀ k, 0 < k → k < n → k ≠ j → at0 a ((k - 1) / 2) ≤ at0 a k) ∧ ∀ k, 0 < k → k < n → (k - 1) / 2 = j → 0 < j → at0 a ((j - 1) / 2) ≤ at0 a k
/-- a heap but under i, where what stands under it may be less -/
def DnO (a : List Int) (n i : Nat) : Prop := (∀ k, 0 < k → k < n → (k - 1) / 2 ≠ i → at0 a ((k - 1) / 2) ≤ at0 a k) ∧ ∀ k, 0 < k → k < n → (k - 1) / 2 = i → 0 < i → at0 a ((i - 1) / 2) ≤ at0 a k
theorem HpO.min {a : List Int} {n : Nat} (h : HpO a n) : ∀ k, k < n → at0 a 0 ≤ at0 a k := by
  intro k
  induction k using Nat.strongRecOn with
  | _ k ih =>
    intro hk
    by_cases h0 : k = 0
    · subst h0; exact Int.le_refl _
    · exact Int.le_trans (ih ((k - 1) / 2) (by omega) (by omega)) (h k (by omega) hk)
theorem UpO.stop {a : List Int} {n j : Nat} (h : UpO a n j) (hs : j = 0 ∨ at0 a ((j - 1) / 2) ≤ at0 a j) : HpO a n := by
  intro k h0 hk
  by_cases e : k = j
  · subst e
    rcases hs with r | r
    · omega
    · exact r
  · exact h.1 k h0 hk e
theorem UpO.go {a : List Int} {n j : Nat} (h : UpO a n j) (hn : n ≤ a.length) (hj : j < n) (h0 : 0 < j) (hlt : at0 a j < at0 a ((j - 1) / 2)) : UpO (swp a ((j - 1) / 2) j) n ((j - 1) / 2) := by
  obtain ⟨p, hp⟩ : ∃ p, (j - 1) / 2 = p := ⟨_, rfl⟩
  rw [hp] at hlt ⊢
  have hpj : p < j := by omega
  have S := fun k (hk : k < n) => swp_at a p j k (by omega) (by omega) (by omega)
  refine ⟨fun k k0 hk hne => ?_, fun k k0 hk he hp0 => ?_⟩
  · rw [S k hk, S ((k - 1) / 2) (by omega)]
    by_cases e1 : k = j
    · subst e1
      rw [if_pos rfl, if_neg (by omega), if_pos hp]; omega
    · rw [if_neg e1, if_neg hne]
      by_cases e2 : (k - 1) / 2 = j
      · rw [if_pos e2]
        have := h.2 k k0 hk e2 h0
        rw [hp] at this; exact this
      · rw [if_neg e2]
        by_cases e3 : (k - 1) / 2 = p
        · rw [if_pos e3]
          have := h.1 k k0 hk e1
          rw [e3] at this; omega
        · rw [if_neg e3]; exact h.1 k k0 hk e1
  · have q1 := h.1 p hp0 (by omega) (by omega)
    rw [S k hk, S ((p - 1) / 2) (by omega), if_neg (by omega), if_neg (by omega)]
    by_cases e1 : k = j
    · rw [if_pos e1]; exact q1
    · rw [if_neg e1, if_neg (by omega)]
      have := h.1 k k0 hk e1
      rw [he] at this; omega
theorem DnO.stop {a : List Int} {n i : Nat} (h : DnO a n i) (hs : ∀ k, 0 < k → k < n → (k - 1) / 2 = i → at0 a i ≤ at0 a k) : HpO a n := by
  intro k h0 hk
  by_cases e : (k - 1) / 2 = i
  · rw [e]; exact hs k h0 hk e
  · exact h.1 k h0 hk e
theorem DnO.go {a : List Int} {n i c : Nat} (h : DnO a n i) (hn : n ≤ a.length) (hc : c < n) (h0 : 0 < c) (hi : (c - 1) / 2 = i) (hlt : at0 a c < at0 a i) (hm : ∀ k, 0 < k → k < n → (k - 1) / 2 = i → at0 a c ≤ at0 a k) : DnO (swp a i c) n c := by
  have hic : i < c := by omega
  have S := fun k (hk : k < n) => swp_at a i c k (by omega) (by omega) (by omega)
  refine ⟨fun k k0 hk hne => ?_, fun k k0 hk he _ => ?_⟩
  · rw [S k hk, S ((k - 1) / 2) (by omega), if_neg hne]
    by_cases e1 : k = c
    · subst e1
      rw [if_pos rfl, if_pos hi]; omega
    · rw [if_neg e1]
      by_cases e2 : k = i
      · subst e2
        rw [if_pos rfl, if_neg (by omega)]
        exact h.2 c h0 hc hi k0
      · rw [if_neg e2]
        by_cases e3 : (k - 1) / 2 = i
        · rw [if_pos e3]; exact hm k k0 hk e3
        · rw [if_neg e3]; exact h.1 k k0 hk e3
  · rw [S k hk, S ((c - 1) / 2) (by omega), if_neg (by omega), if_pos hi, if_neg (by omega), if_neg (by omega)]
    have := h.1 k k0 hk (by omega)
    rw [he] at this; exact this
/-- one put at the end of a heap -/
theorem HpO.push {a : List Int} {n : Nat} (h : HpO a a.length) (x : Int) : UpO (a ++ [x]) (a.length + 1) a.length := by
  have e : ∀ k, k < a.length → at0 (a ++ [x]) k = at0 a k := fun k hk => by rw [at0_get _ _ (by simp; omega), at0_get _ _ hk]; exact List.getElem_append_left hk
  refine ⟨fun k k0 hk hne => ?_, fun k k0 hk he h0 => by omega⟩
  rw [e _ (by omega), e _ (by omega)]
  exact h k k0 (by omega)
/-- the first and the last are exchanged -/
theorem HpO.turn {a : List Int} (h : HpO a a.length) (m : Nat) (hm : a.length = m + 1) : DnO (swp a 0 m) m 0 := by
  have S := fun k (hk : k < m) => swp_at a 0 m k (by omega) (by omega) (by omega)
  refine ⟨fun k k0 hk hne => ?_, fun k k0 hk he h0 => by omega⟩
  rw [S k hk, S _ (by omega), if_neg (by omega), if_neg (by omega), if_neg (by omega), if_neg (by omega)]
  exact h k k0 (by omega)
theorem HpO.of_perm_take {a : List Int} {m : Nat} (h : HpO a m) (hm : m ≤ a.length) : HpO (a.take m) (a.take m).length := by
  intro k k0 hk
  have hl : (a.take m).length = m := by simp; omega
  rw [hl] at hk
  have e : ∀ k, k < m → at0 (a.take m) k = at0 a k := fun k hk => by
    rw [at0_get _ _ (by omega), at0_get _ _ (by omega)]; simp
  rw [e _ (by omega), e _ hk]
  exact h k k0 hk
theorem HpO.nil : HpO [] ([] : List Int).length := fun k _ hk => absurd hk (by simp)
end Go.Proofs.Ytongeppdaeekeaa
