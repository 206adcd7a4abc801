/- Plain mathematics of digits: what a number's text is, and what a text of digits says. -/
import Derived.WalkKit
namespace Go.Proofs.YthcidcfaodjbjabGreatDoor
open Go.RowKit

/-- how far a number is from 0 -/
def mag (n : Int) : Int := if n < 0 then -n else n

def digsF : Nat → Nat → List UInt8
  | 0, _ => []
  | f + 1, n => (if n < 10 then [] else digsF f (n / 10)) ++ [UInt8.ofNat (48 + n % 10)]

/-- what the array holds: the digits from place k on, m is left to be written -/
def TI (u : Nat) (k : Nat) (m : Nat) (C : Array Value) : Prop :=
  1 ≤ k ∧ k ≤ 20 ∧ m < 10 ^ (k - 1) ∧ C.size = 20 ∧ (k = 20 → m = u) ∧
  ∃ L : List UInt8, L.length = 20 - k ∧ (∀ i, (h : i < L.length) → C[k + i]? = some (.int .u8 ((L[i]).toNat : Int))) ∧ (k < 20 → digsF 20 u = (if m = 0 then [] else digsF k m) ++ L)

theorem TI.start (u : Nat) (C : Array Value) (hu : u < 10 ^ 19) (hC : C.size = 20) : TI u 20 u C :=
  ⟨by omega, by omega, by simpa using hu, hC, fun _ => rfl, [], rfl, fun i h => by simp at h, fun h => by omega⟩

theorem TI.step {u k m : Nat} {C : Array Value} (h : TI u k m C) (hm : 0 < m ∨ k = 20) :
    2 ≤ k ∧ TI u (k - 1) (m / 10) (C.setIfInBounds (k - 1) (.int .u8 (48 + (m : Int) % 10))) := by
  obtain ⟨h1, h2, h3, h4, h5, L, h6, h7, h8⟩ := h
  have hk : 2 ≤ k := by
    rcases Nat.lt_or_ge 1 k with hk | hk
    · exact hk
    · have : k = 1 := by omega
      subst this
      simp at h3
      omega
  refine ⟨hk, by omega, by omega, ?_, by simpa using h4, fun e => by omega, UInt8.ofNat (48 + m % 10) :: L, by simp [h6]; omega, ?_, ?_⟩
  · have e : k - 1 = (k - 1 - 1) + 1 := by omega
    rw [e, Nat.pow_succ] at h3
    omega
  · intro i hi
    have hb : ((UInt8.ofNat (48 + m % 10)).toNat : Int) = 48 + (m : Int) % 10 := by
      have : (48 + m % 10) < 256 := by omega
      simp [UInt8.toNat_ofNat']
      omega
    rcases i with _ | i
    · simp only [Nat.add_zero, List.getElem_cons_zero]
      rw [Array.getElem?_setIfInBounds, if_pos rfl, if_pos (by omega), hb]
    · simp only [List.getElem_cons_succ]
      rw [Array.getElem?_setIfInBounds, if_neg (by omega), show k - 1 + (i + 1) = k + i by omega]
      exact h7 i (by simpa using hi)
  · intro _
    have eF : digsF k m = (if m < 10 then [] else digsF (k - 1) (m / 10)) ++ [UInt8.ofNat (48 + m % 10)] := by
      have : k = (k - 1) + 1 := by omega
      conv => lhs; rw [this]
      rfl
    have e2 : (if m / 10 = 0 then [] else digsF (k - 1) (m / 10)) = (if m < 10 then [] else digsF (k - 1) (m / 10)) := by
      by_cases hm10 : m < 10
      · rw [if_pos hm10, if_pos (by omega)]
      · rw [if_neg hm10, if_neg (by omega)]
    rw [e2]
    by_cases hk20 : k = 20
    · have := h5 hk20
      subst this
      have hL : L = [] := by
        apply List.eq_nil_of_length_eq_zero; omega
      subst hL
      rw [← hk20, eF]
    · rw [h8 (by omega)]
      have hm0 : m ≠ 0 := by omega
      rw [if_neg hm0, eF]
      simp

/-- a number's text -/
def text (n : Int) : List UInt8 := (if n < 0 then [45] else []) ++ digsF 20 (mag n).toNat

theorem TI.done {u k : Nat} {C : Array Value} (h : TI u k 0 C) (hk : k < 20) :
    (digsF 20 u).length = 20 - k ∧ ∀ i, i < 20 - k → C[k + i]? = some (.int .u8 ((((digsF 20 u).map fun c => (c.toNat : Int)).getD i 0))) := by
  obtain ⟨h1, h2, h3, h4, h5, L, h6, h7, h8⟩ := h
  have e := h8 hk
  simp only [if_true, List.nil_append] at e
  rw [e]
  refine ⟨h6, fun i hi => ?_⟩
  rw [h7 i (by omega)]
  have : i < L.length := by omega
  simp [List.getD, List.getElem?_map, List.getElem?_eq_getElem this]
end Go.Proofs.YthcidcfaodjbjabGreatDoor
