/- What the document's Word answers. -/
import Derived.Test.YthcidcfaodjbjabGreatDoorRefW3
import Derived.Test.YthcidcfaodjbjabGreatDoorRefW5
namespace Go.Proofs.YthcidcfaodjbjabGreatDoor
open Go.RowKit
set_option linter.unusedVariables false

theorem wordOf_none (n p a b c k : Int) (h : n < 1 ∨ 13 < n) : wordOf ⟨n, p, a, b, c, k⟩ = ([], []) := by
  have e : bareI ⟨n, p, a, b, c, k⟩ = ⟨n, 0, 0, 0, 0, 0⟩ := by unfold bareI; rw [if_neg (by simp only; omega)]
  unfold wordOf
  rw [e]
  simp only [wordGo, saysL]
  repeat rw [if_neg (by omega)]
theorem wordOf_4 (p a b c k : Int) (h : p < 19 ∨ 21 < p) : wordOf ⟨4, p, a, b, c, k⟩ = ([], []) := by
  have e : bareI ⟨4, p, a, b, c, k⟩ = ⟨4, p, 0, 0, 0, 0⟩ := by unfold bareI; rw [if_pos (by simp)]
  unfold wordOf
  rw [e]
  simp only [wordGo, saysL]
  repeat rw [if_neg (by omega)]
theorem wordOf_5 (p a b c k : Int) (h : p < 1 ∨ 18 < p) : wordOf ⟨5, p, a, b, c, k⟩ = ([], []) := by
  have e : bareI ⟨5, p, a, b, c, k⟩ = ⟨5, p, 0, 0, 0, 0⟩ := by unfold bareI; rw [if_pos (by simp)]
  unfold wordOf
  rw [e]
  simp only [wordGo, saysL]
  repeat rw [if_neg (by omega)]

theorem refWord_any (x : In) (w : World) : Calls Tryz.prog 31 #[iv x] w fun e w' => e = .returned (.tuple #[.string ⟨(wordOf x).1.toArray⟩, .string ⟨(wordOf x).2.toArray⟩]) ∧ Below w.heap.size w w' := by
  obtain ⟨n, p, a, b, c, k⟩ := x
  by_cases h : n < 1 ∨ 13 < n
  · rw [wordOf_none n p a b c k h]; exact refWord_none n p a b c k w h
  · have : n = 1 ∨ n = 2 ∨ n = 3 ∨ n = 4 ∨ n = 5 ∨ n = 6 ∨ n = 7 ∨ n = 8 ∨ n = 9 ∨ n = 10 ∨ n = 11 ∨ n = 12 ∨ n = 13 := by omega
    rcases this with rfl | rfl | rfl | rfl | rfl | rfl | rfl | rfl | rfl | rfl | rfl | rfl | rfl
    · exact refWord_1 p a b c k w
    · exact refWord_2 p a b c k w
    · exact refWord_3 p a b c k w
    · by_cases hl : p < 19
      · rw [wordOf_4 p a b c k (Or.inl hl)]; exact refWord_4_l p a b c k w hl
      · by_cases hh : 21 < p
        · rw [wordOf_4 p a b c k (Or.inr hh)]; exact refWord_4_h p a b c k w hh
        · have : p = 19 ∨ p = 20 ∨ p = 21 := by omega
          rcases this with rfl | rfl | rfl
          · exact refWord_4_19 a b c k w
          · exact refWord_4_20 a b c k w
          · exact refWord_4_21 a b c k w
    · by_cases hl : p < 1
      · rw [wordOf_5 p a b c k (Or.inl hl)]; exact refWord_5_l p a b c k w hl
      · by_cases hh : 18 < p
        · rw [wordOf_5 p a b c k (Or.inr hh)]; exact refWord_5_h p a b c k w hh
        · have : p = 1 ∨ p = 2 ∨ p = 3 ∨ p = 4 ∨ p = 5 ∨ p = 6 ∨ p = 7 ∨ p = 8 ∨ p = 9 ∨ p = 10 ∨ p = 11 ∨ p = 12 ∨ p = 13 ∨ p = 14 ∨ p = 15 ∨ p = 16 ∨ p = 17 ∨ p = 18 := by omega
          rcases this with rfl | rfl | rfl | rfl | rfl | rfl | rfl | rfl | rfl | rfl | rfl | rfl | rfl | rfl | rfl | rfl | rfl | rfl
          · exact refWord_5_1 a b c k w
          · exact refWord_5_2 a b c k w
          · exact refWord_5_3 a b c k w
          · exact refWord_5_4 a b c k w
          · exact refWord_5_5 a b c k w
          · exact refWord_5_6 a b c k w
          · exact refWord_5_7 a b c k w
          · exact refWord_5_8 a b c k w
          · exact refWord_5_9 a b c k w
          · exact refWord_5_10 a b c k w
          · exact refWord_5_11 a b c k w
          · exact refWord_5_12 a b c k w
          · exact refWord_5_13 a b c k w
          · exact refWord_5_14 a b c k w
          · exact refWord_5_15 a b c k w
          · exact refWord_5_16 a b c k w
          · exact refWord_5_17 a b c k w
          · exact refWord_5_18 a b c k w
    · exact refWord_6 p a b c k w
    · exact refWord_7 p a b c k w
    · exact refWord_8 p a b c k w
    · exact refWord_9 p a b c k w
    · exact refWord_10 p a b c k w
    · exact refWord_11 p a b c k w
    · exact refWord_12 p a b c k w
    · exact refWord_13 p a b c k w
end Go.Proofs.YthcidcfaodjbjabGreatDoor
