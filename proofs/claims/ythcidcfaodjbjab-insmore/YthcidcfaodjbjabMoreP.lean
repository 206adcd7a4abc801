/- With more reductions no text gets an error. -/
import Derived.Test.YthcidcfaodjbjabEnc
namespace Go.Proofs.Ythcidcfaodjbjab
open Go.RowKit
set_option linter.unusedVariables false
set_option linter.unusedSimpArgs false

set_option maxRecDepth 100000 in
theorem one_more (x : In) (cells more long : Int) (h : cells ≤ more) : oneC x more long = oneC x cells long ∨ oneC x cells long = 63 := by
  by_cases hb : x.kind < 1 ∨ 13 < x.kind
  · left; rw [oneC_none x more long hb, oneC_none x cells long hb]
  · obtain ⟨n, op, a, b, c, k⟩ := x
    have : n = 1 ∨ n = 2 ∨ n = 3 ∨ n = 4 ∨ n = 5 ∨ n = 6 ∨ n = 7 ∨ n = 8 ∨ n = 9 ∨ n = 10 ∨ n = 11 ∨ n = 12 ∨ n = 13 := by simp at hb; omega
    rcases this with rfl | rfl | rfl | rfl | rfl | rfl | rfl | rfl | rfl | rfl | rfl | rfl | rfl
    · left; rw [oneC_1, oneC_1]
    · left; rw [oneC_2, oneC_2]
    · left; rw [oneC_3, oneC_3]
    · left; rw [oneC_4, oneC_4]
    · left; rw [oneC_5, oneC_5]
    · left; rw [oneC_6, oneC_6]
    · left; rw [oneC_7, oneC_7]
    · rw [oneC_8, oneC_8]
      (repeat' split) <;> omega
    · left; rw [oneC_9, oneC_9]
    · left; rw [oneC_10, oneC_10]
    · left; rw [oneC_11, oneC_11]
    · left; rw [oneC_12, oneC_12]
    · left; rw [oneC_13, oneC_13]
theorem firstBad_more (cells more long : Int) (h : cells ≤ more) : ∀ (l : List In) (i : Nat), firstBad more long i l = firstBad cells long i l ∨ ∃ j, firstBad cells long i l = some (j, 63)
  | [], i => Or.inl rfl
  | x :: l, i => by
    unfold firstBad
    rcases one_more x cells more long h with e | e
    · rw [e]
      by_cases h0 : oneC x cells long = 0
      · rw [if_pos h0, if_pos h0]; exact firstBad_more cells more long h l (i + 1)
      · rw [if_neg h0, if_neg h0]; exact Or.inl rfl
    · right
      exact ⟨i, by rw [e, if_neg (by omega)]⟩
theorem check_more (l : List In) (cells more : Int) (h : cells ≤ more) : (checkL l more).2 = (checkL l cells).2 ∨ (checkL l cells).2 = 63 := by
  by_cases hlen : l.length = 0 ∨ 600 < l.length
  · left; rw [checkL_len l more hlen, checkL_len l cells hlen]
  · rcases firstBad_more cells more (l.length : Int) h l 0 with e | ⟨j, e⟩
    · left
      rcases hb : firstBad cells (l.length : Int) 0 l with _ | ⟨i, er⟩
      · rw [hb] at e
        have hl : l.length - 1 < l.length := by omega
        rw [checkL_good l more hlen e hl, checkL_good l cells hlen hb hl]
      · rw [hb] at e
        rw [checkL_bad l more hlen i er e, checkL_bad l cells hlen i er hb]
    · right
      rw [checkL_bad l cells hlen j 63 e]
end Go.Proofs.Ythcidcfaodjbjab
