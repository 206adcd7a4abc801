/- What One answers, kind by kind. -/
import Derived.Test.YtcaefimnhoeimaaIOne
namespace Go.Proofs.Ytcaefimnhoeimaa
open Go.RowKit
set_option linter.unusedVariables false
set_option linter.unusedSimpArgs false

theorem oneC_none (x : In) (cells long : Int) (h : x.kind < 1 ∨ 13 < x.kind) : oneC x cells long = 81 := by
  have : lets x.kind = none := by
    unfold lets
    (repeat' split) <;> first | rfl | omega
  simp [oneC, oneS, this]
set_option maxRecDepth 100000 in
theorem oneC_1 (op a b c k cells long : Int) : oneC ⟨1, op, a, b, c, k⟩ cells long = if op ≠ 0 ∨ a ≠ 0 ∨ b ≠ 0 ∨ c ≠ 0 ∨ k ≠ 0 then 83 else 0 := by
  simp [oneC, oneS, lets, opOk, regOk, keepL, keep1, inEq, hasL, withinB]
  (repeat' split) <;> (first | rfl | omega)
set_option maxRecDepth 100000 in
theorem oneC_2 (op a b c k cells long : Int) : oneC ⟨2, op, a, b, c, k⟩ cells long = if a < 0 ∨ 15 < a then 82 else if op ≠ 0 ∨ b ≠ 0 ∨ c ≠ 0 then 83 else 0 := by
  simp [oneC, oneS, lets, opOk, regOk, keepL, keep1, inEq, hasL, withinB]
  (repeat' split) <;> (first | rfl | omega)
set_option maxRecDepth 100000 in
theorem oneC_3 (op a b c k cells long : Int) : oneC ⟨3, op, a, b, c, k⟩ cells long = if a < 0 ∨ 15 < a ∨ b < 0 ∨ 15 < b then 82 else if op ≠ 0 ∨ c ≠ 0 ∨ k ≠ 0 then 83 else 0 := by
  simp [oneC, oneS, lets, opOk, regOk, keepL, keep1, inEq, hasL, withinB]
  (repeat' split) <;> (first | rfl | omega)
set_option maxRecDepth 100000 in
theorem oneC_4 (op a b c k cells long : Int) : oneC ⟨4, op, a, b, c, k⟩ cells long = if op < 19 ∨ 21 < op then 81 else if a < 0 ∨ 15 < a ∨ b < 0 ∨ 15 < b then 82 else if c ≠ 0 ∨ k ≠ 0 then 83 else 0 := by
  simp [oneC, oneS, lets, opOk, regOk, keepL, keep1, inEq, hasL, withinB]
  (repeat' split) <;> (first | rfl | omega)
set_option maxRecDepth 100000 in
theorem oneC_5 (op a b c k cells long : Int) : oneC ⟨5, op, a, b, c, k⟩ cells long = if op < 1 ∨ 18 < op then 81 else if a < 0 ∨ 15 < a ∨ b < 0 ∨ 15 < b ∨ c < 0 ∨ 15 < c then 82 else if k ≠ 0 then 83 else 0 := by
  simp [oneC, oneS, lets, opOk, regOk, keepL, keep1, inEq, hasL, withinB]
  (repeat' split) <;> (first | rfl | omega)
set_option maxRecDepth 100000 in
theorem oneC_6 (op a b c k cells long : Int) : oneC ⟨6, op, a, b, c, k⟩ cells long = if a < 0 ∨ 15 < a ∨ b < 0 ∨ 15 < b then 82 else if op ≠ 0 ∨ c ≠ 0 then 83 else 0 := by
  simp [oneC, oneS, lets, opOk, regOk, keepL, keep1, inEq, hasL, withinB]
  (repeat' split) <;> (first | rfl | omega)
set_option maxRecDepth 100000 in
theorem oneC_7 (op a b c k cells long : Int) : oneC ⟨7, op, a, b, c, k⟩ cells long = if a < 0 ∨ 15 < a ∨ b < 0 ∨ 15 < b then 82 else if op ≠ 0 ∨ c ≠ 0 then 83 else 0 := by
  simp [oneC, oneS, lets, opOk, regOk, keepL, keep1, inEq, hasL, withinB]
  (repeat' split) <;> (first | rfl | omega)
set_option maxRecDepth 100000 in
theorem oneC_8 (op a b c k cells long : Int) : oneC ⟨8, op, a, b, c, k⟩ cells long = if a < 0 ∨ 15 < a then 82 else if op ≠ 0 ∨ b ≠ 0 ∨ k ≠ 0 then 83 else if c < 0 ∨ cells ≤ c ∨ 4 ≤ c then 63 else 0 := by
  simp [oneC, oneS, lets, opOk, regOk, keepL, keep1, inEq, hasL, withinB]
  (repeat' split) <;> (first | rfl | omega)
set_option maxRecDepth 100000 in
theorem oneC_9 (op a b c k cells long : Int) : oneC ⟨9, op, a, b, c, k⟩ cells long = if a < 0 ∨ 15 < a then 82 else if op ≠ 0 ∨ b ≠ 0 ∨ c ≠ 0 ∨ k ≠ 0 then 83 else 0 := by
  simp [oneC, oneS, lets, opOk, regOk, keepL, keep1, inEq, hasL, withinB]
  (repeat' split) <;> (first | rfl | omega)
set_option maxRecDepth 100000 in
theorem oneC_10 (op a b c k cells long : Int) : oneC ⟨10, op, a, b, c, k⟩ cells long = if op ≠ 0 ∨ a ≠ 0 ∨ b ≠ 0 ∨ c ≠ 0 then 83 else if k < 0 ∨ long ≤ k then 84 else 0 := by
  simp [oneC, oneS, lets, opOk, regOk, keepL, keep1, inEq, hasL, withinB]
  (repeat' split) <;> (first | rfl | omega)
set_option maxRecDepth 100000 in
theorem oneC_11 (op a b c k cells long : Int) : oneC ⟨11, op, a, b, c, k⟩ cells long = if a < 0 ∨ 15 < a then 82 else if op ≠ 0 ∨ b ≠ 0 ∨ c ≠ 0 then 83 else if k < 0 ∨ long ≤ k then 84 else 0 := by
  simp [oneC, oneS, lets, opOk, regOk, keepL, keep1, inEq, hasL, withinB]
  (repeat' split) <;> (first | rfl | omega)
set_option maxRecDepth 100000 in
theorem oneC_12 (op a b c k cells long : Int) : oneC ⟨12, op, a, b, c, k⟩ cells long = if a < 0 ∨ 15 < a then 82 else if op ≠ 0 ∨ b ≠ 0 ∨ c ≠ 0 then 83 else if k < 0 ∨ long ≤ k then 84 else 0 := by
  simp [oneC, oneS, lets, opOk, regOk, keepL, keep1, inEq, hasL, withinB]
  (repeat' split) <;> (first | rfl | omega)
set_option maxRecDepth 100000 in
theorem oneC_13 (op a b c k cells long : Int) : oneC ⟨13, op, a, b, c, k⟩ cells long = if a < 0 ∨ 15 < a then 82 else if op ≠ 0 ∨ b ≠ 0 ∨ c ≠ 0 ∨ k ≠ 0 then 83 else 0 := by
  simp [oneC, oneS, lets, opOk, regOk, keepL, keep1, inEq, hasL, withinB]
  (repeat' split) <;> (first | rfl | omega)
end Go.Proofs.Ytcaefimnhoeimaa
