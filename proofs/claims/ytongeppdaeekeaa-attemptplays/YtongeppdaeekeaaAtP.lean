/- A call of both logs, of whatever kind. -/
import Derived.Test.YtongeppdaeekeaaAtO1
import Derived.Test.YtongeppdaeekeaaAtO2
import Derived.Test.YtongeppdaeekeaaAtO3
import Derived.Test.YtongeppdaeekeaaAtO4
import Derived.Test.YtongeppdaeekeaaAtO5
import Derived.Test.YtongeppdaeekeaaAtO6
import Derived.Test.YtongeppdaeekeaaAtO7
import Derived.Test.YtongeppdaeekeaaAtO8
namespace Go.Proofs.Ytongeppdaeekeaa
open Go.RowKit Go.Maps
set_option linter.unusedVariables false

/-- do both agree on the room? -/
def agree (s : Lg) (d : Dg) (x : O4) : Bool := !(roomB s x.at_ != (dwriteE d x.at_ == 0))
def oneS (s : Lg) (d : Dg) (x : O4) : Lg :=
  if kindI x.kd ≤ 1 then noteS s (x.at_, x.vl, x.fr) else if kindI x.kd = 2 then fromS s x.at_ x.fr else if kindI x.kd ≤ 4 then (if agree s d x then writeS s x.at_ x.vl else s) else if kindI x.kd = 5 then emitS s x.vl else if kindI x.kd = 6 then intoS s x.at_ x.vl else clearS s
def oneD (s : Lg) (d : Dg) (x : O4) : Dg :=
  if kindI x.kd ≤ 1 then dnoteS d (x.at_, x.vl, x.fr) else if kindI x.kd = 2 then dfromS d x.at_ x.fr else if kindI x.kd ≤ 4 then (if agree s d x then dwriteS d x.at_ x.vl else d) else if kindI x.kd = 5 then demitS d x.vl else if kindI x.kd = 6 then dintoS d x.at_ x.vl else dclearS d
def oneB (s : Lg) (d : Dg) (x : O4) : Bool :=
  if kindI x.kd ≤ 1 then noteE s (x.at_, x.vl, x.fr) == dnoteE d (x.at_, x.vl, x.fr) else if kindI x.kd = 2 then hasR s x.at_ == hasRL d.Rs x.at_ else if kindI x.kd ≤ 4 then (if agree s d x then writeE s x.at_ == dwriteE d x.at_ else false) else if kindI x.kd = 5 then emitE s == demitE d else if kindI x.kd = 6 then inB s.ops.length x.at_ == inB d.Rd.length x.at_ else true
theorem one_any {w : World} {lab : Nat → Nat} {c lb : Nat} {s : Lg} {v : Value} {d : Dg} (h : LV w lab c lb s) (hd : DW (Free lab) w v d) (x : O4) (l1 : d.Rs.length ≤ 1000) (l2 : d.Ws.length ≤ 1000) (l3 : d.Os.length ≤ 1000) (l4 : d.Is.length ≤ 1000) :
    Calls Try.prog 11 #[.pointer (some ⟨lb, 0, none⟩), v, opA x] w (OneQ c lab lb (oneS s d x) (oneD s d x) (oneB s d x) w) := by
  have hb := kindI_bd x.kd
  have hc : kindI x.kd = 0 ∨ kindI x.kd = 1 ∨ kindI x.kd = 2 ∨ kindI x.kd = 3 ∨ kindI x.kd = 4 ∨ kindI x.kd = 5 ∨ kindI x.kd = 6 ∨ kindI x.kd = 7 := by omega
  rcases hc with k | k | k | k | k | k | k | k
  · have := one_note0 h hd x k l1
    simpa [oneS, oneD, oneB, k] using this
  · have := one_note1 h hd x k l1
    simpa [oneS, oneD, oneB, k] using this
  · have := one_from h hd x k l1
    simpa [oneS, oneD, oneB, k] using this
  · cases hm : agree s d x with
    | true =>
      have hm' : (roomB s x.at_ != (dwriteE d x.at_ == 0)) = false := by unfold agree at hm; simpa using hm
      have := one_writeY3 h hd x k l2 hm'
      simpa [oneS, oneD, oneB, k, hm] using this
    | false =>
      have hm' : (roomB s x.at_ != (dwriteE d x.at_ == 0)) = true := by unfold agree at hm; simpa using hm
      have := one_writeN3 h hd x k l2 hm'
      simpa [oneS, oneD, oneB, k, hm] using this
  · cases hm : agree s d x with
    | true =>
      have hm' : (roomB s x.at_ != (dwriteE d x.at_ == 0)) = false := by unfold agree at hm; simpa using hm
      have := one_writeY4 h hd x k l2 hm'
      simpa [oneS, oneD, oneB, k, hm] using this
    | false =>
      have hm' : (roomB s x.at_ != (dwriteE d x.at_ == 0)) = true := by unfold agree at hm; simpa using hm
      have := one_writeN4 h hd x k l2 hm'
      simpa [oneS, oneD, oneB, k, hm] using this
  · have := one_emit h hd x k l3
    simpa [oneS, oneD, oneB, k] using this
  · have := one_into h hd x k l4
    simpa [oneS, oneD, oneB, k] using this
  · have := one_clear h hd x k
    simpa [oneS, oneD, oneB, k] using this
/-- what a call leaves as it was -/
theorem oneS_fix (s : Lg) (d : Dg) (x : O4) : (oneS s d x).R = s.R ∧ (oneS s d x).W = s.W ∧ (oneS s d x).O = s.O ∧ (oneS s d x).ops = s.ops := by
  unfold oneS
  split
  · unfold noteS; split
    · exact ⟨rfl, rfl, rfl, rfl⟩
    · split <;> exact ⟨rfl, rfl, rfl, rfl⟩
  split
  · unfold fromS; split <;> exact ⟨rfl, rfl, rfl, rfl⟩
  split
  · split
    · unfold writeS; split
      · exact ⟨rfl, rfl, rfl, rfl⟩
      · split <;> exact ⟨rfl, rfl, rfl, rfl⟩
    · exact ⟨rfl, rfl, rfl, rfl⟩
  split
  · unfold emitS; split <;> exact ⟨rfl, rfl, rfl, rfl⟩
  split
  · exact ⟨rfl, rfl, rfl, rfl⟩
  · exact ⟨rfl, rfl, rfl, rfl⟩
theorem RS.psl {w : World} {v : Value} {l : List (Int × Int)} (h : RS kD w v l) : PSl w v l := by
  obtain ⟨a, c, b, o, h1, h2, h3, h4, h5⟩ := h
  refine ⟨a, c, b, o, h1, h2, h3, h4, fun i hi => ?_⟩
  have := duo_cells (K := kD) rfl rfl (h5 i hi)
  exact this
end Go.Proofs.Ytongeppdaeekeaa
