/- Calls of a graph that came in are read. -/
import Derived.Test.YtongeppdaeekeaaOpn
import Derived.Test.YtongeppdaeekeaaGfE
namespace Go.Proofs.Ytongeppdaeekeaa
open Go.ChangeShapes Go.WideShapes Go.ChangeAt Go.RowKit Go.Deep
set_option linter.unusedVariables false
section
variable {H : Type} {enc : TypeId × Value → H} {W : World}
theorem cellsT78 : Try.prog.cellsOf 78 = 3 := by kernel_rfl
set_option maxRecDepth 100000 in
theorem open_gop {n : Nat} {cs : List Value} {x : DataW H × List MemPlace} (h : DataW.trod enc Try.prog W 0 (fun _ => true) true n 78 cs = some x) : ∃ z, cs = tri z ∧ (R64 z.1 ∧ R64 z.2.1 ∧ R64 z.2.2) := by
  obtain ⟨xs, m, rfl, hx, hl, hxl, hf⟩ := DataW.trod_struct Try.underlying78 h
  rw [cellsT78] at hl
  match cs, hl with
  | [c0, c1, c2], _ =>
    have f0 := hf 0 _ rfl
    have f1 := hf 1 _ rfl
    have f2 := hf 2 _ rfl
    match xs, hxl with
    | [x0, x1, x2], _ =>
      simp [cellsT3] at f0 f1 f2
      obtain ⟨n0, e0, _, w0⟩ := DataW.trod_int Try.underlying3 f0
      obtain ⟨n1, e1, _, w1⟩ := DataW.trod_int Try.underlying3 f1
      obtain ⟨n2, e2, _, w2⟩ := DataW.trod_int Try.underlying3 f2
      simp at e0 e1 e2
      subst e0 e1 e2
      exact ⟨(n0, n1, n2), rfl, wf_i64 w0, wf_i64 w1, wf_i64 w2⟩
theorem open_gops {n : Nat} {v : Value} {x : DataW H × List MemPlace} (h : DataW.trod enc Try.prog W 0 (fun _ => true) true n 66 [v] = some x) : ∃ l, RS kW W v l ∧ ∀ y ∈ l, R64 y.1 ∧ R64 y.2.1 ∧ R64 y.2.2 := by
  obtain ⟨l, h1, h2⟩ := open_rows 66 78 3 Try.underlying66 cellsT78 (by omega) tri (fun y => R64 y.1 ∧ R64 y.2.1 ∧ R64 y.2.2) (fun n cs x ht => open_gop ht) (fun _ => rfl) h
  exact ⟨l, h1, h2⟩
end
end Go.Proofs.Ytongeppdaeekeaa
