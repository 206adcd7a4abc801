/- A row of calls as a law is handed it. -/
import Derived.Test.YtdohclnmcdempaaOpn
import Derived.Test.YtdohclnmcdempaaVrX
namespace Go.Proofs.Ytdohclnmcdempaa
open Go.ChangeShapes Go.WideShapes Go.ChangeAt Go.RowKit
set_option linter.unusedVariables false
section
variable {H : Type} {enc : TypeId × Value → H} {W : World}
theorem cellsT2 : Try.prog.cellsOf 2 = 1 := by kernel_rfl
theorem cellsT3 : Try.prog.cellsOf 3 = 1 := by kernel_rfl
theorem cellsT55 : Try.prog.cellsOf 55 = 4 := by kernel_rfl
def opV (x : O4) : List Value := [.int .i64 x.kd, .int .i64 x.at_, .int .i64 x.ag, .int .i64 x.vl]
def opR (x : O4) : Prop := R64 x.kd ∧ R64 x.at_ ∧ R64 x.ag ∧ R64 x.vl
set_option maxRecDepth 100000 in
theorem open_op {n : Nat} {cs : List Value} {x : DataW H × List MemPlace} (h : DataW.trod enc Try.prog W 0 (fun _ => true) true n 55 cs = some x) : ∃ y, cs = opV y ∧ opR y := by
  obtain ⟨xs, m, rfl, hx, hl, hxl, hf⟩ := DataW.trod_struct Try.underlying55 h
  rw [cellsT55] at hl
  match cs, hl with
  | [c0, c1, c2, c3], _ =>
    have f0 := hf 0 _ rfl
    have f1 := hf 1 _ rfl
    have f2 := hf 2 _ rfl
    have f3 := hf 3 _ rfl
    match xs, hxl with
    | [x0, x1, x2, x3], _ =>
      simp [cellsT2, cellsT3] at f0 f1 f2 f3
      obtain ⟨n0, e0, _, w0⟩ := DataW.trod_int Try.underlying3 f0
      obtain ⟨n1, e1, _, w1⟩ := DataW.trod_int Try.underlying3 f1
      obtain ⟨n2, e2, _, w2⟩ := DataW.trod_int Try.underlying3 f2
      obtain ⟨n3, e3, _, w3⟩ := DataW.trod_int Try.underlying2 f3
      simp at e0 e1 e2 e3
      subst e0 e1 e2 e3
      exact ⟨⟨n0, n1, n2, n3⟩, rfl, wf_i64 w0, wf_i64 w1, wf_i64 w2, wf_i64 w3⟩
theorem open_ops {n : Nat} {v : Value} {x : DataW H × List MemPlace} (h : DataW.trod enc Try.prog W 0 (fun _ => true) true n 43 [v] = some x) : ∃ l, OSl W v l ∧ ∀ y ∈ l, opR y := by
  obtain ⟨l, ⟨a, c, b, o, h1, h2, h3, h4, h5⟩, hr⟩ := open_rows 43 55 4 Try.underlying43 cellsT55 (by omega) opV opR (fun n cs x ht => open_op ht) (fun _ => rfl) h
  refine ⟨l, ⟨a, c, b, o, h1, h2, h3, h4, fun i hi => ?_⟩, hr⟩
  exact ⟨by simpa [opV] using h5 i hi 0 (by omega), by simpa [opV, Nat.add_assoc] using h5 i hi 1 (by omega), by simpa [opV, Nat.add_assoc] using h5 i hi 2 (by omega), by simpa [opV, Nat.add_assoc] using h5 i hi 3 (by omega)⟩
end
end Go.Proofs.Ytdohclnmcdempaa
