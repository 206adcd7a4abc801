/- A setup and calls that came in are read. -/
import Derived.Test.YtongeppdaeekeaaOpn
import Derived.Test.YtongeppdaeekeaaAgA
namespace Go.Proofs.Ytongeppdaeekeaa
open Go.ChangeShapes Go.WideShapes Go.ChangeAt Go.RowKit Go.Deep
set_option linter.unusedVariables false
section
variable {H : Type} {enc : TypeId × Value → H} {W : World}
theorem cellsT38 : Try.prog.cellsOf 38 = 1 := by kernel_rfl
theorem cellsT22 : Try.prog.cellsOf 22 = 1 := by kernel_rfl
theorem cellsT40 : Try.prog.cellsOf 40 = 2 := by kernel_rfl
theorem cellsT44 : Try.prog.cellsOf 44 = 4 := by kernel_rfl
theorem cellsT24 : Try.prog.cellsOf 24 = 4 := by kernel_rfl
set_option maxRecDepth 100000 in
theorem open_red {n : Nat} {cs : List Value} {x : DataW H × List MemPlace} (h : DataW.trod enc Try.prog W 0 (fun _ => true) true n 40 cs = some x) : ∃ z, cs = duo z ∧ (R64 z.1 ∧ R64 z.2) := by
  obtain ⟨xs, m, rfl, hx, hl, hxl, hf⟩ := DataW.trod_struct Try.underlying40 h
  rw [cellsT40] at hl
  match cs, hl with
  | [c0, c1], _ =>
    have f0 := hf 0 _ rfl
    have f1 := hf 1 _ rfl
    match xs, hxl with
    | [x0, x1], _ =>
      simp [cellsT2, cellsT38] at f0 f1
      obtain ⟨n0, e0, _, w0⟩ := DataW.trod_int Try.underlying38 f0
      obtain ⟨n1, e1, _, w1⟩ := DataW.trod_int Try.underlying2 f1
      simp at e0 e1
      subst e0 e1
      exact ⟨(n0, n1), rfl, wf_i64 w0, wf_i64 w1⟩
theorem open_reds {n : Nat} {v : Value} {x : DataW H × List MemPlace} (h : DataW.trod enc Try.prog W 0 (fun _ => true) true n 22 [v] = some x) : ∃ l, RS kD W v l ∧ ∀ y ∈ l, R64 y.1 ∧ R64 y.2 := by
  obtain ⟨l, h1, h2⟩ := open_rows 22 40 2 Try.underlying22 cellsT40 (by omega) duo (fun y => R64 y.1 ∧ R64 y.2) (fun n cs x ht => open_red ht) (fun _ => rfl) h
  exact ⟨l, h1, h2⟩
set_option maxRecDepth 100000 in
theorem open_op {n : Nat} {cs : List Value} {x : DataW H × List MemPlace} (h : DataW.trod enc Try.prog W 0 (fun _ => true) true n 44 cs = some x) : ∃ z, cs = quad z ∧ (R64 z.kd ∧ R64 z.at_ ∧ R64 z.fr ∧ R64 z.vl) := by
  obtain ⟨xs, m, rfl, hx, hl, hxl, hf⟩ := DataW.trod_struct Try.underlying44 h
  rw [cellsT44] at hl
  match cs, hl with
  | [c0, c1, c2, c3], _ =>
    have f0 := hf 0 _ rfl
    have f1 := hf 1 _ rfl
    have f2 := hf 2 _ rfl
    have f3 := hf 3 _ rfl
    match xs, hxl with
    | [x0, x1, x2, x3], _ =>
      simp [cellsT2, cellsT3] at f0 f1 f2 f3
      obtain ⟨n0, e0, _, w0⟩ := DataW.trod_int Try.underlying3 f0
      obtain ⟨n1, e1, _, w1⟩ := DataW.trod_int Try.underlying3 f1
      obtain ⟨n2, e2, _, w2⟩ := DataW.trod_int Try.underlying3 f2
      obtain ⟨n3, e3, _, w3⟩ := DataW.trod_int Try.underlying2 f3
      simp at e0 e1 e2 e3
      subst e0 e1 e2 e3
      exact ⟨⟨n0, n1, n2, n3⟩, rfl, wf_i64 w0, wf_i64 w1, wf_i64 w2, wf_i64 w3⟩
theorem open_ops {n : Nat} {v : Value} {x : DataW H × List MemPlace} (h : DataW.trod enc Try.prog W 0 (fun _ => true) true n 25 [v] = some x) : ∃ l, RS kX W v l ∧ ∀ y ∈ l, R64 y.kd ∧ R64 y.at_ ∧ R64 y.fr ∧ R64 y.vl := by
  obtain ⟨l, h1, h2⟩ := open_rows 25 44 4 Try.underlying25 cellsT44 (by omega) quad (fun y => R64 y.kd ∧ R64 y.at_ ∧ R64 y.fr ∧ R64 y.vl) (fun n cs x ht => open_op ht) (fun _ => rfl) h
  exact ⟨l, h1, h2⟩
set_option maxRecDepth 100000 in
theorem open_setup {n : Nat} {cs : List Value} {x : DataW H × List MemPlace} (h : DataW.trod enc Try.prog W 0 (fun _ => true) true n 24 cs = some x) :
    ∃ (n0 n1 n2 : Int) (v : Value) (l : List (Int × Int)), cs = [.int .i64 n0, .int .i64 n1, .int .i64 n2, v] ∧ RS kD W v l ∧ (∀ y ∈ l, R64 y.1 ∧ R64 y.2) ∧ R64 n0 ∧ R64 n1 ∧ R64 n2 := by
  obtain ⟨xs, m, rfl, hx, hl, hxl, hf⟩ := DataW.trod_struct Try.underlying24 h
  rw [cellsT24] at hl
  match cs, hl with
  | [c0, c1, c2, c3], _ =>
    have f0 := hf 0 _ rfl
    have f1 := hf 1 _ rfl
    have f2 := hf 2 _ rfl
    have f3 := hf 3 _ rfl
    match xs, hxl with
    | [x0, x1, x2, x3], _ =>
      simp [cellsT3, cellsT22] at f0 f1 f2 f3
      obtain ⟨n0, e0, _, w0⟩ := DataW.trod_int Try.underlying3 f0
      obtain ⟨n1, e1, _, w1⟩ := DataW.trod_int Try.underlying3 f1
      obtain ⟨n2, e2, _, w2⟩ := DataW.trod_int Try.underlying3 f2
      obtain ⟨l, h1, h2⟩ := open_reds f3
      simp at e0 e1 e2
      subst e0 e1 e2
      exact ⟨n0, n1, n2, c3, l, rfl, h1, h2, wf_i64 w0, wf_i64 w1, wf_i64 w2⟩
end
end Go.Proofs.Ytongeppdaeekeaa
