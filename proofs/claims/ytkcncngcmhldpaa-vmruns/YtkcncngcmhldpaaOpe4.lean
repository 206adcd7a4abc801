/- A run that came in is read. -/
import Derived.Test.YtkcncngcmhldpaaOpe2
import Derived.Test.YtkcncngcmhldpaaRnsW
namespace Go.Proofs.Ytkcncngcmhldpaa
open Go.ChangeShapes Go.WideShapes Go.ChangeAt Go.RowKit Go.Deep
set_option linter.unusedVariables false
section
variable {H : Type} {enc : TypeId × Value → H} {W : World}
theorem cells51 : Try.prog.cellsOf 51 = 8 := by kernel_rfl
theorem cells49 : Try.prog.cellsOf 49 = 4 := by kernel_rfl
theorem open_nil {n : Nat} {v : Value} {x : DataW H × List MemPlace} (h : DataW.trod enc Try.prog W 0 (fun _ => true) true n 25 [v] = some x) : ∀ l c, v = .slice none l c → c = 0 := by
  intro l c e
  rcases open_slice Try.underlying25 h with ⟨hc, hx⟩ | ⟨a, len, cap, m, n', D, Pl, hc, _⟩
  · simp only [List.cons.injEq, and_true] at hc
    rw [hc] at e
    injection e with _ _ e
    exact e.symm
  · simp only [List.cons.injEq, and_true] at hc
    rw [hc] at e
    injection e with e
    cases e
set_option maxRecDepth 100000 in
theorem open_input {n : Nat} {cs : List Value} {x : DataW H × List MemPlace} (h : DataW.trod enc Try.prog W 0 (fun _ => true) true n 49 cs = some x) :
    ∃ (mv : Value) (n i k : Int) (G : List Int), cs = [mv, .int .i64 n, .int .i64 i, .int .i64 k] ∧ GSl W mv G ∧ (∀ y ∈ G, R64 y) ∧ R64 n ∧ R64 i ∧ R64 k ∧ ∀ l c, mv = .slice none l c → c = 0 := by
  obtain ⟨xs, m, rfl, hx, hl, hxl, hf⟩ := DataW.trod_struct Try.underlying49 h
  rw [cells49] at hl
  match cs, hl with
  | [c0, c1, c2, c3], _ =>
    have f0 := hf 0 _ rfl
    have f1 := hf 1 _ rfl
    have f2 := hf 2 _ rfl
    have f3 := hf 3 _ rfl
    match xs, hxl with
    | [x0, x1, x2, x3], _ =>
      simp [cellsS25, cells2] at f0 f1 f2 f3
      obtain ⟨G, h1, h2⟩ := open_nums f0
      obtain ⟨n1, e1, _, w1⟩ := DataW.trod_int Try.underlying2 f1
      obtain ⟨n2, e2, _, w2⟩ := DataW.trod_int Try.underlying2 f2
      obtain ⟨n3, e3, _, w3⟩ := DataW.trod_int Try.underlying2 f3
      simp at e1 e2 e3
      subst e1 e2 e3
      exact ⟨c0, n1, n2, n3, G, rfl, h1, h2, wf_i64 w1, wf_i64 w2, wf_i64 w3, open_nil f0⟩
set_option maxRecDepth 100000 in
theorem open_run {n : Nat} {cs : List Value} {x : DataW H × List MemPlace} (h : DataW.trod enc Try.prog W 0 (fun _ => true) true n 51 cs = some x) :
    ∃ (v mv : Value) (cells fuel more n i k : Int) (l : List In) (G : List Int), cs = [v, .int .i64 cells, .int .i64 fuel, .int .i64 more, mv, .int .i64 n, .int .i64 i, .int .i64 k] ∧ ISl W v l ∧ GSl W mv G ∧ (∀ y ∈ l, InR y) ∧ (∀ y ∈ G, R64 y) ∧ R64 n ∧ R64 i ∧ R64 k ∧ ∀ l c, mv = .slice none l c → c = 0 := by
  obtain ⟨xs, m, rfl, hx, hl, hxl, hf⟩ := DataW.trod_struct Try.underlying51 h
  rw [cells51] at hl
  match cs, hl with
  | [c0, c1, c2, c3, c4, c5, c6, c7], _ =>
    have f0 := hf 0 _ rfl
    have f1 := hf 1 _ rfl
    have f2 := hf 2 _ rfl
    have f3 := hf 3 _ rfl
    have f4 : DataW.trod enc Try.prog W 0 (fun _ => true) true m 49 (([c0, c1, c2, c3, c4, c5, c6, c7].drop 4).take (Try.prog.cellsOf 49)) = xs[4]? := hf 4 _ rfl
    match xs, hxl with
    | [x0, x1, x2, x3, x4], _ =>
      rw [cells49] at f4
      simp [cellsS22, cells3] at f0 f1 f2 f3 f4
      obtain ⟨l, h1, h2⟩ := open_row f0
      obtain ⟨n1, e1, _, w1⟩ := DataW.trod_int Try.underlying3 f1
      obtain ⟨n2, e2, _, w2⟩ := DataW.trod_int Try.underlying3 f2
      obtain ⟨n3, e3, _, w3⟩ := DataW.trod_int Try.underlying3 f3
      obtain ⟨mv, n, i, k, G, e4, g1, g2, wn, wi, wk, hnil⟩ := open_input f4
      simp at e1 e2 e3 e4
      subst e1 e2 e3
      obtain ⟨rfl, rfl, rfl, rfl⟩ := e4
      exact ⟨c0, c4, n1, n2, n3, n, i, k, l, G, rfl, h1, g1, h2, g2, wn, wi, wk, hnil⟩
end
end Go.Proofs.Ytkcncngcmhldpaa
