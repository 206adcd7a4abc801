/- Numbers and plays that came in are read. -/
import Derived.Test.YtkcncngcmhldpaaOpen
import Derived.Test.YtkcncngcmhldpaaAgnW
namespace Go.Proofs.Ytkcncngcmhldpaa
open Go.ChangeShapes Go.WideShapes Go.ChangeAt Go.RowKit Go.Deep
set_option linter.unusedVariables false
section
variable {H : Type} {enc : TypeId × Value → H} {W : World}
theorem cells64 : Try.prog.cellsOf 64 = 10 := by kernel_rfl
theorem cellsS25 : Try.prog.cellsOf 25 = 1 := by kernel_rfl
set_option maxRecDepth 100000 in
theorem open_nums {n : Nat} {v : Value} {x : DataW H × List MemPlace} (h : DataW.trod enc Try.prog W 0 (fun _ => true) true n 25 [v] = some x) : ∃ G, GSl W v G ∧ ∀ y ∈ G, R64 y := by
  rcases open_slice Try.underlying25 h with ⟨hc, hx⟩ | ⟨a, len, cap, m, n', D, Pl, hc, _, hl, hcap, hm, hx, hall⟩
  · simp only [List.cons.injEq, and_true] at hc
    subst hc
    exact ⟨[], ⟨none, 0, 0, 0, rfl, Nat.le_refl _, Nat.zero_le _, fun h => absurd h (by simp), fun i hi => absurd hi (by simp)⟩, fun y hy => absurd hy (by simp)⟩
  · simp only [List.cons.injEq, and_true] at hc
    simp only [if_true] at hm
    subst hm
    obtain ⟨b, o, spot⟩ := a
    have hcl : ∀ i, i < len → ∃ z, W.cell? ((⟨b, o, spot⟩ : Addr).add i) = some (.int .i64 z) ∧ R64 z := by
      intro i hi
      obtain ⟨cs', hcs, ht⟩ := hall i (by omega)
      rw [cells2] at hcs
      obtain ⟨z, rfl, _, wz⟩ := DataW.trod_int Try.underlying2 ht
      obtain ⟨_, _, hcell⟩ := World.cells?_some hcs
      have q0 := hcell 0 (by omega)
      refine ⟨z, ?_, wf_i64 wz⟩
      simpa [Addr.add] using q0
    have hsp : 0 < len → spot = none := by
      intro h0
      obtain ⟨z, hz, _⟩ := hcl 0 h0
      simpa [Addr.add] using World.cell?_spot hz
    have hone : ∀ i, i < len → ∃ z, W.cell? ⟨b, o + i, none⟩ = some (.int .i64 z) ∧ R64 z := by
      intro i hi
      obtain ⟨z, hz, hr⟩ := hcl i hi
      have hspot : spot = none := hsp (by omega)
      subst hspot
      rw [addn] at hz
      exact ⟨z, hz, hr⟩
    have hrow : ∀ c, c ≤ len → ∃ l : List Int, l.length = c ∧ (∀ i (h : i < l.length), W.cell? ⟨b, o + i, none⟩ = some (.int .i64 l[i])) ∧ ∀ y ∈ l, R64 y := by
      intro c
      induction c with
      | zero => intro _; exact ⟨[], rfl, fun i hi => absurd hi (by simp), fun y hy => absurd hy (by simp)⟩
      | succ c ih =>
        intro hc'
        obtain ⟨l, h1, h2, h3⟩ := ih (by omega)
        obtain ⟨y, hy, hr⟩ := hone c (by omega)
        refine ⟨l ++ [y], by simp [h1], fun i hi => ?_, fun z hz => ?_⟩
        · rcases Nat.lt_or_ge i l.length with h | h
          · rw [List.getElem_append_left h]; exact h2 i h
          · have : i = c := by simp at hi; omega
            subst this
            rw [List.getElem_append_right h]
            simpa [h1] using hy
        · rcases List.mem_append.1 hz with h | h
          · exact h3 z h
          · rw [List.mem_singleton.1 h]; exact hr
    obtain ⟨l, h1, h2, h3⟩ := hrow len (Nat.le_refl _)
    refine ⟨l, ⟨some ⟨b, o, spot⟩, m, b, o, by rw [h1]; exact hc, by omega, hcap, fun h0 => ?_, h2⟩, h3⟩
    rw [hsp (by omega)]
set_option maxRecDepth 100000 in
theorem open_play {n : Nat} {cs : List Value} {x : DataW H × List MemPlace} (h : DataW.trod enc Try.prog W 0 (fun _ => true) true n 64 cs = some x) :
    ∃ (v gv : Value) (cells words fuel n i k steps cut : Int) (l : List In) (G : List Int), cs = [v, .int .i64 cells, .int .i64 words, .int .i64 fuel, .int .i64 n, .int .i64 i, .int .i64 k, gv, .int .i64 steps, .int .i64 cut] ∧ ISl W v l ∧ GSl W gv G ∧ (∀ y ∈ l, InR y) ∧ (∀ y ∈ G, R64 y) ∧ R64 n ∧ R64 i ∧ R64 k := by
  obtain ⟨xs, m, rfl, hx, hl, hxl, hf⟩ := DataW.trod_struct Try.underlying64 h
  rw [cells64] at hl
  match cs, hl with
  | [c0, c1, c2, c3, c4, c5, c6, c7, c8, c9], _ =>
    have f0 : DataW.trod enc Try.prog W 0 (fun _ => true) true m 24 (([c0, c1, c2, c3, c4, c5, c6, c7, c8, c9].drop 0).take (Try.prog.cellsOf 24)) = xs[0]? := hf 0 _ rfl
    have f1 : DataW.trod enc Try.prog W 0 (fun _ => true) true m 25 (([c0, c1, c2, c3, c4, c5, c6, c7, c8, c9].drop 7).take (Try.prog.cellsOf 25)) = xs[1]? := hf 1 _ rfl
    have f2 : DataW.trod enc Try.prog W 0 (fun _ => true) true m 3 (([c0, c1, c2, c3, c4, c5, c6, c7, c8, c9].drop 8).take (Try.prog.cellsOf 3)) = xs[2]? := hf 2 _ rfl
    have f3 : DataW.trod enc Try.prog W 0 (fun _ => true) true m 3 (([c0, c1, c2, c3, c4, c5, c6, c7, c8, c9].drop 9).take (Try.prog.cellsOf 3)) = xs[3]? := hf 3 _ rfl
    match xs, hxl with
    | [x0, x1, x2, x3], _ =>
      rw [cells24] at f0
      rw [cellsS25] at f1
      rw [cells3] at f2 f3
      simp at f0 f1 f2 f3
      obtain ⟨v, cells, words, fuel, n, i, k, l, e0, h1, h2, wn, wi, wk⟩ := open_case f0
      obtain ⟨G, g1, g2⟩ := open_nums f1
      obtain ⟨n2, e2, _, w2⟩ := DataW.trod_int Try.underlying3 f2
      obtain ⟨n3, e3, _, w3⟩ := DataW.trod_int Try.underlying3 f3
      simp at e0 e2 e3
      obtain ⟨rfl, rfl, rfl, rfl, rfl, rfl, rfl⟩ := e0
      subst e2 e3
      exact ⟨c0, c7, cells, words, fuel, n, i, k, n2, n3, l, G, rfl, h1, g1, h2, g2, wn, wi, wk⟩
end
end Go.Proofs.Ytkcncngcmhldpaa
