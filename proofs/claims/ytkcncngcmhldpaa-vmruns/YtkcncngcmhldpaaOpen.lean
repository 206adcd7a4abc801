/- Cases and states that came in are read. -/
import Derived.Test.YtkcncngcmhldpaaSetsW
import Derived.OpenShut
import Derived.ChangeOld
namespace Go.Proofs.Ytkcncngcmhldpaa
open Go.RowKit Go.Maps
set_option linter.unusedVariables false
section
variable {H : Type} {enc : TypeId × Value → H} {W : World}
theorem cells24 : Try.prog.cellsOf 24 = 7 := by kernel_rfl
theorem cellsS22 : Try.prog.cellsOf 22 = 1 := by kernel_rfl
theorem cells45 : Try.prog.cellsOf 45 = 20 := by kernel_rfl
theorem cells43 : Try.prog.cellsOf 43 = 16 := by kernel_rfl
theorem cells27 : Try.prog.cellsOf 27 = 1 := by kernel_rfl
set_option maxRecDepth 100000 in
theorem open_case {n : Nat} {cs : List Value} {x : DataW H × List MemPlace} (h : DataW.trod enc Try.prog W 0 (fun _ => true) true n 24 cs = some x) :
    ∃ (v : Value) (cells words fuel n i k : Int) (l : List In), cs = [v, .int .i64 cells, .int .i64 words, .int .i64 fuel, .int .i64 n, .int .i64 i, .int .i64 k] ∧ ISl W v l ∧ (∀ y ∈ l, InR y) ∧ r64 n ∧ r64 i ∧ r64 k := by
  obtain ⟨xs, m, rfl, hx, hl, hxl, hf⟩ := DataW.trod_struct Try.underlying24 h
  rw [cells24] at hl
  match cs, hl with
  | [c0, c1, c2, c3, c4, c5, c6], _ =>
    have f0 := hf 0 _ rfl
    have f1 := hf 1 _ rfl
    have f2 := hf 2 _ rfl
    have f3 := hf 3 _ rfl
    have f4 := hf 4 _ rfl
    have f5 := hf 5 _ rfl
    have f6 := hf 6 _ rfl
    match xs, hxl with
    | [x0, x1, x2, x3, x4, x5, x6], _ =>
      simp [cellsS22, cells3, cells2] at f0 f1 f2 f3 f4 f5 f6
      obtain ⟨l, h1, h2⟩ := open_row f0
      obtain ⟨n1, e1, _, w1⟩ := DataW.trod_int Try.underlying3 f1
      obtain ⟨n2, e2, _, w2⟩ := DataW.trod_int Try.underlying3 f2
      obtain ⟨n3, e3, _, w3⟩ := DataW.trod_int Try.underlying3 f3
      obtain ⟨n4, e4, _, w4⟩ := DataW.trod_int Try.underlying2 f4
      obtain ⟨n5, e5, _, w5⟩ := DataW.trod_int Try.underlying2 f5
      obtain ⟨n6, e6, _, w6⟩ := DataW.trod_int Try.underlying2 f6
      simp at e1 e2 e3 e4 e5 e6
      subst e1 e2 e3 e4 e5 e6
      exact ⟨c0, n1, n2, n3, n4, n5, n6, l, rfl, h1, h2, wf_i64 w4, wf_i64 w5, wf_i64 w6⟩
set_option maxRecDepth 100000 in
theorem open_state {n : Nat} {cs : List Value} {x : DataW H × List MemPlace} (h : DataW.trod enc Try.prog W 0 (fun _ => true) true n 45 cs = some x) :
    ∃ s : St, cs = stC s ∧ s.regs.length = 16 ∧ ∀ r < 16, R64 (rg s r) := by
  obtain ⟨xs, m, rfl, hx, hl, hxl, hf⟩ := DataW.trod_struct Try.underlying45 h
  rw [cells45] at hl
  have f0 : DataW.trod enc Try.prog W 0 (fun _ => true) true m 43 ((cs.drop 0).take (Try.prog.cellsOf 43)) = xs[0]? := hf 0 _ rfl
  have f1 : DataW.trod enc Try.prog W 0 (fun _ => true) true m 3 ((cs.drop 16).take (Try.prog.cellsOf 3)) = xs[1]? := hf 1 _ rfl
  have f2 : DataW.trod enc Try.prog W 0 (fun _ => true) true m 3 ((cs.drop 17).take (Try.prog.cellsOf 3)) = xs[2]? := hf 2 _ rfl
  have f3 : DataW.trod enc Try.prog W 0 (fun _ => true) true m 27 ((cs.drop 18).take (Try.prog.cellsOf 27)) = xs[3]? := hf 3 _ rfl
  have f4 : DataW.trod enc Try.prog W 0 (fun _ => true) true m 2 ((cs.drop 19).take (Try.prog.cellsOf 2)) = xs[4]? := hf 4 _ rfl
  match xs, hxl with
  | [x0, x1, x2, x3, x4], _ =>
    rw [cells43, List.drop_zero] at f0
    rw [cells3] at f1 f2
    rw [cells27] at f3
    rw [cells2] at f4
    simp only [List.getElem?_cons_zero, List.getElem?_cons_succ] at f0 f1 f2 f3 f4
    obtain ⟨ys, m2, rfl, hy, hyl, hyn, hg⟩ := DataW.trod_array Try.underlying43 f0
    simp only [cells2, Nat.mul_one] at hg
    have hone : ∀ i, i < 16 → ∃ z, cs[i]? = some (.int .i64 z) ∧ R64 z := by
      intro i hi
      have g := hg i hi
      have hi2 : i < ys.length := by omega
      rw [List.getElem?_eq_getElem hi2] at g
      obtain ⟨z, e, _, wz⟩ := DataW.trod_int Try.underlying2 g
      refine ⟨z, ?_, wf_i64 wz⟩
      have h0 : ((cs.take 16).drop i)[0]? = some (.int .i64 z) := by
        have : (((cs.take 16).drop i).take 1)[0]? = some (.int .i64 z) := by rw [e]; rfl
        rw [List.getElem?_take] at this
        simpa using this
      rw [List.getElem?_drop, List.getElem?_take] at h0
      simpa [hi] using h0
    obtain ⟨n1, e1, _, w1⟩ := DataW.trod_int Try.underlying3 f1
    obtain ⟨n2, e2, _, w2⟩ := DataW.trod_int Try.underlying3 f2
    obtain ⟨n3, e3, _, w3⟩ := DataW.trod_int Try.underlying27 f3
    obtain ⟨n4, e4, _, w4⟩ := DataW.trod_int Try.underlying2 f4
    have htail : ∀ (o : Nat) (z : Value), (cs.drop o).take 1 = [z] → cs[o]? = some z := by
      intro o z e
      have : ((cs.drop o).take 1)[0]? = some z := by rw [e]; rfl
      rw [List.getElem?_take, List.getElem?_drop] at this
      simpa using this
    have t1 := htail _ _ e1
    have t2 := htail _ _ e2
    have t3 := htail _ _ e3
    have t4 := htail _ _ e4
    obtain ⟨z0, a0, b0⟩ := hone 0 (by omega)
    obtain ⟨z1, a1, b1⟩ := hone 1 (by omega)
    obtain ⟨z2, a2, b2⟩ := hone 2 (by omega)
    obtain ⟨z3, a3, b3⟩ := hone 3 (by omega)
    obtain ⟨z4, a4, b4⟩ := hone 4 (by omega)
    obtain ⟨z5, a5, b5⟩ := hone 5 (by omega)
    obtain ⟨z6, a6, b6⟩ := hone 6 (by omega)
    obtain ⟨z7, a7, b7⟩ := hone 7 (by omega)
    obtain ⟨z8, a8, b8⟩ := hone 8 (by omega)
    obtain ⟨z9, a9, b9⟩ := hone 9 (by omega)
    obtain ⟨z10, a10, b10⟩ := hone 10 (by omega)
    obtain ⟨z11, a11, b11⟩ := hone 11 (by omega)
    obtain ⟨z12, a12, b12⟩ := hone 12 (by omega)
    obtain ⟨z13, a13, b13⟩ := hone 13 (by omega)
    obtain ⟨z14, a14, b14⟩ := hone 14 (by omega)
    obtain ⟨z15, a15, b15⟩ := hone 15 (by omega)
    clear hf f0 f1 f2 f3 f4 hg hone htail e1 e2 e3 e4 h hx hy
    refine ⟨⟨[z0, z1, z2, z3, z4, z5, z6, z7, z8, z9, z10, z11, z12, z13, z14, z15], n1, n2, n3, n4⟩, ?_, rfl, ?_⟩
    · match cs, hl with
      | [c0, c1, c2, c3, c4, c5, c6, c7, c8, c9, c10, c11, c12, c13, c14, c15, c16, c17, c18, c19], _ =>
        cases a0; cases a1; cases a2; cases a3; cases a4; cases a5; cases a6; cases a7; cases a8; cases a9; cases a10; cases a11; cases a12; cases a13; cases a14; cases a15; cases t1; cases t2; cases t3; cases t4
        rfl
    · intro r hr
      match r, hr with
      | 0, _ => exact b0
      | 1, _ => exact b1
      | 2, _ => exact b2
      | 3, _ => exact b3
      | 4, _ => exact b4
      | 5, _ => exact b5
      | 6, _ => exact b6
      | 7, _ => exact b7
      | 8, _ => exact b8
      | 9, _ => exact b9
      | 10, _ => exact b10
      | 11, _ => exact b11
      | 12, _ => exact b12
      | 13, _ => exact b13
      | 14, _ => exact b14
      | 15, _ => exact b15
      | j + 16, h => exact absurd h (by omega)
end
end Go.Proofs.Ytkcncngcmhldpaa
