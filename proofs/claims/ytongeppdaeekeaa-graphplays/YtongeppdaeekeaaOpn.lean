/- Rows that came in are read. -/
import Derived.Test.YtongeppdaeekeaaAtK
import Derived.Deep.Slices
import Derived.ProofKit
import Derived.OpenShut
import Derived.ChangeOld
import Derived.Below
import Derived.Carry
namespace Go.Proofs.Ytongeppdaeekeaa
open Go.ChangeShapes Go.WideShapes Go.ChangeAt Go.RowKit Go.Deep
set_option linter.unusedVariables false
theorem wf_i64 {n : Int} (h : (Lit.int .i64 n).wf = true) : R64 n := by
  simp only [Lit.wf, Bool.and_eq_true, decide_eq_true_eq] at h
  exact h
section
variable {H : Type} {enc : TypeId × Value → H} {W : World}
/-- a slice of things of k cells each -/
def SlG {α : Type} (W : World) (v : Value) (k : Nat) (cells : α → List Value) (l : List α) : Prop :=
  ∃ a c b o, v = .slice a l.length c ∧ l.length ≤ c ∧ c ≤ maxLen ∧ (0 < l.length → a = some ⟨b, o, none⟩) ∧ ∀ i (h : i < l.length) j, j < k → W.cell? ⟨b, o + (i * k + j), none⟩ = (cells l[i])[j]?
set_option maxRecDepth 100000 in
theorem open_rows {α : Type} (ty ety : TypeId) (k : Nat) (hty : Try.prog.underlying ty = some (.slice ety)) (hcl : Try.prog.cellsOf ety = k) (hk : 0 < k) (cells : α → List Value) (R : α → Prop)
    (hopen : ∀ n cs x, DataW.trod enc Try.prog W 0 (fun _ => true) true n ety cs = some x → ∃ y, cs = cells y ∧ R y) (hlen : ∀ y, (cells y).length = k)
    {n : Nat} {v : Value} {x : DataW H × List MemPlace} (h : DataW.trod enc Try.prog W 0 (fun _ => true) true n ty [v] = some x) : ∃ l, SlG W v k cells l ∧ ∀ y ∈ l, R y := by
  rcases open_slice hty h with ⟨hc, hx⟩ | ⟨a, len, cap, m, n', D, Pl, hc, _, hl, hcap, hm, hx, hall⟩
  · simp only [List.cons.injEq, and_true] at hc
    subst hc
    exact ⟨[], ⟨none, 0, 0, 0, rfl, Nat.le_refl _, Nat.zero_le _, fun h => absurd h (by simp), fun i hi => absurd hi (by simp)⟩, fun y hy => absurd hy (by simp)⟩
  · simp only [List.cons.injEq, and_true] at hc
    simp only [if_true] at hm
    subst hm
    obtain ⟨b, o, spot⟩ := a
    have hcl2 : ∀ i, i < len → ∃ y, (∀ j (hj : j < k), W.cell? (((⟨b, o, spot⟩ : Addr).add (i * k)).add j) = (cells y)[j]?) ∧ R y := by
      intro i hi
      obtain ⟨cs', hcs, ht⟩ := hall i (by omega)
      rw [hcl] at hcs
      obtain ⟨y, rfl, hr⟩ := hopen _ _ _ ht
      obtain ⟨_, _, hcell⟩ := World.cells?_some hcs
      refine ⟨y, fun j hj => ?_, hr⟩
      have q0 := hcell j (by first | exact hj | (rw [hlen]; exact hj))
      rw [q0]
    have hsp : 0 < len → spot = none := by
      intro h0
      obtain ⟨y, hy, _⟩ := hcl2 0 h0
      have := hy 0 hk
      rw [List.getElem?_eq_getElem (by rw [hlen]; exact hk)] at this
      simpa [Addr.add] using World.cell?_spot this
    have hone : ∀ i, i < len → ∃ y, (∀ j, j < k → W.cell? ⟨b, o + (i * k + j), none⟩ = (cells y)[j]?) ∧ R y := by
      intro i hi
      obtain ⟨y, hy, hr⟩ := hcl2 i hi
      have hspot : spot = none := hsp (by omega)
      subst hspot
      refine ⟨y, fun j hj => ?_, hr⟩
      have := hy j hj
      rw [addn, addn, Nat.add_assoc] at this
      exact this
    have hrow : ∀ c, c ≤ len → ∃ l : List α, l.length = c ∧ (∀ i (h : i < l.length) j, j < k → W.cell? ⟨b, o + (i * k + j), none⟩ = (cells l[i])[j]?) ∧ ∀ y ∈ l, R y := by
      intro c
      induction c with
      | zero => intro _; exact ⟨[], rfl, fun i hi => absurd hi (by simp), fun y hy => absurd hy (by simp)⟩
      | succ c ih =>
        intro hc'
        obtain ⟨l, h1, h2, h3⟩ := ih (by omega)
        obtain ⟨y, hy, hr⟩ := hone c (by omega)
        refine ⟨l ++ [y], by simp [h1], fun i hi j hj => ?_, fun z hz => ?_⟩
        · rcases Nat.lt_or_ge i l.length with h | h
          · rw [List.getElem_append_left h]; exact h2 i h j hj
          · have : i = c := by simp at hi; omega
            subst this
            rw [List.getElem_append_right h]
            simpa [h1] using hy j hj
        · rcases List.mem_append.1 hz with h | h
          · exact h3 z h
          · rw [List.mem_singleton.1 h]; exact hr
    obtain ⟨l, h1, h2, h3⟩ := hrow len (Nat.le_refl _)
    refine ⟨l, ⟨some ⟨b, o, spot⟩, m, b, o, by rw [h1]; exact hc, by omega, hcap, fun h0 => ?_, h2⟩, h3⟩
    rw [hsp (by omega)]

theorem SlG.rs {α : Type} {K : RK α} {v : Value} {l : List α} (h : SlG W v K.k K.cl l) : RS K W v l := h
theorem cellsT2 : Try.prog.cellsOf 2 = 1 := by kernel_rfl
theorem cellsT3 : Try.prog.cellsOf 3 = 1 := by kernel_rfl
theorem cellsT57 : Try.prog.cellsOf 57 = 3 := by kernel_rfl
theorem open_num64 {n : Nat} {cs : List Value} {x : DataW H × List MemPlace} (h : DataW.trod enc Try.prog W 0 (fun _ => true) true n 2 cs = some x) : ∃ z, cs = uno z ∧ R64 z := by
  obtain ⟨z, rfl, _, wz⟩ := DataW.trod_int Try.underlying2 h
  exact ⟨z, rfl, wf_i64 wz⟩
set_option maxRecDepth 100000 in
theorem open_read {n : Nat} {cs : List Value} {x : DataW H × List MemPlace} (h : DataW.trod enc Try.prog W 0 (fun _ => true) true n 57 cs = some x) : ∃ z, cs = tri z ∧ (R64 z.1 ∧ R64 z.2.1 ∧ R64 z.2.2) := by
  obtain ⟨xs, m, rfl, hx, hl, hxl, hf⟩ := DataW.trod_struct Try.underlying57 h
  rw [cellsT57] at hl
  match cs, hl with
  | [c0, c1, c2], _ =>
    have f0 := hf 0 _ rfl
    have f1 := hf 1 _ rfl
    have f2 := hf 2 _ rfl
    match xs, hxl with
    | [x0, x1, x2], _ =>
      simp [cellsT2, cellsT3] at f0 f1 f2
      obtain ⟨n0, e0, _, w0⟩ := DataW.trod_int Try.underlying3 f0
      obtain ⟨n1, e1, _, w1⟩ := DataW.trod_int Try.underlying2 f1
      obtain ⟨n2, e2, _, w2⟩ := DataW.trod_int Try.underlying3 f2
      simp at e0 e1 e2
      subst e0 e1 e2
      exact ⟨(n0, n1, n2), rfl, wf_i64 w0, wf_i64 w1, wf_i64 w2⟩
theorem open_reads {n : Nat} {v : Value} {x : DataW H × List MemPlace} (h : DataW.trod enc Try.prog W 0 (fun _ => true) true n 54 [v] = some x) : ∃ l, RS kR W v l ∧ ∀ y ∈ l, R64 y.1 ∧ R64 y.2.1 ∧ R64 y.2.2 := by
  obtain ⟨l, h1, h2⟩ := open_rows 54 57 3 Try.underlying54 cellsT57 (by omega) tri (fun y => R64 y.1 ∧ R64 y.2.1 ∧ R64 y.2.2) (fun n cs x ht => open_read ht) (fun _ => rfl) h
  exact ⟨l, h1, h2⟩
theorem open_nums {n : Nat} {v : Value} {x : DataW H × List MemPlace} (h : DataW.trod enc Try.prog W 0 (fun _ => true) true n 26 [v] = some x) : ∃ l, RS kN W v l ∧ ∀ y ∈ l, R64 y := by
  obtain ⟨l, h1, h2⟩ := open_rows 26 2 1 Try.underlying26 cellsT2 (by omega) uno R64 (fun n cs x ht => open_num64 ht) (fun _ => rfl) h
  exact ⟨l, h1, h2⟩
end
end Go.Proofs.Ytongeppdaeekeaa
