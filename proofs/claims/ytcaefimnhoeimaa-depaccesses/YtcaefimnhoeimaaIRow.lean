/- Rows of instructions in memory; the document's One, whole. -/
import Derived.Test.YtcaefimnhoeimaaIRefO1
import Derived.Test.YtcaefimnhoeimaaIRefO2
import Derived.Test.YtcaefimnhoeimaaIRefO3
import Derived.Test.YtcaefimnhoeimaaIRefO4
import Derived.Test.YtcaefimnhoeimaaIRefO5
import Derived.Deep.Slices
import Derived.ProofKit
import Derived.OpenShut
import Derived.ChangeOld
namespace Go.Proofs.Ytcaefimnhoeimaa
open Go.ChangeShapes Go.WideShapes Go.ChangeAt Go.RowKit Go.Deep
set_option linter.unusedVariables false
set_option linter.unusedSimpArgs false

set_option maxRecDepth 100000 in
set_option maxHeartbeats 4000000 in
theorem refOne_none (x : In) (cells long : Int) (w : World) (h : x.kind < 1 ∨ 13 < x.kind) : Calls Try.prog 28 #[iv x, .int .i64 cells, .int .i64 long] w fun e w' => e = .returned (.int .i64 (oneC x cells long)) ∧ Below w.heap.size w w' := by
  rw [oneC_none x cells long h]
  have H : Hid (x.kind < 1 ∨ 13 < x.kind) := h
  clear h
  unfold iv
  go_enter Try.func28, Try.ntmps28
  go_wp2_with fail
  refine (refParts_none _ _ H.out).mono ?_
  rintro e w1 ⟨rfl, b1⟩
  have B1 : Hid (Below w.heap.size w w1) := ((Below.refl _ _).alloc (Nat.le_refl _) _).trans (b1.mono (by simp))
  clear b1
  go_wp2
  go_ret
  exact ⟨rfl, B1.out⟩
theorem refOne_any (x : In) (cells long : Int) (w : World) : Calls Try.prog 28 #[iv x, .int .i64 cells, .int .i64 long] w fun e w' => e = .returned (.int .i64 (oneC x cells long)) ∧ Below w.heap.size w w' := by
  by_cases h : x.kind < 1 ∨ 13 < x.kind
  · exact refOne_none x cells long w h
  · obtain ⟨n, op, a, b, c, k⟩ := x
    have : n = 1 ∨ n = 2 ∨ n = 3 ∨ n = 4 ∨ n = 5 ∨ n = 6 ∨ n = 7 ∨ n = 8 ∨ n = 9 ∨ n = 10 ∨ n = 11 ∨ n = 12 ∨ n = 13 := by simp at h; omega
    rcases this with rfl | rfl | rfl | rfl | rfl | rfl | rfl | rfl | rfl | rfl | rfl | rfl | rfl
    · exact refOne_1 op a b c k cells long w
    · exact refOne_2 op a b c k cells long w
    · exact refOne_3 op a b c k cells long w
    · exact refOne_4 op a b c k cells long w
    · exact refOne_5 op a b c k cells long w
    · exact refOne_6 op a b c k cells long w
    · exact refOne_7 op a b c k cells long w
    · exact refOne_8 op a b c k cells long w
    · exact refOne_9 op a b c k cells long w
    · exact refOne_10 op a b c k cells long w
    · exact refOne_11 op a b c k cells long w
    · exact refOne_12 op a b c k cells long w
    · exact refOne_13 op a b c k cells long w

/-- a number of 64 bits -/
def r64 (n : Int) : Prop := -9223372036854775808 ≤ n ∧ n ≤ 9223372036854775807
/-- an instruction in memory -/
structure IAt (w : World) (b o : Nat) (x : In) : Prop where
  c0 : w.cell? ⟨b, o, none⟩ = some (.int .i64 x.kind)
  c1 : w.cell? ⟨b, o + 1, none⟩ = some (.int .i64 x.op)
  c2 : w.cell? ⟨b, o + 2, none⟩ = some (.int .i64 x.a)
  c3 : w.cell? ⟨b, o + 3, none⟩ = some (.int .i64 x.b)
  c4 : w.cell? ⟨b, o + 4, none⟩ = some (.int .i64 x.c)
  c5 : w.cell? ⟨b, o + 5, none⟩ = some (.int .i64 x.k)
structure InR (x : In) : Prop where
  kind : r64 x.kind
  op : r64 x.op
  a : r64 x.a
  b : r64 x.b
  c : r64 x.c
  k : r64 x.k
theorem IAt.block {w w' : World} {b o : Nat} {x : In} (h : IAt w b o x) (hb : w'.heap[b]? = w.heap[b]?) : IAt w' b o x :=
  ⟨(World.cell?_of_block (w := w) (a := ⟨b, o, none⟩) hb).trans h.c0, (World.cell?_of_block (w := w) (a := ⟨b, o + 1, none⟩) hb).trans h.c1, (World.cell?_of_block (w := w) (a := ⟨b, o + 2, none⟩) hb).trans h.c2, (World.cell?_of_block (w := w) (a := ⟨b, o + 3, none⟩) hb).trans h.c3, (World.cell?_of_block (w := w) (a := ⟨b, o + 4, none⟩) hb).trans h.c4, (World.cell?_of_block (w := w) (a := ⟨b, o + 5, none⟩) hb).trans h.c5⟩
theorem IAt.lt {w : World} {b o : Nat} {x : In} (h : IAt w b o x) : b < w.heap.size := World.block_lt_of_cell? w ⟨b, o, none⟩ h.c0
/-- a slice of instructions -/
def ISl (w : World) (v : Value) (l : List In) : Prop :=
  ∃ ad cap b o, v = .slice ad l.length cap ∧ l.length ≤ cap ∧ cap ≤ maxLen ∧ (0 < l.length → ad = some ⟨b, o, none⟩) ∧ ∀ i (h : i < l.length), IAt w b (o + i * 6) l[i]
theorem ISl.below {w w' : World} {v : Value} {l : List In} (h : ISl w v l) (hb : Below w.heap.size w w') : ISl w' v l := by
  obtain ⟨ad, cap, b, o, h1, h2, h3, h4, h5⟩ := h
  exact ⟨ad, cap, b, o, h1, h2, h3, h4, fun i hi => (h5 i hi).block (hb.block b (h5 i hi).lt)⟩
theorem ISl.nil (w : World) : ISl w (.slice none 0 0) [] := ⟨none, 0, 0, 0, rfl, Nat.le_refl _, Nat.zero_le _, fun h => absurd h (by simp), fun i hi => absurd hi (by simp)⟩

section
variable {H : Type} {enc : TypeId × Value → H} {W : World}
theorem addn (b o j : Nat) : (⟨b, o, none⟩ : Addr).add j = ⟨b, o + j, none⟩ := by
  unfold Addr.add
  split
  · rename_i h; subst h; rfl
  · rfl
theorem wf_i64 {n : Int} (h : (Lit.int .i64 n).wf = true) : r64 n := by
  simp only [Lit.wf, Bool.and_eq_true, decide_eq_true_eq] at h
  exact h
theorem cells25 : Try.prog.cellsOf 53 = 6 := by kernel_rfl
theorem cells22 : Try.prog.cellsOf 50 = 1 := by kernel_rfl
theorem cells23 : Try.prog.cellsOf 51 = 1 := by kernel_rfl
theorem cells3 : Try.prog.cellsOf 3 = 1 := by kernel_rfl
theorem cells2 : Try.prog.cellsOf 2 = 1 := by kernel_rfl
set_option maxRecDepth 100000 in
theorem open_in {n : Nat} {cs : List Value} {x : DataW H × List MemPlace} (h : DataW.trod enc Try.prog W 0 (fun _ => true) true n 53 cs = some x) :
    ∃ y : In, cs = [.int .i64 y.kind, .int .i64 y.op, .int .i64 y.a, .int .i64 y.b, .int .i64 y.c, .int .i64 y.k] ∧ InR y := by
  obtain ⟨xs, m, rfl, hx, hl, hxl, hf⟩ := DataW.trod_struct Try.underlying53 h
  rw [cells25] at hl
  match cs, hl with
  | [c0, c1, c2, c3, c4, c5], _ =>
    have f0 := hf 0 _ rfl
    have f1 := hf 1 _ rfl
    have f2 := hf 2 _ rfl
    have f3 := hf 3 _ rfl
    have f4 := hf 4 _ rfl
    have f5 := hf 5 _ rfl
    match xs, hxl with
    | [x0, x1, x2, x3, x4, x5], _ =>
      simp [cells22, cells23, cells3, cells2] at f0 f1 f2 f3 f4 f5
      obtain ⟨n0, e0, _, w0⟩ := DataW.trod_int Try.underlying50 f0
      obtain ⟨n1, e1, _, w1⟩ := DataW.trod_int Try.underlying51 f1
      obtain ⟨n2, e2, _, w2⟩ := DataW.trod_int Try.underlying3 f2
      obtain ⟨n3, e3, _, w3⟩ := DataW.trod_int Try.underlying3 f3
      obtain ⟨n4, e4, _, w4⟩ := DataW.trod_int Try.underlying3 f4
      obtain ⟨n5, e5, _, w5⟩ := DataW.trod_int Try.underlying2 f5
      simp at e0 e1 e2 e3 e4 e5
      subst e0 e1 e2 e3 e4 e5
      exact ⟨⟨n0, n1, n2, n3, n4, n5⟩, rfl, wf_i64 w0, wf_i64 w1, wf_i64 w2, wf_i64 w3, wf_i64 w4, wf_i64 w5⟩
set_option maxRecDepth 100000 in
theorem open_row {n : Nat} {v : Value} {x : DataW H × List MemPlace} (h : DataW.trod enc Try.prog W 0 (fun _ => true) true n 22 [v] = some x) : ∃ l, ISl W v l ∧ ∀ y ∈ l, InR y := by
  rcases open_slice Try.underlying22 h with ⟨hc, hx⟩ | ⟨a, len, cap, m, n', D, Pl, hc, _, hl, hcap, hm, hx, hall⟩
  · simp only [List.cons.injEq, and_true] at hc
    subst hc
    exact ⟨[], ISl.nil W, fun y hy => absurd hy (by simp)⟩
  · simp only [List.cons.injEq, and_true] at hc
    simp only [if_true] at hm
    subst hm
    obtain ⟨b, o, spot⟩ := a
    have hsp : 0 < len → spot = none := by
      intro h0
      obtain ⟨cs', hcs, ht⟩ := hall 0 (by omega)
      rw [cells25] at hcs
      obtain ⟨_, rfl, _⟩ := open_in ht
      obtain ⟨_, _, hcell⟩ := World.cells?_some hcs
      simpa [Addr.add] using World.cell?_spot (hcell 0 (by omega))
    have hone : ∀ i, i < len → ∃ y, IAt W b (o + i * 6) y ∧ InR y := by
      intro i hi
      obtain ⟨cs', hcs, ht⟩ := hall i (by omega)
      rw [cells25] at hcs
      obtain ⟨y, rfl, hr⟩ := open_in ht
      obtain ⟨_, hlen, hcell⟩ := World.cells?_some hcs
      have q0 := hcell 0 (by omega)
      have q1 := hcell 1 (by omega)
      have q2 := hcell 2 (by omega)
      have q3 := hcell 3 (by omega)
      have q4 := hcell 4 (by omega)
      have q5 := hcell 5 (by omega)
      have hspot : spot = none := hsp (by omega)
      subst hspot
      simp only [addn, Nat.add_zero, List.getElem_cons_zero, List.getElem_cons_succ] at q0 q1 q2 q3 q4 q5
      exact ⟨y, ⟨q0, q1, q2, q3, q4, q5⟩, hr⟩
    have hrow : ∀ c, c ≤ len → ∃ l : List In, l.length = c ∧ (∀ i (h : i < l.length), IAt W b (o + i * 6) l[i]) ∧ ∀ y ∈ l, InR y := by
      intro c
      induction c with
      | zero => intro _; exact ⟨[], rfl, fun i hi => absurd hi (by simp), fun y hy => absurd hy (by simp)⟩
      | succ c ih =>
        intro hc'
        obtain ⟨l, h1, h2, h3⟩ := ih (by omega)
        obtain ⟨y, hy, hr⟩ := hone c (by omega)
        refine ⟨l ++ [y], by simp [h1], fun i hi => ?_, fun z hz => ?_⟩
        · rcases Nat.lt_or_ge i l.length with h | h
          · rw [List.getElem_append_left h]; exact h2 i h
          · have : i = c := by simp at hi; omega
            subst this
            rw [List.getElem_append_right h]
            simpa [h1] using hy
        · rcases List.mem_append.1 hz with h | h
          · exact h3 z h
          · rw [List.mem_singleton.1 h]; exact hr
    obtain ⟨l, h1, h2, h3⟩ := hrow len (Nat.le_refl _)
    refine ⟨l, ⟨some ⟨b, o, spot⟩, m, b, o, by rw [h1]; exact hc, by omega, hcap, fun h0 => ?_, h2⟩, h3⟩
    rw [hsp (by omega)]
end
end Go.Proofs.Ytcaefimnhoeimaa
