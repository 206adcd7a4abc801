/- Things that came in: rows of them in memory. -/
import Derived.Test.YtjdcoiekbnefkabKMem
import Derived.Deep.Slices
import Derived.ProofKit
import Derived.OpenShut
import Derived.ShutString
import Derived.ChangeOld
namespace Go.Proofs.Ytjdcoiekbnefkab
open Go.ChangeShapes Go.WideShapes Go.ChangeAt Go.RowKit Go.Deep
set_option linter.unusedVariables false
set_option linter.unusedSimpArgs false

/-- a thing to be laid down -/
structure It where
  k : Int
  u : Int
  n : Int
  f : Bool
  s : ByteArray
  l : List Int

/-- a slice of numbers that came in -/
def NSl (w : World) (v : Value) (l : List Int) : Prop :=
  ∃ ad cap, v = .slice ad l.length cap ∧ l.length ≤ cap ∧ cap ≤ maxLen ∧ (∀ n ∈ l, -9223372036854775808 ≤ n ∧ n ≤ 9223372036854775807) ∧ (0 < l.length → ∃ b o, ad = some ⟨b, o, none⟩ ∧ b < w.heap.size ∧ ∀ i (h : i < l.length), w.cell? ⟨b, o + i, none⟩ = some (.int .i64 l[i]))
set_option maxRecDepth 100000 in
theorem NSl.below {w w' : World} {v : Value} {l : List Int} (h : NSl w v l) (hb : Below w.heap.size w w') : NSl w' v l := by
  obtain ⟨ad, cap, h1, h2, h3, h4, h5⟩ := h
  refine ⟨ad, cap, h1, h2, h3, h4, fun h0 => ?_⟩
  obtain ⟨b, o, e, hlt, hc⟩ := h5 h0
  exact ⟨b, o, e, Nat.lt_of_lt_of_le hlt hb.size, fun i hi => (hb.cell (p := ⟨b, o + i, none⟩) hlt).trans (hc i hi)⟩

/-- a thing in memory -/
structure IAt (w : World) (x : It) (b o : Nat) : Prop where
  c0 : w.cell? ⟨b, o, none⟩ = some (.int .i64 x.k)
  c1 : w.cell? ⟨b, o + 1, none⟩ = some (.int .u64 x.u)
  c2 : w.cell? ⟨b, o + 2, none⟩ = some (.int .i64 x.n)
  c3 : w.cell? ⟨b, o + 3, none⟩ = some (.bool x.f)
  c4 : w.cell? ⟨b, o + 4, none⟩ = some (.string x.s)
  c5 : ∃ v, w.cell? ⟨b, o + 5, none⟩ = some v ∧ NSl w v x.l
  hk : -9223372036854775808 ≤ x.k ∧ x.k ≤ 9223372036854775807
  hu : 0 ≤ x.u ∧ x.u ≤ 18446744073709551615
  hn : -9223372036854775808 ≤ x.n ∧ x.n ≤ 9223372036854775807
  hs : x.s.size ≤ maxLen
set_option maxRecDepth 100000 in
theorem IAt.below {w w' : World} {x : It} {b o : Nat} (h : IAt w x b o) (hb : Below w.heap.size w w') : IAt w' x b o := by
  have hlt : b < w.heap.size := World.block_lt_of_cell? w ⟨b, o, none⟩ h.c0
  obtain ⟨v, h5, h6⟩ := h.c5
  exact ⟨(hb.cell (p := ⟨b, o, none⟩) hlt).trans h.c0, (hb.cell (p := ⟨b, o + 1, none⟩) hlt).trans h.c1, (hb.cell (p := ⟨b, o + 2, none⟩) hlt).trans h.c2, (hb.cell (p := ⟨b, o + 3, none⟩) hlt).trans h.c3, (hb.cell (p := ⟨b, o + 4, none⟩) hlt).trans h.c4, ⟨v, (hb.cell (p := ⟨b, o + 5, none⟩) hlt).trans h5, h6.below hb⟩, h.hk, h.hu, h.hn, h.hs⟩

/-- a slice of things -/
def Its (w : World) (v : Value) (l : List It) : Prop :=
  ∃ ad cap b o, v = .slice ad l.length cap ∧ l.length ≤ cap ∧ cap ≤ maxLen ∧ (0 < l.length → ad = some ⟨b, o, none⟩) ∧ ∀ i (h : i < l.length), IAt w l[i] b (o + 6 * i)
set_option maxRecDepth 100000 in
theorem Its.below {w w' : World} {v : Value} {l : List It} (h : Its w v l) (hb : Below w.heap.size w w') : Its w' v l := by
  obtain ⟨ad, cap, b, o, h1, h2, h3, h4, h5⟩ := h
  exact ⟨ad, cap, b, o, h1, h2, h3, h4, fun i hi => (h5 i hi).below hb⟩

/-- may this be asked? -/
def okIt (x : It) : Bool := decide (x.s.size ≤ 1024) && decide (x.l.length ≤ 256)
def smallB (l : List It) : Bool := decide (l.length ≤ 64) && l.all okIt

section
variable {H : Type} {enc : TypeId × Value → H} {W : World}
set_option maxRecDepth 100000 in
theorem addn (b o j : Nat) : (⟨b, o, none⟩ : Addr).add j = ⟨b, o + j, none⟩ := by
  unfold Addr.add
  split
  · rename_i h; subst h; rfl
  · rfl
set_option maxRecDepth 100000 in
theorem wf_i64 {n : Int} (h : (Lit.int .i64 n).wf = true) : -9223372036854775808 ≤ n ∧ n ≤ 9223372036854775807 := by
  simp only [Lit.wf, Bool.and_eq_true, decide_eq_true_eq] at h
  exact h
set_option maxRecDepth 100000 in
theorem wf_u64 {n : Int} (h : (Lit.int .u64 n).wf = true) : 0 ≤ n ∧ n ≤ 18446744073709551615 := by
  simp only [Lit.wf, Bool.and_eq_true, decide_eq_true_eq] at h
  exact h

set_option maxRecDepth 100000 in
theorem open_nums {n : Nat} {v : Value} {x : DataW H × List MemPlace} (h : DataW.trod enc Try.prog W 0 (fun _ => true) true n 60 [v] = some x) : ∃ l, NSl W v l := by
  rcases open_ints Try.underlying60 Try.underlying2 (by kernel_rfl) h with ⟨hcs, _⟩ | ⟨a, len, cap, zs, hcs, _, hl, hm, hz, _, hcell, hwz⟩
  · simp only [List.cons.injEq, and_true] at hcs
    exact ⟨[], none, 0, hcs, Nat.le_refl _, Nat.zero_le _, fun n hn => (by cases hn), fun h => absurd h (by simp)⟩
  · simp only [List.cons.injEq, and_true] at hcs
    simp only [if_true] at hz
    have hlen : (zs.take len).length = len := by simp; omega
    refine ⟨zs.take len, some a, cap, by rw [hlen]; exact hcs, by rw [hlen]; exact hl, hm, fun n hn => wf_i64 (hwz n (List.mem_of_mem_take hn)), fun h0 => ?_⟩
    rw [hlen] at h0
    obtain ⟨b, o, spot⟩ := a
    have c0 := hcell 0 (by omega)
    have hsp : spot = none := by simpa [Addr.add] using World.cell?_spot c0
    subst hsp
    refine ⟨b, o, rfl, World.block_lt_of_cell? W ⟨b, o, none⟩ (by simpa [Addr.add] using c0), fun i hi => ?_⟩
    rw [hlen] at hi
    have := hcell i (by omega)
    rw [addn] at this
    rw [this, List.getElem_take]
    simp [List.getD, List.getElem?_eq_getElem (show i < zs.length by omega)]

set_option maxRecDepth 100000 in
theorem cellsItem : Try.prog.cellsOf 62 = 6 := by kernel_rfl
set_option maxRecDepth 100000 in
theorem cellsInts : Try.prog.cellsOf 60 = 1 := by kernel_rfl
set_option maxRecDepth 100000 in
theorem cells3 : Try.prog.cellsOf 3 = 1 := by kernel_rfl
set_option maxRecDepth 100000 in
theorem cells4 : Try.prog.cellsOf 4 = 1 := by kernel_rfl
set_option maxRecDepth 100000 in
theorem cells9 : Try.prog.cellsOf 9 = 1 := by kernel_rfl
set_option maxRecDepth 100000 in
theorem cellsU64 : Try.prog.cellsOf 27 = 1 := by kernel_rfl
set_option maxRecDepth 100000 in
theorem cellsI64 : Try.prog.cellsOf 2 = 1 := by kernel_rfl

set_option maxRecDepth 100000 in
theorem open_item {n : Nat} {cs : List Value} {x : DataW H × List MemPlace} (h : DataW.trod enc Try.prog W 0 (fun _ => true) true n 62 cs = some x) :
    ∃ (y : It) (v : Value), cs = [.int .i64 y.k, .int .u64 y.u, .int .i64 y.n, .bool y.f, .string y.s, v] ∧ NSl W v y.l ∧ (-9223372036854775808 ≤ y.k ∧ y.k ≤ 9223372036854775807) ∧ (0 ≤ y.u ∧ y.u ≤ 18446744073709551615) ∧ (-9223372036854775808 ≤ y.n ∧ y.n ≤ 9223372036854775807) ∧ y.s.size ≤ maxLen := by
  obtain ⟨xs, m, rfl, hx, hl, hxl, hf⟩ := DataW.trod_struct Try.underlying62 h
  rw [cellsItem] at hl
  match cs, hl with
  | [c0, c1, c2, c3, c4, c5], _ =>
    have f0 := hf 0 _ rfl
    have f1 := hf 1 _ rfl
    have f2 := hf 2 _ rfl
    have f3 := hf 3 _ rfl
    have f4 := hf 4 _ rfl
    have f5 := hf 5 _ rfl
    match xs, hxl with
    | [x0, x1, x2, x3, x4, x5], _ =>
      simp [cells3, cellsU64, cellsI64, cells4, cells9, cellsInts] at f0 f1 f2 f3 f4 f5
      obtain ⟨k, e0, _, w0⟩ := DataW.trod_int Try.underlying3 f0
      obtain ⟨u, e1, _, w1⟩ := DataW.trod_int Try.underlying27 f1
      obtain ⟨n, e2, _, w2⟩ := DataW.trod_int Try.underlying2 f2
      obtain ⟨f, e3, _⟩ := DataW.trod_bool Try.underlying4 f3
      obtain ⟨s, e4, _, hs⟩ := DataW.trod_string Try.underlying9 f4
      obtain ⟨l, hn⟩ := open_nums f5
      simp at e0 e1 e2 e3 e4
      subst e0 e1 e2 e3 e4
      exact ⟨⟨k, u, n, f, s, l⟩, c5, rfl, hn, wf_i64 w0, wf_u64 w1, wf_i64 w2, hs⟩

set_option maxRecDepth 100000 in
theorem open_items {n : Nat} {v : Value} {x : DataW H × List MemPlace} (h : DataW.trod enc Try.prog W 0 (fun _ => true) true n 35 [v] = some x) : ∃ l, Its W v l := by
  rcases open_slice Try.underlying35 h with ⟨hc, hx⟩ | ⟨a, len, cap, m, n', D, Pl, hc, _, hl, hcap, hm, hx, hall⟩
  · simp only [List.cons.injEq, and_true] at hc
    exact ⟨[], none, 0, 0, 0, hc, Nat.le_refl _, Nat.zero_le _, fun h => absurd h (by simp), fun i hi => absurd hi (by simp)⟩
  · simp only [List.cons.injEq, and_true] at hc
    simp only [if_true] at hm
    subst hm
    obtain ⟨b, o, spot⟩ := a
    have hsp : 0 < len → spot = none := by
      intro h0
      obtain ⟨cs', hcs, ht⟩ := hall 0 (by omega)
      rw [cellsItem] at hcs
      obtain ⟨_, _, rfl, _⟩ := open_item ht
      obtain ⟨_, _, hcell⟩ := World.cells?_some hcs
      simpa [Addr.add] using World.cell?_spot (hcell 0 (by omega))
    have hone : ∀ i, i < len → ∃ y, IAt W y b (o + 6 * i) := by
      intro i hi
      obtain ⟨cs', hcs, ht⟩ := hall i (by omega)
      rw [cellsItem] at hcs
      obtain ⟨y, v5, rfl, hv5, hk, hu, hn, hs⟩ := open_item ht
      obtain ⟨_, hlen, hcell⟩ := World.cells?_some hcs
      have q0 := hcell 0 (by omega)
      have q1 := hcell 1 (by omega)
      have q2 := hcell 2 (by omega)
      have q3 := hcell 3 (by omega)
      have q4 := hcell 4 (by omega)
      have q5 := hcell 5 (by omega)
      have hspot : spot = none := hsp (by omega)
      subst hspot
      simp only [addn, Nat.add_zero, List.getElem_cons_zero, List.getElem_cons_succ] at q0 q1 q2 q3 q4 q5
      rw [Nat.mul_comm i 6] at q0 q1 q2 q3 q4 q5
      exact ⟨y, q0, q1, q2, q3, q4, ⟨v5, q5, hv5⟩, hk, hu, hn, hs⟩
    have hrow : ∀ c, c ≤ len → ∃ l : List It, l.length = c ∧ ∀ i (h : i < l.length), IAt W l[i] b (o + 6 * i) := by
      intro c
      induction c with
      | zero => intro _; exact ⟨[], rfl, fun i hi => absurd hi (by simp)⟩
      | succ c ih =>
        intro hc'
        obtain ⟨l, h1, h2⟩ := ih (by omega)
        obtain ⟨y, hy⟩ := hone c (by omega)
        refine ⟨l ++ [y], by simp [h1], fun i hi => ?_⟩
        rcases Nat.lt_or_ge i l.length with h | h
        · rw [List.getElem_append_left h]; exact h2 i h
        · have : i = c := by simp at hi; omega
          subst this
          rw [List.getElem_append_right h]
          simpa [h1] using hy
    obtain ⟨l, h1, h2⟩ := hrow len (Nat.le_refl _)
    refine ⟨l, some ⟨b, o, spot⟩, m, b, o, by rw [h1]; exact hc, by omega, hcap, fun h0 => ?_, h2⟩
    rw [hsp (by omega)]
end
end Go.Proofs.Ytjdcoiekbnefkab
