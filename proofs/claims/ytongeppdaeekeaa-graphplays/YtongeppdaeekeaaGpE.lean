/- The walk of GraphPlays: the state. -/
import Derived.Test.YtongeppdaeekeaaGpD
import Derived.Test.YtongeppdaeekeaaGfE
namespace Go.Proofs.Ytongeppdaeekeaa
open Go.RowKit Go.Maps
set_option linter.unusedVariables false

/-- a row of edges doesn't lie in a graph's box -/
theorem no_box {W : World} {v : Value} {L : Ed} {g7 : Nat} {x y : Value} (h : RS kF W v L) (hb : W.heap[g7]? = some (.cells #[x, y] 72)) (hy : ∀ z, y ≠ .int .i64 z) (h0 : 0 < L.length) : ∀ o n c, v ≠ .slice (some ⟨g7, o, none⟩) n c := by
  intro o n c e
  subst e
  obtain ⟨b, bo, n2, c2, hg, hcl⟩ := h.cell h0
  simp only [Value.slice.injEq, Option.some.injEq, Addr.mk.injEq] at hg
  obtain ⟨⟨rfl, rfl, -⟩, -, -⟩ := hg
  obtain ⟨z, hz⟩ : ∃ z, L[0]'h0 = z := ⟨_, rfl⟩
  rw [hz] at hcl
  obtain ⟨y0, y1⟩ := duo_cells rfl rfl hcl
  rw [cell_of_row W _ _ _ _ _ hb] at y1
  rcases o with _ | o
  · simp at y1
    exact hy _ y1
  · simp at y1
/-- the program's graph, the document's, and the box that it lies in -/
structure GI (w W : World) (gb g7 m : Nat) (ev : Value) (E : Ed) (v : Value) (L : Ed) : Prop where
  gd : GD kF w W gb m ev E v L
  pe : PE E L
  bx : W.heap[g7]? = some (.cells #[.int .i64 (m : Int), v] 72)
  ne : g7 ≠ gb
  no : ev.ownBlock ≠ some g7
  gw : w.heap.size ≤ g7
section
variable {w W W' : World} {gb g7 m : Nat} {ev v : Value} {E L : Ed}
theorem GI.lt (h : GI w W gb g7 m ev E v L) : g7 < W.heap.size := (Array.getElem?_eq_some_iff.1 h.bx).1
theorem GI.below (h : GI w W gb g7 m ev E v L) (b : Below W.heap.size W W') : GI w W' gb g7 m ev E v L := ⟨h.gd.below b, h.pe, (b.block g7 h.lt).trans h.bx, h.ne, h.no, h.gw⟩
theorem GI.l512 (h : GI w W gb g7 m ev E v L) : L.length ≤ 512 := by rw [← h.pe.len]; exact h.gd.gm.gv.l512
theorem GI.cell (h : GI w W gb g7 m ev E v L) : W.cell? ⟨g7, 0, none⟩ = some (.int .i64 (m : Int)) ∧ W.cell? ⟨g7, 1, none⟩ = some v := two_cell h.bx
/-- behind a call of both -/
structure GJ (w W : World) (gb g7 m : Nat) (ev : Value) (E : Ed) (v : Value) (L : Ed) : Prop where
  gd : GD kF w W gb m ev E v L
  pe : PE E L
  bx : ∃ y, (∀ z, y ≠ .int .i64 z) ∧ W.heap[g7]? = some (.cells #[.int .i64 (m : Int), y] 72)
  ne : g7 ≠ gb
  no : ev.ownBlock ≠ some g7
  gw : w.heap.size ≤ g7
theorem GJ.put (h : GJ w W gb g7 m ev E v L) : GI w (put2W W g7 (.int .i64 (m : Int)) v) gb g7 m ev E v L := by
  obtain ⟨y, hy, hb⟩ := h.bx
  have hk : ∀ k, k ≠ g7 → (put2W W g7 (.int .i64 (m : Int)) v).heap[k]? = W.heap[k]? := fun k hk => put2_else _ _ _ _ _ hk
  refine ⟨⟨⟨⟨(hk gb h.ne.symm).trans h.gd.gm.gv.bl, h.gd.gm.gv.rz.keep (fun k hkk => hk k (fun e => h.no (e ▸ hkk))), h.gd.gm.gv.ne, h.gd.gm.gv.ok⟩, below2 h.gd.gm.bl h.gw _ _, h.gd.gm.nb, h.gd.gm.ne⟩, h.gd.rs.keep (fun k _ hf hp => hk k (fun e => ?_)), h.gd.sep⟩, h.pe, put2V hb, h.ne, h.no, h.gw⟩
  obtain ⟨o, n, c, hv⟩ := hf
  subst e
  exact no_box h.gd.rs hb hy hp o n c hv
theorem GI.one (h : GI w W gb g7 m ev E v L) (x : O3) : Calls Try.prog 27 #[.pointer (some ⟨gb, 0, none⟩), .agg #[.int .i64 (m : Int), v], opG x] W (fun e W' => ∃ ev' v', e = .returned (.tuple #[.agg #[.int .i64 (m : Int), v'], .bool true]) ∧ GJ w W' gb g7 m ev' (oneGE m E x) v' (oneGL (m : Int) L x) ∧ W'.heap[g7]? = some (.cells #[.int .i64 (m : Int), v] 72)) := by
  have h1 := one27_any h.gd (by have := h.l512; omega) (m : Int) x
  refine h1.mono ?_
  rintro e W' ⟨ev', v', rfl, D, F⟩
  obtain ⟨hp, hb⟩ := h.pe.one (room := m) x
  rw [hb]
  have hx := (F.fr g7 h.lt h.ne h.no).trans h.bx
  refine ⟨ev', v', rfl, ⟨D, hp, ⟨v, fun z e => ?_, hx⟩, h.ne, ?_, h.gw⟩, hx⟩
  · obtain ⟨a, c, f⟩ := h.gd.rs.form
    rw [f] at e; cases e
  · rcases F.ow with r | ⟨k, k1, k2⟩
    · rw [r]; exact h.no
    · rw [k2]; intro e; injection e with e
      have := h.lt
      omega
end
theorem GI.first {w w2 : World} {gb m : Nat} (h : GM w w2 gb m (.slice none 0 0) []) : GI w (w2.alloc (.cells #[.int .i64 (m : Int), .slice none 0 0] 72)) gb w2.heap.size m (.slice none 0 0) [] (.slice none 0 0) [] :=
  ⟨⟨h.below (bl1 _ _), RS.nil _ _, fun h => absurd h (by simp)⟩, ⟨List.Perm.refl _, List.Pairwise.nil, fun e he => by simp at he⟩, heap_alloc_new _ _, by have := h.gv.lt; omega, by simp [Value.ownBlock], h.bl.size⟩
theorem falls_le {E : Ed} {age : Int} {F : List Int} (hu : Up E) (hl : E.length ≤ 512) (h : FallsOf E age F) : F.length ≤ 1000 := by
  have := falls_len hu h
  omega
end Go.Proofs.Ytongeppdaeekeaa
