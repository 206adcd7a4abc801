/- VmSteps: both machines side by side. -/
import Derived.Test.YtkcncngcmhldpaaAgnW
import Derived.Test.YtkcncngcmhldpaaRWnt
import Derived.Test.YtkcncngcmhldpaaSta
namespace Go.Proofs.Ytkcncngcmhldpaa
open Go.RowKit Go.Maps
set_option linter.unusedVariables false

/-- the program's machine (state s1) and the document's (state s), in memory -/
structure SI (w wr : World) (vb g cap mb : Nat) (m : Fx) (C : List In) (v : Value) (words fuel : Int) (s1 s : St) (ms : List Value) : Prop where
  be : Below w.heap.size w wr
  wv : w.heap.size ≤ vb ∧ w.heap.size ≤ mb
  mc : MC wr vb g cap m C s1
  fx : m.words = words ∧ m.fuel = fuel
  ok1 : Ok C fuel s1
  ok : Ok C fuel s
  len : s.regs.length = 16
  cv : ISl w v C
  good : Good C
  rk : ∀ x ∈ C, R64 x.k
  blk : wr.heap[mb]? = some (.cells ms.toArray 29)
  ms : ∃ rv, RRg wr rv s ∧ ms = (mC v rv words fuel s).toList
section
variable {w wr : World} {vb g cap mb : Nat} {m : Fx} {C : List In} {v : Value} {words fuel : Int} {s1 s : St} {ms : List Value}
theorem SI.below {V : World} (h : SI w wr vb g cap mb m C v words fuel s1 s ms) (hb : Below wr.heap.size wr V) : SI w V vb g cap mb m C v words fuel s1 s ms := by
  obtain ⟨rv, hr, e⟩ := h.ms
  exact ⟨h.be.trans (hb.mono h.be.size), h.wv, h.mc.below hb, h.fx, h.ok1, h.ok, h.len, h.cv, h.good, h.rk, (hb.block _ (Array.getElem?_eq_some_iff.1 h.blk).1).trans h.blk, ⟨rv, hr.below hb, e⟩⟩
theorem SI.drew (h : SI w wr vb g cap mb m C v words fuel s1 s ms) : SI w wr.drew vb g cap mb m C v words fuel s1 s ms := h.below (Below.refl _ _).drew
theorem SI.drewN (h : SI w wr vb g cap mb m C v words fuel s1 s ms) (n : Nat) : SI w (wr.drewN n) vb g cap mb m C v words fuel s1 s ms := h.below (below_drewN (Below.refl _ _) n)
theorem SI.ne (h : SI w wr vb g cap mb m C v words fuel s1 s ms) : mb ≠ vb := by
  intro e
  have h1 := h.blk
  rw [e, h.mc.vm.blk] at h1
  cases h1
theorem SI.c6 (h : SI w wr vb g cap mb m C v words fuel s1 s ms) : wr.cell? ⟨mb, 6, none⟩ = some (.int .i64 s.over) := by
  obtain ⟨rv, hr, e⟩ := h.ms
  rw [cell_of_row wr _ 6 _ _ _ h.blk, e]; rfl
theorem SI.c7 (h : SI w wr vb g cap mb m C v words fuel s1 s ms) : wr.cell? ⟨mb, 7, none⟩ = some (.int .i64 s.value) := by
  obtain ⟨rv, hr, e⟩ := h.ms
  rw [cell_of_row wr _ 7 _ _ _ h.blk, e]; rfl
theorem SI.l8 (h : SI w wr vb g cap mb m C v words fuel s1 s ms) : ms.length = 8 := by
  obtain ⟨rv, hr, e⟩ := h.ms
  rw [e]; rfl
theorem SI.one (h : SI w wr vb g cap mb m C v words fuel s1 s ms) : ∀ u ∈ ms, u.oneCell' = true := by
  obtain ⟨rv, ⟨rb, rc, rfl, _⟩, e⟩ := h.ms
  obtain ⟨ad, cp, vb0, vo0, rfl, _⟩ := h.cv
  rw [e]; unfold mC; intro u hu; simp at hu; rcases hu with rfl | rfl | rfl | rfl | rfl | rfl | rfl | rfl <;> rfl
theorem SI.rng (h : SI w wr vb g cap mb m C v words fuel s1 s ms) : wr.rangeAt mb 0 ms := fun j u hu => by rw [Nat.zero_add, cell_of_row wr _ j _ _ _ h.blk]; simpa using hu
theorem SI.rok (h : SI w wr vb g cap mb m C v words fuel s1 s ms) : ROk C fuel s := ⟨h.ok, h.len, by have := h.good.len; omega, h.good.ok, h.rk⟩
theorem SI.rcd (h : SI w wr vb g cap mb m C v words fuel s1 s ms) : ∃ cb co cp, RCd wr v C cb co cp := by
  obtain ⟨ad, cp, vb0, vo0, e, h2, h3, h4, h5⟩ := h.cv.below h.be
  have := h4 h.good.len.1
  subst this
  exact ⟨vb0, vo0, cp, e, h2, h3, fun i hi => h5 i hi⟩
theorem SI.agg (h : SI w wr vb g cap mb m C v words fuel s1 s ms) : ∃ rv, RRg wr rv s ∧ Value.agg ms.toArray = mV v rv words fuel s := by
  obtain ⟨rv, hr, e⟩ := h.ms
  exact ⟨rv, hr, by rw [e]; rfl⟩
theorem SI.want10 (h : SI w wr vb g cap mb m C v words fuel s1 s ms) : Calls Try.prog 10 #[.agg ms.toArray] wr (WantP (wantS C words fuel s) wr) := by
  obtain ⟨rv, hr, e⟩ := h.agg
  obtain ⟨cb, co, cp, hc⟩ := h.rcd
  rw [e]
  exact rwant_any C v cb co cp words fuel rv s h.rok wr hc hr
theorem SI.want11 (h : SI w wr vb g cap mb m C v words fuel s1 s ms) : Calls Try.prog 11 #[.pointer (some ⟨vb, 0, none⟩)] wr (WantP (wantS C words fuel s1) wr) := by
  have := want_any vb g cap m C s1 h.good.ok (by rw [h.fx.2]; exact h.ok1) wr h.mc
  rw [h.fx.1, h.fx.2] at this
  exact this
theorem SI.step12 (got : Int) (hg : R64 got) (h : SI w wr vb g cap mb m C v words fuel s1 s ms) : Calls Try.prog 12 #[.pointer (some ⟨vb, 0, none⟩), .int .i64 got] wr fun e V => e = .returned (.bool (s1.over == 0)) ∧ SI w V vb g cap mb m C v words fuel (stepS C words fuel s1 got) s ms ∧ Ch vb wr V := by
  refine (step_any vb g cap m C s1 got h.good.ok (by rw [h.fx.2]; exact h.ok1) wr h.mc).mono ?_
  rintro e V ⟨rfl, hv, hc⟩
  rw [h.fx.1, h.fx.2] at hv
  refine ⟨rfl, ⟨?_, h.wv, h.mc.ch hc hv, h.fx, step_ok h.good h.rk h.mc.vm.len h.ok1 hg, h.ok, h.len, h.cv, h.good, h.rk, blk_ch h.blk h.ne hc, ?_⟩, hc⟩
  · exact ⟨hc.os.trans h.be.os, hc.tape.trans h.be.tape, hc.output.trans h.be.output, Nat.le_trans h.be.size hc.size, fun k hk => (hc.block k (Nat.lt_of_lt_of_le hk h.be.size) (by have := h.wv.1; omega)).trans (h.be.block k hk)⟩
  · obtain ⟨rv, ⟨rb, rc, e1, h16, hm, hcl⟩, e⟩ := h.ms
    have hne : rb ≠ vb := by
      intro e2
      have h3 := hcl 0 (by omega)
      rw [e2, h.mc.vm.c0, h.mc.cv] at h3
      cases h3
    exact ⟨rv, ⟨rb, rc, e1, h16, hm, fun r hr => (hc.cell (World.block_lt_of_cell? wr ⟨rb, r, none⟩ (hcl r hr)) hne).trans (hcl r hr)⟩, e⟩
theorem SI.step13 (got : Int) (hg : R64 got) (h : SI w wr vb g cap mb m C v words fuel s1 s ms) : Calls Try.prog 13 #[.agg ms.toArray, .int .i64 got] wr fun e V => ∃ ms' : List Value, e = .returned (.agg ms'.toArray) ∧ ms'.length = 8 ∧ (∀ u ∈ ms', u.oneCell' = true) ∧ V.heap[mb]? = some (.cells ms.toArray 29) ∧ SI w (V.setRow mb ms'.toArray) vb g cap mb m C v words fuel s1 (stepS C words fuel s got) ms' := by
  obtain ⟨rv, hr, e⟩ := h.agg
  obtain ⟨cb, co, cp, hc⟩ := h.rcd
  rw [e]
  refine (rstep_any C v cb co cp got words fuel rv s h.rok wr hc hr).mono ?_
  rintro e V ⟨rv2, rfl, hr2, hb⟩
  have hS := h.below hb
  have hv : Value.slice (some ⟨cb, co, none⟩) C.length cp = v := hc.v.symm
  rw [hv]
  have hl : (stepS C words fuel s got).regs.length = 16 := (step_len _ _ _ _ _).trans h.len
  have hrow := setRow_heap V mb _ (mC v rv2 words fuel (stepS C words fuel s got)) _ _ hS.blk
  have hB : Below w.heap.size w (V.setRow mb (mC v rv2 words fuel (stepS C words fuel s got))) := below_setRow hS.be h.wv.2 _
  have hne : ∀ k, k ≠ mb → (V.setRow mb (mC v rv2 words fuel (stepS C words fuel s got))).heap[k]? = V.heap[k]? := fun k hk => setRow_other _ _ _ _ hk
  have hgm : g ≠ mb := by
    intro e2
    have h00 : 0 < C.length := h.good.len.1
    have h1 := (hS.mc.row 0 h00).c0
    generalize C[0].kind = kk at h1
    rw [e2, Nat.zero_mul, cell_of_row V _ 0 _ _ _ hS.blk] at h1
    obtain ⟨rv', _, e3⟩ := hS.ms
    rw [e3, ← hv] at h1
    cases h1
  obtain ⟨g2, c2, rfl, k1, k2, k3⟩ := hr2
  have hg2 : g2 ≠ mb := by
    intro e2
    have h1 := k3 0 (by omega)
    rw [e2, cell_of_row V _ 0 _ _ _ hS.blk] at h1
    obtain ⟨rv', _, e3⟩ := hS.ms
    rw [e3, ← hv] at h1
    cases h1
  refine ⟨(mC v (.slice (some ⟨g2, 0, none⟩) 16 c2) words fuel (stepS C words fuel s got)).toList, rfl, rfl, ?_, hS.blk, ⟨hB, h.wv, ⟨hS.mc.vm.keep (hne _ (Ne.symm h.ne)), hS.mc.cv, hS.mc.cap, hS.mc.len, fun i hi => (hS.mc.row i hi).block (hne _ hgm), hS.mc.ne⟩, h.fx, h.ok1, step_ok h.good h.rk h.len h.ok hg, hl, h.cv, h.good, h.rk, hrow, ⟨_, ⟨g2, c2, rfl, k1, k2, fun r hr => (World.cell?_of_block (a := ⟨g2, r, none⟩) (hne _ hg2)).trans (k3 r hr)⟩, rfl⟩⟩⟩
  rw [← hv]; unfold mC; intro u hu; simp at hu; rcases hu with rfl | rfl | rfl | rfl | rfl | rfl | rfl | rfl <;> rfl
theorem SI.state15 (h : SI w wr vb g cap mb m C v words fuel s1 s ms) : Calls Try.prog 15 #[stV s, .agg ms.toArray] wr fun e V => e = .returned (.bool true) ∧ Below wr.heap.size wr V := by
  obtain ⟨rv, hr, e⟩ := h.agg
  obtain ⟨cb, co, cp, hc⟩ := h.rcd
  rw [e, hc.v]
  exact state_any _ _ _ rv words fuel s h.len wr hr
end
end Go.Proofs.Ytkcncngcmhldpaa
