/- An instruction and its line are put behind all others: the two appends. -/
import Derived.Test.YthcidcfaodjbjacDoorRdr
namespace Go.Proofs.YthcidcfaodjbjacDoor
open Go.RowKit Go.Maps Go.WideMaps
set_option linter.unusedVariables false

/-- between the two appends -/
structure Mid (w : World) (rb mb base : Nat) (vc vf v : Value) (st : Rs) (x : In) : Prop where
  c0 : w.cell? ⟨rb, 0, none⟩ = some vc
  c1 : w.cell? ⟨rb, 1, none⟩ = some vf
  c2 : w.cell? ⟨rb, 2, none⟩ = some (.map (some mb))
  f0 : w.frozen? ⟨rb, 0, none⟩ = false
  f1 : w.frozen? ⟨rb, 1, none⟩ = false
  code : IOwn w base v (st.code ++ [x])
  frm : OOwn w base vf st.frm
  map : ∃ D, w.ownsMap Tryd.prog 9 (plainElem Tryd.prog 3) mb st.tab.length D ∧ Rep st.tab D
  apart : ∀ k, v.ownBlock = some k → vf.ownBlock ≠ some k
  rlt : rb < base
  mlt : mb < base
  ne : mb ≠ rb
  bs : base ≤ w.heap.size
theorem info25 : (Tryd.prog.info? 50).map (fun i => (i.zero, i.size, i.bytes)) = some (some (.agg #[.int .i64 0, .int .i64 0, .int .i64 0, .int .i64 0, .int .i64 0, .int .i64 0]), 6, 48) := by kernel_rfl
theorem info63 : (Tryd.prog.info? 46).map (fun i => (i.zero, i.size, i.bytes)) = some (some (.agg #[.int .i64 0, .string ⟨#[]⟩]), 2, 24) := by kernel_rfl
theorem row_at {w : World} {g t : Nat} {l : List Value} (hg : w.heap[g]? = some (.cells l.toArray t (0, 0))) : ∀ j u, l[j]? = some u → w.cell? ((⟨g, 0, none⟩ : Addr).add j) = some u := by
  intro j u hj
  rw [addn, Nat.zero_add, cell_of_row w g j _ _ _ hg]
  simpa using hj
theorem own_form {w : World} {base e size n : Nat} {v : Value} {xs : List Value} (h : w.ownsRow base e size v (n + 1) xs) : ∃ g cap, v = .slice (some ⟨g, 0, none⟩) (n + 1) cap := by
  rcases h.2 with ⟨_, h⟩ | ⟨g, cap, _, h, _⟩
  · omega
  · exact ⟨g, cap, h⟩

theorem mid_of {D Wa : World} {rb mb base g : Nat} {vc vf : Value} {st : Rs} {x : In} (h : RSt D rb mb base vc vf st) (hb : Below D.heap.size D Wa) (hg : Wa.heap[g]? = some (.cells (ic x).toArray 50 (0, 0))) (hl : st.code.length ≤ 100000) :
    ∃ v U, (Builtin.append_ #[22, 22] 22 #[vc, .slice (some ⟨g, 0, none⟩) 1 1]).run Tryd.prog Wa = .ok v U ∧ Mid U rb mb base vc vf v st x ∧ FR rb mb base D U ∧ (∀ k, k < Wa.heap.size → some k ≠ vc.ownBlock → U.heap[k]? = Wa.heap[k]?) ∧ Wa.heap.size ≤ U.heap.size ∧ (∃ g' cap, v = .slice (some ⟨g', 0, none⟩) (st.code.length + 1) cap) := by
  obtain ⟨i0, hi, hz0, hz1, hz2⟩ := info_parts info25
  have ha := h.below hb
  have hrl := h.rlt
  have hml := h.mlt
  have hbs := h.bs
  have oc := own_lt ha.code
  have of := own_lt ha.frm
  obtain ⟨v, U, hr, h2, h3, h4, h5⟩ := run_append_own_at (P := Tryd.prog) Wa base 22 22 50 i0 _ 6 48 Tryd.underlying22 hi hz0 hz1 hz2 rfl (by decide) vc st.code.length (ics st.code) ha.code ⟨g, 0, none⟩ 1 1 (ics [x]) rfl (row_at (l := ics [x]) (by simpa [ics] using hg)) (ic_one x) (by unfold maxLen; omega) (by omega) ha.bs
  have hrb : U.heap[rb]? = Wa.heap[rb]? := h3.block rb (by have := ha.bs; omega) (fun e => by have := (oc rb e.symm).1; omega)
  have hmb : U.heap[mb]? = Wa.heap[mb]? := h3.block mb (by have := ha.bs; omega) (fun e => by have := (oc mb e.symm).1; omega)
  obtain ⟨DD, m1, m2⟩ := ha.map
  refine ⟨v, U, hr, ⟨(World.cell?_of_block (w := Wa) (a := ⟨rb, 0, none⟩) hrb).trans ha.c0, (World.cell?_of_block (w := Wa) (a := ⟨rb, 1, none⟩) hrb).trans ha.c1, (World.cell?_of_block (w := Wa) (a := ⟨rb, 2, none⟩) hrb).trans ha.c2, (World.frozen?_of_block (w := Wa) (a := ⟨rb, 0, none⟩) hrb).trans ha.f0, (World.frozen?_of_block (w := Wa) (a := ⟨rb, 1, none⟩) hrb).trans ha.f1, ?_, own_keep ha.frm (fun k hk => h3.block k (of k hk).2 (fun e => ha.apart k e.symm hk)), ⟨DD, ownsMap_keep m1 hmb, m2⟩, ?_, h.rlt, h.mlt, h.ne, Nat.le_trans ha.bs h3.size⟩, ⟨h3.os.trans hb.os, h3.tape.trans hb.tape, h3.output.trans hb.output, Nat.le_trans hb.size h3.size, fun k hk h6 h7 => ?_⟩, fun k hk hne => h3.block k hk hne, h3.size, own_form h2⟩
  · show U.ownsRow _ _ _ _ _ _
    rw [ics_app]; simpa using h2
  · intro k hk hf
    rcases h5 with e | e
    · rw [e] at hk; exact ha.apart k hk hf
    · rw [e] at hk; cases hk; have := (of _ hf).2; omega
  · exact (h3.block k (by have := ha.bs; omega) (fun e => by have := (oc k e.symm).1; omega)).trans (hb.block k (by omega))

theorem cell_set_ne' (w : World) (b i j : Nat) (v : Value) (h : i ≠ j) : (w.setCell ⟨b, i, none⟩ v).cell? ⟨b, j, none⟩ = w.cell? ⟨b, j, none⟩ := World.cell?_setCell_other w _ _ _ (by intro e; cases e; exact h rfl)
theorem fin_of {U Wb : World} {rb mb base g : Nat} {vc vf v : Value} {st : Rs} {x : In} {o : Int × List UInt8} (h : Mid U rb mb base vc vf v st x) (hb : Below U.heap.size U Wb) (hg : Wb.heap[g]? = some (.cells (oc o).toArray 46 (0, 0))) (hl : st.frm.length ≤ 100000) :
    ∃ f Z, (Builtin.append_ #[41, 41] 41 #[vf, .slice (some ⟨g, 0, none⟩) 1 1]).run Tryd.prog Wb = .ok f Z ∧ (Z.cell? ⟨rb, 0, none⟩ = some vc ∧ Z.cell? ⟨rb, 1, none⟩ = some vf ∧ Z.frozen? ⟨rb, 0, none⟩ = false ∧ Z.frozen? ⟨rb, 1, none⟩ = false) ∧ RSt ((Z.setCell ⟨rb, 0, none⟩ v).setCell ⟨rb, 1, none⟩ f) rb mb base v f ⟨st.code ++ [x], st.frm ++ [o], st.tab⟩ ∧ FR rb mb base U ((Z.setCell ⟨rb, 0, none⟩ v).setCell ⟨rb, 1, none⟩ f) ∧ (∀ k, k < Wb.heap.size → some k ≠ vf.ownBlock → Z.heap[k]? = Wb.heap[k]?) ∧ Wb.heap.size ≤ Z.heap.size ∧ (∃ g' cap, f = .slice (some ⟨g', 0, none⟩) (st.frm.length + 1) cap) := by
  obtain ⟨i0, hi, hz0, hz1, hz2⟩ := info_parts info63
  have hrl := h.rlt
  have hml := h.mlt
  have hbs := h.bs
  have hne := h.ne
  have hsz := hb.size
  have oc1 := own_lt h.code
  have of1 := own_lt h.frm
  have frm' : OOwn Wb base vf st.frm := own_keep h.frm (fun k hk => hb.block k (of1 k hk).2)
  have code' : IOwn Wb base v (st.code ++ [x]) := own_keep h.code (fun k hk => hb.block k (oc1 k hk).2)
  have of := own_lt frm'
  have oc := own_lt code'
  obtain ⟨f, Z, hr, h2, h3, h4, h5⟩ := run_append_own_at (P := Tryd.prog) Wb base 41 41 46 i0 _ 2 24 Tryd.underlying41 hi hz0 hz1 hz2 rfl (by decide) vf st.frm.length (ocs st.frm) frm' ⟨g, 0, none⟩ 1 1 (ocs [o]) rfl (row_at (l := ocs [o]) (by simpa [ocs] using hg)) (oc_one o) (by unfold maxLen; omega) (by omega) (by omega)
  have hrb : Z.heap[rb]? = U.heap[rb]? := (h3.block rb (by omega) (fun e => by have := (of rb e.symm).1; omega)).trans (hb.block rb (by omega))
  have hmb : Z.heap[mb]? = U.heap[mb]? := (h3.block mb (by omega) (fun e => by have := (of mb e.symm).1; omega)).trans (hb.block mb (by omega))
  have k0 : Z.cell? ⟨rb, 0, none⟩ = some vc := (World.cell?_of_block (w := U) (a := ⟨rb, 0, none⟩) hrb).trans h.c0
  have k1 : Z.cell? ⟨rb, 1, none⟩ = some vf := (World.cell?_of_block (w := U) (a := ⟨rb, 1, none⟩) hrb).trans h.c1
  have k2 : Z.cell? ⟨rb, 2, none⟩ = some (.map (some mb)) := (World.cell?_of_block (w := U) (a := ⟨rb, 2, none⟩) hrb).trans h.c2
  have q0 : Z.frozen? ⟨rb, 0, none⟩ = false := (World.frozen?_of_block (w := U) (a := ⟨rb, 0, none⟩) hrb).trans h.f0
  have q1 : Z.frozen? ⟨rb, 1, none⟩ = false := (World.frozen?_of_block (w := U) (a := ⟨rb, 1, none⟩) hrb).trans h.f1
  obtain ⟨DD, m1, m2⟩ := h.map
  have hset : ∀ k, k ≠ rb → ((Z.setCell ⟨rb, 0, none⟩ v).setCell ⟨rb, 1, none⟩ f).heap[k]? = Z.heap[k]? := fun k hk => (Below.heap_setCell _ _ _ _ hk).trans (Below.heap_setCell _ _ _ _ hk)
  have hss : ((Z.setCell ⟨rb, 0, none⟩ v).setCell ⟨rb, 1, none⟩ f).heap.size = Z.heap.size := by simp [World.setCell]
  refine ⟨f, Z, hr, ⟨k0, k1, q0, q1⟩, ⟨?_, ?_, ?_, by simpa using q0, by simpa using q1, ?_, ?_, ⟨DD, ?_, m2⟩, ?_, h.rlt, h.mlt, h.ne, ?_⟩, ⟨h3.os.trans hb.os, h3.tape.trans hb.tape, h3.output.trans hb.output, ?_, fun k hk h6 h7 => ?_⟩, fun k hk hne => h3.block k hk hne, h3.size, own_form h2⟩
  · rw [cell_set_ne' _ _ _ _ _ (by omega)]; exact World.cell?_setCell_same Z _ _ k0
  · exact World.cell?_setCell_same _ _ _ ((cell_set_ne' _ _ _ _ _ (by omega)).trans k1)
  · rw [cell_set_ne' _ _ _ _ _ (by omega), cell_set_ne' _ _ _ _ _ (by omega)]; exact k2
  · refine own_keep (own_keep code' (w' := Z) (fun k hk => h3.block k (oc k hk).2 (fun e => h.apart k hk e.symm))) (fun k hk => hset k ?_)
    have := (oc k hk).1; omega
  · show World.ownsRow _ _ _ _ _ _ _
    rw [ocs_app]
    have h6 : Z.ownsRow base 46 2 f (st.frm ++ [o]).length (ocs st.frm ++ ocs [o]) := by simpa using h2
    exact own_keep h6 (fun k hk => hset k (by have := (own_lt h6 k hk).1; omega))
  · exact ownsMap_keep m1 ((hset mb hne).trans hmb)
  · intro k hk hf
    rcases h5 with e | e
    · rw [e] at hf; exact h.apart k hk hf
    · rw [e] at hf; cases hf; have := (oc1 _ hk).2; omega
  · rw [hss]; have := h3.size; omega
  · rw [hss]; have := h3.size; omega
  · exact (hset k h6).trans ((h3.block k (by omega) (fun e => by have := (of k e.symm).1; omega)).trans (hb.block k (by omega)))

theorem step_app {P : Program} {ops : Array Oper} {o : Oper} {a : Act} {w w' : World} {K : Act → World → Prop} {Q : Exit → Act → World → Prop} {E : Prop} (hgd : o.guard = none) (s x : Operand) (t : TypeId)
    (ho : o.op = .call { callee := .builtin .append, args := #[s, x], argTypes := #[t, t] }) (v y v' : Value) (hs : a.eval s = v) (hx : a.eval x = y)
    (hr : (Builtin.append_ #[t, t] o.type #[v, y]).run P w = .ok v' w') (h : K (a.put o.dst v') w') :
    if Region.wanted o (yielded ops a.tmps) = true then Oper.wp P o a w K Q else E := by
  have hw : Region.wanted o (yielded ops a.tmps) = true := by simp [Region.wanted, hgd]
  rw [if_pos hw]
  unfold Oper.wp execOp
  simp only [ho, resolve, invoke, builtin, Sem.run_bind, Sem.run_pure, Result.andThen_ok, List.map_toArray, List.map_cons, List.map_nil, hs, hx, hr]
  exact h
end Go.Proofs.YthcidcfaodjbjacDoor
