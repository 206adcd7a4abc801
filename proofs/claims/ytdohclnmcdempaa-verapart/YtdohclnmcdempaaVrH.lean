/- What an age reads. -/
import Derived.Test.YtdohclnmcdempaaVrG
import Derived.StillTailTactics
namespace Go.Proofs.Ytdohclnmcdempaa
open Go.RowKit Go.Maps
set_option linter.unusedVariables false

theorem size62 : (Try.prog.info? 62).map (·.size) = some 2 := by kernel_rfl
theorem ret_V2 {fn : Func} {q u : Nat} (h : fn.results = #[.cell q 62, .tmp u]) (tmps : Array Value) (g : Nat) (hb : tmps.getD q undef = .pointer (some ⟨g, 0, none⟩)) (W : World) (a b : Value) (hg : W.heap[g]? = some (.cells #[a, b] 62)) :
    (results fn tmps).run Try.prog W = .ok (.tuple #[.agg #[a, b], tmps.getD u undef]) W := by
  rw [results_cell_tmp h, hb]
  simp [asAddr, run_loadVar_row W g 62 62 #[a, b] _ _ hg Try.underlying62 rfl size62]
theorem put2V {W : World} {g : Nat} {x y a b : Value} (h : W.heap[g]? = some (.cells #[x, y] 62)) : ((W.setCell ⟨g, 0, none⟩ a).setCell ⟨g, 1, none⟩ b).heap[g]? = some (.cells #[a, b] 62) := by
  have e1 := heap_setCell_same W g 0 _ 62 a h
  rw [heap_setCell_same _ g 1 _ 62 b e1]
  rfl
def OldQ (k : Ch2) (a : Int) (w : World) (e : Ending) (w' : World) : Prop := e = .returned (.tuple #[.agg #[.int .i64 ((oldK k a).getD (0, 0)).1, .int .i64 ((oldK k a).getD (0, 0)).2], .bool (oldK k a).isSome]) ∧ Below w.heap.size w w'
section
variable {w w' : World} {lab : Nat → Nat} {sb ab ub hb wb mb : Nat} {ob : Option Nat} {R W n : Nat} {L : List Nat} {H : Ch2} {C : List (List Nat)} {cv : List Value} {D : M1}
set_option maxRecDepth 100000 in
set_option maxHeartbeats 4000000 in
theorem older_any (h : SV w lab sb ab ub hb wb mb ob R W n L H C cv D) (z a : Int) : Calls Try.prog 29 #[.pointer (some ⟨sb, 0, none⟩), .int .i64 z, .int .i64 a] w (OldQ (kf H C (wi W z)) a w) := by
  have hB0 : Below w.heap.size w (w.alloc (.cells #[.int .i64 0, .int .i64 0] 62)) := bl1 w _
  have h' := h.alloc (.cells #[.int .i64 0, .int .i64 0] 62)
  have hG0 : Hid ((w.alloc (.cells #[.int .i64 0, .int .i64 0] 62)).heap[w.heap.size]? = some (.cells #[.int .i64 0, .int .i64 0] 62)) := heap_alloc_new _ _
  have HSZ : Hid ((w.alloc (.cells #[.int .i64 0, .int .i64 0] 62)).heap.size = w.heap.size + 1) := by show _ = _; simp
  have HC := chain_any h' z
  have hv := h'.chv z
  have hg := hv.gsl
  have HFi := find_any h' (wi W z) _ hg a
  have hlen := h.len (wi W z)
  have H1 : Hid (SV (w.alloc (.cells #[.int .i64 0, .int .i64 0] 62)) lab sb ab ub hb wb mb ob R W n L H C cv D) := h'
  have hk : (kf H C (wi W z)).length = (cc C (wi W z)).length := kc_len _ _
  have HK : Hid (∀ i (hi : i < (cc C (wi W z)).length), (kf H C (wi W z))[i]? = some (H.getD (cc C (wi W z))[i] (0, 0))) := fun i hi => by
    have hi2 : i < (kc H (cc C (wi W z))).length := by rw [kc_len]; exact hi
    show (kc H (cc C (wi W z)))[i]? = _
    rw [List.getElem?_eq_getElem hi2, kc_at _ _ _ hi2 hi]
  have HLT : Hid (∀ s ∈ cc C (wi W z), s < R) := fun s hs => h.ok.lt _ s hs
  have HBU : Hid (Below w.heap.size w (w.alloc (.cells #[.int .i64 0, .int .i64 0] 62))) := hB0
  obtain ⟨va, vc, hvv⟩ := hv.sl
  rw [hvv] at HC HFi hg
  clear hv hvv h h' hB0
  generalize wi W z = i at *
  obtain ⟨k, hkk⟩ : ∃ k, kf H C i = k := ⟨_, rfl⟩
  rw [hkk] at HFi hk HK ⊢
  clear hkk
  obtain ⟨c, hcc⟩ : ∃ c, cc C i = c := ⟨_, rfl⟩
  rw [hcc] at HC HFi hg hlen hk HK HLT
  clear hcc
  rw [cs_len] at HC HFi hg
  obtain ⟨p, hp⟩ : ∃ p, pl k a = p := ⟨_, rfl⟩
  have HP : Hid (pl k a = p) := hp
  have hpk := pl_le k a
  have HQ : Hid (∀ (x : Int × Int) b W', (oldK k a).getD (0, 0) = x → (oldK k a).isSome = b → Below w.heap.size w W' → OldQ k a w (.returned (.tuple #[.agg #[.int .i64 x.1, .int .i64 x.2], .bool b])) W') := fun x b W' h1 h2 h3 => ⟨by rw [h1, h2], h3⟩
  generalize OldQ k a w = Q at *
  unfold FindQ at HFi
  generalize hasK k a = hh at *
  obtain ⟨U, hU⟩ : ∃ U, w.alloc (.cells #[.int .i64 0, .int .i64 0] 62) = U := ⟨_, rfl⟩
  have HU : Hid (w.alloc (.cells #[.int .i64 0, .int .i64 0] 62) = U) := hU
  rw [hU] at HC HFi hg hG0 H1 HBU HSZ
  obtain ⟨g0, hg0⟩ : ∃ g, w.heap.size = g := ⟨_, rfl⟩
  have HG0 : Hid (w.heap.size = g0) := hg0
  rw [hg0] at hG0 HSZ
  have hgU : g0 < U.heap.size := by have := HSZ.out; omega
  rcases Nat.eq_zero_or_pos p with hp0 | hp0
  · have ho : oldK k a = none := by unfold oldK; rw [if_pos (hp.trans hp0)]
    have HR : Hid (∀ W', Below w.heap.size w W' → Q (.returned (.tuple #[.agg #[.int .i64 0, .int .i64 0], .bool false])) W') := fun W' hb => HQ.out (0, 0) false W' (by rw [ho]; rfl) (by rw [ho]; rfl) hb
    rw [hp, hp0] at HFi
    clear hp hg HK HQ hpk hk HLT ho hp0 HP
    go_enter Try.func29, Try.ntmps29
    go_upto_region 1 with fail
    clear hU hg0
    go_wp2_with fail
    refine HC.mono ?_
    rintro e w2 ⟨rfl, hw2⟩
    rw [hw2]
    clear hw2
    go_wp2_with fail
    refine HFi.mono ?_
    rintro e w2 ⟨rfl, A, rfl⟩
    have X1 : Hid ((U.alloc A).heap[g0]? = some (.cells #[.int .i64 0, .int .i64 0] 62)) := (heap_alloc_old _ _ hgU).trans hG0.out
    have d0 : (U.alloc A).cell? ⟨g0, 0, none⟩ = some (.int .i64 0) := by rw [cell_of_row _ g0 0 _ _ _ X1.out]; rfl
    have d1 : (U.alloc A).cell? ⟨g0, 1, none⟩ = some (.int .i64 0) := by rw [cell_of_row _ g0 1 _ _ _ X1.out]; rfl
    have f0 : (U.alloc A).frozen? ⟨g0, 0, none⟩ = false := frozen_of_row _ g0 0 _ _ X1.out
    have f1 : (U.alloc A).frozen? ⟨g0, 1, none⟩ = false := frozen_of_row _ g0 1 _ _ X1.out
    have HB : Hid (Below w.heap.size w (((U.alloc A).setCell ⟨g0, 0, none⟩ (.int .i64 0)).setCell ⟨g0, 1, none⟩ (.int .i64 0))) := ((HBU.out.alloc HBU.out.size A).setCell (p := ⟨g0, 0, none⟩) (Nat.le_of_eq HG0.out) _).setCell (p := ⟨g0, 1, none⟩) (Nat.le_of_eq HG0.out) _
    generalize U.alloc A = V at *
    go_wp2_with fail
    refine bodyPost_ret (ret_V2 Try.results29 _ g0 rfl _ _ _ (put2V X1.out)) rfl ?_
    exact HR.out _ HB.out
  · obtain ⟨q, rfl⟩ : ∃ q, p = q + 1 := ⟨p - 1, by omega⟩
    have hqc : q < c.length := by rw [← hk]; omega
    obtain ⟨s, hs⟩ : ∃ s, c[q] = s := ⟨_, rfl⟩
    have hsR := HLT.out s (hs ▸ List.getElem_mem _)
    have ho : oldK k a = some (H.getD s (0, 0)) := by unfold oldK; rw [if_neg (by rw [hp]; omega), hp, Nat.add_sub_cancel, HK.out q hqc, hs]
    have HR : Hid (∀ W', Below w.heap.size w W' → Q (.returned (.tuple #[.agg #[.int .i64 (H.getD s (0, 0)).1, .int .i64 (H.getD s (0, 0)).2], .bool true])) W') := fun W' hb => HQ.out (H.getD s (0, 0)) true W' (by rw [ho]; rfl) (by rw [ho]; rfl) hb
    obtain ⟨va', vc', vb, vo, e0, g2, _, g4, g5⟩ := hg
    injection e0 with e1 e2 e3
    have hva := g4 (by rw [cs_len]; omega)
    rw [← e1] at hva
    subst hva
    have cs0 := g5 q (by rw [cs_len]; exact hqc)
    rw [cs_at _ _ _ hqc, hs] at cs0
    have cs1 : ∀ A, (U.alloc A).cell? ⟨vb, vo + q, none⟩ = some (.int .i64 (s : Int)) := fun A => ((bl1 U A).cell (p := ⟨vb, vo + q, none⟩) (World.block_lt_of_cell? U _ cs0)).trans cs0
    have c1 : ∀ A, (U.alloc A).cell? ⟨sb, 1, none⟩ = some (.slice (some ⟨hb, 0, none⟩) R R) := fun A => (H1.out.alloc A).c1
    have cv0 : ∀ A, (U.alloc A).cell? ⟨hb, s * 2, none⟩ = some (.int .i64 (H.getD s (0, 0)).1) := fun A => ((H1.out.alloc A).cH s hsR).1
    have cv1 : ∀ A, (U.alloc A).cell? ⟨hb, s * 2 + 1, none⟩ = some (.int .i64 (H.getD s (0, 0)).2) := fun A => ((H1.out.alloc A).cH s hsR).2
    generalize (H.getD s (0, 0)).1 = x1 at *
    generalize (H.getD s (0, 0)).2 = x2 at *
    rw [HP.out] at HFi
    obtain ⟨m, hm⟩ : ∃ m, c.length = m := ⟨_, rfl⟩
    rw [hm] at HC HFi hqc hlen
    have hw : IntKind.i64.wrap (q : Int) = (q : Int) := i64_wrap _ ⟨by omega, by omega⟩
    clear g5 g4 e1 e2 e3 cs0 HQ HK hk hs hpk HLT hm ho hp
    go_enter Try.func29, Try.ntmps29
    go_upto_region 1 with fail
    clear hU hg0
    go_wp2_with fail
    refine HC.mono ?_
    rintro e w2 ⟨rfl, hw2⟩
    rw [hw2]
    clear hw2
    go_wp2_with fail
    refine HFi.mono ?_
    rintro e w2 ⟨rfl, A, rfl⟩
    have X1 : Hid ((U.alloc A).heap[g0]? = some (.cells #[.int .i64 0, .int .i64 0] 62)) := (heap_alloc_old _ _ hgU).trans hG0.out
    have d0 : (U.alloc A).cell? ⟨g0, 0, none⟩ = some (.int .i64 0) := by rw [cell_of_row _ g0 0 _ _ _ X1.out]; rfl
    have d1 : (U.alloc A).cell? ⟨g0, 1, none⟩ = some (.int .i64 0) := by rw [cell_of_row _ g0 1 _ _ _ X1.out]; rfl
    have f0 : (U.alloc A).frozen? ⟨g0, 0, none⟩ = false := frozen_of_row _ g0 0 _ _ X1.out
    have f1 : (U.alloc A).frozen? ⟨g0, 1, none⟩ = false := frozen_of_row _ g0 1 _ _ X1.out
    have HB : Hid (Below w.heap.size w ((((U.alloc A).setCell ⟨g0, 0, none⟩ (.int .i64 x1)).setCell ⟨g0, 1, none⟩ (.int .i64 x2)).drew)) := Below.drew (((HBU.out.alloc HBU.out.size A).setCell (p := ⟨g0, 0, none⟩) (Nat.le_of_eq HG0.out) _).setCell (p := ⟨g0, 1, none⟩) (Nat.le_of_eq HG0.out) _)
    have cs1 := cs1 A
    have c1 := c1 A
    have cv0 := cv0 A
    have cv1 := cv1 A
    go_upto_region 5 with fail
    generalize U.alloc A = V at *
    refine wp_region_still_tail 11 (by kernel_rfl) (by kernel_rfl) ?_
    simp only [List.take_succ_cons, List.take_zero, List.drop_succ_cons, List.drop_zero]
    repeat still_step
    refine wpStill_nil ?_
    go_wp2_with fail
    refine bodyPost_ret (ret_V2 Try.results29 _ g0 rfl _ _ _ (put2V X1.out)) rfl ?_
    exact HR.out _ HB.out
end
end Go.Proofs.Ytdohclnmcdempaa
