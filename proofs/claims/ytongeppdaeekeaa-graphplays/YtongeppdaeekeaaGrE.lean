/- slices.Insert of one edge. -/
import Derived.Test.YtongeppdaeekeaaGrD
namespace Go.Proofs.Ytongeppdaeekeaa
open Go.RowKit Go.Maps
set_option linter.unusedVariables false

def InsQ (w : World) (sv : Value) (l : Ed) (e : Ending) (w' : World) : Prop :=
  ∃ v', e = .returned v' ∧ RZ kE w' v' l ∧ w.grownBy w' sv.ownBlock ∧ (v'.ownBlock = sv.ownBlock ∨ ∃ n, w.heap.size ≤ n ∧ v'.ownBlock = some n)
theorem edge_rs {w : World} {gx : Nat} {z : Int × Int} (hx : w.heap[gx]? = some (.cells #[.int .i64 z.1, .int .i64 z.2] 90)) : RS kE w (.slice (some ⟨gx, 0, none⟩) 1 1) [z] :=
  ⟨some ⟨gx, 0, none⟩, 1, gx, 0, rfl, Nat.le_refl _, by unfold maxLen; omega, fun _ => rfl, fun i hi j hj => by
    match i, hi with
    | 0, _ =>
      have hj' : j < 2 := hj
      have e : 0 + (0 * kE.k + j) = j := by omega
      rw [e, cell_of_row w gx _ _ _ _ hx]
      match j, hj' with
      | 0, _ => rfl
      | 1, _ => rfl⟩
set_option maxRecDepth 100000 in
set_option maxHeartbeats 8000000 in
theorem ins_end (w : World) (sv : Value) (l : Ed) (z : Int × Int) (gx : Nat) (h : RZ kE w sv l) (hx : w.heap[gx]? = some (.cells #[.int .i64 z.1, .int .i64 z.2] 90)) (hl : l.length ≤ 600) :
    Calls Try.prog 83 #[sv, .int .i64 (l.length : Int), .slice (some ⟨gx, 0, none⟩) 1 1] w (InsQ w sv (l ++ [z])) := by
  obtain ⟨a, c, e⟩ := h.sl
  obtain ⟨n, hn⟩ : ∃ n, l.length = n := ⟨_, rfl⟩
  rw [hn] at e ⊢
  subst e
  have hnc : n ≤ c := by
    rcases h.2 with ⟨h1, h0⟩ | ⟨g, cap, cur, h1, _, _, h4, _⟩
    · injection h1 with _ e2 e3; omega
    · injection h1 with _ e2 e3; omega
  have HR : Hid (RZ kE w (.slice a n c) l) := h
  have HX : Hid (RS kE w (.slice (some ⟨gx, 0, none⟩) 1 1) [z]) := edge_rs hx
  have HL : Hid (l.length + [z].length ≤ 100000) := by show _ ≤ _; simp only [List.length_cons, List.length_nil]; omega
  have HF : Hid (∀ v' w', RZ kE w' v' (l ++ [z]) → w.grownBy w' (Value.slice a n c).ownBlock → (v'.ownBlock = (Value.slice a n c).ownBlock ∨ v'.ownBlock = some w.heap.size) → InsQ w (.slice a n c) (l ++ [z]) (.returned v') w') := fun v' w' h1 h2 h3 => ⟨v', rfl, h1, h2, h3.imp id fun e => ⟨_, Nat.le_refl _, e⟩⟩
  have i0 : (0 : Int) ≤ (n : Int) := by omega
  have i1 : (n : Int) ≤ (n : Int) := by omega
  have i2 : (n : Int) ≤ (c : Int) := by omega
  clear h hx hl hn
  by_cases hcn : c = n
  · subst hcn
    generalize InsQ w (.slice a c c) (l ++ [z]) = P at *
    go_enter Try.func83, Try.ntmps83
    go_wp2_with (at_builtin; refine push_row kE _ rfl _ _ rfl _ _ l [z] rfl rfl HR.out HX.out HL.out ?_)
    intro v' w' hz g5 ho
    have HR2 : Hid (P (.returned v') w') := HF.out v' w' hz g5 ho
    clear hz g5 ho
    go_wp2
    first | exact HR2.out | (go_ret; exact HR2.out)
  · generalize InsQ w (.slice a n c) (l ++ [z]) = P at *
    go_enter Try.func83, Try.ntmps83
    go_wp2_with (at_builtin; refine push_row kE _ rfl _ _ rfl _ _ l [z] rfl rfl HR.out HX.out HL.out ?_)
    intro v' w' hz g5 ho
    have HR2 : Hid (P (.returned v') w') := HF.out v' w' hz g5 ho
    clear hz g5 ho
    go_wp2
    first | exact HR2.out | (go_ret; exact HR2.out)
set_option maxRecDepth 100000 in
set_option maxHeartbeats 8000000 in
theorem ins_new (w : World) (g cap : Nat) (cur : Array Value) (l : Ed) (i : Nat) (z : Int × Int) (gx : Nat) (h : RZ kE w (.slice (some ⟨g, 0, none⟩) l.length cap) l) (hi : i < l.length) (hx : w.heap[gx]? = some (.cells #[.int .i64 z.1, .int .i64 z.2] 90)) (hl : l.length ≤ 600) (hc : cap < l.length + 1) :
    Calls Try.prog 83 #[.slice (some ⟨g, 0, none⟩) l.length cap, .int .i64 (i : Int), .slice (some ⟨gx, 0, none⟩) 1 1] w (InsQ w (.slice (some ⟨g, 0, none⟩) l.length cap) (l.take i ++ z :: l.drop i)) := by
  obtain ⟨n, hn⟩ : ∃ n, l.length = n := ⟨_, rfl⟩
  rw [hn] at hi hl hc h ⊢
  have hnc : n ≤ cap := by
    rcases h.2 with ⟨h1, h0⟩ | ⟨g', cap', cur', h1, _, _, h4, _⟩
    · cases h1
    · injection h1 with _ e2 e3; omega
  have hcn : cap = n := by omega
  subst hcn
  have t1 : decide ((cap : Int) < (cap : Int) + 1) = true := by simp; omega
  have t2 : ((i : Int) == (cap : Int)) = false := by simp; omega
  have t3 : ¬ (cap = i) := by omega
  have i0 : (0 : Int) ≤ (i : Int) := by omega
  have i1 : (i : Int) ≤ (cap : Int) := by omega
  have i2 : (i : Int) ≤ (cap : Int) + 1 := by omega
  have hAl : (kE.flat (l.take i)).length = i * 2 := by rw [kE.flat_len, List.length_take, hn, Nat.min_eq_left (by omega)]; rfl
  have hBl : (kE.flat (l.drop i)).length = (cap - i) * 2 := by rw [kE.flat_len, List.length_drop, hn]; rfl
  have hsplit : kE.flat l = kE.flat (l.take i) ++ kE.flat (l.drop i) := by rw [← kE.flat_app, List.take_append_drop]
  have hcells := fun j u hj => World.ownsRow.cells h (g := g) rfl j u hj
  obtain ⟨c2, T, w2, hrun, hN, hTl, hc1, hc2, hB2, hs2⟩ : ∃ (c2 : Nat) (T : List Value) (w2 : World), (∀ ty, (Builtin.append_ #[86, 3] ty #[.slice (some ⟨g, 0, none⟩) i cap, .int .i64 ((cap : Int) + 1 - (i : Int))]).run Try.prog w = .ok (.slice (some ⟨w.heap.size, 0, none⟩) (cap + 1) c2) w2) ∧ w2.heap[w.heap.size]? = some (.cells (kE.flat (l.take i) ++ T).toArray 90 (0, 0)) ∧ T.length = (c2 - i) * 2 ∧ cap + 1 ≤ c2 ∧ c2 ≤ maxLen ∧ Below w.heap.size w w2 ∧ w2.heap.size = w.heap.size + 1 := by
    obtain ⟨i0', hi', hz0, hz1, hz2⟩ := kE.info
    have hold : (Builtin.firstCells i0'.size i (.slice (some ⟨g, 0, none⟩) i cap)).run Try.prog w.drew = .ok (kE.flat (l.take i)).toArray w.drew := by
      rw [hz1]
      refine run_firstCells_some w.drew 2 i ⟨g, 0, none⟩ i cap _ hAl (fun j u hj => ?_)
      refine (hcells j u ?_)
      rw [hsplit, List.getElem?_append_left (List.getElem?_eq_some_iff.1 hj).1]
      exact hj
    have e1 : (cap : Int) + 1 - (i : Int) = ((cap + 1 - i : Nat) : Int) := by omega
    have e2 : i + (cap + 1 - i) = cap + 1 := by omega
    have hr := fun ty => Lib.run_append_grow_zeros (P := Try.prog) w 86 3 ty 90 i0' _ .i64 .i64 Try.underlying86 Try.underlying3 hi' hz0 (some ⟨g, 0, none⟩) i cap _ hold (cap + 1 - i) (by omega) (by rw [hz1]; decide) (by omega) (by omega) (by rw [hz2]; show _ * 16 ≤ _; omega) (growslice_fits (by omega) (by rw [hz2]; show _ * 16 ≤ _; omega))
    rw [← e1, e2] at hr
    refine ⟨_, (Builtin.zeroCells kE.zero.cells (cap + 1 - i)).toList ++ (Builtin.zeroCells kE.zero.cells (grownCap w (cap + 1) cap 90 - (cap + 1))).toList, _, hr, ?_, ?_, grownCap_ge _ _ _ _, grownCap_le_maxLen _ _ _ _ (by unfold maxLen; omega), (Below.refl _ w).drew.alloc (Nat.le_refl _) _, by simp⟩
    · refine (heap_alloc_new w.drew _).trans ?_
      congr 2
      apply Array.toList_inj.1
      simp only [Array.toList_append, List.append_assoc]
    · have hge := grownCap_ge w (cap + 1) cap 90
      simp only [List.length_append, Array.length_toList, size_zeroCells]
      have hzz : kE.zero.cells.size = 2 := rfl
      rw [hzz]
      omega
  have HRUN : Hid (∀ ty, (Builtin.append_ #[86, 3] ty #[.slice (some ⟨g, 0, none⟩) i cap, .int .i64 ((cap : Int) + 1 - (i : Int))]).run Try.prog w = .ok (.slice (some ⟨w.heap.size, 0, none⟩) (cap + 1) c2) w2) := hrun
  have t4 : ¬ (c2 = i) := by omega
  obtain ⟨p1, hp1⟩ : ∃ p : Nat, p = i + 1 := ⟨_, rfl⟩
  have HP1 : Hid (p1 = i + 1) := hp1
  have t5 : ¬ (c2 = p1) := by omega
  have t6 : (i : Int) + 1 = (p1 : Int) := by omega
  have t7 : (p1 : Int) ≤ (cap : Int) + 1 := by omega
  have t8 : p1 ≤ cap + 1 := by omega
  have t9 : (0 : Int) ≤ (p1 : Int) := by omega
  have t10 : IntKind.i64.wrap (p1 : Int) = (p1 : Int) := by rw [IntKind.wrap_i64]; omega
  obtain ⟨N, hNN⟩ : ∃ N, w.heap.size = N := ⟨_, rfl⟩
  have hgN : g < N := by rw [← hNN]; exact h.own rfl
  have hxN : gx < N := by rw [← hNN]; exact (Array.getElem?_eq_some_iff.1 hx).1
  rw [hNN] at HRUN hN hs2
  have HNW : Hid (w.heap.size = N) := hNN
  have HB2 : Hid (Below w.heap.size w w2 ∧ w2.heap.size = N + 1) := ⟨hB2, hs2⟩
  obtain ⟨A, hA⟩ : ∃ A, kE.flat (l.take i) = A := ⟨_, rfl⟩
  obtain ⟨B, hB⟩ : ∃ B, kE.flat (l.drop i) = B := ⟨_, rfl⟩
  have hB1 : ∀ u ∈ B, u.oneCell' = true := by rw [← hB]; exact kE.flat_one _
  have HFL : Hid (kE.flat (l.take i ++ z :: l.drop i) = A ++ (duo z ++ B)) := by
    show _ = _
    rw [kE.flat_app, hA]
    have e : kE.flat (z :: l.drop i) = duo z ++ kE.flat (l.drop i) := by simp [RK.flat, kE]
    rw [e, hB]
  have HLEN : Hid ((l.take i ++ z :: l.drop i).length = cap + 1) := by
    show _ = _
    simp only [List.length_append, List.length_take, List.length_cons, List.length_drop, hn]; omega
  rw [hA] at hAl hN hsplit
  rw [hB] at hBl hsplit
  have hTl2 : 2 + B.length ≤ T.length := by rw [hTl, hBl]; omega
  have HN : Hid (w2.heap[N]? = some (.cells (A ++ T).toArray 90 (0, 0))) := hN
  have HZn : Hid (∀ d, 1 ≤ d → (duo z).length = Nat.min 1 d * kE.k) := fun d hd => by
    show 2 = min 1 d * 2
    rw [Nat.min_eq_left hd]
  have HZs : Hid (∀ j v, (duo z)[j]? = some v → w2.cell? ((⟨gx, 0, none⟩ : Addr).add j) = some v) := fun j v hj => by
    rw [addn, Nat.zero_add, cell_of_row w2 gx _ _ _ _ ((hB2.block gx (by rw [hNN]; exact hxN)).trans hx)]
    have hj2 := (List.getElem?_eq_some_iff.1 hj).1
    have hj3 : j < 2 := hj2
    match j, hj3 with
    | 0, _ => exact hj
    | 1, _ => exact hj
  have HZf : Hid (i * 2 + (duo z).length ≤ (A ++ T).length) := by
    show i * 2 + 2 ≤ _
    rw [List.length_append, hAl]; omega
  have HBn : Hid (∀ d s, d = cap - i → s = cap - i → B.length = Nat.min s d * kE.k) := fun d s h1 h2 => by
    subst h1 h2
    rw [hBl]
    show _ = min _ _ * 2
    rw [Nat.min_self]
  have HBs : Hid (∀ W, Below w.heap.size w W → ∀ j v, B[j]? = some v → W.cell? ((⟨g, i * 2, none⟩ : Addr).add j) = some v) := fun W hW j v hj => by
    have h1 := hcells (i * 2 + j) v (by rw [hsplit, List.getElem?_append_right (by omega), hAl, Nat.add_sub_cancel_left]; exact hj)
    rw [addn] at h1 ⊢
    rw [Nat.zero_add] at h1
    exact (hW.cell (p := ⟨g, i * 2 + j, none⟩) (World.block_lt_of_cell? w _ h1)).trans h1
  have HTL : Hid (2 + B.length ≤ T.length ∧ A.length = i * 2 ∧ B.length = (cap - i) * 2 ∧ T.length = (c2 - i) * 2 ∧ cap + 1 ≤ c2 ∧ c2 ≤ maxLen ∧ i < cap) := ⟨hTl2, hAl, hBl, hTl, hc1, hc2, hi⟩
  have HQ : Hid (∀ v' w', RZ kE w' v' (l.take i ++ z :: l.drop i) → w.grownBy w' (Value.slice (some ⟨g, 0, none⟩) cap cap).ownBlock → v'.ownBlock = some N → InsQ w (.slice (some ⟨g, 0, none⟩) cap cap) (l.take i ++ z :: l.drop i) (.returned v') w') := fun v' w' h1 h2 h3 => ⟨v', rfl, h1, h2, .inr ⟨N, by rw [hNN]; exact Nat.le_refl _, h3⟩⟩
  have hgN' : Hid (g < N ∧ gx < N) := ⟨hgN, hxN⟩
  have HB1 : Hid (∀ u ∈ B, u.oneCell' = true) := hB1
  clear hrun hN hTl hB2 hs2 hNN hcells hsplit hA hB hAl hBl hTl2 h hx hgN hxN hn hB1 hp1
  generalize InsQ w (.slice (some ⟨g, 0, none⟩) cap cap) (l.take i ++ z :: l.drop i) = P at *
  generalize l.take i ++ z :: l.drop i = l2 at *
  go_enter Try.func83, Try.ntmps83
  go_upto_region 10 with (at_builtin; refine app_run _ rfl _ _ 86 3 rfl _ _ _ _ rfl rfl HRUN.out ?_)
  go_wp2_with (refine copy_k kE _ rfl _ _ rfl N (i * 2) _ _ ⟨gx, 0, none⟩ _ _ rfl rfl (A ++ T) 90 HN.out (duo z) (HZn.out _ (by omega)) HZs.out HZf.out (duo_one z) ?c1)
  case c1 =>
    intro w3 h3 g3 s3
    obtain ⟨Y1, hY1⟩ : ∃ Y, (A ++ T).take (i * 2) ++ (duo z ++ (A ++ T).drop (i * 2 + (duo z).length)) = Y := ⟨_, rfl⟩
    rw [hY1] at h3
    have HY1 : Hid ((A ++ T).take (i * 2) ++ (duo z ++ (A ++ T).drop (i * 2 + (duo z).length)) = Y1) := hY1
    have H3 : Hid (w3.heap[N]? = some (.cells Y1.toArray 90 (0, 0))) := h3
    have HB3 : Hid (Below w.heap.size w w3 ∧ w3.heap.size = N + 1) := by
      have b2 := HB2.out
      refine ⟨⟨g3.os.trans b2.1.os, g3.tape.trans b2.1.tape, g3.output.trans b2.1.output, by rw [s3, b2.2, HNW.out]; omega, fun k hk => (g3.block k (by rw [b2.2]; rw [HNW.out] at hk; omega) (fun e => by injection e with e; rw [HNW.out] at hk; omega)).trans (b2.1.block k hk)⟩, by rw [s3, b2.2]⟩
    have HBf : Hid (p1 * 2 + B.length ≤ Y1.length) := by
      show _ ≤ _
      obtain ⟨q1, q2, q3, q4, q5, q6, q7⟩ := HTL.out
      rw [← hY1]
      have e2 : (duo z).length = 2 := rfl
      have e3 := HP1.out
      simp only [List.length_append, List.length_take, List.length_drop, e2]
      omega
    clear h3 g3 s3 hY1
    go_upto_region 11 with fail
    have HB3d : Hid (Below w.heap.size w w3.drew) := HB3.out.1.drew
    have H3d : Hid (w3.drew.heap[N]? = some (.cells Y1.toArray 90 (0, 0))) := H3.out
    refine wp_region_still_tail 8 (by kernel_rfl) (by kernel_rfl) ?_
    simp only [List.take_succ_cons, List.take_zero, List.drop_succ_cons, List.drop_zero]
    repeat still_step
    refine wpStill_nil ?_
    go_wp2_with (refine copy_k kE _ rfl _ _ rfl N (p1 * 2) _ _ ⟨g, i * 2, none⟩ _ _ rfl rfl Y1 90 H3d.out B (HBn.out _ _ (by have := HP1.out; omega) (by omega)) (HBs.out _ HB3d.out) HBf.out HB1.out ?c2)
    case c2 =>
      intro w4 h4 g4 s4
      have HEND : Hid (P (.returned (.slice (some ⟨N, 0, none⟩) (cap + 1) c2)) w4) := by
        obtain ⟨q1, q2, q3, q4, q5, q6, q7⟩ := HTL.out
        have hlay := lay_new A B T (duo z) q1
        have e2 : (duo z).length = 2 := rfl
        have hy := HY1.out
        rw [e2, q2] at hlay
        rw [e2] at hy
        rw [hy, show i * 2 + 2 = p1 * 2 by have := HP1.out; omega] at hlay
        rw [hlay] at h4
        refine HQ.out _ _ ⟨by rw [kE.flat_len], .inr ⟨N, c2, _, by rw [HLEN.out], Nat.zero_le _, h4, by rw [HLEN.out]; exact q5, q6, ?_, ?_⟩⟩ ⟨?_, ?_, ?_, ?_, fun k hk hne => ?_⟩ rfl
        · show (A ++ (duo z ++ (B ++ List.drop (2 + B.length) T))).length = c2 * 2
          simp only [List.length_append, List.length_drop, e2]; omega
        · rw [HFL.out, HLEN.out]
          show List.take ((cap + 1) * 2) (A ++ (duo z ++ (B ++ List.drop (2 + B.length) T))) = _
          have e3 : (cap + 1) * 2 = (A ++ (duo z ++ B)).length := by simp only [List.length_append, e2]; omega
          rw [e3, show A ++ (duo z ++ (B ++ List.drop (2 + B.length) T)) = (A ++ (duo z ++ B)) ++ List.drop (2 + B.length) T by simp only [List.append_assoc], List.take_left]
        · exact g4.os.trans HB3d.out.os
        · exact g4.tape.trans HB3d.out.tape
        · exact g4.output.trans HB3d.out.output
        · rw [s4]; exact HB3d.out.size
        · rw [g4.block k (Nat.lt_of_lt_of_le hk HB3d.out.size) (fun e => by injection e with e; rw [HNW.out] at hk; omega)]
          exact HB3d.out.block k hk
      clear h4 g4 s4
      go_wp2
      first | exact HEND.out | (go_ret; exact HEND.out)
end Go.Proofs.Ytongeppdaeekeaa
