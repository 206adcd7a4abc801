/- A slot goes into a chain. -/
import Derived.Test.YtdohclnmcdempaaVrI
import Derived.Deep.CutRange
namespace Go.Proofs.Ytdohclnmcdempaa
open Go.RowKit Go.Maps
set_option linter.unusedVariables false

theorem copy_facts (W : World) (g : Nat) (Y Z : List Value) (u : Value) (p m : Nat) (hY : Y.length = m) (hp : p ≤ m) (hg : W.heap[g]? = some (.cells ((Y ++ [u]) ++ Z).toArray 3)) :
    (((Y ++ [u]).drop p).take (m - p)).length = m - p ∧ ∀ j v, (((Y ++ [u]).drop p).take (m - p))[j]? = some v → W.cell? ((⟨g, p, none⟩ : Addr).add j) = some v := by
  refine ⟨by simp; omega, fun j v hj => ?_⟩
  have hjl : j < m - p := by
    have := (List.getElem?_eq_some_iff.1 hj).1
    simp at this
    omega
  rw [List.getElem?_take_of_lt hjl, List.getElem?_drop] at hj
  rw [addn, cell_of_row W g _ _ _ _ hg]
  simp only [List.getElem?_toArray]
  rw [List.getElem?_append_left (by simp; omega)]
  exact hj
set_option maxRecDepth 100000 in
set_option maxHeartbeats 4000000 in
theorem putin_any (w : World) (v : Value) (c : List Nat) (hc : c.length ≤ 1000) (p : Nat) (hp : p ≤ c.length) (s : Nat) (h : IZ w 0 v (cs c)) : Calls Try.prog 46 #[v, .int .i64 (p : Int), .int .i64 (s : Int)] w (RowQ w v (cs (c.take p ++ s :: c.drop p))) := by
  obtain ⟨Q, hQ⟩ : ∃ Q, RowQ w v (cs (c.take p ++ s :: c.drop p)) = Q := ⟨_, rfl⟩
  have HQ : Hid (RowQ w v (cs (c.take p ++ s :: c.drop p)) = Q) := hQ
  rw [hQ]
  clear hQ
  have H : Hid (IZ w 0 v (cs c)) := h
  have HV0 : Hid (∃ a k, v = .slice a (cs c).length k) := h.sl
  have HA : Hid (∀ A, IZ (w.alloc A) 0 v (cs c)) := fun A => h.below (bl1 _ _)
  have hlen : (cs c).length ≤ 100000 := by rw [cs_len]; omega
  have hpm : p ≤ c.length := hp
  clear h
  go_enter Try.func46, Try.ntmps46
  go_wp2_with (at_builtin; refine push_int_at _ rfl _ _ rfl 0 v (cs c) (s : Int) rfl ?p1 _ rfl ?p2 ?p3 ?p4 ?_)
  case p1 => exact HA.out _
  case p2 => simp
  case p3 => exact hlen
  case p4 => exact Nat.zero_le _
  intro v5 w5 hi5 hg5 ho5
  obtain ⟨m, hm⟩ : ∃ m, c.length = m := ⟨_, rfl⟩
  have HM : Hid (c.length = m) := hm
  have hsA : (w.alloc (.cells #[.int .i64 (s : Int)] 3)).heap.size = w.heap.size + 1 := by simp
  rcases hi5.2 with ⟨_, h0⟩ | ⟨g, cap, cur, rfl, h2, h3, h4, h5, h6, h7⟩
  · simp at h0
  · rw [List.length_append, cs_len, hm] at h4 h7 ⊢
    simp only [List.length_cons, List.length_nil, Nat.zero_add, Nat.mul_one] at h4 h7 ⊢
    rw [Nat.mul_one] at h6
    have HG5 : Hid ((w.alloc (.cells #[.int .i64 (s : Int)] 3)).grownBy w5 v.ownBlock) := hg5
    have HO5 : Hid (v.ownBlock = some g ∨ g = w.heap.size + 1) := by
      rcases ho5 with e | e
      · exact .inl e.symm
      · injection e with e; exact .inr e
    obtain ⟨Z, hZ⟩ : ∃ Z, cur.toList.drop (m + 1) = Z := ⟨_, rfl⟩
    have hcur : cur.toList = (cs c ++ [(s : Int)]).map (Value.int .i64) ++ Z := by rw [← h7, ← hZ, List.take_append_drop]
    have hZl : m + 1 + Z.length = cap := by
      have := congrArg List.length hcur
      rw [List.length_append, List.length_map, List.length_append, cs_len, hm] at this
      simp at this
      omega
    have H3 : Hid (w5.heap[g]? = some (.cells (((cs c).map (Value.int .i64) ++ [Value.int .i64 (s : Int)]) ++ Z).toArray 3 (0, 0))) := by
      show _ = _
      rw [h3]
      congr 2
      apply Array.toList_inj.1
      rw [hcur]; simp
    have h5' : Hid (cap ≤ maxLen ∧ m + 1 ≤ cap ∧ m + 1 + Z.length = cap) := ⟨h5, h4, hZl⟩
    have HE : Hid (((cs c).map (Value.int .i64)).length = m) := by show _ = _; rw [List.length_map, cs_len, hm]
    have HON : Hid (∀ x ∈ (cs c).map (Value.int .i64) ++ [Value.int .i64 (s : Int)], x.oneCell' = true) := fun x hx => by
      rcases List.mem_append.1 hx with q | q
      · obtain ⟨z, _, rfl⟩ := List.mem_map.1 q; rfl
      · rw [List.mem_singleton.1 q]; rfl
    have HFIN : Hid (∀ W', W'.heap[g]? = some (.cells (((((cs c).map (Value.int .i64)).take p ++ Value.int .i64 (s : Int) :: ((cs c).map (Value.int .i64)).drop p)) ++ Z).toArray 3) → IZ W' 0 (.slice (some ⟨g, 0, none⟩) (m + 1) cap) (cs (c.take p ++ s :: c.drop p))) := fun W' hW => by
      have hcl : (cs (c.take p ++ s :: c.drop p)).length = m + 1 := by rw [cs_len]; simp; omega
      have hce : ((cs c).map (Value.int .i64)).take p ++ Value.int .i64 (s : Int) :: ((cs c).map (Value.int .i64)).drop p = (cs (c.take p ++ s :: c.drop p)).map (Value.int .i64) := by
        unfold cs
        rw [List.map_append, List.map_cons, List.map_take, List.map_drop, List.map_append, List.map_cons, List.map_take, List.map_drop]
        rfl
      rw [hce] at hW
      refine ⟨by simp, .inr ⟨g, cap, _, by rw [hcl], Nat.zero_le _, hW, by rw [hcl]; exact h4, h5, ?_, ?_⟩⟩
      · simp [hcl]; omega
      · rw [Nat.mul_one]
        simp only []
        exact List.take_left' (by rw [List.length_map])
    generalize (cs c).map (Value.int .i64) = Y at *
    have hcap : m + 1 ≤ cap := h4
    have hm2 : m ≤ 1000 := by omega
    have hpm2 : p ≤ m := by omega
    obtain ⟨p1, hp1⟩ : ∃ p1, p + 1 = p1 := ⟨_, rfl⟩
    have HP1 : Hid (p + 1 = p1) := hp1
    have hw : IntKind.i64.wrap ((p : Int) + 1) = (p1 : Int) := by rw [i64_wrap _ ⟨by omega, by omega⟩]; omega
    have hw2 : wrap64 ((p : Int) + 1) = (p1 : Int) := by rw [w64in _ ⟨by omega, by omega⟩]; omega
    have HE2 : Hid (((cs c).take p ++ (s : Int) :: (cs c).drop p) = cs (c.take p ++ s :: c.drop p)) := by
      show _ = _
      unfold cs
      rw [List.map_append, List.map_cons, List.map_take, List.map_drop]
      rfl
    clear hi5 hg5 ho5 h2 h3 h4 h5 h6 h7 hcur hZ hZl hlen hsA hm hc hp hpm
    have n1 : ¬ cap = p := by omega
    have n2 : p1 ≤ m + 1 := by omega
    have n3 : p ≤ m + 1 := by omega
    have n2i : (p1 : Int) ≤ (m : Int) + 1 := by omega
    have n3i : (p : Int) ≤ (m : Int) + 1 := by omega
    clear hp1
    go_upto_region 2 with fail
    have hcf := copy_facts w5.drew g Y Z (.int .i64 (s : Int)) p m HE.out hpm2 H3.out
    have HSP : Hid (((((Y ++ [Value.int .i64 (s : Int)]) ++ Z).take p1 ++ ((((Y ++ [Value.int .i64 (s : Int)]).drop p).take (m - p)) ++ ((Y ++ [Value.int .i64 (s : Int)]) ++ Z).drop (p1 + (((Y ++ [Value.int .i64 (s : Int)]).drop p).take (m - p)).length))).set p (Value.int .i64 (s : Int))) = (Y.take p ++ Value.int .i64 (s : Int) :: Y.drop p) ++ Z) := by
      show _ = _
      have := splice_eq Y Z (.int .i64 (s : Int)) (.int .i64 (s : Int)) p (by rw [HE.out]; exact hpm2)
      rw [HE.out, HP1.out] at this
      rw [hcf.1]
      exact this
    have HO1 : Hid (∀ v ∈ (((Y ++ [Value.int .i64 (s : Int)]).drop p).take (m - p)), v.oneCell' = true) := fun v hv => HON.out v (List.mem_of_mem_drop (List.mem_of_mem_take hv))
    obtain ⟨XS, hXS⟩ : ∃ XS, ((Y ++ [Value.int .i64 (s : Int)]).drop p).take (m - p) = XS := ⟨_, rfl⟩
    rw [hXS] at hcf HO1 HSP
    obtain ⟨F, hF⟩ : ∃ F, (Y ++ [Value.int .i64 (s : Int)]) ++ Z = F := ⟨_, rfl⟩
    rw [hF] at HSP H3
    have HCF : Hid (∀ j v, XS[j]? = some v → w5.drew.cell? ((⟨g, p, none⟩ : Addr).add j) = some v) := hcf.2
    have HNM : Hid (XS.length = Nat.min (m + 1 - p) (m + 1 - p1)) := by have h2 := HP1.out; show _ = min _ _; omega
    have HFT : Hid (p1 + XS.length ≤ F.length) := by show _ ≤ _; have h2 := HP1.out; have h3 := HE.out; rw [← hF]; simp only [List.length_append, List.length_cons, List.length_nil]; omega
    have HXL : Hid (XS.length = m - p) := hcf.1
    have HXB : Hid (p < F.length ∧ p < p1) := by have h2 := HP1.out; have h3 := HE.out; refine ⟨?_, by omega⟩; rw [← hF]; simp only [List.length_append, List.length_cons, List.length_nil]; omega
    clear hcf hXS hF
    by_cases hcp : cap = p1
    · have HN0 : Hid (¬ 0 < XS.length) := by show ¬ _; have h2 := HP1.out; have h3 := HXL.out; omega
      have HN1 : Hid (XS.length = Nat.min (m + 1 - p) 0) := by show _ = min _ _; have h3 := HN0.out; omega
      subst hcp
      refine wp_region_still_tail 7 (by kernel_rfl) (by kernel_rfl) ?_
      simp only [List.take_succ_cons, List.take_zero, List.drop_succ_cons, List.drop_zero]
      repeat still_step
      refine wpStill_nil ?_
      go_wp2_with (refine copy_in _ rfl _ _ rfl _ _ _ _ _ _ rfl rfl g cap F H3.out XS HN1.out (fun h0 => absurd h0 HN0.out) HFT.out HO1.out ?c1)
      case c1 =>
        intro w6 h6 hg6 hs6
        have H6 : Hid (w6.heap[g]? = some (.cells ((F.take cap ++ (XS ++ F.drop (cap + XS.length)))).toArray 3)) := h6
        have hpl : p < (F.take cap ++ (XS ++ F.drop (cap + XS.length))).length := by
          have := HXB.out
          rw [List.length_append, List.length_take]
          omega
        obtain ⟨x0, hx0⟩ : ∃ x, (F.take cap ++ (XS ++ F.drop (cap + XS.length)))[p]? = some x := ⟨_, List.getElem?_eq_getElem hpl⟩
        have cp : w6.cell? ⟨g, p, none⟩ = some x0 := by rw [cell_of_row w6 g p _ _ _ H6.out, List.getElem?_toArray]; exact hx0
        have fp : w6.frozen? ⟨g, p, none⟩ = false := frozen_of_row w6 g p _ _ H6.out
        have HEND : Hid (Q (.returned (.slice (some ⟨g, 0, none⟩) (m + 1) cap)) (w6.setCell ⟨g, p, none⟩ (.int .i64 (s : Int)))) := by
          show Q _ _
          rw [← HQ.out]
          have hgs := HG5.out
          have ho := HO5.out
          have hsz : (w.alloc (.cells #[.int .i64 (s : Int)] 3)).heap.size = w.heap.size + 1 := by simp
          have hall : ∀ k, k < w.heap.size → some k ≠ v.ownBlock → k ≠ g := by
            intro k hk hne e
            rcases ho with q | q
            · exact hne (by rw [q, e])
            · omega
          refine ⟨_, rfl, HFIN.out _ ?_, ⟨?_, ?_, ?_, ?_, fun k hk hne => ?_⟩, ?_⟩
          · rw [heap_setCell_same w6 g p _ 3 _ H6.out]
            congr 2
            apply Array.toList_inj.1
            rw [Array.toList_setIfInBounds]
            exact HSP.out
          · exact hg6.os.trans hgs.os
          · exact hg6.tape.trans hgs.tape
          · exact hg6.output.trans hgs.output
          · have h1 := hgs.size
            have h2 := hg6.size
            simp only [World.setCell] at *
            simp only [Array.size_modify] at *
            have h3 : w5.drew.heap.size = w5.heap.size := rfl
            omega
          · have hkg := hall k hk hne
            rw [Below.heap_setCell _ _ _ _ hkg]
            have h1 := hgs.size
            rw [hg6.block k (by show k < w5.heap.size; omega) (fun e => hkg (by injection e))]
            show w5.heap[k]? = _
            rw [hgs.block k (by omega) hne]
            exact heap_alloc_old _ _ hk
          · rcases ho with q | q
            · exact .inl q.symm
            · exact .inr ⟨g, rfl, by omega⟩
        clear h6 hg6 hs6 hx0 hpl
        go_wp2
        first | exact HEND.out | (go_ret; exact HEND.out)
    · refine wp_region_still_tail 7 (by kernel_rfl) (by kernel_rfl) ?_
      simp only [List.take_succ_cons, List.take_zero, List.drop_succ_cons, List.drop_zero]
      repeat still_step
      refine wpStill_nil ?_
      go_wp2_with (refine copy_in _ rfl _ _ rfl _ _ _ _ _ _ rfl rfl g p1 F H3.out XS HNM.out (fun _ => ⟨rfl, _, rfl, HCF.out⟩) HFT.out HO1.out ?c2)
      case c2 =>
        intro w6 h6 hg6 hs6
        have H6 : Hid (w6.heap[g]? = some (.cells ((F.take p1 ++ (XS ++ F.drop (p1 + XS.length)))).toArray 3)) := h6
        have hpl : p < (F.take p1 ++ (XS ++ F.drop (p1 + XS.length))).length := by
          have := HXB.out
          rw [List.length_append, List.length_take]
          omega
        obtain ⟨x0, hx0⟩ : ∃ x, (F.take p1 ++ (XS ++ F.drop (p1 + XS.length)))[p]? = some x := ⟨_, List.getElem?_eq_getElem hpl⟩
        have cp : w6.cell? ⟨g, p, none⟩ = some x0 := by rw [cell_of_row w6 g p _ _ _ H6.out, List.getElem?_toArray]; exact hx0
        have fp : w6.frozen? ⟨g, p, none⟩ = false := frozen_of_row w6 g p _ _ H6.out
        have HEND : Hid (Q (.returned (.slice (some ⟨g, 0, none⟩) (m + 1) cap)) (w6.setCell ⟨g, p, none⟩ (.int .i64 (s : Int)))) := by
          show Q _ _
          rw [← HQ.out]
          have hgs := HG5.out
          have ho := HO5.out
          have hsz : (w.alloc (.cells #[.int .i64 (s : Int)] 3)).heap.size = w.heap.size + 1 := by simp
          have hall : ∀ k, k < w.heap.size → some k ≠ v.ownBlock → k ≠ g := by
            intro k hk hne e
            rcases ho with q | q
            · exact hne (by rw [q, e])
            · omega
          refine ⟨_, rfl, HFIN.out _ ?_, ⟨?_, ?_, ?_, ?_, fun k hk hne => ?_⟩, ?_⟩
          · rw [heap_setCell_same w6 g p _ 3 _ H6.out]
            congr 2
            apply Array.toList_inj.1
            rw [Array.toList_setIfInBounds]
            exact HSP.out
          · exact hg6.os.trans hgs.os
          · exact hg6.tape.trans hgs.tape
          · exact hg6.output.trans hgs.output
          · have h1 := hgs.size
            have h2 := hg6.size
            simp only [World.setCell] at *
            simp only [Array.size_modify] at *
            have h3 : w5.drew.heap.size = w5.heap.size := rfl
            omega
          · have hkg := hall k hk hne
            rw [Below.heap_setCell _ _ _ _ hkg]
            have h1 := hgs.size
            rw [hg6.block k (by show k < w5.heap.size; omega) (fun e => hkg (by injection e))]
            show w5.heap[k]? = _
            rw [hgs.block k (by omega) hne]
            exact heap_alloc_old _ _ hk
          · rcases ho with q | q
            · exact .inl q.symm
            · exact .inr ⟨g, rfl, by omega⟩
        clear h6 hg6 hs6 hx0 hpl
        go_wp2
        first | exact HEND.out | (go_ret; exact HEND.out)
end Go.Proofs.Ytdohclnmcdempaa
