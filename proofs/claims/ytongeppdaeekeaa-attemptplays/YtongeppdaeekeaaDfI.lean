/- What went into reductions, joined onto numbers, in the document's words. -/
import Derived.Test.YtongeppdaeekeaaDfH
namespace Go.Proofs.Ytongeppdaeekeaa
open Go.RowKit Go.Maps
set_option linter.unusedVariables false

def rontoX (Rd : List (Int × Int)) (A I : List Int) (i : Nat) : Int := joinI (Rd.getD i (0, 0)).1 (A.getD i 0) (I.getD i 0)
def rontoL (Rd : List (Int × Int)) (A I : List Int) : List Int := (List.range Rd.length).map (rontoX Rd A I)
theorem rontoL_next (Rd : List (Int × Int)) (A I : List Int) (q : Nat) : (List.range (q + 1)).map (rontoX Rd A I) = (List.range q).map (rontoX Rd A I) ++ [rontoX Rd A I q] := by rw [List.range_succ, List.map_append]; rfl
set_option maxRecDepth 100000 in
set_option maxHeartbeats 8000000 in
theorem ronto_any {w : World} {dv av iv : Value} {Rd : List (Int × Int)} {A I : List Int} (hd : RS kD w dv Rd) (ha : RS kN w av A) (hi : RS kN w iv I) (la : A.length = Rd.length) (li : I.length = Rd.length) (hA : ∀ y ∈ A, R64 y) (hI : ∀ y ∈ I, R64 y) (l1 : Rd.length ≤ 1000) :
    Calls Try.prog 88 #[dv, av, iv] w (fun e w' => ∃ v, e = .returned v ∧ RS kN w' v (rontoL Rd A I) ∧ Below w.heap.size w w') := by
  have HD : Hid (RS kD w dv Rd) := hd
  have HAA : Hid (RS kN w av A ∧ ∀ y ∈ A, R64 y) := ⟨ha, hA⟩
  have HII : Hid (RS kN w iv I ∧ ∀ y ∈ I, R64 y) := ⟨hi, hI⟩
  obtain ⟨a1, c1, e1⟩ := hd.form
  obtain ⟨a2, c2, e2⟩ := ha.form
  obtain ⟨a3, c3, e3⟩ := hi.form
  obtain ⟨n, hn⟩ : ∃ n, Rd.length = n := ⟨_, rfl⟩
  have HN : Hid (Rd.length = n) := hn
  rw [hn] at la li e1 l1
  have HLA : Hid (A.length = n) := la
  have HLI : Hid (I.length = n) := li
  rw [la] at e2
  rw [li] at e3
  subst e1 e2 e3
  clear hd ha hi hn hA hI la li
  have HF : Hid (∀ v W, RZ kN W v (rontoL Rd A I) → Below w.heap.size w W → (fun (e : Ending) w' => ∃ v, e = .returned v ∧ RS kN w' v (rontoL Rd A I) ∧ Below w.heap.size w w') (.returned v) W) := fun v W h b => ⟨v, rfl, h.rs, b⟩
  generalize (fun (e : Ending) w' => ∃ v, e = .returned v ∧ RS kN w' v (rontoL Rd A I) ∧ Below w.heap.size w w') = P at *
  go_enter Try.func88, Try.ntmps88
  go_wp2_with fail
  go_loopw [7, 8] (fun ov i wr => ∃ q : Nat, i = .int .i64 (q : Int) ∧ q ≤ n ∧ (∃ a c, ov = .slice a q c) ∧ Hid (Below w.heap.size w wr) ∧ Hid (RZ kN wr ov ((List.range q).map (rontoX Rd A I))) ∧ Hid (∀ g, ov.ownBlock = some g → w.heap.size ≤ g)) (fun ov i _ => n - (intOf i).toNat)
  case atStart => exact ⟨0, rfl, Nat.zero_le _, ⟨_, _, rfl⟩, Below.refl _ _, RZ.nil _ _, fun g hg => by simp [Value.ownBlock] at hg⟩
  case round =>
    obtain ⟨q, rfl, hq, ⟨ao, co, rfl⟩, HB, HO, HW⟩ := hrel
    by_cases hlt : q < n
    · have d1 : decide (q < n) = true := by simp; omega
      have hq' : q < Rd.length := by rw [HN.out]; exact hlt
      have hqA : q < A.length := by rw [HLA.out]; exact hlt
      have hqI : q < I.length := by rw [HLI.out]; exact hlt
      obtain ⟨b, bo, n', c', hg, hcl⟩ := HD.out.cell hq'
      simp only [Value.slice.injEq] at hg
      obtain ⟨rfl, rfl, rfl⟩ := hg
      obtain ⟨b2, bo2, n2, c2', hg, hcl2⟩ := HAA.out.1.cell hqA
      simp only [Value.slice.injEq] at hg
      obtain ⟨rfl, rfl, rfl⟩ := hg
      obtain ⟨b3, bo3, n3, c3', hg, hcl3⟩ := HII.out.1.cell hqI
      simp only [Value.slice.injEq] at hg
      obtain ⟨rfl, rfl, rfl⟩ := hg
      obtain ⟨⟨z0, z1⟩, hz⟩ : ∃ x, Rd[q]'hq' = x := ⟨_, rfl⟩
      obtain ⟨ya, hya⟩ : ∃ x, A[q]'hqA = x := ⟨_, rfl⟩
      obtain ⟨yi, hyi⟩ : ∃ x, I[q]'hqI = x := ⟨_, rfl⟩
      have HXX : Hid (rontoX Rd A I q = joinI z0 ya yi) := by show _ = _; unfold rontoX; rw [getD_at _ _ _ hq', getD_at _ _ _ hqA, getD_at _ _ _ hqI, hz, hya, hyi]
      have hra : R64 ya := by rw [← hya]; exact HAA.out.2 _ (List.getElem_mem _)
      have hri : R64 yi := by rw [← hyi]; exact HII.out.2 _ (List.getElem_mem _)
      rw [hz] at hcl
      rw [hya] at hcl2
      rw [hyi] at hcl3
      have p0 := (duo_cells rfl rfl hcl).1
      have p1 := uno_cell rfl rfl hcl2
      have p2 := uno_cell rfl rfl hcl3
      have HS : Hid (∀ W, Below w.heap.size w W → W.cell? ⟨b, bo + q * 2, none⟩ = some (.int .i64 z0) ∧ W.cell? ⟨b2, bo2 + q, none⟩ = some (.int .i64 ya) ∧ W.cell? ⟨b3, bo3 + q, none⟩ = some (.int .i64 yi)) := fun W hW => ⟨(hW.cell (p := ⟨b, bo + q * 2, none⟩) (World.block_lt_of_cell? w _ p0)).trans p0, (hW.cell (p := ⟨b2, bo2 + q, none⟩) (World.block_lt_of_cell? w _ p1)).trans p1, (hW.cell (p := ⟨b3, bo3 + q, none⟩) (World.block_lt_of_cell? w _ p2)).trans p2⟩
      have HJ : Hid (∀ W, Calls Try.prog 102 #[.int .i64 z0, .int .i64 ya, .int .i64 yi] W fun e w' => e = .returned (.int .i64 (joinI z0 ya yi)) ∧ Below W.heap.size W w') := fun W => rjoin_any z0 ya yi hra hri W
      have HNX : Hid ((List.range (q + 1)).map (rontoX Rd A I) = (List.range q).map (rontoX Rd A I) ++ [joinI z0 ya yi]) := by show _ = _; rw [rontoL_next, HXX.out]
      have HL : Hid (((List.range q).map (rontoX Rd A I)).length + [joinI z0 ya yi].length ≤ 100000) := by show _ ≤ _; rw [List.length_map, List.length_range]; show q + 1 ≤ _; omega
      have i1 : (0 : Int) ≤ (q : Int) := by omega
      have i2 : (q : Int) < (n : Int) := by omega
      clear hcl hcl2 hcl3 hz hya hyi hra hri p0 p1 p2 hq' hqA hqI HXX
      generalize joinI z0 ya yi = jv at *
      have hsz := HB.out.size
      have hSd := HS.out wr.drew HB.out.drew
      go_upto_region 5 with fail
      go_region_held3 (fun W => W.cell? ⟨b, bo + q * 2, none⟩ = some (.int .i64 z0) ∧ W.cell? ⟨b2, bo2 + q, none⟩ = some (.int .i64 ya) ∧ W.cell? ⟨b3, bo3 + q, none⟩ = some (.int .i64 yi))
        (first | with_reducible exact hSd | with_reducible exact hS6 | with_reducible exact hS7 | with_reducible exact hS8)
        (first
          | (go_at_call 102; refine (HJ.out _).mono ?_; rintro e w6 ⟨rfl, b6⟩
             have B6 : Below w.heap.size w w6 := HB.out.drew.trans (b6.mono hsz)
             have B7 : Below wr.heap.size wr w6 := (Below.refl _ wr).drew.trans (b6.mono (Nat.le_refl _))
             have hS6 := HS.out w6 B6
             have hS7 := HS.out (w6.alloc (.cells #[.int .i64 jv] 2)) (B6.alloc B6.size _))
          | (refine step_push_row kN rfl _ _ rfl (.slice ao q co) (.slice (some ⟨_, 0, none⟩) 1 1) ((List.range q).map (rontoX Rd A I)) [jv] rfl rfl ((HO.out.below B7).below (bl1 w6 _)) (RS.one1 rfl rfl _ _ (by simp)) HL.out ?_
             intro v5 w5 hz5 g5 ho5
             obtain ⟨B5, n5⟩ := push_more (V := w) (B6.alloc B6.size _) HW.out g5 ho5 (by have := B6.size; first | omega | (simp; omega))
             obtain ⟨a8, k8, rfl⟩ := hz5.sl
             have hS8 := HS.out w5 B5))
      have hl8 : ((List.range q).map (rontoX Rd A I) ++ [jv]).length = q + 1 := by simp
      simp only [hl8] at hz5 n5 ⊢
      have HZ5 : Hid (RZ kN w5 (.slice a8 (q + 1) k8) ((List.range (q + 1)).map (rontoX Rd A I))) := by rw [HNX.out]; exact hz5
      have HN5 : Hid (∀ g, (Value.slice a8 (q + 1) k8).ownBlock = some g → w.heap.size ≤ g) := n5
      have HB5 : Hid (Below w.heap.size w w5) := B5
      clear hz5 g5 ho5 B5 n5 hS8 hS7 hS6 B6 B7 hSd HL HNX hl8 HW HO HB HJ HS
      go_wp2_with fail
      go_roundw
      case rel => exact ⟨q + 1, by go_num, by omega, ⟨_, _, rfl⟩, HB5, HZ5, HN5⟩
      case measure => simp [intOf]; omega
    · have d1 : decide (q < n) = false := by simp; omega
      have hqn : q = n := by omega
      subst hqn
      have HQ : Hid (P (.returned (.slice ao q co)) wr) := HF.out _ _ (by unfold rontoL; rw [HN.out]; exact HO.out) HB.out
      go_wp2
      first | exact HQ.out | (go_ret; exact HQ.out)
theorem inL_len (Rd Is : List (Int × Int)) : (inL Rd Is).length = Rd.length := by simp [inL]
theorem inL_bd {Rd Is : List (Int × Int)} (h : ∀ z ∈ Is, R64 z.2) : ∀ y ∈ inL Rd Is, R64 y := by
  intro y hy
  obtain ⟨i, _, rfl⟩ := List.mem_map.1 hy
  exact fold_bd _ _ _ (zero_bd _) (selI_bd h _)
set_option maxRecDepth 100000 in
set_option maxHeartbeats 8000000 in
theorem rlonto_any {w : World} {v av : Value} {d : Dg} {A : List Int} (h : DV w v d) (ha : RS kN w av A) (la : A.length = d.Rd.length) (hA : ∀ y ∈ A, R64 y) (hI : ∀ z ∈ d.Is, R64 z.2) (l1 : d.Rd.length ≤ 1000) (l2 : d.Is.length ≤ 1000) :
    Calls Try.prog 61 #[v, av] w (fun e w' => ∃ v, e = .returned v ∧ RS kN w' v (rontoL d.Rd A (inL d.Rd d.Is)) ∧ Below w.heap.size w w') := by
  obtain ⟨dv, rv, wv, ov, iv, rfl, h⟩ := h
  have HX : Hid (DX w d dv rv wv ov iv) := h
  have HA : Hid (RS kN w av A) := ha
  obtain ⟨a3, k3, e3⟩ := h.dd.form
  obtain ⟨a7, k7, e7⟩ := h.ii.form
  obtain ⟨aa, ka, ea⟩ := ha.form
  rw [la] at ea
  subst e3 e7 ea
  have HIN : Hid (∀ W, Below w.heap.size w W → Calls Try.prog 89 #[.slice a3 d.Rd.length k3, .slice a7 d.Is.length k7] W (fun e w' => ∃ v, e = .returned v ∧ RS kN w' v (inL d.Rd d.Is) ∧ Below W.heap.size W w')) := fun W hW => rin_any (HX.out.dd.below hW) (HX.out.ii.below hW) hI l1 l2
  have HON : Hid (∀ W vi, Below w.heap.size w W → RS kN W vi (inL d.Rd d.Is) → Calls Try.prog 88 #[.slice a3 d.Rd.length k3, .slice aa d.Rd.length ka, vi] W (fun e w' => ∃ v, e = .returned v ∧ RS kN w' v (rontoL d.Rd A (inL d.Rd d.Is)) ∧ Below W.heap.size W w')) := fun W vi hW hv => ronto_any (HX.out.dd.below hW) (HA.out.below hW) hv la (inL_len _ _) hA (inL_bd hI) l1
  clear h ha la hA hI
  have HF : Hid (∀ v W, RS kN W v (rontoL d.Rd A (inL d.Rd d.Is)) → Below w.heap.size w W → (fun (e : Ending) w' => ∃ v, e = .returned v ∧ RS kN w' v (rontoL d.Rd A (inL d.Rd d.Is)) ∧ Below w.heap.size w w') (.returned v) W) := fun v W h b => ⟨v, rfl, h, b⟩
  generalize (fun (e : Ending) w' => ∃ v, e = .returned v ∧ RS kN w' v (rontoL d.Rd A (inL d.Rd d.Is)) ∧ Below w.heap.size w w') = P at *
  have hS : ∀ W, Below (w.heap.size + 1) (w.alloc (.cells #[.int .i64 d.R, .int .i64 d.W, .int .i64 d.O, .slice a3 d.Rd.length k3, rv, wv, ov, .slice a7 d.Is.length k7] 35)) W → W.cell? ⟨w.heap.size, 3, none⟩ = some (.slice a3 d.Rd.length k3) ∧ W.cell? ⟨w.heap.size, 7, none⟩ = some (.slice a7 d.Is.length k7) := fun W hW => by
    have e := (hW.block w.heap.size (by omega)).trans (heap_alloc_new _ _)
    refine ⟨?_, ?_⟩ <;> (rw [cell_of_row W w.heap.size _ _ _ _ e]; rfl)
  have hsz : w.heap.size + 1 ≤ (w.alloc (.cells #[.int .i64 d.R, .int .i64 d.W, .int .i64 d.O, .slice a3 d.Rd.length k3, rv, wv, ov, .slice a7 d.Is.length k7] 35)).heap.size := by simp
  have HB : Hid (Below w.heap.size w (w.alloc (.cells #[.int .i64 d.R, .int .i64 d.W, .int .i64 d.O, .slice a3 d.Rd.length k3, rv, wv, ov, .slice a7 d.Is.length k7] 35))) := bl1 w _
  go_enter Try.func61, Try.ntmps61
  go_upto_region 1 with fail
  generalize w.alloc (.cells #[.int .i64 d.R, .int .i64 d.W, .int .i64 d.O, .slice a3 d.Rd.length k3, rv, wv, ov, .slice a7 d.Is.length k7] 35) = V at *
  obtain ⟨g, hg⟩ : ∃ g, w.heap.size = g := ⟨_, rfl⟩
  have HG : Hid (w.heap.size = g) := hg
  rw [hg] at hS hsz ⊢
  clear hg
  have HS : Hid _ := hS
  have HSZ : Hid (g + 1 ≤ V.heap.size) := hsz
  have hSd := hS V.drew (Below.refl _ _).drew
  clear hS hsz
  go_region_held3 (fun W => W.cell? ⟨g, 3, none⟩ = some (.slice a3 d.Rd.length k3) ∧ W.cell? ⟨g, 7, none⟩ = some (.slice a7 d.Is.length k7))
    (first | with_reducible exact hSd | with_reducible exact hS6 | with_reducible exact hS7)
    (first
      | (go_at_call 88; refine (HON.out _ v6 B6 r6).mono ?_; rintro e w7 ⟨v7, rfl, r7, b7⟩
         have B7 : Below w.heap.size w w7 := B6.trans (b7.mono B6.size)
         have hS7 := HS.out w7 (B6'.trans (b7.mono (by have := B6'.size; have := HSZ.out; omega))))
      | (go_at_call 89; refine (HIN.out _ HB.out.drew).mono ?_; rintro e w6 ⟨v6, rfl, r6, b6⟩
         have B6 : Below w.heap.size w w6 := HB.out.drew.trans (b6.mono HB.out.size)
         have B6' : Below (g + 1) V w6 := (Below.refl _ V).drew.trans (b6.mono HSZ.out)
         have hS6 := HS.out w6 B6'))
  have HQ : Hid (P (.returned v7) w7) := HF.out v7 w7 r7 B7
  go_wp2
  first | exact HQ.out | (go_ret; exact HQ.out)
end Go.Proofs.Ytongeppdaeekeaa
