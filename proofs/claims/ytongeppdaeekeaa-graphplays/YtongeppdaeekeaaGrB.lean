/- Where an edge stands: the search. -/
import Derived.Test.YtongeppdaeekeaaGrA
namespace Go.Proofs.Ytongeppdaeekeaa
open Go.RowKit Go.Maps
set_option linter.unusedVariables false

set_option maxRecDepth 100000 in
set_option maxHeartbeats 8000000 in
theorem bs_any (w : World) (E : Ed) (v : Value) (hv : RS kE w v E) (hs : srtE E) (hl : E.length ≤ 1000) (x : Int × Int) :
    Calls Try.prog 93 #[v, edA x, .func (.func 94) #[] #[]] w (AN w (.tuple #[.int .i64 (plE E x : Int), .bool (hasE E x)])) := by
  have HV : Hid (∀ W, Below w.heap.size w W → RS kE W v E) := fun W hW => hv.below hW
  obtain ⟨va, vc, rfl⟩ := hv.form
  obtain ⟨x0, x1⟩ := x
  obtain ⟨m, hm⟩ : ∃ m, E.length = m := ⟨_, rfl⟩
  have HM : Hid (E.length = m) := hm
  have HST : Hid (srtE E) := hs
  have HF : Hid (∀ p b W, p = plE E (x0, x1) → b = hasE E (x0, x1) → Below w.heap.size w W → AN w (.tuple #[.int .i64 (plE E (x0, x1) : Int), .bool (hasE E (x0, x1))]) (.returned (.tuple #[.int .i64 (p : Int), .bool b])) W) := fun p b W h1 h2 h3 => ⟨by rw [h1, h2], h3⟩
  have HOR : Hid (∀ z0 z1 W, Calls Try.prog 94 #[.agg #[.int .i64 z0, .int .i64 z1], .agg #[.int .i64 x0, .int .i64 x1]] W (AN W (.int .i64 (ordI (z0, z1) (x0, x1))))) := fun z0 z1 W => order_any (z0, z1) (x0, x1) W
  obtain ⟨V, hV⟩ : ∃ V, w.alloc (.cells #[.int .i64 x0, .int .i64 x1] 90) = V := ⟨_, rfl⟩
  have HVV : Hid (w.alloc (.cells #[.int .i64 x0, .int .i64 x1] 90) = V) := hV
  obtain ⟨g, hg⟩ : ∃ g, w.heap.size = g := ⟨_, rfl⟩
  have HG : Hid (w.heap.size = g) := hg
  have HBV : Hid (Below w.heap.size w V) := by rw [← hV]; exact bl1 w _
  have hsz0 : g < V.heap.size := by rw [← hV, ← hg]; simp
  have HSZ : Hid (g < V.heap.size) := hsz0
  have HCX : Hid (∀ W, Below V.heap.size V W → W.cell? ⟨g, 0, none⟩ = some (.int .i64 x0) ∧ W.cell? ⟨g, 1, none⟩ = some (.int .i64 x1)) := fun W hW => by
    have e1 : W.heap[g]? = some (.cells #[.int .i64 x0, .int .i64 x1] 90) := (hW.block g (by rw [← hV, ← hg]; simp)).trans (by rw [← hV, ← hg]; exact heap_alloc_new _ _)
    exact ⟨by rw [cell_of_row W g _ _ _ _ e1]; rfl, by rw [cell_of_row W g _ _ _ _ e1]; rfl⟩
  clear hv hs hV hg hsz0
  rw [hm] at hl HV ⊢
  clear hm
  generalize AN w (.tuple #[.int .i64 (plE E (x0, x1) : Int), .bool (hasE E (x0, x1))]) = P at *
  unfold edA
  go_enter Try.func93, Try.ntmps93
  go_upto_region 1 with fail
  rw [HVV.out, HG.out]
  clear HVV
  go_wp2_with fail
  go_loopw [9, 10, 11] (fun i j _ wr => ∃ p q : Nat, i = .int .i64 (p : Int) ∧ j = .int .i64 (q : Int) ∧ p ≤ q ∧ q ≤ m ∧ Hid (Below V.heap.size V wr) ∧ Hid ((∀ k (h : k < E.length), k < p → eLt E[k] (x0, x1)) ∧ (∀ k (h : k < E.length), q ≤ k → ¬ eLt E[k] (x0, x1)))) (fun i j _ _ => (intOf j - intOf i).toNat)
  case atStart => exact ⟨0, m, rfl, rfl, Nat.zero_le _, Nat.le_refl _, Below.refl _ _, fun k h q => absurd q (Nat.not_lt_zero _), fun k h q => absurd h (by have := HM.out; omega)⟩
  case round =>
    obtain ⟨p, q, rfl, rfl, hpq, hqm, HB, HI⟩ := hrel
    by_cases hlt : p < q
    · have e1 : decide (p < q) = true := by simp; omega
      go_upto_region 5 with fail
      obtain ⟨y, hy⟩ : ∃ y : Nat, ((p : Int) + (q : Int)) / 2 = (y : Int) := ⟨(p + q) / 2, by omega⟩
      have hpy : p ≤ y ∧ y < q := by omega
      rw [hy]
      clear hy
      have hym : y < m := by omega
      have hyl : y < E.length := by rw [HM.out]; exact hym
      have hbw := HBV.out.trans (HB.out.mono HBV.out.size)
      obtain ⟨b, bo, n', c', hgv, hcl⟩ := (HV.out wr hbw).cell hyl
      simp only [Value.slice.injEq] at hgv
      obtain ⟨rfl, rfl, rfl⟩ := hgv
      obtain ⟨⟨z0, z1⟩, hz⟩ : ∃ z, E[y]'hyl = z := ⟨_, rfl⟩
      have HZ : Hid (E[y]'hyl = (z0, z1)) := hz
      rw [hz] at hcl
      obtain ⟨y0, y1⟩ := duo_cells rfl rfl hcl
      have HCE : Hid (∀ W, Below wr.heap.size wr W → W.cell? ⟨b, bo + y * 2, none⟩ = some (.int .i64 z0) ∧ W.cell? ⟨b, bo + y * 2 + 1, none⟩ = some (.int .i64 z1) ∧ W.cell? ⟨g, 0, none⟩ = some (.int .i64 x0) ∧ W.cell? ⟨g, 1, none⟩ = some (.int .i64 x1)) := fun W hW => by
        obtain ⟨q0, q1⟩ := HCX.out W (HB.out.trans (hW.mono HB.out.size))
        exact ⟨(hW.cell (p := ⟨b, bo + y * 2, none⟩) (World.block_lt_of_cell? wr _ y0)).trans y0, (hW.cell (p := ⟨b, bo + y * 2 + 1, none⟩) (World.block_lt_of_cell? wr _ y1)).trans y1, q0, q1⟩
      have i1 : (0 : Int) ≤ (y : Int) := by omega
      have i2 : (y : Int) < (m : Int) := by omega
      have hSd := HCE.out wr.drew (Below.refl _ _).drew
      clear hcl hz y0 y1 hbw
      by_cases hlt2 : eLt (z0, z1) (x0, x1)
      · have HOE : Hid (Calls Try.prog 94 #[.agg #[.int .i64 z0, .int .i64 z1], .agg #[.int .i64 x0, .int .i64 x1]] wr.drew (AN wr.drew (.int .i64 (-1)))) := by
          have := HOR.out z0 z1 wr.drew
          rw [ord_lt hlt2] at this
          exact this
        have HI2 : Hid ((∀ k (h : k < E.length), k < y + 1 → eLt E[k] (x0, x1)) ∧ (∀ k (h : k < E.length), q ≤ k → ¬ eLt E[k] (x0, x1))) := by
          refine ⟨fun k h hk => ?_, HI.out.2⟩
          rcases Nat.lt_or_ge k y with r | r
          · have gg := (List.pairwise_iff_getElem.1 HST.out) k y h hyl r
            rw [HZ.out] at gg
            exact eLt_trans gg hlt2
          · have : k = y := by omega
            subst this
            rw [HZ.out]; exact hlt2
        clear HZ HI hlt2
        go_region_held3 (fun W => W.cell? ⟨b, bo + y * 2, none⟩ = some (.int .i64 z0) ∧ W.cell? ⟨b, bo + y * 2 + 1, none⟩ = some (.int .i64 z1) ∧ W.cell? ⟨g, 0, none⟩ = some (.int .i64 x0) ∧ W.cell? ⟨g, 1, none⟩ = some (.int .i64 x1))
          (first | with_reducible exact hSd | with_reducible exact hS3)
          (first
            | (go_at_call 94; refine HOE.out.mono ?_; rintro e w3 ⟨rfl, b3⟩
               have E3 : Below wr.heap.size wr w3 := (Below.refl _ wr).drew.trans (b3.mono (Nat.le_refl _))
               have hS3 := HCE.out w3 E3))
        have HB3 : Hid (Below V.heap.size V w3) := HB.out.trans (E3.mono HB.out.size)
        clear hSd hS3 E3 b3 HCE HOE
        go_wp2_with fail
        go_roundw
        case rel => exact ⟨y + 1, q, by go_num, rfl, by omega, hqm, HB3, HI2⟩
        case measure => simp [intOf] <;> omega
      · have HOE : Hid (∃ c : Int, ¬ c < 0 ∧ Calls Try.prog 94 #[.agg #[.int .i64 z0, .int .i64 z1], .agg #[.int .i64 x0, .int .i64 x1]] wr.drew (AN wr.drew (.int .i64 c))) := by
          have := HOR.out z0 z1 wr.drew
          rcases eLt_or (z0, z1) (x0, x1) with r | r | r
          · exact absurd r hlt2
          · rw [r, ord_eq] at this
            rw [Prod.mk.injEq] at r
            obtain ⟨rfl, rfl⟩ := r
            exact ⟨0, by decide, this⟩
          · rw [ord_gt r] at this
            exact ⟨1, by decide, this⟩
        have HI2 : Hid ((∀ k (h : k < E.length), k < p → eLt E[k] (x0, x1)) ∧ (∀ k (h : k < E.length), y ≤ k → ¬ eLt E[k] (x0, x1))) := by
          refine ⟨HI.out.1, fun k h hk => ?_⟩
          rcases Nat.lt_or_ge y k with r | r
          · have gg := (List.pairwise_iff_getElem.1 HST.out) y k hyl h r
            rw [HZ.out] at gg
            exact fun q => hlt2 (eLt_trans gg q)
          · have : k = y := by omega
            subst this
            rw [HZ.out]; exact hlt2
        obtain ⟨c, hc, hcc⟩ := HOE.out
        have HOC : Hid (Calls Try.prog 94 #[.agg #[.int .i64 z0, .int .i64 z1], .agg #[.int .i64 x0, .int .i64 x1]] wr.drew (AN wr.drew (.int .i64 c))) := hcc
        have hc2 : decide (c < 0) = false := by simp; omega
        clear HZ HI hlt2 hcc HOE hc
        go_region_held3 (fun W => W.cell? ⟨b, bo + y * 2, none⟩ = some (.int .i64 z0) ∧ W.cell? ⟨b, bo + y * 2 + 1, none⟩ = some (.int .i64 z1) ∧ W.cell? ⟨g, 0, none⟩ = some (.int .i64 x0) ∧ W.cell? ⟨g, 1, none⟩ = some (.int .i64 x1))
          (first | with_reducible exact hSd | with_reducible exact hS3)
          (first
            | (go_at_call 94; refine HOC.out.mono ?_; rintro e w3 ⟨rfl, b3⟩
               have E3 : Below wr.heap.size wr w3 := (Below.refl _ wr).drew.trans (b3.mono (Nat.le_refl _))
               have hS3 := HCE.out w3 E3))
        have HB3 : Hid (Below V.heap.size V w3) := HB.out.trans (E3.mono HB.out.size)
        clear hSd hS3 E3 b3 HCE HOC
        go_wp2_with fail
        go_roundw
        case rel => exact ⟨p, y, rfl, rfl, by omega, by omega, HB3, HI2⟩
        case measure => simp [intOf] <;> omega
    · have hpq2 : p = q := by omega
      subst hpq2
      have HP : Hid (p = plE E (x0, x1)) := (pl_is E (x0, x1) p (by rw [HM.out]; exact hqm) HI.out.1 HI.out.2).symm
      have e1 : decide (p < p) = false := by simp
      by_cases hpm : p < m
      · have e2 : decide (p < m) = true := by simp; omega
        have hyl : p < E.length := by rw [HM.out]; exact hpm
        have hbw := HBV.out.trans (HB.out.mono HBV.out.size)
        obtain ⟨b, bo, n', c', hgv, hcl⟩ := (HV.out wr hbw).cell hyl
        simp only [Value.slice.injEq] at hgv
        obtain ⟨rfl, rfl, rfl⟩ := hgv
        obtain ⟨⟨z0, z1⟩, hz⟩ : ∃ z, E[p]'hyl = z := ⟨_, rfl⟩
        have HH : Hid (hasE E (x0, x1) = decide ((z0, z1) = (x0, x1))) := by show _ = _; rw [has_at HST.out _ p hyl HP.out.symm, hz]
        have hnl : ¬ eLt (z0, z1) (x0, x1) := by have := HI.out.2 p hyl (Nat.le_refl _); rw [hz] at this; exact this
        rw [hz] at hcl
        obtain ⟨y0, y1⟩ := duo_cells rfl rfl hcl
        have HCE : Hid (∀ W, Below wr.heap.size wr W → W.cell? ⟨b, bo + p * 2, none⟩ = some (.int .i64 z0) ∧ W.cell? ⟨b, bo + p * 2 + 1, none⟩ = some (.int .i64 z1) ∧ W.cell? ⟨g, 0, none⟩ = some (.int .i64 x0) ∧ W.cell? ⟨g, 1, none⟩ = some (.int .i64 x1)) := fun W hW => by
          obtain ⟨q0, q1⟩ := HCX.out W (HB.out.trans (hW.mono HB.out.size))
          exact ⟨(hW.cell (p := ⟨b, bo + p * 2, none⟩) (World.block_lt_of_cell? wr _ y0)).trans y0, (hW.cell (p := ⟨b, bo + p * 2 + 1, none⟩) (World.block_lt_of_cell? wr _ y1)).trans y1, q0, q1⟩
        have i1 : (0 : Int) ≤ (p : Int) := by omega
        have i2 : (p : Int) < (m : Int) := by omega
        have hSd := HCE.out wr.drew (Below.refl _ _).drew
        have HOE : Hid (∃ (c : Int) (bb : Bool), (c == 0) = bb ∧ hasE E (x0, x1) = bb ∧ Calls Try.prog 94 #[.agg #[.int .i64 z0, .int .i64 z1], .agg #[.int .i64 x0, .int .i64 x1]] wr.drew (AN wr.drew (.int .i64 c))) := by
          have := HOR.out z0 z1 wr.drew
          rcases eLt_or (z0, z1) (x0, x1) with r | r | r
          · exact absurd r hnl
          · have hh := HH.out
            rw [decide_eq_true r] at hh
            rw [r, ord_eq] at this
            rw [Prod.mk.injEq] at r
            obtain ⟨rfl, rfl⟩ := r
            exact ⟨0, true, rfl, hh, this⟩
          · have hh := HH.out
            rw [decide_eq_false (fun e => by rw [e] at r; exact eLt_irrefl _ r)] at hh
            rw [ord_gt r] at this
            exact ⟨1, false, rfl, hh, this⟩
        obtain ⟨c, bb, hcb, hhb, hcc⟩ := HOE.out
        have HOC : Hid (Calls Try.prog 94 #[.agg #[.int .i64 z0, .int .i64 z1], .agg #[.int .i64 x0, .int .i64 x1]] wr.drew (AN wr.drew (.int .i64 c))) := hcc
        have HR : Hid (∀ W, Below wr.heap.size wr W → P (.returned (.tuple #[.int .i64 (p : Int), .bool bb])) W) := fun W hW => HF.out p bb W HP.out hhb.symm (HBV.out.trans ((HB.out.trans (hW.mono HB.out.size)).mono HBV.out.size))
        clear hcl hz y0 y1 hbw hcc HOE hnl HH hhb
        go_upto_region 8 with fail
        go_region_held3 (fun W => W.cell? ⟨b, bo + p * 2, none⟩ = some (.int .i64 z0) ∧ W.cell? ⟨b, bo + p * 2 + 1, none⟩ = some (.int .i64 z1) ∧ W.cell? ⟨g, 0, none⟩ = some (.int .i64 x0) ∧ W.cell? ⟨g, 1, none⟩ = some (.int .i64 x1))
          (first | with_reducible exact hSd | with_reducible exact hS3)
          (first
            | (go_at_call 94; refine HOC.out.mono ?_; rintro e w3 ⟨rfl, b3⟩
               have E3 : Below wr.heap.size wr w3 := (Below.refl _ wr).drew.trans (b3.mono (Nat.le_refl _))
               have hS3 := HCE.out w3 E3))
        have HR3 : Hid (P (.returned (.tuple #[.int .i64 (p : Int), .bool bb])) w3) := HR.out w3 E3
        clear hSd hS3 E3 b3 HCE HOC
        go_wp2
        first | exact HR3.out | (go_ret2; exact HR3.out)
      · have e2 : decide (p < m) = false := by simp; omega
        have hpm2 : p = m := by omega
        have HR : Hid (∀ k, P (.returned (.tuple #[.int .i64 (p : Int), .bool false])) (wr.drewN k)) := fun k => HF.out p false _ HP.out (has_no _ (by rw [← HP.out, HM.out]; exact hpm2)).symm (HBV.out.trans ((Go.Proofs.Ytongeppdaeekeaa.Below.dN HB.out k).mono HBV.out.size))
        have HR1 : Hid (P (.returned (.tuple #[.int .i64 (p : Int), .bool false])) wr.drew) := HF.out p false _ HP.out (has_no _ (by rw [← HP.out, HM.out]; exact hpm2)).symm (HBV.out.trans (HB.out.drew.mono HBV.out.size))
        clear hpm2
        go_upto_region 8 with fail
        refine wp_region_held_drew (S := fun _ => True) (by kernel_rfl) trivial (fun hHeld => ?_)
        refine wpAnyH_take (i := 0) (oi := { dst := some 35, op := Op.move (Operand.tmp 9), type := 3, pos := "sort.go:167", after := #[], guard := none }) (v := ?_) rfl (by kernel_rfl) (by kernel_rfl) (by kernel_rfl) (fun _ _ _ h => h) (Or.inl ⟨by rfl, ?_⟩) (by assumption) ?_
        rotate_left
        · intro w hSw
          first | (go_simp; done) | (go_simp; with_reducible rfl)
        try simp only [Act.put, List.setIfInBounds_toArray, List.set_cons_zero, List.set_cons_succ]
        refine wpAnyH_take (i := 1) (oi := { dst := some 36, op := Op.move (Operand.tmp 9), type := 3, pos := "sort.go:167", after := #[], guard := none }) (v := ?_) rfl (by kernel_rfl) (by kernel_rfl) (by kernel_rfl) (fun _ _ _ h => h) (Or.inl ⟨by rfl, ?_⟩) (by assumption) ?_
        rotate_left
        · intro w hSw
          first | (go_simp; done) | (go_simp; with_reducible rfl)
        try simp only [Act.put, List.setIfInBounds_toArray, List.set_cons_zero, List.set_cons_succ]
        refine wpAnyH_take (i := 2) (oi := { dst := some 37, op := Op.move (Operand.tmp 8), type := 3, pos := "sort.go:167", after := #[], guard := none }) (v := ?_) rfl (by kernel_rfl) (by kernel_rfl) (by kernel_rfl) (fun _ _ _ h => h) (Or.inl ⟨by rfl, ?_⟩) (by assumption) ?_
        rotate_left
        · intro w hSw
          first | (go_simp; done) | (go_simp; with_reducible rfl)
        try simp only [Act.put, List.setIfInBounds_toArray, List.set_cons_zero, List.set_cons_succ]
        refine wpAnyH_take (i := 3) (oi := { dst := some 38, op := Op.binOp BinOp.lss 3 (Operand.tmp 36) (Operand.tmp 37) 3, type := 4, pos := "sort.go:167", after := #[{ on := 1, ground := Ground.data }, { on := 2, ground := Ground.data }], guard := none }) (v := ?_) rfl (by kernel_rfl) (by kernel_rfl) (by kernel_rfl) (fun _ _ _ h => h) (Or.inl ⟨by rfl, ?_⟩) (by assumption) ?_
        rotate_left
        · intro w hSw
          first | (go_simp; done) | (go_simp; with_reducible rfl)
        try simp only [Act.put, List.setIfInBounds_toArray, List.set_cons_zero, List.set_cons_succ]
        refine wpAnyH_take (i := 4) (oi := { dst := some 39, op := Op.move (Operand.tmp 38), type := 4, pos := "sort.go:167", after := #[{ on := 3, ground := Ground.data }], guard := none }) (v := ?_) rfl (by kernel_rfl) (by kernel_rfl) (by kernel_rfl) (fun _ _ _ h => h) (Or.inl ⟨by rfl, ?_⟩) (by assumption) ?_
        rotate_left
        · intro w hSw
          first | (go_simp; done) | (go_simp; with_reducible rfl)
        try simp only [Act.put, List.setIfInBounds_toArray, List.set_cons_zero, List.set_cons_succ]
        refine wpAnyH_take (i := 5) (oi := { dst := some 40, op := Op.move (Operand.tmp 2), type := 158, pos := "sort.go:167", after := #[{ on := 4, ground := Ground.guard }], guard := some (4, true) }) (v := undef) rfl (by kernel_rfl) (by kernel_rfl) (by kernel_rfl) (fun _ _ _ h => h) (Or.inr ⟨by rfl, rfl⟩) (by assumption) ?_
        try simp only [Act.put, List.setIfInBounds_toArray, List.set_cons_zero, List.set_cons_succ]
        refine wpAnyH_take (i := 6) (oi := { dst := some 41, op := Op.move (Operand.tmp 0), type := 86, pos := "sort.go:167", after := #[{ on := 4, ground := Ground.guard }], guard := some (4, true) }) (v := undef) rfl (by kernel_rfl) (by kernel_rfl) (by kernel_rfl) (fun _ _ _ h => h) (Or.inr ⟨by rfl, rfl⟩) (by assumption) ?_
        try simp only [Act.put, List.setIfInBounds_toArray, List.set_cons_zero, List.set_cons_succ]
        refine wpAnyH_take (i := 7) (oi := { dst := some 42, op := Op.move (Operand.tmp 9), type := 3, pos := "sort.go:167", after := #[{ on := 4, ground := Ground.guard }], guard := some (4, true) }) (v := undef) rfl (by kernel_rfl) (by kernel_rfl) (by kernel_rfl) (fun _ _ _ h => h) (Or.inr ⟨by rfl, rfl⟩) (by assumption) ?_
        try simp only [Act.put, List.setIfInBounds_toArray, List.set_cons_zero, List.set_cons_succ]
        refine wpAnyH_take (i := 8) (oi := { dst := some 43, op := Op.indexAddr 86 (Operand.tmp 41) (Operand.tmp 42), type := 0, pos := "sort.go:167", after := #[{ on := 6, ground := Ground.data }, { on := 7, ground := Ground.data }, { on := 4, ground := Ground.guard }], guard := some (4, true) }) (v := undef) rfl (by kernel_rfl) (by kernel_rfl) (by kernel_rfl) (fun _ _ _ h => h) (Or.inr ⟨by rfl, rfl⟩) (by assumption) ?_
        try simp only [Act.put, List.setIfInBounds_toArray, List.set_cons_zero, List.set_cons_succ]
        refine wpAnyH_take (i := 9) (oi := { dst := some 44, op := Op.load 90 (Operand.tmp 43), type := 90, pos := "sort.go:167", after := #[{ on := 8, ground := Ground.data }, { on := 4, ground := Ground.guard }], guard := some (4, true) }) (v := undef) rfl (by kernel_rfl) (by kernel_rfl) (by kernel_rfl) (fun _ _ _ h => h) (Or.inr ⟨by rfl, rfl⟩) (by assumption) ?_
        try simp only [Act.put, List.setIfInBounds_toArray, List.set_cons_zero, List.set_cons_succ]
        refine wpAnyH_take (i := 10) (oi := { dst := some 45, op := Op.load 90 (Operand.tmp 4), type := 90, pos := "sort.go:167", after := #[{ on := 4, ground := Ground.guard }], guard := some (4, true) }) (v := undef) rfl (by kernel_rfl) (by kernel_rfl) (by kernel_rfl) (fun _ _ _ h => h) (Or.inr ⟨by rfl, rfl⟩) (by assumption) ?_
        try simp only [Act.put, List.setIfInBounds_toArray, List.set_cons_zero, List.set_cons_succ]
        refine wpAnyH_take (i := 11) (oi := { dst := some 46, op := Op.call { callee := Callee.value (Operand.tmp 40), args := #[Operand.tmp 44, Operand.tmp 45], argTypes := #[90, 90] }, type := 3, pos := "sort.go:167", after := #[{ on := 5, ground := Ground.data }, { on := 9, ground := Ground.data }, { on := 10, ground := Ground.data }, { on := 4, ground := Ground.chain }, { on := 4, ground := Ground.guard }], guard := some (4, true) }) (v := undef) rfl (by kernel_rfl) (by kernel_rfl) (by kernel_rfl) (fun _ _ _ h => h) (Or.inr ⟨by rfl, rfl⟩) (by assumption) ?_
        try simp only [Act.put, List.setIfInBounds_toArray, List.set_cons_zero, List.set_cons_succ]
        refine wpAnyH_take (i := 12) (oi := { dst := some 47, op := Op.binOp BinOp.eql 3 (Operand.tmp 46) (Operand.const (Value.int IntKind.i64 0)) 3, type := 4, pos := "sort.go:167", after := #[{ on := 11, ground := Ground.data }, { on := 4, ground := Ground.guard }, { on := 14, ground := Ground.gcOnly Departure.lateStores }], guard := some (4, true) }) (v := undef) rfl (by kernel_rfl) (by kernel_rfl) (by kernel_rfl) (fun _ _ _ h => h) (Or.inr ⟨by rfl, rfl⟩) (by assumption) ?_
        try simp only [Act.put, List.setIfInBounds_toArray, List.set_cons_zero, List.set_cons_succ]
        refine wpAnyH_take (i := 13) (oi := { dst := some 48, op := Op.pick (Operand.tmp 39) (Operand.tmp 47) (Operand.const (Value.bool false)), type := 4, pos := "sort.go:167", after := #[{ on := 4, ground := Ground.data }, { on := 12, ground := Ground.data }, { on := 14, ground := Ground.gcOnly Departure.lateStores }], guard := none }) (v := ?_) rfl (by kernel_rfl) (by kernel_rfl) (by kernel_rfl) (fun _ _ _ h => h) (Or.inl ⟨by rfl, ?_⟩) (by assumption) ?_
        rotate_left
        · intro w hSw
          first | (go_simp; done) | (go_simp; with_reducible rfl)
        try simp only [Act.put, List.setIfInBounds_toArray, List.set_cons_zero, List.set_cons_succ]
        refine wpAnyH_take (i := 14) (oi := { dst := some 6, op := Op.assign (Operand.tmp 35), type := 3, pos := "sort.go:167", after := #[{ on := 0, ground := Ground.data }, { on := 11, ground := Ground.chain }, { on := 0, ground := Ground.phase }, { on := 1, ground := Ground.textOnly Departure.lateStores }, { on := 2, ground := Ground.textOnly Departure.lateStores }, { on := 3, ground := Ground.textOnly Departure.lateStores }, { on := 4, ground := Ground.textOnly Departure.lateStores }, { on := 5, ground := Ground.textOnly Departure.lateStores }, { on := 6, ground := Ground.textOnly Departure.lateStores }, { on := 7, ground := Ground.textOnly Departure.lateStores }, { on := 8, ground := Ground.textOnly Departure.lateStores }, { on := 9, ground := Ground.textOnly Departure.lateStores }, { on := 10, ground := Ground.textOnly Departure.lateStores }, { on := 11, ground := Ground.textOnly Departure.lateStoresUnsure }, { on := 12, ground := Ground.textOnly Departure.lateStores }, { on := 13, ground := Ground.textOnly Departure.lateStores }], guard := none }) (v := ?_) rfl (by kernel_rfl) (by kernel_rfl) (by kernel_rfl) (fun _ _ _ h => h) (Or.inl ⟨by rfl, ?_⟩) (by assumption) ?_
        rotate_left
        · intro w hSw
          first | (go_simp; done) | (go_simp; with_reducible rfl)
        try simp only [Act.put, List.setIfInBounds_toArray, List.set_cons_zero, List.set_cons_succ]
        refine wpAnyH_take (i := 15) (oi := { dst := some 7, op := Op.assign (Operand.tmp 48), type := 4, pos := "sort.go:167", after := #[{ on := 13, ground := Ground.data }, { on := 14, ground := Ground.chain }, { on := 0, ground := Ground.phase }, { on := 1, ground := Ground.phase }, { on := 2, ground := Ground.phase }, { on := 3, ground := Ground.phase }, { on := 4, ground := Ground.phase }, { on := 5, ground := Ground.phase }, { on := 6, ground := Ground.phase }, { on := 7, ground := Ground.phase }, { on := 8, ground := Ground.phase }, { on := 9, ground := Ground.phase }, { on := 10, ground := Ground.phase }, { on := 11, ground := Ground.phase }, { on := 12, ground := Ground.phase }, { on := 13, ground := Ground.phase }, { on := 14, ground := Ground.phase }], guard := none }) (v := ?_) rfl (by kernel_rfl) (by kernel_rfl) (by kernel_rfl) (fun _ _ _ h => h) (Or.inl ⟨by rfl, ?_⟩) (by assumption) ?_
        rotate_left
        · intro w hSw
          first | (go_simp; done) | (go_simp; with_reducible rfl)
        try simp only [Act.put, List.setIfInBounds_toArray, List.set_cons_zero, List.set_cons_succ]
        refine wpAnyH_done (by kernel_rfl) ?_ _
        go_wp2
        first | exact HR1.out | (go_ret2; exact HR1.out) | exact HR.out _ | (go_ret2; exact HR.out _)
end Go.Proofs.Ytongeppdaeekeaa
