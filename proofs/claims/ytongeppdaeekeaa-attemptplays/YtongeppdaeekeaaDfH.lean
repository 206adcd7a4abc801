/- What went into reductions, in the document's words. -/
import Derived.Test.YtongeppdaeekeaaDfG
import Derived.Test.YtongeppdaeekeaaAtM
namespace Go.Proofs.Ytongeppdaeekeaa
open Go.RowKit Go.Maps
set_option linter.unusedVariables false

/-- the numbers that went into a reduction -/
def selI (Is : List (Int × Int)) (i : Int) : List Int := (Is.filter (fun z => z.1 == i)).map (·.2)
theorem selI_next (Is : List (Int × Int)) (i : Int) (q : Nat) (hq : q < Is.length) : selI (Is.take (q + 1)) i = if Is[q].1 = i then selI (Is.take q) i ++ [Is[q].2] else selI (Is.take q) i := by
  unfold selI
  rw [List.take_succ_eq_append_getElem hq, List.filter_append, List.map_append]
  by_cases h : Is[q].1 = i
  · rw [if_pos h]; simp [h]
  · rw [if_neg h]; simp [h]
def inX (Rd : List (Int × Int)) (Is : List (Int × Int)) (i : Nat) : Int := foldI (Rd.getD i (0, 0)).1 (selI Is (i : Int))
def inL (Rd : List (Int × Int)) (Is : List (Int × Int)) : List Int := (List.range Rd.length).map (inX Rd Is)
theorem inL_next (Rd Is : List (Int × Int)) (q : Nat) : (List.range (q + 1)).map (inX Rd Is) = (List.range q).map (inX Rd Is) ++ [inX Rd Is q] := by rw [List.range_succ, List.map_append]; rfl
theorem selI_bd {Is : List (Int × Int)} (h : ∀ z ∈ Is, R64 z.2) (i : Int) : ∀ y ∈ selI Is i, R64 y := by
  intro y hy
  obtain ⟨z, hz, rfl⟩ := List.mem_map.1 hy
  exact h z (List.mem_filter.1 hz).1
set_option maxRecDepth 100000 in
set_option maxHeartbeats 8000000 in
theorem rin_any {w : World} {dv iv : Value} {Rd Is : List (Int × Int)} (hd : RS kD w dv Rd) (hi : RS kI w iv Is) (hb : ∀ z ∈ Is, R64 z.2) (l1 : Rd.length ≤ 1000) (l2 : Is.length ≤ 1000) :
    Calls Try.prog 89 #[dv, iv] w (fun e w' => ∃ v, e = .returned v ∧ RS kN w' v (inL Rd Is) ∧ Below w.heap.size w w') := by
  have HD : Hid (RS kD w dv Rd) := hd
  have HI : Hid (RS kI w iv Is) := hi
  have HBD : Hid (∀ z ∈ Is, R64 z.2) := hb
  obtain ⟨a1, c1, e1⟩ := hd.form
  obtain ⟨a2, c2, e2⟩ := hi.form
  obtain ⟨n, hn⟩ : ∃ n, Rd.length = n := ⟨_, rfl⟩
  obtain ⟨m, hm⟩ : ∃ m, Is.length = m := ⟨_, rfl⟩
  have HN : Hid (Rd.length = n) := hn
  have HM : Hid (Is.length = m) := hm
  rw [hn] at e1 l1
  rw [hm] at e2 l2
  subst e1 e2
  clear hd hi hb hn hm
  have HF : Hid (∀ v W, RZ kN W v (inL Rd Is) → Below w.heap.size w W → (fun (e : Ending) w' => ∃ v, e = .returned v ∧ RS kN w' v (inL Rd Is) ∧ Below w.heap.size w w') (.returned v) W) := fun v W h b => ⟨v, rfl, h.rs, b⟩
  generalize (fun (e : Ending) w' => ∃ v, e = .returned v ∧ RS kN w' v (inL Rd Is) ∧ Below w.heap.size w w') = P at *
  go_enter Try.func89, Try.ntmps89
  go_wp2_with fail
  go_loopw [5, 6] (fun ov i wr => ∃ q : Nat, i = .int .i64 (q : Int) ∧ q ≤ n ∧ (∃ a c, ov = .slice a q c) ∧ Hid (Below w.heap.size w wr) ∧ Hid (RZ kN wr ov ((List.range q).map (inX Rd Is))) ∧ Hid (∀ g, ov.ownBlock = some g → w.heap.size ≤ g)) (fun ov i _ => n - (intOf i).toNat)
  case atStart => exact ⟨0, rfl, Nat.zero_le _, ⟨_, _, rfl⟩, Below.refl _ _, RZ.nil _ _, fun g hg => by simp [Value.ownBlock] at hg⟩
  case round =>
    obtain ⟨q, rfl, hq, ⟨ao, co, rfl⟩, HB, HO, HW⟩ := hrel
    by_cases hlt : q < n
    · have d1 : decide (q < n) = true := by simp; omega
      have hq' : q < Rd.length := by rw [HN.out]; exact hlt
      generalize wr = wo at *
      go_wp2_with fail
      go_loopw [7, 8] (fun xv j wr => ∃ p : Nat, j = .int .i64 (p : Int) ∧ p ≤ m ∧ (∃ a k c, xv = .slice a k c) ∧ Hid (Below wo.heap.size wo wr) ∧ Hid (RZ kN wr xv (selI (Is.take p) (q : Int))) ∧ Hid (∀ g, xv.ownBlock = some g → wo.heap.size ≤ g)) (fun xv j _ => m - (intOf j).toNat)
      case atStart => exact ⟨0, rfl, Nat.zero_le _, ⟨_, _, _, rfl⟩, Below.refl _ _, RZ.nil _ _, fun g hg => by simp [Value.ownBlock] at hg⟩
      case round =>
        obtain ⟨p, rfl, hp, ⟨ax, kx, cx, rfl⟩, HB2, HX, HWX⟩ := hrel
        by_cases hltp : p < m
        · have d2 : decide (p < m) = true := by simp; omega
          have hp' : p < Is.length := by rw [HM.out]; exact hltp
          obtain ⟨b, bo, n', c', hg, hcl⟩ := (HI.out.below (HB.out.trans (HB2.out.mono HB.out.size))).cell hp'
          simp only [Value.slice.injEq] at hg
          obtain ⟨rfl, rfl, rfl⟩ := hg
          obtain ⟨⟨z0, z1⟩, hz⟩ : ∃ x, Is[p]'hp' = x := ⟨_, rfl⟩
          have HZ : Hid (Is[p]'hp' = (z0, z1)) := hz
          rw [hz] at hcl
          obtain ⟨y0, y1⟩ := duo_cells rfl rfl hcl
          have i1 : (0 : Int) ≤ (p : Int) := by omega
          have i2 : (p : Int) < (m : Int) := by omega
          have HS := selI_next Is (q : Int) p hp'
          rw [hz] at HS
          clear hcl hz
          by_cases hzq : z0 = (q : Int)
          · have d3 : (z0 == (q : Int)) = true := by simp [hzq]
            rw [if_pos hzq] at HS
            have HSS : Hid (selI (Is.take (p + 1)) (q : Int) = selI (Is.take p) (q : Int) ++ [z1]) := HS
            have HE : Hid (∀ A, RZ kN (wr.alloc A) (.slice ax kx cx) (selI (Is.take p) (q : Int))) := fun A => HX.out.below (bl1 wr A)
            have HP2 : Hid (RS kN (wr.alloc (.cells #[.int .i64 z1] 2)) (.slice (some ⟨wr.heap.size, 0, none⟩) 1 1) [z1]) := RS.one1 rfl rfl _ _ (by simp)
            have HL : Hid ((selI (Is.take p) (q : Int)).length + [z1].length ≤ 100000) := by
              show _ ≤ _
              have : (selI (Is.take p) (q : Int)).length ≤ (Is.take p).length := by unfold selI; rw [List.length_map]; exact List.length_filter_le _ _
              have h2 : (Is.take p).length ≤ p := by rw [List.length_take]; omega
              have h3 : [z1].length = 1 := rfl
              omega
            clear HS
            go_wp2_with (at_builtin; refine push_row kN _ rfl _ _ rfl _ _ (selI (Is.take p) (q : Int)) [z1] rfl rfl (HE.out _) HP2.out HL.out ?_)
            intro v5 w5 hz5 g5 ho5
            obtain ⟨B5, n5⟩ := push_more (V := wo) (HB2.out.alloc HB2.out.size _) HWX.out g5 ho5 (by have := HB2.out.size; first | omega | (simp; omega))
            obtain ⟨a8, k8, rfl⟩ := hz5.sl
            have HZ5 : Hid (RZ kN w5 (.slice a8 (selI (Is.take p) (q : Int) ++ [z1]).length k8) (selI (Is.take (p + 1)) (q : Int))) := by rw [HSS.out]; exact hz5
            have HN5 : Hid (∀ g, (Value.slice a8 (selI (Is.take p) (q : Int) ++ [z1]).length k8).ownBlock = some g → wo.heap.size ≤ g) := n5
            have HB5 : Hid (Below wo.heap.size wo w5) := B5
            clear hz5 g5 ho5 B5 n5 HE HP2 HL HB2 HX HWX HSS
            go_wp2_with fail
            go_roundw
            case rel => exact ⟨p + 1, by go_num, by omega, ⟨_, _, _, rfl⟩, HB5, HZ5, HN5⟩
            case measure => simp [intOf]; omega
          · have d3 : (z0 == (q : Int)) = false := by simp [hzq]
            rw [if_neg hzq] at HS
            have HSS : Hid (RZ kN wr (.slice ax kx cx) (selI (Is.take (p + 1)) (q : Int))) := by rw [HS]; exact HX.out
            clear HS HX
            go_wp2_with fail
            go_roundw
            case rel => exact ⟨p + 1, by go_num, by omega, ⟨_, _, _, rfl⟩, HB2, HSS, HWX⟩
            case measure => simp [intOf]; omega
        · have d2 : decide (p < m) = false := by simp; omega
          have hpm : p = m := by omega
          subst hpm
          have hT : Is.take p = Is := List.take_of_length_le (by rw [HM.out]; exact Nat.le_refl _)
          have HX2 : Hid (RZ kN wr (.slice ax kx cx) (selI Is (q : Int))) := by have := HX.out; rw [hT] at this; exact this
          have hb2 := HB.out.trans (HB2.out.mono HB.out.size)
          have HBW : Hid (Below w.heap.size w wr) := hb2
          obtain ⟨b, bo, n', c', hg, hcl⟩ := (HD.out.below hb2).cell hq'
          simp only [Value.slice.injEq] at hg
          obtain ⟨rfl, rfl, rfl⟩ := hg
          obtain ⟨⟨z0, z1⟩, hz⟩ : ∃ x, Rd[q]'hq' = x := ⟨_, rfl⟩
          have HZ : Hid (inX Rd Is q = foldI z0 (selI Is (q : Int))) := by show _ = _; unfold inX; rw [getD_at _ _ _ hq', hz]
          rw [hz] at hcl
          obtain ⟨y0, y1⟩ := duo_cells rfl rfl hcl
          have i1 : (0 : Int) ≤ (q : Int) := by omega
          have i2 : (q : Int) < (n : Int) := by omega
          have HFO : Hid (Calls Try.prog 103 #[.int .i64 z0, .slice ax kx cx] wr fun e w' => e = .returned (.int .i64 (foldI z0 (selI Is (q : Int)))) ∧ Below wr.heap.size wr w') := rfold_any z0 _ _ wr (selI_bd HBD.out _) HX2.out.rs.gsl
          have HO2 : Hid (RZ kN wr (.slice ao q co) ((List.range q).map (inX Rd Is))) := HO.out.below HB2.out
          have HNX : Hid ((List.range (q + 1)).map (inX Rd Is) = (List.range q).map (inX Rd Is) ++ [foldI z0 (selI Is (q : Int))]) := by show _ = _; rw [inL_next, HZ.out]
          clear hcl hz hq' hT hb2 HZ HX HX2 HB2 HWX HO HB
          generalize foldI z0 (selI Is (q : Int)) = fo at *
          go_wp2_with fail
          refine HFO.out.mono ?_
          rintro e w3 ⟨rfl, b3⟩
          have HBW3 : Hid (Below w.heap.size w w3) := HBW.out.trans (b3.mono HBW.out.size)
          have HE : Hid (∀ A, RZ kN (w3.alloc A) (.slice ao q co) ((List.range q).map (inX Rd Is))) := fun A => (HO2.out.below b3).below (bl1 w3 A)
          have HP2 : Hid (RS kN (w3.alloc (.cells #[.int .i64 fo] 2)) (.slice (some ⟨w3.heap.size, 0, none⟩) 1 1) [fo]) := RS.one1 rfl rfl _ _ (by simp)
          have HL : Hid (((List.range q).map (inX Rd Is)).length + [fo].length ≤ 100000) := by show _ ≤ _; rw [List.length_map, List.length_range]; show q + 1 ≤ _; omega
          clear b3 HO2 HBW HFO
          go_wp2_with (at_builtin; refine push_row kN _ rfl _ _ rfl _ _ ((List.range q).map (inX Rd Is)) [fo] rfl rfl (HE.out _) HP2.out HL.out ?_)
          intro v5 w5 hz5 g5 ho5
          obtain ⟨B5, n5⟩ := push_more (V := w) (HBW3.out.alloc HBW3.out.size _) HW.out g5 ho5 (by have := HBW3.out.size; first | omega | (simp; omega))
          obtain ⟨a8, k8, rfl⟩ := hz5.sl
          have hl8 : ((List.range q).map (inX Rd Is) ++ [fo]).length = q + 1 := by simp
          rw [hl8] at hz5 n5 ⊢
          have HZ5 : Hid (RZ kN w5 (.slice a8 (q + 1) k8) ((List.range (q + 1)).map (inX Rd Is))) := by rw [HNX.out]; exact hz5
          have HN5 : Hid (∀ g, (Value.slice a8 (q + 1) k8).ownBlock = some g → w.heap.size ≤ g) := n5
          have HB5 : Hid (Below w.heap.size w w5) := B5
          clear hz5 g5 ho5 B5 n5 HE HP2 HL HBW3 HNX hl8 HW
          go_wp2_with fail
          go_roundw
          case rel => exact ⟨q + 1, by go_num, by omega, ⟨_, _, rfl⟩, HB5, HZ5, HN5⟩
          case measure => simp [intOf]; omega
    · have d1 : decide (q < n) = false := by simp; omega
      have hqn : q = n := by omega
      subst hqn
      have HQ : Hid (P (.returned (.slice ao q co)) wr) := HF.out _ _ (by unfold inL; rw [HN.out]; exact HO.out) HB.out
      go_wp2
      first | exact HQ.out | (go_ret; exact HQ.out)
end Go.Proofs.Ytongeppdaeekeaa
