/- The document's graph: what goes; a new one. -/
import Derived.Test.YtongeppdaeekeaaGfA
namespace Go.Proofs.Ytongeppdaeekeaa
open Go.RowKit Go.Maps
set_option linter.unusedVariables false

theorem remS_next (L : Ed) (age : Int) (q : Nat) (hq : q < L.length) : remS (L.take (q + 1)) age = remS (L.take q) age ++ (if isA age (L[q]'hq) then [] else [L[q]'hq]) := by
  unfold remS
  rw [List.take_succ_eq_append_getElem hq, List.filter_append]
  congr 1
  cases h : isA age (L[q]'hq) <;> simp [h]
theorem remS_le (L : Ed) (age : Int) : (remS L age).length ≤ L.length := List.length_filter_le _ _
set_option maxRecDepth 100000 in
set_option maxHeartbeats 8000000 in
theorem rrem_any {w : World} {v : Value} {L : Ed} (h : RS kF w v L) (hl : L.length ≤ 600) (dr age : Int) : Calls Try.prog 70 #[.agg #[.int .i64 dr, v], .int .i64 age] w (GDQ w dr v (remS L age) (.int .i64 ((L.length : Int) - ((remS L age).length : Int)))) := by
  obtain ⟨a, c, e⟩ := h.form
  obtain ⟨n, hn⟩ : ∃ n, L.length = n := ⟨_, rfl⟩
  have HN : Hid (L.length = n) := hn
  have HLE : Hid (∀ q, (remS (L.take q) age).length ≤ q) := fun q => by
    have h1 := remS_le (L.take q) age
    rw [List.length_take] at h1
    omega
  rw [hn] at e hl ⊢
  subst e
  obtain ⟨V, g, hg, hV, hb⟩ := gboxes w dr (.slice a n c)
  have HV : Hid _ := hV
  have HGG : Hid (w.heap.size = g) := hg
  have HB : Hid (BG w V g (g + 1) dr (.slice a n c)) := hb
  have HX : Hid (∀ W, Below w.heap.size w W → RS kF W (.slice a n c) L) := fun W hW => h.below hW
  obtain ⟨P, hP⟩ : ∃ P, GDQ w dr (.slice a n c) (remS L age) (.int .i64 ((n : Int) - ((remS L age).length : Int))) = P := ⟨_, rfl⟩
  have HPP : Hid (GDQ w dr (.slice a n c) (remS L age) (.int .i64 ((n : Int) - ((remS L age).length : Int))) = P) := hP
  rw [hP]
  clear hP hV hg hn hb h
  go_enter Try.func70, Try.ntmps70
  go_upto_region 1 with fail
  rw [HV.out, HGG.out]
  clear HV HGG
  go_wp2_with fail
  go_loopw [6, 7] (fun lv iv wr => ∃ q m : Nat, iv = .int .i64 (q : Int) ∧ q ≤ n ∧ (∃ a c, lv = .slice a m c) ∧ Hid ((remS (L.take q) age).length = m) ∧ Hid (Below V.heap.size V wr) ∧ Hid (RZ kF wr lv (remS (L.take q) age)) ∧ Hid (∀ g, lv.ownBlock = some g → V.heap.size ≤ g)) (fun _ iv _ => n - (intOf iv).toNat)
  case atStart => exact ⟨0, 0, rfl, Nat.zero_le _, ⟨_, _, rfl⟩, rfl, Below.refl _ _, RZ.nil _ _, fun g hg => by simp [Value.ownBlock] at hg⟩
  case round =>
    obtain ⟨q, m, rfl, hq, ⟨al, cl, rfl⟩, HLM, HBL, HZ, HW⟩ := hrel
    have HBW : Hid (BG w wr g (g + 1) dr (.slice a n c)) := HB.out.below HBL.out
    obtain ⟨b0, b1⟩ := HBW.out.c0
    by_cases hlt : q < n
    · have d1 : decide (q < n) = true := decide_eq_true hlt
      have hq' : q < L.length := by rw [HN.out]; exact hlt
      obtain ⟨b, bo, n', c', hg, hcl⟩ := (HX.out wr HBW.out.bl).cell hq'
      simp only [Value.slice.injEq] at hg
      obtain ⟨rfl, rfl, rfl⟩ := hg
      obtain ⟨⟨z0, z1⟩, hz⟩ : ∃ x, L[q]'hq' = x := ⟨_, rfl⟩
      have hnx := remS_next L age q hq'
      rw [hz] at hcl hnx
      obtain ⟨y0, y1⟩ := duo_cells rfl rfl hcl
      have i1 : (0 : Int) ≤ (q : Int) := by omega
      have i2 : (q : Int) < (n : Int) := by omega
      by_cases h0 : z0 = age
      · have t0 : (z0 == age) = true := by simp [h0]
        have t0' : (z0 != age) = false := by simp [h0]
        have HNX : Hid (remS (L.take (q + 1)) age = remS (L.take q) age) := by
          show _ = _
          have : isA age (z0, z1) = true := by unfold isA; rw [t0]; rfl
          rw [hnx, this, if_pos rfl, List.append_nil]
        have HZ2 : Hid (RZ kF wr (.slice al m cl) (remS (L.take (q + 1)) age)) := by rw [HNX.out]; exact HZ.out
        have HLM2 : Hid ((remS (L.take (q + 1)) age).length = m) := by rw [HNX.out]; exact HLM.out
        clear h0 hz hcl hq' hnx HZ HLM HNX
        go_wp2_with fail
        go_roundw
        case rel => exact ⟨q + 1, m, by go_num, by omega, ⟨_, _, rfl⟩, HLM2, HBL, HZ2, HW⟩
        case measure => simp [intOf]; omega
      · have t0 : (z0 == age) = false := by simp [h0]
        have t0' : (z0 != age) = true := by simp [h0]
        by_cases h1 : z1 = age
        · have t1 : (z1 == age) = true := by simp [h1]
          have t1' : (z1 != age) = false := by simp [h1]
          have HNX : Hid (remS (L.take (q + 1)) age = remS (L.take q) age) := by
            show _ = _
            have : isA age (z0, z1) = true := by unfold isA; rw [t0, t1]; rfl
            rw [hnx, this, if_pos rfl, List.append_nil]
          have HZ2 : Hid (RZ kF wr (.slice al m cl) (remS (L.take (q + 1)) age)) := by rw [HNX.out]; exact HZ.out
          have HLM2 : Hid ((remS (L.take (q + 1)) age).length = m) := by rw [HNX.out]; exact HLM.out
          clear h0 h1 hz hcl hq' hnx HZ HLM HNX
          go_wp2_with fail
          go_roundw
          case rel => exact ⟨q + 1, m, by go_num, by omega, ⟨_, _, rfl⟩, HLM2, HBL, HZ2, HW⟩
          case measure => simp [intOf]; omega
        · have t1 : (z1 == age) = false := by simp [h1]
          have t1' : (z1 != age) = true := by simp [h1]
          have HNX : Hid (remS (L.take (q + 1)) age = remS (L.take q) age ++ [(z0, z1)]) := by
            show _ = _
            have : isA age (z0, z1) = false := by unfold isA; rw [t0, t1]; rfl
            rw [hnx, this]; rfl
          have HE : Hid (∀ A, RZ kF (wr.alloc A) (.slice al m cl) (remS (L.take q) age)) := fun A => HZ.out.below (bl1 wr A)
          have HP2 : Hid (RS kF (wr.alloc (.cells #[.int .i64 z0, .int .i64 z1] 91)) (.slice (some ⟨wr.heap.size, 0, none⟩) 1 1) [(z0, z1)]) := edge_rf wr z0 z1
          have HL : Hid ((remS (L.take q) age).length + [(z0, z1)].length ≤ 100000) := by show _ ≤ _; have := HLE.out q; show _ + 1 ≤ _; omega
          clear h0 h1 hz hcl hq' hnx HZ
          go_wp2_with (at_builtin; refine push_row kF _ rfl _ _ rfl _ _ (remS (L.take q) age) [(z0, z1)] rfl rfl (HE.out _) HP2.out HL.out ?_)
          intro v5 w5 hz5 g5 ho5
          obtain ⟨B5, n5⟩ := pushZ_more (V := V) (HBL.out.alloc HBL.out.size _) HW.out g5 ho5 (by have := HBL.out.size; first | omega | (simp; omega))
          obtain ⟨a8, k8, rfl⟩ := hz5.sl
          have hl8 : (remS (L.take q) age ++ [(z0, z1)]).length = m + 1 := by rw [List.length_append, HLM.out]; rfl
          rw [hl8] at hz5 n5 ⊢
          have HZ5 : Hid (RZ kF w5 (.slice a8 (m + 1) k8) (remS (L.take (q + 1)) age)) := by rw [HNX.out]; exact hz5
          have HLM5 : Hid ((remS (L.take (q + 1)) age).length = m + 1) := by rw [HNX.out]; exact hl8
          have HN5 : Hid (∀ g, (Value.slice a8 (m + 1) k8).ownBlock = some g → V.heap.size ≤ g) := n5
          have HB5 : Hid (Below V.heap.size V w5) := B5
          clear hz5 g5 ho5 B5 n5 HE HP2 HL HBL HNX hl8 HW HLM y0 y1 HBW b0 b1
          go_wp2_with fail
          go_roundw
          case rel => exact ⟨q + 1, m + 1, by go_num, by omega, ⟨_, _, rfl⟩, HLM5, HB5, HZ5, HN5⟩
          case measure => simp [intOf]; omega
    · have d1 : decide (q < n) = false := decide_eq_false hlt
      have hqn : q = n := by omega
      subst hqn
      have HT : L.take q = L := List.take_of_length_le (by rw [HN.out]; exact Nat.le_refl _)
      have hle := HLE.out q
      rw [HLM.out] at hle
      rw [HT] at HLM HZ
      obtain ⟨d, hd⟩ : ∃ d, q - m = d := ⟨_, rfl⟩
      have q0 : (q : Int) - (m : Int) = (d : Int) := by omega
      have w0 : IntKind.i64.wrap (d : Int) = (d : Int) := by rw [IntKind.wrap_i64]; omega
      have w0' : wrap64 (d : Int) = (d : Int) := w64in _ (by omega)
      have HB6 : Hid (BG w (wr.setCell ⟨g, 1, none⟩ (.slice al m cl)) g (g + 1) dr (.slice al m cl)) := HBW.out.set _
      have xf := (HBW.out.f 1).1
      have HFI : Hid (∀ W, wr.setCell ⟨g, 1, none⟩ (.slice al m cl) = W → P (.returned (.tuple #[.agg #[.int .i64 dr, .slice al m cl], .int .i64 (d : Int)])) (put2W W (g + 1) (.int .i64 dr) (.slice al m cl))) := by
        rintro W rfl
        show P _ _
        rw [← HPP.out, HLM.out, q0]
        refine HB6.out.fin (fun W hW hk => ?_) (FG.new fun g h => Nat.le_trans HB.out.bl.size (HW.out g h)) _ _ _
        refine (HZ.out.keep fun g' hg' => ?_).rs
        have h1 := HW.out g' hg'
        have h2 := HB.out.sz
        rw [hk g' (by omega)]
        exact Below.heap_setCell _ _ _ _ (by show g' ≠ g; omega)
      have HC : Hid (∀ W, wr.setCell ⟨g, 1, none⟩ (.slice al m cl) = W → BG w W g (g + 1) dr (.slice al m cl)) := by rintro W rfl; exact HB6.out
      clear HT hd hle HZ HLM HW HBL
      go_upto_region 9 with fail
      generalize hW : wr.setCell ⟨g, 1, none⟩ (.slice al m cl) = W at *
      have HF2 := HFI.out W rfl
      have HB2 := HC.out W rfl
      clear b0 b1
      obtain ⟨b0, b1⟩ := HB2.c0
      obtain ⟨y0, y1⟩ := HB2.c1
      have f0 := (HB2.f 0).2
      have f1 := (HB2.f 1).2
      have HB3 : Hid (W.heap[g + 1]? = some (.cells #[.int .i64 0, .slice none 0 0] 72)) := HB2.b1
      have HF3 : Hid (P (.returned (.tuple #[.agg #[.int .i64 dr, .slice al m cl], .int .i64 (d : Int)])) (put2W W (g + 1) (.int .i64 dr) (.slice al m cl))) := HF2
      clear HB2 HF2
      go_wp2_with fail
      refine bodyPost_ret (ret_G2 Try.results70 _ (g + 1) rfl _ _ _ (put2V HB3.out)) rfl ?_
      exact HF3.out
/-- a new one -/
def RNewQ (room : Int) (w : World) (e : Ending) (w' : World) : Prop := Below w.heap.size w w' ∧ (((room < 1 ∨ 512 < room) ∧ e = .returned (.tuple #[.agg #[.int .i64 0, .slice none 0 0], .int .i64 161])) ∨ ((1 ≤ room ∧ room ≤ 512) ∧ e = .returned (.tuple #[.agg #[.int .i64 room, .slice none 0 0], .int .i64 0])))
set_option maxRecDepth 100000 in
set_option maxHeartbeats 4000000 in
theorem rnew_any (room : Int) (w : World) : Calls Try.prog 26 #[.int .i64 room] w (RNewQ room w) := by
  obtain ⟨V, hV⟩ : ∃ V, w.alloc (.cells #[.int .i64 0, .slice none 0 0] 72) = V := ⟨_, rfl⟩
  obtain ⟨g, hg⟩ : ∃ g, w.heap.size = g := ⟨_, rfl⟩
  have hb : V.heap[g]? = some (.cells #[.int .i64 0, .slice none 0 0] 72) := by rw [← hV, ← hg]; exact heap_alloc_new _ _
  have hbw : Below w.heap.size w V := by rw [← hV]; exact bl1 w _
  have HVV : Hid _ := hV
  have HGG : Hid (w.heap.size = g) := hg
  have HB : Hid (V.heap[g]? = some (.cells #[.int .i64 0, .slice none 0 0] 72)) := hb
  have y0 : V.cell? ⟨g, 0, none⟩ = some (.int .i64 0) := by rw [cell_of_row V g _ _ _ _ hb]; rfl
  have y1 : V.cell? ⟨g, 1, none⟩ = some (.slice none 0 0) := by rw [cell_of_row V g _ _ _ _ hb]; rfl
  have f0 : V.frozen? ⟨g, 0, none⟩ = false := frozen_of_row V g 0 _ _ hb
  have f1 : V.frozen? ⟨g, 1, none⟩ = false := frozen_of_row V g 1 _ _ hb
  have HNO : Hid ((room < 1 ∨ 512 < room) → ∀ a0 a1, RNewQ room w (.returned (.tuple #[.agg #[.int .i64 0, .slice none 0 0], .int .i64 161])) (put2W V g a0 a1)) := fun h a0 a1 => ⟨below2 hbw (by omega) _ _, .inl ⟨h, rfl⟩⟩
  have HOK : Hid ((1 ≤ room ∧ room ≤ 512) → ∀ a0 a1, RNewQ room w (.returned (.tuple #[.agg #[.int .i64 room, .slice none 0 0], .int .i64 0])) (put2W V g a0 a1)) := fun h a0 a1 => ⟨below2 hbw (by omega) _ _, .inr ⟨h, rfl⟩⟩
  clear hV hg hb hbw
  generalize RNewQ room w = P at *
  by_cases h1 : room < 1
  · have t1 : decide (room < 1) = true := decide_eq_true h1
    have HR : Hid (∀ a0 a1, P (.returned (.tuple #[.agg #[.int .i64 0, .slice none 0 0], .int .i64 161])) (put2W V g a0 a1)) := HNO.out (.inl h1)
    clear h1 HNO HOK
    go_enter Try.func26, Try.ntmps26
    go_upto_region 1 with fail
    rw [HVV.out, HGG.out]
    go_wp2_with fail
    refine bodyPost_ret (ret_G2 Try.results26 _ g rfl _ _ _ (put2V HB.out)) rfl ?_
    exact HR.out _ _
  · have t1 : decide (room < 1) = false := decide_eq_false h1
    by_cases h2 : 512 < room
    · have t2 : decide (512 < room) = true := decide_eq_true h2
      have HR : Hid (∀ a0 a1, P (.returned (.tuple #[.agg #[.int .i64 0, .slice none 0 0], .int .i64 161])) (put2W V g a0 a1)) := HNO.out (.inr h2)
      clear h1 h2 HNO HOK
      go_enter Try.func26, Try.ntmps26
      go_upto_region 1 with fail
      rw [HVV.out, HGG.out]
      go_wp2_with fail
      refine bodyPost_ret (ret_G2 Try.results26 _ g rfl _ _ _ (put2V HB.out)) rfl ?_
      exact HR.out _ _
    · have t2 : decide (512 < room) = false := decide_eq_false h2
      have HR : Hid (∀ a0 a1, P (.returned (.tuple #[.agg #[.int .i64 room, .slice none 0 0], .int .i64 0])) (put2W V g a0 a1)) := HOK.out (by omega)
      clear h1 h2 HNO HOK
      go_enter Try.func26, Try.ntmps26
      go_upto_region 1 with fail
      rw [HVV.out, HGG.out]
      go_wp2_with fail
      refine bodyPost_ret (ret_G2 Try.results26 _ g rfl _ _ _ (put2V HB.out)) rfl ?_
      exact HR.out _ _
end Go.Proofs.Ytongeppdaeekeaa
