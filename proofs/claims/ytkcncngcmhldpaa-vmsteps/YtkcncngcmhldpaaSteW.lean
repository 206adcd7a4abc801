/- VmSteps: the walk. -/
import Derived.Test.YtkcncngcmhldpaaSteP
namespace Go.Proofs.Ytkcncngcmhldpaa
open Go.RowKit Go.Maps
set_option linter.unusedVariables false
attribute [local go_sem ↓] ld_hold
/-- a load of what is wanted that no step looks into -/
def ld35 (x : Value) : Sem Value := Instr.loadAt 35 x
@[local go_sem ↓] theorem ld35_hold (x : Value) : Instr.loadAt 35 x = ld35 x := rfl
theorem load35 {W : World} {g : Nat} {a : Array Value} (ha : a.size = 3) (h : W.heap[g]? = some (.cells a 35)) : (ld35 (.pointer (some ⟨g, 0, none⟩))).run Try.prog W = .ok (.agg a) W := by
  simp only [ld35, Instr.loadAt, Instr.sureAddr, Sem.run_bind, Sem.run_pure, Result.andThen_ok, run_loadVar_row W g 35 35 a _ _ h Try.underlying35 rfl (by rw [ha]; exact size35)]
theorem guard35 : Try.prog.eqGuardType Try.prog.depth 35 = false := by kernel_rfl
theorem eqg35 (T : Wt) (x y : Operand) (w : World) : (eqGuard .neq 35 x y (wtV T) (wtV T)).run Try.prog w = .ok () w := by
  unfold wtV
  simp [eqGuard]
/-- at each round's head -/
def StW (w : World) (vb g cap mb : Nat) (m : Fx) (C : List In) (v : Value) (words fuel : Int) (t : Nat) (i : Value) (wr : World) : Prop :=
  ∃ (k : Nat) (s : St) (ms : List Value), i = .int .i64 (k : Int) ∧ k ≤ t ∧ SI w wr vb g cap mb m C v words fuel s s ms

set_option maxRecDepth 100000 in
set_option maxHeartbeats 4000000 in
theorem steps_walk (C : List In) (v gv : Value) (G : List Int) (cells words fuel n i k steps : Int) (hn : R64 n) (hi : R64 i) (hk : R64 k) (hR : ∀ x ∈ C, R64 x.k) (hG : ∀ x ∈ G, R64 x) (w : World) (hv : ISl w v C) (hgv : GSl w gv G) : Calls Try.prog 3 #[.agg #[v, .int .i64 cells, .int .i64 words, .int .i64 fuel, .int .i64 n, .int .i64 i, .int .i64 k], gv, .int .i64 steps] w (TrueP w) := by
  have HMD : Hid (∀ W, Below w.heap.size w W → Calls Try.prog 8 #[.agg #[v, .int .i64 cells, .int .i64 words, .int .i64 fuel, .int .i64 n, .int .i64 i, .int .i64 k]] W (MadeP C v cells words fuel n i k W)) := fun W hb => made_any C v cells words fuel n i k W (hv.below hb)
  have HGV : Hid (GSl w gv G) := hgv
  have HIV : Hid (ISl w v C) := hv
  obtain ⟨ad, cp, vb0, vo0, rfl, hv2, hv3, hv4⟩ := hv
  obtain ⟨gad, gcp, gb0, go0, rfl, hg2, hg3, hg4⟩ := hgv
  obtain ⟨cl, hcl⟩ : ∃ cl, C.length = cl := ⟨_, rfl⟩
  have HCL : Hid (C.length = cl) := hcl
  obtain ⟨gl, hgl⟩ : ∃ gl, G.length = gl := ⟨_, rfl⟩
  have HGL : Hid (G.length = gl) := hgl
  rw [hcl] at HMD HIV hv2 ⊢
  rw [hgl] at HGV hg2 ⊢
  unfold maxLen at hv3 hg3
  clear hcl hgl hv4 hg4
  go_enter Try.func3, Try.ntmps3
  have HB1 : Hid (∀ o, Below w.heap.size w (w.alloc o)) := fun o => (Below.refl _ _).alloc (Nat.le_refl _) _
  by_cases hlong : 1000 < cl
  · have e23 : decide ((1000 : Int) < (cl : Int)) = true := by simp; omega
    go_wp2
    go_ret
    exact ⟨rfl, HB1.out _⟩
  have e23 : decide ((1000 : Int) < (cl : Int)) = false := by simp; omega
  go_wp2_with fail
  refine (HMD.out _ (HB1.out _)).mono ?_
  obtain ⟨W1, hW1⟩ : ∃ W1, w.alloc (Obj.cells #[Value.slice ad cl cp, Value.int IntKind.i64 cells, Value.int IntKind.i64 words, Value.int IntKind.i64 fuel, Value.int IntKind.i64 n, Value.int IntKind.i64 i, Value.int IntKind.i64 k] 24) = W1 := ⟨_, rfl⟩
  have HW1 : Hid (Below w.heap.size w W1) := by rw [← hW1]; exact HB1.out _
  rw [hW1]
  clear hW1
  rintro e w2 (⟨rfl, hb⟩ | ⟨vb, g, cap, m, rv, rfl, hr, hvb, hg, hm, hc, hrr, hb⟩)
  · have HB2 : Hid (Below w.heap.size w w2) := HW1.out.trans (hb.mono HW1.out.size)
    clear hb
    unfold mZ
    go_wp2_with (go_at_call 9; refine (alive_any _).mono ?_; rintro e w3 ⟨rfl, hb3⟩)
    go_ret
    exact ⟨rfl, (HB2.out.alloc HB2.out.size _).trans (hb3.mono (by have := HB2.out.size; simp; omega))⟩
  obtain ⟨hgood, _, hfu⟩ := newE_good hr
  have hmf : m.fuel = fuel := by rw [hm]
  have hmw : m.words = words := by rw [hm]
  have HC : Hid (Good C) := hgood
  have HO0 : Hid (Ok C fuel (St0 n i k)) := st0_ok (words := 0) hgood hfu hn hi hk
  have HM2 : Hid (MC w2 vb g cap m C (St0 n i k)) := hc
  have HB2 : Hid (Below w.heap.size w w2) := HW1.out.trans (hb.mono HW1.out.size)
  have hwv : w.heap.size ≤ vb := Nat.le_trans HW1.out.size hvb
  have HRR : Hid (RRg w2 rv (St0 n i k)) := hrr
  have HRr : Hid (∀ x ∈ C, R64 x.k) := hR
  have HGg : Hid (∀ x ∈ G, R64 x) := hG
  obtain ⟨r, hr1⟩ : ∃ r, Int.tmod steps 300 = r := ⟨_, rfl⟩
  have hr2 : -300 < r ∧ r < 300 := by rw [← hr1]; exact tmod_in steps 300 (by decide)
  obtain ⟨t, hr3, ht⟩ : ∃ t : Nat, Int.tmod (r + 300) 300 = t ∧ t < 300 := ⟨((r + 300) % 300).toNat, by rw [Int.tmod_eq_emod_of_nonneg (by omega)]; omega, by omega⟩
  obtain ⟨rb, rc, rfl, hr16, hrm, _⟩ := hrr
  clear hr hb hc hm hg
  unfold mV mC
  rw [show (St0 n i k).pc = 0 from rfl, show (St0 n i k).steps = 0 from rfl, show (St0 n i k).over = 0 from rfl, show (St0 n i k).value = 0 from rfl]
  go_wp2_with fail
  obtain ⟨W3, hW3⟩ : ∃ W3, w2.alloc (.cells #[Value.slice ad cl cp, .int .i64 words, .int .i64 fuel, .slice (some ⟨rb, 0, none⟩) 16 rc, .int .i64 0, .int .i64 0, .int .i64 0, .int .i64 0] 29) = W3 := ⟨_, rfl⟩
  obtain ⟨mb, hmb⟩ : ∃ mb, w2.heap.size = mb := ⟨_, rfl⟩
  have HI : Hid (StW w vb g cap mb m C (.slice ad cl cp) words fuel t (.int .i64 0) W3) := by
    have hbe : Below w2.heap.size w2 W3 := by rw [← hW3]; exact (Below.refl _ _).alloc (Nat.le_refl _) _
    refine ⟨0, St0 n i k, [Value.slice ad cl cp, .int .i64 words, .int .i64 fuel, .slice (some ⟨rb, 0, none⟩) 16 rc, .int .i64 0, .int .i64 0, .int .i64 0, .int .i64 0], rfl, Nat.zero_le _, HB2.out.trans (hbe.mono HB2.out.size), ⟨hwv, by rw [← hmb]; exact HB2.out.size⟩, HM2.out.below hbe, ⟨hmw, hmf⟩, HO0.out, HO0.out, rfl, HIV.out, HC.out, HRr.out, by rw [← hW3, ← hmb]; exact heap_alloc_new w2 _, ⟨_, HRR.out.below hbe, rfl⟩⟩
  rw [hW3, hmb]
  clear hW3 hmb HM2 HB2 HRR hrm hr16 HO0 hmf hmw hgood
  go_loopw [10] (fun i wr => StW w vb g cap mb m C (.slice ad cl cp) words fuel t i wr) (fun i _ => t - (intOf i).toNat)
  case atStart => exact HI.out
  case round =>
    obtain ⟨k', s, ms, rfl, hk', hS⟩ := hrel
    have HSI : Hid (SI w wr vb g cap mb m C (.slice ad cl cp) words fuel s s ms) := hS
    by_cases hlt : k' < t
    · have h13 : decide ((k' : Int) < (t : Int)) = true := by simp; omega
      obtain ⟨T, hT⟩ : ∃ T, wantS C words fuel s = T := ⟨_, rfl⟩
      have HTE : Hid (wantS C words fuel s = T) := hT
      have c6 := hS.c6
      obtain ⟨b, hb⟩ : ∃ b, (s.over == 0) = b := ⟨_, rfl⟩
      have HOB : Hid ((s.over == 0) = b) := hb
      have hbb : (b != b) = false := by cases b <;> rfl
      have HL8 : Hid ((Try.prog.info? 29).map (·.size) = some ms.length) := by show _ = _; rw [hS.l8]; exact size29
      have hS0 := hS.be
      clear hT hS hS0
      generalize s.over = o at c6 hb
      obtain ⟨z, hz⟩ : ∃ z, gotAt G k' = z := ⟨_, rfl⟩
      have HZR : Hid (R64 z) := by rw [← hz]; exact got_bd HGg.out k'
      rcases Nat.eq_zero_or_pos gl with h0 | h0
      · have hz0 : 0 = z := by rw [← hz]; unfold gotAt; rw [if_pos (HGL.out.trans h0)]
        subst hz0
        clear hz
        subst h0
        go_wp2_with (first | (refine wpList_load_mid rfl 29 _ rfl mb 0 rfl ms _ HSI.out.rng Try.underlying29 rfl HL8.out ?_) | (go_at_call 10; refine HSI.out.want10.mono ?_; rintro e w5 ⟨rfl, hb5⟩; have HS5 : Hid (SI w w5 vb g cap mb m C (.slice ad cl cp) words fuel s s ms) := HSI.out.below hb5; clear hb5; rw [HTE.out]; unfold wtV))
        have hvlt : vb < w5.heap.size := HS5.out.mc.vm.lt
        have hwne : w5.heap.size ≠ vb := by omega
        obtain ⟨W6, hW6⟩ : ∃ W6, w5.alloc (.cells #[Value.int .i64 T.kind, .int .i64 T.pos, .int .i64 T.value] 35) = W6 := ⟨_, rfl⟩
        have hk6 : W6.drew.heap[w5.heap.size]? = some (.cells #[Value.int .i64 T.kind, .int .i64 T.pos, .int .i64 T.value] 35) := by rw [← hW6]; exact heap_alloc_new w5 _
        have HS6 : Hid (SI w W6.drew vb g cap mb m C (.slice ad cl cp) words fuel s s ms) := by rw [← hW6]; exact (HS5.out.below ((Below.refl _ _).alloc (Nat.le_refl _) _)).drew
        have hld : ∀ w' : World, w'.heap[w5.heap.size]? = some (.cells #[Value.int .i64 T.kind, .int .i64 T.pos, .int .i64 T.value] 35) → (ld35 (.pointer (some ⟨w5.heap.size, 0, none⟩))).run Try.prog w' = .ok (wtV T) w' := fun w' h => load35 rfl h
        have hneq : ∀ w' : World, (binOp .neq 35 (wtV T) (wtV T)).run Try.prog w' = .ok (.bool false) w' := neq_wt T
        have hgd : ∀ (x y : Operand) (w' : World), (eqGuard .neq 35 x y (wtV T) (wtV T)).run Try.prog w' = .ok () w' := eqg35 T
        have HW7 : Hid (Calls Try.prog 11 #[.pointer (some ⟨vb, 0, none⟩)] W6.drew fun e V => e = .returned (wtV T) ∧ V.heap[w5.heap.size]? = some (.cells #[Value.int .i64 T.kind, .int .i64 T.pos, .int .i64 T.value] 35) ∧ SI w V vb g cap mb m C (.slice ad cl cp) words fuel s s ms) := HS6.out.want11.mono (by rintro e V ⟨rfl, hb⟩; exact ⟨by rw [HTE.out], blk_be hk6 hb, HS6.out.below hb⟩)
        have HW8 : Hid (∀ W, W.heap[w5.heap.size]? = some (.cells #[Value.int .i64 T.kind, .int .i64 T.pos, .int .i64 T.value] 35) → SI w W vb g cap mb m C (.slice ad cl cp) words fuel s s ms → Calls Try.prog 11 #[.pointer (some ⟨vb, 0, none⟩)] W fun e V => e = .returned (wtV T) ∧ V.heap[w5.heap.size]? = some (.cells #[Value.int .i64 T.kind, .int .i64 T.pos, .int .i64 T.value] 35) ∧ SI w V vb g cap mb m C (.slice ad cl cp) words fuel s s ms) := fun W hk h => h.want11.mono (by rintro e V ⟨rfl, hb⟩; exact ⟨by rw [HTE.out], blk_be hk hb, h.below hb⟩)
        have HW9 : Hid (∀ W, W.heap[w5.heap.size]? = some (.cells #[Value.int .i64 T.kind, .int .i64 T.pos, .int .i64 T.value] 35) → SI w W vb g cap mb m C (.slice ad cl cp) words fuel s s ms → Calls Try.prog 12 #[.pointer (some ⟨vb, 0, none⟩), .int .i64 0] W fun e V => e = .returned (.bool b) ∧ V.heap[w5.heap.size]? = some (.cells #[Value.int .i64 T.kind, .int .i64 T.pos, .int .i64 T.value] 35) ∧ SI w V vb g cap mb m C (.slice ad cl cp) words fuel (stepS C words fuel s 0) s ms) := fun W hk h => (h.step12 0 HZR.out).mono (by rintro e V ⟨rfl, hs, hc⟩; exact ⟨by rw [HOB.out], blk_ch hk hwne hc, hs⟩)
        rw [hW6]
        clear hW6
        go_region_held3 (fun w' => w'.heap[w5.heap.size]? = some (.cells #[Value.int .i64 T.kind, .int .i64 T.pos, .int .i64 T.value] 35)) (first | assumption | go_keep) (first | (go_at_call 11; refine HW7.out.mono ?_; rintro e w7 ⟨rfl, hk7, hs7⟩; have HS7 : Hid (SI w w7 vb g cap mb m C (.slice ad cl cp) words fuel s s ms) := hs7; clear hs7) | (go_at_call 11; refine (HW8.out w7 hk7 HS7.out).mono ?_; rintro e w8 ⟨rfl, hk8, hs8⟩; have HS8 : Hid (SI w w8 vb g cap mb m C (.slice ad cl cp) words fuel s s ms) := hs8; clear hs8) | (go_at_call 12; refine (HW9.out w8 hk8 HS8.out).mono ?_; rintro e w9 ⟨rfl, hk9, hs9⟩; have HS9 : Hid (SI w w9 vb g cap mb m C (.slice ad cl cp) words fuel (stepS C words fuel s 0) s ms) := hs9; clear hs9))
        have HST : Hid (Calls Try.prog 13 #[.agg ms.toArray, .int .i64 0] w9 fun e V => ∃ ms' : List Value, e = .returned (.agg ms'.toArray) ∧ ms'.length = 8 ∧ (∀ u ∈ ms', u.oneCell' = true) ∧ V.heap[mb]? = some (.cells ms.toArray 29) ∧ SI w (V.setRow mb ms'.toArray) vb g cap mb m C (.slice ad cl cp) words fuel (stepS C words fuel s 0) (stepS C words fuel s 0) ms') := HS9.out.step13 0 HZR.out
        clear hk6 hk7 hk8 hk9 hld hneq hgd HW7 HW8 HW9 hwne hvlt
        go_upto_region 18 with (first | (refine wpList_load_mid rfl 29 _ rfl mb 0 rfl ms _ HS9.out.rng Try.underlying29 rfl HL8.out ?_) | (go_at_call 13; refine HST.out.mono ?_; rintro e w10 ⟨ms', rfl, h8, ho, hblk, hs11⟩; have HBK : Hid (w10.heap[mb]? = some (.cells ms.toArray 29)) := hblk; have HS11 : Hid (SI w (w10.setRow mb ms'.toArray) vb g cap mb m C (.slice ad cl cp) words fuel (stepS C words fuel s 0) (stepS C words fuel s 0) ms') := hs11; have HO8 : Hid (ms'.toArray.all (·.oneCell') = true) := all_oneCell_toArray ho; have HI8 : Hid ((Try.prog.info? 29).map (·.size) = some ms'.toArray.size) := (by show _ = _; rw [List.size_toArray, h8]; exact size29); have HZ8 : Hid (ms.toArray.size = ms'.toArray.size) := (by show _ = _; rw [List.size_toArray, List.size_toArray, h8, HSI.out.l8]); clear h8 ho hblk hs11) | (refine wpList_store_row rfl 29 _ _ rfl mb ms'.toArray rfl rfl 29 _ HBK.out HI8.out HZ8.out HO8.out ?_))
        obtain ⟨W11, hW11⟩ : ∃ W11, w10.setRow mb ms'.toArray = W11 := ⟨_, rfl⟩
        rw [hW11] at HS11 ⊢
        clear hW11 HBK HO8 HI8 HZ8 HST
        obtain ⟨S', hS'⟩ : ∃ S', (stepS C words fuel s 0) = S' := ⟨_, rfl⟩
        rw [hS'] at HS11
        clear hS'
        have HEN : Hid (Calls Try.prog 14 #[.pointer (some ⟨vb, 0, none⟩)] W11 fun e w' => e = .returned (.tuple #[.int .i64 S'.over, .int .i64 S'.value]) ∧ ∃ n, w' = W11.drewN n) := endv_any vb m S' W11 HS11.out.mc.vm
        go_wp2_with (first | (go_at_call 14; refine HEN.out.mono ?_; rintro e w12 ⟨rfl, n12, rfl⟩))
        obtain ⟨W12, hW12⟩ : ∃ W12, W11.drewN n12 = W12 := ⟨_, rfl⟩
        have HS12 : Hid (SI w W12.drew vb g cap mb m C (.slice ad cl cp) words fuel S' S' ms') := by rw [← hW12]; exact (HS11.out.drewN n12).drew
        rw [hW12]
        clear hW12
        have hk12 : W12.drew.heap[mb]? = some (.cells ms'.toArray 29) ∧ W12.drew.cell? ⟨mb, 6, none⟩ = some (.int .i64 S'.over) ∧ W12.drew.cell? ⟨mb, 7, none⟩ = some (.int .i64 S'.value) := ⟨HS12.out.blk, HS12.out.c6, HS12.out.c7⟩
        have hld : ∀ w' : World, w'.heap[mb]? = some (.cells ms'.toArray 29) → (ld29 (.pointer (some ⟨mb, 0, none⟩))).run Try.prog w' = .ok (.agg ms'.toArray) w' := fun w' h => load8 (by rw [List.size_toArray]; exact HS12.out.l8) h
        have HW13 : Hid (Calls Try.prog 16 #[.pointer (some ⟨vb, 0, none⟩)] W12.drew fun e V => e = .returned (stV S') ∧ (V.heap[mb]? = some (.cells ms'.toArray 29) ∧ V.cell? ⟨mb, 6, none⟩ = some (.int .i64 S'.over) ∧ V.cell? ⟨mb, 7, none⟩ = some (.int .i64 S'.value)) ∧ SI w V vb g cap mb m C (.slice ad cl cp) words fuel S' S' ms') := (now_any vb m S' _ HS12.out.mc.vm).mono (by rintro e V ⟨rfl, hb⟩; have h := HS12.out.below hb; exact ⟨rfl, ⟨h.blk, h.c6, h.c7⟩, h⟩)
        have HW14 : Hid (∀ W, SI w W vb g cap mb m C (.slice ad cl cp) words fuel S' S' ms' → Calls Try.prog 15 #[stV S', .agg ms'.toArray] W fun e V => e = .returned (.bool true) ∧ (V.heap[mb]? = some (.cells ms'.toArray 29) ∧ V.cell? ⟨mb, 6, none⟩ = some (.int .i64 S'.over) ∧ V.cell? ⟨mb, 7, none⟩ = some (.int .i64 S'.value)) ∧ SI w V vb g cap mb m C (.slice ad cl cp) words fuel S' S' ms') := fun W h0 => h0.state15.mono (by rintro e V ⟨rfl, hb⟩; have h := h0.below hb; exact ⟨rfl, ⟨h.blk, h.c6, h.c7⟩, h⟩)
        generalize S'.over = so at *
        generalize S'.value = sv at *
        go_region_held3 (fun w' => w'.heap[mb]? = some (.cells ms'.toArray 29) ∧ w'.cell? ⟨mb, 6, none⟩ = some (.int .i64 so) ∧ w'.cell? ⟨mb, 7, none⟩ = some (.int .i64 sv)) (first | assumption | go_keep) (first | (go_at_call 16; refine HW13.out.mono ?_; rintro e w13 ⟨rfl, hk13, hs13⟩; have HS13 : Hid (SI w w13 vb g cap mb m C (.slice ad cl cp) words fuel S' S' ms') := hs13; clear hs13) | (go_at_call 15; refine (HW14.out w13 HS13.out).mono ?_; rintro e w14 ⟨rfl, hk14, hs14⟩; have HS14 : Hid (SI w w14 vb g cap mb m C (.slice ad cl cp) words fuel S' S' ms') := hs14; clear hs14))
        go_wp2_with fail
        go_roundw
        case rel => exact ⟨k' + 1, S', ms', by go_num, by omega, HS14.out⟩
        case measure => simp [intOf]; omega
      · obtain ⟨gb, go, had, hz2⟩ : ∃ gb go, gad = some ⟨gb, go, none⟩ ∧ w.cell? ⟨gb, go + k' % gl, none⟩ = some (.int .i64 z) := by
          obtain ⟨ad', cp', b', o', e1, _, _, e4, e5⟩ := HGV.out
          injection e1 with e6 e7 e8
          have hmod : k' % gl < gl := Nat.mod_lt _ h0
          refine ⟨b', o', e6.trans (e4 (by rw [HGL.out]; exact h0)), ?_⟩
          rw [e5 (k' % gl) (by rw [HGL.out]; exact hmod), ← hz]
          unfold gotAt
          rw [if_neg (by rw [HGL.out]; omega), List.getD, show k' % G.length = k' % gl by rw [HGL.out], List.getElem?_eq_getElem (by rw [HGL.out]; exact hmod)]
          rfl
        subst had
        have hz3 : wr.cell? ⟨gb, go + k' % gl, none⟩ = some (.int .i64 z) := (HSI.out.be.cell (p := ⟨gb, go + k' % gl, none⟩) (World.block_lt_of_cell? w ⟨gb, go + k' % gl, none⟩ hz2)).trans hz2
        have hmod : k' % gl < gl := Nat.mod_lt _ h0
        have hrem : Int.tmod (k' : Int) (gl : Int) = ((k' % gl : Nat) : Int) := by rw [Int.tmod_eq_emod_of_nonneg (by omega)]; rfl
        have hN0 : (gl : Int) ≠ 0 := by omega
        have h18 : decide ((0 : Int) < (gl : Int)) = true := by simp; omega
        generalize hq : k' % gl = q at hmod hrem hz3
        clear hz hz2
        go_wp2_with (first | (refine wpList_load_mid rfl 29 _ rfl mb 0 rfl ms _ HSI.out.rng Try.underlying29 rfl HL8.out ?_) | (go_at_call 10; refine HSI.out.want10.mono ?_; rintro e w5 ⟨rfl, hb5⟩; have HS5 : Hid (SI w w5 vb g cap mb m C (.slice ad cl cp) words fuel s s ms) := HSI.out.below hb5; clear hb5; rw [HTE.out]; unfold wtV))
        have hvlt : vb < w5.heap.size := HS5.out.mc.vm.lt
        have hwne : w5.heap.size ≠ vb := by omega
        obtain ⟨W6, hW6⟩ : ∃ W6, w5.alloc (.cells #[Value.int .i64 T.kind, .int .i64 T.pos, .int .i64 T.value] 35) = W6 := ⟨_, rfl⟩
        have hk6 : W6.drew.heap[w5.heap.size]? = some (.cells #[Value.int .i64 T.kind, .int .i64 T.pos, .int .i64 T.value] 35) := by rw [← hW6]; exact heap_alloc_new w5 _
        have HS6 : Hid (SI w W6.drew vb g cap mb m C (.slice ad cl cp) words fuel s s ms) := by rw [← hW6]; exact (HS5.out.below ((Below.refl _ _).alloc (Nat.le_refl _) _)).drew
        have hld : ∀ w' : World, w'.heap[w5.heap.size]? = some (.cells #[Value.int .i64 T.kind, .int .i64 T.pos, .int .i64 T.value] 35) → (ld35 (.pointer (some ⟨w5.heap.size, 0, none⟩))).run Try.prog w' = .ok (wtV T) w' := fun w' h => load35 rfl h
        have hneq : ∀ w' : World, (binOp .neq 35 (wtV T) (wtV T)).run Try.prog w' = .ok (.bool false) w' := neq_wt T
        have hgd : ∀ (x y : Operand) (w' : World), (eqGuard .neq 35 x y (wtV T) (wtV T)).run Try.prog w' = .ok () w' := eqg35 T
        have HW7 : Hid (Calls Try.prog 11 #[.pointer (some ⟨vb, 0, none⟩)] W6.drew fun e V => e = .returned (wtV T) ∧ V.heap[w5.heap.size]? = some (.cells #[Value.int .i64 T.kind, .int .i64 T.pos, .int .i64 T.value] 35) ∧ SI w V vb g cap mb m C (.slice ad cl cp) words fuel s s ms) := HS6.out.want11.mono (by rintro e V ⟨rfl, hb⟩; exact ⟨by rw [HTE.out], blk_be hk6 hb, HS6.out.below hb⟩)
        have HW8 : Hid (∀ W, W.heap[w5.heap.size]? = some (.cells #[Value.int .i64 T.kind, .int .i64 T.pos, .int .i64 T.value] 35) → SI w W vb g cap mb m C (.slice ad cl cp) words fuel s s ms → Calls Try.prog 11 #[.pointer (some ⟨vb, 0, none⟩)] W fun e V => e = .returned (wtV T) ∧ V.heap[w5.heap.size]? = some (.cells #[Value.int .i64 T.kind, .int .i64 T.pos, .int .i64 T.value] 35) ∧ SI w V vb g cap mb m C (.slice ad cl cp) words fuel s s ms) := fun W hk h => h.want11.mono (by rintro e V ⟨rfl, hb⟩; exact ⟨by rw [HTE.out], blk_be hk hb, h.below hb⟩)
        have HW9 : Hid (∀ W, W.heap[w5.heap.size]? = some (.cells #[Value.int .i64 T.kind, .int .i64 T.pos, .int .i64 T.value] 35) → SI w W vb g cap mb m C (.slice ad cl cp) words fuel s s ms → Calls Try.prog 12 #[.pointer (some ⟨vb, 0, none⟩), .int .i64 z] W fun e V => e = .returned (.bool b) ∧ V.heap[w5.heap.size]? = some (.cells #[Value.int .i64 T.kind, .int .i64 T.pos, .int .i64 T.value] 35) ∧ SI w V vb g cap mb m C (.slice ad cl cp) words fuel (stepS C words fuel s z) s ms) := fun W hk h => (h.step12 z HZR.out).mono (by rintro e V ⟨rfl, hs, hc⟩; exact ⟨by rw [HOB.out], blk_ch hk hwne hc, hs⟩)
        rw [hW6]
        clear hW6
        go_region_held3 (fun w' => w'.heap[w5.heap.size]? = some (.cells #[Value.int .i64 T.kind, .int .i64 T.pos, .int .i64 T.value] 35)) (first | assumption | go_keep) (first | (go_at_call 11; refine HW7.out.mono ?_; rintro e w7 ⟨rfl, hk7, hs7⟩; have HS7 : Hid (SI w w7 vb g cap mb m C (.slice ad cl cp) words fuel s s ms) := hs7; clear hs7) | (go_at_call 11; refine (HW8.out w7 hk7 HS7.out).mono ?_; rintro e w8 ⟨rfl, hk8, hs8⟩; have HS8 : Hid (SI w w8 vb g cap mb m C (.slice ad cl cp) words fuel s s ms) := hs8; clear hs8) | (go_at_call 12; refine (HW9.out w8 hk8 HS8.out).mono ?_; rintro e w9 ⟨rfl, hk9, hs9⟩; have HS9 : Hid (SI w w9 vb g cap mb m C (.slice ad cl cp) words fuel (stepS C words fuel s z) s ms) := hs9; clear hs9))
        have HST : Hid (Calls Try.prog 13 #[.agg ms.toArray, .int .i64 z] w9 fun e V => ∃ ms' : List Value, e = .returned (.agg ms'.toArray) ∧ ms'.length = 8 ∧ (∀ u ∈ ms', u.oneCell' = true) ∧ V.heap[mb]? = some (.cells ms.toArray 29) ∧ SI w (V.setRow mb ms'.toArray) vb g cap mb m C (.slice ad cl cp) words fuel (stepS C words fuel s z) (stepS C words fuel s z) ms') := HS9.out.step13 z HZR.out
        clear hk6 hk7 hk8 hk9 hld hneq hgd HW7 HW8 HW9 hwne hvlt
        go_upto_region 18 with (first | (refine wpList_load_mid rfl 29 _ rfl mb 0 rfl ms _ HS9.out.rng Try.underlying29 rfl HL8.out ?_) | (go_at_call 13; refine HST.out.mono ?_; rintro e w10 ⟨ms', rfl, h8, ho, hblk, hs11⟩; have HBK : Hid (w10.heap[mb]? = some (.cells ms.toArray 29)) := hblk; have HS11 : Hid (SI w (w10.setRow mb ms'.toArray) vb g cap mb m C (.slice ad cl cp) words fuel (stepS C words fuel s z) (stepS C words fuel s z) ms') := hs11; have HO8 : Hid (ms'.toArray.all (·.oneCell') = true) := all_oneCell_toArray ho; have HI8 : Hid ((Try.prog.info? 29).map (·.size) = some ms'.toArray.size) := (by show _ = _; rw [List.size_toArray, h8]; exact size29); have HZ8 : Hid (ms.toArray.size = ms'.toArray.size) := (by show _ = _; rw [List.size_toArray, List.size_toArray, h8, HSI.out.l8]); clear h8 ho hblk hs11) | (refine wpList_store_row rfl 29 _ _ rfl mb ms'.toArray rfl rfl 29 _ HBK.out HI8.out HZ8.out HO8.out ?_))
        obtain ⟨W11, hW11⟩ : ∃ W11, w10.setRow mb ms'.toArray = W11 := ⟨_, rfl⟩
        rw [hW11] at HS11 ⊢
        clear hW11 HBK HO8 HI8 HZ8 HST
        obtain ⟨S', hS'⟩ : ∃ S', (stepS C words fuel s z) = S' := ⟨_, rfl⟩
        rw [hS'] at HS11
        clear hS'
        have HEN : Hid (Calls Try.prog 14 #[.pointer (some ⟨vb, 0, none⟩)] W11 fun e w' => e = .returned (.tuple #[.int .i64 S'.over, .int .i64 S'.value]) ∧ ∃ n, w' = W11.drewN n) := endv_any vb m S' W11 HS11.out.mc.vm
        go_wp2_with (first | (go_at_call 14; refine HEN.out.mono ?_; rintro e w12 ⟨rfl, n12, rfl⟩))
        obtain ⟨W12, hW12⟩ : ∃ W12, W11.drewN n12 = W12 := ⟨_, rfl⟩
        have HS12 : Hid (SI w W12.drew vb g cap mb m C (.slice ad cl cp) words fuel S' S' ms') := by rw [← hW12]; exact (HS11.out.drewN n12).drew
        rw [hW12]
        clear hW12
        have hk12 : W12.drew.heap[mb]? = some (.cells ms'.toArray 29) ∧ W12.drew.cell? ⟨mb, 6, none⟩ = some (.int .i64 S'.over) ∧ W12.drew.cell? ⟨mb, 7, none⟩ = some (.int .i64 S'.value) := ⟨HS12.out.blk, HS12.out.c6, HS12.out.c7⟩
        have hld : ∀ w' : World, w'.heap[mb]? = some (.cells ms'.toArray 29) → (ld29 (.pointer (some ⟨mb, 0, none⟩))).run Try.prog w' = .ok (.agg ms'.toArray) w' := fun w' h => load8 (by rw [List.size_toArray]; exact HS12.out.l8) h
        have HW13 : Hid (Calls Try.prog 16 #[.pointer (some ⟨vb, 0, none⟩)] W12.drew fun e V => e = .returned (stV S') ∧ (V.heap[mb]? = some (.cells ms'.toArray 29) ∧ V.cell? ⟨mb, 6, none⟩ = some (.int .i64 S'.over) ∧ V.cell? ⟨mb, 7, none⟩ = some (.int .i64 S'.value)) ∧ SI w V vb g cap mb m C (.slice ad cl cp) words fuel S' S' ms') := (now_any vb m S' _ HS12.out.mc.vm).mono (by rintro e V ⟨rfl, hb⟩; have h := HS12.out.below hb; exact ⟨rfl, ⟨h.blk, h.c6, h.c7⟩, h⟩)
        have HW14 : Hid (∀ W, SI w W vb g cap mb m C (.slice ad cl cp) words fuel S' S' ms' → Calls Try.prog 15 #[stV S', .agg ms'.toArray] W fun e V => e = .returned (.bool true) ∧ (V.heap[mb]? = some (.cells ms'.toArray 29) ∧ V.cell? ⟨mb, 6, none⟩ = some (.int .i64 S'.over) ∧ V.cell? ⟨mb, 7, none⟩ = some (.int .i64 S'.value)) ∧ SI w V vb g cap mb m C (.slice ad cl cp) words fuel S' S' ms') := fun W h0 => h0.state15.mono (by rintro e V ⟨rfl, hb⟩; have h := h0.below hb; exact ⟨rfl, ⟨h.blk, h.c6, h.c7⟩, h⟩)
        generalize S'.over = so at *
        generalize S'.value = sv at *
        go_region_held3 (fun w' => w'.heap[mb]? = some (.cells ms'.toArray 29) ∧ w'.cell? ⟨mb, 6, none⟩ = some (.int .i64 so) ∧ w'.cell? ⟨mb, 7, none⟩ = some (.int .i64 sv)) (first | assumption | go_keep) (first | (go_at_call 16; refine HW13.out.mono ?_; rintro e w13 ⟨rfl, hk13, hs13⟩; have HS13 : Hid (SI w w13 vb g cap mb m C (.slice ad cl cp) words fuel S' S' ms') := hs13; clear hs13) | (go_at_call 15; refine (HW14.out w13 HS13.out).mono ?_; rintro e w14 ⟨rfl, hk14, hs14⟩; have HS14 : Hid (SI w w14 vb g cap mb m C (.slice ad cl cp) words fuel S' S' ms') := hs14; clear hs14))
        go_wp2_with fail
        go_roundw
        case rel => exact ⟨k' + 1, S', ms', by go_num, by omega, HS14.out⟩
        case measure => simp [intOf]; omega
    · have h13 : decide ((k' : Int) < (t : Int)) = false := by simp; omega
      clear hS
      go_wp2_with (go_at_call 9; refine (alive_any _).mono ?_; rintro e w3 ⟨rfl, hb3⟩)
      go_ret
      exact ⟨rfl, HSI.out.be.trans (hb3.mono HSI.out.be.size)⟩
end Go.Proofs.Ytkcncngcmhldpaa
