/- A word was read of the world, in the document's log. -/
import Derived.Test.YtongeppdaeekeaaDfF
import Derived.Test.YtongeppdaeekeaaAtF
import Derived.Deep.RegionLaw
namespace Go.Proofs.Ytongeppdaeekeaa
open Go.RowKit Go.Maps
set_option linter.unusedVariables false

theorem boxes3 (w : World) (d : Dg) (dv rv wv ov iv : Value) (A : Obj) : ∃ V g, w.heap.size = g ∧ ((w.alloc (.cells #[.int .i64 d.R, .int .i64 d.W, .int .i64 d.O, dv, rv, wv, ov, iv] 35)).alloc A).alloc (.cells #[.int .i64 0, .int .i64 0, .int .i64 0, .slice none 0 0, .slice none 0 0, .slice none 0 0, .slice none 0 0, .slice none 0 0] 35) = V ∧ BX w V g (g + 1 + 1) d dv rv wv ov iv ∧ V.heap[g + 1]? = some A ∧ g + 3 ≤ V.heap.size :=
  ⟨_, _, rfl, rfl, ⟨by rw [heap_alloc_old _ _ (by simp; omega), heap_alloc_old _ _ (by simp), heap_alloc_new], by rw [show w.heap.size + 1 + 1 = ((w.alloc (.cells #[.int .i64 d.R, .int .i64 d.W, .int .i64 d.O, dv, rv, wv, ov, iv] 35)).alloc A).heap.size by simp, heap_alloc_new], by omega, by simp; omega, by omega, ((bl1 w _).trans ((bl1 _ _).mono (bl1 w _).size)).trans ((bl1 _ _).mono (by simp; omega))⟩, by rw [heap_alloc_old _ _ (by simp)]; exact heap_alloc2_new _ _ _, by simp⟩
theorem RZ.emptyAt {K : RK (Int × Int × Int)} {W : World} {g : Nat} (h : W.heap[g]? = some (.cells #[] K.et)) : RZ K W (.slice (some ⟨g, 0, none⟩) 0 0) [] := ⟨by simp [RK.flat], .inr ⟨g, 0, #[], rfl, Nat.zero_le _, h, Nat.le_refl _, Nat.zero_le _, by simp, by simp [RK.flat]⟩⟩
theorem RS.one3b {w : World} {K : RK (Int × Int × Int)} (hK : K.cl = tri) (hk : K.k = 3) {g : Nat} {z0 z1 z2 : Int} {t : TypeId} (h : w.heap[g]? = some (.cells #[.int .i64 z0, .int .i64 z1, .int .i64 z2] t)) : RS K w (.slice (some ⟨g, 0, none⟩) 1 1) [(z0, z1, z2)] :=
  RS.one3 hK hk g z0 z1 z2 (by rw [cell_of_row w g 0 _ _ _ h]; rfl) (by rw [cell_of_row w g 1 _ _ _ h]; rfl) (by rw [cell_of_row w g 2 _ _ _ h]; rfl)
theorem own_ge {B g n c : Nat} (h : B ≤ g) : ∀ g', (Value.slice (some ⟨g, 0, none⟩) n c).ownBlock = some g' → B ≤ g' := fun g' hg => by
  have : g = g' := by simpa [Value.ownBlock] using hg
  omega
def dnoteS (d : Dg) (z : Int × Int × Int) : Dg := if hasRL d.Rs z.1 then d else if (d.Rs.length : Int) = d.R then d else { d with Rs := d.Rs ++ [z] }
def dnoteE (d : Dg) (z : Int × Int × Int) : Int := if hasRL d.Rs z.1 then 61 else if (d.Rs.length : Int) = d.R then 200 else 0
set_option maxRecDepth 100000 in
set_option maxHeartbeats 8000000 in
theorem rnote_any {w : World} {v : Value} {d : Dg} (h : DV w v d) (z0 z1 z2 : Int) (hl : d.Rs.length ≤ 1000) : Calls Try.prog 46 #[v, .agg #[.int .i64 z0, .int .i64 z1, .int .i64 z2]] w (DQ v (dnoteS d (z0, z1, z2)) (.int .i64 (dnoteE d (z0, z1, z2))) w) := by
  obtain ⟨dv, rv, wv, ov, iv, rfl, h⟩ := h
  have HX : Hid (DX w d dv rv wv ov iv) := h
  obtain ⟨a3, k3, e3⟩ := h.dd.form
  obtain ⟨a4, k4, e4⟩ := h.rr.form
  obtain ⟨a5, k5, e5⟩ := h.ww.form
  obtain ⟨a6, k6, e6⟩ := h.oo.form
  obtain ⟨a7, k7, e7⟩ := h.ii.form
  subst e3 e4 e5 e6 e7
  clear h
  obtain ⟨V, g, hg, hV, hb, hz1, hsz⟩ := boxes3 w d (.slice a3 d.Rd.length k3) (.slice a4 d.Rs.length k4) (.slice a5 d.Ws.length k5) (.slice a6 d.Os.length k6) (.slice a7 d.Is.length k7) (.cells #[.int .i64 z0, .int .i64 z1, .int .i64 z2] 107)
  have HV : Hid _ := hV
  have HGG : Hid (w.heap.size = g) := hg
  have HB : Hid (BX w V g (g + 1 + 1) d (.slice a3 d.Rd.length k3) (.slice a4 d.Rs.length k4) (.slice a5 d.Ws.length k5) (.slice a6 d.Os.length k6) (.slice a7 d.Is.length k7)) := hb
  have HZ1 : Hid (V.heap[g + 1]? = some (.cells #[.int .i64 z0, .int .i64 z1, .int .i64 z2] 107)) := hz1
  have HSZ : Hid (g + 3 ≤ V.heap.size) := hsz
  have HQ3 : Hid (∀ W, Below V.heap.size V W → W.cell? ⟨g + 1, 0, none⟩ = some (.int .i64 z0) ∧ W.cell? ⟨g + 1, 1, none⟩ = some (.int .i64 z1) ∧ W.cell? ⟨g + 1, 2, none⟩ = some (.int .i64 z2)) := fun W hW => by
    have e := (hW.block (g + 1) (by omega)).trans hz1
    refine ⟨?_, ?_, ?_⟩ <;> (rw [cell_of_row W (g + 1) _ _ _ _ e]; rfl)
  obtain ⟨b0, b1, b2, b3, b4, b5, b6, b7⟩ := hb.c0
  obtain ⟨t0, t1, t2⟩ := HQ3.out V (Below.refl _ _)
  have HR : Hid (Calls Try.prog 57 #[.agg #[.int .i64 d.R, .int .i64 d.W, .int .i64 d.O, .slice a3 d.Rd.length k3, .slice a4 d.Rs.length k4, .slice a5 d.Ws.length k5, .slice a6 d.Os.length k6, .slice a7 d.Is.length k7], .int .i64 z0] V (AN V (.int .i64 (idxI (d.Rs.findIdx (isR z0)) d.Rs.length)))) := rread_any ⟨_, _, _, _, _, rfl, HX.out.below hb.bl⟩ z0 hl
  have HL : Hid (([] : List (Int × Int × Int)).length + d.Rs.length ≤ 100000) := by show _ ≤ _; simp; omega
  have HL2 : Hid (d.Rs.length + [(z0, z1, z2)].length ≤ 100000) := by show _ ≤ _; simp; omega
  clear hV hg hb hz1 hsz
  by_cases hf : d.Rs.findIdx (isR z0) < d.Rs.length
  · have HF0 : Hid (hasRL d.Rs z0 = true) := decide_eq_true hf
    have HF1 : Hid (dnoteS d (z0, z1, z2) = d ∧ dnoteE d (z0, z1, z2) = 61) := by show _ ∧ _; unfold dnoteS dnoteE; simp only [HF0.out, if_true, and_self]
    rw [idxI, if_pos hf] at HR
    generalize d.Rs.findIdx (isR z0) = q at *
    have ed : decide ((0 : Int) ≤ (q : Int)) = true := by simp
    go_enter Try.func46, Try.ntmps46
    go_upto_region 1 with fail
    rw [HV.out, HGG.out]
    go_wp2_with fail
    refine HR.out.mono ?_
    rintro e w2 ⟨rfl, bw2⟩
    have hb2 := HB.out.below bw2
    have HB2 : Hid (BX w w2 g (g + 1 + 1) d (.slice a3 d.Rd.length k3) (.slice a4 d.Rs.length k4) (.slice a5 d.Ws.length k5) (.slice a6 d.Os.length k6) (.slice a7 d.Is.length k7)) := hb2
    have BW2 : Hid (Below V.heap.size V w2) := bw2
    clear b0 b1 b2 b3 b4 b5 b6 b7 bw2 hb2 HR t0 t1 t2
    obtain ⟨b0, b1, b2, b3, b4, b5, b6, b7⟩ := HB2.out.c0
    obtain ⟨y0, y1, y2, y3, y4, y5, y6, y7⟩ := HB2.out.c1
    have f0 := (HB2.out.f 0).2
    have f1 := (HB2.out.f 1).2
    have f2 := (HB2.out.f 2).2
    have f3 := (HB2.out.f 3).2
    have f4 := (HB2.out.f 4).2
    have f5 := (HB2.out.f 5).2
    have f6 := (HB2.out.f 6).2
    have f7 := (HB2.out.f 7).2
    have ne := HB2.out.ne
    have ne' := HB2.out.ne.symm
    have HF : Hid (DQ (.agg #[.int .i64 d.R, .int .i64 d.W, .int .i64 d.O, .slice a3 d.Rd.length k3, .slice a4 d.Rs.length k4, .slice a5 d.Ws.length k5, .slice a6 d.Os.length k6, .slice a7 d.Is.length k7]) (dnoteS d (z0, z1, z2)) (.int .i64 (dnoteE d (z0, z1, z2))) w (.returned (.tuple #[.agg #[.int .i64 d.R, .int .i64 d.W, .int .i64 d.O, .slice a3 d.Rd.length k3, .slice a4 d.Rs.length k4, .slice a5 d.Ws.length k5, .slice a6 d.Os.length k6, .slice a7 d.Is.length k7], .int .i64 61])) (put8W w2 (g + 1 + 1) (.int .i64 d.R) (.int .i64 d.W) (.int .i64 d.O) (.slice a3 d.Rd.length k3) (.slice a4 d.Rs.length k4) (.slice a5 d.Ws.length k5) (.slice a6 d.Os.length k6) (.slice a7 d.Is.length k7))) := by
      show DQ _ _ _ _ _ _
      rw [HF1.out.1, HF1.out.2]
      exact HB2.out.fin (fun W hW _ => HX.out.below hW) (FV.of (.inl rfl) (.inl rfl) (.inl rfl) (.inl rfl)) _ _ _ _ _ _ _ _ _
    go_wp2_with fail
    refine bodyPost_ret (ret_L2 Try.results46 _ (g + 1 + 1) rfl _ _ _ _ _ _ _ _ _ (put8V HB2.out.b1)) rfl ?_
    exact HF.out
  have HF0 : Hid (hasRL d.Rs z0 = false) := decide_eq_false hf
  rw [idxI, if_neg hf] at HR
  by_cases hm : (d.Rs.length : Int) = d.R
  · have HF1 : Hid (dnoteS d (z0, z1, z2) = d ∧ dnoteE d (z0, z1, z2) = 200) := by show _ ∧ _; unfold dnoteS dnoteE; simp only [HF0.out, hm, if_true, and_self, Bool.false_eq_true, if_false]
    have e1 : ((d.Rs.length : Int) == d.R) = true := by simp [hm]
    go_enter Try.func46, Try.ntmps46
    go_upto_region 1 with fail
    rw [HV.out, HGG.out]
    go_wp2_with fail
    refine HR.out.mono ?_
    rintro e w2 ⟨rfl, bw2⟩
    have hb2 := HB.out.below bw2
    have HB2 : Hid (BX w w2 g (g + 1 + 1) d (.slice a3 d.Rd.length k3) (.slice a4 d.Rs.length k4) (.slice a5 d.Ws.length k5) (.slice a6 d.Os.length k6) (.slice a7 d.Is.length k7)) := hb2
    have BW2 : Hid (Below V.heap.size V w2) := bw2
    clear b0 b1 b2 b3 b4 b5 b6 b7 bw2 hb2 HR t0 t1 t2
    obtain ⟨b0, b1, b2, b3, b4, b5, b6, b7⟩ := HB2.out.c0
    obtain ⟨y0, y1, y2, y3, y4, y5, y6, y7⟩ := HB2.out.c1
    have f0 := (HB2.out.f 0).2
    have f1 := (HB2.out.f 1).2
    have f2 := (HB2.out.f 2).2
    have f3 := (HB2.out.f 3).2
    have f4 := (HB2.out.f 4).2
    have f5 := (HB2.out.f 5).2
    have f6 := (HB2.out.f 6).2
    have f7 := (HB2.out.f 7).2
    have ne := HB2.out.ne
    have ne' := HB2.out.ne.symm
    have HF : Hid (DQ (.agg #[.int .i64 d.R, .int .i64 d.W, .int .i64 d.O, .slice a3 d.Rd.length k3, .slice a4 d.Rs.length k4, .slice a5 d.Ws.length k5, .slice a6 d.Os.length k6, .slice a7 d.Is.length k7]) (dnoteS d (z0, z1, z2)) (.int .i64 (dnoteE d (z0, z1, z2))) w (.returned (.tuple #[.agg #[.int .i64 d.R, .int .i64 d.W, .int .i64 d.O, .slice a3 d.Rd.length k3, .slice a4 d.Rs.length k4, .slice a5 d.Ws.length k5, .slice a6 d.Os.length k6, .slice a7 d.Is.length k7], .int .i64 200])) (put8W w2 (g + 1 + 1) (.int .i64 d.R) (.int .i64 d.W) (.int .i64 d.O) (.slice a3 d.Rd.length k3) (.slice a4 d.Rs.length k4) (.slice a5 d.Ws.length k5) (.slice a6 d.Os.length k6) (.slice a7 d.Is.length k7))) := by
      show DQ _ _ _ _ _ _
      rw [HF1.out.1, HF1.out.2]
      exact HB2.out.fin (fun W hW _ => HX.out.below hW) (FV.of (.inl rfl) (.inl rfl) (.inl rfl) (.inl rfl)) _ _ _ _ _ _ _ _ _
    go_wp2_with fail
    refine bodyPost_ret (ret_L2 Try.results46 _ (g + 1 + 1) rfl _ _ _ _ _ _ _ _ _ (put8V HB2.out.b1)) rfl ?_
    exact HF.out
  · have HF1 : Hid (dnoteS d (z0, z1, z2) = { d with Rs := d.Rs ++ [(z0, z1, z2)] } ∧ dnoteE d (z0, z1, z2) = 0) := by show _ ∧ _; unfold dnoteS dnoteE; simp only [HF0.out, hm, and_self, Bool.false_eq_true, if_false]
    have e1 : ((d.Rs.length : Int) == d.R) = false := by simp; omega
    clear hf
    go_enter Try.func46, Try.ntmps46
    go_upto_region 1 with fail
    rw [HV.out, HGG.out]
    go_wp2_with fail
    refine HR.out.mono ?_
    rintro e w2 ⟨rfl, bw2⟩
    have hb2 := HB.out.below bw2
    have HB2 : Hid (BX w w2 g (g + 1 + 1) d (.slice a3 d.Rd.length k3) (.slice a4 d.Rs.length k4) (.slice a5 d.Ws.length k5) (.slice a6 d.Os.length k6) (.slice a7 d.Is.length k7)) := hb2
    have BW2 : Hid (Below V.heap.size V w2) := bw2
    clear b0 b1 b2 b3 b4 b5 b6 b7 bw2 hb2 HR t0 t1 t2
    have c0 := HB2.out.c0.1
    have c4 := HB2.out.c0.2.2.2.2.1
    have q4 := fun A => (HB2.out.below (bl1 w2 A)).c0.2.2.2.2.1
    have q4' := fun A B => (HB2.out.below ((bl1 w2 A).alloc (bl1 w2 A).size B)).c0.2.2.2.2.1
    have HKP : Hid (∀ W, Below w2.heap.size w2 W → W.frozen? ⟨g, 4, none⟩ = false ∧ W.cell? ⟨g + 1, 0, none⟩ = some (.int .i64 z0) ∧ W.cell? ⟨g + 1, 1, none⟩ = some (.int .i64 z1) ∧ W.cell? ⟨g + 1, 2, none⟩ = some (.int .i64 z2)) := fun W hW => ⟨((HB2.out.below hW).f 4).1, HQ3.out W (BW2.out.trans (hW.mono BW2.out.size))⟩
    have HKS : Hid (∀ W u, Below w2.heap.size w2 W → (W.setCell ⟨g, 4, none⟩ u).frozen? ⟨g, 4, none⟩ = false ∧ (W.setCell ⟨g, 4, none⟩ u).cell? ⟨g + 1, 0, none⟩ = some (.int .i64 z0) ∧ (W.setCell ⟨g, 4, none⟩ u).cell? ⟨g + 1, 1, none⟩ = some (.int .i64 z1) ∧ (W.setCell ⟨g, 4, none⟩ u).cell? ⟨g + 1, 2, none⟩ = some (.int .i64 z2)) := fun W u hW => by
      have h := HKP.out W hW
      have hb := HB2.out.below hW
      have e : ∀ j, (W.setCell ⟨g, 4, none⟩ u).cell? ⟨g + 1, j, none⟩ = W.cell? ⟨g + 1, j, none⟩ := fun j => World.cell?_of_block (a := ⟨g + 1, j, none⟩) (Below.heap_setCell _ _ _ _ (by show g + 1 ≠ g; omega))
      exact ⟨frozen_of_row _ g 4 _ _ (heap_setCell_same W g 4 _ 35 u hb.b0), by rw [e]; exact h.2.1, by rw [e]; exact h.2.2.1, by rw [e]; exact h.2.2.2⟩
    have HO : Hid (∀ W, Below w2.heap.size w2 W → RS kQ W (.slice a4 d.Rs.length k4) d.Rs) := fun W hW => (HX.out.rr.below HB2.out.bl).below hW
    have t0 := fun A => (HKP.out _ (bl1 w2 A)).2
    have t0' := fun A B => (HKP.out _ ((bl1 w2 A).alloc (bl1 w2 A).size B)).2
    obtain ⟨t1, t2, t3⟩ := (HKP.out _ (Below.refl _ _)).2
    have u1 := fun A => (t0 A).1
    have u2 := fun A => (t0 A).2.1
    have u3 := fun A => (t0 A).2.2
    have u4 := fun A B => (t0' A B).1
    have u5 := fun A B => (t0' A B).2.1
    have u6 := fun A B => (t0' A B).2.2
    clear t0 t0'
    go_upto_region 5 with fail
    go_cut [5] from 19 to 26 (fun u wx => u = .int .i64 0 ∧ ∃ (a8 : Option Addr) (k8 : Nat), Hid (BX w wx g (g + 1 + 1) { d with Rs := d.Rs ++ [(z0, z1, z2)] } (.slice a3 d.Rd.length k3) (.slice a8 (d.Rs.length + 1) k8) (.slice a5 d.Ws.length k5) (.slice a6 d.Os.length k6) (.slice a7 d.Is.length k7)) ∧ Hid (RZ kQ wx (.slice a8 (d.Rs.length + 1) k8) (d.Rs ++ [(z0, z1, z2)])) ∧ Hid (∀ g', (Value.slice a8 (d.Rs.length + 1) k8).ownBlock = some g' → g' ≠ g + 1 + 1 ∧ w.heap.size ≤ g'))
    case first =>
     go_region_law
      (first
        | (refine step_push_row kQ rfl _ _ rfl (.slice (some ⟨_, 0, none⟩) 0 0) (.slice a4 d.Rs.length k4) [] d.Rs rfl rfl (by first | exact RZ.emptyAt (heap_alloc_new _ _) | exact RZ.emptyAt (heap_alloc2_new _ _ _) | (refine RZ.emptyAt ((heap_alloc_old _ _ ?_).trans (heap_alloc_new _ _)); simp; done)) (HO.out _ (by first | exact (bl1 w2 _).drew | exact ((bl1 w2 _).alloc (bl1 w2 _).size _).drew)) HL.out ?_
           intro v4 w4 hz g4 ho
           have hz' : RZ kQ w4 v4 d.Rs := hz
           clear hz
           obtain ⟨B4, n4⟩ := push_more (V := w2) (by first | exact (bl1 w2 _).drew | exact ((bl1 w2 _).alloc (bl1 w2 _).size _).drew) (own_ge (by first | omega | simp)) g4 ho (by first | omega | (simp; done) | (simp; omega))
           obtain ⟨r1, r2, r3, r4⟩ := HKP.out _ B4)
        | (refine step_push_row kQ rfl _ _ rfl v4 (.slice (some ⟨_, 0, none⟩) 1 1) d.Rs [(z0, z1, z2)] rfl rfl (by first | exact hz' | exact hz'.below (bl1 w4 _)) (by
             first
             | exact RS.one3b rfl rfl (heap_alloc_new _ _)
             | (have e2 := (g4.block w2.heap.size (by simp; done) (by simp [Value.ownBlock]; done))
                exact RS.one3b rfl rfl (e2.trans (heap_alloc_new _ _)))
             | (have e2 := (g4.block w2.heap.size (by first | (simp; done) | (simp; omega)) (by first | (simp [Value.ownBlock]; done) | (simp [Value.ownBlock]; omega)))
                have e3 : ((w2.alloc (.cells #[.int .i64 z0, .int .i64 z1, .int .i64 z2] 107)).alloc (.cells #[] 107)).heap[w2.heap.size]? = some (.cells #[.int .i64 z0, .int .i64 z1, .int .i64 z2] 107) := by rw [heap_alloc_old _ _ (by simp), heap_alloc_new]
                exact RS.one3b rfl rfl (e2.trans e3))
             | (have e2 := (g4.block (w2.heap.size + 1) (by first | (simp; done) | (simp; omega)) (by first | (simp [Value.ownBlock]; done) | (simp [Value.ownBlock]; omega)))
                exact RS.one3b rfl rfl (e2.trans (heap_alloc2_new _ _ _)))) HL2.out ?_
           intro v5 w5 hz5 g5 ho5
           obtain ⟨B5, n5⟩ := push_more (V := w2) (by first | exact B4 | exact B4.alloc B4.size _) n4 g5 ho5 (by have := B4.size; first | omega | (simp; omega))
           obtain ⟨a8, k8, rfl⟩ := hz5.sl
           obtain ⟨s1, s2, s3, s4⟩ := HKP.out _ B5
           have s5 := (HB2.out.below B5).c0.2.2.2.2.1))
     all_goals
      have hl7 : (d.Rs ++ [(z0, z1, z2)]).length = d.Rs.length + 1 := by simp
      simp only [hl7] at hz5 n5 ⊢
      have hb6 : BX w (w5.setCell ⟨g, 4, none⟩ (.slice a8 (d.Rs.length + 1) k8)) g (g + 1 + 1) { d with Rs := d.Rs ++ [(z0, z1, z2)] } (.slice a3 d.Rd.length k3) (.slice a8 (d.Rs.length + 1) k8) (.slice a5 d.Ws.length k5) (.slice a6 d.Os.length k6) (.slice a7 d.Is.length k7) := (HB2.out.below B5).set 4 _ rfl
      have HB6 : Hid (BX w (w5.setCell ⟨g, 4, none⟩ (.slice a8 (d.Rs.length + 1) k8)) g (g + 1 + 1) { d with Rs := d.Rs ++ [(z0, z1, z2)] } (.slice a3 d.Rd.length k3) (.slice a8 (d.Rs.length + 1) k8) (.slice a5 d.Ws.length k5) (.slice a6 d.Os.length k6) (.slice a7 d.Is.length k7)) := hb6
      have HZ6 : Hid (RZ kQ (w5.setCell ⟨g, 4, none⟩ (.slice a8 (d.Rs.length + 1) k8)) (.slice a8 (d.Rs.length + 1) k8) (d.Rs ++ [(z0, z1, z2)])) := hz5.keep fun g' hg' => Below.heap_setCell _ _ _ _ (by have := n5 g' hg'; have := HB2.out.sz; show g' ≠ g; omega)
      have HNG : Hid (∀ g', (Value.slice a8 (d.Rs.length + 1) k8).ownBlock = some g' → g' ≠ g + 1 + 1 ∧ w.heap.size ≤ g') := fun g' hg' => by have := n5 g' hg'; have := HB2.out.sz; have := HB2.out.bl.size; omega
      go_wp2_with fail
      go_meet
      exact ⟨rfl, a8, k8, HB6, HZ6, HNG⟩
    case rest =>
      obtain ⟨rfl, a8, k8, HB6, HZ6, HNG⟩ := hcut
      clear HKP HKS HO t1 t2 t3 u1 u2 u3 u4 u5 u6 q4 q4' c0 c4
      obtain ⟨b0, b1, b2, b3, b4, b5, b6, b7⟩ := HB6.out.c0
      obtain ⟨y0, y1, y2, y3, y4, y5, y6, y7⟩ := HB6.out.c1
      have f0 := (HB6.out.f 0).2
      have f1 := (HB6.out.f 1).2
      have f2 := (HB6.out.f 2).2
      have f3 := (HB6.out.f 3).2
      have f4 := (HB6.out.f 4).2
      have f5 := (HB6.out.f 5).2
      have f6 := (HB6.out.f 6).2
      have f7 := (HB6.out.f 7).2
      have ne := HB6.out.ne
      have ne' := HB6.out.ne.symm
      have HF : Hid (DQ (.agg #[.int .i64 d.R, .int .i64 d.W, .int .i64 d.O, .slice a3 d.Rd.length k3, .slice a4 d.Rs.length k4, .slice a5 d.Ws.length k5, .slice a6 d.Os.length k6, .slice a7 d.Is.length k7]) (dnoteS d (z0, z1, z2)) (.int .i64 (dnoteE d (z0, z1, z2))) w (.returned (.tuple #[.agg #[.int .i64 d.R, .int .i64 d.W, .int .i64 d.O, .slice a3 d.Rd.length k3, .slice a8 (d.Rs.length + 1) k8, .slice a5 d.Ws.length k5, .slice a6 d.Os.length k6, .slice a7 d.Is.length k7], .int .i64 0])) (put8W wc (g + 1 + 1) (.int .i64 d.R) (.int .i64 d.W) (.int .i64 d.O) (.slice a3 d.Rd.length k3) (.slice a8 (d.Rs.length + 1) k8) (.slice a5 d.Ws.length k5) (.slice a6 d.Os.length k6) (.slice a7 d.Is.length k7))) := by
        show DQ _ _ _ _ _ _
        rw [HF1.out.1, HF1.out.2]
        refine HB6.out.fin (fun W' hW hk => ?_) (FV.of (FB.new fun g' h => (HNG.out g' h).2) (.inl rfl) (.inl rfl) (.inl rfl)) _ _ _ _ _ _ _ _ _
        have hx := HX.out.below hW
        exact ⟨hx.dd, (HZ6.out.keep fun g' hg' => hk g' (HNG.out g' hg').1).rs, hx.ww, hx.oo, hx.ii⟩
      clear HF1 HF0
      go_wp2_with fail
      refine bodyPost_ret (ret_L2 Try.results46 _ (g + 1 + 1) rfl _ _ _ _ _ _ _ _ _ (put8V HB6.out.b1)) rfl ?_
      exact HF.out
end Go.Proofs.Ytongeppdaeekeaa
