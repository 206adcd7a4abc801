/- A word is written, in the document's log. -/
import Derived.Test.YtongeppdaeekeaaDfE
import Derived.Test.YtongeppdaeekeaaAtF
namespace Go.Proofs.Ytongeppdaeekeaa
open Go.RowKit Go.Maps
set_option linter.unusedVariables false

def hasCL (l : List (Int × Int)) (a : Int) : Bool := decide (l.findIdx (isC a) < l.length)
def dwriteS (d : Dg) (a v : Int) : Dg := if hasCL d.Ws a then { d with Ws := d.Ws.set (d.Ws.findIdx (isC a)) ((d.Ws.getD (d.Ws.findIdx (isC a)) (0, 0)).1, v) } else if (d.Ws.length : Int) = d.W then d else { d with Ws := d.Ws ++ [(a, v)] }
def dwriteE (d : Dg) (a : Int) : Int := if hasCL d.Ws a then 0 else if (d.Ws.length : Int) = d.W then 200 else 0
set_option maxRecDepth 100000 in
set_option maxHeartbeats 4000000 in
theorem rwrite_any {w : World} {v : Value} {d : Dg} (h : DV w v d) (y z : Int) (hl : d.Ws.length ≤ 1000) : Calls Try.prog 49 #[v, .int .i64 y, .int .i64 z] w (DQ v (dwriteS d y z) (.int .i64 (dwriteE d y)) w) := by
  obtain ⟨dv, rv, wv, ov, iv, rfl, h⟩ := h
  have HX : Hid (DX w d dv rv wv ov iv) := h
  obtain ⟨a3, k3, e3⟩ := h.dd.form
  obtain ⟨a4, k4, e4⟩ := h.rr.form
  obtain ⟨a5, k5, e5⟩ := h.ww.form
  obtain ⟨a6, k6, e6⟩ := h.oo.form
  obtain ⟨a7, k7, e7⟩ := h.ii.form
  subst e3 e4 e5 e6 e7
  clear h
  obtain ⟨V, g, hg, hV, hb⟩ := boxes w d (.slice a3 d.Rd.length k3) (.slice a4 d.Rs.length k4) (.slice a5 d.Ws.length k5) (.slice a6 d.Os.length k6) (.slice a7 d.Is.length k7)
  have HV : Hid _ := hV
  have HGG : Hid (w.heap.size = g) := hg
  have HB : Hid (BX w V g (g + 1) d (.slice a3 d.Rd.length k3) (.slice a4 d.Rs.length k4) (.slice a5 d.Ws.length k5) (.slice a6 d.Os.length k6) (.slice a7 d.Is.length k7)) := hb
  obtain ⟨b0, b1, b2, b3, b4, b5, b6, b7⟩ := hb.c0
  have HR : Hid (Calls Try.prog 59 #[.agg #[.int .i64 d.R, .int .i64 d.W, .int .i64 d.O, .slice a3 d.Rd.length k3, .slice a4 d.Rs.length k4, .slice a5 d.Ws.length k5, .slice a6 d.Os.length k6, .slice a7 d.Is.length k7], .int .i64 y] V (AN V (.int .i64 (idxI (d.Ws.findIdx (isC y)) d.Ws.length)))) := rwritten_any ⟨_, _, _, _, _, rfl, HX.out.below hb.bl⟩ y hl
  have HL : Hid (([] : List (Int × Int)).length + d.Ws.length ≤ 100000) := by show _ ≤ _; simp; omega
  have HL2 : Hid (d.Ws.length + [(y, z)].length ≤ 100000) := by show _ ≤ _; simp; omega
  clear hV hg hb
  by_cases hf : d.Ws.findIdx (isC y) < d.Ws.length
  · have HF0 : Hid (hasCL d.Ws y = true) := decide_eq_true hf
    have HF1 : Hid (dwriteS d y z = { d with Ws := d.Ws.set (d.Ws.findIdx (isC y)) ((d.Ws.getD (d.Ws.findIdx (isC y)) (0, 0)).1, z) } ∧ dwriteE d y = 0) := by show _ ∧ _; unfold dwriteS dwriteE; rw [HF0.out]; exact ⟨rfl, rfl⟩
    have HF2 : Hid (d.Ws.findIdx (isC y) < d.Ws.length) := hf
    rw [idxI, if_pos hf] at HR
    generalize d.Ws.findIdx (isC y) = q at *
    have ed : decide ((q : Int) < 0) = false := by simp
    go_enter Try.func49, Try.ntmps49
    go_upto_region 1 with fail
    rw [HV.out, HGG.out]
    go_wp2_with fail
    refine HR.out.mono ?_
    rintro e w2 ⟨rfl, bw2⟩
    have hb2 := HB.out.below bw2
    have HB2 : Hid (BX w w2 g (g + 1) d (.slice a3 d.Rd.length k3) (.slice a4 d.Rs.length k4) (.slice a5 d.Ws.length k5) (.slice a6 d.Os.length k6) (.slice a7 d.Is.length k7)) := hb2
    have c1 := hb2.c0.2.1
    have c5 := hb2.c0.2.2.2.2.2.1
    have c5' : (w2.alloc (.cells #[] 120)).cell? ⟨g, 5, none⟩ = some (.slice a5 d.Ws.length k5) := (hb2.below (bl1 w2 _)).c0.2.2.2.2.2.1
    have HE : Hid (RZ kC (w2.alloc (.cells #[] 120)) (.slice (some ⟨w2.heap.size, 0, none⟩) 0 0) []) := RZ.empty kC w2
    have HO : Hid (RS kC (w2.alloc (.cells #[] 120)) (.slice a5 d.Ws.length k5) d.Ws) := (HX.out.ww.below hb2.bl).below (bl1 w2 _)
    clear b0 b1 b2 b3 b4 b5 b6 b7 bw2 hb2 HR
    go_wp2_with (at_builtin; refine push_row kC _ rfl _ _ rfl _ _ [] d.Ws rfl rfl HE.out HO.out HL.out ?_)
    intro v4 w4 hz g4 ho
    try rw [List.nil_append] at hz
    obtain ⟨B4, n4⟩ := push_new g4 ho (by first | omega | (simp; omega) | simp)
    have hb4 := HB2.out.below B4
    obtain ⟨bb, k8, hv4, hcl, hfr⟩ := hz.cell HF2.out
    subst hv4
    obtain ⟨⟨z0, z1⟩, hzz⟩ : ∃ x, d.Ws[q]'(HF2.out) = x := ⟨_, rfl⟩
    have hset := hz.set HF2.out (j := 1) (by decide) (.int .i64 z) ((d.Ws.getD q (0, 0)).1, z) (by rw [getD_at _ _ _ HF2.out]; rfl)
    rw [hzz] at hcl
    obtain ⟨x0, x1⟩ := duo_own rfl rfl hcl
    have xf := hfr (q * 2 + 1)
    have n8 : w2.heap.size ≤ bb := n4 bb rfl
    have hs := HB2.out.sz
    have hb5 := hb4.keep (W := w4.setCell ⟨bb, q * 2 + 1, none⟩ (.int .i64 z)) (Below.heap_setCell _ _ _ _ (by show g ≠ bb; omega)) (Below.heap_setCell _ _ _ _ (by show g + 1 ≠ bb; omega)) (by simp [World.setCell]) (hb4.bl.setCell (p := ⟨bb, q * 2 + 1, none⟩) (by have := HB2.out.bl.size; show w.heap.size ≤ bb; omega) _)
    have hset2 : RZ kC ((w4.setCell ⟨bb, q * 2 + 1, none⟩ (.int .i64 z)).setCell ⟨g, 5, none⟩ (.slice (some ⟨bb, 0, none⟩) d.Ws.length k8)) (.slice (some ⟨bb, 0, none⟩) d.Ws.length k8) (d.Ws.set q ((d.Ws.getD q (0, 0)).1, z)) := hset.keep fun g' hg' => Below.heap_setCell _ _ _ _ (by have e : bb = g' := (by simpa [Value.ownBlock] using hg'); show g' ≠ g; omega)
    have d5 := hb5.c0.2.2.2.2.2.1
    have e5 := (hb5.f 5).1
    have hb6 : BX w ((w4.setCell ⟨bb, q * 2 + 1, none⟩ (.int .i64 z)).setCell ⟨g, 5, none⟩ (.slice (some ⟨bb, 0, none⟩) d.Ws.length k8)) g (g + 1) { d with Ws := d.Ws.set q ((d.Ws.getD q (0, 0)).1, z) } (.slice a3 d.Rd.length k3) (.slice a4 d.Rs.length k4) (.slice (some ⟨bb, 0, none⟩) d.Ws.length k8) (.slice a6 d.Os.length k6) (.slice a7 d.Is.length k7) := hb5.set 5 _ rfl
    have HB6 : Hid (BX w ((w4.setCell ⟨bb, q * 2 + 1, none⟩ (.int .i64 z)).setCell ⟨g, 5, none⟩ (.slice (some ⟨bb, 0, none⟩) d.Ws.length k8)) g (g + 1) { d with Ws := d.Ws.set q ((d.Ws.getD q (0, 0)).1, z) } (.slice a3 d.Rd.length k3) (.slice a4 d.Rs.length k4) (.slice (some ⟨bb, 0, none⟩) d.Ws.length k8) (.slice a6 d.Os.length k6) (.slice a7 d.Is.length k7)) := hb6
    have HS6 : Hid (RZ kC ((w4.setCell ⟨bb, q * 2 + 1, none⟩ (.int .i64 z)).setCell ⟨g, 5, none⟩ (.slice (some ⟨bb, 0, none⟩) d.Ws.length k8)) (.slice (some ⟨bb, 0, none⟩) d.Ws.length k8) (d.Ws.set q ((d.Ws.getD q (0, 0)).1, z))) := hset2
    have HBB : Hid (bb ≠ g + 1) := by show _ ≠ _; omega
    have HBG : Hid (w.heap.size ≤ bb) := by show _ ≤ _; have := HB2.out.bl.size; omega
    have i1 : (0 : Int) ≤ (q : Int) := by omega
    have hqn := HF2.out
    have i2 : (q : Int) < (d.Ws.length : Int) := by omega
    clear hz g4 ho B4 n4 hb4 hcl hfr hzz hset hb5 hb6 HE HO c5' hs n8 x0 hset2
    go_upto_region 9 with fail
    generalize (w4.setCell ⟨bb, q * 2 + 1, none⟩ (.int .i64 z)).setCell ⟨g, 5, none⟩ (.slice (some ⟨bb, 0, none⟩) d.Ws.length k8) = W at *
    obtain ⟨b0, b1, b2, b3, b4, b5, b6, b7⟩ := HB6.out.c0
    obtain ⟨y0, y1, y2, y3, y4, y5, y6, y7⟩ := HB6.out.c1
    have f0 := (HB6.out.f 0).2
    have f1 := (HB6.out.f 1).2
    have f2 := (HB6.out.f 2).2
    have f3 := (HB6.out.f 3).2
    have f4 := (HB6.out.f 4).2
    have f5 := (HB6.out.f 5).2
    have f6 := (HB6.out.f 6).2
    have f7 := (HB6.out.f 7).2
    have ne := HB6.out.ne
    have ne' := HB6.out.ne.symm
    have HF : Hid (DQ (.agg #[.int .i64 d.R, .int .i64 d.W, .int .i64 d.O, .slice a3 d.Rd.length k3, .slice a4 d.Rs.length k4, .slice a5 d.Ws.length k5, .slice a6 d.Os.length k6, .slice a7 d.Is.length k7]) (dwriteS d y z) (.int .i64 (dwriteE d y)) w (.returned (.tuple #[.agg #[.int .i64 d.R, .int .i64 d.W, .int .i64 d.O, .slice a3 d.Rd.length k3, .slice a4 d.Rs.length k4, .slice (some ⟨bb, 0, none⟩) d.Ws.length k8, .slice a6 d.Os.length k6, .slice a7 d.Is.length k7], .int .i64 0])) (put8W W (g + 1) (.int .i64 d.R) (.int .i64 d.W) (.int .i64 d.O) (.slice a3 d.Rd.length k3) (.slice a4 d.Rs.length k4) (.slice (some ⟨bb, 0, none⟩) d.Ws.length k8) (.slice a6 d.Os.length k6) (.slice a7 d.Is.length k7))) := by
      show DQ _ _ _ _ _ _
      rw [HF1.out.1, HF1.out.2]
      refine HB6.out.fin (fun W' hW hk => ?_) (FV.of (.inl rfl) (FB.new fun g' h => by have : bb = g' := (by simpa [Value.ownBlock] using h); have := HBG.out; omega) (.inl rfl) (.inl rfl)) _ _ _ _ _ _ _ _ _
      have hx := HX.out.below hW
      exact ⟨hx.dd, hx.rr, (HS6.out.keep fun g' hg' => hk g' (by have : bb = g' := (by simpa [Value.ownBlock] using hg'); have := HBB.out; omega)).rs, hx.oo, hx.ii⟩
    clear HF1 HF0 xf x1 d5 e5 c1 c5
    go_wp2_with fail
    refine bodyPost_ret (ret_L2 Try.results49 _ (g + 1) rfl _ _ _ _ _ _ _ _ _ (put8V HB6.out.b1)) rfl ?_
    exact HF.out
  have HF0 : Hid (hasCL d.Ws y = false) := decide_eq_false hf
  rw [idxI, if_neg hf] at HR
  by_cases hm : (d.Ws.length : Int) = d.W
  · have HF1 : Hid (dwriteS d y z = d ∧ dwriteE d y = 200) := by show _ ∧ _; unfold dwriteS dwriteE; rw [HF0.out, if_pos hm, if_pos hm]; exact ⟨rfl, rfl⟩
    have e1 : ((d.Ws.length : Int) == d.W) = true := by simp [hm]
    go_enter Try.func49, Try.ntmps49
    go_upto_region 1 with fail
    rw [HV.out, HGG.out]
    go_wp2_with fail
    refine HR.out.mono ?_
    rintro e w2 ⟨rfl, bw2⟩
    have hb2 := HB.out.below bw2
    have HB2 : Hid (BX w w2 g (g + 1) d (.slice a3 d.Rd.length k3) (.slice a4 d.Rs.length k4) (.slice a5 d.Ws.length k5) (.slice a6 d.Os.length k6) (.slice a7 d.Is.length k7)) := hb2
    clear b0 b1 b2 b3 b4 b5 b6 b7 bw2 hb2 HR
    obtain ⟨b0, b1, b2, b3, b4, b5, b6, b7⟩ := HB2.out.c0
    obtain ⟨y0, y1, y2, y3, y4, y5, y6, y7⟩ := HB2.out.c1
    have f0 := (HB2.out.f 0).2
    have f1 := (HB2.out.f 1).2
    have f2 := (HB2.out.f 2).2
    have f3 := (HB2.out.f 3).2
    have f4 := (HB2.out.f 4).2
    have f5 := (HB2.out.f 5).2
    have f6 := (HB2.out.f 6).2
    have f7 := (HB2.out.f 7).2
    have ne := HB2.out.ne
    have ne' := HB2.out.ne.symm
    have HF : Hid (DQ (.agg #[.int .i64 d.R, .int .i64 d.W, .int .i64 d.O, .slice a3 d.Rd.length k3, .slice a4 d.Rs.length k4, .slice a5 d.Ws.length k5, .slice a6 d.Os.length k6, .slice a7 d.Is.length k7]) (dwriteS d y z) (.int .i64 (dwriteE d y)) w (.returned (.tuple #[.agg #[.int .i64 d.R, .int .i64 d.W, .int .i64 d.O, .slice a3 d.Rd.length k3, .slice a4 d.Rs.length k4, .slice a5 d.Ws.length k5, .slice a6 d.Os.length k6, .slice a7 d.Is.length k7], .int .i64 200])) (put8W w2 (g + 1) (.int .i64 d.R) (.int .i64 d.W) (.int .i64 d.O) (.slice a3 d.Rd.length k3) (.slice a4 d.Rs.length k4) (.slice a5 d.Ws.length k5) (.slice a6 d.Os.length k6) (.slice a7 d.Is.length k7))) := by
      show DQ _ _ _ _ _ _
      rw [HF1.out.1, HF1.out.2]
      exact HB2.out.fin (fun W hW _ => HX.out.below hW) (FV.of (.inl rfl) (.inl rfl) (.inl rfl) (.inl rfl)) _ _ _ _ _ _ _ _ _
    go_wp2_with fail
    refine bodyPost_ret (ret_L2 Try.results49 _ (g + 1) rfl _ _ _ _ _ _ _ _ _ (put8V HB2.out.b1)) rfl ?_
    exact HF.out
  · have HF1 : Hid (dwriteS d y z = { d with Ws := d.Ws ++ [(y, z)] } ∧ dwriteE d y = 0) := by show _ ∧ _; unfold dwriteS dwriteE; rw [HF0.out, if_neg hm, if_neg hm]; exact ⟨rfl, rfl⟩
    have e1 : ((d.Ws.length : Int) == d.W) = false := by simp; omega
    go_enter Try.func49, Try.ntmps49
    go_upto_region 1 with fail
    rw [HV.out, HGG.out]
    go_wp2_with fail
    refine HR.out.mono ?_
    rintro e w2 ⟨rfl, bw2⟩
    have hb2 := HB.out.below bw2
    have HB2 : Hid (BX w w2 g (g + 1) d (.slice a3 d.Rd.length k3) (.slice a4 d.Rs.length k4) (.slice a5 d.Ws.length k5) (.slice a6 d.Os.length k6) (.slice a7 d.Is.length k7)) := hb2
    have c1 := hb2.c0.2.1
    have c5 := hb2.c0.2.2.2.2.2.1
    have c5' : (w2.alloc (.cells #[] 120)).cell? ⟨g, 5, none⟩ = some (.slice a5 d.Ws.length k5) := (hb2.below (bl1 w2 _)).c0.2.2.2.2.2.1
    have HE : Hid (RZ kC (w2.alloc (.cells #[] 120)) (.slice (some ⟨w2.heap.size, 0, none⟩) 0 0) []) := RZ.empty kC w2
    have HO : Hid (RS kC (w2.alloc (.cells #[] 120)) (.slice a5 d.Ws.length k5) d.Ws) := (HX.out.ww.below hb2.bl).below (bl1 w2 _)
    clear b0 b1 b2 b3 b4 b5 b6 b7 bw2 hb2 HR
    go_wp2_with (at_builtin; refine push_row kC _ rfl _ _ rfl _ _ [] d.Ws rfl rfl HE.out HO.out HL.out ?_)
    intro v4 w4 hz g4 ho
    try rw [List.nil_append] at hz
    obtain ⟨B4, n4⟩ := push_new g4 ho (by first | omega | (simp; omega) | simp)
    have HZ4 : Hid (RZ kC w4 v4 d.Ws) := hz
    have HB4 : Hid (Below w2.heap.size w2 w4) := B4
    have HN4 : Hid (∀ g, v4.ownBlock = some g → w2.heap.size ≤ g) := n4
    clear hz g4 ho B4 n4 HE HO c5'
    have HE : Hid (∀ A, RZ kC (w4.alloc A) v4 d.Ws) := fun A => HZ4.out.below (bl1 w4 A)
    have HP2 : Hid (RS kC (w4.alloc (.cells #[.int .i64 y, .int .i64 z] 120)) (.slice (some ⟨w4.heap.size, 0, none⟩) 1 1) [(y, z)]) := RS.one2 rfl rfl _ _ _ (by simp) (by simp)
    go_wp2_with (at_builtin; refine push_row kC _ rfl _ _ rfl _ _ d.Ws [(y, z)] rfl rfl (HE.out _) HP2.out HL2.out ?_)
    intro v5 w5 hz g5 ho
    obtain ⟨B5, n5⟩ := push_more (HB4.out.alloc HB4.out.size _) HN4.out g5 ho (by have := HB4.out.size; first | omega | (simp; omega))
    obtain ⟨a8, k8, rfl⟩ := hz.sl
    have hl7 : (d.Ws ++ [(y, z)]).length = d.Ws.length + 1 := by simp
    rw [hl7] at hz n5 ⊢
    have HZ5 : Hid (RZ kC w5 (.slice a8 (d.Ws.length + 1) k8) (d.Ws ++ [(y, z)])) := hz
    have HN5 : Hid (∀ g, (Value.slice a8 (d.Ws.length + 1) k8).ownBlock = some g → w2.heap.size ≤ g) := n5
    have hb5 := HB2.out.below B5
    have x6 := hb5.c0.2.2.2.2.2.1
    have xf := (hb5.f 5).1
    have hb6 : BX w (w5.setCell ⟨g, 5, none⟩ (.slice a8 (d.Ws.length + 1) k8)) g (g + 1) { d with Ws := d.Ws ++ [(y, z)] } (.slice a3 d.Rd.length k3) (.slice a4 d.Rs.length k4) (.slice a8 (d.Ws.length + 1) k8) (.slice a6 d.Os.length k6) (.slice a7 d.Is.length k7) := hb5.set 5 _ rfl
    have HB6 : Hid (BX w (w5.setCell ⟨g, 5, none⟩ (.slice a8 (d.Ws.length + 1) k8)) g (g + 1) { d with Ws := d.Ws ++ [(y, z)] } (.slice a3 d.Rd.length k3) (.slice a4 d.Rs.length k4) (.slice a8 (d.Ws.length + 1) k8) (.slice a6 d.Os.length k6) (.slice a7 d.Is.length k7)) := hb6
    have HZ6 : Hid (RZ kC (w5.setCell ⟨g, 5, none⟩ (.slice a8 (d.Ws.length + 1) k8)) (.slice a8 (d.Ws.length + 1) k8) (d.Ws ++ [(y, z)])) := HZ5.out.keep fun g' hg' => Below.heap_setCell _ _ _ _ (by have := HN5.out g' hg'; have := HB2.out.sz; show g' ≠ g; omega)
    have HNG : Hid (∀ g', (Value.slice a8 (d.Ws.length + 1) k8).ownBlock = some g' → g' ≠ g + 1) := fun g' hg' => by have := HN5.out g' hg'; have := HB2.out.sz; omega
    clear hz g5 ho B5 n5 hb5 hb6 HE HP2 hl7
    go_upto_region 9 with fail
    generalize w5.setCell ⟨g, 5, none⟩ (.slice a8 (d.Ws.length + 1) k8) = W at *
    clear x6 xf c1 c5
    obtain ⟨b0, b1, b2, b3, b4, b5, b6, b7⟩ := HB6.out.c0
    obtain ⟨y0, y1, y2, y3, y4, y5, y6, y7⟩ := HB6.out.c1
    have f0 := (HB6.out.f 0).2
    have f1 := (HB6.out.f 1).2
    have f2 := (HB6.out.f 2).2
    have f3 := (HB6.out.f 3).2
    have f4 := (HB6.out.f 4).2
    have f5 := (HB6.out.f 5).2
    have f6 := (HB6.out.f 6).2
    have f7 := (HB6.out.f 7).2
    have ne := HB6.out.ne
    have ne' := HB6.out.ne.symm
    have HF : Hid (DQ (.agg #[.int .i64 d.R, .int .i64 d.W, .int .i64 d.O, .slice a3 d.Rd.length k3, .slice a4 d.Rs.length k4, .slice a5 d.Ws.length k5, .slice a6 d.Os.length k6, .slice a7 d.Is.length k7]) (dwriteS d y z) (.int .i64 (dwriteE d y)) w (.returned (.tuple #[.agg #[.int .i64 d.R, .int .i64 d.W, .int .i64 d.O, .slice a3 d.Rd.length k3, .slice a4 d.Rs.length k4, .slice a8 (d.Ws.length + 1) k8, .slice a6 d.Os.length k6, .slice a7 d.Is.length k7], .int .i64 0])) (put8W W (g + 1) (.int .i64 d.R) (.int .i64 d.W) (.int .i64 d.O) (.slice a3 d.Rd.length k3) (.slice a4 d.Rs.length k4) (.slice a8 (d.Ws.length + 1) k8) (.slice a6 d.Os.length k6) (.slice a7 d.Is.length k7))) := by
      show DQ _ _ _ _ _ _
      rw [HF1.out.1, HF1.out.2]
      refine HB6.out.fin (fun W' hW hk => ?_) (FV.of (.inl rfl) (FB.new fun g' h => Nat.le_trans HB2.out.bl.size (HN5.out g' h)) (.inl rfl) (.inl rfl)) _ _ _ _ _ _ _ _ _
      have hx := HX.out.below hW
      exact ⟨hx.dd, hx.rr, (HZ6.out.keep fun g' hg' => hk g' (HNG.out g' hg')).rs, hx.oo, hx.ii⟩
    clear HF1 HF0
    go_wp2_with fail
    refine bodyPost_ret (ret_L2 Try.results49 _ (g + 1) rfl _ _ _ _ _ _ _ _ _ (put8V HB6.out.b1)) rfl ?_
    exact HF.out
end Go.Proofs.Ytongeppdaeekeaa
