/- The document's log is cleared; a read is from another age. -/
import Derived.Test.YtongeppdaeekeaaDfD
import Derived.Test.YtongeppdaeekeaaAtF
namespace Go.Proofs.Ytongeppdaeekeaa
open Go.RowKit Go.Maps
set_option linter.unusedVariables false

theorem ret_L1 {fn : Func} {q : Nat} (h : fn.results = #[.cell q 35]) (tmps : Array Value) (g : Nat) (hb : tmps.getD q undef = .pointer (some ⟨g, 0, none⟩)) (W : World) (a0 a1 a2 a3 a4 a5 a6 a7 : Value) (hg : W.heap[g]? = some (.cells #[a0, a1, a2, a3, a4, a5, a6, a7] 35)) :
    (results fn tmps).run Try.prog W = .ok (.agg #[a0, a1, a2, a3, a4, a5, a6, a7]) W := by
  have hb' : tmps[q]?.getD undef = .pointer (some ⟨g, 0, none⟩) := by simpa using hb
  simp only [results, h]
  simp [hb', asAddr, run_loadVar_row W g 35 35 #[a0, a1, a2, a3, a4, a5, a6, a7] _ _ hg Try.underlying35 rfl size35]
def dclearS (d : Dg) : Dg := { d with Rs := [], Ws := [], Os := [], Is := [] }
set_option maxRecDepth 100000 in
set_option maxHeartbeats 4000000 in
theorem rclear_any {w : World} {v : Value} {d : Dg} (h : DV w v d) : Calls Try.prog 56 #[v] w (fun e w' => Below w.heap.size w w' ∧ ∃ v', e = .returned v' ∧ DV w' v' (dclearS d) ∧ FV w.heap.size v v') := by
  obtain ⟨dv, rv, wv, ov, iv, rfl, h⟩ := h
  have HX : Hid (DX w d dv rv wv ov iv) := h
  obtain ⟨a3, k3, e3⟩ := h.dd.form
  obtain ⟨a4, k4, e4⟩ := h.rr.form
  obtain ⟨a5, k5, e5⟩ := h.ww.form
  obtain ⟨a6, k6, e6⟩ := h.oo.form
  obtain ⟨a7, k7, e7⟩ := h.ii.form
  subst e3 e4 e5 e6 e7
  clear h
  obtain ⟨V, g, hg, hV, hb⟩ := boxes w d (.slice a3 d.Rd.length k3) (.slice a4 d.Rs.length k4) (.slice a5 d.Ws.length k5) (.slice a6 d.Os.length k6) (.slice a7 d.Is.length k7)
  have HV : Hid _ := hV
  have HGG : Hid (w.heap.size = g) := hg
  have h1 : BX w (V.setCell ⟨g, 4, none⟩ (.slice none 0 0)) g (g + 1) { d with Rs := [] } (.slice a3 d.Rd.length k3) (.slice none 0 0) (.slice a5 d.Ws.length k5) (.slice a6 d.Os.length k6) (.slice a7 d.Is.length k7) := hb.set 4 (.slice none 0 0) rfl
  have h2 : BX w ((V.setCell ⟨g, 4, none⟩ (.slice none 0 0)).setCell ⟨g, 5, none⟩ (.slice none 0 0)) g (g + 1) { d with Rs := [], Ws := [] } (.slice a3 d.Rd.length k3) (.slice none 0 0) (.slice none 0 0) (.slice a6 d.Os.length k6) (.slice a7 d.Is.length k7) := h1.set 5 (.slice none 0 0) rfl
  have h3 : BX w (((V.setCell ⟨g, 4, none⟩ (.slice none 0 0)).setCell ⟨g, 5, none⟩ (.slice none 0 0)).setCell ⟨g, 6, none⟩ (.slice none 0 0)) g (g + 1) { d with Rs := [], Ws := [], Os := [] } (.slice a3 d.Rd.length k3) (.slice none 0 0) (.slice none 0 0) (.slice none 0 0) (.slice a7 d.Is.length k7) := h2.set 6 (.slice none 0 0) rfl
  have h4 : BX w ((((V.setCell ⟨g, 4, none⟩ (.slice none 0 0)).setCell ⟨g, 5, none⟩ (.slice none 0 0)).setCell ⟨g, 6, none⟩ (.slice none 0 0)).setCell ⟨g, 7, none⟩ (.slice none 0 0)) g (g + 1) { d with Rs := [], Ws := [], Os := [], Is := [] } (.slice a3 d.Rd.length k3) (.slice none 0 0) (.slice none 0 0) (.slice none 0 0) (.slice none 0 0) := h3.set 7 (.slice none 0 0) rfl
  have HB : Hid (BX w V g (g + 1) d (.slice a3 d.Rd.length k3) (.slice a4 d.Rs.length k4) (.slice a5 d.Ws.length k5) (.slice a6 d.Os.length k6) (.slice a7 d.Is.length k7)) := hb
  have HB4 : Hid (BX w ((((V.setCell ⟨g, 4, none⟩ (.slice none 0 0)).setCell ⟨g, 5, none⟩ (.slice none 0 0)).setCell ⟨g, 6, none⟩ (.slice none 0 0)).setCell ⟨g, 7, none⟩ (.slice none 0 0)) g (g + 1) { d with Rs := [], Ws := [], Os := [], Is := [] } (.slice a3 d.Rd.length k3) (.slice none 0 0) (.slice none 0 0) (.slice none 0 0) (.slice none 0 0)) := h4
  obtain ⟨b0, b1, b2, b3, b4, b5, b6, b7⟩ := hb.c0
  have f4 := (hb.f 4).1
  have f5 := (hb.f 5).1
  have f6 := (hb.f 6).1
  have f7 := (hb.f 7).1
  clear hV hg hb h1 h2 h3 h4
  go_enter Try.func56, Try.ntmps56
  go_upto_region 1 with fail
  rw [HV.out, HGG.out]
  go_upto_region 2 with fail
  generalize (((V.setCell ⟨g, 4, none⟩ (.slice none 0 0)).setCell ⟨g, 5, none⟩ (.slice none 0 0)).setCell ⟨g, 6, none⟩ (.slice none 0 0)).setCell ⟨g, 7, none⟩ (.slice none 0 0) = V2 at *
  clear b0 b1 b2 b3 b4 b5 b6 b7 f4 f5 f6 f7
  obtain ⟨b0, b1, b2, b3, b4, b5, b6, b7⟩ := HB4.out.c0
  obtain ⟨y0, y1, y2, y3, y4, y5, y6, y7⟩ := HB4.out.c1
  have f0 := (HB4.out.f 0).2
  have f1 := (HB4.out.f 1).2
  have f2 := (HB4.out.f 2).2
  have f3 := (HB4.out.f 3).2
  have f4 := (HB4.out.f 4).2
  have f5 := (HB4.out.f 5).2
  have f6 := (HB4.out.f 6).2
  have f7 := (HB4.out.f 7).2
  have ne := HB4.out.ne
  have ne' := HB4.out.ne.symm
  have HF := HB4.out.fin (fun W hW _ => ⟨(HX.out.below hW).dd, RS.nil _ _, RS.nil _ _, RS.nil _ _, RS.nil _ _⟩) (u := (.agg #[.int .i64 d.R, .int .i64 d.W, .int .i64 d.O, .slice a3 d.Rd.length k3, .slice a4 d.Rs.length k4, .slice a5 d.Ws.length k5, .slice a6 d.Os.length k6, .slice a7 d.Is.length k7])) (FV.of FB.none FB.none FB.none FB.none) (.bool true) (.int .i64 d.R) (.int .i64 d.W) (.int .i64 d.O) (.slice a3 d.Rd.length k3) (.slice none 0 0) (.slice none 0 0) (.slice none 0 0) (.slice none 0 0)
  have HFF : Hid _ := HF
  clear HF
  go_wp2_with fail
  refine bodyPost_ret (ret_L1 Try.results56 _ (g + 1) rfl _ _ _ _ _ _ _ _ _ (put8V HB4.out.b1)) rfl ?_
  obtain ⟨q1, v, q2, q3⟩ := HFF.out
  simp only [Ending.returned.injEq, Value.tuple.injEq, Array.mk.injEq, List.cons.injEq, and_true] at q2
  subst q2
  exact ⟨q1, _, rfl, q3⟩
def hasRL (l : List (Int × Int × Int)) (a : Int) : Bool := decide (l.findIdx (isR a) < l.length)
def fromL (l : List (Int × Int × Int)) (a age : Int) : List (Int × Int × Int) := if hasRL l a then l.set (l.findIdx (isR a)) ((l.getD (l.findIdx (isR a)) (0, 0, 0)).1, (l.getD (l.findIdx (isR a)) (0, 0, 0)).2.1, age) else l
theorem BX.keep {w V W : World} {g g1 : Nat} {d : Dg} {dv rv wv ov iv : Value} (h : BX w V g g1 d dv rv wv ov iv) (k0 : W.heap[g]? = V.heap[g]?) (k1 : W.heap[g1]? = V.heap[g1]?) (sz : V.heap.size ≤ W.heap.size) (bl : Below w.heap.size w W) : BX w W g g1 d dv rv wv ov iv :=
  ⟨k0.trans h.b0, k1.trans h.b1, h.ne, by have := h.sz; omega, h.lo, bl⟩
def dfromS (d : Dg) (a age : Int) : Dg := { d with Rs := fromL d.Rs a age }
set_option maxRecDepth 100000 in
set_option maxHeartbeats 4000000 in
theorem rfrom_any {w : World} {v : Value} {d : Dg} (h : DV w v d) (y z : Int) (hl : d.Rs.length ≤ 1000) : Calls Try.prog 47 #[v, .int .i64 y, .int .i64 z] w (DQ v (dfromS d y z) (.bool (hasRL d.Rs y)) w) := by
  obtain ⟨dv, rv, wv, ov, iv, rfl, h⟩ := h
  have HX : Hid (DX w d dv rv wv ov iv) := h
  obtain ⟨a3, k3, e3⟩ := h.dd.form
  obtain ⟨a4, k4, e4⟩ := h.rr.form
  obtain ⟨a5, k5, e5⟩ := h.ww.form
  obtain ⟨a6, k6, e6⟩ := h.oo.form
  obtain ⟨a7, k7, e7⟩ := h.ii.form
  subst e3 e4 e5 e6 e7
  clear h
  obtain ⟨V, g, hg, hV, hb⟩ := boxes w d (.slice a3 d.Rd.length k3) (.slice a4 d.Rs.length k4) (.slice a5 d.Ws.length k5) (.slice a6 d.Os.length k6) (.slice a7 d.Is.length k7)
  have HV : Hid _ := hV
  have HGG : Hid (w.heap.size = g) := hg
  have HB : Hid (BX w V g (g + 1) d (.slice a3 d.Rd.length k3) (.slice a4 d.Rs.length k4) (.slice a5 d.Ws.length k5) (.slice a6 d.Os.length k6) (.slice a7 d.Is.length k7)) := hb
  obtain ⟨b0, b1, b2, b3, b4, b5, b6, b7⟩ := hb.c0
  have HR : Hid (Calls Try.prog 57 #[.agg #[.int .i64 d.R, .int .i64 d.W, .int .i64 d.O, .slice a3 d.Rd.length k3, .slice a4 d.Rs.length k4, .slice a5 d.Ws.length k5, .slice a6 d.Os.length k6, .slice a7 d.Is.length k7], .int .i64 y] V (AN V (.int .i64 (idxI (d.Rs.findIdx (isR y)) d.Rs.length)))) := rread_any ⟨_, _, _, _, _, rfl, HX.out.below hb.bl⟩ y hl
  have hl' : d.Rs.length ≤ 100000 := by omega
  have HL : Hid (([] : List (Int × Int × Int)).length + d.Rs.length ≤ 100000) := by show _ ≤ _; simp; omega
  clear hV hg hb
  by_cases hf : d.Rs.findIdx (isR y) < d.Rs.length
  · have HF0 : Hid (hasRL d.Rs y = true) := decide_eq_true hf
    have HF1 : Hid (fromL d.Rs y z = d.Rs.set (d.Rs.findIdx (isR y)) ((d.Rs.getD (d.Rs.findIdx (isR y)) (0, 0, 0)).1, (d.Rs.getD (d.Rs.findIdx (isR y)) (0, 0, 0)).2.1, z)) := by show _ = _; unfold fromL; rw [HF0.out, if_pos rfl]
    have HF2 : Hid (d.Rs.findIdx (isR y) < d.Rs.length) := hf
    rw [idxI, if_pos hf] at HR
    generalize d.Rs.findIdx (isR y) = q at *
    go_enter Try.func47, Try.ntmps47
    go_upto_region 1 with fail
    rw [HV.out, HGG.out]
    go_wp2_with fail
    refine HR.out.mono ?_
    rintro e w2 ⟨rfl, bw2⟩
    have hb2 := HB.out.below bw2
    have HB2 : Hid (BX w w2 g (g + 1) d (.slice a3 d.Rd.length k3) (.slice a4 d.Rs.length k4) (.slice a5 d.Ws.length k5) (.slice a6 d.Os.length k6) (.slice a7 d.Is.length k7)) := hb2
    have c4 := hb2.c0.2.2.2.2.1
    have c4' : (w2.alloc (.cells #[] 107)).cell? ⟨g, 4, none⟩ = some (.slice a4 d.Rs.length k4) := (hb2.below (bl1 w2 _)).c0.2.2.2.2.1
    have HE : Hid (RZ kQ (w2.alloc (.cells #[] 107)) (.slice (some ⟨w2.heap.size, 0, none⟩) 0 0) []) := RZ.empty kQ w2
    have HO : Hid (RS kQ (w2.alloc (.cells #[] 107)) (.slice a4 d.Rs.length k4) d.Rs) := (HX.out.rr.below hb2.bl).below (bl1 w2 _)
    clear b0 b1 b2 b3 b4 b5 b6 b7 bw2 hb2 HR
    go_wp2_with (at_builtin; refine push_row kQ _ rfl _ _ rfl _ _ [] d.Rs rfl rfl HE.out HO.out HL.out ?_)
    intro v4 w4 hz g4 ho
    try rw [List.nil_append] at hz
    obtain ⟨B4, n4⟩ := push_new g4 ho (by first | omega | (simp; omega) | simp)
    have hb4 := HB2.out.below B4
    have hz5 : RZ kQ (w4.setCell ⟨g, 4, none⟩ v4) v4 d.Rs := hz.keep fun g' hg' => Below.heap_setCell _ _ _ _ (by have := n4 g' hg'; have := HB2.out.sz; show g' ≠ g; omega)
    obtain ⟨bb, k8, hv4, hcl, hfr⟩ := hz5.cell HF2.out
    subst hv4
    obtain ⟨⟨z0, z1, z2⟩, hzz⟩ : ∃ x, d.Rs[q]'(HF2.out) = x := ⟨_, rfl⟩
    have hset := hz5.set HF2.out (j := 2) (by decide) (.int .i64 z) ((d.Rs.getD q (0, 0, 0)).1, (d.Rs.getD q (0, 0, 0)).2.1, z) (by rw [getD_at _ _ _ HF2.out]; rfl)
    rw [← HF1.out] at hset
    rw [hzz] at hcl
    obtain ⟨x0, x1, x2⟩ := tri_own rfl rfl hcl
    have xf := hfr (q * 3 + 2)
    have n8 : w2.heap.size ≤ bb := n4 bb rfl
    have hs := HB2.out.sz
    have h4c := hb4.c0.2.2.2.2.1
    have h4f := (hb4.f 4).1
    have x4 : (w4.setCell ⟨g, 4, none⟩ (.slice (some ⟨bb, 0, none⟩) d.Rs.length k8)).cell? ⟨g, 4, none⟩ = some (.slice (some ⟨bb, 0, none⟩) d.Rs.length k8) := (hb4.set (e := d) (dv' := .slice a3 d.Rd.length k3) (rv' := .slice (some ⟨bb, 0, none⟩) d.Rs.length k8) (wv' := .slice a5 d.Ws.length k5) (ov' := .slice a6 d.Os.length k6) (iv' := .slice a7 d.Is.length k7) 4 (.slice (some ⟨bb, 0, none⟩) d.Rs.length k8) rfl).c0.2.2.2.2.1
    have hb5 : BX w (w4.setCell ⟨g, 4, none⟩ (.slice (some ⟨bb, 0, none⟩) d.Rs.length k8)) g (g + 1) { d with Rs := fromL d.Rs y z } (.slice a3 d.Rd.length k3) (.slice (some ⟨bb, 0, none⟩) d.Rs.length k8) (.slice a5 d.Ws.length k5) (.slice a6 d.Os.length k6) (.slice a7 d.Is.length k7) := hb4.set 4 _ rfl
    have hb6 := hb5.keep (W := (w4.setCell ⟨g, 4, none⟩ (.slice (some ⟨bb, 0, none⟩) d.Rs.length k8)).setCell ⟨bb, q * 3 + 2, none⟩ (.int .i64 z)) (Below.heap_setCell _ _ _ _ (by show g ≠ bb; omega)) (Below.heap_setCell _ _ _ _ (by show g + 1 ≠ bb; omega)) (by simp [World.setCell]) (hb5.bl.setCell (p := ⟨bb, q * 3 + 2, none⟩) (by have := HB2.out.bl.size; show w.heap.size ≤ bb; omega) _)
    have HB6 : Hid (BX w ((w4.setCell ⟨g, 4, none⟩ (.slice (some ⟨bb, 0, none⟩) d.Rs.length k8)).setCell ⟨bb, q * 3 + 2, none⟩ (.int .i64 z)) g (g + 1) { d with Rs := fromL d.Rs y z } (.slice a3 d.Rd.length k3) (.slice (some ⟨bb, 0, none⟩) d.Rs.length k8) (.slice a5 d.Ws.length k5) (.slice a6 d.Os.length k6) (.slice a7 d.Is.length k7)) := hb6
    have HS6 : Hid (RZ kQ ((w4.setCell ⟨g, 4, none⟩ (.slice (some ⟨bb, 0, none⟩) d.Rs.length k8)).setCell ⟨bb, q * 3 + 2, none⟩ (.int .i64 z)) (.slice (some ⟨bb, 0, none⟩) d.Rs.length k8) (fromL d.Rs y z)) := hset
    have HBB : Hid (bb ≠ g + 1) := by show _ ≠ _; omega
    have HBG : Hid (w.heap.size ≤ bb) := by show _ ≤ _; have := HB2.out.bl.size; omega
    have i1 : (0 : Int) ≤ (q : Int) := by omega
    have hqn := HF2.out
    have i2 : (q : Int) < (d.Rs.length : Int) := by omega
    have ed : decide ((q : Int) < 0) = false := by simp
    clear hz g4 ho B4 n4 hb4 hz5 hcl hfr hzz hset hb5 hb6 HE HO c4' hs n8 x0 x1
    go_upto_region 6 with fail
    generalize (w4.setCell ⟨g, 4, none⟩ (.slice (some ⟨bb, 0, none⟩) d.Rs.length k8)).setCell ⟨bb, q * 3 + 2, none⟩ (.int .i64 z) = W at *
    obtain ⟨b0, b1, b2, b3, b4, b5, b6, b7⟩ := HB6.out.c0
    obtain ⟨y0, y1, y2, y3, y4, y5, y6, y7⟩ := HB6.out.c1
    have f0 := (HB6.out.f 0).2
    have f1 := (HB6.out.f 1).2
    have f2 := (HB6.out.f 2).2
    have f3 := (HB6.out.f 3).2
    have f4 := (HB6.out.f 4).2
    have f5 := (HB6.out.f 5).2
    have f6 := (HB6.out.f 6).2
    have f7 := (HB6.out.f 7).2
    have ne := HB6.out.ne
    have ne' := HB6.out.ne.symm
    have HF : Hid (DQ (.agg #[.int .i64 d.R, .int .i64 d.W, .int .i64 d.O, .slice a3 d.Rd.length k3, .slice a4 d.Rs.length k4, .slice a5 d.Ws.length k5, .slice a6 d.Os.length k6, .slice a7 d.Is.length k7]) (dfromS d y z) (.bool (hasRL d.Rs y)) w (.returned (.tuple #[.agg #[.int .i64 d.R, .int .i64 d.W, .int .i64 d.O, .slice a3 d.Rd.length k3, .slice (some ⟨bb, 0, none⟩) d.Rs.length k8, .slice a5 d.Ws.length k5, .slice a6 d.Os.length k6, .slice a7 d.Is.length k7], .bool true])) (put8W W (g + 1) (.int .i64 d.R) (.int .i64 d.W) (.int .i64 d.O) (.slice a3 d.Rd.length k3) (.slice (some ⟨bb, 0, none⟩) d.Rs.length k8) (.slice a5 d.Ws.length k5) (.slice a6 d.Os.length k6) (.slice a7 d.Is.length k7))) := by
      show DQ _ _ _ _ _ _
      rw [HF0.out]
      refine HB6.out.fin (e := dfromS d y z) (fun W' hW hk => ?_) (FV.of (FB.new fun g' h => by have : bb = g' := (by simpa [Value.ownBlock] using h); have := HBG.out; omega) (.inl rfl) (.inl rfl) (.inl rfl)) _ _ _ _ _ _ _ _ _
      have hx := HX.out.below hW
      exact ⟨hx.dd, (HS6.out.keep fun g' hg' => hk g' (by have : bb = g' := (by simpa [Value.ownBlock] using hg'); have := HBB.out; omega)).rs, hx.ww, hx.oo, hx.ii⟩
    clear HF1 HF0 hl' xf x2 h4c h4f x4
    go_wp2_with fail
    refine bodyPost_ret (ret_L2 Try.results47 _ (g + 1) rfl _ _ _ _ _ _ _ _ _ (put8V HB6.out.b1)) rfl ?_
    exact HF.out
  · have HF0 : Hid (hasRL d.Rs y = false) := decide_eq_false hf
    have HF1 : Hid (fromL d.Rs y z = d.Rs) := by show _ = _; unfold fromL; rw [HF0.out]; rfl
    rw [idxI, if_neg hf] at HR
    go_enter Try.func47, Try.ntmps47
    go_upto_region 1 with fail
    rw [HV.out, HGG.out]
    go_wp2_with fail
    refine HR.out.mono ?_
    rintro e w2 ⟨rfl, bw2⟩
    have hb2 := HB.out.below bw2
    have HB2 : Hid (BX w w2 g (g + 1) d (.slice a3 d.Rd.length k3) (.slice a4 d.Rs.length k4) (.slice a5 d.Ws.length k5) (.slice a6 d.Os.length k6) (.slice a7 d.Is.length k7)) := hb2
    clear b0 b1 b2 b3 b4 b5 b6 b7 bw2 hb2 HR
    obtain ⟨b0, b1, b2, b3, b4, b5, b6, b7⟩ := HB2.out.c0
    obtain ⟨y0, y1, y2, y3, y4, y5, y6, y7⟩ := HB2.out.c1
    have f0 := (HB2.out.f 0).2
    have f1 := (HB2.out.f 1).2
    have f2 := (HB2.out.f 2).2
    have f3 := (HB2.out.f 3).2
    have f4 := (HB2.out.f 4).2
    have f5 := (HB2.out.f 5).2
    have f6 := (HB2.out.f 6).2
    have f7 := (HB2.out.f 7).2
    have ne := HB2.out.ne
    have ne' := HB2.out.ne.symm
    have HF : Hid (DQ (.agg #[.int .i64 d.R, .int .i64 d.W, .int .i64 d.O, .slice a3 d.Rd.length k3, .slice a4 d.Rs.length k4, .slice a5 d.Ws.length k5, .slice a6 d.Os.length k6, .slice a7 d.Is.length k7]) (dfromS d y z) (.bool (hasRL d.Rs y)) w (.returned (.tuple #[.agg #[.int .i64 d.R, .int .i64 d.W, .int .i64 d.O, .slice a3 d.Rd.length k3, .slice a4 d.Rs.length k4, .slice a5 d.Ws.length k5, .slice a6 d.Os.length k6, .slice a7 d.Is.length k7], .bool false])) (put8W w2 (g + 1) (.int .i64 d.R) (.int .i64 d.W) (.int .i64 d.O) (.slice a3 d.Rd.length k3) (.slice a4 d.Rs.length k4) (.slice a5 d.Ws.length k5) (.slice a6 d.Os.length k6) (.slice a7 d.Is.length k7))) := by
      show DQ _ _ _ _ _ _
      unfold dfromS
      rw [HF0.out, HF1.out]
      exact HB2.out.fin (fun W hW _ => HX.out.below hW) (FV.of (.inl rfl) (.inl rfl) (.inl rfl) (.inl rfl)) _ _ _ _ _ _ _ _ _
    go_wp2_with fail
    refine bodyPost_ret (ret_L2 Try.results47 _ (g + 1) rfl _ _ _ _ _ _ _ _ _ (put8V HB2.out.b1)) rfl ?_
    exact HF.out
end Go.Proofs.Ytongeppdaeekeaa
