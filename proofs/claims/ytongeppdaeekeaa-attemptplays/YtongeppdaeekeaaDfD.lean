/- A number goes into a reduction, in the document. -/
import Derived.Test.YtongeppdaeekeaaDfC
namespace Go.Proofs.Ytongeppdaeekeaa
open Go.RowKit Go.Maps
set_option linter.unusedVariables false

def dintoS (d : Dg) (c n : Int) : Dg := if inB d.Rd.length c then { d with Is := d.Is ++ [(c, n)] } else d
set_option maxRecDepth 100000 in
set_option maxHeartbeats 4000000 in
theorem rinto_any {w : World} {v : Value} {d : Dg} (h : DV w v d) (y z : Int) (hl : d.Is.length ≤ 1000) : Calls Try.prog 54 #[v, .int .i64 y, .int .i64 z] w (DQ v (dintoS d y z) (.bool (inB d.Rd.length y)) w) := by
  obtain ⟨dv, rv, wv, ov, iv, rfl, h⟩ := h
  obtain ⟨m, hm⟩ : ∃ m, d.Is.length = m := ⟨_, rfl⟩
  have HM : Hid (d.Is.length = m) := hm
  obtain ⟨nd, hnd⟩ : ∃ m, d.Rd.length = m := ⟨_, rfl⟩
  have HD : Hid (d.Rd.length = nd) := hnd
  have HX : Hid (DX w d dv rv wv ov iv) := h
  obtain ⟨a3, k3, e3⟩ := h.dd.form
  obtain ⟨a4, k4, e4⟩ := h.rr.form
  obtain ⟨a5, k5, e5⟩ := h.ww.form
  obtain ⟨a6, k6, e6⟩ := h.oo.form
  obtain ⟨a7, k7, e7⟩ := h.ii.form
  rw [hm] at hl e7
  rw [hnd] at e3
  subst e3 e4 e5 e6 e7
  clear h hm hnd
  obtain ⟨V, g, hg, hV, hb⟩ := boxes w d _ _ _ _ _
  have HV : Hid _ := hV
  have HGG : Hid (w.heap.size = g) := hg
  have HB : Hid (BX w V g (g + 1) d _ _ _ _ _) := hb
  obtain ⟨b0, b1, b2, b3, b4, b5, b6, b7⟩ := hb.c0
  clear hV hg hb
  go_enter Try.func54, Try.ntmps54
  go_upto_region 1 with fail
  rw [HV.out, HGG.out]
  by_cases h0 : y < 0
  · have e1 : decide (y < 0) = true := by simp [h0]
    have HF0 : Hid (inB d.Rd.length y = false) := by show _ = _; unfold inB; simp; omega
    obtain ⟨y0, y1, y2, y3, y4, y5, y6, y7⟩ := HB.out.c1
    have f0 := (HB.out.f 0).2
    have f1 := (HB.out.f 1).2
    have f2 := (HB.out.f 2).2
    have f3 := (HB.out.f 3).2
    have f4 := (HB.out.f 4).2
    have f5 := (HB.out.f 5).2
    have f6 := (HB.out.f 6).2
    have f7 := (HB.out.f 7).2
    have ne := HB.out.ne
    have ne' := HB.out.ne.symm
    have HF : Hid (DQ (.agg #[.int .i64 d.R, .int .i64 d.W, .int .i64 d.O, .slice a3 nd k3, .slice a4 d.Rs.length k4, .slice a5 d.Ws.length k5, .slice a6 d.Os.length k6, .slice a7 m k7]) (dintoS d y z) (.bool (inB d.Rd.length y)) w (.returned (.tuple #[.agg #[.int .i64 d.R, .int .i64 d.W, .int .i64 d.O, .slice a3 nd k3, .slice a4 d.Rs.length k4, .slice a5 d.Ws.length k5, .slice a6 d.Os.length k6, .slice a7 m k7], .bool false])) (put8W V (g + 1) (.int .i64 d.R) (.int .i64 d.W) (.int .i64 d.O) (.slice a3 nd k3) (.slice a4 d.Rs.length k4) (.slice a5 d.Ws.length k5) (.slice a6 d.Os.length k6) (.slice a7 m k7))) := by
      show DQ _ _ _ _ _ _
      unfold dintoS
      rw [HF0.out, if_neg (by decide)]
      exact HB.out.fin (fun W hW _ => HX.out.below hW) (FV.of (.inl rfl) (.inl rfl) (.inl rfl) (.inl rfl)) _ _ _ _ _ _ _ _ _
    go_wp2_with fail
    refine bodyPost_ret (ret_L2 Try.results54 _ (g + 1) rfl _ _ _ _ _ _ _ _ _ (put8V HB.out.b1)) rfl ?_
    exact HF.out
  by_cases h1 : (nd : Int) ≤ y
  · have e1 : decide (y < 0) = false := by simp; omega
    have e2 : decide ((nd : Int) ≤ y) = true := by simp [h1]
    have HF0 : Hid (inB d.Rd.length y = false) := by show _ = _; unfold inB; rw [HD.out]; simp; omega
    obtain ⟨y0, y1, y2, y3, y4, y5, y6, y7⟩ := HB.out.c1
    have f0 := (HB.out.f 0).2
    have f1 := (HB.out.f 1).2
    have f2 := (HB.out.f 2).2
    have f3 := (HB.out.f 3).2
    have f4 := (HB.out.f 4).2
    have f5 := (HB.out.f 5).2
    have f6 := (HB.out.f 6).2
    have f7 := (HB.out.f 7).2
    have ne := HB.out.ne
    have ne' := HB.out.ne.symm
    have HF : Hid (DQ (.agg #[.int .i64 d.R, .int .i64 d.W, .int .i64 d.O, .slice a3 nd k3, .slice a4 d.Rs.length k4, .slice a5 d.Ws.length k5, .slice a6 d.Os.length k6, .slice a7 m k7]) (dintoS d y z) (.bool (inB d.Rd.length y)) w (.returned (.tuple #[.agg #[.int .i64 d.R, .int .i64 d.W, .int .i64 d.O, .slice a3 nd k3, .slice a4 d.Rs.length k4, .slice a5 d.Ws.length k5, .slice a6 d.Os.length k6, .slice a7 m k7], .bool false])) (put8W V (g + 1) (.int .i64 d.R) (.int .i64 d.W) (.int .i64 d.O) (.slice a3 nd k3) (.slice a4 d.Rs.length k4) (.slice a5 d.Ws.length k5) (.slice a6 d.Os.length k6) (.slice a7 m k7))) := by
      show DQ _ _ _ _ _ _
      unfold dintoS
      rw [HF0.out, if_neg (by decide)]
      exact HB.out.fin (fun W hW _ => HX.out.below hW) (FV.of (.inl rfl) (.inl rfl) (.inl rfl) (.inl rfl)) _ _ _ _ _ _ _ _ _
    go_wp2_with fail
    refine bodyPost_ret (ret_L2 Try.results54 _ (g + 1) rfl _ _ _ _ _ _ _ _ _ (put8V HB.out.b1)) rfl ?_
    exact HF.out
  · have e1 : decide (y < 0) = false := by simp; omega
    have e2 : decide ((nd : Int) ≤ y) = false := by simp; omega
    have HF0 : Hid (inB d.Rd.length y = true) := by show _ = _; unfold inB; rw [HD.out]; simp; omega
    have HE : Hid (RZ kI (V.alloc (.cells #[] 152)) (.slice (some ⟨V.heap.size, 0, none⟩) 0 0) []) := RZ.empty kI V
    have HO : Hid (RS kI (V.alloc (.cells #[] 152)) (.slice a7 m k7) d.Is) := (HX.out.ii.below HB.out.bl).below (bl1 V _)
    have hl5 : ([] : List (Int × Int)).length + d.Is.length ≤ 100000 := by have := HM.out; simp; omega
    have q6 : (V.alloc (.cells #[] 152)).cell? ⟨g, 7, none⟩ = some (.slice a7 m k7) := (HB.out.below (bl1 V _)).c0.2.2.2.2.2.2.2
    go_wp2_with (at_builtin; refine push_row kI _ rfl _ _ rfl _ _ [] d.Is rfl rfl HE.out HO.out hl5 ?_)
    intro v4 w4 hz g4 ho
    try rw [List.nil_append] at hz
    obtain ⟨B4, n4⟩ := push_new g4 ho (by first | omega | (simp; omega) | simp)
    have HZ4 : Hid (RZ kI w4 v4 d.Is) := hz
    have HB4 : Hid (Below V.heap.size V w4) := B4
    have HN4 : Hid (∀ g, v4.ownBlock = some g → V.heap.size ≤ g) := n4
    clear hz g4 ho B4 n4 q6 HE HO
    have HE : Hid (∀ A, RZ kI (w4.alloc A) v4 d.Is) := fun A => HZ4.out.below (bl1 w4 A)
    have HP2 : Hid (RS kI (w4.alloc (.cells #[.int .i64 y, .int .i64 z] 152)) (.slice (some ⟨w4.heap.size, 0, none⟩) 1 1) [(y, z)]) := RS.one2 rfl rfl _ _ _ (by simp) (by simp)
    have hl6 : d.Is.length + [(y, z)].length ≤ 100000 := by have := HM.out; simp; omega
    go_wp2_with (at_builtin; refine push_row kI _ rfl _ _ rfl _ _ d.Is [(y, z)] rfl rfl (HE.out _) HP2.out hl6 ?_)
    intro v5 w5 hz g5 ho
    obtain ⟨B5, n5⟩ := push_more (HB4.out.alloc HB4.out.size _) HN4.out g5 ho (by have := HB4.out.size; first | omega | (simp; omega))
    obtain ⟨a8, k8, rfl⟩ := hz.sl
    have HZ5 : Hid (RZ kI w5 _ (d.Is ++ [(y, z)])) := hz
    have HN5 : Hid (∀ g, _ = some g → V.heap.size ≤ g) := n5
    have hb5 := HB.out.below B5
    have x6 := hb5.c0.2.2.2.2.2.2.2
    have xf := (hb5.f 7).1
    have hl7 : (d.Is ++ [(y, z)]).length = m + 1 := by have := HM.out; simp; omega
    rw [hl7] at HZ5 HN5 ⊢
    have hb6 := hb5.set (e := { d with Is := d.Is ++ [(y, z)] }) 7 (.slice a8 (m + 1) k8) rfl
    have HB6 : Hid (BX w (w5.setCell ⟨g, 7, none⟩ (.slice a8 (m + 1) k8)) g (g + 1) { d with Is := d.Is ++ [(y, z)] } _ _ _ _ _) := hb6
    obtain ⟨b0, b1, b2, b3, b4, b5, b6, b7⟩ := hb6.c0
    obtain ⟨y0, y1, y2, y3, y4, y5, y6, y7⟩ := hb6.c1
    have f0 := (hb6.f 0).2
    have f1 := (hb6.f 1).2
    have f2 := (hb6.f 2).2
    have f3 := (hb6.f 3).2
    have f4 := (hb6.f 4).2
    have f5 := (hb6.f 5).2
    have f6 := (hb6.f 6).2
    have f7 := (hb6.f 7).2
    have ne := hb6.ne
    have ne' := hb6.ne.symm
    clear hz g5 ho B5 n5 hb5 hb6 HE HP2
    have HF : Hid (∀ W, w5.setCell ⟨g, 7, none⟩ (.slice a8 (m + 1) k8) = W → DQ (.agg #[.int .i64 d.R, .int .i64 d.W, .int .i64 d.O, .slice a3 nd k3, .slice a4 d.Rs.length k4, .slice a5 d.Ws.length k5, .slice a6 d.Os.length k6, .slice a7 m k7]) (dintoS d y z) (.bool (inB d.Rd.length y)) w (.returned (.tuple #[.agg #[.int .i64 d.R, .int .i64 d.W, .int .i64 d.O, .slice a3 nd k3, .slice a4 d.Rs.length k4, .slice a5 d.Ws.length k5, .slice a6 d.Os.length k6, .slice a8 (m + 1) k8], .bool true])) (put8W W (g + 1) (.int .i64 d.R) (.int .i64 d.W) (.int .i64 d.O) (.slice a3 nd k3) (.slice a4 d.Rs.length k4) (.slice a5 d.Ws.length k5) (.slice a6 d.Os.length k6) (.slice a8 (m + 1) k8))) := by
      rintro W rfl
      show DQ _ _ _ _ _ _
      unfold dintoS
      rw [HF0.out, if_pos rfl]
      refine HB6.out.fin (fun W hW hk => ?_) (FV.of (.inl rfl) (.inl rfl) (.inl rfl) (FB.new fun g h => Nat.le_trans HB.out.bl.size (HN5.out g h))) _ _ _ _ _ _ _ _ _
      have hx := HX.out.below hW
      refine ⟨hx.dd, hx.rr, hx.ww, hx.oo, ?_⟩
      refine (HZ5.out.keep fun g' hg' => ?_).rs
      have h1 := HN5.out g' hg'
      have h2 := HB.out.sz
      rw [hk g' (by omega)]
      exact Below.heap_setCell _ _ _ _ (by show g' ≠ g; omega)
    have hg1 := HB6.out.b1
    have HB1 : Hid (∀ W, w5.setCell ⟨g, 7, none⟩ (.slice a8 (m + 1) k8) = W → W.heap[g + 1]? = some (.cells #[.int .i64 0, .int .i64 0, .int .i64 0, .slice none 0 0, .slice none 0 0, .slice none 0 0, .slice none 0 0, .slice none 0 0] 35)) := by rintro W rfl; exact hg1
    clear hg1
    go_upto_region 4 with fail
    generalize hW : w5.setCell ⟨g, 7, none⟩ (.slice a8 (m + 1) k8) = W at *
    have HF2 := HF.out W rfl
    have HB2 := HB1.out W rfl
    go_wp2_with fail
    refine bodyPost_ret (ret_L2 Try.results54 _ (g + 1) rfl _ _ _ _ _ _ _ _ _ (put8V HB2)) rfl ?_
    exact HF2
end Go.Proofs.Ytongeppdaeekeaa
