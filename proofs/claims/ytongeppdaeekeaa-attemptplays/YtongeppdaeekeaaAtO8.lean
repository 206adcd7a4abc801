/- A call of both logs: Write, where they do not agree on the room. -/
import Derived.Test.YtongeppdaeekeaaAtO
namespace Go.Proofs.Ytongeppdaeekeaa
open Go.RowKit Go.Maps
set_option linter.unusedVariables false

set_option maxRecDepth 100000 in
set_option maxHeartbeats 8000000 in
theorem one_writeN3 {w : World} {lab : Nat → Nat} {c lb : Nat} {s : Lg} {v : Value} {d : Dg} (h : LV w lab c lb s) (hd : DW (Free lab) w v d) (x : O4) (hx : kindI x.kd = 3) (hl : d.Ws.length ≤ 1000) (hm : (roomB s x.at_ != (dwriteE d x.at_ == 0)) = true) :
    Calls Try.prog 11 #[.pointer (some ⟨lb, 0, none⟩), v, opA x] w (OneQ c lab lb s d false w) := by
  obtain ⟨a3, k3, a4, k4, a5, k5, a6, k6, a7, k7, rfl⟩ := hd.forms
  have HKA : Hid (∀ w, Calls Try.prog 45 #[.int .i64 x.kd] w (fun e w' => e = .returned (.int .i64 (kindI x.kd)) ∧ w' = w)) := fun w => kind_any x.kd w
  obtain ⟨U, hU⟩ : ∃ U, ((w.alloc (.cells #[.int .i64 d.R, .int .i64 d.W, .int .i64 d.O, .slice a3 d.Rd.length k3, .slice a4 d.Rs.length k4, .slice a5 d.Ws.length k5, .slice a6 d.Os.length k6, .slice a7 d.Is.length k7] 35)).alloc (.cells #[.int .i64 x.kd, .int .i64 x.at_, .int .i64 x.fr, .int .i64 x.vl] 44)).alloc (.cells #[.int .i64 0, .int .i64 0, .int .i64 0, .slice none 0 0, .slice none 0 0, .slice none 0 0, .slice none 0 0, .slice none 0 0] 35) = U := ⟨_, rfl⟩
  have HU : Hid _ := hU
  obtain ⟨g0, hg0⟩ : ∃ g, w.heap.size = g := ⟨_, rfl⟩
  have HG : Hid (w.heap.size = g0) := hg0
  have hB : B3 U g0 (g0 + 1) (g0 + 1 + 1) d x (.slice a3 d.Rd.length k3) (.slice a4 d.Rs.length k4) (.slice a5 d.Ws.length k5) (.slice a6 d.Os.length k6) (.slice a7 d.Is.length k7) := by
    rw [← hU, ← hg0]
    refine ⟨by rw [heap_alloc_old _ _ (by simp; omega), heap_alloc_old _ _ (by simp), heap_alloc_new], by rw [heap_alloc_old _ _ (by simp)]; exact heap_alloc2_new _ _ _, ?_⟩
    generalize hA : ((w.alloc (.cells #[.int .i64 d.R, .int .i64 d.W, .int .i64 d.O, .slice a3 d.Rd.length k3, .slice a4 d.Rs.length k4, .slice a5 d.Ws.length k5, .slice a6 d.Os.length k6, .slice a7 d.Is.length k7] 35)).alloc (.cells #[.int .i64 x.kd, .int .i64 x.at_, .int .i64 x.fr, .int .i64 x.vl] 44)) = A
    have e : w.heap.size + 1 + 1 = A.heap.size := by rw [← hA]; simp
    rw [e, heap_alloc_new]
  have hbl : Below w.heap.size w U := by rw [← hU]; exact ((bl1 w _).alloc (bl1 w _).size _).alloc ((bl1 w _).alloc (bl1 w _).size _).size _
  have hI : OI w U lab c lb s (fun k => k = g0 ∨ k = g0 + 1 ∨ k = g0 + 1 + 1) lab := by
    have h3 := (((OI.first h).alloc (.cells #[.int .i64 d.R, .int .i64 d.W, .int .i64 d.O, .slice a3 d.Rd.length k3, .slice a4 d.Rs.length k4, .slice a5 d.Ws.length k5, .slice a6 d.Os.length k6, .slice a7 d.Is.length k7] 35)).alloc (.cells #[.int .i64 x.kd, .int .i64 x.at_, .int .i64 x.fr, .int .i64 x.vl] 44)).alloc (.cells #[.int .i64 0, .int .i64 0, .int .i64 0, .slice none 0 0, .slice none 0 0, .slice none 0 0, .slice none 0 0, .slice none 0 0] 35)
    rw [hU] at h3
    refine h3.mono fun k hk => ?_
    simp only [World.size_alloc]
    omega
  have hsz : g0 + 3 ≤ U.heap.size := by rw [← hU, ← hg0]; simp
  have hD : DW (fun k => lab k = 0 ∧ k ≠ g0 + 1 + 1) U _ d := hd.keep fun k hk hp => ⟨hbl.block k hk, hp, by omega⟩
  have HB : Hid (B3 U g0 (g0 + 1) (g0 + 1 + 1) d x _ _ _ _ _) := hB
  have HI : Hid (OI w U lab c lb s (fun k => k = g0 ∨ k = g0 + 1 ∨ k = g0 + 1 + 1) lab) := hI
  have HD : Hid (DW (fun k => lab k = 0 ∧ k ≠ g0 + 1 + 1) U _ d) := hD
  have HP : Hid (∀ k, U.heap.size ≤ k → lab k = 0 ∧ k ≠ g0 + 1 + 1) := fun k hk => by
    refine ⟨?_, by omega⟩
    rcases Nat.eq_zero_or_pos (lab k) with r | r
    · exact r
    · have := h.lt k (by omega); have := hbl.size; omega
  obtain ⟨o0, o1, o2, o3⟩ := hB.c1
  obtain ⟨b0, b1, b2, b3, b4, b5, b6, b7⟩ := box_cell hB.b0
  have HDC : Hid (∀ W, DW (fun k => lab k = 0 ∧ k ≠ g0 + 1 + 1) W (.agg #[.int .i64 d.R, .int .i64 d.W, .int .i64 d.O, .slice a3 d.Rd.length k3, .slice a4 d.Rs.length k4, .slice a5 d.Ws.length k5, .slice a6 d.Os.length k6, .slice a7 d.Is.length k7]) d → Calls Try.prog 49 #[.agg #[.int .i64 d.R, .int .i64 d.W, .int .i64 d.O, .slice a3 d.Rd.length k3, .slice a4 d.Rs.length k4, .slice a5 d.Ws.length k5, .slice a6 d.Os.length k6, .slice a7 d.Is.length k7], .int .i64 x.at_, .int .i64 x.vl] W (DQ (.agg #[.int .i64 d.R, .int .i64 d.W, .int .i64 d.O, .slice a3 d.Rd.length k3, .slice a4 d.Rs.length k4, .slice a5 d.Ws.length k5, .slice a6 d.Os.length k6, .slice a7 d.Is.length k7]) (dwriteS d x.at_ x.vl) (.int .i64 (dwriteE d x.at_)) W)) := fun W hW => rwrite_any hW.dv _ _ hl
  have HRM : Hid (∀ W lab', LV W lab' c lb s → Calls Try.prog 50 #[.pointer (some ⟨lb, 0, none⟩), .int .i64 x.at_] W (AN W (.bool (roomB s x.at_)))) := fun W lab' h => room_any h _
  obtain ⟨rb, hrb⟩ : ∃ b, roomB s x.at_ = b := ⟨_, rfl⟩
  rw [hrb] at HRM hm
  have HPC : Hid (∀ W lab', LV W lab' c lb s → Calls Try.prog 51 #[.pointer (some ⟨lb, 0, none⟩), .int .i64 x.at_, .int .i64 x.vl] W (LQ c lab' lb (writeS s x.at_ x.vl) (.int .i64 (writeE s x.at_)) W)) := fun W lab' h => write_any h _ _
  obtain ⟨s', hs'⟩ : ∃ s', writeS s x.at_ x.vl = s' := ⟨_, rfl⟩
  obtain ⟨d', hd'⟩ : ∃ d', dwriteS d x.at_ x.vl = d' := ⟨_, rfl⟩
  obtain ⟨E1, hE1⟩ : ∃ e, writeE s x.at_ = e := ⟨_, rfl⟩
  obtain ⟨E2, hE2⟩ : ∃ e, dwriteE d x.at_ = e := ⟨_, rfl⟩
  rw [hs', hE1] at HPC
  rw [hd', hE2] at HDC
  rw [hE2] at hm
  have HKB : Hid (∀ w, Calls Try.prog 45 #[.int .i64 x.kd] w (fun e w' => e = .returned (.int .i64 3) ∧ w' = w)) := by rw [← hx]; exact HKA
  clear hrb hs' hd' hE1 hE2 hU hg0 hbl hI hsz hD hB hd h HKA hx
  obtain ⟨xk, xa, xf, xv⟩ := x
  simp only at o0 o1 o2 o3 HDC HPC HKB HRM
  unfold opA
  simp only
  have hcase : (rb = false ∧ E2 = 0) ∨ (rb = true ∧ E2 ≠ 0) := by cases rb <;> simp at hm <;> simp [hm]
  clear hm
  rcases hcase with ⟨rfl, rfl⟩ | ⟨rfl, hE⟩
  · have t0 : ((0 : Int) == 0) = true := rfl
    go_enter Try.func11, Try.ntmps11
    go_upto_region 1 with fail
    rw [HU.out, HG.out]
    go_wp2_with fail
    refine (HKB.out _).mono ?_
    rintro e w4 ⟨rfl, hw4⟩
    rw [hw4]
    clear hw4
    go_wp2_with fail
    refine (HDC.out U HD.out).mono ?_
    rintro e w3 ⟨bw, v1, rfl, hv1, hf1⟩
    have hD1 := HD.out.step hv1 hf1 HP.out
    obtain ⟨c3, l3, c4, l4, c5, l5, c6, l6, c7, l7, rfl⟩ := hD1.forms
    clear hv1 hf1 hD1
    have HB5 : Hid (B3 w3 g0 (g0 + 1) (g0 + 1 + 1) d ⟨xk, xa, xf, xv⟩ _ _ _ _ _) := HB.out.below bw
    have HI5 : Hid (OI w w3 lab c lb s (fun k => k = g0 ∨ k = g0 + 1 ∨ k = g0 + 1 + 1) lab) := HI.out.below bw
    have HD5 : Hid (DW (fun k => lab k = 0 ∧ k ≠ g0 + 1 + 1) w3 _ d) := HD.out.below bw
    have HP5 : Hid (∀ k, w3.heap.size ≤ k → lab k = 0 ∧ k ≠ g0 + 1 + 1) := fun k hk => HP.out k (by have := bw.size; omega)
    clear bw b0 b1 b2 b3 b4 b5 b6 b7 o0 o1 o2 o3
    go_upto_region 12 with fail
    have HB : Hid (B3 (w3.alloc (.cells #[.int .i64 d'.R, .int .i64 d'.W, .int .i64 d'.O, .slice c3 d'.Rd.length l3, .slice c4 d'.Rs.length l4, .slice c5 d'.Ws.length l5, .slice c6 d'.Os.length l6, .slice c7 d'.Is.length l7] 35)) g0 (g0 + 1) (g0 + 1 + 1) d ⟨xk, xa, xf, xv⟩ _ _ _ _ _) := HB5.out.below (bl1 _ _)
    have HI : Hid (OI w (w3.alloc (.cells #[.int .i64 d'.R, .int .i64 d'.W, .int .i64 d'.O, .slice c3 d'.Rd.length l3, .slice c4 d'.Rs.length l4, .slice c5 d'.Ws.length l5, .slice c6 d'.Os.length l6, .slice c7 d'.Is.length l7] 35)) lab c lb s (fun k => k = g0 ∨ k = g0 + 1 ∨ k = g0 + 1 + 1) lab) := HI5.out.below (bl1 _ _)
    have HD : Hid (DW (fun k => lab k = 0 ∧ k ≠ g0 + 1 + 1) (w3.alloc (.cells #[.int .i64 d'.R, .int .i64 d'.W, .int .i64 d'.O, .slice c3 d'.Rd.length l3, .slice c4 d'.Rs.length l4, .slice c5 d'.Ws.length l5, .slice c6 d'.Os.length l6, .slice c7 d'.Is.length l7] 35)) _ d) := HD5.out.below (bl1 _ _)
    have HP : Hid (∀ k, (w3.alloc (.cells #[.int .i64 d'.R, .int .i64 d'.W, .int .i64 d'.O, .slice c3 d'.Rd.length l3, .slice c4 d'.Rs.length l4, .slice c5 d'.Ws.length l5, .slice c6 d'.Os.length l6, .slice c7 d'.Is.length l7] 35)).heap.size ≤ k → lab k = 0 ∧ k ≠ g0 + 1 + 1) := fun k hk => HP5.out k (by rw [World.size_alloc] at hk; omega)
    generalize w3.alloc (.cells #[.int .i64 d'.R, .int .i64 d'.W, .int .i64 d'.O, .slice c3 d'.Rd.length l3, .slice c4 d'.Rs.length l4, .slice c5 d'.Ws.length l5, .slice c6 d'.Os.length l6, .slice c7 d'.Is.length l7] 35) = U1 at *
    clear HB5 HI5 HD5 HP5
    obtain ⟨o0, o1, o2, o3⟩ := HB.out.c1
    go_wp2_with fail
    refine (HI.out.look (HRM.out _ _ HI.out.lv)).mono ?_
    rintro e w4 ⟨rfl, i4, b4⟩
    have HBw : Hid (B3 w4 g0 (g0 + 1) (g0 + 1 + 1) d ⟨xk, xa, xf, xv⟩ _ _ _ _ _) := HB.out.below b4
    have HIw : Hid (OI w w4 lab c lb s (fun k => k = g0 ∨ k = g0 + 1 ∨ k = g0 + 1 + 1) lab) := i4
    have HDw : Hid (DW (fun k => lab k = 0 ∧ k ≠ g0 + 1 + 1) w4 _ d) := HD.out.below b4
    have HPw : Hid (∀ k, w4.heap.size ≤ k → lab k = 0 ∧ k ≠ g0 + 1 + 1) := fun k hk => HP.out k (by have := b4.size; omega)
    clear i4 b4 HB HI HD HP o0 o1 o2 o3
    obtain ⟨o0, o1, o2, o3⟩ := HBw.out.c1
    obtain ⟨b0, b1, b2, b3, b4, b5, b6, b7⟩ := box_cell HBw.out.b0
    obtain ⟨z0, z1, z2, z3, z4, z5, z6, z7⟩ := box_cell HBw.out.b2
    have f0 := HBw.out.f2 0
    have f1 := HBw.out.f2 1
    have f2 := HBw.out.f2 2
    have f3 := HBw.out.f2 3
    have f4 := HBw.out.f2 4
    have f5 := HBw.out.f2 5
    have f6 := HBw.out.f2 6
    have f7 := HBw.out.f2 7
    have n1 : g0 ≠ g0 + 1 + 1 := by omega
    have n1' : g0 + 1 + 1 ≠ g0 := by omega
    have HQ : Hid (OneQ c lab lb s d false w (.returned (.tuple #[.agg #[.int .i64 d.R, .int .i64 d.W, .int .i64 d.O, .slice a3 d.Rd.length k3, .slice a4 d.Rs.length k4, .slice a5 d.Ws.length k5, .slice a6 d.Os.length k6, .slice a7 d.Is.length k7], .bool false])) (put8W w4 (g0 + 1 + 1) (.int .i64 d.R) (.int .i64 d.W) (.int .i64 d.O) (.slice a3 d.Rd.length k3) (.slice a4 d.Rs.length k4) (.slice a5 d.Ws.length k5) (.slice a6 d.Os.length k6) (.slice a7 d.Is.length k7))) := one_end HIw.out (.inr (.inr rfl)) HDw.out _ _ _ _ _ _ _ _
    have HB2 : Hid (w4.heap[g0 + 1 + 1]? = some (.cells #[.int .i64 0, .int .i64 0, .int .i64 0, .slice none 0 0, .slice none 0 0, .slice none 0 0, .slice none 0 0, .slice none 0 0] 35)) := HBw.out.b2
    clear HBw HIw HDw HPw HPC HDC HRM
    go_wp2_with fail
    refine bodyPost_ret (ret_L2 Try.results11 _ (g0 + 1 + 1) rfl _ _ _ _ _ _ _ _ _ (put8V HB2.out)) rfl ?_
    exact HQ.out
  · have t0 : (E2 == 0) = false := by simp [hE]
    go_enter Try.func11, Try.ntmps11
    go_upto_region 1 with fail
    rw [HU.out, HG.out]
    go_wp2_with fail
    refine (HKB.out _).mono ?_
    rintro e w4 ⟨rfl, hw4⟩
    rw [hw4]
    clear hw4
    go_wp2_with fail
    refine (HDC.out U HD.out).mono ?_
    rintro e w3 ⟨bw, v1, rfl, hv1, hf1⟩
    have hD1 := HD.out.step hv1 hf1 HP.out
    obtain ⟨c3, l3, c4, l4, c5, l5, c6, l6, c7, l7, rfl⟩ := hD1.forms
    clear hv1 hf1 hD1
    have HB5 : Hid (B3 w3 g0 (g0 + 1) (g0 + 1 + 1) d ⟨xk, xa, xf, xv⟩ _ _ _ _ _) := HB.out.below bw
    have HI5 : Hid (OI w w3 lab c lb s (fun k => k = g0 ∨ k = g0 + 1 ∨ k = g0 + 1 + 1) lab) := HI.out.below bw
    have HD5 : Hid (DW (fun k => lab k = 0 ∧ k ≠ g0 + 1 + 1) w3 _ d) := HD.out.below bw
    have HP5 : Hid (∀ k, w3.heap.size ≤ k → lab k = 0 ∧ k ≠ g0 + 1 + 1) := fun k hk => HP.out k (by have := bw.size; omega)
    clear bw b0 b1 b2 b3 b4 b5 b6 b7 o0 o1 o2 o3
    go_upto_region 12 with fail
    have HB : Hid (B3 (w3.alloc (.cells #[.int .i64 d'.R, .int .i64 d'.W, .int .i64 d'.O, .slice c3 d'.Rd.length l3, .slice c4 d'.Rs.length l4, .slice c5 d'.Ws.length l5, .slice c6 d'.Os.length l6, .slice c7 d'.Is.length l7] 35)) g0 (g0 + 1) (g0 + 1 + 1) d ⟨xk, xa, xf, xv⟩ _ _ _ _ _) := HB5.out.below (bl1 _ _)
    have HI : Hid (OI w (w3.alloc (.cells #[.int .i64 d'.R, .int .i64 d'.W, .int .i64 d'.O, .slice c3 d'.Rd.length l3, .slice c4 d'.Rs.length l4, .slice c5 d'.Ws.length l5, .slice c6 d'.Os.length l6, .slice c7 d'.Is.length l7] 35)) lab c lb s (fun k => k = g0 ∨ k = g0 + 1 ∨ k = g0 + 1 + 1) lab) := HI5.out.below (bl1 _ _)
    have HD : Hid (DW (fun k => lab k = 0 ∧ k ≠ g0 + 1 + 1) (w3.alloc (.cells #[.int .i64 d'.R, .int .i64 d'.W, .int .i64 d'.O, .slice c3 d'.Rd.length l3, .slice c4 d'.Rs.length l4, .slice c5 d'.Ws.length l5, .slice c6 d'.Os.length l6, .slice c7 d'.Is.length l7] 35)) _ d) := HD5.out.below (bl1 _ _)
    have HP : Hid (∀ k, (w3.alloc (.cells #[.int .i64 d'.R, .int .i64 d'.W, .int .i64 d'.O, .slice c3 d'.Rd.length l3, .slice c4 d'.Rs.length l4, .slice c5 d'.Ws.length l5, .slice c6 d'.Os.length l6, .slice c7 d'.Is.length l7] 35)).heap.size ≤ k → lab k = 0 ∧ k ≠ g0 + 1 + 1) := fun k hk => HP5.out k (by rw [World.size_alloc] at hk; omega)
    generalize w3.alloc (.cells #[.int .i64 d'.R, .int .i64 d'.W, .int .i64 d'.O, .slice c3 d'.Rd.length l3, .slice c4 d'.Rs.length l4, .slice c5 d'.Ws.length l5, .slice c6 d'.Os.length l6, .slice c7 d'.Is.length l7] 35) = U1 at *
    clear HB5 HI5 HD5 HP5
    obtain ⟨o0, o1, o2, o3⟩ := HB.out.c1
    go_wp2_with fail
    refine (HI.out.look (HRM.out _ _ HI.out.lv)).mono ?_
    rintro e w4 ⟨rfl, i4, b4⟩
    have HBw : Hid (B3 w4 g0 (g0 + 1) (g0 + 1 + 1) d ⟨xk, xa, xf, xv⟩ _ _ _ _ _) := HB.out.below b4
    have HIw : Hid (OI w w4 lab c lb s (fun k => k = g0 ∨ k = g0 + 1 ∨ k = g0 + 1 + 1) lab) := i4
    have HDw : Hid (DW (fun k => lab k = 0 ∧ k ≠ g0 + 1 + 1) w4 _ d) := HD.out.below b4
    have HPw : Hid (∀ k, w4.heap.size ≤ k → lab k = 0 ∧ k ≠ g0 + 1 + 1) := fun k hk => HP.out k (by have := b4.size; omega)
    clear i4 b4 HB HI HD HP o0 o1 o2 o3
    obtain ⟨o0, o1, o2, o3⟩ := HBw.out.c1
    obtain ⟨b0, b1, b2, b3, b4, b5, b6, b7⟩ := box_cell HBw.out.b0
    obtain ⟨z0, z1, z2, z3, z4, z5, z6, z7⟩ := box_cell HBw.out.b2
    have f0 := HBw.out.f2 0
    have f1 := HBw.out.f2 1
    have f2 := HBw.out.f2 2
    have f3 := HBw.out.f2 3
    have f4 := HBw.out.f2 4
    have f5 := HBw.out.f2 5
    have f6 := HBw.out.f2 6
    have f7 := HBw.out.f2 7
    have n1 : g0 ≠ g0 + 1 + 1 := by omega
    have n1' : g0 + 1 + 1 ≠ g0 := by omega
    have HQ : Hid (OneQ c lab lb s d false w (.returned (.tuple #[.agg #[.int .i64 d.R, .int .i64 d.W, .int .i64 d.O, .slice a3 d.Rd.length k3, .slice a4 d.Rs.length k4, .slice a5 d.Ws.length k5, .slice a6 d.Os.length k6, .slice a7 d.Is.length k7], .bool false])) (put8W w4 (g0 + 1 + 1) (.int .i64 d.R) (.int .i64 d.W) (.int .i64 d.O) (.slice a3 d.Rd.length k3) (.slice a4 d.Rs.length k4) (.slice a5 d.Ws.length k5) (.slice a6 d.Os.length k6) (.slice a7 d.Is.length k7))) := one_end HIw.out (.inr (.inr rfl)) HDw.out _ _ _ _ _ _ _ _
    have HB2 : Hid (w4.heap[g0 + 1 + 1]? = some (.cells #[.int .i64 0, .int .i64 0, .int .i64 0, .slice none 0 0, .slice none 0 0, .slice none 0 0, .slice none 0 0, .slice none 0 0] 35)) := HBw.out.b2
    clear HBw HIw HDw HPw HPC HDC HRM
    go_wp2_with fail
    refine bodyPost_ret (ret_L2 Try.results11 _ (g0 + 1 + 1) rfl _ _ _ _ _ _ _ _ _ (put8V HB2.out)) rfl ?_
    exact HQ.out
set_option maxRecDepth 100000 in
set_option maxHeartbeats 8000000 in
theorem one_writeN4 {w : World} {lab : Nat → Nat} {c lb : Nat} {s : Lg} {v : Value} {d : Dg} (h : LV w lab c lb s) (hd : DW (Free lab) w v d) (x : O4) (hx : kindI x.kd = 4) (hl : d.Ws.length ≤ 1000) (hm : (roomB s x.at_ != (dwriteE d x.at_ == 0)) = true) :
    Calls Try.prog 11 #[.pointer (some ⟨lb, 0, none⟩), v, opA x] w (OneQ c lab lb s d false w) := by
  obtain ⟨a3, k3, a4, k4, a5, k5, a6, k6, a7, k7, rfl⟩ := hd.forms
  have HKA : Hid (∀ w, Calls Try.prog 45 #[.int .i64 x.kd] w (fun e w' => e = .returned (.int .i64 (kindI x.kd)) ∧ w' = w)) := fun w => kind_any x.kd w
  obtain ⟨U, hU⟩ : ∃ U, ((w.alloc (.cells #[.int .i64 d.R, .int .i64 d.W, .int .i64 d.O, .slice a3 d.Rd.length k3, .slice a4 d.Rs.length k4, .slice a5 d.Ws.length k5, .slice a6 d.Os.length k6, .slice a7 d.Is.length k7] 35)).alloc (.cells #[.int .i64 x.kd, .int .i64 x.at_, .int .i64 x.fr, .int .i64 x.vl] 44)).alloc (.cells #[.int .i64 0, .int .i64 0, .int .i64 0, .slice none 0 0, .slice none 0 0, .slice none 0 0, .slice none 0 0, .slice none 0 0] 35) = U := ⟨_, rfl⟩
  have HU : Hid _ := hU
  obtain ⟨g0, hg0⟩ : ∃ g, w.heap.size = g := ⟨_, rfl⟩
  have HG : Hid (w.heap.size = g0) := hg0
  have hB : B3 U g0 (g0 + 1) (g0 + 1 + 1) d x (.slice a3 d.Rd.length k3) (.slice a4 d.Rs.length k4) (.slice a5 d.Ws.length k5) (.slice a6 d.Os.length k6) (.slice a7 d.Is.length k7) := by
    rw [← hU, ← hg0]
    refine ⟨by rw [heap_alloc_old _ _ (by simp; omega), heap_alloc_old _ _ (by simp), heap_alloc_new], by rw [heap_alloc_old _ _ (by simp)]; exact heap_alloc2_new _ _ _, ?_⟩
    generalize hA : ((w.alloc (.cells #[.int .i64 d.R, .int .i64 d.W, .int .i64 d.O, .slice a3 d.Rd.length k3, .slice a4 d.Rs.length k4, .slice a5 d.Ws.length k5, .slice a6 d.Os.length k6, .slice a7 d.Is.length k7] 35)).alloc (.cells #[.int .i64 x.kd, .int .i64 x.at_, .int .i64 x.fr, .int .i64 x.vl] 44)) = A
    have e : w.heap.size + 1 + 1 = A.heap.size := by rw [← hA]; simp
    rw [e, heap_alloc_new]
  have hbl : Below w.heap.size w U := by rw [← hU]; exact ((bl1 w _).alloc (bl1 w _).size _).alloc ((bl1 w _).alloc (bl1 w _).size _).size _
  have hI : OI w U lab c lb s (fun k => k = g0 ∨ k = g0 + 1 ∨ k = g0 + 1 + 1) lab := by
    have h3 := (((OI.first h).alloc (.cells #[.int .i64 d.R, .int .i64 d.W, .int .i64 d.O, .slice a3 d.Rd.length k3, .slice a4 d.Rs.length k4, .slice a5 d.Ws.length k5, .slice a6 d.Os.length k6, .slice a7 d.Is.length k7] 35)).alloc (.cells #[.int .i64 x.kd, .int .i64 x.at_, .int .i64 x.fr, .int .i64 x.vl] 44)).alloc (.cells #[.int .i64 0, .int .i64 0, .int .i64 0, .slice none 0 0, .slice none 0 0, .slice none 0 0, .slice none 0 0, .slice none 0 0] 35)
    rw [hU] at h3
    refine h3.mono fun k hk => ?_
    simp only [World.size_alloc]
    omega
  have hsz : g0 + 3 ≤ U.heap.size := by rw [← hU, ← hg0]; simp
  have hD : DW (fun k => lab k = 0 ∧ k ≠ g0 + 1 + 1) U _ d := hd.keep fun k hk hp => ⟨hbl.block k hk, hp, by omega⟩
  have HB : Hid (B3 U g0 (g0 + 1) (g0 + 1 + 1) d x _ _ _ _ _) := hB
  have HI : Hid (OI w U lab c lb s (fun k => k = g0 ∨ k = g0 + 1 ∨ k = g0 + 1 + 1) lab) := hI
  have HD : Hid (DW (fun k => lab k = 0 ∧ k ≠ g0 + 1 + 1) U _ d) := hD
  have HP : Hid (∀ k, U.heap.size ≤ k → lab k = 0 ∧ k ≠ g0 + 1 + 1) := fun k hk => by
    refine ⟨?_, by omega⟩
    rcases Nat.eq_zero_or_pos (lab k) with r | r
    · exact r
    · have := h.lt k (by omega); have := hbl.size; omega
  obtain ⟨o0, o1, o2, o3⟩ := hB.c1
  obtain ⟨b0, b1, b2, b3, b4, b5, b6, b7⟩ := box_cell hB.b0
  have HDC : Hid (∀ W, DW (fun k => lab k = 0 ∧ k ≠ g0 + 1 + 1) W (.agg #[.int .i64 d.R, .int .i64 d.W, .int .i64 d.O, .slice a3 d.Rd.length k3, .slice a4 d.Rs.length k4, .slice a5 d.Ws.length k5, .slice a6 d.Os.length k6, .slice a7 d.Is.length k7]) d → Calls Try.prog 49 #[.agg #[.int .i64 d.R, .int .i64 d.W, .int .i64 d.O, .slice a3 d.Rd.length k3, .slice a4 d.Rs.length k4, .slice a5 d.Ws.length k5, .slice a6 d.Os.length k6, .slice a7 d.Is.length k7], .int .i64 x.at_, .int .i64 x.vl] W (DQ (.agg #[.int .i64 d.R, .int .i64 d.W, .int .i64 d.O, .slice a3 d.Rd.length k3, .slice a4 d.Rs.length k4, .slice a5 d.Ws.length k5, .slice a6 d.Os.length k6, .slice a7 d.Is.length k7]) (dwriteS d x.at_ x.vl) (.int .i64 (dwriteE d x.at_)) W)) := fun W hW => rwrite_any hW.dv _ _ hl
  have HRM : Hid (∀ W lab', LV W lab' c lb s → Calls Try.prog 50 #[.pointer (some ⟨lb, 0, none⟩), .int .i64 x.at_] W (AN W (.bool (roomB s x.at_)))) := fun W lab' h => room_any h _
  obtain ⟨rb, hrb⟩ : ∃ b, roomB s x.at_ = b := ⟨_, rfl⟩
  rw [hrb] at HRM hm
  have HPC : Hid (∀ W lab', LV W lab' c lb s → Calls Try.prog 51 #[.pointer (some ⟨lb, 0, none⟩), .int .i64 x.at_, .int .i64 x.vl] W (LQ c lab' lb (writeS s x.at_ x.vl) (.int .i64 (writeE s x.at_)) W)) := fun W lab' h => write_any h _ _
  obtain ⟨s', hs'⟩ : ∃ s', writeS s x.at_ x.vl = s' := ⟨_, rfl⟩
  obtain ⟨d', hd'⟩ : ∃ d', dwriteS d x.at_ x.vl = d' := ⟨_, rfl⟩
  obtain ⟨E1, hE1⟩ : ∃ e, writeE s x.at_ = e := ⟨_, rfl⟩
  obtain ⟨E2, hE2⟩ : ∃ e, dwriteE d x.at_ = e := ⟨_, rfl⟩
  rw [hs', hE1] at HPC
  rw [hd', hE2] at HDC
  rw [hE2] at hm
  have HKB : Hid (∀ w, Calls Try.prog 45 #[.int .i64 x.kd] w (fun e w' => e = .returned (.int .i64 4) ∧ w' = w)) := by rw [← hx]; exact HKA
  clear hrb hs' hd' hE1 hE2 hU hg0 hbl hI hsz hD hB hd h HKA hx
  obtain ⟨xk, xa, xf, xv⟩ := x
  simp only at o0 o1 o2 o3 HDC HPC HKB HRM
  unfold opA
  simp only
  have hcase : (rb = false ∧ E2 = 0) ∨ (rb = true ∧ E2 ≠ 0) := by cases rb <;> simp at hm <;> simp [hm]
  clear hm
  rcases hcase with ⟨rfl, rfl⟩ | ⟨rfl, hE⟩
  · have t0 : ((0 : Int) == 0) = true := rfl
    go_enter Try.func11, Try.ntmps11
    go_upto_region 1 with fail
    rw [HU.out, HG.out]
    go_wp2_with fail
    refine (HKB.out _).mono ?_
    rintro e w4 ⟨rfl, hw4⟩
    rw [hw4]
    clear hw4
    go_wp2_with fail
    refine (HDC.out U HD.out).mono ?_
    rintro e w3 ⟨bw, v1, rfl, hv1, hf1⟩
    have hD1 := HD.out.step hv1 hf1 HP.out
    obtain ⟨c3, l3, c4, l4, c5, l5, c6, l6, c7, l7, rfl⟩ := hD1.forms
    clear hv1 hf1 hD1
    have HB5 : Hid (B3 w3 g0 (g0 + 1) (g0 + 1 + 1) d ⟨xk, xa, xf, xv⟩ _ _ _ _ _) := HB.out.below bw
    have HI5 : Hid (OI w w3 lab c lb s (fun k => k = g0 ∨ k = g0 + 1 ∨ k = g0 + 1 + 1) lab) := HI.out.below bw
    have HD5 : Hid (DW (fun k => lab k = 0 ∧ k ≠ g0 + 1 + 1) w3 _ d) := HD.out.below bw
    have HP5 : Hid (∀ k, w3.heap.size ≤ k → lab k = 0 ∧ k ≠ g0 + 1 + 1) := fun k hk => HP.out k (by have := bw.size; omega)
    clear bw b0 b1 b2 b3 b4 b5 b6 b7 o0 o1 o2 o3
    go_upto_region 12 with fail
    have HB : Hid (B3 (w3.alloc (.cells #[.int .i64 d'.R, .int .i64 d'.W, .int .i64 d'.O, .slice c3 d'.Rd.length l3, .slice c4 d'.Rs.length l4, .slice c5 d'.Ws.length l5, .slice c6 d'.Os.length l6, .slice c7 d'.Is.length l7] 35)) g0 (g0 + 1) (g0 + 1 + 1) d ⟨xk, xa, xf, xv⟩ _ _ _ _ _) := HB5.out.below (bl1 _ _)
    have HI : Hid (OI w (w3.alloc (.cells #[.int .i64 d'.R, .int .i64 d'.W, .int .i64 d'.O, .slice c3 d'.Rd.length l3, .slice c4 d'.Rs.length l4, .slice c5 d'.Ws.length l5, .slice c6 d'.Os.length l6, .slice c7 d'.Is.length l7] 35)) lab c lb s (fun k => k = g0 ∨ k = g0 + 1 ∨ k = g0 + 1 + 1) lab) := HI5.out.below (bl1 _ _)
    have HD : Hid (DW (fun k => lab k = 0 ∧ k ≠ g0 + 1 + 1) (w3.alloc (.cells #[.int .i64 d'.R, .int .i64 d'.W, .int .i64 d'.O, .slice c3 d'.Rd.length l3, .slice c4 d'.Rs.length l4, .slice c5 d'.Ws.length l5, .slice c6 d'.Os.length l6, .slice c7 d'.Is.length l7] 35)) _ d) := HD5.out.below (bl1 _ _)
    have HP : Hid (∀ k, (w3.alloc (.cells #[.int .i64 d'.R, .int .i64 d'.W, .int .i64 d'.O, .slice c3 d'.Rd.length l3, .slice c4 d'.Rs.length l4, .slice c5 d'.Ws.length l5, .slice c6 d'.Os.length l6, .slice c7 d'.Is.length l7] 35)).heap.size ≤ k → lab k = 0 ∧ k ≠ g0 + 1 + 1) := fun k hk => HP5.out k (by rw [World.size_alloc] at hk; omega)
    generalize w3.alloc (.cells #[.int .i64 d'.R, .int .i64 d'.W, .int .i64 d'.O, .slice c3 d'.Rd.length l3, .slice c4 d'.Rs.length l4, .slice c5 d'.Ws.length l5, .slice c6 d'.Os.length l6, .slice c7 d'.Is.length l7] 35) = U1 at *
    clear HB5 HI5 HD5 HP5
    obtain ⟨o0, o1, o2, o3⟩ := HB.out.c1
    go_wp2_with fail
    refine (HI.out.look (HRM.out _ _ HI.out.lv)).mono ?_
    rintro e w4 ⟨rfl, i4, b4⟩
    have HBw : Hid (B3 w4 g0 (g0 + 1) (g0 + 1 + 1) d ⟨xk, xa, xf, xv⟩ _ _ _ _ _) := HB.out.below b4
    have HIw : Hid (OI w w4 lab c lb s (fun k => k = g0 ∨ k = g0 + 1 ∨ k = g0 + 1 + 1) lab) := i4
    have HDw : Hid (DW (fun k => lab k = 0 ∧ k ≠ g0 + 1 + 1) w4 _ d) := HD.out.below b4
    have HPw : Hid (∀ k, w4.heap.size ≤ k → lab k = 0 ∧ k ≠ g0 + 1 + 1) := fun k hk => HP.out k (by have := b4.size; omega)
    clear i4 b4 HB HI HD HP o0 o1 o2 o3
    obtain ⟨o0, o1, o2, o3⟩ := HBw.out.c1
    obtain ⟨b0, b1, b2, b3, b4, b5, b6, b7⟩ := box_cell HBw.out.b0
    obtain ⟨z0, z1, z2, z3, z4, z5, z6, z7⟩ := box_cell HBw.out.b2
    have f0 := HBw.out.f2 0
    have f1 := HBw.out.f2 1
    have f2 := HBw.out.f2 2
    have f3 := HBw.out.f2 3
    have f4 := HBw.out.f2 4
    have f5 := HBw.out.f2 5
    have f6 := HBw.out.f2 6
    have f7 := HBw.out.f2 7
    have n1 : g0 ≠ g0 + 1 + 1 := by omega
    have n1' : g0 + 1 + 1 ≠ g0 := by omega
    have HQ : Hid (OneQ c lab lb s d false w (.returned (.tuple #[.agg #[.int .i64 d.R, .int .i64 d.W, .int .i64 d.O, .slice a3 d.Rd.length k3, .slice a4 d.Rs.length k4, .slice a5 d.Ws.length k5, .slice a6 d.Os.length k6, .slice a7 d.Is.length k7], .bool false])) (put8W w4 (g0 + 1 + 1) (.int .i64 d.R) (.int .i64 d.W) (.int .i64 d.O) (.slice a3 d.Rd.length k3) (.slice a4 d.Rs.length k4) (.slice a5 d.Ws.length k5) (.slice a6 d.Os.length k6) (.slice a7 d.Is.length k7))) := one_end HIw.out (.inr (.inr rfl)) HDw.out _ _ _ _ _ _ _ _
    have HB2 : Hid (w4.heap[g0 + 1 + 1]? = some (.cells #[.int .i64 0, .int .i64 0, .int .i64 0, .slice none 0 0, .slice none 0 0, .slice none 0 0, .slice none 0 0, .slice none 0 0] 35)) := HBw.out.b2
    clear HBw HIw HDw HPw HPC HDC HRM
    go_wp2_with fail
    refine bodyPost_ret (ret_L2 Try.results11 _ (g0 + 1 + 1) rfl _ _ _ _ _ _ _ _ _ (put8V HB2.out)) rfl ?_
    exact HQ.out
  · have t0 : (E2 == 0) = false := by simp [hE]
    go_enter Try.func11, Try.ntmps11
    go_upto_region 1 with fail
    rw [HU.out, HG.out]
    go_wp2_with fail
    refine (HKB.out _).mono ?_
    rintro e w4 ⟨rfl, hw4⟩
    rw [hw4]
    clear hw4
    go_wp2_with fail
    refine (HDC.out U HD.out).mono ?_
    rintro e w3 ⟨bw, v1, rfl, hv1, hf1⟩
    have hD1 := HD.out.step hv1 hf1 HP.out
    obtain ⟨c3, l3, c4, l4, c5, l5, c6, l6, c7, l7, rfl⟩ := hD1.forms
    clear hv1 hf1 hD1
    have HB5 : Hid (B3 w3 g0 (g0 + 1) (g0 + 1 + 1) d ⟨xk, xa, xf, xv⟩ _ _ _ _ _) := HB.out.below bw
    have HI5 : Hid (OI w w3 lab c lb s (fun k => k = g0 ∨ k = g0 + 1 ∨ k = g0 + 1 + 1) lab) := HI.out.below bw
    have HD5 : Hid (DW (fun k => lab k = 0 ∧ k ≠ g0 + 1 + 1) w3 _ d) := HD.out.below bw
    have HP5 : Hid (∀ k, w3.heap.size ≤ k → lab k = 0 ∧ k ≠ g0 + 1 + 1) := fun k hk => HP.out k (by have := bw.size; omega)
    clear bw b0 b1 b2 b3 b4 b5 b6 b7 o0 o1 o2 o3
    go_upto_region 12 with fail
    have HB : Hid (B3 (w3.alloc (.cells #[.int .i64 d'.R, .int .i64 d'.W, .int .i64 d'.O, .slice c3 d'.Rd.length l3, .slice c4 d'.Rs.length l4, .slice c5 d'.Ws.length l5, .slice c6 d'.Os.length l6, .slice c7 d'.Is.length l7] 35)) g0 (g0 + 1) (g0 + 1 + 1) d ⟨xk, xa, xf, xv⟩ _ _ _ _ _) := HB5.out.below (bl1 _ _)
    have HI : Hid (OI w (w3.alloc (.cells #[.int .i64 d'.R, .int .i64 d'.W, .int .i64 d'.O, .slice c3 d'.Rd.length l3, .slice c4 d'.Rs.length l4, .slice c5 d'.Ws.length l5, .slice c6 d'.Os.length l6, .slice c7 d'.Is.length l7] 35)) lab c lb s (fun k => k = g0 ∨ k = g0 + 1 ∨ k = g0 + 1 + 1) lab) := HI5.out.below (bl1 _ _)
    have HD : Hid (DW (fun k => lab k = 0 ∧ k ≠ g0 + 1 + 1) (w3.alloc (.cells #[.int .i64 d'.R, .int .i64 d'.W, .int .i64 d'.O, .slice c3 d'.Rd.length l3, .slice c4 d'.Rs.length l4, .slice c5 d'.Ws.length l5, .slice c6 d'.Os.length l6, .slice c7 d'.Is.length l7] 35)) _ d) := HD5.out.below (bl1 _ _)
    have HP : Hid (∀ k, (w3.alloc (.cells #[.int .i64 d'.R, .int .i64 d'.W, .int .i64 d'.O, .slice c3 d'.Rd.length l3, .slice c4 d'.Rs.length l4, .slice c5 d'.Ws.length l5, .slice c6 d'.Os.length l6, .slice c7 d'.Is.length l7] 35)).heap.size ≤ k → lab k = 0 ∧ k ≠ g0 + 1 + 1) := fun k hk => HP5.out k (by rw [World.size_alloc] at hk; omega)
    generalize w3.alloc (.cells #[.int .i64 d'.R, .int .i64 d'.W, .int .i64 d'.O, .slice c3 d'.Rd.length l3, .slice c4 d'.Rs.length l4, .slice c5 d'.Ws.length l5, .slice c6 d'.Os.length l6, .slice c7 d'.Is.length l7] 35) = U1 at *
    clear HB5 HI5 HD5 HP5
    obtain ⟨o0, o1, o2, o3⟩ := HB.out.c1
    go_wp2_with fail
    refine (HI.out.look (HRM.out _ _ HI.out.lv)).mono ?_
    rintro e w4 ⟨rfl, i4, b4⟩
    have HBw : Hid (B3 w4 g0 (g0 + 1) (g0 + 1 + 1) d ⟨xk, xa, xf, xv⟩ _ _ _ _ _) := HB.out.below b4
    have HIw : Hid (OI w w4 lab c lb s (fun k => k = g0 ∨ k = g0 + 1 ∨ k = g0 + 1 + 1) lab) := i4
    have HDw : Hid (DW (fun k => lab k = 0 ∧ k ≠ g0 + 1 + 1) w4 _ d) := HD.out.below b4
    have HPw : Hid (∀ k, w4.heap.size ≤ k → lab k = 0 ∧ k ≠ g0 + 1 + 1) := fun k hk => HP.out k (by have := b4.size; omega)
    clear i4 b4 HB HI HD HP o0 o1 o2 o3
    obtain ⟨o0, o1, o2, o3⟩ := HBw.out.c1
    obtain ⟨b0, b1, b2, b3, b4, b5, b6, b7⟩ := box_cell HBw.out.b0
    obtain ⟨z0, z1, z2, z3, z4, z5, z6, z7⟩ := box_cell HBw.out.b2
    have f0 := HBw.out.f2 0
    have f1 := HBw.out.f2 1
    have f2 := HBw.out.f2 2
    have f3 := HBw.out.f2 3
    have f4 := HBw.out.f2 4
    have f5 := HBw.out.f2 5
    have f6 := HBw.out.f2 6
    have f7 := HBw.out.f2 7
    have n1 : g0 ≠ g0 + 1 + 1 := by omega
    have n1' : g0 + 1 + 1 ≠ g0 := by omega
    have HQ : Hid (OneQ c lab lb s d false w (.returned (.tuple #[.agg #[.int .i64 d.R, .int .i64 d.W, .int .i64 d.O, .slice a3 d.Rd.length k3, .slice a4 d.Rs.length k4, .slice a5 d.Ws.length k5, .slice a6 d.Os.length k6, .slice a7 d.Is.length k7], .bool false])) (put8W w4 (g0 + 1 + 1) (.int .i64 d.R) (.int .i64 d.W) (.int .i64 d.O) (.slice a3 d.Rd.length k3) (.slice a4 d.Rs.length k4) (.slice a5 d.Ws.length k5) (.slice a6 d.Os.length k6) (.slice a7 d.Is.length k7))) := one_end HIw.out (.inr (.inr rfl)) HDw.out _ _ _ _ _ _ _ _
    have HB2 : Hid (w4.heap[g0 + 1 + 1]? = some (.cells #[.int .i64 0, .int .i64 0, .int .i64 0, .slice none 0 0, .slice none 0 0, .slice none 0 0, .slice none 0 0, .slice none 0 0] 35)) := HBw.out.b2
    clear HBw HIw HDw HPw HPC HDC HRM
    go_wp2_with fail
    refine bodyPost_ret (ret_L2 Try.results11 _ (g0 + 1 + 1) rfl _ _ _ _ _ _ _ _ _ (put8V HB2.out)) rfl ?_
    exact HQ.out
end Go.Proofs.Ytongeppdaeekeaa
