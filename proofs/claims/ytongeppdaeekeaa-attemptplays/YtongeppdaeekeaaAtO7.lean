/- A call of both logs: Clear. -/
import Derived.Test.YtongeppdaeekeaaAtO
namespace Go.Proofs.Ytongeppdaeekeaa
open Go.RowKit Go.Maps
set_option linter.unusedVariables false

set_option maxRecDepth 100000 in
set_option maxHeartbeats 8000000 in
theorem one_clear {w : World} {lab : Nat → Nat} {c lb : Nat} {s : Lg} {v : Value} {d : Dg} (h : LV w lab c lb s) (hd : DW (Free lab) w v d) (x : O4) (hx : kindI x.kd = 7)  :
    Calls Try.prog 11 #[.pointer (some ⟨lb, 0, none⟩), v, opA x] w (OneQ c lab lb (clearS s) (dclearS d) true w) := by
  obtain ⟨a3, k3, a4, k4, a5, k5, a6, k6, a7, k7, rfl⟩ := hd.forms
  have HKA : Hid (∀ w, Calls Try.prog 45 #[.int .i64 x.kd] w (fun e w' => e = .returned (.int .i64 (kindI x.kd)) ∧ w' = w)) := fun w => kind_any x.kd w
  obtain ⟨U, hU⟩ : ∃ U, ((w.alloc (.cells #[.int .i64 d.R, .int .i64 d.W, .int .i64 d.O, .slice a3 d.Rd.length k3, .slice a4 d.Rs.length k4, .slice a5 d.Ws.length k5, .slice a6 d.Os.length k6, .slice a7 d.Is.length k7] 35)).alloc (.cells #[.int .i64 x.kd, .int .i64 x.at_, .int .i64 x.fr, .int .i64 x.vl] 44)).alloc (.cells #[.int .i64 0, .int .i64 0, .int .i64 0, .slice none 0 0, .slice none 0 0, .slice none 0 0, .slice none 0 0, .slice none 0 0] 35) = U := ⟨_, rfl⟩
  have HU : Hid _ := hU
  obtain ⟨g0, hg0⟩ : ∃ g, w.heap.size = g := ⟨_, rfl⟩
  have HG : Hid (w.heap.size = g0) := hg0
  have hB : B3 U g0 (g0 + 1) (g0 + 1 + 1) d x (.slice a3 d.Rd.length k3) (.slice a4 d.Rs.length k4) (.slice a5 d.Ws.length k5) (.slice a6 d.Os.length k6) (.slice a7 d.Is.length k7) := by
    rw [← hU, ← hg0]
    refine ⟨by rw [heap_alloc_old _ _ (by simp; omega), heap_alloc_old _ _ (by simp), heap_alloc_new], by rw [heap_alloc_old _ _ (by simp)]; exact heap_alloc2_new _ _ _, ?_⟩
    generalize hA : ((w.alloc (.cells #[.int .i64 d.R, .int .i64 d.W, .int .i64 d.O, .slice a3 d.Rd.length k3, .slice a4 d.Rs.length k4, .slice a5 d.Ws.length k5, .slice a6 d.Os.length k6, .slice a7 d.Is.length k7] 35)).alloc (.cells #[.int .i64 x.kd, .int .i64 x.at_, .int .i64 x.fr, .int .i64 x.vl] 44)) = A
    have e : w.heap.size + 1 + 1 = A.heap.size := by rw [← hA]; simp
    rw [e, heap_alloc_new]
  have hbl : Below w.heap.size w U := by rw [← hU]; exact ((bl1 w _).alloc (bl1 w _).size _).alloc ((bl1 w _).alloc (bl1 w _).size _).size _
  have hI : OI w U lab c lb s (fun k => k = g0 ∨ k = g0 + 1 ∨ k = g0 + 1 + 1) lab := by
    have h3 := (((OI.first h).alloc (.cells #[.int .i64 d.R, .int .i64 d.W, .int .i64 d.O, .slice a3 d.Rd.length k3, .slice a4 d.Rs.length k4, .slice a5 d.Ws.length k5, .slice a6 d.Os.length k6, .slice a7 d.Is.length k7] 35)).alloc (.cells #[.int .i64 x.kd, .int .i64 x.at_, .int .i64 x.fr, .int .i64 x.vl] 44)).alloc (.cells #[.int .i64 0, .int .i64 0, .int .i64 0, .slice none 0 0, .slice none 0 0, .slice none 0 0, .slice none 0 0, .slice none 0 0] 35)
    rw [hU] at h3
    refine h3.mono fun k hk => ?_
    simp only [World.size_alloc]
    omega
  have hsz : g0 + 3 ≤ U.heap.size := by rw [← hU, ← hg0]; simp
  have hD : DW (fun k => lab k = 0 ∧ k ≠ g0 + 1 + 1) U _ d := hd.keep fun k hk hp => ⟨hbl.block k hk, hp, by omega⟩
  have HB : Hid (B3 U g0 (g0 + 1) (g0 + 1 + 1) d x _ _ _ _ _) := hB
  have HI : Hid (OI w U lab c lb s (fun k => k = g0 ∨ k = g0 + 1 ∨ k = g0 + 1 + 1) lab) := hI
  have HD : Hid (DW (fun k => lab k = 0 ∧ k ≠ g0 + 1 + 1) U _ d) := hD
  have HP : Hid (∀ k, U.heap.size ≤ k → lab k = 0 ∧ k ≠ g0 + 1 + 1) := fun k hk => by
    refine ⟨?_, by omega⟩
    rcases Nat.eq_zero_or_pos (lab k) with r | r
    · exact r
    · have := h.lt k (by omega); have := hbl.size; omega
  obtain ⟨o0, o1, o2, o3⟩ := hB.c1
  obtain ⟨b0, b1, b2, b3, b4, b5, b6, b7⟩ := box_cell hB.b0
  have HDC : Hid (∀ W, DW (fun k => lab k = 0 ∧ k ≠ g0 + 1 + 1) W (.agg #[.int .i64 d.R, .int .i64 d.W, .int .i64 d.O, .slice a3 d.Rd.length k3, .slice a4 d.Rs.length k4, .slice a5 d.Ws.length k5, .slice a6 d.Os.length k6, .slice a7 d.Is.length k7]) d → Calls Try.prog 56 #[.agg #[.int .i64 d.R, .int .i64 d.W, .int .i64 d.O, .slice a3 d.Rd.length k3, .slice a4 d.Rs.length k4, .slice a5 d.Ws.length k5, .slice a6 d.Os.length k6, .slice a7 d.Is.length k7]] W (fun e w' => Below W.heap.size W w' ∧ ∃ v', e = .returned v' ∧ DV w' v' (dclearS d) ∧ FV W.heap.size (.agg #[.int .i64 d.R, .int .i64 d.W, .int .i64 d.O, .slice a3 d.Rd.length k3, .slice a4 d.Rs.length k4, .slice a5 d.Ws.length k5, .slice a6 d.Os.length k6, .slice a7 d.Is.length k7]) v')) := fun W hW => rclear_any hW.dv
  have HPC : Hid (∀ W lab', LV W lab' c lb s → Calls Try.prog 14 #[.pointer (some ⟨lb, 0, none⟩)] W (LQ c lab' lb (clearS s) (.tuple #[]) W)) := fun W lab' h => lclear_any h
  obtain ⟨s', hs'⟩ : ∃ s', clearS s = s' := ⟨_, rfl⟩
  obtain ⟨d', hd'⟩ : ∃ d', dclearS d = d' := ⟨_, rfl⟩
  have HDX : Hid (∀ W, DV W (.agg #[.int .i64 d.R, .int .i64 d.W, .int .i64 d.O, .slice a3 d.Rd.length k3, .slice a4 d.Rs.length k4, .slice a5 d.Ws.length k5, .slice a6 d.Os.length k6, .slice a7 d.Is.length k7]) d → Calls Try.prog 56 #[.agg #[.int .i64 d.R, .int .i64 d.W, .int .i64 d.O, .slice a3 d.Rd.length k3, .slice a4 d.Rs.length k4, .slice a5 d.Ws.length k5, .slice a6 d.Os.length k6, .slice a7 d.Is.length k7]] W (fun e w' => Below W.heap.size W w' ∧ ∃ v', e = .returned v' ∧ DV w' v' (dclearS d) ∧ FV W.heap.size (.agg #[.int .i64 d.R, .int .i64 d.W, .int .i64 d.O, .slice a3 d.Rd.length k3, .slice a4 d.Rs.length k4, .slice a5 d.Ws.length k5, .slice a6 d.Os.length k6, .slice a7 d.Is.length k7]) v')) := fun W hW => rclear_any hW
  rw [hd'] at HDX
  clear HDC
  rw [hs'] at HPC
  rw [hs', hd']
  have HKB : Hid (∀ w, Calls Try.prog 45 #[.int .i64 x.kd] w (fun e w' => e = .returned (.int .i64 7) ∧ w' = w)) := by rw [← hx]; exact HKA
  clear hs' hd' hU hg0 hbl hI hsz hD hB hd h HKA hx
  obtain ⟨xk, xa, xf, xv⟩ := x
  simp only at o0 o1 o2 o3 HKB
  unfold opA
  simp only
  go_enter Try.func11, Try.ntmps11
  go_upto_region 1 with fail
  rw [HU.out, HG.out]
  go_wp2_with fail
  refine (HKB.out _).mono ?_
  rintro e w4 ⟨rfl, hw4⟩
  rw [hw4]
  clear hw4
  go_wp2_with fail
  refine (HI.out.call (HPC.out _ _ HI.out.lv)).mono ?_
  rintro e w5 ⟨rfl, lab5, o5, q5, y5⟩
  have HB5 : Hid (B3 w5 g0 (g0 + 1) (g0 + 1 + 1) d ⟨xk, xa, xf, xv⟩ _ _ _ _ _) := HB.out.keep y5
  have HI5 : Hid (OI w w5 lab c lb s' (fun k => k = g0 ∨ k = g0 + 1 ∨ k = g0 + 1 + 1) lab5) := o5
  have HD5 : Hid (DW (fun k => lab5 k = 0 ∧ k ≠ g0 + 1 + 1) w5 _ d) := HD.out.call q5
  have HD5' : Hid (∀ W, DW (fun k => lab5 k = 0 ∧ k ≠ g0 + 1 + 1) W (.agg #[.int .i64 d.R, .int .i64 d.W, .int .i64 d.O, .slice a3 d.Rd.length k3, .slice a4 d.Rs.length k4, .slice a5 d.Ws.length k5, .slice a6 d.Os.length k6, .slice a7 d.Is.length k7]) d → Calls Try.prog 56 #[.agg #[.int .i64 d.R, .int .i64 d.W, .int .i64 d.O, .slice a3 d.Rd.length k3, .slice a4 d.Rs.length k4, .slice a5 d.Ws.length k5, .slice a6 d.Os.length k6, .slice a7 d.Is.length k7]] W (fun e w' => Below W.heap.size W w' ∧ ∃ v', e = .returned v' ∧ DV w' v' d' ∧ FV W.heap.size (.agg #[.int .i64 d.R, .int .i64 d.W, .int .i64 d.O, .slice a3 d.Rd.length k3, .slice a4 d.Rs.length k4, .slice a5 d.Ws.length k5, .slice a6 d.Os.length k6, .slice a7 d.Is.length k7]) v')) := fun W hW => HDX.out W hW.dv
  have HP5 : Hid (∀ k, w5.heap.size ≤ k → lab5 k = 0 ∧ k ≠ g0 + 1 + 1) := fun k hk => by
    refine ⟨?_, by have := HB5.out.lt.2.2; omega⟩
    rcases Nat.eq_zero_or_pos (lab5 k) with r | r
    · exact r
    · have := o5.lv.lt k (by omega); omega
  clear o5 q5 y5 HB HI HD HP b0 b1 b2 b3 b4 b5 b6 b7 o0 o1 o2 o3 HPC
  obtain ⟨b0, b1, b2, b3, b4, b5, b6, b7⟩ := box_cell HB5.out.b0
  go_wp2_with fail
  refine (HD5'.out _ HD5.out).mono ?_
  rintro e w6 ⟨bw, v', rfl, hv', hf⟩
  have hD6 := HD5.out.step hv' hf HP5.out
  obtain ⟨a3', k3', a4', k4', a5', k5', a6', k6', a7', k7', rfl⟩ := hD6.forms
  have hB7 := HB5.out.below bw
  have o6 := HI5.out.below bw
  have HQ : Hid (OneQ c lab lb s' d' true w (.returned (.tuple #[.agg #[.int .i64 d'.R, .int .i64 d'.W, .int .i64 d'.O, .slice a3' d'.Rd.length k3', .slice a4' d'.Rs.length k4', .slice a5' d'.Ws.length k5', .slice a6' d'.Os.length k6', .slice a7' d'.Is.length k7'], .bool true])) (put8W w6 (g0 + 1 + 1) (.int .i64 d'.R) (.int .i64 d'.W) (.int .i64 d'.O) (.slice a3' d'.Rd.length k3') (.slice a4' d'.Rs.length k4') (.slice a5' d'.Ws.length k5') (.slice a6' d'.Os.length k6') (.slice a7' d'.Is.length k7'))) := one_end o6 (.inr (.inr rfl)) hD6 _ _ _ _ _ _ _ _
  have HB2 : Hid (w6.heap[g0 + 1 + 1]? = some (.cells #[.int .i64 0, .int .i64 0, .int .i64 0, .slice none 0 0, .slice none 0 0, .slice none 0 0, .slice none 0 0, .slice none 0 0] 35)) := hB7.b2
  obtain ⟨z0, z1, z2, z3, z4, z5, z6, z7⟩ := box_cell hB7.b2
  have f0 := hB7.f2 0
  have f1 := hB7.f2 1
  have f2 := hB7.f2 2
  have f3 := hB7.f2 3
  have f4 := hB7.f2 4
  have f5 := hB7.f2 5
  have f6 := hB7.f2 6
  have f7 := hB7.f2 7
  clear b0 b1 b2 b3 b4 b5 b6 b7 hv' hf hD6 hB7 o6 bw HB5 HI5 HD5 HP5 HD5'
  go_wp2_with fail
  refine bodyPost_ret (ret_L2 Try.results11 _ (g0 + 1 + 1) rfl _ _ _ _ _ _ _ _ _ (put8V HB2.out)) rfl ?_
  exact HQ.out
end Go.Proofs.Ytongeppdaeekeaa
