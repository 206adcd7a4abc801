/- A call of both logs: Note. -/
import Derived.Test.YtongeppdaeekeaaAtO
namespace Go.Proofs.Ytongeppdaeekeaa
open Go.RowKit Go.Maps
set_option linter.unusedVariables false

set_option maxRecDepth 100000 in
set_option maxHeartbeats 8000000 in
theorem one_note1 {w : World} {lab : Nat → Nat} {c lb : Nat} {s : Lg} {v : Value} {d : Dg} (h : LV w lab c lb s) (hd : DW (Free lab) w v d) (x : O4) (hx : kindI x.kd = 1) (hl : d.Rs.length ≤ 1000) :
    Calls Try.prog 11 #[.pointer (some ⟨lb, 0, none⟩), v, opA x] w (OneQ c lab lb (noteS s (x.at_, x.vl, x.fr)) (dnoteS d (x.at_, x.vl, x.fr)) ((noteE s (x.at_, x.vl, x.fr)) == (dnoteE d (x.at_, x.vl, x.fr))) w) := by
  obtain ⟨a3, k3, a4, k4, a5, k5, a6, k6, a7, k7, rfl⟩ := hd.forms
  have HKA : Hid (∀ w, Calls Try.prog 45 #[.int .i64 x.kd] w (fun e w' => e = .returned (.int .i64 (kindI x.kd)) ∧ w' = w)) := fun w => kind_any x.kd w
  obtain ⟨U, hU⟩ : ∃ U, ((w.alloc (.cells #[.int .i64 d.R, .int .i64 d.W, .int .i64 d.O, .slice a3 d.Rd.length k3, .slice a4 d.Rs.length k4, .slice a5 d.Ws.length k5, .slice a6 d.Os.length k6, .slice a7 d.Is.length k7] 35)).alloc (.cells #[.int .i64 x.kd, .int .i64 x.at_, .int .i64 x.fr, .int .i64 x.vl] 44)).alloc (.cells #[.int .i64 0, .int .i64 0, .int .i64 0, .slice none 0 0, .slice none 0 0, .slice none 0 0, .slice none 0 0, .slice none 0 0] 35) = U := ⟨_, rfl⟩
  have HU : Hid _ := hU
  obtain ⟨g0, hg0⟩ : ∃ g, w.heap.size = g := ⟨_, rfl⟩
  have HG : Hid (w.heap.size = g0) := hg0
  have hB : B3 U g0 (g0 + 1) (g0 + 1 + 1) d x (.slice a3 d.Rd.length k3) (.slice a4 d.Rs.length k4) (.slice a5 d.Ws.length k5) (.slice a6 d.Os.length k6) (.slice a7 d.Is.length k7) := by
    rw [← hU, ← hg0]
    refine ⟨by rw [heap_alloc_old _ _ (by simp; omega), heap_alloc_old _ _ (by simp), heap_alloc_new], by rw [heap_alloc_old _ _ (by simp)]; exact heap_alloc2_new _ _ _, ?_⟩
    generalize hA : ((w.alloc (.cells #[.int .i64 d.R, .int .i64 d.W, .int .i64 d.O, .slice a3 d.Rd.length k3, .slice a4 d.Rs.length k4, .slice a5 d.Ws.length k5, .slice a6 d.Os.length k6, .slice a7 d.Is.length k7] 35)).alloc (.cells #[.int .i64 x.kd, .int .i64 x.at_, .int .i64 x.fr, .int .i64 x.vl] 44)) = A
    have e : w.heap.size + 1 + 1 = A.heap.size := by rw [← hA]; simp
    rw [e, heap_alloc_new]
  have hbl : Below w.heap.size w U := by rw [← hU]; exact ((bl1 w _).alloc (bl1 w _).size _).alloc ((bl1 w _).alloc (bl1 w _).size _).size _
  have hI : OI w U lab c lb s (fun k => k = g0 ∨ k = g0 + 1 ∨ k = g0 + 1 + 1) lab := by
    have h3 := (((OI.first h).alloc (.cells #[.int .i64 d.R, .int .i64 d.W, .int .i64 d.O, .slice a3 d.Rd.length k3, .slice a4 d.Rs.length k4, .slice a5 d.Ws.length k5, .slice a6 d.Os.length k6, .slice a7 d.Is.length k7] 35)).alloc (.cells #[.int .i64 x.kd, .int .i64 x.at_, .int .i64 x.fr, .int .i64 x.vl] 44)).alloc (.cells #[.int .i64 0, .int .i64 0, .int .i64 0, .slice none 0 0, .slice none 0 0, .slice none 0 0, .slice none 0 0, .slice none 0 0] 35)
    rw [hU] at h3
    refine h3.mono fun k hk => ?_
    simp only [World.size_alloc]
    omega
  have hsz : g0 + 3 ≤ U.heap.size := by rw [← hU, ← hg0]; simp
  have hD : DW (fun k => lab k = 0 ∧ k ≠ g0 + 1 + 1) U _ d := hd.keep fun k hk hp => ⟨hbl.block k hk, hp, by omega⟩
  have HB : Hid (B3 U g0 (g0 + 1) (g0 + 1 + 1) d x _ _ _ _ _) := hB
  have HI : Hid (OI w U lab c lb s (fun k => k = g0 ∨ k = g0 + 1 ∨ k = g0 + 1 + 1) lab) := hI
  have HD : Hid (DW (fun k => lab k = 0 ∧ k ≠ g0 + 1 + 1) U _ d) := hD
  have HP : Hid (∀ k, U.heap.size ≤ k → lab k = 0 ∧ k ≠ g0 + 1 + 1) := fun k hk => by
    refine ⟨?_, by omega⟩
    rcases Nat.eq_zero_or_pos (lab k) with r | r
    · exact r
    · have := h.lt k (by omega); have := hbl.size; omega
  obtain ⟨o0, o1, o2, o3⟩ := hB.c1
  obtain ⟨b0, b1, b2, b3, b4, b5, b6, b7⟩ := box_cell hB.b0
  have HDC : Hid (Calls Try.prog 46 #[.agg #[.int .i64 d.R, .int .i64 d.W, .int .i64 d.O, .slice a3 d.Rd.length k3, .slice a4 d.Rs.length k4, .slice a5 d.Ws.length k5, .slice a6 d.Os.length k6, .slice a7 d.Is.length k7], .agg #[.int .i64 x.at_, .int .i64 x.vl, .int .i64 x.fr]] U (DQ _ (dnoteS d (x.at_, x.vl, x.fr)) (.int .i64 (dnoteE d (x.at_, x.vl, x.fr))) U)) := rnote_any HD.out.dv _ _ _ hl
  have HPC : Hid (∀ W lab', LV W lab' c lb s → Calls Try.prog 22 #[.pointer (some ⟨lb, 0, none⟩), .agg #[.int .i64 x.at_, .int .i64 x.vl, .int .i64 x.fr]] W (LQ c lab' lb (noteS s (x.at_, x.vl, x.fr)) (.int .i64 (noteE s (x.at_, x.vl, x.fr))) W)) := fun W lab' h => note_any h _ _ _
  obtain ⟨s', hs'⟩ : ∃ s', noteS s (x.at_, x.vl, x.fr) = s' := ⟨_, rfl⟩
  obtain ⟨d', hd'⟩ : ∃ d', dnoteS d (x.at_, x.vl, x.fr) = d' := ⟨_, rfl⟩
  obtain ⟨E1, hE1⟩ : ∃ e, noteE s (x.at_, x.vl, x.fr) = e := ⟨_, rfl⟩
  obtain ⟨E2, hE2⟩ : ∃ e, dnoteE d (x.at_, x.vl, x.fr) = e := ⟨_, rfl⟩
  rw [hs', hE1] at HPC
  rw [hd', hE2] at HDC
  rw [hs', hd', hE1, hE2]
  have HKB : Hid (∀ w, Calls Try.prog 45 #[.int .i64 x.kd] w (fun e w' => e = .returned (.int .i64 1) ∧ w' = w)) := by rw [← hx]; exact HKA
  clear hs' hd' hE1 hE2 hU hg0 hbl hI hsz hD hB hd h HKA hx
  obtain ⟨xk, xa, xf, xv⟩ := x
  simp only at o0 o1 o2 o3 HDC HPC HKB
  unfold opA
  simp only
  go_enter Try.func11, Try.ntmps11
  go_upto_region 1 with fail
  rw [HU.out, HG.out]
  go_wp2_with fail
  refine (HKB.out _).mono ?_
  rintro e w4 ⟨rfl, hw4⟩
  rw [hw4]
  clear hw4
  go_wp2_with fail
  refine HDC.out.mono ?_
  rintro e w5 ⟨bw, v', rfl, hv', hf⟩
  have hD5 := HD.out.step hv' hf HP.out
  obtain ⟨a3', k3', a4', k4', a5', k5', a6', k6', a7', k7', rfl⟩ := hD5.forms
  have HB5 : Hid (B3 w5 g0 (g0 + 1) (g0 + 1 + 1) d ⟨xk, xa, xf, xv⟩ _ _ _ _ _) := HB.out.below bw
  have HI5 : Hid (OI w w5 lab c lb s (fun k => k = g0 ∨ k = g0 + 1 ∨ k = g0 + 1 + 1) lab) := HI.out.below bw
  have HD5 : Hid (DW (fun k => lab k = 0 ∧ k ≠ g0 + 1 + 1) w5 _ d') := hD5
  clear bw hv' hf hD5 b0 b1 b2 b3 b4 b5 b6 b7 o0 o1 o2 o3
  go_upto_region 5 with fail
  have HI6 : Hid (OI w (w5.alloc (.cells #[.int .i64 d'.R, .int .i64 d'.W, .int .i64 d'.O, .slice a3' d'.Rd.length k3', .slice a4' d'.Rs.length k4', .slice a5' d'.Ws.length k5', .slice a6' d'.Os.length k6', .slice a7' d'.Is.length k7'] 35)) lab c lb s (fun k => (k = g0 ∨ k = g0 + 1 ∨ k = g0 + 1 + 1) ∨ k = w5.heap.size) lab) := HI5.out.alloc _
  have HB6 : Hid (B3 (w5.alloc (.cells #[.int .i64 d'.R, .int .i64 d'.W, .int .i64 d'.O, .slice a3' d'.Rd.length k3', .slice a4' d'.Rs.length k4', .slice a5' d'.Ws.length k5', .slice a6' d'.Os.length k6', .slice a7' d'.Is.length k7'] 35)) g0 (g0 + 1) (g0 + 1 + 1) d ⟨xk, xa, xf, xv⟩ _ _ _ _ _) := HB5.out.below (bl1 _ _)
  have HD6 : Hid (DW (fun k => lab k = 0 ∧ k ≠ g0 + 1 + 1) (w5.alloc (.cells #[.int .i64 d'.R, .int .i64 d'.W, .int .i64 d'.O, .slice a3' d'.Rd.length k3', .slice a4' d'.Rs.length k4', .slice a5' d'.Ws.length k5', .slice a6' d'.Os.length k6', .slice a7' d'.Is.length k7'] 35)) _ d') := HD5.out.below (bl1 _ _)
  have HG6 : Hid ((w5.alloc (.cells #[.int .i64 d'.R, .int .i64 d'.W, .int .i64 d'.O, .slice a3' d'.Rd.length k3', .slice a4' d'.Rs.length k4', .slice a5' d'.Ws.length k5', .slice a6' d'.Os.length k6', .slice a7' d'.Is.length k7'] 35)).heap[w5.heap.size]? = some (.cells #[.int .i64 d'.R, .int .i64 d'.W, .int .i64 d'.O, .slice a3' d'.Rd.length k3', .slice a4' d'.Rs.length k4', .slice a5' d'.Ws.length k5', .slice a6' d'.Os.length k6', .slice a7' d'.Is.length k7'] 35)) := heap_alloc_new _ _
  have hg3 : g0 + 1 + 1 < w5.heap.size := HB5.out.lt.2.2
  generalize w5.alloc (.cells #[.int .i64 d'.R, .int .i64 d'.W, .int .i64 d'.O, .slice a3' d'.Rd.length k3', .slice a4' d'.Rs.length k4', .slice a5' d'.Ws.length k5', .slice a6' d'.Os.length k6', .slice a7' d'.Is.length k7'] 35) = V at *
  clear HB5 HI5 HD5
  generalize w5.heap.size = g3 at *
  have n1 : g0 ≠ g0 + 1 + 1 := by omega
  have n2 : g0 + 1 ≠ g0 + 1 + 1 := by omega
  have n3 : g3 ≠ g0 + 1 + 1 := by omega
  have n1' : g0 + 1 + 1 ≠ g0 := by omega
  have n2' : g0 + 1 + 1 ≠ g0 + 1 := by omega
  have n3' : g0 + 1 + 1 ≠ g3 := by omega
  clear hg3
  obtain ⟨o0, o1, o2, o3⟩ := HB6.out.c1
  obtain ⟨r0, r1, r2, r3, r4, r5, r6, r7⟩ := box_cell HG6.out
  have HI6d : Hid (OI w V.drew lab c lb s (fun k => (k = g0 ∨ k = g0 + 1 ∨ k = g0 + 1 + 1) ∨ k = g3) lab) := HI6.out.below (Below.refl _ _).drew
  have HC : Hid (∀ W, OI w W lab c lb s (fun k => (k = g0 ∨ k = g0 + 1 ∨ k = g0 + 1 + 1) ∨ k = g3) lab → Calls Try.prog 22 #[.pointer (some ⟨lb, 0, none⟩), .agg #[.int .i64 xa, .int .i64 xv, .int .i64 xf]] W (fun e W' => e = .returned (.int .i64 E1) ∧ ∃ lab'', OI w W' lab c lb s' (fun k => (k = g0 ∨ k = g0 + 1 ∨ k = g0 + 1 + 1) ∨ k = g3) lab'' ∧ LabQ c lab lab'' W W' ∧ ∀ k, ((k = g0 ∨ k = g0 + 1 ∨ k = g0 + 1 + 1) ∨ k = g3) → W'.heap[k]? = W.heap[k]?)) := fun W o => o.call (HPC.out W lab o.lv)
  clear HPC
  have hV0 : V.drew.cell? ⟨g3, 0, none⟩ = some (.int .i64 d'.R) ∧ V.drew.cell? ⟨g3, 1, none⟩ = some (.int .i64 d'.W) ∧ V.drew.cell? ⟨g3, 2, none⟩ = some (.int .i64 d'.O) ∧ V.drew.cell? ⟨g3, 3, none⟩ = some (.slice a3' d'.Rd.length k3') ∧ V.drew.cell? ⟨g3, 4, none⟩ = some (.slice a4' d'.Rs.length k4') ∧ V.drew.cell? ⟨g3, 5, none⟩ = some (.slice a5' d'.Ws.length k5') ∧ V.drew.cell? ⟨g3, 6, none⟩ = some (.slice a6' d'.Os.length k6') ∧ V.drew.cell? ⟨g3, 7, none⟩ = some (.slice a7' d'.Is.length k7') ∧ V.drew.cell? ⟨g0 + 1, 1, none⟩ = some (.int .i64 xa) ∧ V.drew.cell? ⟨g0 + 1, 3, none⟩ = some (.int .i64 xv) ∧ V.drew.cell? ⟨g0 + 1, 2, none⟩ = some (.int .i64 xf) := ⟨r0, r1, r2, r3, r4, r5, r6, r7, o1, o3, o2⟩
  clear r0 r1 r2 r3 r4 r5 r6 r7
  go_region_held3 (fun w' => w'.cell? ⟨g3, 0, none⟩ = some (.int .i64 d'.R) ∧ w'.cell? ⟨g3, 1, none⟩ = some (.int .i64 d'.W) ∧ w'.cell? ⟨g3, 2, none⟩ = some (.int .i64 d'.O) ∧ w'.cell? ⟨g3, 3, none⟩ = some (.slice a3' d'.Rd.length k3') ∧ w'.cell? ⟨g3, 4, none⟩ = some (.slice a4' d'.Rs.length k4') ∧ w'.cell? ⟨g3, 5, none⟩ = some (.slice a5' d'.Ws.length k5') ∧ w'.cell? ⟨g3, 6, none⟩ = some (.slice a6' d'.Os.length k6') ∧ w'.cell? ⟨g3, 7, none⟩ = some (.slice a7' d'.Is.length k7') ∧ w'.cell? ⟨g0 + 1, 1, none⟩ = some (.int .i64 xa) ∧ w'.cell? ⟨g0 + 1, 3, none⟩ = some (.int .i64 xv) ∧ w'.cell? ⟨g0 + 1, 2, none⟩ = some (.int .i64 xf)) (first | with_reducible exact hV0 | with_reducible exact ⟨s0, s1, s2, s3, s4, s5, s6, s7, p1, p3, p2⟩ | with_reducible exact ⟨(hS g3 0 n3).trans s0, (hS g3 1 n3).trans s1, (hS g3 2 n3).trans s2, (hS g3 3 n3).trans s3, (hS g3 4 n3).trans s4, (hS g3 5 n3).trans s5, (hS g3 6 n3).trans s6, (hS g3 7 n3).trans s7, (hS (g0 + 1) 1 n2).trans p1, (hS (g0 + 1) 3 n2).trans p3, (hS (g0 + 1) 2 n2).trans p2⟩)
    (first | (go_at_call 22; refine (HC.out _ HI6d.out).mono ?_; rintro e w6 ⟨rfl, lab6, o6, q6, y6⟩; have hD7 := ((HD6.out.below (Below.refl _ _).drew).call q6 : DW (fun k => lab6 k = 0 ∧ k ≠ g0 + 1 + 1) w6 _ d'); have hB7 := (HB6.out.keep (fun k hk => y6 k (.inl hk)) : B3 w6 g0 (g0 + 1) (g0 + 1 + 1) d ⟨xk, xa, xf, xv⟩ _ _ _ _ _); obtain ⟨p0, p1, p2, p3⟩ := hB7.c1; obtain ⟨s0, s1, s2, s3, s4, s5, s6, s7⟩ := box_cell ((y6 g3 (.inr rfl)).trans HG6.out); obtain ⟨z0, z1, z2, z3, z4, z5, z6, z7⟩ := box_cell hB7.b2; have f0 := hB7.f2 0; have f1 := hB7.f2 1; have f2 := hB7.f2 2; have f3 := hB7.f2 3; have f4 := hB7.f2 4; have f5 := hB7.f2 5; have f6 := hB7.f2 6; have f7 := hB7.f2 7; have hS := put8_cell w6 (g0 + 1 + 1) (.int .i64 d'.R) (.int .i64 d'.W) (.int .i64 d'.O) (.slice a3' d'.Rd.length k3') (.slice a4' d'.Rs.length k4') (.slice a5' d'.Ws.length k5') (.slice a6' d'.Os.length k6') (.slice a7' d'.Is.length k7'); unfold put8W at hS))
  have HQ : Hid (OneQ c lab lb s' d' (E1 == E2) w (.returned (.tuple #[.agg #[.int .i64 d'.R, .int .i64 d'.W, .int .i64 d'.O, .slice a3' d'.Rd.length k3', .slice a4' d'.Rs.length k4', .slice a5' d'.Ws.length k5', .slice a6' d'.Os.length k6', .slice a7' d'.Is.length k7'], .bool (E1 == E2)])) (put8W w6 (g0 + 1 + 1) (.int .i64 d'.R) (.int .i64 d'.W) (.int .i64 d'.O) (.slice a3' d'.Rd.length k3') (.slice a4' d'.Rs.length k4') (.slice a5' d'.Ws.length k5') (.slice a6' d'.Os.length k6') (.slice a7' d'.Is.length k7'))) := one_end o6 (.inl (.inr (.inr rfl))) hD7 _ _ _ _ _ _ _ _
  have HB2 : Hid (w6.heap[g0 + 1 + 1]? = some (.cells #[.int .i64 0, .int .i64 0, .int .i64 0, .slice none 0 0, .slice none 0 0, .slice none 0 0, .slice none 0 0, .slice none 0 0] 35)) := hB7.b2
  clear hS s0 s1 s2 s3 s4 s5 s6 s7 p0 p1 p2 p3 z0 z1 z2 z3 z4 z5 z6 z7 f0 f1 f2 f3 f4 f5 f6 f7 hB7 hD7 y6 q6 o6 hV0 HC HI6d HI6 HB6 HD6 HG6
  go_wp2_with fail
  refine bodyPost_ret (ret_L2 Try.results11 _ (g0 + 1 + 1) rfl _ _ _ _ _ _ _ _ _ (put8V HB2.out)) rfl ?_
  exact HQ.out
end Go.Proofs.Ytongeppdaeekeaa
