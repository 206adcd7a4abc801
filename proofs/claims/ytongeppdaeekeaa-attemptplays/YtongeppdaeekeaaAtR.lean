/- All that both logs tell is the same. -/
import Derived.Test.YtongeppdaeekeaaAtT
import Derived.Deep.RegionHeldLaw
namespace Go.Proofs.Ytongeppdaeekeaa
open Go.RowKit Go.Maps
set_option linter.unusedVariables false

set_option maxRecDepth 100000 in
set_option maxHeartbeats 6000000 in
theorem same_any {w : World} {lab : Nat → Nat} {c lb : Nat} {s : Lg} {v : Value} {d : Dg} (h : LV w lab c lb s) (hd : DV w v d) (hk : Lk s d) (at' : Int) (mv av : Value) (M A : List Int) (hm : RS kN w mv M) (ha : RS kN w av A) (hA : ∀ y ∈ A, R64 y) (l1 : d.Rd.length ≤ 1000) (l2 : d.Is.length ≤ 1000) (l3 : A.length ≤ 1000) :
    Calls Try.prog 12 #[.pointer (some ⟨lb, 0, none⟩), v, .int .i64 at', mv, av] w (AN w (.bool true)) := by
  have HQ : Hid (∀ W, Below w.heap.size w W → AN w (.bool true) (.returned (.bool true)) W) := fun W hW => ⟨rfl, hW⟩
  have HL : Hid (∀ W, Below w.heap.size w W → LV W lab c lb s) := fun W hW => h.below hW
  obtain ⟨l5, l6, l7⟩ := h.lens64
  have HDV : Hid (∀ W, Below w.heap.size w W → DV W v d) := fun W hW => hd.below hW
  have HMM : Hid (∀ W, Below w.heap.size w W → RS kN W mv M) := fun W hW => hm.below hW
  have HAV : Hid (∀ W, Below w.heap.size w W → RS kN W av A) := fun W hW => ha.below hW
  have HK : Hid (Lk s d) := hk
  have HAB : Hid (∀ y ∈ A, R64 y) := hA
  obtain ⟨dv, rv, wv, ov, iv, rfl, hx⟩ := hd
  obtain ⟨a3, k3, e3⟩ := hx.dd.form
  obtain ⟨a4, k4, e4⟩ := hx.rr.form
  obtain ⟨a5, k5, e5⟩ := hx.ww.form
  obtain ⟨a6, k6, e6⟩ := hx.oo.form
  obtain ⟨a7, k7, e7⟩ := hx.ii.form
  rw [hk.r] at e4
  rw [hk.w] at e5
  rw [hk.o] at e6
  obtain ⟨n1, hn1⟩ : ∃ n, s.Rs.length = n := ⟨_, rfl⟩
  obtain ⟨n2, hn2⟩ : ∃ n, s.Ws.length = n := ⟨_, rfl⟩
  obtain ⟨n3, hn3⟩ : ∃ n, s.Os.length = n := ⟨_, rfl⟩
  obtain ⟨nd, hnd⟩ : ∃ n, d.Rd.length = n := ⟨_, rfl⟩
  have HR : Hid (RS kQ w rv s.Rs) := by have := hx.rr; rw [hk.r] at this; exact this
  have HW : Hid (RS kC w wv s.Ws) := by have := hx.ww; rw [hk.w] at this; exact this
  have HO : Hid (RS kN w ov s.Os) := by have := hx.oo; rw [hk.o] at this; exact this
  have HN : Hid (s.Rs.length = n1 ∧ s.Ws.length = n2 ∧ s.Os.length = n3 ∧ d.Rd.length = nd) := ⟨hn1, hn2, hn3, hnd⟩
  rw [hn1] at e4 l5
  rw [hn2] at e5 l6
  rw [hn3] at e6 l7
  rw [hnd] at e3 l1
  subst e3 e4 e5 e6 e7
  obtain ⟨am, km, em⟩ := hm.form
  obtain ⟨aa, ka, ea⟩ := ha.form
  obtain ⟨nm, hnm⟩ : ∃ n, M.length = n := ⟨_, rfl⟩
  obtain ⟨na, hna⟩ : ∃ n, A.length = n := ⟨_, rfl⟩
  have HNA : Hid (A.length = na) := hna
  rw [hnm] at em
  rw [hna] at ea l3
  subst em ea
  have hlen : s.ops.length = nd := by rw [hk.ops, List.length_map, hnd]
  have HLEN : Hid (s.ops.length = nd) := hlen
  have HLE : Hid (∀ W, Below w.heap.size w W → Calls Try.prog 15 #[.pointer (some ⟨lb, 0, none⟩)] W (AN W (.tuple #[.int .i64 (n1 : Int), .int .i64 (n2 : Int), .int .i64 (n3 : Int)]))) := fun W hW => by have := lens_any (HL.out W hW); rw [hn1, hn2, hn3] at this; exact this
  have HRE : Hid (∀ W, Below w.heap.size w W → Calls Try.prog 20 #[.pointer (some ⟨lb, 0, none⟩)] W (fun e w' => ∃ a k, e = .returned (.slice a n1 k) ∧ RS kR w' (.slice a n1 k) s.Rs ∧ Below W.heap.size W w')) := fun W hW => (reads_any (HL.out W hW)).mono fun e W' ⟨v', e1, r, b⟩ => by
    obtain ⟨a, k, e2⟩ := r.form
    rw [hn1] at e2
    subst e2
    exact ⟨a, k, e1, r, b⟩
  have HWR : Hid (∀ W, Below w.heap.size w W → Calls Try.prog 17 #[.pointer (some ⟨lb, 0, none⟩)] W (fun e w' => ∃ v', e = .returned v' ∧ RS kC w' v' s.Ws ∧ Below W.heap.size W w')) := fun W hW => writes_any (HL.out W hW)
  have HOU : Hid (∀ W, Below w.heap.size w W → Calls Try.prog 19 #[.pointer (some ⟨lb, 0, none⟩)] W (fun e w' => ∃ v', e = .returned v' ∧ RS kN w' v' s.Os ∧ Below W.heap.size W w')) := fun W hW => outs_any (HL.out W hW)
  have HSW : Hid (∀ W v', Below w.heap.size w W → RS kC W v' s.Ws → Calls Try.prog 16 #[v', .slice a5 n2 k5] W (AN W (.bool true))) := fun W v' hW r => rsame_true r (HW.out.below hW) (by rw [hn2]; omega)
  have HSO : Hid (∀ W v', Below w.heap.size w W → RS kN W v' s.Os → Calls Try.prog 18 #[v', .slice a6 n3 k6] W (AN W (.bool true))) := fun W v' hW r => rrow_true r (HO.out.below hW) (by rw [hn3]; omega)
  have HRQ : Hid (∀ W, Below w.heap.size w W → Calls Try.prog 24 #[.pointer (some ⟨lb, 0, none⟩), .int .i64 at'] W (AN W (readV s at'))) := fun W hW => rdq_any (HL.out W hW) at'
  have HRR : Hid (∀ W, Below w.heap.size w W → Calls Try.prog 57 #[.agg #[.int .i64 d.R, .int .i64 d.W, .int .i64 d.O, .slice a3 nd k3, .slice a4 n1 k4, .slice a5 n2 k5, .slice a6 n3 k6, .slice a7 d.Is.length k7], .int .i64 at'] W (AN W (.int .i64 (idxI (s.Rs.findIdx (isR at')) n1)))) := fun W hW => by have := rread_any (HDV.out W hW) at' (by rw [hk.r, hn1]; omega); rw [hk.r, hn1] at this; exact this
  have HWQ : Hid (∀ W, Below w.heap.size w W → Calls Try.prog 58 #[.pointer (some ⟨lb, 0, none⟩), .int .i64 at'] W (AN W (writtenV s at'))) := fun W hW => wrq_any (HL.out W hW) at'
  have HRW : Hid (∀ W, Below w.heap.size w W → Calls Try.prog 59 #[.agg #[.int .i64 d.R, .int .i64 d.W, .int .i64 d.O, .slice a3 nd k3, .slice a4 n1 k4, .slice a5 n2 k5, .slice a6 n3 k6, .slice a7 d.Is.length k7], .int .i64 at'] W (AN W (.int .i64 (idxI (s.Ws.findIdx (isC at')) n2)))) := fun W hW => by have := rwritten_any (HDV.out W hW) at' (by rw [hk.w, hn2]; omega); rw [hk.w, hn2] at this; exact this
  have HHO : Hid (∀ W, Below w.heap.size w W → Calls Try.prog 23 #[.pointer (some ⟨lb, 0, none⟩), .slice am nm km] W (AN W (.bool (holdsL s.Rs M)))) := fun W hW => by
    obtain ⟨_, _, _, _, _, _, _, h⟩ := HL.out W hW
    exact holds_any h _ _ (HMM.out W hW).gsl
  have HRH : Hid (∀ W, Below w.heap.size w W → Calls Try.prog 60 #[.agg #[.int .i64 d.R, .int .i64 d.W, .int .i64 d.O, .slice a3 nd k3, .slice a4 n1 k4, .slice a5 n2 k5, .slice a6 n3 k6, .slice a7 d.Is.length k7], .slice am nm km] W (AN W (.bool (holdsL s.Rs M)))) := fun W hW => by have := rholds_any (HDV.out W hW) _ M (HMM.out W hW).gsl (by rw [hk.r, hn1]; omega); rw [hk.r] at this; exact this
  have HON : Hid (∀ W, Below w.heap.size w W → Calls Try.prog 21 #[.pointer (some ⟨lb, 0, none⟩), .slice aa na ka] W (OntoP s.ops s.now A W)) := fun W hW => lonto_any (HL.out W hW) _ A (HAV.out W hW).gsl
  have HRO : Hid (na = nd → ∀ W, Below w.heap.size w W → Calls Try.prog 61 #[.agg #[.int .i64 d.R, .int .i64 d.W, .int .i64 d.O, .slice a3 nd k3, .slice a4 n1 k4, .slice a5 n2 k5, .slice a6 n3 k6, .slice a7 d.Is.length k7], .slice aa na ka] W (fun e w' => ∃ v, e = .returned v ∧ RS kN w' v (rontoL d.Rd A (inL d.Rd d.Is)) ∧ Below W.heap.size W w')) := fun hnn W hW => rlonto_any (HDV.out W hW) (HAV.out W hW) (by rw [hna, hnd]; exact hnn) HAB.out hk.bd (by rw [hnd]; exact l1) l2
  have HOE : Hid (ontoL s.ops A s.now = rontoL d.Rd A (inL d.Rd d.Is)) := hk.onto A
  have HOW : Hid ((ontoL s.ops A s.now).length = nd) := by show _ = _; unfold ontoL; rw [List.length_map, List.length_range, hlen]
  have HWX : Hid (RS kC w (.slice a5 n2 k5) s.Ws) := HW.out
  clear h hk hA hx hm ha hn1 hn2 hn3 hnd hnm hna hlen HL HDV HMM HAV HAB HK HW HO
  have hcell : ∀ W, Below (w.heap.size + 1) (w.alloc (.cells #[.int .i64 d.R, .int .i64 d.W, .int .i64 d.O, .slice a3 nd k3, .slice a4 n1 k4, .slice a5 n2 k5, .slice a6 n3 k6, .slice a7 d.Is.length k7] 35)) W → W.cell? ⟨w.heap.size, 0, none⟩ = some (.int .i64 d.R) ∧ W.cell? ⟨w.heap.size, 1, none⟩ = some (.int .i64 d.W) ∧ W.cell? ⟨w.heap.size, 2, none⟩ = some (.int .i64 d.O) ∧ W.cell? ⟨w.heap.size, 3, none⟩ = some (.slice a3 nd k3) ∧ W.cell? ⟨w.heap.size, 4, none⟩ = some (.slice a4 n1 k4) ∧ W.cell? ⟨w.heap.size, 5, none⟩ = some (.slice a5 n2 k5) ∧ W.cell? ⟨w.heap.size, 6, none⟩ = some (.slice a6 n3 k6) ∧ W.cell? ⟨w.heap.size, 7, none⟩ = some (.slice a7 d.Is.length k7) := fun W hW => box_cell ((hW.block w.heap.size (by omega)).trans (heap_alloc_new _ _))
  have hsz : w.heap.size + 1 ≤ (w.alloc (.cells #[.int .i64 d.R, .int .i64 d.W, .int .i64 d.O, .slice a3 nd k3, .slice a4 n1 k4, .slice a5 n2 k5, .slice a6 n3 k6, .slice a7 d.Is.length k7] 35)).heap.size := by simp
  have HB : Hid (Below w.heap.size w (w.alloc (.cells #[.int .i64 d.R, .int .i64 d.W, .int .i64 d.O, .slice a3 nd k3, .slice a4 n1 k4, .slice a5 n2 k5, .slice a6 n3 k6, .slice a7 d.Is.length k7] 35))) := bl1 w _
  generalize AN w (.bool true) = P at *
  go_enter Try.func12, Try.ntmps12
  go_upto_region 1 with fail
  generalize w.alloc (.cells #[.int .i64 d.R, .int .i64 d.W, .int .i64 d.O, .slice a3 nd k3, .slice a4 n1 k4, .slice a5 n2 k5, .slice a6 n3 k6, .slice a7 d.Is.length k7] 35) = V at *
  obtain ⟨g, hg⟩ : ∃ g, w.heap.size = g := ⟨_, rfl⟩
  have HG : Hid (w.heap.size = g) := hg
  rw [hg] at hcell hsz ⊢
  clear hg
  have HC : Hid (∀ W, Below (g + 1) V W → W.cell? ⟨g, 0, none⟩ = some (.int .i64 d.R) ∧ W.cell? ⟨g, 1, none⟩ = some (.int .i64 d.W) ∧ W.cell? ⟨g, 2, none⟩ = some (.int .i64 d.O) ∧ W.cell? ⟨g, 3, none⟩ = some (.slice a3 nd k3) ∧ W.cell? ⟨g, 4, none⟩ = some (.slice a4 n1 k4) ∧ W.cell? ⟨g, 5, none⟩ = some (.slice a5 n2 k5) ∧ W.cell? ⟨g, 6, none⟩ = some (.slice a6 n3 k6) ∧ W.cell? ⟨g, 7, none⟩ = some (.slice a7 d.Is.length k7)) := hcell
  have HSZ : Hid (g + 1 ≤ V.heap.size) := hsz
  clear hcell hsz
  go_wp2_with fail
  refine (HLE.out V HB.out).mono ?_
  rintro e w1 ⟨rfl, b1⟩
  have HB1 : Hid (Below w.heap.size w w1) := HB.out.trans (b1.mono HB.out.size)
  have HD1 : Hid (Below (g + 1) V w1) := b1.mono HSZ.out
  clear b1
  go_wp2_with fail
  refine (HRE.out w1 HB1.out).mono ?_
  rintro e w2 ⟨ra, rk, rfl, r2, b2⟩
  have HB2 : Hid (Below w.heap.size w w2) := HB1.out.trans (b2.mono HB1.out.size)
  have HD2 : Hid (Below (g + 1) V w2) := HD1.out.trans (b2.mono (Nat.le_trans HSZ.out HD1.out.size))
  have HRD : Hid (RS kR w2 (.slice ra n1 rk) s.Rs) := r2
  clear r2 b2 HB1 HD1 HLE HRE
  have t1 : ((n1 : Int) != (n1 : Int)) = false := by simp
  have t2 : ((n2 : Int) != (n2 : Int)) = false := by simp
  have t3 : ((n3 : Int) != (n3 : Int)) = false := by simp
  have u1 : (n1 != n1) = false := by simp
  have u2 : (n2 != n2) = false := by simp
  have u3 : (n3 != n3) = false := by simp
  have HCX : Hid (∀ W, Below (g + 1) V W → W.cell? ⟨g, 4, none⟩ = some (.slice a4 n1 k4) ∧ W.cell? ⟨g, 5, none⟩ = some (.slice a5 n2 k5) ∧ W.cell? ⟨g, 6, none⟩ = some (.slice a6 n3 k6)) := fun W hW => by
    obtain ⟨_, _, _, _, x4, x5, x6, _⟩ := HC.out W hW
    exact ⟨x4, x5, x6⟩
  have hSd := HCX.out w2.drew HD2.out.drew
  have hB2d : Below w.heap.size w w2.drew := HB2.out.drew
  have hD2d : Below (g + 1) V w2.drew := HD2.out.drew
  have hs1 : g + 1 ≤ w2.heap.size := Nat.le_trans HSZ.out HD2.out.size
  go_upto_region 3 with fail
  go_region_held3 (fun W => W.cell? ⟨g, 4, none⟩ = some (.slice a4 n1 k4) ∧ W.cell? ⟨g, 5, none⟩ = some (.slice a5 n2 k5) ∧ W.cell? ⟨g, 6, none⟩ = some (.slice a6 n3 k6))
    (first | with_reducible exact hSd | with_reducible exact hS3 | with_reducible exact hS4 | with_reducible exact hS5 | with_reducible exact hS6)
    (first
      | (go_at_call 18; refine (HSO.out _ v5 B5 r5).mono ?_; rintro e w6 ⟨rfl, b6⟩
         have E6 : Below w2.heap.size w2 w6 := E5.trans (b6.mono E5.size)
         have B6 : Below w.heap.size w w6 := HB2.out.trans (E6.mono HB2.out.size)
         have D6 : Below (g + 1) V w6 := HD2.out.trans (E6.mono hs1)
         have hS6 := HCX.out w6 D6)
      | (go_at_call 19; refine (HOU.out _ B4).mono ?_; rintro e w5 ⟨v5, rfl, r5, b5⟩
         have E5 : Below w2.heap.size w2 w5 := E4.trans (b5.mono E4.size)
         have B5 : Below w.heap.size w w5 := HB2.out.trans (E5.mono HB2.out.size)
         have D5 : Below (g + 1) V w5 := HD2.out.trans (E5.mono hs1)
         have hS5 := HCX.out w5 D5)
      | (go_at_call 16; refine (HSW.out _ v3 B3 r3).mono ?_; rintro e w4 ⟨rfl, b4⟩
         have E4 : Below w2.heap.size w2 w4 := E3.trans (b4.mono E3.size)
         have B4 : Below w.heap.size w w4 := HB2.out.trans (E4.mono HB2.out.size)
         have D4 : Below (g + 1) V w4 := HD2.out.trans (E4.mono hs1)
         have hS4 := HCX.out w4 D4)
      | (go_at_call 17; refine (HWR.out _ hB2d).mono ?_; rintro e w3 ⟨v3, rfl, r3, b3⟩
         have E3 : Below w2.heap.size w2 w3 := (Below.refl _ w2).drew.trans (b3.mono (Nat.le_refl _))
         have B3 : Below w.heap.size w w3 := HB2.out.trans (E3.mono HB2.out.size)
         have D3 : Below (g + 1) V w3 := HD2.out.trans (E3.mono hs1)
         have hS3 := HCX.out w3 D3))
  have HB6 : Hid (Below w.heap.size w w6) := B6
  have HD6 : Hid (Below (g + 1) V w6) := D6
  have HR6 : Hid (RS kR w6 (.slice ra n1 rk) s.Rs) := HRD.out.below E6
  clear E3 E4 E5 E6 B3 B4 B5 B6 D3 D4 D5 D6 r3 r5 hS3 hS4 hS5 hS6 hSd hB2d hD2d hs1 b3 b4 b5 b6 HRD HB2 HD2 HWR HOU HSW HSO HCX
  go_wp2_with fail
  go_loopw [15] (fun i wr => ∃ q : Nat, i = .int .i64 (q : Int) ∧ q ≤ n1 ∧ Hid (Below w6.heap.size w6 wr)) (fun i _ => n1 - (intOf i).toNat)
  case atStart => exact ⟨0, rfl, Nat.zero_le _, Below.refl _ _⟩
  case round =>
    obtain ⟨q, rfl, hq, HBR⟩ := hrel
    have HBW : Hid (Below w.heap.size w wr) := HB6.out.trans (HBR.out.mono HB6.out.size)
    have HDW : Hid (Below (g + 1) V wr) := HD6.out.trans (HBR.out.mono (Nat.le_trans HSZ.out HD6.out.size))
    by_cases hlt : q < n1
    · have d5 : decide (q < n1) = true := by simp; omega
      have hq' : q < s.Rs.length := by rw [HN.out.1]; exact hlt
      obtain ⟨b, bo, n, c', hg, hcl⟩ := (HR6.out.below HBR.out).cell hq'
      simp only [Value.slice.injEq] at hg
      obtain ⟨rfl, rfl, rfl⟩ := hg
      obtain ⟨b', bo', n', c2', hg, hcl2⟩ := (HR.out.below HBW.out).cell hq'
      simp only [Value.slice.injEq] at hg
      obtain ⟨rfl, rfl, rfl⟩ := hg
      obtain ⟨⟨z0, z1, z2⟩, hz⟩ : ∃ x, s.Rs[q]'hq' = x := ⟨_, rfl⟩
      rw [hz] at hcl hcl2
      obtain ⟨y0, y1, y2⟩ := tri_cells rfl rfl hcl
      obtain ⟨x0, x1, x2⟩ := tri_cells rfl rfl hcl2
      obtain ⟨_, _, _, _, c4, _, _, _⟩ := HC.out wr HDW.out
      have i1 : (0 : Int) ≤ (q : Int) := by omega
      have i2 : (q : Int) < (n1 : Int) := by omega
      have v0 : (z0 != z0) = false := by simp
      have v1 : (z1 != z1) = false := by simp
      have v2 : (z2 != z2) = false := by simp
      clear hcl hcl2 hz hq'
      go_upto_region 8 with fail
      go_quiet (fail)
      go_wp2_with fail
      go_roundw
      case rel => exact ⟨q + 1, by go_num, by omega, Below.dN HBR.out _⟩
      case measure => simp [intOf]; omega
    · have d5 : decide (q < n1) = false := by simp; omega
      have hqm : q = n1 := by omega
      subst hqm
      have HRw : Hid (RS kR wr (.slice ra q rk) s.Rs) := HR6.out.below HBR.out
      clear HR6 HBR HB6 HD6
      go_wp2_with fail
      refine (HRQ.out wr HBW.out).mono ?_
      rintro e w7 ⟨rfl, b7⟩
      have HB7 : Hid (Below w.heap.size w w7) := HBW.out.trans (b7.mono HBW.out.size)
      have HD7 : Hid (Below (g + 1) V w7) := HDW.out.trans (b7.mono (Nat.le_trans HSZ.out HDW.out.size))
      have HR7 : Hid (RS kR w7 (.slice ra q rk) s.Rs) := HRw.out.below b7
      clear b7 HBW HDW HRw HRQ
      unfold readV
      by_cases hr : s.Rs.findIdx (isR at') < q
      · have hhr : hasR s at' = true := decide_eq_true (by rw [HN.out.1]; exact hr)
        have hrl : s.Rs.findIdx (isR at') < s.Rs.length := by rw [HN.out.1]; exact hr
        obtain ⟨⟨z0, z1, z2⟩, hz⟩ : ∃ x, s.Rs[s.Rs.findIdx (isR at')]'hrl = x := ⟨_, rfl⟩
        have hrz : readZ s at' = (z0, z1, z2) := by unfold readZ; rw [getD_at _ _ _ hrl, hz]
        rw [hhr, hrz]
        have HRR2 : Hid (∀ W, Below w.heap.size w W → Calls Try.prog 57 #[.agg #[.int .i64 d.R, .int .i64 d.W, .int .i64 d.O, .slice a3 nd k3, .slice a4 q k4, .slice a5 n2 k5, .slice a6 n3 k6, .slice a7 d.Is.length k7], .int .i64 at'] W (AN W (.int .i64 (s.Rs.findIdx (isR at') : Int)))) := fun W hW => by have := HRR.out W hW; rw [idxI, if_pos hr] at this; exact this
        obtain ⟨b, bo, n, c', hg, hcl⟩ := HR7.out.cell hrl
        simp only [Value.slice.injEq] at hg
        obtain ⟨rfl, rfl, rfl⟩ := hg
        rw [hz] at hcl
        obtain ⟨y0, y1, y2⟩ := tri_cells rfl rfl hcl
        have HY : Hid (∀ W, Below w7.heap.size w7 W → W.cell? ⟨b, bo + s.Rs.findIdx (isR at') * 3, none⟩ = some (.int .i64 z0) ∧ W.cell? ⟨b, bo + s.Rs.findIdx (isR at') * 3 + 1, none⟩ = some (.int .i64 z1) ∧ W.cell? ⟨b, bo + s.Rs.findIdx (isR at') * 3 + 2, none⟩ = some (.int .i64 z2)) := fun W hW => ⟨(hW.cell (p := ⟨b, bo + s.Rs.findIdx (isR at') * 3, none⟩) (World.block_lt_of_cell? w7 _ y0)).trans y0, (hW.cell (p := ⟨b, bo + s.Rs.findIdx (isR at') * 3 + 1, none⟩) (World.block_lt_of_cell? w7 _ y1)).trans y1, (hW.cell (p := ⟨b, bo + s.Rs.findIdx (isR at') * 3 + 2, none⟩) (World.block_lt_of_cell? w7 _ y2)).trans y2⟩
        have i3 : (0 : Int) ≤ (s.Rs.findIdx (isR at') : Int) := by omega
        have i4 : (s.Rs.findIdx (isR at') : Int) < (q : Int) := by omega
        have ge1 : decide ((0 : Int) ≤ (s.Rs.findIdx (isR at') : Int)) = true := by simp
        clear hcl hz hrz hhr hrl y0 y1 y2
        generalize s.Rs.findIdx (isR at') = p at *
        go_upto_region 11 with fail
        have HBv : Hid (Below w.heap.size w (w7.alloc (.cells #[.int .i64 z0, .int .i64 z1, .int .i64 z2] 57))) := HB7.out.trans ((bl1 w7 _).mono HB7.out.size)
        have HDv : Hid (Below (g + 1) V (w7.alloc (.cells #[.int .i64 z0, .int .i64 z1, .int .i64 z2] 57))) := HD7.out.trans ((bl1 w7 _).mono (Nat.le_trans HSZ.out HD7.out.size))
        have HGv : Hid (∀ W, Below (w7.heap.size + 1) (w7.alloc (.cells #[.int .i64 z0, .int .i64 z1, .int .i64 z2] 57)) W → W.cell? ⟨w7.heap.size, 0, none⟩ = some (.int .i64 z0) ∧ W.cell? ⟨w7.heap.size, 1, none⟩ = some (.int .i64 z1) ∧ W.cell? ⟨w7.heap.size, 2, none⟩ = some (.int .i64 z2)) := fun W hW => by
          have e := (hW.block w7.heap.size (by omega)).trans (heap_alloc_new _ _)
          refine ⟨?_, ?_, ?_⟩ <;> (rw [cell_of_row W w7.heap.size _ _ _ _ e]; rfl)
        have HYv : Hid (∀ W, Below (w7.heap.size + 1) (w7.alloc (.cells #[.int .i64 z0, .int .i64 z1, .int .i64 z2] 57)) W → Below w7.heap.size w7 W) := fun W hW => (bl1 w7 _).trans (hW.mono (by omega))
        have hsv : w7.heap.size + 1 ≤ (w7.alloc (.cells #[.int .i64 z0, .int .i64 z1, .int .i64 z2] 57)).heap.size := by simp
        generalize w7.alloc (.cells #[.int .i64 z0, .int .i64 z1, .int .i64 z2] 57) = Wv at *
        generalize w7.heap.size = gv at *
        obtain ⟨b0, b1, b2, b3, b4, b5, b6, b7⟩ := HC.out Wv HDv.out
        go_wp2_with fail
        refine (HRR2.out Wv HBv.out).mono ?_
        rintro e w8 ⟨rfl, b8⟩
        have HB8 : Hid (Below w.heap.size w w8) := HBv.out.trans (b8.mono HBv.out.size)
        have HD8 : Hid (Below (g + 1) V w8) := HDv.out.trans (b8.mono (Nat.le_trans HSZ.out HDv.out.size))
        obtain ⟨x0, x1, x2⟩ := HGv.out w8 (b8.mono hsv)
        have hy := HY.out w8 (HYv.out w8 (b8.mono hsv))
        obtain ⟨y0, y1, y2⟩ := hy
        clear b8 hsv b0 b1 b2 b3 b4 b5 b6 b7 HRR2 HY HYv HGv HBv HDv HB7 HD7 HR7
        go_upto_region 12 with fail
        go_quiet (fail)
        have HBy : Hid (Below w.heap.size w (w8.drewN nq)) := Below.dN HB8.out _
        have HDy : Hid (Below (g + 1) V (w8.drewN nq)) := Below.dN HD8.out _
        clear x0 x1 x2 y0 y1 y2 HB8 HD8
        generalize w8.drewN nq = wy at *
        by_cases hw : s.Ws.findIdx (isC at') < n2
        · go_wp2_with fail
          refine (HWQ.out wy HBy.out).mono ?_
          rintro e w8 ⟨rfl, b8⟩
          have HB8 : Hid (Below w.heap.size w w8) := HBy.out.trans (b8.mono HBy.out.size)
          have HD8 : Hid (Below (g + 1) V w8) := HDy.out.trans (b8.mono (Nat.le_trans HSZ.out HDy.out.size))
          clear b8
          obtain ⟨b0, b1, b2, b3, b4, b5, b6, b7⟩ := HC.out w8 HD8.out
          unfold writtenV
          have hhw : hasC s at' = true := decide_eq_true (by rw [HN.out.2.1]; exact hw)
          have hwl : s.Ws.findIdx (isC at') < s.Ws.length := by rw [HN.out.2.1]; exact hw
          obtain ⟨⟨z0, z1⟩, hz⟩ : ∃ x, s.Ws[s.Ws.findIdx (isC at')]'hwl = x := ⟨_, rfl⟩
          have hwz : writtenZ s at' = z1 := by unfold writtenZ; rw [getD_at _ _ _ hwl, hz]
          rw [hhw, hwz]
          have HRW2 : Hid (∀ W, Below w.heap.size w W → Calls Try.prog 59 #[.agg #[.int .i64 d.R, .int .i64 d.W, .int .i64 d.O, .slice a3 nd k3, .slice a4 q k4, .slice a5 n2 k5, .slice a6 n3 k6, .slice a7 d.Is.length k7], .int .i64 at'] W (AN W (.int .i64 (s.Ws.findIdx (isC at') : Int)))) := fun W hW => by have := HRW.out W hW; rw [idxI, if_pos hw] at this; exact this
          obtain ⟨b, bo, n, c', hg, hcl⟩ := HWX.out.cell hwl
          simp only [Value.slice.injEq] at hg
          obtain ⟨rfl, rfl, rfl⟩ := hg
          rw [hz] at hcl
          have hy1 := (duo_cells rfl rfl hcl).2
          have HY1 : Hid (∀ W, Below w.heap.size w W → W.cell? ⟨b, bo + s.Ws.findIdx (isC at') * 2 + 1, none⟩ = some (.int .i64 z1)) := fun W hW => (hW.cell (p := ⟨b, bo + s.Ws.findIdx (isC at') * 2 + 1, none⟩) (World.block_lt_of_cell? w _ hy1)).trans hy1
          have i3 : (0 : Int) ≤ (s.Ws.findIdx (isC at') : Int) := by omega
          have i4 : (s.Ws.findIdx (isC at') : Int) < (n2 : Int) := by omega
          have v1 : (z1 != z1) = false := by simp
          have ge1 : decide ((0 : Int) ≤ (s.Ws.findIdx (isC at') : Int)) = true := by simp
          clear hcl hz hwz hhw hwl hy1
          generalize s.Ws.findIdx (isC at') = p at *
          go_wp2_with fail
          refine (HRW2.out w8 HB8.out).mono ?_
          rintro e w9 ⟨rfl, b9⟩
          have HB9 : Hid (Below w.heap.size w w9) := HB8.out.trans (b9.mono HB8.out.size)
          have HD9 : Hid (Below (g + 1) V w9) := HD8.out.trans (b9.mono (Nat.le_trans HSZ.out HD8.out.size))
          clear b9 b0 b1 b2 b3 b4 b5 b6 b7 HRW2
          have HCX : Hid (∀ W, Below (g + 1) V W → Below w.heap.size w W → W.cell? ⟨g, 0, none⟩ = some (.int .i64 d.R) ∧ W.cell? ⟨g, 1, none⟩ = some (.int .i64 d.W) ∧ W.cell? ⟨g, 2, none⟩ = some (.int .i64 d.O) ∧ W.cell? ⟨g, 3, none⟩ = some (.slice a3 nd k3) ∧ W.cell? ⟨g, 4, none⟩ = some (.slice a4 q k4) ∧ W.cell? ⟨g, 5, none⟩ = some (.slice (some ⟨b, bo, none⟩) n2 k5) ∧ W.cell? ⟨g, 6, none⟩ = some (.slice a6 n3 k6) ∧ W.cell? ⟨g, 7, none⟩ = some (.slice a7 d.Is.length k7) ∧ W.cell? ⟨b, bo + p * 2 + 1, none⟩ = some (.int .i64 z1)) := fun W hW hW2 => by
            obtain ⟨x0, x1, x2, x3, x4, x5, x6, x7⟩ := HC.out W hW
            exact ⟨x0, x1, x2, x3, x4, x5, x6, x7, HY1.out W hW2⟩
          have hSd := HCX.out w9.drew HD9.out.drew HB9.out.drew
          have hB9d : Below w.heap.size w w9.drew := HB9.out.drew
          have hh : (holdsL s.Rs M != holdsL s.Rs M) = false := by cases holdsL s.Rs M <;> rfl
          have HHO2 := HHO.out
          have HRH2 := HRH.out
          generalize holdsL s.Rs M = hb at *
          have hSd0 := hSd
          go_upto_region 16 with fail
          go_cut [193] from 160 to 193 (fun u wx => u = .bool false ∧ Hid (Below w.heap.size w wx) ∧ Hid (Below (g + 1) V wx))
          case first =>
            first | (go_region_held_law (fun W => W.cell? ⟨g, 0, none⟩ = some (.int .i64 d.R) ∧ W.cell? ⟨g, 1, none⟩ = some (.int .i64 d.W) ∧ W.cell? ⟨g, 2, none⟩ = some (.int .i64 d.O) ∧ W.cell? ⟨g, 3, none⟩ = some (.slice a3 nd k3) ∧ W.cell? ⟨g, 4, none⟩ = some (.slice a4 q k4) ∧ W.cell? ⟨g, 5, none⟩ = some (.slice (some ⟨b, bo, none⟩) n2 k5) ∧ W.cell? ⟨g, 6, none⟩ = some (.slice a6 n3 k6) ∧ W.cell? ⟨g, 7, none⟩ = some (.slice a7 d.Is.length k7) ∧ W.cell? ⟨b, bo + p * 2 + 1, none⟩ = some (.int .i64 z1))
              (first | with_reducible exact hSd0 | with_reducible exact hS3 | with_reducible exact hS4)
              (first
                | (go_at_call 60; refine (HRH2 _ B3).mono ?_; rintro e w4 ⟨rfl, b4⟩
                   have E4 : Below w9.heap.size w9 w4 := E3.trans (b4.mono E3.size)
                   have hS4 := HCX.out w4 (HD9.out.trans (E4.mono (Nat.le_trans HSZ.out HD9.out.size))) (HB9.out.trans (E4.mono HB9.out.size)))
                | (go_at_call 23; refine (HHO2 _ hB9d).mono ?_; rintro e w3 ⟨rfl, b3⟩
                   have E3 : Below w9.heap.size w9 w3 := (Below.refl _ w9).drew.trans (b3.mono (Nat.le_refl _))
                   have B3 : Below w.heap.size w w3 := HB9.out.trans (E3.mono HB9.out.size)
                   have hS3 := HCX.out w3 (HD9.out.trans (E3.mono (Nat.le_trans HSZ.out HD9.out.size))) B3))) | fail
            all_goals
              go_wp2_with fail
              go_meet
              exact ⟨rfl, HB9.out.trans (E4.mono HB9.out.size), HD9.out.trans (E4.mono (Nat.le_trans HSZ.out HD9.out.size))⟩
          case rest =>
            obtain ⟨rfl, HBr, HDr⟩ := hcut
            obtain ⟨c0, c1, c2, c3, c4, c5, c6, c7⟩ := HC.out wc HDr.out
            go_wp2_with fail
            refine (HON.out wc HBr.out).mono ?_
            rintro e wo ho
            by_cases hna : na = nd
            · rcases ho with ⟨hne, _⟩ | ⟨_, rfl, hblk, bo⟩
              · exact absurd (by rw [HNA.out, HLEN.out]; exact hna) hne
              · rw [HLEN.out]
                have HBo : Hid (Below w.heap.size w wo) := HBr.out.trans (bo.mono HBr.out.size)
                have HDo : Hid (Below (g + 1) V wo) := HDr.out.trans (bo.mono (Nat.le_trans HSZ.out HDr.out.size))
                have HRo : Hid (RS kN wo (.slice (some ⟨wc.heap.size, 0, none⟩) nd nd) (rontoL d.Rd A (inL d.Rd d.Is))) := by
                  have := ints_rs hblk (by rw [HOW.out]; unfold maxLen; omega)
                  rw [HOW.out, HOE.out] at this
                  exact this
                have HLo : Hid ((rontoL d.Rd A (inL d.Rd d.Is)).length = nd) := by have := HOW.out; rw [HOE.out] at this; exact this
                have HRO2 := HRO.out hna
                have hnb := hna.symm
                subst hnb
                have dn : ((nd : Int) != (nd : Int)) = false := by simp
                have dn' : (nd != nd) = false := by simp
                clear hblk bo c0 c1 c2 c3 c4 c5 c6 c7 HBr HDr
                obtain ⟨c0, c1, c2, c3, c4, c5, c6, c7⟩ := HC.out wo HDo.out
                go_wp2_with fail
                refine (HRO2 wo HBo.out).mono ?_
                rintro e wp ⟨vp, rfl, rp, bp⟩
                have HBp : Hid (Below w.heap.size w wp) := HBo.out.trans (bp.mono HBo.out.size)
                have HSM : Hid (Calls Try.prog 18 #[.slice (some ⟨wc.heap.size, 0, none⟩) nd nd, vp] wp (AN wp (.bool true))) := rrow_true (HRo.out.below bp) rp (by rw [HLo.out]; omega)
                clear rp bp c0 c1 c2 c3 c4 c5 c6 c7
                go_wp2_with fail
                refine HSM.out.mono ?_
                rintro e wq ⟨rfl, bq⟩
                have HF : Hid (P (.returned (.bool true)) wq) := HQ.out wq (HBp.out.trans (bq.mono HBp.out.size))
                clear bq
                go_wp2
                first | exact HF.out | (go_ret; exact HF.out)
            · rcases ho with ⟨_, rfl, bo⟩ | ⟨hne, _⟩
              rotate_left
              · exact absurd (by rw [HNA.out, HLEN.out] at hne; exact hne) hna
              · have HBo : Hid (Below w.heap.size w wo) := HBr.out.trans (bo.mono HBr.out.size)
                have HDo : Hid (Below (g + 1) V wo) := HDr.out.trans (bo.mono (Nat.le_trans HSZ.out HDr.out.size))
                have dn : ((na : Int) != (nd : Int)) = true := by simp; omega
                have dn' : (na != nd) = true := by simp; omega
                clear bo c0 c1 c2 c3 c4 c5 c6 c7 HBr HDr
                obtain ⟨c0, c1, c2, c3, c4, c5, c6, c7⟩ := HC.out wo HDo.out
                have HF : Hid (P (.returned (.bool true)) wo) := HQ.out wo HBo.out
                clear HBo HDo
                go_wp2
                first | exact HF.out | (go_ret; exact HF.out)
        · go_wp2_with fail
          refine (HWQ.out wy HBy.out).mono ?_
          rintro e w8 ⟨rfl, b8⟩
          have HB8 : Hid (Below w.heap.size w w8) := HBy.out.trans (b8.mono HBy.out.size)
          have HD8 : Hid (Below (g + 1) V w8) := HDy.out.trans (b8.mono (Nat.le_trans HSZ.out HDy.out.size))
          clear b8
          obtain ⟨b0, b1, b2, b3, b4, b5, b6, b7⟩ := HC.out w8 HD8.out
          unfold writtenV
          have hhw : hasC s at' = false := decide_eq_false (by rw [HN.out.2.1]; exact hw)
          have hwz : writtenZ s at' = 0 := by
            unfold writtenZ
            have := HN.out.2.1
            simp [List.getD, List.getElem?_eq_none (show s.Ws.length ≤ s.Ws.findIdx (isC at') by omega)]
          rw [hhw, hwz]
          have HRW2 : Hid (∀ W, Below w.heap.size w W → Calls Try.prog 59 #[.agg #[.int .i64 d.R, .int .i64 d.W, .int .i64 d.O, .slice a3 nd k3, .slice a4 q k4, .slice a5 n2 k5, .slice a6 n3 k6, .slice a7 d.Is.length k7], .int .i64 at'] W (AN W (.int .i64 (-1)))) := fun W hW => by have := HRW.out W hW; rw [idxI, if_neg hw] at this; exact this
          have ge1 : decide ((0 : Int) ≤ (-1 : Int)) = false := by decide
          clear hhw hwz
          go_wp2_with fail
          refine (HRW2.out w8 HB8.out).mono ?_
          rintro e w9 ⟨rfl, b9⟩
          have HB9 : Hid (Below w.heap.size w w9) := HB8.out.trans (b9.mono HB8.out.size)
          have HD9 : Hid (Below (g + 1) V w9) := HD8.out.trans (b9.mono (Nat.le_trans HSZ.out HD8.out.size))
          clear b9 b0 b1 b2 b3 b4 b5 b6 b7 HRW2
          have HCX : Hid (∀ W, Below (g + 1) V W → Below w.heap.size w W → W.cell? ⟨g, 0, none⟩ = some (.int .i64 d.R) ∧ W.cell? ⟨g, 1, none⟩ = some (.int .i64 d.W) ∧ W.cell? ⟨g, 2, none⟩ = some (.int .i64 d.O) ∧ W.cell? ⟨g, 3, none⟩ = some (.slice a3 nd k3) ∧ W.cell? ⟨g, 4, none⟩ = some (.slice a4 q k4) ∧ W.cell? ⟨g, 5, none⟩ = some (.slice a5 n2 k5) ∧ W.cell? ⟨g, 6, none⟩ = some (.slice a6 n3 k6) ∧ W.cell? ⟨g, 7, none⟩ = some (.slice a7 d.Is.length k7)) := fun W hW hW2 => HC.out W hW
          have hSd := HCX.out w9.drew HD9.out.drew HB9.out.drew
          have hB9d : Below w.heap.size w w9.drew := HB9.out.drew
          have hh : (holdsL s.Rs M != holdsL s.Rs M) = false := by cases holdsL s.Rs M <;> rfl
          have HHO2 := HHO.out
          have HRH2 := HRH.out
          generalize holdsL s.Rs M = hb at *
          have hSd0 := hSd
          clear hSd
          go_upto_region 16 with fail
          go_cut [193] from 160 to 193 (fun u wx => u = .bool false ∧ Hid (Below w.heap.size w wx) ∧ Hid (Below (g + 1) V wx))
          case first =>
            refine wp_region_held_drew (S := (fun W => W.cell? ⟨g, 0, none⟩ = some (.int .i64 d.R) ∧ W.cell? ⟨g, 1, none⟩ = some (.int .i64 d.W) ∧ W.cell? ⟨g, 2, none⟩ = some (.int .i64 d.O) ∧ W.cell? ⟨g, 3, none⟩ = some (.slice a3 nd k3) ∧ W.cell? ⟨g, 4, none⟩ = some (.slice a4 q k4) ∧ W.cell? ⟨g, 5, none⟩ = some (.slice a5 n2 k5) ∧ W.cell? ⟨g, 6, none⟩ = some (.slice a6 n3 k6) ∧ W.cell? ⟨g, 7, none⟩ = some (.slice a7 d.Is.length k7))) (by kernel_rfl) ?_ (fun hHeld => ?_)
            · exact hSd0
            refine wpAnyH_take (i := 0) (oi := { dst := some 160, op := Op.move (Operand.tmp 20), type := 4, pos := "law.go:84", after := #[], guard := none }) (v := ?_) rfl (by kernel_rfl) (by kernel_rfl) (by kernel_rfl) (fun _ _ _ h => h) (Or.inl ⟨by rfl, ?_⟩) (by assumption) ?_
            rotate_left
            · intro w hSw
              try dsimp only at hSw
              first | (go_simp; done) | (go_simp; with_reducible rfl)
            try simp only [Act.put, List.setIfInBounds_toArray, List.set_cons_zero, List.set_cons_succ]
            refine wpAnyH_take (i := 1) (oi := { dst := some 161, op := Op.move (Operand.tmp 21), type := 3, pos := "law.go:84", after := #[], guard := none }) (v := ?_) rfl (by kernel_rfl) (by kernel_rfl) (by kernel_rfl) (fun _ _ _ h => h) (Or.inl ⟨by rfl, ?_⟩) (by assumption) ?_
            rotate_left
            · intro w hSw
              try dsimp only at hSw
              first | (go_simp; done) | (go_simp; with_reducible rfl)
            try simp only [Act.put, List.setIfInBounds_toArray, List.set_cons_zero, List.set_cons_succ]
            refine wpAnyH_take (i := 2) (oi := { dst := some 162, op := Op.binOp BinOp.geq 3 (Operand.tmp 161) (Operand.const (Value.int IntKind.i64 0)) 3, type := 4, pos := "law.go:84", after := #[{ on := 1, ground := Ground.data }], guard := none }) (v := ?_) rfl (by kernel_rfl) (by kernel_rfl) (by kernel_rfl) (fun _ _ _ h => h) (Or.inl ⟨by rfl, ?_⟩) (by assumption) ?_
            rotate_left
            · intro w hSw
              try dsimp only at hSw
              first | (go_simp; done) | (go_simp; with_reducible rfl)
            try simp only [Act.put, List.setIfInBounds_toArray, List.set_cons_zero, List.set_cons_succ]
            refine wpAnyH_take (i := 3) (oi := { dst := some 163, op := Op.binOp BinOp.neq 4 (Operand.tmp 160) (Operand.tmp 162) 4, type := 4, pos := "law.go:84", after := #[{ on := 0, ground := Ground.data }, { on := 2, ground := Ground.data }], guard := none }) (v := ?_) rfl (by kernel_rfl) (by kernel_rfl) (by kernel_rfl) (fun _ _ _ h => h) (Or.inl ⟨by rfl, ?_⟩) (by assumption) ?_
            rotate_left
            · intro w hSw
              try dsimp only at hSw
              first | (go_simp; done) | (go_simp; with_reducible rfl)
            try simp only [Act.put, List.setIfInBounds_toArray, List.set_cons_zero, List.set_cons_succ]
            refine wpAnyH_take (i := 4) (oi := { dst := some 164, op := Op.move (Operand.tmp 163), type := 4, pos := "law.go:84", after := #[{ on := 3, ground := Ground.data }], guard := none }) (v := ?_) rfl (by kernel_rfl) (by kernel_rfl) (by kernel_rfl) (fun _ _ _ h => h) (Or.inl ⟨by rfl, ?_⟩) (by assumption) ?_
            rotate_left
            · intro w hSw
              try dsimp only at hSw
              first | (go_simp; done) | (go_simp; with_reducible rfl)
            try simp only [Act.put, List.setIfInBounds_toArray, List.set_cons_zero, List.set_cons_succ]
            refine wpAnyH_take (i := 5) (oi := { dst := some 165, op := Op.move (Operand.tmp 20), type := 4, pos := "law.go:84", after := #[{ on := 4, ground := Ground.guard }], guard := some (4, false) }) (v := ?_) rfl (by kernel_rfl) (by kernel_rfl) (by kernel_rfl) (fun _ _ _ h => h) (Or.inl ⟨by rfl, ?_⟩) (by assumption) ?_
            rotate_left
            · intro w hSw
              try dsimp only at hSw
              first | (go_simp; done) | (go_simp; with_reducible rfl)
            try simp only [Act.put, List.setIfInBounds_toArray, List.set_cons_zero, List.set_cons_succ]
            refine wpAnyH_take (i := 6) (oi := { dst := some 166, op := Op.move (Operand.tmp 165), type := 4, pos := "law.go:84", after := #[{ on := 5, ground := Ground.data }, { on := 4, ground := Ground.chain }, { on := 4, ground := Ground.guard }], guard := some (4, false) }) (v := ?_) rfl (by kernel_rfl) (by kernel_rfl) (by kernel_rfl) (fun _ _ _ h => h) (Or.inl ⟨by rfl, ?_⟩) (by assumption) ?_
            rotate_left
            · intro w hSw
              try dsimp only at hSw
              first | (go_simp; done) | (go_simp; with_reducible rfl)
            try simp only [Act.put, List.setIfInBounds_toArray, List.set_cons_zero, List.set_cons_succ]
            refine' wpAnyH_take (i := 7) (oi := { dst := some 167, op := Op.move (Operand.tmp 19), type := 2, pos := "law.go:84", after := #[{ on := 6, ground := Ground.guard }], guard := some (6, true) }) (v := undef) rfl (by kernel_rfl) (by kernel_rfl) (by kernel_rfl) (fun _ _ _ h => h) (Or.inr ⟨by rfl, rfl⟩) (by assumption) ?_
            try simp only [Act.put, List.setIfInBounds_toArray, List.set_cons_zero, List.set_cons_succ]
            refine' wpAnyH_take (i := 8) (oi := { dst := some 168, op := Op.fieldAddr 35 (Operand.tmp 6) 5, type := 0, pos := "law.go:84", after := #[{ on := 6, ground := Ground.guard }], guard := some (6, true) }) (v := undef) rfl (by kernel_rfl) (by kernel_rfl) (by kernel_rfl) (fun _ _ _ h => h) (Or.inr ⟨by rfl, rfl⟩) (by assumption) ?_
            try simp only [Act.put, List.setIfInBounds_toArray, List.set_cons_zero, List.set_cons_succ]
            refine' wpAnyH_take (i := 9) (oi := { dst := some 169, op := Op.load 32 (Operand.tmp 168), type := 32, pos := "law.go:84", after := #[{ on := 8, ground := Ground.data }, { on := 6, ground := Ground.guard }], guard := some (6, true) }) (v := undef) rfl (by kernel_rfl) (by kernel_rfl) (by kernel_rfl) (fun _ _ _ h => h) (Or.inr ⟨by rfl, rfl⟩) (by assumption) ?_
            try simp only [Act.put, List.setIfInBounds_toArray, List.set_cons_zero, List.set_cons_succ]
            refine' wpAnyH_take (i := 10) (oi := { dst := some 170, op := Op.move (Operand.tmp 21), type := 3, pos := "law.go:84", after := #[{ on := 6, ground := Ground.guard }], guard := some (6, true) }) (v := undef) rfl (by kernel_rfl) (by kernel_rfl) (by kernel_rfl) (fun _ _ _ h => h) (Or.inr ⟨by rfl, rfl⟩) (by assumption) ?_
            try simp only [Act.put, List.setIfInBounds_toArray, List.set_cons_zero, List.set_cons_succ]
            refine' wpAnyH_take (i := 11) (oi := { dst := some 171, op := Op.indexAddr 32 (Operand.tmp 169) (Operand.tmp 170), type := 0, pos := "law.go:84", after := #[{ on := 9, ground := Ground.data }, { on := 10, ground := Ground.data }, { on := 6, ground := Ground.guard }], guard := some (6, true) }) (v := undef) rfl (by kernel_rfl) (by kernel_rfl) (by kernel_rfl) (fun _ _ _ h => h) (Or.inr ⟨by rfl, rfl⟩) (by assumption) ?_
            try simp only [Act.put, List.setIfInBounds_toArray, List.set_cons_zero, List.set_cons_succ]
            refine' wpAnyH_take (i := 12) (oi := { dst := some 172, op := Op.fieldAddr 120 (Operand.tmp 171) 1, type := 0, pos := "law.go:84", after := #[{ on := 11, ground := Ground.data }, { on := 6, ground := Ground.guard }], guard := some (6, true) }) (v := undef) rfl (by kernel_rfl) (by kernel_rfl) (by kernel_rfl) (fun _ _ _ h => h) (Or.inr ⟨by rfl, rfl⟩) (by assumption) ?_
            try simp only [Act.put, List.setIfInBounds_toArray, List.set_cons_zero, List.set_cons_succ]
            refine' wpAnyH_take (i := 13) (oi := { dst := some 173, op := Op.load 2 (Operand.tmp 172), type := 2, pos := "law.go:84", after := #[{ on := 12, ground := Ground.data }, { on := 6, ground := Ground.guard }], guard := some (6, true) }) (v := undef) rfl (by kernel_rfl) (by kernel_rfl) (by kernel_rfl) (fun _ _ _ h => h) (Or.inr ⟨by rfl, rfl⟩) (by assumption) ?_
            try simp only [Act.put, List.setIfInBounds_toArray, List.set_cons_zero, List.set_cons_succ]
            refine' wpAnyH_take (i := 14) (oi := { dst := some 174, op := Op.binOp BinOp.neq 2 (Operand.tmp 167) (Operand.tmp 173) 2, type := 4, pos := "law.go:84", after := #[{ on := 7, ground := Ground.data }, { on := 13, ground := Ground.data }, { on := 6, ground := Ground.guard }], guard := some (6, true) }) (v := undef) rfl (by kernel_rfl) (by kernel_rfl) (by kernel_rfl) (fun _ _ _ h => h) (Or.inr ⟨by rfl, rfl⟩) (by assumption) ?_
            try simp only [Act.put, List.setIfInBounds_toArray, List.set_cons_zero, List.set_cons_succ]
            refine wpAnyH_take (i := 15) (oi := { dst := some 175, op := Op.pick (Operand.tmp 166) (Operand.tmp 174) (Operand.const (Value.bool false)), type := 4, pos := "law.go:84", after := #[{ on := 6, ground := Ground.data }, { on := 14, ground := Ground.data }, { on := 4, ground := Ground.guard }], guard := some (4, false) }) (v := ?_) rfl (by kernel_rfl) (by kernel_rfl) (by kernel_rfl) (fun _ _ _ h => h) (Or.inl ⟨by rfl, ?_⟩) (by assumption) ?_
            rotate_left
            · intro w hSw
              try dsimp only at hSw
              first | (go_simp; done) | (go_simp; with_reducible rfl)
            try simp only [Act.put, List.setIfInBounds_toArray, List.set_cons_zero, List.set_cons_succ]
            refine wpAnyH_take (i := 16) (oi := { dst := some 176, op := Op.pick (Operand.tmp 164) (Operand.const (Value.bool true)) (Operand.tmp 175), type := 4, pos := "law.go:84", after := #[{ on := 4, ground := Ground.data }, { on := 15, ground := Ground.data }], guard := none }) (v := ?_) rfl (by kernel_rfl) (by kernel_rfl) (by kernel_rfl) (fun _ _ _ h => h) (Or.inl ⟨by rfl, ?_⟩) (by assumption) ?_
            rotate_left
            · intro w hSw
              try dsimp only at hSw
              first | (go_simp; done) | (go_simp; with_reducible rfl)
            try simp only [Act.put, List.setIfInBounds_toArray, List.set_cons_zero, List.set_cons_succ]
            refine wpAnyH_take (i := 17) (oi := { dst := some 177, op := Op.move (Operand.tmp 176), type := 4, pos := "law.go:84", after := #[{ on := 16, ground := Ground.data }, { on := 6, ground := Ground.chain }], guard := none }) (v := ?_) rfl (by kernel_rfl) (by kernel_rfl) (by kernel_rfl) (fun _ _ _ h => h) (Or.inl ⟨by rfl, ?_⟩) (by assumption) ?_
            rotate_left
            · intro w hSw
              try dsimp only at hSw
              first | (go_simp; done) | (go_simp; with_reducible rfl)
            try simp only [Act.put, List.setIfInBounds_toArray, List.set_cons_zero, List.set_cons_succ]
            refine wpAnyH_take (i := 18) (oi := { dst := some 178, op := Op.move (Operand.tmp 20), type := 4, pos := "law.go:84", after := #[{ on := 17, ground := Ground.guard }], guard := some (17, false) }) (v := ?_) rfl (by kernel_rfl) (by kernel_rfl) (by kernel_rfl) (fun _ _ _ h => h) (Or.inl ⟨by rfl, ?_⟩) (by assumption) ?_
            rotate_left
            · intro w hSw
              try dsimp only at hSw
              first | (go_simp; done) | (go_simp; with_reducible rfl)
            try simp only [Act.put, List.setIfInBounds_toArray, List.set_cons_zero, List.set_cons_succ]
            refine wpAnyH_take (i := 19) (oi := { dst := some 179, op := Op.unOp UnOp.not 4 (Operand.tmp 178), type := 4, pos := "law.go:84", after := #[{ on := 18, ground := Ground.data }, { on := 17, ground := Ground.guard }], guard := some (17, false) }) (v := ?_) rfl (by kernel_rfl) (by kernel_rfl) (by kernel_rfl) (fun _ _ _ h => h) (Or.inl ⟨by rfl, ?_⟩) (by assumption) ?_
            rotate_left
            · intro w hSw
              try dsimp only at hSw
              first | (go_simp; done) | (go_simp; with_reducible rfl)
            try simp only [Act.put, List.setIfInBounds_toArray, List.set_cons_zero, List.set_cons_succ]
            refine wpAnyH_take (i := 20) (oi := { dst := some 180, op := Op.move (Operand.tmp 179), type := 4, pos := "law.go:84", after := #[{ on := 19, ground := Ground.data }, { on := 17, ground := Ground.chain }, { on := 17, ground := Ground.guard }], guard := some (17, false) }) (v := ?_) rfl (by kernel_rfl) (by kernel_rfl) (by kernel_rfl) (fun _ _ _ h => h) (Or.inl ⟨by rfl, ?_⟩) (by assumption) ?_
            rotate_left
            · intro w hSw
              try dsimp only at hSw
              first | (go_simp; done) | (go_simp; with_reducible rfl)
            try simp only [Act.put, List.setIfInBounds_toArray, List.set_cons_zero, List.set_cons_succ]
            refine wpAnyH_take (i := 21) (oi := { dst := some 181, op := Op.move (Operand.tmp 19), type := 2, pos := "law.go:84", after := #[{ on := 20, ground := Ground.guard }], guard := some (20, true) }) (v := ?_) rfl (by kernel_rfl) (by kernel_rfl) (by kernel_rfl) (fun _ _ _ h => h) (Or.inl ⟨by rfl, ?_⟩) (by assumption) ?_
            rotate_left
            · intro w hSw
              try dsimp only at hSw
              first | (go_simp; done) | (go_simp; with_reducible rfl)
            try simp only [Act.put, List.setIfInBounds_toArray, List.set_cons_zero, List.set_cons_succ]
            refine wpAnyH_take (i := 22) (oi := { dst := some 182, op := Op.binOp BinOp.neq 2 (Operand.tmp 181) (Operand.const (Value.int IntKind.i64 0)) 2, type := 4, pos := "law.go:84", after := #[{ on := 21, ground := Ground.data }, { on := 20, ground := Ground.guard }], guard := some (20, true) }) (v := ?_) rfl (by kernel_rfl) (by kernel_rfl) (by kernel_rfl) (fun _ _ _ h => h) (Or.inl ⟨by rfl, ?_⟩) (by assumption) ?_
            rotate_left
            · intro w hSw
              try dsimp only at hSw
              first | (go_simp; done) | (go_simp; with_reducible rfl)
            try simp only [Act.put, List.setIfInBounds_toArray, List.set_cons_zero, List.set_cons_succ]
            refine wpAnyH_take (i := 23) (oi := { dst := some 183, op := Op.pick (Operand.tmp 180) (Operand.tmp 182) (Operand.const (Value.bool false)), type := 4, pos := "law.go:84", after := #[{ on := 20, ground := Ground.data }, { on := 22, ground := Ground.data }, { on := 17, ground := Ground.guard }], guard := some (17, false) }) (v := ?_) rfl (by kernel_rfl) (by kernel_rfl) (by kernel_rfl) (fun _ _ _ h => h) (Or.inl ⟨by rfl, ?_⟩) (by assumption) ?_
            rotate_left
            · intro w hSw
              try dsimp only at hSw
              first | (go_simp; done) | (go_simp; with_reducible rfl)
            try simp only [Act.put, List.setIfInBounds_toArray, List.set_cons_zero, List.set_cons_succ]
            refine wpAnyH_take (i := 24) (oi := { dst := some 184, op := Op.pick (Operand.tmp 177) (Operand.const (Value.bool true)) (Operand.tmp 183), type := 4, pos := "law.go:84", after := #[{ on := 17, ground := Ground.data }, { on := 23, ground := Ground.data }], guard := none }) (v := ?_) rfl (by kernel_rfl) (by kernel_rfl) (by kernel_rfl) (fun _ _ _ h => h) (Or.inl ⟨by rfl, ?_⟩) (by assumption) ?_
            rotate_left
            · intro w hSw
              try dsimp only at hSw
              first | (go_simp; done) | (go_simp; with_reducible rfl)
            try simp only [Act.put, List.setIfInBounds_toArray, List.set_cons_zero, List.set_cons_succ]
            refine wpAnyH_take (i := 25) (oi := { dst := some 185, op := Op.move (Operand.tmp 184), type := 4, pos := "law.go:84", after := #[{ on := 24, ground := Ground.data }, { on := 20, ground := Ground.chain }], guard := none }) (v := ?_) rfl (by kernel_rfl) (by kernel_rfl) (by kernel_rfl) (fun _ _ _ h => h) (Or.inl ⟨by rfl, ?_⟩) (by assumption) ?_
            rotate_left
            · intro w hSw
              try dsimp only at hSw
              first | (go_simp; done) | (go_simp; with_reducible rfl)
            try simp only [Act.put, List.setIfInBounds_toArray, List.set_cons_zero, List.set_cons_succ]
            refine wpAnyH_take (i := 26) (oi := { dst := some 186, op := Op.move (Operand.tmp 0), type := 27, pos := "law.go:84", after := #[{ on := 25, ground := Ground.guard }], guard := some (25, false) }) (v := ?_) rfl (by kernel_rfl) (by kernel_rfl) (by kernel_rfl) (fun _ _ _ h => h) (Or.inl ⟨by rfl, ?_⟩) (by assumption) ?_
            rotate_left
            · intro w hSw
              try dsimp only at hSw
              first | (go_simp; done) | (go_simp; with_reducible rfl)
            try simp only [Act.put, List.setIfInBounds_toArray, List.set_cons_zero, List.set_cons_succ]
            refine wpAnyH_take (i := 27) (oi := { dst := some 187, op := Op.move (Operand.tmp 3), type := 26, pos := "law.go:84", after := #[{ on := 25, ground := Ground.guard }], guard := some (25, false) }) (v := ?_) rfl (by kernel_rfl) (by kernel_rfl) (by kernel_rfl) (fun _ _ _ h => h) (Or.inl ⟨by rfl, ?_⟩) (by assumption) ?_
            rotate_left
            · intro w hSw
              try dsimp only at hSw
              first | (go_simp; done) | (go_simp; with_reducible rfl)
            try simp only [Act.put, List.setIfInBounds_toArray, List.set_cons_zero, List.set_cons_succ]
            refine wpAnyH_take (i := 29) (oi := { dst := some 189, op := Op.load 35 (Operand.tmp 6), type := 35, pos := "law.go:84", after := #[{ on := 25, ground := Ground.guard }], guard := some (25, false) }) (v := ?_) rfl (by kernel_rfl) (by kernel_rfl) (by kernel_rfl) (fun _ _ _ h => h) (Or.inl ⟨by rfl, ?_⟩) (by assumption) ?_
            rotate_left
            · intro w hSw
              try dsimp only at hSw
              first | (go_simp; done) | (go_simp; with_reducible rfl)
            try simp only [Act.put, List.setIfInBounds_toArray, List.set_cons_zero, List.set_cons_succ]
            refine wpAnyH_take (i := 30) (oi := { dst := some 190, op := Op.move (Operand.tmp 3), type := 26, pos := "law.go:84", after := #[{ on := 25, ground := Ground.guard }], guard := some (25, false) }) (v := ?_) rfl (by kernel_rfl) (by kernel_rfl) (by kernel_rfl) (fun _ _ _ h => h) (Or.inl ⟨by rfl, ?_⟩) (by assumption) ?_
            rotate_left
            · intro w hSw
              try dsimp only at hSw
              first | (go_simp; done) | (go_simp; with_reducible rfl)
            try simp only [Act.put, List.setIfInBounds_toArray, List.set_cons_zero, List.set_cons_succ]
            refine wpAnyH_ready (rs := [28]) (by kernel_rfl) (by simp) ?_
            refine AllReadyH.cons rfl (fun K hK => ?_) AllReadyH.nil
            go_simp
            go_at_call 23
            refine (HHO2 _ hB9d).mono ?_
            rintro e w3 ⟨rfl, b3⟩
            have E3 : Below w9.heap.size w9 w3 := (Below.refl _ w9).drew.trans (b3.mono (Nat.le_refl _))
            have B3 : Below w.heap.size w w3 := HB9.out.trans (E3.mono HB9.out.size)
            have hS3 := HCX.out w3 (HD9.out.trans (E3.mono (Nat.le_trans HSZ.out HD9.out.size))) B3
            refine hK.out _ _ ?_ (fun hHeld => ?_)
            · exact hS3
            clear hK K
            refine wpAnyH_ready (rs := [31]) (by kernel_rfl) (by simp) ?_
            refine AllReadyH.cons rfl (fun K hK => ?_) AllReadyH.nil
            go_simp
            go_at_call 60
            refine (HRH2 _ B3).mono ?_
            rintro e w4 ⟨rfl, b4⟩
            have E4 : Below w9.heap.size w9 w4 := E3.trans (b4.mono E3.size)
            have hS4 := HCX.out w4 (HD9.out.trans (E4.mono (Nat.le_trans HSZ.out HD9.out.size))) (HB9.out.trans (E4.mono HB9.out.size))
            refine hK.out _ _ ?_ (fun hHeld => ?_)
            · exact hS4
            clear hK K
            refine wpAnyH_take (i := 32) (oi := { dst := some 192, op := Op.binOp BinOp.neq 4 (Operand.tmp 188) (Operand.tmp 191) 4, type := 4, pos := "law.go:84", after := #[{ on := 28, ground := Ground.data }, { on := 31, ground := Ground.data }, { on := 25, ground := Ground.guard }], guard := some (25, false) }) (v := ?_) rfl (by kernel_rfl) (by kernel_rfl) (by kernel_rfl) (fun _ _ _ h => h) (Or.inl ⟨by rfl, ?_⟩) (by assumption) ?_
            rotate_left
            · intro w hSw
              try dsimp only at hSw
              first | (go_simp; done) | (go_simp; with_reducible rfl)
            try simp only [Act.put, List.setIfInBounds_toArray, List.set_cons_zero, List.set_cons_succ]
            refine wpAnyH_take (i := 33) (oi := { dst := some 193, op := Op.pick (Operand.tmp 185) (Operand.const (Value.bool true)) (Operand.tmp 192), type := 4, pos := "law.go:84", after := #[{ on := 25, ground := Ground.data }, { on := 32, ground := Ground.data }], guard := none }) (v := ?_) rfl (by kernel_rfl) (by kernel_rfl) (by kernel_rfl) (fun _ _ _ h => h) (Or.inl ⟨by rfl, ?_⟩) (by assumption) ?_
            rotate_left
            · intro w hSw
              try dsimp only at hSw
              first | (go_simp; done) | (go_simp; with_reducible rfl)
            try simp only [Act.put, List.setIfInBounds_toArray, List.set_cons_zero, List.set_cons_succ]
            refine wpAnyH_done (by kernel_rfl) ?_ _
            go_wp2_with fail
            go_meet
            exact ⟨rfl, HB9.out.trans (E4.mono HB9.out.size), HD9.out.trans (E4.mono (Nat.le_trans HSZ.out HD9.out.size))⟩
          case rest =>
            obtain ⟨rfl, HBr, HDr⟩ := hcut
            obtain ⟨c0, c1, c2, c3, c4, c5, c6, c7⟩ := HC.out wc HDr.out
            go_wp2_with fail
            refine (HON.out wc HBr.out).mono ?_
            rintro e wo ho
            by_cases hna : na = nd
            · rcases ho with ⟨hne, _⟩ | ⟨_, rfl, hblk, bo⟩
              · exact absurd (by rw [HNA.out, HLEN.out]; exact hna) hne
              · rw [HLEN.out]
                have HBo : Hid (Below w.heap.size w wo) := HBr.out.trans (bo.mono HBr.out.size)
                have HDo : Hid (Below (g + 1) V wo) := HDr.out.trans (bo.mono (Nat.le_trans HSZ.out HDr.out.size))
                have HRo : Hid (RS kN wo (.slice (some ⟨wc.heap.size, 0, none⟩) nd nd) (rontoL d.Rd A (inL d.Rd d.Is))) := by
                  have := ints_rs hblk (by rw [HOW.out]; unfold maxLen; omega)
                  rw [HOW.out, HOE.out] at this
                  exact this
                have HLo : Hid ((rontoL d.Rd A (inL d.Rd d.Is)).length = nd) := by have := HOW.out; rw [HOE.out] at this; exact this
                have HRO2 := HRO.out hna
                have hnb := hna.symm
                subst hnb
                have dn : ((nd : Int) != (nd : Int)) = false := by simp
                have dn' : (nd != nd) = false := by simp
                clear hblk bo c0 c1 c2 c3 c4 c5 c6 c7 HBr HDr
                obtain ⟨c0, c1, c2, c3, c4, c5, c6, c7⟩ := HC.out wo HDo.out
                go_wp2_with fail
                refine (HRO2 wo HBo.out).mono ?_
                rintro e wp ⟨vp, rfl, rp, bp⟩
                have HBp : Hid (Below w.heap.size w wp) := HBo.out.trans (bp.mono HBo.out.size)
                have HSM : Hid (Calls Try.prog 18 #[.slice (some ⟨wc.heap.size, 0, none⟩) nd nd, vp] wp (AN wp (.bool true))) := rrow_true (HRo.out.below bp) rp (by rw [HLo.out]; omega)
                clear rp bp c0 c1 c2 c3 c4 c5 c6 c7
                go_wp2_with fail
                refine HSM.out.mono ?_
                rintro e wq ⟨rfl, bq⟩
                have HF : Hid (P (.returned (.bool true)) wq) := HQ.out wq (HBp.out.trans (bq.mono HBp.out.size))
                clear bq
                go_wp2
                first | exact HF.out | (go_ret; exact HF.out)
            · rcases ho with ⟨_, rfl, bo⟩ | ⟨hne, _⟩
              rotate_left
              · exact absurd (by rw [HNA.out, HLEN.out] at hne; exact hne) hna
              · have HBo : Hid (Below w.heap.size w wo) := HBr.out.trans (bo.mono HBr.out.size)
                have HDo : Hid (Below (g + 1) V wo) := HDr.out.trans (bo.mono (Nat.le_trans HSZ.out HDr.out.size))
                have dn : ((na : Int) != (nd : Int)) = true := by simp; omega
                have dn' : (na != nd) = true := by simp; omega
                clear bo c0 c1 c2 c3 c4 c5 c6 c7 HBr HDr
                obtain ⟨c0, c1, c2, c3, c4, c5, c6, c7⟩ := HC.out wo HDo.out
                have HF : Hid (P (.returned (.bool true)) wo) := HQ.out wo HBo.out
                clear HBo HDo
                go_wp2
                first | exact HF.out | (go_ret; exact HF.out)
      · have hhr : hasR s at' = false := decide_eq_false (by rw [HN.out.1]; exact hr)
        have hrz : readZ s at' = (0, 0, 0) := by
          unfold readZ
          have := HN.out.1
          simp [List.getD, List.getElem?_eq_none (show s.Rs.length ≤ s.Rs.findIdx (isR at') by omega)]
        rw [hhr, hrz]
        have HRR2 : Hid (∀ W, Below w.heap.size w W → Calls Try.prog 57 #[.agg #[.int .i64 d.R, .int .i64 d.W, .int .i64 d.O, .slice a3 nd k3, .slice a4 q k4, .slice a5 n2 k5, .slice a6 n3 k6, .slice a7 d.Is.length k7], .int .i64 at'] W (AN W (.int .i64 (-1)))) := fun W hW => by have := HRR.out W hW; rw [idxI, if_neg hr] at this; exact this
        have HY : Hid (∀ W, Below w7.heap.size w7 W → True) := fun W hW => trivial
        have ge1 : decide ((0 : Int) ≤ (-1 : Int)) = false := by decide
        clear hhr hrz
        go_upto_region 11 with fail
        have HBv : Hid (Below w.heap.size w (w7.alloc (.cells #[.int .i64 0, .int .i64 0, .int .i64 0] 57))) := HB7.out.trans ((bl1 w7 _).mono HB7.out.size)
        have HDv : Hid (Below (g + 1) V (w7.alloc (.cells #[.int .i64 0, .int .i64 0, .int .i64 0] 57))) := HD7.out.trans ((bl1 w7 _).mono (Nat.le_trans HSZ.out HD7.out.size))
        have HGv : Hid (∀ W, Below (w7.heap.size + 1) (w7.alloc (.cells #[.int .i64 0, .int .i64 0, .int .i64 0] 57)) W → W.cell? ⟨w7.heap.size, 0, none⟩ = some (.int .i64 0) ∧ W.cell? ⟨w7.heap.size, 1, none⟩ = some (.int .i64 0) ∧ W.cell? ⟨w7.heap.size, 2, none⟩ = some (.int .i64 0)) := fun W hW => by
          have e := (hW.block w7.heap.size (by omega)).trans (heap_alloc_new _ _)
          refine ⟨?_, ?_, ?_⟩ <;> (rw [cell_of_row W w7.heap.size _ _ _ _ e]; rfl)
        have HYv : Hid (∀ W, Below (w7.heap.size + 1) (w7.alloc (.cells #[.int .i64 0, .int .i64 0, .int .i64 0] 57)) W → Below w7.heap.size w7 W) := fun W hW => (bl1 w7 _).trans (hW.mono (by omega))
        have hsv : w7.heap.size + 1 ≤ (w7.alloc (.cells #[.int .i64 0, .int .i64 0, .int .i64 0] 57)).heap.size := by simp
        generalize w7.alloc (.cells #[.int .i64 0, .int .i64 0, .int .i64 0] 57) = Wv at *
        generalize w7.heap.size = gv at *
        obtain ⟨b0, b1, b2, b3, b4, b5, b6, b7⟩ := HC.out Wv HDv.out
        go_wp2_with fail
        refine (HRR2.out Wv HBv.out).mono ?_
        rintro e w8 ⟨rfl, b8⟩
        have HB8 : Hid (Below w.heap.size w w8) := HBv.out.trans (b8.mono HBv.out.size)
        have HD8 : Hid (Below (g + 1) V w8) := HDv.out.trans (b8.mono (Nat.le_trans HSZ.out HDv.out.size))
        obtain ⟨x0, x1, x2⟩ := HGv.out w8 (b8.mono hsv)
        have hy := HY.out w8 (HYv.out w8 (b8.mono hsv))
        clear hy
        clear b8 hsv b0 b1 b2 b3 b4 b5 b6 b7 HRR2 HY HYv HGv HBv HDv HB7 HD7 HR7
        go_upto_region 12 with fail
        go_quiet (fail)
        have HBy : Hid (Below w.heap.size w (w8.drewN nq)) := Below.dN HB8.out _
        have HDy : Hid (Below (g + 1) V (w8.drewN nq)) := Below.dN HD8.out _
        clear x0 x1 x2  HB8 HD8
        generalize w8.drewN nq = wy at *
        by_cases hw : s.Ws.findIdx (isC at') < n2
        · go_wp2_with fail
          refine (HWQ.out wy HBy.out).mono ?_
          rintro e w8 ⟨rfl, b8⟩
          have HB8 : Hid (Below w.heap.size w w8) := HBy.out.trans (b8.mono HBy.out.size)
          have HD8 : Hid (Below (g + 1) V w8) := HDy.out.trans (b8.mono (Nat.le_trans HSZ.out HDy.out.size))
          clear b8
          obtain ⟨b0, b1, b2, b3, b4, b5, b6, b7⟩ := HC.out w8 HD8.out
          unfold writtenV
          have hhw : hasC s at' = true := decide_eq_true (by rw [HN.out.2.1]; exact hw)
          have hwl : s.Ws.findIdx (isC at') < s.Ws.length := by rw [HN.out.2.1]; exact hw
          obtain ⟨⟨z0, z1⟩, hz⟩ : ∃ x, s.Ws[s.Ws.findIdx (isC at')]'hwl = x := ⟨_, rfl⟩
          have hwz : writtenZ s at' = z1 := by unfold writtenZ; rw [getD_at _ _ _ hwl, hz]
          rw [hhw, hwz]
          have HRW2 : Hid (∀ W, Below w.heap.size w W → Calls Try.prog 59 #[.agg #[.int .i64 d.R, .int .i64 d.W, .int .i64 d.O, .slice a3 nd k3, .slice a4 q k4, .slice a5 n2 k5, .slice a6 n3 k6, .slice a7 d.Is.length k7], .int .i64 at'] W (AN W (.int .i64 (s.Ws.findIdx (isC at') : Int)))) := fun W hW => by have := HRW.out W hW; rw [idxI, if_pos hw] at this; exact this
          obtain ⟨b, bo, n, c', hg, hcl⟩ := HWX.out.cell hwl
          simp only [Value.slice.injEq] at hg
          obtain ⟨rfl, rfl, rfl⟩ := hg
          rw [hz] at hcl
          have hy1 := (duo_cells rfl rfl hcl).2
          have HY1 : Hid (∀ W, Below w.heap.size w W → W.cell? ⟨b, bo + s.Ws.findIdx (isC at') * 2 + 1, none⟩ = some (.int .i64 z1)) := fun W hW => (hW.cell (p := ⟨b, bo + s.Ws.findIdx (isC at') * 2 + 1, none⟩) (World.block_lt_of_cell? w _ hy1)).trans hy1
          have i3 : (0 : Int) ≤ (s.Ws.findIdx (isC at') : Int) := by omega
          have i4 : (s.Ws.findIdx (isC at') : Int) < (n2 : Int) := by omega
          have v1 : (z1 != z1) = false := by simp
          have ge1 : decide ((0 : Int) ≤ (s.Ws.findIdx (isC at') : Int)) = true := by simp
          clear hcl hz hwz hhw hwl hy1
          generalize s.Ws.findIdx (isC at') = p at *
          go_wp2_with fail
          refine (HRW2.out w8 HB8.out).mono ?_
          rintro e w9 ⟨rfl, b9⟩
          have HB9 : Hid (Below w.heap.size w w9) := HB8.out.trans (b9.mono HB8.out.size)
          have HD9 : Hid (Below (g + 1) V w9) := HD8.out.trans (b9.mono (Nat.le_trans HSZ.out HD8.out.size))
          clear b9 b0 b1 b2 b3 b4 b5 b6 b7 HRW2
          have HCX : Hid (∀ W, Below (g + 1) V W → Below w.heap.size w W → W.cell? ⟨g, 0, none⟩ = some (.int .i64 d.R) ∧ W.cell? ⟨g, 1, none⟩ = some (.int .i64 d.W) ∧ W.cell? ⟨g, 2, none⟩ = some (.int .i64 d.O) ∧ W.cell? ⟨g, 3, none⟩ = some (.slice a3 nd k3) ∧ W.cell? ⟨g, 4, none⟩ = some (.slice a4 q k4) ∧ W.cell? ⟨g, 5, none⟩ = some (.slice (some ⟨b, bo, none⟩) n2 k5) ∧ W.cell? ⟨g, 6, none⟩ = some (.slice a6 n3 k6) ∧ W.cell? ⟨g, 7, none⟩ = some (.slice a7 d.Is.length k7) ∧ W.cell? ⟨b, bo + p * 2 + 1, none⟩ = some (.int .i64 z1)) := fun W hW hW2 => by
            obtain ⟨x0, x1, x2, x3, x4, x5, x6, x7⟩ := HC.out W hW
            exact ⟨x0, x1, x2, x3, x4, x5, x6, x7, HY1.out W hW2⟩
          have hSd := HCX.out w9.drew HD9.out.drew HB9.out.drew
          have hB9d : Below w.heap.size w w9.drew := HB9.out.drew
          have hh : (holdsL s.Rs M != holdsL s.Rs M) = false := by cases holdsL s.Rs M <;> rfl
          have HHO2 := HHO.out
          have HRH2 := HRH.out
          generalize holdsL s.Rs M = hb at *
          have hSd0 := hSd
          go_upto_region 16 with fail
          go_cut [193] from 160 to 193 (fun u wx => u = .bool false ∧ Hid (Below w.heap.size w wx) ∧ Hid (Below (g + 1) V wx))
          case first =>
            first | (go_region_held_law (fun W => W.cell? ⟨g, 0, none⟩ = some (.int .i64 d.R) ∧ W.cell? ⟨g, 1, none⟩ = some (.int .i64 d.W) ∧ W.cell? ⟨g, 2, none⟩ = some (.int .i64 d.O) ∧ W.cell? ⟨g, 3, none⟩ = some (.slice a3 nd k3) ∧ W.cell? ⟨g, 4, none⟩ = some (.slice a4 q k4) ∧ W.cell? ⟨g, 5, none⟩ = some (.slice (some ⟨b, bo, none⟩) n2 k5) ∧ W.cell? ⟨g, 6, none⟩ = some (.slice a6 n3 k6) ∧ W.cell? ⟨g, 7, none⟩ = some (.slice a7 d.Is.length k7) ∧ W.cell? ⟨b, bo + p * 2 + 1, none⟩ = some (.int .i64 z1))
              (first | with_reducible exact hSd0 | with_reducible exact hS3 | with_reducible exact hS4)
              (first
                | (go_at_call 60; refine (HRH2 _ B3).mono ?_; rintro e w4 ⟨rfl, b4⟩
                   have E4 : Below w9.heap.size w9 w4 := E3.trans (b4.mono E3.size)
                   have hS4 := HCX.out w4 (HD9.out.trans (E4.mono (Nat.le_trans HSZ.out HD9.out.size))) (HB9.out.trans (E4.mono HB9.out.size)))
                | (go_at_call 23; refine (HHO2 _ hB9d).mono ?_; rintro e w3 ⟨rfl, b3⟩
                   have E3 : Below w9.heap.size w9 w3 := (Below.refl _ w9).drew.trans (b3.mono (Nat.le_refl _))
                   have B3 : Below w.heap.size w w3 := HB9.out.trans (E3.mono HB9.out.size)
                   have hS3 := HCX.out w3 (HD9.out.trans (E3.mono (Nat.le_trans HSZ.out HD9.out.size))) B3))) | fail
            all_goals
              go_wp2_with fail
              go_meet
              exact ⟨rfl, HB9.out.trans (E4.mono HB9.out.size), HD9.out.trans (E4.mono (Nat.le_trans HSZ.out HD9.out.size))⟩
          case rest =>
            obtain ⟨rfl, HBr, HDr⟩ := hcut
            obtain ⟨c0, c1, c2, c3, c4, c5, c6, c7⟩ := HC.out wc HDr.out
            go_wp2_with fail
            refine (HON.out wc HBr.out).mono ?_
            rintro e wo ho
            by_cases hna : na = nd
            · rcases ho with ⟨hne, _⟩ | ⟨_, rfl, hblk, bo⟩
              · exact absurd (by rw [HNA.out, HLEN.out]; exact hna) hne
              · rw [HLEN.out]
                have HBo : Hid (Below w.heap.size w wo) := HBr.out.trans (bo.mono HBr.out.size)
                have HDo : Hid (Below (g + 1) V wo) := HDr.out.trans (bo.mono (Nat.le_trans HSZ.out HDr.out.size))
                have HRo : Hid (RS kN wo (.slice (some ⟨wc.heap.size, 0, none⟩) nd nd) (rontoL d.Rd A (inL d.Rd d.Is))) := by
                  have := ints_rs hblk (by rw [HOW.out]; unfold maxLen; omega)
                  rw [HOW.out, HOE.out] at this
                  exact this
                have HLo : Hid ((rontoL d.Rd A (inL d.Rd d.Is)).length = nd) := by have := HOW.out; rw [HOE.out] at this; exact this
                have HRO2 := HRO.out hna
                have hnb := hna.symm
                subst hnb
                have dn : ((nd : Int) != (nd : Int)) = false := by simp
                have dn' : (nd != nd) = false := by simp
                clear hblk bo c0 c1 c2 c3 c4 c5 c6 c7 HBr HDr
                obtain ⟨c0, c1, c2, c3, c4, c5, c6, c7⟩ := HC.out wo HDo.out
                go_wp2_with fail
                refine (HRO2 wo HBo.out).mono ?_
                rintro e wp ⟨vp, rfl, rp, bp⟩
                have HBp : Hid (Below w.heap.size w wp) := HBo.out.trans (bp.mono HBo.out.size)
                have HSM : Hid (Calls Try.prog 18 #[.slice (some ⟨wc.heap.size, 0, none⟩) nd nd, vp] wp (AN wp (.bool true))) := rrow_true (HRo.out.below bp) rp (by rw [HLo.out]; omega)
                clear rp bp c0 c1 c2 c3 c4 c5 c6 c7
                go_wp2_with fail
                refine HSM.out.mono ?_
                rintro e wq ⟨rfl, bq⟩
                have HF : Hid (P (.returned (.bool true)) wq) := HQ.out wq (HBp.out.trans (bq.mono HBp.out.size))
                clear bq
                go_wp2
                first | exact HF.out | (go_ret; exact HF.out)
            · rcases ho with ⟨_, rfl, bo⟩ | ⟨hne, _⟩
              rotate_left
              · exact absurd (by rw [HNA.out, HLEN.out] at hne; exact hne) hna
              · have HBo : Hid (Below w.heap.size w wo) := HBr.out.trans (bo.mono HBr.out.size)
                have HDo : Hid (Below (g + 1) V wo) := HDr.out.trans (bo.mono (Nat.le_trans HSZ.out HDr.out.size))
                have dn : ((na : Int) != (nd : Int)) = true := by simp; omega
                have dn' : (na != nd) = true := by simp; omega
                clear bo c0 c1 c2 c3 c4 c5 c6 c7 HBr HDr
                obtain ⟨c0, c1, c2, c3, c4, c5, c6, c7⟩ := HC.out wo HDo.out
                have HF : Hid (P (.returned (.bool true)) wo) := HQ.out wo HBo.out
                clear HBo HDo
                go_wp2
                first | exact HF.out | (go_ret; exact HF.out)
        · go_wp2_with fail
          refine (HWQ.out wy HBy.out).mono ?_
          rintro e w8 ⟨rfl, b8⟩
          have HB8 : Hid (Below w.heap.size w w8) := HBy.out.trans (b8.mono HBy.out.size)
          have HD8 : Hid (Below (g + 1) V w8) := HDy.out.trans (b8.mono (Nat.le_trans HSZ.out HDy.out.size))
          clear b8
          obtain ⟨b0, b1, b2, b3, b4, b5, b6, b7⟩ := HC.out w8 HD8.out
          unfold writtenV
          have hhw : hasC s at' = false := decide_eq_false (by rw [HN.out.2.1]; exact hw)
          have hwz : writtenZ s at' = 0 := by
            unfold writtenZ
            have := HN.out.2.1
            simp [List.getD, List.getElem?_eq_none (show s.Ws.length ≤ s.Ws.findIdx (isC at') by omega)]
          rw [hhw, hwz]
          have HRW2 : Hid (∀ W, Below w.heap.size w W → Calls Try.prog 59 #[.agg #[.int .i64 d.R, .int .i64 d.W, .int .i64 d.O, .slice a3 nd k3, .slice a4 q k4, .slice a5 n2 k5, .slice a6 n3 k6, .slice a7 d.Is.length k7], .int .i64 at'] W (AN W (.int .i64 (-1)))) := fun W hW => by have := HRW.out W hW; rw [idxI, if_neg hw] at this; exact this
          have ge1 : decide ((0 : Int) ≤ (-1 : Int)) = false := by decide
          clear hhw hwz
          go_wp2_with fail
          refine (HRW2.out w8 HB8.out).mono ?_
          rintro e w9 ⟨rfl, b9⟩
          have HB9 : Hid (Below w.heap.size w w9) := HB8.out.trans (b9.mono HB8.out.size)
          have HD9 : Hid (Below (g + 1) V w9) := HD8.out.trans (b9.mono (Nat.le_trans HSZ.out HD8.out.size))
          clear b9 b0 b1 b2 b3 b4 b5 b6 b7 HRW2
          have HCX : Hid (∀ W, Below (g + 1) V W → Below w.heap.size w W → W.cell? ⟨g, 0, none⟩ = some (.int .i64 d.R) ∧ W.cell? ⟨g, 1, none⟩ = some (.int .i64 d.W) ∧ W.cell? ⟨g, 2, none⟩ = some (.int .i64 d.O) ∧ W.cell? ⟨g, 3, none⟩ = some (.slice a3 nd k3) ∧ W.cell? ⟨g, 4, none⟩ = some (.slice a4 q k4) ∧ W.cell? ⟨g, 5, none⟩ = some (.slice a5 n2 k5) ∧ W.cell? ⟨g, 6, none⟩ = some (.slice a6 n3 k6) ∧ W.cell? ⟨g, 7, none⟩ = some (.slice a7 d.Is.length k7)) := fun W hW hW2 => HC.out W hW
          have hSd := HCX.out w9.drew HD9.out.drew HB9.out.drew
          have hB9d : Below w.heap.size w w9.drew := HB9.out.drew
          have hh : (holdsL s.Rs M != holdsL s.Rs M) = false := by cases holdsL s.Rs M <;> rfl
          have HHO2 := HHO.out
          have HRH2 := HRH.out
          generalize holdsL s.Rs M = hb at *
          have hSd0 := hSd
          clear hSd
          go_upto_region 16 with fail
          go_cut [193] from 160 to 193 (fun u wx => u = .bool false ∧ Hid (Below w.heap.size w wx) ∧ Hid (Below (g + 1) V wx))
          case first =>
            refine wp_region_held_drew (S := (fun W => W.cell? ⟨g, 0, none⟩ = some (.int .i64 d.R) ∧ W.cell? ⟨g, 1, none⟩ = some (.int .i64 d.W) ∧ W.cell? ⟨g, 2, none⟩ = some (.int .i64 d.O) ∧ W.cell? ⟨g, 3, none⟩ = some (.slice a3 nd k3) ∧ W.cell? ⟨g, 4, none⟩ = some (.slice a4 q k4) ∧ W.cell? ⟨g, 5, none⟩ = some (.slice a5 n2 k5) ∧ W.cell? ⟨g, 6, none⟩ = some (.slice a6 n3 k6) ∧ W.cell? ⟨g, 7, none⟩ = some (.slice a7 d.Is.length k7))) (by kernel_rfl) ?_ (fun hHeld => ?_)
            · exact hSd0
            refine wpAnyH_take (i := 0) (oi := { dst := some 160, op := Op.move (Operand.tmp 20), type := 4, pos := "law.go:84", after := #[], guard := none }) (v := ?_) rfl (by kernel_rfl) (by kernel_rfl) (by kernel_rfl) (fun _ _ _ h => h) (Or.inl ⟨by rfl, ?_⟩) (by assumption) ?_
            rotate_left
            · intro w hSw
              try dsimp only at hSw
              first | (go_simp; done) | (go_simp; with_reducible rfl)
            try simp only [Act.put, List.setIfInBounds_toArray, List.set_cons_zero, List.set_cons_succ]
            refine wpAnyH_take (i := 1) (oi := { dst := some 161, op := Op.move (Operand.tmp 21), type := 3, pos := "law.go:84", after := #[], guard := none }) (v := ?_) rfl (by kernel_rfl) (by kernel_rfl) (by kernel_rfl) (fun _ _ _ h => h) (Or.inl ⟨by rfl, ?_⟩) (by assumption) ?_
            rotate_left
            · intro w hSw
              try dsimp only at hSw
              first | (go_simp; done) | (go_simp; with_reducible rfl)
            try simp only [Act.put, List.setIfInBounds_toArray, List.set_cons_zero, List.set_cons_succ]
            refine wpAnyH_take (i := 2) (oi := { dst := some 162, op := Op.binOp BinOp.geq 3 (Operand.tmp 161) (Operand.const (Value.int IntKind.i64 0)) 3, type := 4, pos := "law.go:84", after := #[{ on := 1, ground := Ground.data }], guard := none }) (v := ?_) rfl (by kernel_rfl) (by kernel_rfl) (by kernel_rfl) (fun _ _ _ h => h) (Or.inl ⟨by rfl, ?_⟩) (by assumption) ?_
            rotate_left
            · intro w hSw
              try dsimp only at hSw
              first | (go_simp; done) | (go_simp; with_reducible rfl)
            try simp only [Act.put, List.setIfInBounds_toArray, List.set_cons_zero, List.set_cons_succ]
            refine wpAnyH_take (i := 3) (oi := { dst := some 163, op := Op.binOp BinOp.neq 4 (Operand.tmp 160) (Operand.tmp 162) 4, type := 4, pos := "law.go:84", after := #[{ on := 0, ground := Ground.data }, { on := 2, ground := Ground.data }], guard := none }) (v := ?_) rfl (by kernel_rfl) (by kernel_rfl) (by kernel_rfl) (fun _ _ _ h => h) (Or.inl ⟨by rfl, ?_⟩) (by assumption) ?_
            rotate_left
            · intro w hSw
              try dsimp only at hSw
              first | (go_simp; done) | (go_simp; with_reducible rfl)
            try simp only [Act.put, List.setIfInBounds_toArray, List.set_cons_zero, List.set_cons_succ]
            refine wpAnyH_take (i := 4) (oi := { dst := some 164, op := Op.move (Operand.tmp 163), type := 4, pos := "law.go:84", after := #[{ on := 3, ground := Ground.data }], guard := none }) (v := ?_) rfl (by kernel_rfl) (by kernel_rfl) (by kernel_rfl) (fun _ _ _ h => h) (Or.inl ⟨by rfl, ?_⟩) (by assumption) ?_
            rotate_left
            · intro w hSw
              try dsimp only at hSw
              first | (go_simp; done) | (go_simp; with_reducible rfl)
            try simp only [Act.put, List.setIfInBounds_toArray, List.set_cons_zero, List.set_cons_succ]
            refine wpAnyH_take (i := 5) (oi := { dst := some 165, op := Op.move (Operand.tmp 20), type := 4, pos := "law.go:84", after := #[{ on := 4, ground := Ground.guard }], guard := some (4, false) }) (v := ?_) rfl (by kernel_rfl) (by kernel_rfl) (by kernel_rfl) (fun _ _ _ h => h) (Or.inl ⟨by rfl, ?_⟩) (by assumption) ?_
            rotate_left
            · intro w hSw
              try dsimp only at hSw
              first | (go_simp; done) | (go_simp; with_reducible rfl)
            try simp only [Act.put, List.setIfInBounds_toArray, List.set_cons_zero, List.set_cons_succ]
            refine wpAnyH_take (i := 6) (oi := { dst := some 166, op := Op.move (Operand.tmp 165), type := 4, pos := "law.go:84", after := #[{ on := 5, ground := Ground.data }, { on := 4, ground := Ground.chain }, { on := 4, ground := Ground.guard }], guard := some (4, false) }) (v := ?_) rfl (by kernel_rfl) (by kernel_rfl) (by kernel_rfl) (fun _ _ _ h => h) (Or.inl ⟨by rfl, ?_⟩) (by assumption) ?_
            rotate_left
            · intro w hSw
              try dsimp only at hSw
              first | (go_simp; done) | (go_simp; with_reducible rfl)
            try simp only [Act.put, List.setIfInBounds_toArray, List.set_cons_zero, List.set_cons_succ]
            refine' wpAnyH_take (i := 7) (oi := { dst := some 167, op := Op.move (Operand.tmp 19), type := 2, pos := "law.go:84", after := #[{ on := 6, ground := Ground.guard }], guard := some (6, true) }) (v := undef) rfl (by kernel_rfl) (by kernel_rfl) (by kernel_rfl) (fun _ _ _ h => h) (Or.inr ⟨by rfl, rfl⟩) (by assumption) ?_
            try simp only [Act.put, List.setIfInBounds_toArray, List.set_cons_zero, List.set_cons_succ]
            refine' wpAnyH_take (i := 8) (oi := { dst := some 168, op := Op.fieldAddr 35 (Operand.tmp 6) 5, type := 0, pos := "law.go:84", after := #[{ on := 6, ground := Ground.guard }], guard := some (6, true) }) (v := undef) rfl (by kernel_rfl) (by kernel_rfl) (by kernel_rfl) (fun _ _ _ h => h) (Or.inr ⟨by rfl, rfl⟩) (by assumption) ?_
            try simp only [Act.put, List.setIfInBounds_toArray, List.set_cons_zero, List.set_cons_succ]
            refine' wpAnyH_take (i := 9) (oi := { dst := some 169, op := Op.load 32 (Operand.tmp 168), type := 32, pos := "law.go:84", after := #[{ on := 8, ground := Ground.data }, { on := 6, ground := Ground.guard }], guard := some (6, true) }) (v := undef) rfl (by kernel_rfl) (by kernel_rfl) (by kernel_rfl) (fun _ _ _ h => h) (Or.inr ⟨by rfl, rfl⟩) (by assumption) ?_
            try simp only [Act.put, List.setIfInBounds_toArray, List.set_cons_zero, List.set_cons_succ]
            refine' wpAnyH_take (i := 10) (oi := { dst := some 170, op := Op.move (Operand.tmp 21), type := 3, pos := "law.go:84", after := #[{ on := 6, ground := Ground.guard }], guard := some (6, true) }) (v := undef) rfl (by kernel_rfl) (by kernel_rfl) (by kernel_rfl) (fun _ _ _ h => h) (Or.inr ⟨by rfl, rfl⟩) (by assumption) ?_
            try simp only [Act.put, List.setIfInBounds_toArray, List.set_cons_zero, List.set_cons_succ]
            refine' wpAnyH_take (i := 11) (oi := { dst := some 171, op := Op.indexAddr 32 (Operand.tmp 169) (Operand.tmp 170), type := 0, pos := "law.go:84", after := #[{ on := 9, ground := Ground.data }, { on := 10, ground := Ground.data }, { on := 6, ground := Ground.guard }], guard := some (6, true) }) (v := undef) rfl (by kernel_rfl) (by kernel_rfl) (by kernel_rfl) (fun _ _ _ h => h) (Or.inr ⟨by rfl, rfl⟩) (by assumption) ?_
            try simp only [Act.put, List.setIfInBounds_toArray, List.set_cons_zero, List.set_cons_succ]
            refine' wpAnyH_take (i := 12) (oi := { dst := some 172, op := Op.fieldAddr 120 (Operand.tmp 171) 1, type := 0, pos := "law.go:84", after := #[{ on := 11, ground := Ground.data }, { on := 6, ground := Ground.guard }], guard := some (6, true) }) (v := undef) rfl (by kernel_rfl) (by kernel_rfl) (by kernel_rfl) (fun _ _ _ h => h) (Or.inr ⟨by rfl, rfl⟩) (by assumption) ?_
            try simp only [Act.put, List.setIfInBounds_toArray, List.set_cons_zero, List.set_cons_succ]
            refine' wpAnyH_take (i := 13) (oi := { dst := some 173, op := Op.load 2 (Operand.tmp 172), type := 2, pos := "law.go:84", after := #[{ on := 12, ground := Ground.data }, { on := 6, ground := Ground.guard }], guard := some (6, true) }) (v := undef) rfl (by kernel_rfl) (by kernel_rfl) (by kernel_rfl) (fun _ _ _ h => h) (Or.inr ⟨by rfl, rfl⟩) (by assumption) ?_
            try simp only [Act.put, List.setIfInBounds_toArray, List.set_cons_zero, List.set_cons_succ]
            refine' wpAnyH_take (i := 14) (oi := { dst := some 174, op := Op.binOp BinOp.neq 2 (Operand.tmp 167) (Operand.tmp 173) 2, type := 4, pos := "law.go:84", after := #[{ on := 7, ground := Ground.data }, { on := 13, ground := Ground.data }, { on := 6, ground := Ground.guard }], guard := some (6, true) }) (v := undef) rfl (by kernel_rfl) (by kernel_rfl) (by kernel_rfl) (fun _ _ _ h => h) (Or.inr ⟨by rfl, rfl⟩) (by assumption) ?_
            try simp only [Act.put, List.setIfInBounds_toArray, List.set_cons_zero, List.set_cons_succ]
            refine wpAnyH_take (i := 15) (oi := { dst := some 175, op := Op.pick (Operand.tmp 166) (Operand.tmp 174) (Operand.const (Value.bool false)), type := 4, pos := "law.go:84", after := #[{ on := 6, ground := Ground.data }, { on := 14, ground := Ground.data }, { on := 4, ground := Ground.guard }], guard := some (4, false) }) (v := ?_) rfl (by kernel_rfl) (by kernel_rfl) (by kernel_rfl) (fun _ _ _ h => h) (Or.inl ⟨by rfl, ?_⟩) (by assumption) ?_
            rotate_left
            · intro w hSw
              try dsimp only at hSw
              first | (go_simp; done) | (go_simp; with_reducible rfl)
            try simp only [Act.put, List.setIfInBounds_toArray, List.set_cons_zero, List.set_cons_succ]
            refine wpAnyH_take (i := 16) (oi := { dst := some 176, op := Op.pick (Operand.tmp 164) (Operand.const (Value.bool true)) (Operand.tmp 175), type := 4, pos := "law.go:84", after := #[{ on := 4, ground := Ground.data }, { on := 15, ground := Ground.data }], guard := none }) (v := ?_) rfl (by kernel_rfl) (by kernel_rfl) (by kernel_rfl) (fun _ _ _ h => h) (Or.inl ⟨by rfl, ?_⟩) (by assumption) ?_
            rotate_left
            · intro w hSw
              try dsimp only at hSw
              first | (go_simp; done) | (go_simp; with_reducible rfl)
            try simp only [Act.put, List.setIfInBounds_toArray, List.set_cons_zero, List.set_cons_succ]
            refine wpAnyH_take (i := 17) (oi := { dst := some 177, op := Op.move (Operand.tmp 176), type := 4, pos := "law.go:84", after := #[{ on := 16, ground := Ground.data }, { on := 6, ground := Ground.chain }], guard := none }) (v := ?_) rfl (by kernel_rfl) (by kernel_rfl) (by kernel_rfl) (fun _ _ _ h => h) (Or.inl ⟨by rfl, ?_⟩) (by assumption) ?_
            rotate_left
            · intro w hSw
              try dsimp only at hSw
              first | (go_simp; done) | (go_simp; with_reducible rfl)
            try simp only [Act.put, List.setIfInBounds_toArray, List.set_cons_zero, List.set_cons_succ]
            refine wpAnyH_take (i := 18) (oi := { dst := some 178, op := Op.move (Operand.tmp 20), type := 4, pos := "law.go:84", after := #[{ on := 17, ground := Ground.guard }], guard := some (17, false) }) (v := ?_) rfl (by kernel_rfl) (by kernel_rfl) (by kernel_rfl) (fun _ _ _ h => h) (Or.inl ⟨by rfl, ?_⟩) (by assumption) ?_
            rotate_left
            · intro w hSw
              try dsimp only at hSw
              first | (go_simp; done) | (go_simp; with_reducible rfl)
            try simp only [Act.put, List.setIfInBounds_toArray, List.set_cons_zero, List.set_cons_succ]
            refine wpAnyH_take (i := 19) (oi := { dst := some 179, op := Op.unOp UnOp.not 4 (Operand.tmp 178), type := 4, pos := "law.go:84", after := #[{ on := 18, ground := Ground.data }, { on := 17, ground := Ground.guard }], guard := some (17, false) }) (v := ?_) rfl (by kernel_rfl) (by kernel_rfl) (by kernel_rfl) (fun _ _ _ h => h) (Or.inl ⟨by rfl, ?_⟩) (by assumption) ?_
            rotate_left
            · intro w hSw
              try dsimp only at hSw
              first | (go_simp; done) | (go_simp; with_reducible rfl)
            try simp only [Act.put, List.setIfInBounds_toArray, List.set_cons_zero, List.set_cons_succ]
            refine wpAnyH_take (i := 20) (oi := { dst := some 180, op := Op.move (Operand.tmp 179), type := 4, pos := "law.go:84", after := #[{ on := 19, ground := Ground.data }, { on := 17, ground := Ground.chain }, { on := 17, ground := Ground.guard }], guard := some (17, false) }) (v := ?_) rfl (by kernel_rfl) (by kernel_rfl) (by kernel_rfl) (fun _ _ _ h => h) (Or.inl ⟨by rfl, ?_⟩) (by assumption) ?_
            rotate_left
            · intro w hSw
              try dsimp only at hSw
              first | (go_simp; done) | (go_simp; with_reducible rfl)
            try simp only [Act.put, List.setIfInBounds_toArray, List.set_cons_zero, List.set_cons_succ]
            refine wpAnyH_take (i := 21) (oi := { dst := some 181, op := Op.move (Operand.tmp 19), type := 2, pos := "law.go:84", after := #[{ on := 20, ground := Ground.guard }], guard := some (20, true) }) (v := ?_) rfl (by kernel_rfl) (by kernel_rfl) (by kernel_rfl) (fun _ _ _ h => h) (Or.inl ⟨by rfl, ?_⟩) (by assumption) ?_
            rotate_left
            · intro w hSw
              try dsimp only at hSw
              first | (go_simp; done) | (go_simp; with_reducible rfl)
            try simp only [Act.put, List.setIfInBounds_toArray, List.set_cons_zero, List.set_cons_succ]
            refine wpAnyH_take (i := 22) (oi := { dst := some 182, op := Op.binOp BinOp.neq 2 (Operand.tmp 181) (Operand.const (Value.int IntKind.i64 0)) 2, type := 4, pos := "law.go:84", after := #[{ on := 21, ground := Ground.data }, { on := 20, ground := Ground.guard }], guard := some (20, true) }) (v := ?_) rfl (by kernel_rfl) (by kernel_rfl) (by kernel_rfl) (fun _ _ _ h => h) (Or.inl ⟨by rfl, ?_⟩) (by assumption) ?_
            rotate_left
            · intro w hSw
              try dsimp only at hSw
              first | (go_simp; done) | (go_simp; with_reducible rfl)
            try simp only [Act.put, List.setIfInBounds_toArray, List.set_cons_zero, List.set_cons_succ]
            refine wpAnyH_take (i := 23) (oi := { dst := some 183, op := Op.pick (Operand.tmp 180) (Operand.tmp 182) (Operand.const (Value.bool false)), type := 4, pos := "law.go:84", after := #[{ on := 20, ground := Ground.data }, { on := 22, ground := Ground.data }, { on := 17, ground := Ground.guard }], guard := some (17, false) }) (v := ?_) rfl (by kernel_rfl) (by kernel_rfl) (by kernel_rfl) (fun _ _ _ h => h) (Or.inl ⟨by rfl, ?_⟩) (by assumption) ?_
            rotate_left
            · intro w hSw
              try dsimp only at hSw
              first | (go_simp; done) | (go_simp; with_reducible rfl)
            try simp only [Act.put, List.setIfInBounds_toArray, List.set_cons_zero, List.set_cons_succ]
            refine wpAnyH_take (i := 24) (oi := { dst := some 184, op := Op.pick (Operand.tmp 177) (Operand.const (Value.bool true)) (Operand.tmp 183), type := 4, pos := "law.go:84", after := #[{ on := 17, ground := Ground.data }, { on := 23, ground := Ground.data }], guard := none }) (v := ?_) rfl (by kernel_rfl) (by kernel_rfl) (by kernel_rfl) (fun _ _ _ h => h) (Or.inl ⟨by rfl, ?_⟩) (by assumption) ?_
            rotate_left
            · intro w hSw
              try dsimp only at hSw
              first | (go_simp; done) | (go_simp; with_reducible rfl)
            try simp only [Act.put, List.setIfInBounds_toArray, List.set_cons_zero, List.set_cons_succ]
            refine wpAnyH_take (i := 25) (oi := { dst := some 185, op := Op.move (Operand.tmp 184), type := 4, pos := "law.go:84", after := #[{ on := 24, ground := Ground.data }, { on := 20, ground := Ground.chain }], guard := none }) (v := ?_) rfl (by kernel_rfl) (by kernel_rfl) (by kernel_rfl) (fun _ _ _ h => h) (Or.inl ⟨by rfl, ?_⟩) (by assumption) ?_
            rotate_left
            · intro w hSw
              try dsimp only at hSw
              first | (go_simp; done) | (go_simp; with_reducible rfl)
            try simp only [Act.put, List.setIfInBounds_toArray, List.set_cons_zero, List.set_cons_succ]
            refine wpAnyH_take (i := 26) (oi := { dst := some 186, op := Op.move (Operand.tmp 0), type := 27, pos := "law.go:84", after := #[{ on := 25, ground := Ground.guard }], guard := some (25, false) }) (v := ?_) rfl (by kernel_rfl) (by kernel_rfl) (by kernel_rfl) (fun _ _ _ h => h) (Or.inl ⟨by rfl, ?_⟩) (by assumption) ?_
            rotate_left
            · intro w hSw
              try dsimp only at hSw
              first | (go_simp; done) | (go_simp; with_reducible rfl)
            try simp only [Act.put, List.setIfInBounds_toArray, List.set_cons_zero, List.set_cons_succ]
            refine wpAnyH_take (i := 27) (oi := { dst := some 187, op := Op.move (Operand.tmp 3), type := 26, pos := "law.go:84", after := #[{ on := 25, ground := Ground.guard }], guard := some (25, false) }) (v := ?_) rfl (by kernel_rfl) (by kernel_rfl) (by kernel_rfl) (fun _ _ _ h => h) (Or.inl ⟨by rfl, ?_⟩) (by assumption) ?_
            rotate_left
            · intro w hSw
              try dsimp only at hSw
              first | (go_simp; done) | (go_simp; with_reducible rfl)
            try simp only [Act.put, List.setIfInBounds_toArray, List.set_cons_zero, List.set_cons_succ]
            refine wpAnyH_take (i := 29) (oi := { dst := some 189, op := Op.load 35 (Operand.tmp 6), type := 35, pos := "law.go:84", after := #[{ on := 25, ground := Ground.guard }], guard := some (25, false) }) (v := ?_) rfl (by kernel_rfl) (by kernel_rfl) (by kernel_rfl) (fun _ _ _ h => h) (Or.inl ⟨by rfl, ?_⟩) (by assumption) ?_
            rotate_left
            · intro w hSw
              try dsimp only at hSw
              first | (go_simp; done) | (go_simp; with_reducible rfl)
            try simp only [Act.put, List.setIfInBounds_toArray, List.set_cons_zero, List.set_cons_succ]
            refine wpAnyH_take (i := 30) (oi := { dst := some 190, op := Op.move (Operand.tmp 3), type := 26, pos := "law.go:84", after := #[{ on := 25, ground := Ground.guard }], guard := some (25, false) }) (v := ?_) rfl (by kernel_rfl) (by kernel_rfl) (by kernel_rfl) (fun _ _ _ h => h) (Or.inl ⟨by rfl, ?_⟩) (by assumption) ?_
            rotate_left
            · intro w hSw
              try dsimp only at hSw
              first | (go_simp; done) | (go_simp; with_reducible rfl)
            try simp only [Act.put, List.setIfInBounds_toArray, List.set_cons_zero, List.set_cons_succ]
            refine wpAnyH_ready (rs := [28]) (by kernel_rfl) (by simp) ?_
            refine AllReadyH.cons rfl (fun K hK => ?_) AllReadyH.nil
            go_simp
            go_at_call 23
            refine (HHO2 _ hB9d).mono ?_
            rintro e w3 ⟨rfl, b3⟩
            have E3 : Below w9.heap.size w9 w3 := (Below.refl _ w9).drew.trans (b3.mono (Nat.le_refl _))
            have B3 : Below w.heap.size w w3 := HB9.out.trans (E3.mono HB9.out.size)
            have hS3 := HCX.out w3 (HD9.out.trans (E3.mono (Nat.le_trans HSZ.out HD9.out.size))) B3
            refine hK.out _ _ ?_ (fun hHeld => ?_)
            · exact hS3
            clear hK K
            refine wpAnyH_ready (rs := [31]) (by kernel_rfl) (by simp) ?_
            refine AllReadyH.cons rfl (fun K hK => ?_) AllReadyH.nil
            go_simp
            go_at_call 60
            refine (HRH2 _ B3).mono ?_
            rintro e w4 ⟨rfl, b4⟩
            have E4 : Below w9.heap.size w9 w4 := E3.trans (b4.mono E3.size)
            have hS4 := HCX.out w4 (HD9.out.trans (E4.mono (Nat.le_trans HSZ.out HD9.out.size))) (HB9.out.trans (E4.mono HB9.out.size))
            refine hK.out _ _ ?_ (fun hHeld => ?_)
            · exact hS4
            clear hK K
            refine wpAnyH_take (i := 32) (oi := { dst := some 192, op := Op.binOp BinOp.neq 4 (Operand.tmp 188) (Operand.tmp 191) 4, type := 4, pos := "law.go:84", after := #[{ on := 28, ground := Ground.data }, { on := 31, ground := Ground.data }, { on := 25, ground := Ground.guard }], guard := some (25, false) }) (v := ?_) rfl (by kernel_rfl) (by kernel_rfl) (by kernel_rfl) (fun _ _ _ h => h) (Or.inl ⟨by rfl, ?_⟩) (by assumption) ?_
            rotate_left
            · intro w hSw
              try dsimp only at hSw
              first | (go_simp; done) | (go_simp; with_reducible rfl)
            try simp only [Act.put, List.setIfInBounds_toArray, List.set_cons_zero, List.set_cons_succ]
            refine wpAnyH_take (i := 33) (oi := { dst := some 193, op := Op.pick (Operand.tmp 185) (Operand.const (Value.bool true)) (Operand.tmp 192), type := 4, pos := "law.go:84", after := #[{ on := 25, ground := Ground.data }, { on := 32, ground := Ground.data }], guard := none }) (v := ?_) rfl (by kernel_rfl) (by kernel_rfl) (by kernel_rfl) (fun _ _ _ h => h) (Or.inl ⟨by rfl, ?_⟩) (by assumption) ?_
            rotate_left
            · intro w hSw
              try dsimp only at hSw
              first | (go_simp; done) | (go_simp; with_reducible rfl)
            try simp only [Act.put, List.setIfInBounds_toArray, List.set_cons_zero, List.set_cons_succ]
            refine wpAnyH_done (by kernel_rfl) ?_ _
            go_wp2_with fail
            go_meet
            exact ⟨rfl, HB9.out.trans (E4.mono HB9.out.size), HD9.out.trans (E4.mono (Nat.le_trans HSZ.out HD9.out.size))⟩
          case rest =>
            obtain ⟨rfl, HBr, HDr⟩ := hcut
            obtain ⟨c0, c1, c2, c3, c4, c5, c6, c7⟩ := HC.out wc HDr.out
            go_wp2_with fail
            refine (HON.out wc HBr.out).mono ?_
            rintro e wo ho
            by_cases hna : na = nd
            · rcases ho with ⟨hne, _⟩ | ⟨_, rfl, hblk, bo⟩
              · exact absurd (by rw [HNA.out, HLEN.out]; exact hna) hne
              · rw [HLEN.out]
                have HBo : Hid (Below w.heap.size w wo) := HBr.out.trans (bo.mono HBr.out.size)
                have HDo : Hid (Below (g + 1) V wo) := HDr.out.trans (bo.mono (Nat.le_trans HSZ.out HDr.out.size))
                have HRo : Hid (RS kN wo (.slice (some ⟨wc.heap.size, 0, none⟩) nd nd) (rontoL d.Rd A (inL d.Rd d.Is))) := by
                  have := ints_rs hblk (by rw [HOW.out]; unfold maxLen; omega)
                  rw [HOW.out, HOE.out] at this
                  exact this
                have HLo : Hid ((rontoL d.Rd A (inL d.Rd d.Is)).length = nd) := by have := HOW.out; rw [HOE.out] at this; exact this
                have HRO2 := HRO.out hna
                have hnb := hna.symm
                subst hnb
                have dn : ((nd : Int) != (nd : Int)) = false := by simp
                have dn' : (nd != nd) = false := by simp
                clear hblk bo c0 c1 c2 c3 c4 c5 c6 c7 HBr HDr
                obtain ⟨c0, c1, c2, c3, c4, c5, c6, c7⟩ := HC.out wo HDo.out
                go_wp2_with fail
                refine (HRO2 wo HBo.out).mono ?_
                rintro e wp ⟨vp, rfl, rp, bp⟩
                have HBp : Hid (Below w.heap.size w wp) := HBo.out.trans (bp.mono HBo.out.size)
                have HSM : Hid (Calls Try.prog 18 #[.slice (some ⟨wc.heap.size, 0, none⟩) nd nd, vp] wp (AN wp (.bool true))) := rrow_true (HRo.out.below bp) rp (by rw [HLo.out]; omega)
                clear rp bp c0 c1 c2 c3 c4 c5 c6 c7
                go_wp2_with fail
                refine HSM.out.mono ?_
                rintro e wq ⟨rfl, bq⟩
                have HF : Hid (P (.returned (.bool true)) wq) := HQ.out wq (HBp.out.trans (bq.mono HBp.out.size))
                clear bq
                go_wp2
                first | exact HF.out | (go_ret; exact HF.out)
            · rcases ho with ⟨_, rfl, bo⟩ | ⟨hne, _⟩
              rotate_left
              · exact absurd (by rw [HNA.out, HLEN.out] at hne; exact hne) hna
              · have HBo : Hid (Below w.heap.size w wo) := HBr.out.trans (bo.mono HBr.out.size)
                have HDo : Hid (Below (g + 1) V wo) := HDr.out.trans (bo.mono (Nat.le_trans HSZ.out HDr.out.size))
                have dn : ((na : Int) != (nd : Int)) = true := by simp; omega
                have dn' : (na != nd) = true := by simp; omega
                clear bo c0 c1 c2 c3 c4 c5 c6 c7 HBr HDr
                obtain ⟨c0, c1, c2, c3, c4, c5, c6, c7⟩ := HC.out wo HDo.out
                have HF : Hid (P (.returned (.bool true)) wo) := HQ.out wo HBo.out
                clear HBo HDo
                go_wp2
                first | exact HF.out | (go_ret; exact HF.out)
end Go.Proofs.Ytongeppdaeekeaa
