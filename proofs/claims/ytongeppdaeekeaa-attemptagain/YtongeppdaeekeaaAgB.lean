/- AttemptAgain: the law's walk. -/
import Derived.Test.YtongeppdaeekeaaAgA
namespace Go.Proofs.Ytongeppdaeekeaa
open Go.RowKit Go.Maps
set_option linter.unusedVariables false

set_option maxRecDepth 100000 in
set_option maxHeartbeats 16000000 in
theorem again_walk (r u o : Int) (v0 v1 v2 : Value) (Rd : List (Int × Int)) (A L : List O4) (w : World) (h0 : RS kD w v0 Rd) (h1 : RS kX w v1 A) (h2 : RS kX w v2 L) : Calls Try.prog 4 #[.agg #[.int .i64 r, .int .i64 u, .int .i64 o, v0], v1, v2] w (AN w (.bool true)) := by
  have HQ : Hid (∀ W, Below w.heap.size w W → AN w (.bool true) (.returned (.bool true)) W) := fun W hW => ⟨rfl, hW⟩
  have HAL : Hid (∀ W, Calls Try.prog 13 #[] W (AN W (.bool true))) := alive_any
  have H0 : Hid (RS kD w v0 Rd) := h0
  have H1 : Hid (RS kX w v1 A) := h1
  have H2 : Hid (RS kX w v2 L) := h2
  have HNW : Hid (∀ W, Below w.heap.size w W → Calls Try.prog 9 #[.int .i64 r, .int .i64 u, .int .i64 o, v0] W (LNewQ r u o Rd W)) := fun W hW => lnew_any r u o Rd v0 W (H0.out.below hW).psl
  have HRN : Hid (∀ W, Below w.heap.size w W → Calls Try.prog 10 #[.int .i64 r, .int .i64 u, .int .i64 o, v0] W (RNewQ r u o v0 Rd W)) := fun W hW => rlnew_any (H0.out.below hW) r u o
  obtain ⟨a0, c0, e0⟩ := h0.form
  obtain ⟨a1, c1, e1⟩ := h1.form
  obtain ⟨a2, c2, e2⟩ := h2.form
  obtain ⟨n0, hn0⟩ : ∃ n, Rd.length = n := ⟨_, rfl⟩
  obtain ⟨n1, hn1⟩ : ∃ n, A.length = n := ⟨_, rfl⟩
  obtain ⟨n2, hn2⟩ : ∃ n, L.length = n := ⟨_, rfl⟩
  have HN0 : Hid (Rd.length = n0) := hn0
  have HN1 : Hid (A.length = n1) := hn1
  have HN2 : Hid (L.length = n2) := hn2
  rw [hn0] at e0
  rw [hn1] at e1
  rw [hn2] at e2
  subst e0 e1 e2
  clear h0 h1 h2 hn0 hn1 hn2
  generalize AN w (.bool true) = P at *
  by_cases g1 : 120 < n2
  · have d1 : decide (120 < n2) = true := by simp [g1]
    have HF : Hid (∀ A, P (.returned (.bool true)) (w.alloc A)) := fun A => HQ.out _ (bl1 w A)
    go_enter Try.func4, Try.ntmps4
    go_wp2
    first | exact HF.out _ | (go_ret; exact HF.out _)
  have d1 : decide (120 < n2) = false := by simp; omega
  by_cases g2 : 120 < n1
  · have d2 : decide (120 < n1) = true := by simp [g2]
    have HF : Hid (∀ A, P (.returned (.bool true)) (w.alloc A)) := fun A => HQ.out _ (bl1 w A)
    go_enter Try.func4, Try.ntmps4
    go_wp2
    first | exact HF.out _ | (go_ret; exact HF.out _)
  have d2 : decide (120 < n1) = false := by simp; omega
  by_cases g3 : 50 < n0
  · have d3 : decide (50 < n0) = true := by simp [g3]
    have HF : Hid (∀ A, P (.returned (.bool true)) (w.alloc A)) := fun A => HQ.out _ (bl1 w A)
    go_enter Try.func4, Try.ntmps4
    go_wp2
    first | exact HF.out _ | (go_ret; exact HF.out _)
  have d3 : decide (50 < n0) = false := by simp; omega
  have HBX : Hid (Below w.heap.size w (w.alloc (.cells #[.int .i64 r, .int .i64 u, .int .i64 o, .slice a0 n0 c0] 24)) ∧ ∀ W, Below (w.heap.size + 1) (w.alloc (.cells #[.int .i64 r, .int .i64 u, .int .i64 o, .slice a0 n0 c0] 24)) W → W.cell? ⟨w.heap.size, 0, none⟩ = some (.int .i64 r) ∧ W.cell? ⟨w.heap.size, 1, none⟩ = some (.int .i64 u) ∧ W.cell? ⟨w.heap.size, 2, none⟩ = some (.int .i64 o) ∧ W.cell? ⟨w.heap.size, 3, none⟩ = some (.slice a0 n0 c0)) := ⟨bl1 w _, fun W hW => by
    have e := (hW.block w.heap.size (by omega)).trans (heap_alloc_new _ _)
    refine ⟨?_, ?_, ?_, ?_⟩ <;> (rw [cell_of_row W w.heap.size _ _ _ _ e]; rfl)⟩
  go_enter Try.func4, Try.ntmps4
  go_upto_region 3 with fail
  have hsz : w.heap.size + 1 ≤ (w.alloc (.cells #[.int .i64 r, .int .i64 u, .int .i64 o, .slice a0 n0 c0] 24)).heap.size := by simp
  have hvg : (w.alloc (.cells #[.int .i64 r, .int .i64 u, .int .i64 o, .slice a0 n0 c0] 24)).heap[w.heap.size]? = some (.cells #[.int .i64 r, .int .i64 u, .int .i64 o, .slice a0 n0 c0] 24) := heap_alloc_new _ _
  generalize w.alloc (.cells #[.int .i64 r, .int .i64 u, .int .i64 o, .slice a0 n0 c0] 24) = V at *
  obtain ⟨gs, hgs⟩ : ∃ g, w.heap.size = g := ⟨_, rfl⟩
  have HGS : Hid (w.heap.size = gs) := hgs
  have HB0 : Hid (Below w.heap.size w V) := HBX.out.1
  have HB1 : Hid (∀ W, Below (gs + 1) V W → W.cell? ⟨gs, 0, none⟩ = some (.int .i64 r) ∧ W.cell? ⟨gs, 1, none⟩ = some (.int .i64 u) ∧ W.cell? ⟨gs, 2, none⟩ = some (.int .i64 o) ∧ W.cell? ⟨gs, 3, none⟩ = some (.slice a0 n0 c0)) := by
    have := HBX.out.2
    rw [hgs] at this
    exact this
  have HSZ : Hid (gs + 1 ≤ V.heap.size) := by rw [← hgs]; exact hsz
  have HVG : Hid (V.heap[gs]? = some (.cells #[.int .i64 r, .int .i64 u, .int .i64 o, .slice a0 n0 c0] 24)) := by rw [← hgs]; exact hvg
  rw [hgs]
  clear hgs hsz HBX hvg
  obtain ⟨b0, b1, b2, b3⟩ := HB1.out V (Below.refl _ _)
  go_wp2_with fail
  refine (HNW.out V HB0.out).mono ?_
  rintro e w1 hq1
  have HQ1 : Hid (LNewQ r u o Rd V e w1) := hq1
  have HW1 : Hid (Below V.heap.size V w1) := hq1.1
  have HBw1 : Hid (Below w.heap.size w w1) := HB0.out.trans (hq1.1.mono HB0.out.size)
  have HBs1 : Hid (Below (gs + 1) V w1) := hq1.1.mono HSZ.out
  clear hq1 b0 b1 b2 b3
  obtain ⟨b0, b1, b2, b3⟩ := HB1.out w1 HBs1.out
  by_cases hE : errL r u o Rd = 0
  rotate_left
  · obtain ⟨E, hEE⟩ : ∃ E, errL r u o Rd = E := ⟨_, rfl⟩
    have he : e = .returned (.tuple #[.pointer none, .int .i64 E]) := by
      rcases HQ1.out.2 with ⟨_, h⟩ | ⟨h, _⟩
      · rw [← hEE]; exact h
      · exact absurd h hE
    subst he
    have tE : (E != 0) = true := by rw [hEE] at hE; simp [hE]
    have tE0 : (E == 0) = false := by rw [hEE] at hE; simp [hE]
    have tEE : (E == E) = true := by simp
    have HEE : Hid (errL r u o Rd = E) := hEE
    have HE0 : Hid (¬ errL r u o Rd = 0) := hE
    clear hE hEE HQ1
    go_wp2_with fail
    refine (HNW.out w1 HBw1.out).mono ?_
    rintro e w2 hq2
    have he : e = .returned (.tuple #[.pointer none, .int .i64 E]) := by
      rcases hq2.2 with ⟨_, h⟩ | ⟨h, _⟩
      · rw [← HEE.out]; exact h
      · exact absurd h HE0.out
    subst he
    have HBw2 : Hid (Below w.heap.size w w2) := HBw1.out.trans (hq2.1.mono HBw1.out.size)
    have HBs2 : Hid (Below (gs + 1) V w2) := HBs1.out.trans (hq2.1.mono (Nat.le_trans HSZ.out HW1.out.size))
    clear hq2 b0 b1 b2 b3
    obtain ⟨b0, b1, b2, b3⟩ := HB1.out w2 HBs2.out
    go_wp2_with fail
    refine (HRN.out w2 HBw2.out).mono ?_
    rintro e w3 hq3
    have he : e = .returned (.tuple #[.agg #[.int .i64 0, .int .i64 0, .int .i64 0, .slice none 0 0, .slice none 0 0, .slice none 0 0, .slice none 0 0, .slice none 0 0], .int .i64 E]) := by
      rcases hq3.2 with ⟨_, h⟩ | ⟨h, _⟩
      · rw [← HEE.out]; exact h
      · exact absurd h HE0.out
    subst he
    have HBw3 : Hid (Below w.heap.size w w3) := HBw2.out.trans (hq3.1.mono HBw2.out.size)
    have HAL3 : Hid (∀ A, Calls Try.prog 13 #[] (w3.alloc A) (AN (w3.alloc A) (.bool true)) ∧ Below w.heap.size w (w3.alloc A)) := fun A => ⟨HAL.out _, HBw3.out.trans ((bl1 w3 A).mono HBw3.out.size)⟩
    clear hq3 b0 b1 b2 b3
    go_wp2_with fail
    refine (HAL3.out _).1.mono ?_
    rintro e w4 ⟨rfl, b4⟩
    have HF : Hid (P (.returned (.bool true)) w4) := HQ.out w4 ((HAL3.out _).2.trans (b4.mono (HAL3.out _).2.size))
    clear b4
    go_wp2
    first | exact HF.out | (go_ret; exact HF.out)
  have HE : Hid (errL r u o Rd = 0) := hE
  have he : ∃ la, e = .returned (.tuple #[.pointer (some ⟨la, 0, none⟩), .int .i64 0]) := by
    rcases HQ1.out.2 with ⟨h, _⟩ | ⟨_, la, h, _⟩
    · exact absurd hE h
    · exact ⟨la, h⟩
  obtain ⟨la, rfl⟩ := he
  clear hE
  go_wp2_with fail
  refine (HNW.out w1 HBw1.out).mono ?_
  rintro e w2 hq2
  obtain ⟨la', lb, lab, q1, rfl, tl⟩ := TL.first HE.out HB0.out HQ1.out hq2
  obtain rfl : la = la' := by simpa using q1
  have HBs2 : Hid (Below (gs + 1) V w2) := HBs1.out.trans (hq2.1.mono (Nat.le_trans HSZ.out HW1.out.size))
  have HS2 : Hid (gs + 1 ≤ w2.heap.size) := Nat.le_trans HSZ.out HBs2.out.size
  have HT2 : Hid (TL w w2 la lb (newL r u o Rd) (newL r u o Rd) (fun k => w.heap.size ≤ k ∧ k < V.heap.size) lab) := tl
  clear hq2 q1 tl b0 b1 b2 b3 HQ1 HNW
  obtain ⟨b0, b1, b2, b3⟩ := HB1.out w2 HBs2.out
  go_wp2_with fail
  refine (HRN.out w2 HT2.out.bel).mono ?_
  rintro e w3 hq3
  have he : e = .returned (.tuple #[.agg #[.int .i64 r, .int .i64 u, .int .i64 o, .slice a0 n0 c0, .slice none 0 0, .slice none 0 0, .slice none 0 0, .slice none 0 0], .int .i64 0]) := by
    rcases hq3.2 with ⟨h, _⟩ | ⟨_, h⟩
    · exact absurd HE.out h
    · exact h
  subst he
  have HT3 : Hid (TL w w3 la lb (newL r u o Rd) (newL r u o Rd) (fun k => w.heap.size ≤ k ∧ k < V.heap.size) lab) := HT2.out.below hq3.1
  have HBs3 : Hid (Below (gs + 1) V w3) := HBs2.out.trans (hq3.1.mono HS2.out)
  clear hq3 b0 b1 b2 b3 HRN
  go_upto_region 8 with fail
  have HS3 : Hid (gs < w3.heap.size ∧ w.heap.size ≤ gs ∧ gs < V.heap.size) := by show _ ∧ _ ∧ _; have := HSZ.out; have := HGS.out; have := HBs3.out.size; omega
  have hA : AI w (w3.alloc (.cells #[.int .i64 r, .int .i64 u, .int .i64 o, .slice a0 n0 c0, .slice none 0 0, .slice none 0 0, .slice none 0 0, .slice none 0 0] 35)) la lb (newL r u o Rd) (newL r u o Rd) gs w3.heap.size r u o (.slice a0 n0 c0) lab := by
    have t := (HT3.out.alloc (.cells #[.int .i64 r, .int .i64 u, .int .i64 o, .slice a0 n0 c0, .slice none 0 0, .slice none 0 0, .slice none 0 0, .slice none 0 0] 35)).mono (Y' := fun k => k = gs ∨ k = w3.heap.size) (fun k hk => by rcases hk with rfl | rfl; exact .inl ⟨HS3.out.2.1, HS3.out.2.2⟩; exact .inr rfl)
    refine ⟨t, ?_, heap_alloc_new _ _⟩
    rw [heap_alloc_old _ _ HS3.out.1]
    exact (HBs3.out.block gs (by omega)).trans HVG.out
  have HA : Hid (AI w (w3.alloc (.cells #[.int .i64 r, .int .i64 u, .int .i64 o, .slice a0 n0 c0, .slice none 0 0, .slice none 0 0, .slice none 0 0, .slice none 0 0] 35)) la lb (newL r u o Rd) (newL r u o Rd) gs w3.heap.size r u o (.slice a0 n0 c0) lab) := hA
  clear hA HT3 HBs3 HS3 HT2 HBs2 HS2 HBs1 HBw1 HW1 HB1 HB0 HSZ HVG HGS
  generalize w3.heap.size = gr at *
  generalize w3.alloc (.cells #[.int .i64 r, .int .i64 u, .int .i64 o, .slice a0 n0 c0, .slice none 0 0, .slice none 0 0, .slice none 0 0, .slice none 0 0] 35) = V3 at *
  go_wp2_with fail
  go_loopw [13] (fun i wr => ∃ (q : Nat) (s : Lg) (lab : Nat → Nat), i = .int .i64 (q : Int) ∧ q ≤ n1 ∧ Hid (AI w wr la lb s (newL r u o Rd) gs gr r u o (.slice a0 n0 c0) lab) ∧ Hid (Fx s (newL r u o Rd))) (fun i _ => n1 - (intOf i).toNat)
  case atStart => exact ⟨0, _, _, rfl, Nat.zero_le _, HA, ⟨rfl, rfl, rfl, rfl⟩⟩
  case round =>
    clear HA
    obtain ⟨q, s, lab1, rfl, hq, HI, HF⟩ := hrel
    by_cases hlt : q < n1
    · have d4 : decide (q < n1) = true := by simp [hlt]
      have hq' : q < A.length := by rw [HN1.out]; exact hlt
      obtain ⟨ob, oo, n, c', hv, hcl⟩ := H1.out.cell hq'
      simp only [Value.slice.injEq] at hv
      obtain ⟨rfl, rfl, rfl⟩ := hv
      obtain ⟨⟨xk, xa, xf, xv⟩, hx⟩ : ∃ x, A[q]'hq' = x := ⟨_, rfl⟩
      rw [hx] at hcl
      have hc0 := quad_cells hcl
      have HOP : Hid (∀ W, Below w.heap.size w W → W.cell? ⟨ob, oo + q * 4, none⟩ = some (.int .i64 xk) ∧ W.cell? ⟨ob, oo + q * 4 + 1, none⟩ = some (.int .i64 xa) ∧ W.cell? ⟨ob, oo + q * 4 + 2, none⟩ = some (.int .i64 xf) ∧ W.cell? ⟨ob, oo + q * 4 + 3, none⟩ = some (.int .i64 xv)) := fun W hW => ⟨(hW.cell (p := ⟨ob, oo + q * 4, none⟩) (World.block_lt_of_cell? w _ hc0.1)).trans hc0.1, (hW.cell (p := ⟨ob, oo + q * 4 + 1, none⟩) (World.block_lt_of_cell? w _ hc0.2.1)).trans hc0.2.1, (hW.cell (p := ⟨ob, oo + q * 4 + 2, none⟩) (World.block_lt_of_cell? w _ hc0.2.2.1)).trans hc0.2.2.1, (hW.cell (p := ⟨ob, oo + q * 4 + 3, none⟩) (World.block_lt_of_cell? w _ hc0.2.2.2)).trans hc0.2.2.2⟩
      have i1 : (0 : Int) ≤ (q : Int) := by omega
      have i2 : (q : Int) < (n1 : Int) := by omega
      have HId : Hid (AI w wr.drew la lb s (newL r u o Rd) gs gr r u o (.slice a0 n0 c0) lab1) := HI.out.below (Below.refl _ _).drew
      have HC : Hid (Calls Try.prog 11 #[.pointer (some ⟨la, 0, none⟩), .agg #[.int .i64 r, .int .i64 u, .int .i64 o, .slice a0 n0 c0, .slice none 0 0, .slice none 0 0, .slice none 0 0, .slice none 0 0], .agg #[.int .i64 xk, .int .i64 xa, .int .i64 xf, .int .i64 xv]] wr.drew fun e W' => ∃ v b, e = .returned (.tuple #[v, .bool b]) ∧ ∃ lab', AI w W' la lb (oneS s (newD r u o Rd) ⟨xk, xa, xf, xv⟩) (newL r u o Rd) gs gr r u o (.slice a0 n0 c0) lab') := HId.out.oneA H0.out ⟨xk, xa, xf, xv⟩
      have HF2 : Hid (Fx (oneS s (newD r u o Rd) ⟨xk, xa, xf, xv⟩) (newL r u o Rd)) := HF.out.one _ _
      have hS0 : wr.drew.cell? ⟨gr, 0, none⟩ = some (.int .i64 r) ∧ wr.drew.cell? ⟨gr, 1, none⟩ = some (.int .i64 u) ∧ wr.drew.cell? ⟨gr, 2, none⟩ = some (.int .i64 o) ∧ wr.drew.cell? ⟨gr, 3, none⟩ = some (.slice a0 n0 c0) ∧ wr.drew.cell? ⟨gr, 4, none⟩ = some (.slice none 0 0) ∧ wr.drew.cell? ⟨gr, 5, none⟩ = some (.slice none 0 0) ∧ wr.drew.cell? ⟨gr, 6, none⟩ = some (.slice none 0 0) ∧ wr.drew.cell? ⟨gr, 7, none⟩ = some (.slice none 0 0) ∧ wr.drew.cell? ⟨ob, oo + q * 4, none⟩ = some (.int .i64 xk) ∧ wr.drew.cell? ⟨ob, oo + q * 4 + 1, none⟩ = some (.int .i64 xa) ∧ wr.drew.cell? ⟨ob, oo + q * 4 + 2, none⟩ = some (.int .i64 xf) ∧ wr.drew.cell? ⟨ob, oo + q * 4 + 3, none⟩ = some (.int .i64 xv) := by
        obtain ⟨x0, x1, x2, x3, x4, x5, x6, x7⟩ := HId.out.c2
        exact ⟨x0, x1, x2, x3, x4, x5, x6, x7, HOP.out _ HId.out.tl.bel⟩
      have HS6 : Hid (∀ s' W lab', AI w W la lb s' (newL r u o Rd) gs gr r u o (.slice a0 n0 c0) lab' → W.cell? ⟨gr, 0, none⟩ = some (.int .i64 r) ∧ W.cell? ⟨gr, 1, none⟩ = some (.int .i64 u) ∧ W.cell? ⟨gr, 2, none⟩ = some (.int .i64 o) ∧ W.cell? ⟨gr, 3, none⟩ = some (.slice a0 n0 c0) ∧ W.cell? ⟨gr, 4, none⟩ = some (.slice none 0 0) ∧ W.cell? ⟨gr, 5, none⟩ = some (.slice none 0 0) ∧ W.cell? ⟨gr, 6, none⟩ = some (.slice none 0 0) ∧ W.cell? ⟨gr, 7, none⟩ = some (.slice none 0 0) ∧ W.cell? ⟨ob, oo + q * 4, none⟩ = some (.int .i64 xk) ∧ W.cell? ⟨ob, oo + q * 4 + 1, none⟩ = some (.int .i64 xa) ∧ W.cell? ⟨ob, oo + q * 4 + 2, none⟩ = some (.int .i64 xf) ∧ W.cell? ⟨ob, oo + q * 4 + 3, none⟩ = some (.int .i64 xv)) := fun s' W lab' h => by
        obtain ⟨x0, x1, x2, x3, x4, x5, x6, x7⟩ := h.c2
        exact ⟨x0, x1, x2, x3, x4, x5, x6, x7, HOP.out _ h.tl.bel⟩
      clear hc0 hcl hx hq'
      go_upto_region 11 with fail
      go_region_held3 (fun w' => w'.cell? ⟨gr, 0, none⟩ = some (.int .i64 r) ∧ w'.cell? ⟨gr, 1, none⟩ = some (.int .i64 u) ∧ w'.cell? ⟨gr, 2, none⟩ = some (.int .i64 o) ∧ w'.cell? ⟨gr, 3, none⟩ = some (.slice a0 n0 c0) ∧ w'.cell? ⟨gr, 4, none⟩ = some (.slice none 0 0) ∧ w'.cell? ⟨gr, 5, none⟩ = some (.slice none 0 0) ∧ w'.cell? ⟨gr, 6, none⟩ = some (.slice none 0 0) ∧ w'.cell? ⟨gr, 7, none⟩ = some (.slice none 0 0) ∧ w'.cell? ⟨ob, oo + q * 4, none⟩ = some (.int .i64 xk) ∧ w'.cell? ⟨ob, oo + q * 4 + 1, none⟩ = some (.int .i64 xa) ∧ w'.cell? ⟨ob, oo + q * 4 + 2, none⟩ = some (.int .i64 xf) ∧ w'.cell? ⟨ob, oo + q * 4 + 3, none⟩ = some (.int .i64 xv)) (first | with_reducible exact hS0 | with_reducible exact hS6)
        (first | (go_at_call 11; refine HC.out.mono ?_; rintro e w6 ⟨v6, b6, rfl, lab6, a6⟩; have hS6 := HS6.out _ _ _ a6; have HA6 : Hid (AI w w6 la lb (oneS s (newD r u o Rd) ⟨xk, xa, xf, xv⟩) (newL r u o Rd) gs gr r u o (.slice a0 n0 c0) lab6) := a6; clear a6))
      clear hS6 hS0 HS6 HC HId HI HOP
      go_wp2_with fail
      go_roundw
      case rel => exact ⟨q + 1, _, _, by go_num, by omega, HA6, HF2⟩
      case measure => simp [intOf]; omega
    · have d4 : decide (q < n1) = false := by simp; omega
      have hqn : q = n1 := by omega
      subst hqn
      have HCL : Hid (Calls Try.prog 14 #[.pointer (some ⟨la, 0, none⟩)] wr fun e W' => e = .returned (.tuple #[]) ∧ ∃ lab', AI w W' la lb (newL r u o Rd) (newL r u o Rd) gs gr r u o (.slice a0 n0 c0) lab') := by
        have := HI.out.clear
        rw [HF.out.clear] at this
        exact this
      clear HI HF
      go_wp2_with fail
      refine HCL.out.mono ?_
      rintro e w5 ⟨rfl, lab5, a5⟩
      have HA5 : Hid (AI w w5 la lb (newL r u o Rd) (newL r u o Rd) gs gr r u o (.slice a0 n0 c0) lab5) := a5
      clear a5 HCL
      go_wp2_with fail
      go_loopw [14] (fun i wr => ∃ (q : Nat) (s : Lg) (lab : Nat → Nat), i = .int .i64 (q : Int) ∧ q ≤ n2 ∧ Hid (AI w wr la lb s s gs gr r u o (.slice a0 n0 c0) lab) ∧ Hid (Fx s (newL r u o Rd))) (fun i _ => n2 - (intOf i).toNat)
      case atStart => exact ⟨0, _, _, rfl, Nat.zero_le _, HA5, ⟨rfl, rfl, rfl, rfl⟩⟩
      case round =>
        clear HA5
        obtain ⟨q, s, lab1, rfl, hq, HI, HF⟩ := hrel
        by_cases hlt : q < n2
        · have d4 : decide (q < n2) = true := by simp [hlt]
          have hq' : q < L.length := by rw [HN2.out]; exact hlt
          obtain ⟨ob, oo, n, c', hv, hcl⟩ := H2.out.cell hq'
          simp only [Value.slice.injEq] at hv
          obtain ⟨rfl, rfl, rfl⟩ := hv
          obtain ⟨⟨xk, xa, xf, xv⟩, hx⟩ : ∃ x, L[q]'hq' = x := ⟨_, rfl⟩
          rw [hx] at hcl
          have hc0 := quad_cells hcl
          have HOP : Hid (∀ W, Below w.heap.size w W → W.cell? ⟨ob, oo + q * 4, none⟩ = some (.int .i64 xk) ∧ W.cell? ⟨ob, oo + q * 4 + 1, none⟩ = some (.int .i64 xa) ∧ W.cell? ⟨ob, oo + q * 4 + 2, none⟩ = some (.int .i64 xf) ∧ W.cell? ⟨ob, oo + q * 4 + 3, none⟩ = some (.int .i64 xv)) := fun W hW => ⟨(hW.cell (p := ⟨ob, oo + q * 4, none⟩) (World.block_lt_of_cell? w _ hc0.1)).trans hc0.1, (hW.cell (p := ⟨ob, oo + q * 4 + 1, none⟩) (World.block_lt_of_cell? w _ hc0.2.1)).trans hc0.2.1, (hW.cell (p := ⟨ob, oo + q * 4 + 2, none⟩) (World.block_lt_of_cell? w _ hc0.2.2.1)).trans hc0.2.2.1, (hW.cell (p := ⟨ob, oo + q * 4 + 3, none⟩) (World.block_lt_of_cell? w _ hc0.2.2.2)).trans hc0.2.2.2⟩
          have i1 : (0 : Int) ≤ (q : Int) := by omega
          have i2 : (q : Int) < (n2 : Int) := by omega
          have HId : Hid (AI w wr.drew la lb s s gs gr r u o (.slice a0 n0 c0) lab1) := HI.out.below (Below.refl _ _).drew
          have HC : Hid (Calls Try.prog 11 #[.pointer (some ⟨la, 0, none⟩), .agg #[.int .i64 r, .int .i64 u, .int .i64 o, .slice a0 n0 c0, .slice none 0 0, .slice none 0 0, .slice none 0 0, .slice none 0 0], .agg #[.int .i64 xk, .int .i64 xa, .int .i64 xf, .int .i64 xv]] wr.drew fun e W' => ∃ v b, e = .returned (.tuple #[v, .bool b]) ∧ ∃ lab', AI w W' la lb (oneS s (newD r u o Rd) ⟨xk, xa, xf, xv⟩) s gs gr r u o (.slice a0 n0 c0) lab') := HId.out.oneA H0.out ⟨xk, xa, xf, xv⟩
          have HF2 : Hid (Fx (oneS s (newD r u o Rd) ⟨xk, xa, xf, xv⟩) (newL r u o Rd)) := HF.out.one _ _
          have hS0 : wr.drew.cell? ⟨gr, 0, none⟩ = some (.int .i64 r) ∧ wr.drew.cell? ⟨gr, 1, none⟩ = some (.int .i64 u) ∧ wr.drew.cell? ⟨gr, 2, none⟩ = some (.int .i64 o) ∧ wr.drew.cell? ⟨gr, 3, none⟩ = some (.slice a0 n0 c0) ∧ wr.drew.cell? ⟨gr, 4, none⟩ = some (.slice none 0 0) ∧ wr.drew.cell? ⟨gr, 5, none⟩ = some (.slice none 0 0) ∧ wr.drew.cell? ⟨gr, 6, none⟩ = some (.slice none 0 0) ∧ wr.drew.cell? ⟨gr, 7, none⟩ = some (.slice none 0 0) ∧ wr.drew.cell? ⟨ob, oo + q * 4, none⟩ = some (.int .i64 xk) ∧ wr.drew.cell? ⟨ob, oo + q * 4 + 1, none⟩ = some (.int .i64 xa) ∧ wr.drew.cell? ⟨ob, oo + q * 4 + 2, none⟩ = some (.int .i64 xf) ∧ wr.drew.cell? ⟨ob, oo + q * 4 + 3, none⟩ = some (.int .i64 xv) := by
            obtain ⟨x0, x1, x2, x3, x4, x5, x6, x7⟩ := HId.out.c2
            exact ⟨x0, x1, x2, x3, x4, x5, x6, x7, HOP.out _ HId.out.tl.bel⟩
          have HS6 : Hid (∀ s' t' W lab', AI w W la lb s' t' gs gr r u o (.slice a0 n0 c0) lab' → W.cell? ⟨gr, 0, none⟩ = some (.int .i64 r) ∧ W.cell? ⟨gr, 1, none⟩ = some (.int .i64 u) ∧ W.cell? ⟨gr, 2, none⟩ = some (.int .i64 o) ∧ W.cell? ⟨gr, 3, none⟩ = some (.slice a0 n0 c0) ∧ W.cell? ⟨gr, 4, none⟩ = some (.slice none 0 0) ∧ W.cell? ⟨gr, 5, none⟩ = some (.slice none 0 0) ∧ W.cell? ⟨gr, 6, none⟩ = some (.slice none 0 0) ∧ W.cell? ⟨gr, 7, none⟩ = some (.slice none 0 0) ∧ W.cell? ⟨ob, oo + q * 4, none⟩ = some (.int .i64 xk) ∧ W.cell? ⟨ob, oo + q * 4 + 1, none⟩ = some (.int .i64 xa) ∧ W.cell? ⟨ob, oo + q * 4 + 2, none⟩ = some (.int .i64 xf) ∧ W.cell? ⟨ob, oo + q * 4 + 3, none⟩ = some (.int .i64 xv)) := fun s' t' W lab' h => by
            obtain ⟨x0, x1, x2, x3, x4, x5, x6, x7⟩ := h.c2
            exact ⟨x0, x1, x2, x3, x4, x5, x6, x7, HOP.out _ h.tl.bel⟩
          clear hc0 hcl hx hq'
          go_upto_region 16 with fail
          go_region_held3 (fun w' => w'.cell? ⟨gr, 0, none⟩ = some (.int .i64 r) ∧ w'.cell? ⟨gr, 1, none⟩ = some (.int .i64 u) ∧ w'.cell? ⟨gr, 2, none⟩ = some (.int .i64 o) ∧ w'.cell? ⟨gr, 3, none⟩ = some (.slice a0 n0 c0) ∧ w'.cell? ⟨gr, 4, none⟩ = some (.slice none 0 0) ∧ w'.cell? ⟨gr, 5, none⟩ = some (.slice none 0 0) ∧ w'.cell? ⟨gr, 6, none⟩ = some (.slice none 0 0) ∧ w'.cell? ⟨gr, 7, none⟩ = some (.slice none 0 0) ∧ w'.cell? ⟨ob, oo + q * 4, none⟩ = some (.int .i64 xk) ∧ w'.cell? ⟨ob, oo + q * 4 + 1, none⟩ = some (.int .i64 xa) ∧ w'.cell? ⟨ob, oo + q * 4 + 2, none⟩ = some (.int .i64 xf) ∧ w'.cell? ⟨ob, oo + q * 4 + 3, none⟩ = some (.int .i64 xv)) (first | with_reducible exact hS0 | with_reducible exact hS6)
            (first | (go_at_call 11; refine HC.out.mono ?_; rintro e w6 ⟨v6, b6, rfl, lab6, a6⟩; have hS6 := HS6.out _ _ _ _ a6; have HA6 : Hid (AI w w6 la lb (oneS s (newD r u o Rd) ⟨xk, xa, xf, xv⟩) s gs gr r u o (.slice a0 n0 c0) lab6) := a6; clear a6))
          clear hS6 hS0 HC HId HI
          have HId : Hid (AI w w6.drew la lb (oneS s (newD r u o Rd) ⟨xk, xa, xf, xv⟩) s gs gr r u o (.slice a0 n0 c0) lab6) := HA6.out.below (Below.refl _ _).drew
          have HC : Hid (Calls Try.prog 11 #[.pointer (some ⟨lb, 0, none⟩), .agg #[.int .i64 r, .int .i64 u, .int .i64 o, .slice a0 n0 c0, .slice none 0 0, .slice none 0 0, .slice none 0 0, .slice none 0 0], .agg #[.int .i64 xk, .int .i64 xa, .int .i64 xf, .int .i64 xv]] w6.drew fun e W' => ∃ v b, e = .returned (.tuple #[v, .bool b]) ∧ ∃ lab', AI w W' la lb (oneS s (newD r u o Rd) ⟨xk, xa, xf, xv⟩) (oneS s (newD r u o Rd) ⟨xk, xa, xf, xv⟩) gs gr r u o (.slice a0 n0 c0) lab') := HId.out.oneB H0.out ⟨xk, xa, xf, xv⟩
          have hS0 := HS6.out _ _ _ _ HId.out
          clear HA6
          go_upto_region 17 with fail
          go_region_held3 (fun w' => w'.cell? ⟨gr, 0, none⟩ = some (.int .i64 r) ∧ w'.cell? ⟨gr, 1, none⟩ = some (.int .i64 u) ∧ w'.cell? ⟨gr, 2, none⟩ = some (.int .i64 o) ∧ w'.cell? ⟨gr, 3, none⟩ = some (.slice a0 n0 c0) ∧ w'.cell? ⟨gr, 4, none⟩ = some (.slice none 0 0) ∧ w'.cell? ⟨gr, 5, none⟩ = some (.slice none 0 0) ∧ w'.cell? ⟨gr, 6, none⟩ = some (.slice none 0 0) ∧ w'.cell? ⟨gr, 7, none⟩ = some (.slice none 0 0) ∧ w'.cell? ⟨ob, oo + q * 4, none⟩ = some (.int .i64 xk) ∧ w'.cell? ⟨ob, oo + q * 4 + 1, none⟩ = some (.int .i64 xa) ∧ w'.cell? ⟨ob, oo + q * 4 + 2, none⟩ = some (.int .i64 xf) ∧ w'.cell? ⟨ob, oo + q * 4 + 3, none⟩ = some (.int .i64 xv)) (first | with_reducible exact hS0 | with_reducible exact hS7)
            (first | (go_at_call 11; refine HC.out.mono ?_; rintro e w7 ⟨v7, b7, rfl, lab7, a7⟩; have hS7 := HS6.out _ _ _ _ a7; have HA7 : Hid (AI w w7 la lb (oneS s (newD r u o Rd) ⟨xk, xa, xf, xv⟩) (oneS s (newD r u o Rd) ⟨xk, xa, xf, xv⟩) gs gr r u o (.slice a0 n0 c0) lab7) := a7; clear a7))
          clear hS7 hS0 HS6 HC HId HOP
          go_wp2_with fail
          go_roundw
          case rel => exact ⟨q + 1, _, _, by go_num, by omega, HA7, HF2⟩
          case measure => simp [intOf]; omega
        · have d4 : decide (q < n2) = false := by simp; omega
          have hqn : q = n2 := by omega
          subst hqn
          go_wp2_with fail
          refine (lens_any HI.out.tl.a).mono ?_
          rintro e w5 ⟨rfl, b5⟩
          have HI5 : Hid (AI w w5 la lb s s gs gr r u o (.slice a0 n0 c0) lab1) := HI.out.below b5
          clear b5 HI
          go_wp2_with fail
          refine (lens_any HI5.out.tl.b).mono ?_
          rintro e w6 ⟨rfl, b6⟩
          have HI6 : Hid (AI w w6 la lb s s gs gr r u o (.slice a0 n0 c0) lab1) := HI5.out.below b6
          clear b6 HI5
          go_upto_region 20 with fail
          go_wp2_with fail
          refine (writes_any HI6.out.tl.a).mono ?_
          rintro e w7 ⟨x7, rfl, r7, b7⟩
          have HI7 : Hid (AI w w7 la lb s s gs gr r u o (.slice a0 n0 c0) lab1) := HI6.out.below b7
          obtain ⟨xa7, xc7, rfl⟩ := r7.form
          have R7 : Hid (RS kC w7 (.slice xa7 s.Ws.length xc7) s.Ws) := r7
          clear b7 r7 HI6
          go_wp2_with fail
          refine (writes_any HI7.out.tl.b).mono ?_
          rintro e w8 ⟨x8, rfl, r8, b8⟩
          have HI8 : Hid (AI w w8 la lb s s gs gr r u o (.slice a0 n0 c0) lab1) := HI7.out.below b8
          obtain ⟨xa8, xc8, rfl⟩ := r8.form
          have HSM : Hid (Calls Try.prog 16 #[.slice xa7 s.Ws.length xc7, .slice xa8 s.Ws.length xc8] w8 (AN w8 (.bool true))) := rsame_true (R7.out.below b8) r8 (by have := HI7.out.tl.a.lens64.2.1; omega)
          clear b8 r8 HI7 R7
          go_wp2_with fail
          refine HSM.out.mono ?_
          rintro e w9 ⟨rfl, b9⟩
          have HI9 : Hid (AI w w9 la lb s s gs gr r u o (.slice a0 n0 c0) lab1) := HI8.out.below b9
          clear b9 HI8 HSM
          go_wp2_with fail
          refine (outs_any HI9.out.tl.a).mono ?_
          rintro e w10 ⟨x7, rfl, r7, b7⟩
          have HI10 : Hid (AI w w10 la lb s s gs gr r u o (.slice a0 n0 c0) lab1) := HI9.out.below b7
          obtain ⟨ya7, yc7, rfl⟩ := r7.form
          have R7 : Hid (RS kN w10 (.slice ya7 s.Os.length yc7) s.Os) := r7
          clear b7 r7 HI9
          go_wp2_with fail
          refine (outs_any HI10.out.tl.b).mono ?_
          rintro e w11 ⟨x8, rfl, r8, b8⟩
          have HI11 : Hid (AI w w11 la lb s s gs gr r u o (.slice a0 n0 c0) lab1) := HI10.out.below b8
          obtain ⟨ya8, yc8, rfl⟩ := r8.form
          have HSM : Hid (Calls Try.prog 18 #[.slice ya7 s.Os.length yc7, .slice ya8 s.Os.length yc8] w11 (AN w11 (.bool true))) := rrow_true (R7.out.below b8) r8 (by have := HI10.out.tl.a.lens64.2.2; omega)
          clear b8 r8 HI10 R7
          go_wp2_with fail
          refine HSM.out.mono ?_
          rintro e w12 ⟨rfl, b9⟩
          have HI12 : Hid (AI w w12 la lb s s gs gr r u o (.slice a0 n0 c0) lab1) := HI11.out.below b9
          clear b9 HI11 HSM
          go_wp2_with fail
          refine (reads_any HI12.out.tl.a).mono ?_
          rintro e w13 ⟨x7, rfl, r7, b7⟩
          have HI13 : Hid (AI w w13 la lb s s gs gr r u o (.slice a0 n0 c0) lab1) := HI12.out.below b7
          obtain ⟨za7, zc7, rfl⟩ := r7.form
          have R7 : Hid (RS kR w13 (.slice za7 s.Rs.length zc7) s.Rs) := r7
          clear b7 r7 HI12
          go_wp2_with fail
          refine (reads_any HI13.out.tl.b).mono ?_
          rintro e w14 ⟨x8, rfl, r8, b8⟩
          have HI14 : Hid (AI w w14 la lb s s gs gr r u o (.slice a0 n0 c0) lab1) := HI13.out.below b8
          obtain ⟨za8, zc8, rfl⟩ := r8.form
          have R8 : Hid (RS kR w14 (.slice za8 s.Rs.length zc8) s.Rs) := r8
          have R7' : Hid (RS kR w14 (.slice za7 s.Rs.length zc7) s.Rs) := R7.out.below b8
          obtain ⟨m, hm⟩ : ∃ m, s.Rs.length = m := ⟨_, rfl⟩
          have HM : Hid (s.Rs.length = m) := hm
          have hm64 : m ≤ 64 := by have := HI13.out.tl.a.lens64.1; omega
          rw [hm] at R8 R7' ⊢
          clear b8 r8 HI13 R7 hm
          go_wp2_with fail
          go_loopw [23] (fun i wr => ∃ q : Nat, i = .int .i64 (q : Int) ∧ q ≤ m ∧ Hid (Below w14.heap.size w14 wr)) (fun i _ => m - (intOf i).toNat)
          case atStart => exact ⟨0, rfl, Nat.zero_le _, Below.refl _ _⟩
          case round =>
            obtain ⟨q, rfl, hq, HB⟩ := hrel
            by_cases hlt : q < m
            · have d5 : decide (q < m) = true := by simp; omega
              have hq' : q < s.Rs.length := by rw [HM.out]; exact hlt
              obtain ⟨b, bo, n, c', hg, hcl⟩ := (R7'.out.below HB.out).cell hq'
              simp only [Value.slice.injEq] at hg
              obtain ⟨rfl, rfl, rfl⟩ := hg
              obtain ⟨b', bo', n', c2', hg, hcl2⟩ := (R8.out.below HB.out).cell hq'
              simp only [Value.slice.injEq] at hg
              obtain ⟨rfl, rfl, rfl⟩ := hg
              obtain ⟨⟨z0, z1, z2⟩, hz⟩ : ∃ x, s.Rs[q]'hq' = x := ⟨_, rfl⟩
              rw [hz] at hcl hcl2
              obtain ⟨y0, y1, y2⟩ := tri_cells rfl rfl hcl
              obtain ⟨x0, x1, x2⟩ := tri_cells rfl rfl hcl2
              have i1 : (0 : Int) ≤ (q : Int) := by omega
              have i2 : (q : Int) < (m : Int) := by omega
              clear hcl hcl2 hz hq'
              go_upto_region 26 with fail
              go_quiet (fail)
              go_wp2_with fail
              go_roundw
              case rel => exact ⟨q + 1, by go_num, by omega, Below.dN HB.out _⟩
              case measure => simp [intOf]; omega
            · have d5 : decide (q < m) = false := by simp; omega
              have hqm : q = m := by omega
              subst hqm
              have HIr : Hid (AI w wr la lb s s gs gr r u o (.slice a0 n0 c0) lab1) := HI14.out.below HB.out
              have c3 := HIr.out.c1
              clear HI14 HB R8 R7' HM
              have hmk := made26 n0 (by omega)
              have HZ : Hid (RS kN (wr.alloc (.cells (ints (List.replicate n0 0)) 2)) (.slice (some ⟨wr.heap.size, 0, none⟩) n0 n0) (List.replicate n0 0)) := zeros_rs wr n0 (by omega)
              have HI15 : Hid (AI w (wr.alloc (.cells (ints (List.replicate n0 0)) 2)) la lb s s gs gr r u o (.slice a0 n0 c0) lab1) := HIr.out.below (bl1 _ _)
              clear HIr
              go_upto_region 29 with fail
              have HOL : Hid (s.ops.length = n0) := by show _ = _; rw [HF.out.2.2.2]; show ((Rd.map Prod.fst).length) = n0; rw [List.length_map, HN0.out]
              have HNL : Hid ((List.replicate n0 (0 : Int)).length = n0) := by show _ = _; simp
              generalize wr.alloc (.cells (ints (List.replicate n0 0)) 2) = V15 at *
              generalize wr.heap.size = zb at *
              have HON : Hid (∀ W lbk c, LV W lab1 c lbk s → RS kN W (.slice (some ⟨zb, 0, none⟩) n0 n0) (List.replicate n0 0) → Calls Try.prog 21 #[.pointer (some ⟨lbk, 0, none⟩), .slice (some ⟨zb, 0, none⟩) n0 n0] W (fun e W' => e = .returned (.tuple #[.slice (some ⟨W.heap.size, 0, none⟩) n0 n0, .bool true]) ∧ RS kN W' (.slice (some ⟨W.heap.size, 0, none⟩) n0 n0) (ontoL s.ops (List.replicate n0 0) s.now) ∧ Below W.heap.size W W')) := fun W lbk c h hz => by
                refine (lonto_any h _ _ hz.gsl).mono ?_
                rintro e W' (⟨h1, _⟩ | ⟨h1, rfl, h2, h3⟩)
                · exact absurd (HNL.out.trans HOL.out.symm) h1
                · have hl : (ontoL s.ops (List.replicate n0 0) s.now).length = n0 := by unfold ontoL; rw [List.length_map, List.length_range, HOL.out]
                  have := ints_rs (l := ontoL s.ops (List.replicate n0 0) s.now) h2 (by rw [hl]; unfold maxLen; omega)
                  rw [hl] at this
                  rw [HOL.out]
                  exact ⟨rfl, this, h3⟩
              have hOl : (ontoL s.ops (List.replicate n0 0) s.now).length ≤ 1000 := by unfold ontoL; rw [List.length_map, List.length_range, HOL.out]; omega
              have HOl : Hid _ := hOl
              clear hOl HOL HNL hmk
              generalize ontoL s.ops (List.replicate n0 0) s.now = OL at *
              go_wp2_with fail
              refine (HON.out V15 la 0 HI15.out.tl.a HZ.out).mono ?_
              rintro e w16 ⟨rfl, r16, b16⟩
              have HI16 : Hid (AI w w16 la lb s s gs gr r u o (.slice a0 n0 c0) lab1) := HI15.out.below b16
              have HZ16 : Hid (RS kN w16 (.slice (some ⟨zb, 0, none⟩) n0 n0) (List.replicate n0 0)) := HZ.out.below b16
              have R16 : Hid (RS kN w16 (.slice (some ⟨V15.heap.size, 0, none⟩) n0 n0) OL) := r16
              clear r16 b16 HI15 HZ
              go_wp2_with fail
              refine (HON.out w16 lb 7 HI16.out.tl.b HZ16.out).mono ?_
              rintro e w17 ⟨rfl, r17, b17⟩
              have HBw : Hid (Below w.heap.size w w17) := (HI16.out.below b17).tl.bel
              have HSM : Hid (Calls Try.prog 18 #[.slice (some ⟨V15.heap.size, 0, none⟩) n0 n0, .slice (some ⟨w16.heap.size, 0, none⟩) n0 n0] w17 (AN w17 (.bool true))) := rrow_true (R16.out.below b17) r17 HOl.out
              clear r17 b17 HI16 HZ16 R16 HON
              go_wp2_with fail
              refine HSM.out.mono ?_
              rintro e w18 ⟨rfl, b18⟩
              have HBw2 : Hid (Below w.heap.size w w18) := HBw.out.trans (b18.mono HBw.out.size)
              clear b18 HSM HBw
              go_wp2_with fail
              refine (HAL.out w18).mono ?_
              rintro e w19 ⟨rfl, b19⟩
              have HFF : Hid (P (.returned (.bool true)) w19) := HQ.out w19 (HBw2.out.trans (b19.mono HBw2.out.size))
              clear b19
              go_wp2
              first | exact HFF.out | (go_ret; exact HFF.out)
end Go.Proofs.Ytongeppdaeekeaa
