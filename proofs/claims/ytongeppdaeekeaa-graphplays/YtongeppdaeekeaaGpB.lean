/- The document's Readers. -/
import Derived.Test.YtongeppdaeekeaaGpA
namespace Go.Proofs.Ytongeppdaeekeaa
open Go.RowKit Go.Maps
set_option linter.unusedVariables false

theorem readersOf_next (L : Ed) (w : Int) (q : Nat) (hq : q < L.length) : readersOf (L.take (q + 1)) w = readersOf (L.take q) w ++ (if (L[q]'hq).2 == w then [(L[q]'hq).1] else []) := by
  unfold readersOf
  rw [List.take_succ_eq_append_getElem hq, List.filter_append, List.map_append]
  congr 1
  cases h : ((L[q]'hq).2 == w) <;> simp [h]
theorem readersOf_le (L : Ed) (w : Int) : (readersOf L w).length ≤ L.length := by
  unfold readersOf
  rw [List.length_map]
  exact List.length_filter_le _ _
set_option maxRecDepth 100000 in
set_option maxHeartbeats 8000000 in
theorem rreaders_any {w : World} {v : Value} {E L : Ed} (h : RS kF w v L) (hE : PE E L) (hl : L.length ≤ 512) (dr wt : Int) : Calls Try.prog 33 #[.agg #[.int .i64 dr, v], .int .i64 wt] w (RowQ w (readersOf E wt)) := by
  obtain ⟨a, c, e⟩ := h.form
  obtain ⟨n, hn⟩ : ∃ n, L.length = n := ⟨_, rfl⟩
  have HN : Hid (L.length = n) := hn
  have HLE : Hid (∀ q, q ≤ n → (readersOf (L.take q) wt).length ≤ q) := fun q hq => by
    have h1 := readersOf_le (L.take q) wt
    rw [List.length_take] at h1
    omega
  have HSO : Hid (∀ R, SrtOf (readersOf L wt) R → R = readersOf E wt) := fun R hs => hE.readers wt hs
  rw [hn] at e hl
  subst e
  obtain ⟨V, hV⟩ : ∃ V, w.alloc (.cells #[.int .i64 dr, .slice a n c] 72) = V := ⟨_, rfl⟩
  obtain ⟨g, hg⟩ : ∃ g, w.heap.size = g := ⟨_, rfl⟩
  have HVV : Hid _ := hV
  have HGG : Hid (w.heap.size = g) := hg
  have hb : V.heap[g]? = some (.cells #[.int .i64 dr, .slice a n c] 72) := by rw [← hV, ← hg]; exact heap_alloc_new _ _
  have c0 : V.cell? ⟨g, 1, none⟩ = some (.slice a n c) := by rw [cell_of_row V g _ _ _ _ hb]; rfl
  have hbw : Below w.heap.size w V := by rw [← hV]; exact bl1 w _
  have HBW : Hid (Below w.heap.size w V) := hbw
  have HR : Hid (RS kF V (.slice a n c) L) := h.below hbw
  have HC0 : Hid (∀ W, Below V.heap.size V W → W.cell? ⟨g, 1, none⟩ = some (.slice a n c)) := fun W hW => by
    rw [cell_of_row W g _ _ _ _ ((hW.block g (Array.getElem?_eq_some_iff.1 hb).1).trans hb)]; rfl
  have HF : Hid (∀ v W, RZ kZ W v (readersOf E wt) → Below w.heap.size w W → (∀ g, v.ownBlock = some g → w.heap.size ≤ g) → RowQ w (readersOf E wt) (.returned v) W) := fun v W h1 h2 h3 => ⟨v, rfl, h1, h2, h3⟩
  clear h hn hV hg hb hbw hE
  generalize RowQ w (readersOf E wt) = P at *
  go_enter Try.func33, Try.ntmps33
  go_upto_region 1 with fail
  rw [HVV.out, HGG.out]
  clear HVV HGG
  go_wp2_with fail
  go_loopw [5, 6] (fun ov iv wr => ∃ q m : Nat, iv = .int .i64 (q : Int) ∧ q ≤ n ∧ (∃ a c, ov = .slice a m c) ∧ Hid ((readersOf (L.take q) wt).length = m) ∧ Hid (Below V.heap.size V wr) ∧ Hid (RZ kZ wr ov (readersOf (L.take q) wt)) ∧ Hid (∀ g, ov.ownBlock = some g → V.heap.size ≤ g)) (fun _ iv _ => n - (intOf iv).toNat)
  case atStart => exact ⟨0, 0, rfl, Nat.zero_le _, ⟨_, _, rfl⟩, rfl, Below.refl _ _, RZ.nil _ _, fun g hg => by simp [Value.ownBlock] at hg⟩
  case round =>
    clear c0
    obtain ⟨q, m, rfl, hq, ⟨al, cl, rfl⟩, HLM, HB, HZ, HW⟩ := hrel
    have c0 := HC0.out wr HB.out
    by_cases hlt : q < n
    · have d1 : decide (q < n) = true := decide_eq_true hlt
      have hq' : q < L.length := by rw [HN.out]; exact hlt
      obtain ⟨b, bo, n', c', hg, hcl⟩ := (HR.out.below HB.out).cell hq'
      simp only [Value.slice.injEq] at hg
      obtain ⟨rfl, rfl, rfl⟩ := hg
      obtain ⟨⟨z0, z1⟩, hz⟩ : ∃ x, L[q]'hq' = x := ⟨_, rfl⟩
      have hnx := readersOf_next L wt q hq'
      rw [hz] at hcl hnx
      obtain ⟨y0, y1⟩ := duo_cells rfl rfl hcl
      have i1 : (0 : Int) ≤ (q : Int) := by omega
      have i2 : (q : Int) < (n : Int) := by omega
      by_cases h0 : z1 = wt
      · have t0 : (z1 == wt) = true := by simp [h0]
        have HNX : Hid (readersOf (L.take (q + 1)) wt = readersOf (L.take q) wt ++ [z0]) := by
          show _ = _
          rw [hnx]
          show _ ++ (if (z1 == wt) = true then [z0] else []) = _
          rw [t0]; rfl
        have HE : Hid (∀ A, RZ kZ (wr.alloc A) (.slice al m cl) (readersOf (L.take q) wt)) := fun A => HZ.out.below (bl1 wr A)
        have HP2 : Hid (RS kZ (wr.alloc (.cells #[.int .i64 z0] 3)) (.slice (some ⟨wr.heap.size, 0, none⟩) 1 1) [z0]) := num_rz wr z0
        have HL : Hid ((readersOf (L.take q) wt).length + [z0].length ≤ 100000) := by show _ ≤ _; have := HLE.out q hq; show _ + 1 ≤ _; omega
        clear h0 hz hcl hq' hnx HZ
        go_wp2_with (at_builtin; refine push_row kZ _ rfl _ _ rfl _ _ (readersOf (L.take q) wt) [z0] rfl rfl (HE.out _) HP2.out HL.out ?_)
        intro v5 w5 hz5 g5 ho5
        obtain ⟨B5, n5⟩ := pushZ_more (V := V) (HB.out.alloc HB.out.size _) HW.out g5 ho5 (by have := HB.out.size; first | omega | (simp; omega))
        obtain ⟨a8, k8, rfl⟩ := hz5.sl
        have hl8 : (readersOf (L.take q) wt ++ [z0]).length = m + 1 := by rw [List.length_append, HLM.out]; rfl
        rw [hl8] at hz5 n5 ⊢
        have HZ5 : Hid (RZ kZ w5 (.slice a8 (m + 1) k8) (readersOf (L.take (q + 1)) wt)) := by rw [HNX.out]; exact hz5
        have HLM5 : Hid ((readersOf (L.take (q + 1)) wt).length = m + 1) := by rw [HNX.out]; exact hl8
        have HN5 : Hid (∀ g, (Value.slice a8 (m + 1) k8).ownBlock = some g → V.heap.size ≤ g) := n5
        have HB5 : Hid (Below V.heap.size V w5) := B5
        clear hz5 g5 ho5 B5 n5 HE HP2 HL HB HNX hl8 HW HLM y0 y1
        go_wp2_with fail
        go_roundw
        case rel => exact ⟨q + 1, m + 1, by go_num, by omega, ⟨_, _, rfl⟩, HLM5, HB5, HZ5, HN5⟩
        case measure => simp [intOf]; omega
      · have t0 : (z1 == wt) = false := by simp [h0]
        have HNX : Hid (readersOf (L.take (q + 1)) wt = readersOf (L.take q) wt) := by
          show _ = _
          rw [hnx]
          show _ ++ (if (z1 == wt) = true then [z0] else []) = _
          rw [t0]; simp
        have HZ2 : Hid (RZ kZ wr (.slice al m cl) (readersOf (L.take (q + 1)) wt)) := by rw [HNX.out]; exact HZ.out
        have HLM2 : Hid ((readersOf (L.take (q + 1)) wt).length = m) := by rw [HNX.out]; exact HLM.out
        clear h0 hz hcl hq' hnx HZ HLM HNX
        go_wp2_with fail
        go_roundw
        case rel => exact ⟨q + 1, m, by go_num, by omega, ⟨_, _, rfl⟩, HLM2, HB, HZ2, HW⟩
        case measure => simp [intOf]; omega
    · have d1 : decide (q < n) = false := decide_eq_false hlt
      have hqn : q = n := by omega
      subst hqn
      have HT : L.take q = L := List.take_of_length_le (by rw [HN.out]; exact Nat.le_refl _)
      have hle := HLE.out q (Nat.le_refl _)
      rw [HT] at HZ hle
      have HS : Hid (Calls Try.prog 74 #[.slice al m cl] wr (SrtQ wr (readersOf L wt))) := sort74_any HZ.out.rs (by omega)
      have HB2 : Hid (Below w.heap.size w wr) := HBW.out.trans (HB.out.mono HBW.out.size)
      clear HT hle HZ HB HW HLM
      go_wp2_with fail
      refine HS.out.mono ?_
      rintro e w3 ⟨R, hR, v3, rfl, z3, b3, n3⟩
      obtain rfl := HSO.out R hR
      have HQ : Hid (P (.returned v3) w3) := HF.out v3 w3 z3 (HB2.out.trans (b3.mono HB2.out.size)) (fun g hg => Nat.le_trans HB2.out.size (n3 g hg))
      clear z3 b3 n3 hR
      go_wp2
      first | exact HQ.out | (go_ret; exact HQ.out)
end Go.Proofs.Ytongeppdaeekeaa
