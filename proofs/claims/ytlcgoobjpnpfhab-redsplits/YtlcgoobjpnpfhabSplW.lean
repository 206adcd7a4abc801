/- The walk of the law on two heaps and one. -/
import Derived.Test.YtlcgoobjpnpfhabSpl3
namespace Go.Proofs.Ytlcgoobjpnpfhab
open Go.RowKit Go.Maps
set_option linter.unusedVariables false

theorem onto_ok {hb bo bn : Nat} {ops now : List Int} {many : Int} (A : List Int) (v : Value) (N : Nat) (hN : ops.length = N) (hA : A.length = ops.length) (w : World) (h : HP w hb bo bn ops now many) (hv : GSl w v A) :
    Calls Try.prog 23 #[.pointer (some ⟨hb, 0, none⟩), v] w fun e w' => e = .returned (.tuple #[.slice (some ⟨w.heap.size, 0, none⟩) N N, .bool true]) ∧ GSl w' (.slice (some ⟨w.heap.size, 0, none⟩) N N) (ontoL ops A now) ∧ Below w.heap.size w w' := by
  subst hN
  refine (onto_any A v w h hv).mono ?_
  rintro e w' (⟨h1, _⟩ | ⟨h1, rfl, h2, h3⟩)
  · exact absurd hA h1
  · have := GSl.blk h2 (by rw [ontoL_len]; have := h.short; omega)
    rw [ontoL_len] at this
    exact ⟨rfl, this, h3⟩

set_option maxRecDepth 100000 in
set_option maxHeartbeats 8000000 in
theorem splits_walk (R L : List (Int × Int)) (X : List Bool) (vr vl vx : Value) (w : World) (hr : PSl w vr R) (hl : PSl w vl L) (hx : BSl w vx X) : Calls Try.prog 6 #[vr, vl, vx] w fun e w' => e = .returned (.bool true) ∧ Below w.heap.size w w' := by
  have HR : Hid (PSl w vr R) := hr
  have HL : Hid (PSl w vl L) := hl
  obtain ⟨ra, rc, rb, ro, rfl, r2, r3, r4, r5⟩ := hr
  obtain ⟨la, lc, lb, lo, rfl, l2, l3, l4, l5⟩ := hl
  obtain ⟨xa, xc, xb, xo, rfl, x2, x3, x4, x5⟩ := hx
  have HR4 : Hid (0 < R.length → ra = some ⟨rb, ro, none⟩) := r4
  have HR5 : Hid (∀ i (h : i < R.length), w.cell? ⟨rb, ro + i * 2, none⟩ = some (.int .i64 R[i].1) ∧ w.cell? ⟨rb, ro + (i * 2 + 1), none⟩ = some (.int .i64 R[i].2)) := r5
  have HL4 : Hid (0 < L.length → la = some ⟨lb, lo, none⟩) := l4
  have HL5 : Hid (∀ i (h : i < L.length), w.cell? ⟨lb, lo + i * 2, none⟩ = some (.int .i64 L[i].1) ∧ w.cell? ⟨lb, lo + (i * 2 + 1), none⟩ = some (.int .i64 L[i].2)) := l5
  have HX4 : Hid (0 < X.length → xa = some ⟨xb, xo, none⟩) := x4
  have HX5 : Hid (∀ i (h : i < X.length), w.cell? ⟨xb, xo + i, none⟩ = some (.bool X[i])) := x5
  obtain ⟨N, hN⟩ : ∃ N, R.length = N := ⟨_, rfl⟩
  have HN : Hid (R.length = N) := hN
  obtain ⟨M, hM⟩ : ∃ M, L.length = M := ⟨_, rfl⟩
  have HM : Hid (L.length = M) := hM
  obtain ⟨K, hK⟩ : ∃ K, X.length = K := ⟨_, rfl⟩
  have HK : Hid (X.length = K) := hK
  rw [hN] at HR r2
  rw [hM] at HL l2
  rw [hN, hM, hK]
  rw [hK] at x2
  unfold maxLen at r3 l3 x3
  clear r4 r5 l4 l5 x4 x5 hN hM hK
  by_cases h1 : 200 < M
  · have e1 : decide (200 < (M : Int)) = true := by simp; omega
    go_enter Try.func6, Try.ntmps6
    go_wp2
    go_ret
    exact ⟨rfl, Below.refl _ _⟩
  have e1 : decide (200 < (M : Int)) = false := by simp; omega
  by_cases h2 : 100 < N
  · have e2 : decide (100 < (N : Int)) = true := by simp; omega
    go_enter Try.func6, Try.ntmps6
    go_wp2
    go_ret
    exact ⟨rfl, Below.refl _ _⟩
  have e2 : decide (100 < (N : Int)) = false := by simp; omega
  by_cases h3 : newC R = 0
  · have HNEW : Hid (∀ W, Below w.heap.size w W → Calls Try.prog 13 #[.slice ra N rc] W (NewQ R W)) := fun W hb => new_ok R _ W (HR.out.below hb) h3
    have HZ : Hid (R.length ≤ 4 ∧ ∀ x ∈ R.map Prod.fst, rightB x = true) := newC_zero h3
    have hN4 : N ≤ 4 := by have := HZ.out.1; rw [HN.out] at this; exact this
    clear h3
    go_enter Try.func6, Try.ntmps6
    go_wp2_with fail
    refine (HNEW.out w (Below.refl _ _)).mono ?_
    rintro e w1 ⟨a1, a2, a3, rfl, ha1, ia1, hb1⟩
    have HA1 : Hid (HP w1 a1 a2 a3 (R.map Prod.fst) ((R.map Prod.fst).map zeroI) 0) := ha1
    have IA1 : Hid (within3 w.heap.size w1.heap.size a1 a2 a3) := ia1
    have HB1 : Hid (Below w.heap.size w w1) := hb1
    clear ha1 ia1 hb1
    go_wp2_with fail
    refine (HNEW.out w1 HB1.out).mono ?_
    rintro e w2 ⟨b1, b2, b3, rfl, ha2, ia2, hb2⟩
    have HA2 : Hid (HP w2 b1 b2 b3 (R.map Prod.fst) ((R.map Prod.fst).map zeroI) 0) := ha2
    have IA2 : Hid (within3 w1.heap.size w2.heap.size b1 b2 b3) := ia2
    have HB2 : Hid (Below w1.heap.size w1 w2) := hb2
    clear ha2 ia2 hb2
    go_wp2_with fail
    refine (HNEW.out w2 (HB1.out.trans (HB2.out.mono HB1.out.size))).mono ?_
    rintro e w3 ⟨c1, c2, c3, rfl, ha3, ia3, hb3⟩
    have HB3 : Hid (Below w.heap.size w w3) := (HB1.out.trans (HB2.out.mono HB1.out.size)).trans (hb3.mono (Nat.le_trans HB1.out.size HB2.out.size))
    have H0 : Hid (H3 w.heap.size w1.heap.size w2.heap.size w3.heap.size a1 a2 a3 b1 b2 b3 c1 c2 c3 w3 (R.map Prod.fst) ((R.map Prod.fst).map zeroI) ((R.map Prod.fst).map zeroI) ((R.map Prod.fst).map zeroI) 0 0 0) :=
      ⟨(HA1.out.below HB2.out).below (hb3.mono (Nat.le_refl _)), HA2.out.below hb3, ha3, IA1.out, IA2.out, ia3, HB1.out.size, HB2.out.size, hb3.size⟩
    clear ha3 ia3 hb3 HA1 HA2 IA1 IA2 HB1 HB2 HNEW
    obtain ⟨S1, hS1⟩ : ∃ S1, w1.heap.size = S1 := ⟨_, rfl⟩
    obtain ⟨S2, hS2⟩ : ∃ S2, w2.heap.size = S2 := ⟨_, rfl⟩
    obtain ⟨S3, hS3⟩ : ∃ S3, w3.heap.size = S3 := ⟨_, rfl⟩
    rw [hS1, hS2, hS3] at H0
    have HS3 : Hid (w3.heap.size = S3) := hS3
    clear hS1 hS2 hS3
    have HIV : Hid (Inv (R.map Prod.fst) ((R.map Prod.fst).map zeroI) ((R.map Prod.fst).map zeroI) ((R.map Prod.fst).map zeroI)) := Inv.start _ HZ.out.2
    go_wp2_with fail
    go_loopw [13, 14] (fun av i wr => ∃ (q : Nat) (oa : Option Addr) (oc : Nat), i = .int .i64 (q : Int) ∧ av = .slice oa q oc ∧ q ≤ N ∧ Hid (IZ wr S3 (.slice oa q oc) ((R.map Prod.snd).take q)) ∧ Hid (Below S3 w3 wr)) (fun _ i _ => N - (intOf i).toNat)
    case atStart => exact ⟨0, none, 0, rfl, rfl, Nat.zero_le _, IZ.nil _ _, Below.refl _ _⟩
    case round =>
      obtain ⟨q, oa, oc, rfl, rfl, hq, HI, HB⟩ := hrel
      by_cases hlt : q < N
      · have q1 : q < R.length := by rw [HN.out]; exact hlt
        obtain rfl := HR4.out (by omega)
        obtain ⟨z, hz⟩ : ∃ z, R[q] = z := ⟨_, rfl⟩
        obtain ⟨x, y⟩ := z
        have HBB : Hid (Below w.heap.size w wr) := HB3.out.trans (HB.out.mono (by rw [← HS3.out]; exact HB3.out.size))
        have d1 : wr.cell? ⟨rb, ro + (q * 2 + 1), none⟩ = some (.int .i64 y) := by
          have := (HR5.out q q1).2
          rw [hz] at this
          exact (HBB.out.cell (p := ⟨rb, ro + (q * 2 + 1), none⟩) (World.block_lt_of_cell? w _ this)).trans this
        have d2 : wr.cell? ⟨rb, ro + q * 2 + 1, none⟩ = some (.int .i64 y) := d1
        have e3 : decide ((q : Int) < (N : Int)) = true := by simp; omega
        have HIA : Hid (IZ (wr.alloc (Obj.cells #[Value.int .i64 y] 2)) S3 (.slice oa q oc) ((R.map Prod.snd).take q)) := HI.out.below ((Below.refl _ _).alloc (Nat.le_refl _) _)
        have HTK : Hid ((R.map Prod.snd).take q ++ [y] = (R.map Prod.snd).take (q + 1)) := by
          show _ = _
          rw [List.take_succ_eq_append_getElem (by simpa using q1)]
          simp [hz]
        have HTL : Hid (((R.map Prod.snd).take q).length = q) := by show _ = _; simp; omega
        have HSW : Hid (S3 ≤ wr.heap.size) := by have := HB.out.size; rw [HS3.out] at this; exact this
        have HCL : Hid ((wr.alloc (Obj.cells #[Value.int .i64 y] 2)).cell? ⟨wr.heap.size, 0, none⟩ = some (.int .i64 y)) := by show _ = _; simp
        have HBA : Hid (Below S3 w3 (wr.alloc (Obj.cells #[Value.int .i64 y] 2))) := HB.out.alloc HSW.out _
        clear hz
        go_wp2_with (at_builtin; refine push_int _ rfl _ _ rfl S3 _ ((R.map Prod.snd).take q) y rfl HIA.out wr.heap.size rfl HCL.out ?c1 ?c2 ?_)
        case c1 => have := HTL.out; simp at *; omega
        case c2 => have := HSW.out; first | exact this | (simp; omega)
        intro v' w' hi' hb'
        rw [HTK.out] at hi'
        obtain ⟨oa', oc', rfl⟩ := hi'.sl
        have e9 : ((R.map Prod.snd).take (q + 1)).length = q + 1 := by simp; omega
        rw [e9] at hi' ⊢
        have HI2 : Hid (IZ w' S3 (.slice oa' (q + 1) oc') ((R.map Prod.snd).take (q + 1))) := hi'
        have HB2 : Hid (Below S3 w3 w') := HBA.out.trans hb'
        clear hi' hb' e9
        go_wp2_with fail
        go_roundw
        case rel => exact ⟨q + 1, oa', oc', by go_num, rfl, by omega, HI2, HB2⟩
        case measure => simp [intOf]; omega
      · have hqN : q = N := by omega
        subst hqN
        have e3 : decide ((q : Int) < (q : Int)) = false := by simp
        have HIW : Hid (IZ wr S3 (.slice oa q oc) (R.map Prod.snd)) := by
          have := HI.out
          rw [List.take_of_length_le (by simp [HN.out])] at this
          exact this
        have HBB : Hid (Below w.heap.size w wr) := HB3.out.trans (HB.out.mono (by rw [← HS3.out]; exact HB3.out.size))
        have HH : Hid (H3 w.heap.size S1 S2 S3 a1 a2 a3 b1 b2 b3 c1 c2 c3 wr (R.map Prod.fst) ((R.map Prod.fst).map zeroI) ((R.map Prod.fst).map zeroI) ((R.map Prod.fst).map zeroI) 0 0 0) := H0.out.below (by rw [HS3.out]; exact HB.out)
        have HSW : Hid (S3 ≤ wr.heap.size) := by have := HB.out.size; rw [HS3.out] at this; exact this
        clear HI H0 HB3 HB hq hlt
        rename World => W4
        go_wp2_with fail
        go_loopw [15] (fun i wr => ∃ (p : Nat) (na nb nc : List Int) (ma mb mc : Int), i = .int .i64 (p : Int) ∧ p ≤ M ∧ Hid (H3 w.heap.size S1 S2 S3 a1 a2 a3 b1 b2 b3 c1 c2 c3 wr (R.map Prod.fst) na nb nc ma mb mc) ∧ Hid (Inv (R.map Prod.fst) na nb nc) ∧ Hid (0 ≤ ma ∧ 0 ≤ mb ∧ mc = ma + mb ∧ mc ≤ p) ∧ Hid (Below w.heap.size w wr) ∧ Hid (IZ wr S3 (.slice oa q oc) (R.map Prod.snd)) ∧ Hid (S3 ≤ wr.heap.size)) (fun i _ => M - (intOf i).toNat)
        case atStart => exact ⟨0, _, _, _, 0, 0, 0, rfl, Nat.zero_le _, HH, HIV, ⟨by omega, by omega, by omega, by omega⟩, HBB, HIW, HSW⟩
        case round =>
          clear HIV HIW HBB HH HSW
          obtain ⟨p, na, nb, nc, ma, mb, mc, rfl, hp, HH, HIV, HMM, HBB, HIW, HSW⟩ := hrel
          by_cases hlt : p < M
          · have p1 : p < L.length := by rw [HM.out]; exact hlt
            obtain rfl := HL4.out (by omega)
            obtain ⟨z, hz⟩ : ∃ z, L[p] = z := ⟨_, rfl⟩
            obtain ⟨x, y⟩ := z
            have HCL : Hid (∀ W, Below w.heap.size w W → W.cell? ⟨lb, lo + p * 2, none⟩ = some (.int .i64 x) ∧ W.cell? ⟨lb, lo + (p * 2 + 1), none⟩ = some (.int .i64 y)) := by
              intro W hW
              have := HL5.out p p1
              rw [hz] at this
              exact ⟨(hW.cell (p := ⟨lb, lo + p * 2, none⟩) (World.block_lt_of_cell? w _ this.1)).trans this.1, (hW.cell (p := ⟨lb, lo + (p * 2 + 1), none⟩) (World.block_lt_of_cell? w _ this.2)).trans this.2⟩
            obtain ⟨d1, d2⟩ := HCL.out _ HBB.out
            have d3 : wr.cell? ⟨lb, lo + p * 2 + 1, none⟩ = some (.int .i64 y) := d2
            have HHD : Hid (H3 w.heap.size S1 S2 S3 a1 a2 a3 b1 b2 b3 c1 c2 c3 wr.drew (R.map Prod.fst) na nb nc ma mb mc) := HH.out.below (Below.refl _ _).drew
            have HBD : Hid (Below w.heap.size w wr.drew) := HBB.out.drew
            have HID : Hid (IZ wr.drew S3 (.slice oa q oc) (R.map Prod.snd)) := HIW.out.keep (fun _ _ _ => rfl)
            have e4 : decide ((p : Int) < (M : Int)) = true := by simp; omega
            clear hz
            go_wp2_with fail
            refine wp_region_still_tail 11 (by kernel_rfl) (by kernel_rfl) ?_
            simp only [List.take_succ_cons, List.take_zero, List.drop_succ_cons, List.drop_zero]
            repeat still_step
            refine wpStill_nil ?_
            go_wp2_with fail
            refine (HHD.out.addC x y ?m1).mono ?_
            case m1 => have := HMM.out; omega
            rintro e w5 ⟨rfl, h5, c5⟩
            have H5D : Hid (H3 w.heap.size S1 S2 S3 a1 a2 a3 b1 b2 b3 c1 c2 c3 w5.drew (R.map Prod.fst) na nb (addL (R.map Prod.fst) nc x y) ma mb (addM (R.map Prod.fst).length mc x)) := h5.below (Below.refl _ _).drew
            have HB5 : Hid (Below w.heap.size w w5) := HBD.out.trans (c5.below HBD.out.size (fun k hk => hk.1))
            have HB5D : Hid (Below w.heap.size w w5.drew) := HB5.out.drew
            have HI5D : Hid (IZ w5.drew S3 (.slice oa q oc) (R.map Prod.snd)) := HID.out.keep (fun k hk hlt => c5.block k hlt (fun h => by have := h.2; omega))
            have HS5D : Hid (S3 ≤ w5.drew.heap.size) := Nat.le_trans HSW.out c5.size
            clear h5 c5 d1 d2 d3
            obtain ⟨d1, d2⟩ := HCL.out _ HB5.out
            have d3 : w5.cell? ⟨lb, lo + p * 2 + 1, none⟩ = some (.int .i64 y) := d2
            by_cases hk : p < K
            · have e5 : decide ((p : Int) < (K : Int)) = true := by simp; omega
              obtain rfl := HX4.out (by rw [HK.out]; omega)
              obtain ⟨t, ht⟩ : ∃ t, X[p]'(by rw [HK.out]; exact hk) = t := ⟨_, rfl⟩
              have d4 : w5.cell? ⟨xb, xo + p, none⟩ = some (.bool t) := by
                have := HX5.out p (by rw [HK.out]; exact hk)
                rw [ht] at this
                exact (HB5.out.cell (p := ⟨xb, xo + p, none⟩) (World.block_lt_of_cell? w _ this)).trans this
              clear ht
              cases t
              · go_wp2_with fail
                refine wp_region_still_tail 11 (by kernel_rfl) (by kernel_rfl) ?_
                simp only [List.take_succ_cons, List.take_zero, List.drop_succ_cons, List.drop_zero]
                repeat still_step
                refine wpStill_nil ?_
                go_wp2_with fail
                refine (H5D.out.addA x y ?mA).mono ?_
                case mA => have := HMM.out; omega
                rintro e w6 ⟨rfl, h6, c6⟩
                have H6 : Hid (H3 w.heap.size S1 S2 S3 a1 a2 a3 b1 b2 b3 c1 c2 c3 w6 (R.map Prod.fst) (addL (R.map Prod.fst) na x y) nb (addL (R.map Prod.fst) nc x y) (addM (R.map Prod.fst).length ma x) mb (addM (R.map Prod.fst).length mc x)) := h6
                have HIV6 : Hid (Inv (R.map Prod.fst) (addL (R.map Prod.fst) na x y) nb (addL (R.map Prod.fst) nc x y)) := HIV.out.left x y
                have HMM6 : Hid (0 ≤ addM (R.map Prod.fst).length ma x ∧ 0 ≤ mb ∧ addM (R.map Prod.fst).length mc x = addM (R.map Prod.fst).length ma x + mb ∧ addM (R.map Prod.fst).length mc x ≤ ((p + 1 : Nat) : Int)) := by
                  obtain ⟨m1, m2, m3, m4⟩ := HMM.out
                  rw [addM_is _ ma x (by omega), addM_is _ mc x (by omega)]
                  refine ⟨?_, ?_, ?_, ?_⟩
                  all_goals first | omega | (split <;> omega)
                have HB6 : Hid (Below w.heap.size w w6) := HB5D.out.trans (c6.below HB5D.out.size (fun k hk => hk.1))
                have HI6 : Hid (IZ w6 S3 (.slice oa q oc) (R.map Prod.snd)) := HI5D.out.keep (fun k hk hlt => c6.block k hlt (fun h => by have := h.2; omega))
                have HS6 : Hid (S3 ≤ w6.heap.size) := Nat.le_trans HS5D.out c6.size
                clear h6 c6
                go_wp2_with fail
                go_roundw
                case rel => exact ⟨p + 1, _, _, _, _, _, _, by go_num, by omega, H6, HIV6, HMM6, HB6, HI6, HS6⟩
                case measure => simp [intOf]; omega
              · go_wp2_with fail
                refine wp_region_still_tail 11 (by kernel_rfl) (by kernel_rfl) ?_
                simp only [List.take_succ_cons, List.take_zero, List.drop_succ_cons, List.drop_zero]
                repeat still_step
                refine wpStill_nil ?_
                go_wp2_with fail
                refine (H5D.out.addB x y ?mB).mono ?_
                case mB => have := HMM.out; omega
                rintro e w6 ⟨rfl, h6, c6⟩
                have H6 : Hid (H3 w.heap.size S1 S2 S3 a1 a2 a3 b1 b2 b3 c1 c2 c3 w6 (R.map Prod.fst) na (addL (R.map Prod.fst) nb x y) (addL (R.map Prod.fst) nc x y) ma (addM (R.map Prod.fst).length mb x) (addM (R.map Prod.fst).length mc x)) := h6
                have HIV6 : Hid (Inv (R.map Prod.fst) na (addL (R.map Prod.fst) nb x y) (addL (R.map Prod.fst) nc x y)) := HIV.out.right x y
                have HMM6 : Hid (0 ≤ ma ∧ 0 ≤ addM (R.map Prod.fst).length mb x ∧ addM (R.map Prod.fst).length mc x = ma + addM (R.map Prod.fst).length mb x ∧ addM (R.map Prod.fst).length mc x ≤ ((p + 1 : Nat) : Int)) := by
                  obtain ⟨m1, m2, m3, m4⟩ := HMM.out
                  rw [addM_is _ mb x (by omega), addM_is _ mc x (by omega)]
                  refine ⟨?_, ?_, ?_, ?_⟩
                  all_goals first | omega | (split <;> omega)
                have HB6 : Hid (Below w.heap.size w w6) := HB5D.out.trans (c6.below HB5D.out.size (fun k hk => hk.1))
                have HI6 : Hid (IZ w6 S3 (.slice oa q oc) (R.map Prod.snd)) := HI5D.out.keep (fun k hk hlt => c6.block k hlt (fun h => by have := h.2; omega))
                have HS6 : Hid (S3 ≤ w6.heap.size) := Nat.le_trans HS5D.out c6.size
                clear h6 c6
                go_wp2_with fail
                go_roundw
                case rel => exact ⟨p + 1, _, _, _, _, _, _, by go_num, by omega, H6, HIV6, HMM6, HB6, HI6, HS6⟩
                case measure => simp [intOf]; omega
            · have e5 : decide ((p : Int) < (K : Int)) = false := by simp; omega
              go_wp2_with fail
              refine wp_region_still_tail 11 (by kernel_rfl) (by kernel_rfl) ?_
              simp only [List.take_succ_cons, List.take_zero, List.drop_succ_cons, List.drop_zero]
              repeat still_step
              refine wpStill_nil ?_
              go_wp2_with fail
              refine (H5D.out.addA x y ?mA).mono ?_
              case mA => have := HMM.out; omega
              rintro e w6 ⟨rfl, h6, c6⟩
              have H6 : Hid (H3 w.heap.size S1 S2 S3 a1 a2 a3 b1 b2 b3 c1 c2 c3 w6 (R.map Prod.fst) (addL (R.map Prod.fst) na x y) nb (addL (R.map Prod.fst) nc x y) (addM (R.map Prod.fst).length ma x) mb (addM (R.map Prod.fst).length mc x)) := h6
              have HIV6 : Hid (Inv (R.map Prod.fst) (addL (R.map Prod.fst) na x y) nb (addL (R.map Prod.fst) nc x y)) := HIV.out.left x y
              have HMM6 : Hid (0 ≤ addM (R.map Prod.fst).length ma x ∧ 0 ≤ mb ∧ addM (R.map Prod.fst).length mc x = addM (R.map Prod.fst).length ma x + mb ∧ addM (R.map Prod.fst).length mc x ≤ ((p + 1 : Nat) : Int)) := by
                obtain ⟨m1, m2, m3, m4⟩ := HMM.out
                rw [addM_is _ ma x (by omega), addM_is _ mc x (by omega)]
                refine ⟨?_, ?_, ?_, ?_⟩
                all_goals first | omega | (split <;> omega)
              have HB6 : Hid (Below w.heap.size w w6) := HB5D.out.trans (c6.below HB5D.out.size (fun k hk => hk.1))
              have HI6 : Hid (IZ w6 S3 (.slice oa q oc) (R.map Prod.snd)) := HI5D.out.keep (fun k hk hlt => c6.block k hlt (fun h => by have := h.2; omega))
              have HS6 : Hid (S3 ≤ w6.heap.size) := Nat.le_trans HS5D.out c6.size
              clear h6 c6
              go_wp2_with fail
              go_roundw
              case rel => exact ⟨p + 1, _, _, _, _, _, _, by go_num, by omega, H6, HIV6, HMM6, HB6, HI6, HS6⟩
              case measure => simp [intOf]; omega
          · have hpM : p = M := by omega
            subst hpM
            have e4 : decide ((p : Int) < (p : Int)) = false := by simp
            obtain ⟨m1, m2, m3, m4⟩ := HMM.out
            have hfl : Hid ((R.map Prod.fst).length = q) := by show _ = _; rw [List.length_map]; exact HN.out
            have hsl : Hid ((R.map Prod.snd).length = (R.map Prod.fst).length) := by show _ = _; simp
            have HO1 : Hid (Calls Try.prog 23 #[.pointer (some ⟨c1, 0, none⟩), .slice oa q oc] wr fun e w' => e = .returned (.tuple #[.slice (some ⟨wr.heap.size, 0, none⟩) q q, .bool true]) ∧ GSl w' (.slice (some ⟨wr.heap.size, 0, none⟩) q q) (ontoL (R.map Prod.fst) (R.map Prod.snd) nc) ∧ Below wr.heap.size wr w') := onto_ok _ _ q hfl.out hsl.out wr HH.out.hc HIW.out.gsl
            clear HMM
            go_wp2_with fail
            refine HO1.out.mono ?_
            rintro e w5 ⟨rfl, g5, k5⟩
            have G5 : Hid (GSl w5 (.slice (some ⟨wr.heap.size, 0, none⟩) q q) (ontoL (R.map Prod.fst) (R.map Prod.snd) nc)) := g5
            have H5 : Hid (H3 w.heap.size S1 S2 S3 a1 a2 a3 b1 b2 b3 c1 c2 c3 w5 (R.map Prod.fst) na nb nc ma mb mc) := HH.out.below k5
            have B5 : Hid (Below w.heap.size w w5) := HBB.out.trans (k5.mono HBB.out.size)
            have I5 : Hid (IZ w5 S3 (.slice oa q oc) (R.map Prod.snd)) := HIW.out.below k5
            clear g5 k5 HO1 HH
            have HO2 : Hid (Calls Try.prog 23 #[.pointer (some ⟨b1, 0, none⟩), .slice oa q oc] w5 fun e w' => e = .returned (.tuple #[.slice (some ⟨w5.heap.size, 0, none⟩) q q, .bool true]) ∧ GSl w' (.slice (some ⟨w5.heap.size, 0, none⟩) q q) (ontoL (R.map Prod.fst) (R.map Prod.snd) nb) ∧ Below w5.heap.size w5 w') := onto_ok _ _ q hfl.out hsl.out w5 H5.out.hb I5.out.gsl
            go_wp2_with fail
            refine HO2.out.mono ?_
            rintro e w6 ⟨rfl, g6, k6⟩
            have G6 : Hid (GSl w6 (.slice (some ⟨w5.heap.size, 0, none⟩) q q) (ontoL (R.map Prod.fst) (R.map Prod.snd) nb)) := g6
            have G56 : Hid (GSl w6 (.slice (some ⟨wr.heap.size, 0, none⟩) q q) (ontoL (R.map Prod.fst) (R.map Prod.snd) nc)) := G5.out.below k6
            have H6 : Hid (H3 w.heap.size S1 S2 S3 a1 a2 a3 b1 b2 b3 c1 c2 c3 w6 (R.map Prod.fst) na nb nc ma mb mc) := H5.out.below k6
            have B6 : Hid (Below w.heap.size w w6) := B5.out.trans (k6.mono B5.out.size)
            clear g6 k6 HO2 H5 G5 B5 I5
            have HO3 : Hid (Calls Try.prog 23 #[.pointer (some ⟨a1, 0, none⟩), .slice (some ⟨w5.heap.size, 0, none⟩) q q] w6 fun e w' => e = .returned (.tuple #[.slice (some ⟨w6.heap.size, 0, none⟩) q q, .bool true]) ∧ GSl w' (.slice (some ⟨w6.heap.size, 0, none⟩) q q) (ontoL (R.map Prod.fst) (ontoL (R.map Prod.fst) (R.map Prod.snd) nb) na) ∧ Below w6.heap.size w6 w') := onto_ok _ _ q hfl.out (ontoL_len _ _ _) w6 H6.out.ha G6.out
            go_wp2_with fail
            refine HO3.out.mono ?_
            rintro e w7 ⟨rfl, g7, k7⟩
            have HRW : Hid (Calls Try.prog 20 #[.slice (some ⟨wr.heap.size, 0, none⟩) q q, .slice (some ⟨w6.heap.size, 0, none⟩) q q] w7 fun e w' => e = .returned (.bool true) ∧ Below w7.heap.size w7 w') := by
              rw [← HIV.out.onto (R.map Prod.snd)] at g7
              exact row_same _ _ _ (by rw [ontoL_len, hfl.out]; omega) w7 (G56.out.below k7) g7
            have H7 : Hid (H3 w.heap.size S1 S2 S3 a1 a2 a3 b1 b2 b3 c1 c2 c3 w7 (R.map Prod.fst) na nb nc ma mb mc) := H6.out.below k7
            have B7 : Hid (Below w.heap.size w w7) := B6.out.trans (k7.mono B6.out.size)
            clear g7 k7 HO3 H6 G6 G56 B6
            go_wp2_with fail
            refine HRW.out.mono ?_
            rintro e w8 ⟨rfl, k8⟩
            have H8 : Hid (H3 w.heap.size S1 S2 S3 a1 a2 a3 b1 b2 b3 c1 c2 c3 w8 (R.map Prod.fst) na nb nc ma mb mc) := H7.out.below k8
            have B8 : Hid (Below w.heap.size w w8) := B7.out.trans (k8.mono B7.out.size)
            clear k8 HRW H7 B7
            have HLa : Hid (Calls Try.prog 22 #[.pointer (some ⟨a1, 0, none⟩)] w8 fun e w' => e = .returned (.int .i64 ma) ∧ w' = w8) := len_any w8 H8.out.ha
            have HLb : Hid (Calls Try.prog 22 #[.pointer (some ⟨b1, 0, none⟩)] w8 fun e w' => e = .returned (.int .i64 mb) ∧ w' = w8) := len_any w8 H8.out.hb
            have HLc : Hid (Calls Try.prog 22 #[.pointer (some ⟨c1, 0, none⟩)] w8 fun e w' => e = .returned (.int .i64 mc) ∧ w' = w8) := len_any w8 H8.out.hc
            have n1 : ma ≤ 200 := by omega
            have n2 : mb ≤ 200 := by omega
            have u2 : (ma + mb == mc) = true := by rw [m3]; simp
            clear m3 m4
            go_wp2_with fail
            refine HLa.out.mono ?_
            rintro e w9 ⟨rfl, hw9⟩
            rw [hw9]
            clear hw9 w9
            go_wp2_with fail
            refine HLb.out.mono ?_
            rintro e w9 ⟨rfl, hw9⟩
            rw [hw9]
            clear hw9 w9
            go_wp2_with fail
            refine HLc.out.mono ?_
            rintro e w9 ⟨rfl, hw9⟩
            rw [hw9]
            clear hw9 w9
            go_wp2_with fail
            refine (alive_any w8).mono ?_
            rintro e wz ⟨rfl, bz⟩
            have BZ : Hid (Below w.heap.size w wz) := B8.out.trans (bz.mono B8.out.size)
            clear bz
            go_wp2
            go_ret
            exact ⟨rfl, BZ.out⟩
  · have HBAD : Hid (∀ W, Below w.heap.size w W → Calls Try.prog 13 #[.slice ra N rc] W fun e w' => e = .returned (.tuple #[.pointer none, .int .i64 (newC R)]) ∧ Below W.heap.size W w') := fun W hb => new_bad R _ W (HR.out.below hb) h3
    obtain ⟨c, hc⟩ : ∃ c, newC R = c := ⟨_, rfl⟩
    rw [hc] at HBAD h3
    have hc0 : (c != 0) = true := by simpa using h3
    clear hc
    go_enter Try.func6, Try.ntmps6
    go_wp2_with fail
    refine (HBAD.out w (Below.refl _ _)).mono ?_
    rintro e w1 ⟨rfl, hb1⟩
    have HB1 : Hid (Below w.heap.size w w1) := hb1
    clear hb1
    go_wp2_with fail
    refine (HBAD.out w1 HB1.out).mono ?_
    rintro e w2 ⟨rfl, hb2⟩
    have HB2 : Hid (Below w.heap.size w w2) := HB1.out.trans (hb2.mono HB1.out.size)
    clear hb2
    go_wp2_with fail
    refine (HBAD.out w2 HB2.out).mono ?_
    rintro e w3 ⟨rfl, hb3⟩
    have HB3 : Hid (Below w.heap.size w w3) := HB2.out.trans (hb3.mono HB2.out.size)
    clear hb3
    go_wp2_with fail
    refine (alive_any w3).mono ?_
    rintro e w5 ⟨rfl, b5⟩
    have B5 : Hid (Below w.heap.size w w5) := HB3.out.trans (b5.mono HB3.out.size)
    clear b5
    go_wp2
    go_ret
    exact ⟨rfl, B5.out⟩
end Go.Proofs.Ytlcgoobjpnpfhab
