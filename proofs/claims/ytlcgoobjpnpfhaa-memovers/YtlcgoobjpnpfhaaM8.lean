/- The walk of the law on cells, differences and what is put in. -/
import Derived.Test.YtlcgoobjpnpfhaaM7
namespace Go.Proofs.Ytlcgoobjpnpfhaa
open Go.RowKit Go.Maps
set_option linter.unusedVariables false

/-- what comes of a memory with cells put in -/
def putL (m : List Int) (C : List (Int × Int)) : List Int := if putE m.length C = 0 then putM m C else []
def GenP (L : List Int) (c : Int) (w : World) (e : Ending) (w' : World) : Prop := ∃ pa pc, e = .returned (.tuple #[.slice pa L.length pc, .int .i64 c]) ∧ GSl w' (.slice pa L.length pc) L ∧ Below w.heap.size w w'
theorem put_gen (m : List Int) (C : List (Int × Int)) (u v : Value) (w : World) (hml : m.length ≤ 100000) (hl : C.length ≤ 100000) (hu : GSl w u m) (hv : PSl w v C) : Calls Try.prog 13 #[u, v] w (GenP (putL m C) (putE m.length C) w) := by
  refine (put_any m C u v w hml hl hu hv).mono ?_
  rintro e w' (⟨h1, rfl, h2⟩ | ⟨h1, rfl, h2, h3⟩)
  · unfold putL
    rw [if_neg h1]
    exact ⟨none, 0, rfl, GSl.nil w', h2⟩
  · unfold putL
    rw [if_pos h1, h1]
    have := GSl.blkAny h2 (by rw [putM_len]; exact hml)
    exact ⟨_, _, by rw [putM_len], this, h3⟩
theorem rput_gen (m : List Int) (C : List (Int × Int)) (u v : Value) (w : World) (hml : m.length ≤ 50000) (hl : C.length ≤ 100000) (hu : GSl w u m) (hv : PSl w v C) : Calls Try.prog 14 #[u, v] w (GenP (putL m C) (putE m.length C) w) := by
  refine (rput_any m C u v w hml hl hu hv).mono ?_
  rintro e w' (⟨h1, rfl, h2⟩ | ⟨h1, oa, oc, rfl, h2, h3⟩)
  · unfold putL
    rw [if_neg h1]
    exact ⟨none, 0, rfl, GSl.nil w', h2⟩
  · unfold putL
    rw [if_pos h1, h1]
    have := h2.gsl
    exact ⟨oa, oc, by rw [putM_len], by rw [putM_len]; exact this, h3⟩
theorem putL_len (m : List Int) (C : List (Int × Int)) : (putL m C).length ≤ m.length := by
  unfold putL
  split
  · rw [putM_len]; exact Nat.le_refl _
  · simp
theorem diffL_len (a b : List Int) : (diffL a b).length ≤ a.length := by
  unfold diffL
  have := diffQ_len a b (min a.length b.length)
  omega
theorem cellsL_len (b : List Int) : (cellsL b).length ≤ b.length := by
  unfold cellsL
  have := diffL_len (zer b.length) b
  simpa [zer] using this
theorem IZ.empty (w : World) : IZ (w.alloc (Obj.cells #[] 2)) w.heap.size (.slice (some ⟨w.heap.size, 0, none⟩) 0 0) [] :=
  ⟨rfl, .inr ⟨w.heap.size, 0, #[], rfl, Nat.le_refl _, heap_alloc_new w _, Nat.le_refl _, by unfold maxLen; omega, rfl, rfl⟩⟩

set_option maxRecDepth 100000 in
set_option maxHeartbeats 4000000 in
theorem cells_walk (A B : List Int) (C : List (Int × Int)) (va vb vc : Value) (w : World) (ha : GSl w va A) (hb : GSl w vb B) (hc : PSl w vc C) : Calls Try.prog 4 #[va, vb, vc] w fun e w' => e = .returned (.bool true) ∧ Below w.heap.size w w' := by
  have ha0 := ha
  have hb0 := hb
  have hc0 := hc
  obtain ⟨a1, c1, _, _, rfl, _⟩ := ha
  obtain ⟨a2, c2, _, _, rfl, _⟩ := hb
  obtain ⟨a3, c3, _, _, rfl, _⟩ := hc
  obtain ⟨N, hN⟩ : ∃ N, A.length = N := ⟨_, rfl⟩
  obtain ⟨M, hM⟩ : ∃ M, B.length = M := ⟨_, rfl⟩
  obtain ⟨K, hK⟩ : ∃ K, C.length = K := ⟨_, rfl⟩
  have HN : Hid (A.length = N) := hN
  have HM : Hid (B.length = M) := hM
  have HK : Hid (C.length = K) := hK
  rw [hN] at ha0 ⊢
  rw [hM] at hb0 ⊢
  rw [hK] at hc0 ⊢
  have HA : Hid (∀ W, Below w.heap.size w W → GSl W (.slice a1 N c1) A) := fun W hW => ha0.below hW
  have HBB : Hid (∀ W, Below w.heap.size w W → GSl W (.slice a2 M c2) B) := fun W hW => hb0.below hW
  have HCC : Hid (∀ W, Below w.heap.size w W → PSl W (.slice a3 K c3) C) := fun W hW => hc0.below hW
  clear hN hM hK ha0 hb0 hc0
  by_cases h1 : 1000 < N
  · have e1 : decide (1000 < (N : Int)) = true := by simp; omega
    go_enter Try.func4, Try.ntmps4
    go_wp2
    go_ret
    exact ⟨rfl, Below.refl _ _⟩
  have e1 : decide (1000 < (N : Int)) = false := by simp; omega
  by_cases h2 : 1000 < M
  · have e2 : decide (1000 < (M : Int)) = true := by simp; omega
    go_enter Try.func4, Try.ntmps4
    go_wp2
    go_ret
    exact ⟨rfl, Below.refl _ _⟩
  have e2 : decide (1000 < (M : Int)) = false := by simp; omega
  by_cases h3 : 300 < K
  · have e3 : decide (300 < (K : Int)) = true := by simp; omega
    go_enter Try.func4, Try.ntmps4
    go_wp2
    go_ret
    exact ⟨rfl, Below.refl _ _⟩
  have e3 : decide (300 < (K : Int)) = false := by simp; omega
  have HI0 : Hid (IZ (w.alloc (Obj.cells #[] 2)) w.heap.size (.slice (some ⟨w.heap.size, 0, none⟩) 0 0) []) := IZ.empty w
  have HB0 : Hid (Below w.heap.size w (w.alloc (Obj.cells #[] 2))) := (Below.refl _ _).alloc (Nat.le_refl _) _
  have HG0 : Hid (GSl (w.alloc (Obj.cells #[] 2)) (.slice a1 N c1) A) := HA.out _ HB0.out
  have HLN : Hid (([] : List Int).length + A.length ≤ 100000) := by show _ ≤ _; rw [HN.out]; simp; omega
  obtain ⟨PL, hPL⟩ : ∃ PL, putL A C = PL := ⟨_, rfl⟩
  obtain ⟨pe, hpe⟩ : ∃ pe, putE A.length C = pe := ⟨_, rfl⟩
  obtain ⟨CL, hCL⟩ : ∃ CL, cellsL A = CL := ⟨_, rfl⟩
  obtain ⟨DL, hDL⟩ : ∃ DL, diffL A B = DL := ⟨_, rfl⟩
  have HPL : Hid (PL.length ≤ 1000) := by show _ ≤ _; rw [← hPL]; have := putL_len A C; rw [HN.out] at this; omega
  have HCL : Hid (CL.length ≤ 1000) := by show _ ≤ _; rw [← hCL]; have := cellsL_len A; rw [HN.out] at this; omega
  have HDL : Hid (DL.length ≤ 1000) := by show _ ≤ _; rw [← hDL]; have := diffL_len A B; rw [HN.out] at this; omega
  have HPUT : Hid (∀ W oa oc, Below w.heap.size w W → GSl W (.slice oa N oc) A → Calls Try.prog 13 #[.slice oa N oc, .slice a3 K c3] W (GenP PL pe W)) := fun W oa oc hW hO => by rw [← hPL, ← hpe]; exact put_gen A C _ _ W (by rw [HN.out]; omega) (by rw [HK.out]; omega) hO (HCC.out W hW)
  have HRPUT : Hid (∀ W, Below w.heap.size w W → Calls Try.prog 14 #[.slice a1 N c1, .slice a3 K c3] W (GenP PL pe W)) := fun W hW => by rw [← hPL, ← hpe]; exact rput_gen A C _ _ W (by rw [HN.out]; omega) (by rw [HK.out]; omega) (HA.out W hW) (HCC.out W hW)
  have HCELL : Hid (∀ W, Below w.heap.size w W → Calls Try.prog 16 #[.slice a1 N c1] W (DiffP CL W)) := fun W hW => by rw [← hCL]; exact cells_any A _ (by rw [HN.out]; omega) W (HA.out W hW)
  have HRCELL : Hid (∀ W, Below w.heap.size w W → Calls Try.prog 17 #[.slice a1 N c1] W (DiffP CL W)) := fun W hW => by rw [← hCL]; exact rcells_any A _ (by rw [HN.out]; omega) W (HA.out W hW)
  have HDIFF : Hid (∀ W, Below w.heap.size w W → Calls Try.prog 18 #[.slice a1 N c1, .slice a2 M c2] W (DiffP DL W)) := fun W hW => by rw [← hDL]; exact diff_any A B _ _ ⟨by rw [HN.out]; omega, by rw [HM.out]; omega⟩ W (HA.out W hW) (HBB.out W hW)
  have HRDIFF : Hid (∀ W, Below w.heap.size w W → Calls Try.prog 19 #[.slice a1 N c1, .slice a2 M c2] W (DiffP DL W)) := fun W hW => by rw [← hDL]; exact rdiff_any A B _ _ ⟨by rw [HN.out]; omega, by rw [HM.out]; omega⟩ W (HA.out W hW) (HBB.out W hW)
  clear hPL hpe hCL hDL
  have g1 : (pe == pe) = true := by simp
  go_enter Try.func4, Try.ntmps4
  go_wp2_with (at_builtin; refine push_ints _ rfl _ _ rfl w.heap.size _ _ [] A rfl rfl HI0.out HG0.out HLN.out HB0.out.size ?_)
  intro v1 w1 hi1 hb1
  have HB1 : Hid (Below w.heap.size w w1) := HB0.out.trans hb1
  obtain ⟨oa, oc, hv1⟩ := hi1.sl
  rw [hv1] at hi1
  rw [hv1]
  first | rw [List.nil_append] at hi1 | skip
  first | rw [List.nil_append] | skip
  rw [HN.out] at hi1 ⊢
  have O1 : Hid (GSl w1 (.slice oa N oc) A) := hi1.gsl
  clear hi1 hb1 hv1
  go_wp2_with fail
  refine (HPUT.out w1 oa oc HB1.out O1.out).mono ?_
  rintro e w2 ⟨pa, pc, rfl, hp2, hb2⟩
  have P2 : Hid (GSl w2 (.slice pa PL.length pc) PL) := hp2
  have O2 : Hid (GSl w2 (.slice oa N oc) A) := O1.out.below hb2
  have HB2 : Hid (Below w.heap.size w w2) := HB1.out.trans (hb2.mono HB1.out.size)
  clear hp2 hb2 O1
  go_wp2_with fail
  refine (HRPUT.out w2 HB2.out).mono ?_
  rintro e w3 ⟨qa, qc, rfl, hq3, hb3⟩
  have Q3 : Hid (GSl w3 (.slice qa PL.length qc) PL) := hq3
  have P3 : Hid (GSl w3 (.slice pa PL.length pc) PL) := P2.out.below hb3
  have O3 : Hid (GSl w3 (.slice oa N oc) A) := O2.out.below hb3
  have HB3 : Hid (Below w.heap.size w w3) := HB2.out.trans (hb3.mono HB2.out.size)
  clear hq3 hb3 O2 P2
  go_wp2_with fail
  refine (HCELL.out w3 HB3.out).mono ?_
  rintro e w4 ⟨ca, cc, rfl, hc4, hb4⟩
  have C4 : Hid (PSl w4 (.slice ca CL.length cc) CL) := hc4.psl
  have Q4 : Hid (GSl w4 (.slice qa PL.length qc) PL) := Q3.out.below hb4
  have P4 : Hid (GSl w4 (.slice pa PL.length pc) PL) := P3.out.below hb4
  have O4 : Hid (GSl w4 (.slice oa N oc) A) := O3.out.below hb4
  have HB4 : Hid (Below w.heap.size w w4) := HB3.out.trans (hb4.mono HB3.out.size)
  clear hc4 hb4 O3 P3 Q3
  go_wp2_with fail
  refine (HRCELL.out w4 HB4.out).mono ?_
  rintro e w5 ⟨da, dc, rfl, hc5, hb5⟩
  have HSM : Hid (Calls Try.prog 15 #[.slice ca CL.length cc, .slice da CL.length dc] w5 fun e w' => e = .returned (.bool true) ∧ Below w5.heap.size w5 w') := same_any CL _ _ (by have := HCL.out; omega) w5 (C4.out.below hb5) hc5.psl
  have Q5 : Hid (GSl w5 (.slice qa PL.length qc) PL) := Q4.out.below hb5
  have P5 : Hid (GSl w5 (.slice pa PL.length pc) PL) := P4.out.below hb5
  have O5 : Hid (GSl w5 (.slice oa N oc) A) := O4.out.below hb5
  have HB5 : Hid (Below w.heap.size w w5) := HB4.out.trans (hb5.mono HB4.out.size)
  clear hc5 hb5 O4 P4 Q4 C4
  go_wp2_with fail
  refine HSM.out.mono ?_
  rintro e w6 ⟨rfl, hb6⟩
  have Q6 : Hid (GSl w6 (.slice qa PL.length qc) PL) := Q5.out.below hb6
  have P6 : Hid (GSl w6 (.slice pa PL.length pc) PL) := P5.out.below hb6
  have O6 : Hid (GSl w6 (.slice oa N oc) A) := O5.out.below hb6
  have HB6 : Hid (Below w.heap.size w w6) := HB5.out.trans (hb6.mono HB5.out.size)
  clear hb6 O5 P5 Q5 HSM
  go_wp2_with fail
  refine (HDIFF.out w6 HB6.out).mono ?_
  rintro e w7 ⟨ea, ec, rfl, hd7, hb7⟩
  have D7 : Hid (PSl w7 (.slice ea DL.length ec) DL) := hd7.psl
  have Q7 : Hid (GSl w7 (.slice qa PL.length qc) PL) := Q6.out.below hb7
  have P7 : Hid (GSl w7 (.slice pa PL.length pc) PL) := P6.out.below hb7
  have O7 : Hid (GSl w7 (.slice oa N oc) A) := O6.out.below hb7
  have HB7 : Hid (Below w.heap.size w w7) := HB6.out.trans (hb7.mono HB6.out.size)
  clear hd7 hb7 O6 P6 Q6
  go_wp2_with fail
  refine (HRDIFF.out w7 HB7.out).mono ?_
  rintro e w8 ⟨fa, fc, rfl, hd8, hb8⟩
  have HSM : Hid (Calls Try.prog 15 #[.slice ea DL.length ec, .slice fa DL.length fc] w8 fun e w' => e = .returned (.bool true) ∧ Below w8.heap.size w8 w') := same_any DL _ _ (by have := HDL.out; omega) w8 (D7.out.below hb8) hd8.psl
  have Q8 : Hid (GSl w8 (.slice qa PL.length qc) PL) := Q7.out.below hb8
  have P8 : Hid (GSl w8 (.slice pa PL.length pc) PL) := P7.out.below hb8
  have O8 : Hid (GSl w8 (.slice oa N oc) A) := O7.out.below hb8
  have HB8 : Hid (Below w.heap.size w w8) := HB7.out.trans (hb8.mono HB7.out.size)
  clear hd8 hb8 O7 P7 Q7 D7
  go_wp2_with fail
  refine HSM.out.mono ?_
  rintro e w9 ⟨rfl, hb9⟩
  have HRW : Hid (Calls Try.prog 11 #[.slice pa PL.length pc, .slice qa PL.length qc] w9 fun e w' => e = .returned (.bool true) ∧ Below w9.heap.size w9 w') := row_same PL _ _ (by have := HPL.out; omega) w9 (P8.out.below hb9) (Q8.out.below hb9)
  have O9 : Hid (GSl w9 (.slice oa N oc) A) := O8.out.below hb9
  have HB9 : Hid (Below w.heap.size w w9) := HB8.out.trans (hb9.mono HB8.out.size)
  clear hb9 O8 P8 Q8 HSM
  go_wp2_with fail
  refine HRW.out.mono ?_
  rintro e w10 ⟨rfl, hb10⟩
  have HRW2 : Hid (Calls Try.prog 11 #[.slice oa N oc, .slice a1 N c1] w10 fun e w' => e = .returned (.bool true) ∧ Below w10.heap.size w10 w') := row_same A _ _ (by rw [HN.out]; omega) w10 (O9.out.below hb10) (HA.out w10 (HB9.out.trans (hb10.mono HB9.out.size)))
  have HB10 : Hid (Below w.heap.size w w10) := HB9.out.trans (hb10.mono HB9.out.size)
  clear hb10 O9 HRW
  go_wp2_with fail
  refine HRW2.out.mono ?_
  rintro e w11 ⟨rfl, hb11⟩
  have HB11 : Hid (Below w.heap.size w w11) := HB10.out.trans (hb11.mono HB10.out.size)
  clear hb11 HRW2
  go_wp2_with fail
  refine (malive_any w11).mono ?_
  rintro e wz ⟨rfl, bz⟩
  have BZ : Hid (Below w.heap.size w wz) := HB11.out.trans (bz.mono HB11.out.size)
  clear bz
  go_wp2
  go_ret
  exact ⟨rfl, BZ.out⟩
end Go.Proofs.Ytlcgoobjpnpfhaa
