/- A row of numbers in order, each once. -/
import Derived.Test.YtongeppdaeekeaaGfD
import Derived.Test.YtongeppdaeekeaaGpP
import Derived.BigQuiet
namespace Go.Proofs.Ytongeppdaeekeaa
open Go.RowKit Go.Maps
set_option linter.unusedVariables false

set_option maxRecDepth 100000 in
set_option maxHeartbeats 4000000 in
theorem in79_any {w : World} {v : Value} {F : List Int} (h : RS kZ w v F) (hl : F.length ≤ 1000) (z : Int) : Calls Try.prog 79 #[v, .int .i64 z] w (SameW w (.bool (decide (z ∈ F)))) := by
  obtain ⟨a, c, e⟩ := h.form
  obtain ⟨n, hn⟩ : ∃ n, F.length = n := ⟨_, rfl⟩
  have HN : Hid (F.length = n) := hn
  rw [hn] at e hl
  subst e
  have HR : Hid (RS kZ w (.slice a n c) F) := h
  have HT : Hid (∀ q (hq : q < F.length), F[q] = z → SameW w (.bool (decide (z ∈ F))) (.returned (.bool true)) w) := fun q hq e => ⟨by rw [decide_eq_true (by rw [← e]; exact List.getElem_mem _)], rfl⟩
  have HF : Hid ((∀ q (hq : q < F.length), F[q] ≠ z) → SameW w (.bool (decide (z ∈ F))) (.returned (.bool false)) w) := fun e => ⟨by
    rw [decide_eq_false]
    intro hm
    obtain ⟨i, hi, hx⟩ := List.getElem_of_mem hm
    exact e i hi hx, rfl⟩
  clear h hn
  generalize SameW w (.bool (decide (z ∈ F))) = P at *
  go_enter Try.func79, Try.ntmps79
  go_wp2_with fail
  go_loopw [5] (fun iv wr => wr = w ∧ ∃ q : Nat, iv = .int .i64 (q : Int) ∧ q ≤ n ∧ Hid (∀ i (hi : i < F.length), i < q → F[i] ≠ z)) (fun iv _ => n - (intOf iv).toNat)
  case atStart => exact ⟨rfl, 0, rfl, Nat.zero_le _, fun i hi h0 => absurd h0 (by omega)⟩
  case round =>
    obtain ⟨rfl, q, rfl, hq, HI⟩ := hrel
    by_cases hlt : q < n
    · have d1 : decide (q < n) = true := decide_eq_true hlt
      have hq' : q < F.length := by rw [HN.out]; exact hlt
      obtain ⟨b, bo, n', c', hg, hcl⟩ := HR.out.cell hq'
      simp only [Value.slice.injEq] at hg
      obtain ⟨rfl, rfl, rfl⟩ := hg
      obtain ⟨z0, hz⟩ : ∃ x, F[q]'hq' = x := ⟨_, rfl⟩
      rw [hz] at hcl
      have y0 := uno_cell rfl rfl hcl
      have i1 : (0 : Int) ≤ (q : Int) := by omega
      have i2 : (q : Int) < (n : Int) := by omega
      by_cases h0 : z0 = z
      · have t0 : (z0 == z) = true := by simp [h0]
        have HQ : Hid (P (.returned (.bool true)) wr) := HT.out q hq' (by rw [hz, h0])
        clear h0 hz hcl HI hq'
        go_wp2
        first | exact HQ.out | (go_ret; exact HQ.out)
      · have t0 : (z0 == z) = false := by simp [h0]
        have HI2 : Hid (∀ i (hi : i < F.length), i < q + 1 → F[i] ≠ z) := fun i hi k => by
          rcases Nat.lt_or_ge i q with k2 | k2
          · exact HI.out i hi k2
          · have : i = q := by omega
            subst this
            rw [hz]; exact h0
        clear h0 hz hcl HI hq'
        go_wp2_with fail
        go_roundw
        case rel => exact ⟨trivial, q + 1, by go_num, by omega, HI2⟩
        case measure => simp [intOf]; omega
    · have d1 : decide (q < n) = false := decide_eq_false hlt
      have HQ : Hid (P (.returned (.bool false)) wr) := HF.out (fun i hi => HI.out i hi (by have := HN.out; omega))
      clear HI
      go_wp2
      first | exact HQ.out | (go_ret; exact HQ.out)
def SrtQ (w : World) (l : List Int) (e : Ending) (W : World) : Prop := ∃ R, SrtOf l R ∧ RowQ w R e W
theorem RZ.own2 {W : World} {g n c p k : Nat} {L : List Int} {x y : Int} (h : RZ kZ W (.slice (some ⟨g, 0, none⟩) n c) L) (hp : p < L.length) (hk : k < L.length) (hx : L[p] = x) (hy : L[k] = y) : W.cell? ⟨g, p, none⟩ = some (.int .i64 x) ∧ W.cell? ⟨g, k, none⟩ = some (.int .i64 y) ∧ W.frozen? ⟨g, p, none⟩ = false ∧ W.frozen? ⟨g, k, none⟩ = false := by
  obtain ⟨g', c', e, hc, hf⟩ := h.cell hp
  injection e with e1 e2 e3
  injection e1 with e1
  injection e1 with e1
  subst e1
  obtain ⟨g', c'', e, hc2, _⟩ := h.cell hk
  injection e with e1 e2 e3
  injection e1 with e1
  injection e1 with e1
  subst e1
  have u1 := uno_own rfl rfl hc
  have u2 := uno_own rfl rfl hc2
  rw [hx] at u1
  rw [hy] at u2
  exact ⟨u1, u2, hf _, hf _⟩
theorem RZ.swp2 {W : World} {g n c p k : Nat} {C B : List Int} {y z : Int} (h : RZ kZ W (.slice (some ⟨g, 0, none⟩) n c) (C ++ y :: z :: B)) (hp : C.length = p) (hk : k = p + 1) : RZ kZ ((W.setCell ⟨g, k, none⟩ (.int .i64 y)).setCell ⟨g, p, none⟩ (.int .i64 z)) (.slice (some ⟨g, 0, none⟩) n c) (C ++ z :: y :: B) := by
  have r1 := RZ.set (K := kZ) h (i := k) (by simp; omega) (j := 0) (by decide) (.int .i64 y) y rfl
  have r2 := RZ.set (K := kZ) r1 (i := p) (by simp; omega) (j := 0) (by decide) (.int .i64 z) z rfl
  have e0 : ∀ k, k * kZ.k + 0 = k := fun k => by show k * 1 + 0 = k; omega
  rw [e0, e0] at r2
  subst hk hp
  rw [plc_set] at r2
  exact r2
set_option maxRecDepth 100000 in
set_option maxHeartbeats 8000000 in
theorem sort74_any {w : World} {v : Value} {l : List Int} (h : RS kZ w v l) (hl : l.length ≤ 1000) : Calls Try.prog 74 #[v] w (SrtQ w l) := by
  obtain ⟨a, c, e⟩ := h.form
  obtain ⟨n, hn⟩ : ∃ n, l.length = n := ⟨_, rfl⟩
  have HN : Hid (l.length = n) := hn
  rw [hn] at e hl
  subst e
  have HR : Hid (RS kZ w (.slice a n c) l) := h
  have HF : Hid (∀ v W R, SrtOf l R → RZ kZ W v R → Below w.heap.size w W → (∀ g, v.ownBlock = some g → w.heap.size ≤ g) → SrtQ w l (.returned v) W) := fun v W R h0 h1 h2 h3 => ⟨R, h0, v, rfl, h1, h2, h3⟩
  clear h hn
  generalize SrtQ w l = P at *
  go_enter Try.func74, Try.ntmps74
  go_wp2_with fail
  go_loopw [3, 4] (fun ov iv wr => ∃ (q m : Nat) (R : List Int), iv = .int .i64 (q : Int) ∧ q ≤ n ∧ (∃ a c, ov = .slice a m c) ∧ Hid (R.length = m) ∧ m ≤ q ∧ Hid (SrtOf (l.take q) R) ∧ Hid (Below w.heap.size w wr) ∧ Hid (RZ kZ wr ov R) ∧ Hid (∀ g, ov.ownBlock = some g → w.heap.size ≤ g)) (fun _ iv _ => n - (intOf iv).toNat)
  case atStart => exact ⟨0, 0, [], rfl, Nat.zero_le _, ⟨_, _, rfl⟩, rfl, Nat.le_refl _, SrtOf.nil, Below.refl _ _, RZ.nil _ _, fun g hg => by simp [Value.ownBlock] at hg⟩
  case round =>
    obtain ⟨q, m, R, rfl, hq, ⟨al, cl, rfl⟩, HRM, hmq, HS, HB, HZ, HW⟩ := hrel
    by_cases hlt : q < n
    · have d1 : decide (q < n) = true := decide_eq_true hlt
      have hq' : q < l.length := by rw [HN.out]; exact hlt
      obtain ⟨b, bo, n', c', hg, hcl⟩ := (HR.out.below HB.out).cell hq'
      simp only [Value.slice.injEq] at hg
      obtain ⟨rfl, rfl, rfl⟩ := hg
      obtain ⟨z, hz⟩ : ∃ x, l[q]'hq' = x := ⟨_, rfl⟩
      rw [hz] at hcl
      have y0 := uno_cell rfl rfl hcl
      have i1 : (0 : Int) ≤ (q : Int) := by omega
      have i2 : (q : Int) < (n : Int) := by omega
      have HIN : Hid (Calls Try.prog 79 #[.slice al m cl, .int .i64 z] wr (SameW wr (.bool (decide (z ∈ R))))) := in79_any HZ.out.rs (by rw [HRM.out]; omega) z
      by_cases hin : z ∈ R
      · rw [decide_eq_true hin] at HIN
        have HS2 : Hid (SrtOf (l.take (q + 1)) R) := HS.out.skip hq' (by rw [hz]; exact hin)
        clear hin hz hcl hq' HS
        go_wp2_with fail
        refine HIN.out.mono ?_
        rintro e w3 ⟨rfl, rfl⟩
        go_wp2_with fail
        go_roundw
        case rel => exact ⟨q + 1, m, R, by go_num, by omega, ⟨_, _, rfl⟩, HRM, by omega, HS2, HB, HZ, HW⟩
        case measure => simp [intOf]; omega
      · rw [decide_eq_false hin] at HIN
        have HDN : Hid (∀ A B, Plc R z A B → (A = [] ∨ ∃ C y, A = C ++ [y] ∧ y ≤ z) → SrtOf (l.take (q + 1)) (A ++ z :: B)) := fun A B hp he => hp.done HS.out hq' hz hin he
        have HE : Hid (∀ A, RZ kZ (wr.alloc A) (.slice al m cl) R) := fun A => HZ.out.below (bl1 wr A)
        have HP2 : Hid (RS kZ (wr.alloc (.cells #[.int .i64 z] 3)) (.slice (some ⟨wr.heap.size, 0, none⟩) 1 1) [z]) := num_rz wr z
        have HL : Hid (R.length + [z].length ≤ 100000) := by show _ ≤ _; rw [HRM.out]; show m + 1 ≤ _; omega
        clear hin hz hcl hq' HS HZ
        go_wp2_with fail
        refine HIN.out.mono ?_
        rintro e w3 ⟨rfl, rfl⟩
        clear HIN
        go_wp2_with (at_builtin; refine push_row kZ _ rfl _ _ rfl _ _ R [z] rfl rfl (HE.out _) HP2.out HL.out ?_)
        intro v5 w5 hz5 g5 ho5
        obtain ⟨B5, n5⟩ := pushZ_more (V := w) (HB.out.alloc HB.out.size _) HW.out g5 ho5 (by have := HB.out.size; first | omega | (simp; omega))
        obtain ⟨a8, k8, rfl⟩ := hz5.sl
        have hl8 : (R ++ [z]).length = m + 1 := by rw [List.length_append, HRM.out]; rfl
        rw [hl8] at hz5 n5 ⊢
        obtain ⟨g8, c8, e8, -, -⟩ := hz5.cell (i := 0) (by omega)
        rw [hl8] at e8
        injection e8 with e81 e82 e83
        subst e81 e83
        have HZ5 : Hid (RZ kZ w5 (.slice (some ⟨g8, 0, none⟩) (m + 1) k8) (R ++ z :: [])) := hz5
        have HN5 : Hid (∀ g, (Value.slice (some ⟨g8, 0, none⟩) (m + 1) k8).ownBlock = some g → w.heap.size ≤ g) := n5
        have HB5 : Hid (Below w.heap.size w w5) := B5
        clear hz5 g5 ho5 B5 n5 HE HP2 HL HB hl8 HW y0 e82
        obtain ⟨M, hM⟩ : ∃ M, m + 1 = M := ⟨_, rfl⟩
        rw [hM] at HZ5 HN5 ⊢
        have q0 : (M : Int) - 1 = (m : Int) := by omega
        have w0 : IntKind.i64.wrap (m : Int) = (m : Int) := by rw [IntKind.wrap_i64]; omega
        have w0' : wrap64 (m : Int) = (m : Int) := w64in _ (by clear w0; omega)
        go_wp2_with fail
        clear w0 w0' q0
        go_loopw [5] (fun kv wr => ∃ (k : Nat) (A B : List Int), kv = .int .i64 (k : Int) ∧ k ≤ m ∧ Hid (A.length = k) ∧ Hid (Plc R z A B) ∧ Hid (Below w.heap.size w wr) ∧ Hid (RZ kZ wr (.slice (some ⟨g8, 0, none⟩) M k8) (A ++ z :: B))) (fun kv _ => (intOf kv).toNat)
        case atStart => exact ⟨m, R, [], rfl, Nat.le_refl _, HRM, Plc.first _ _, HB5, HZ5⟩
        case round =>
          clear HZ5 HB5
          obtain ⟨k, A, B, rfl, hk, HA, HP, HB6, HZ6⟩ := hrel
          by_cases hk0 : k = 0
          · have hA0 : A = [] := List.length_eq_zero_iff.1 (by rw [HA.out]; exact hk0)
            have HS3 : Hid (SrtOf (l.take (q + 1)) (A ++ z :: B)) := HDN.out A B HP.out (.inl hA0)
            have HML : Hid ((A ++ z :: B).length = M) := by
              have := HZ6.out.sl
              obtain ⟨a9, c9, e9⟩ := this
              injection e9 with _ e9 _
              exact e9.symm
            subst hk0
            have d3 : decide ((0 : Int) < ((0 : Nat) : Int)) = false := by decide
            have hMq : M ≤ q + 1 := by omega
            clear HDN hA0 HP HA
            go_wp2_with fail
            go_quiet (fail)
            go_wp2_with fail
            go_roundw
            case rel => exact ⟨q + 1, M, A ++ z :: B, by go_num, by omega, ⟨_, _, rfl⟩, HML, hMq, HS3, Below.dN HB6.out _, HZ6.out.below (Below.dN (Below.refl _ _) _), HN5⟩
            case measure => simp [intOf]; omega
          · obtain ⟨p, hp⟩ : ∃ p, k = p + 1 := ⟨k - 1, by omega⟩
            obtain ⟨C, y, hAC, hC⟩ := last_of (HA.out.trans hp)
            subst hAC
            have hrow : (C ++ [y]) ++ z :: B = C ++ y :: z :: B := by simp
            rw [hrow] at HZ6
            have hML : (C ++ y :: z :: B).length = M := by
              obtain ⟨a9, c9, e9⟩ := HZ6.out.sl
              injection e9 with _ e9 _
              exact e9.symm
            have HML : Hid ((C ++ y :: z :: B).length = M) := hML
            have hpl : p < (C ++ y :: z :: B).length := by rw [hML]; omega
            have hkl : k < (C ++ y :: z :: B).length := by rw [hML]; omega
            obtain ⟨x0, x1, f0, f1⟩ := HZ6.out.own2 (x := y) (y := z) hpl hkl (by subst hC; exact at_mid C (z :: B) y hpl) (by subst hC; subst hp; exact at_mid1 C B y z hkl)
            have HC : Hid (C.length = p) := hC
            have HKP : Hid (k = p + 1) := hp
            have g0 : (0 : Int) < (k : Int) := by omega
            have d3 : decide ((0 : Int) < (k : Int)) = true := decide_eq_true g0
            have g0' : 0 < k := by omega
            have qp : (k : Int) - 1 = (p : Int) := by omega
            have j1 : (0 : Int) ≤ (k : Int) := by omega
            have j2 : (k : Int) < (M : Int) := by omega
            have j3 : (0 : Int) ≤ (p : Int) := by omega
            have j4 : (p : Int) < (M : Int) := by omega
            have w1 : IntKind.i64.wrap (p : Int) = (p : Int) := by rw [IntKind.wrap_i64]; omega
            have w1' : wrap64 (p : Int) = (p : Int) := w64in _ (by clear w1; omega)
            by_cases hzy : z < y
            · have d4 : decide (z < y) = true := decide_eq_true hzy
              have HP2 : Hid (Plc R z C (y :: B)) := HP.out.back hzy
              have n1 : k ≠ p := by omega
              have n2 : p ≠ k := by omega
              clear hrow hML hpl hkl hC hp hk0 hzy HP HA HDN
              go_wp2_with fail
              go_quiet (fail)
              go_wp2_with fail
              go_region
              have HB7 : Hid (Below w.heap.size w (((wr.drewN (nq + 1)).setCell ⟨g8, k, none⟩ (.int .i64 y)).setCell ⟨g8, p, none⟩ (.int .i64 z))) := by
                have hg := HN5.out g8 rfl
                exact ((Below.dN HB6.out _).setCell (p := ⟨g8, k, none⟩) hg _).setCell (p := ⟨g8, p, none⟩) hg _
              have HZ7 : Hid (RZ kZ (((wr.drewN (nq + 1)).setCell ⟨g8, k, none⟩ (.int .i64 y)).setCell ⟨g8, p, none⟩ (.int .i64 z)) (.slice (some ⟨g8, 0, none⟩) M k8) (C ++ z :: y :: B)) := RZ.swp2 (HZ6.out.below (Below.dN (Below.refl _ _) _)) HC.out HKP.out
              generalize ((wr.drewN (nq + 1)).setCell ⟨g8, k, none⟩ (.int .i64 y)).setCell ⟨g8, p, none⟩ (.int .i64 z) = w7 at *
              clear x0 x1 f0 f1 HZ6 HB6
              go_wp2_with fail
              go_roundw
              case rel => exact ⟨p, C, y :: B, by go_num, by omega, HC, HP2, HB7, HZ7⟩
              case measure => simp [intOf]; omega
            · have d4 : decide (z < y) = false := decide_eq_false hzy
              have HS3 : Hid (SrtOf (l.take (q + 1)) (C ++ y :: z :: B)) := by
                have := HDN.out _ B HP.out (.inr ⟨C, y, rfl, by omega⟩)
                rw [hrow] at this
                exact this
              have hMq : M ≤ q + 1 := by omega
              clear hrow hML hpl hkl hC hp hk0 hzy HP HA HDN
              go_wp2_with fail
              go_quiet (fail)
              clear w1 w1'
              go_wp2_with fail
              go_roundw
              case rel => exact ⟨q + 1, M, C ++ y :: z :: B, by go_num, by omega, ⟨_, _, rfl⟩, HML, hMq, HS3, Below.dN HB6.out _, HZ6.out.below (Below.dN (Below.refl _ _) _), HN5⟩
              case measure => simp [intOf]; omega
    · have d1 : decide (q < n) = false := decide_eq_false hlt
      have hqn : q = n := by omega
      subst hqn
      have HT : l.take q = l := List.take_of_length_le (by rw [HN.out]; exact Nat.le_refl _)
      have HQ : Hid (P (.returned (.slice al m cl)) wr) := HF.out _ wr R (by have := HS.out; rw [HT] at this; exact this) HZ.out HB.out HW.out
      clear HT HS HZ HB HW
      go_wp2
      first | exact HQ.out | (go_ret; exact HQ.out)
end Go.Proofs.Ytongeppdaeekeaa
