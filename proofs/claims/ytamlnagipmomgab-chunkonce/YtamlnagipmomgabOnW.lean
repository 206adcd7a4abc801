/- ChunkOnce: the law's walk. -/
import Derived.Test.YtamlnagipmomgabOnA
import Derived.Test.YtamlnagipmomgabLsW
import Derived.Deep.CutRange
namespace Go.Proofs.Ytamlnagipmomgab
open Go.RowKit Go.Maps
set_option linter.unusedVariables false

theorem mul_small (N W : Nat) (hN : N ≤ 200) (hW : W ≤ 8) : (N + 1) * W ≤ 1608 := Nat.le_trans (Nat.mul_le_mul (show N + 1 ≤ 201 by omega) hW) (by omega)
set_option maxRecDepth 100000 in
set_option maxHeartbeats 8000000 in
theorem once_walk (p s k n : Int) (v : Value) (A : List Int) (w : World) (hv : GSl w v A) : Calls Try.prog 4 #[.agg #[.int .i64 p, .int .i64 s, .int .i64 k, .int .i64 n, v]] w fun e w' => e = .returned (.bool true) ∧ Below w.heap.size w w' := by
  have HV0 := hv
  obtain ⟨va, vc, vb, vo, rfl, h2, h3, h4, h5⟩ := hv
  obtain ⟨L, hL⟩ : ∃ L, A.length = L := ⟨_, rfl⟩
  have HLA : Hid (A.length = L) := hL
  rw [hL] at h2 HV0 ⊢
  have HV : Hid (GSl w (.slice va L vc) A) := HV0
  unfold maxLen at h3
  clear hL h4 h5 HV0
  by_cases hbig : 300 < L
  · have e1 : decide (300 < (L : Int)) = true := by simp; omega
    go_enter Try.func4, Try.ntmps4
    go_wp2
    go_ret
    exact ⟨rfl, bl1 _ _⟩
  have e1 : decide (300 < (L : Int)) = false := by simp; omega
  have HN : Hid (∀ w, Calls Try.prog 6 #[.int .i64 p, .int .i64 s, .int .i64 k, .int .i64 n] w (NewQ p s k n w)) := new_any p s k n
  by_cases herr : errN p s k n = 0
  · obtain ⟨hs1, hk1, hn1⟩ := err_ok herr
    obtain ⟨N, rfl⟩ : ∃ N : Nat, n = (N : Int) := ⟨n.toNat, by omega⟩
    obtain ⟨W, rfl⟩ : ∃ W : Nat, k = (W : Int) := ⟨k.toNat, by omega⟩
    obtain ⟨S, rfl⟩ : ∃ S : Nat, s = (S : Int) := ⟨s.toNat, by omega⟩
    have hS1 : 1 ≤ S ∧ S ≤ 200 := by omega
    have hW1 : 1 ≤ W ∧ W ≤ 8 := by omega
    have hN2 : N ≤ 200 := by omega
    clear hk1 hn1 hs1
    have HX0 : Hid (XB (w.alloc (.cells #[.int .i64 p, .int .i64 (S : Int), .int .i64 (W : Int), .int .i64 (N : Int), .slice va L vc] 25)) w.heap.size p (S : Int) (W : Int) (N : Int) (.slice va L vc)) := XB.new w p _ _ _ _
    have HZ0 : Hid (w.heap.size + 1 ≤ (w.alloc (.cells #[.int .i64 p, .int .i64 (S : Int), .int .i64 (W : Int), .int .i64 (N : Int), .slice va L vc] 25)).heap.size) := by show _ ≤ _; simp
    go_enter Try.func4, Try.ntmps4
    go_wp2_with fail
    refine (HN.out _).mono ?_
    rintro e w1 ⟨b1, _, hq⟩
    obtain ⟨db, tb, rfl, D1, l1, l2⟩ := hq herr
    have HD1 : Hid (DL w1 db tb p (S : Int) (N : Int) 0 (List.replicate W 0)) := by have e : ((W : Int)).toNat = W := Int.toNat_natCast W; rw [e] at D1; exact D1
    have HX1 : Hid (XB w1 w.heap.size p (S : Int) (W : Int) (N : Int) (.slice va L vc)) := HX0.out.below b1
    have HB1 : Hid (Below w.heap.size w w1) := (bl1 w _).trans (b1.mono (bl1 w _).size)
    have HL1 : Hid (w.heap.size + 1 ≤ db ∧ w.heap.size + 1 ≤ tb) := by have := HZ0.out; exact ⟨by omega, by omega⟩
    clear b1 hq D1 l1 l2 HN
    have c3 : w1.cell? ⟨w.heap.size, 3, none⟩ = some (.int .i64 (N : Int)) := HX1.out.all.2.2.2.1
    have c2 : ∀ A, (w1.alloc A).cell? ⟨w.heap.size, 2, none⟩ = some (.int .i64 (W : Int)) := fun A => (HX1.out.below (bl1 _ A)).all.2.2.1
    have c4 : ∀ A B, ((w1.alloc A).alloc B).cell? ⟨w.heap.size, 4, none⟩ = some (.slice va L vc) := fun A B => ((HX1.out.below (bl1 _ A)).below (bl1 _ B)).all.2.2.2.2
    have hmkN := made23 N (by omega)
    have hmkW := made23 W (by omega)
    go_upto_region 8 with fail
    have HM0 : Hid (OM w (w1.heap.size + 2) w.heap.size w1.heap.size (w1.heap.size + 1) db tb p (S : Int) (W : Int) (N : Int) (.slice va L vc) W (.slice none 0 0) [] 0 (List.replicate W 0) (List.replicate N 0) (List.replicate W 0) ((w1.alloc (.cells (ints (List.replicate N 0)) 3)).alloc (.cells (ints (List.replicate W 0)) 3))) := OM.first HD1.out HX1.out HB1.out ⟨Nat.le_refl _, by have := HL1.out; omega, by have := HL1.out; omega⟩ (by have := HL1.out; omega)
    have HON : Hid (∀ AL, ON p S N W AL 0 (List.replicate W 0) (List.replicate N 0) (List.replicate W 0) 0) := fun AL => ON.first HD1.out.ok
    generalize ((w1.alloc (.cells (ints (List.replicate N 0)) 3)).alloc (.cells (ints (List.replicate W 0)) 3)) = U at *
    clear c2 c3 c4 hmkN hmkW HX0 HX1 HZ0 HD1 HL1
    obtain ⟨gb, hgb⟩ : ∃ gb, w1.heap.size = gb := ⟨_, rfl⟩
    obtain ⟨x, hx⟩ : ∃ x, w.heap.size = x := ⟨_, rfl⟩
    have HXE : Hid (w.heap.size = x) := hx
    rw [hgb, hx] at HM0
    rw [hgb, hx]
    clear hgb hx
    have c4 : ∀ A0, (U.alloc A0).cell? ⟨x, 4, none⟩ = some (.slice va L vc) := fun A0 => (HM0.out.box.below (bl1 _ A0)).all.2.2.2.2
    have HGV : Hid (∀ V, Below w.heap.size w V → GSl V (.slice va L vc) A) := fun V hV => HV.out.below hV
    have HGU : Hid (GSl (U.alloc (.cells #[] 3)) (.slice va L vc) A) := (HGV.out U HM0.out.bel).below (bl1 _ _)
    have HBU : Hid (gb + 2 ≤ (U.alloc (.cells #[] 3)).heap.size) := by show _ ≤ _; have := HM0.out.bs; simp; omega
    have HEU : Hid (IZ (U.alloc (.cells #[] 3)) (gb + 2) (.slice (some ⟨U.heap.size, 0, none⟩) 0 0) []) := IZ.empty U _ HM0.out.bs
    have HM1 : Hid (OM w (gb + 2) x gb (gb + 1) db tb p (S : Int) (W : Int) (N : Int) (.slice va L vc) W (.slice none 0 0) [] 0 (List.replicate W 0) (List.replicate N 0) (List.replicate W 0) (U.alloc (.cells #[] 3))) := HM0.out.same (bl1 _ _)
    go_wp2_with (at_builtin; refine push_ints _ rfl _ _ rfl (gb + 2) _ _ [] A rfl rfl HEU.out HGU.out ?l1 HBU.out ?_)
    case l1 => rw [HLA.out]; simp; omega
    intro v3 w3 hi3 hb3
    obtain ⟨a3, k3, hv3⟩ := hi3.sl
    rw [HLA.out] at hv3
    rw [hv3]
    have HM3 : Hid (OM w (gb + 2) x gb (gb + 1) db tb p (S : Int) (W : Int) (N : Int) (.slice va L vc) W (.slice a3 L k3) A 0 (List.replicate W 0) (List.replicate N 0) (List.replicate W 0) w3) := by rw [hv3] at hi3; exact HM1.out.push hi3 hb3
    clear hi3 hb3 hv3 c4
    obtain ⟨R, hR⟩ : ∃ R, (N + 1) * W = R := ⟨_, rfl⟩
    have hR2 : R ≤ 1608 := by rw [← hR]; exact mul_small N W hN2 hW1.2
    have HR : Hid ((N + 1) * W = R) := hR
    have wN : wrap64 ((N : Int) + 1) = (N : Int) + 1 := w64in _ ⟨by omega, by omega⟩
    have wR : wrap64 (((N : Int) + 1) * (W : Int)) = (R : Int) := by rw [show ((N : Int) + 1) * (W : Int) = (R : Int) by rw [← hR]; simp]; exact w64in _ ⟨by omega, by omega⟩
    have wW : ((W : Int)) ≠ 0 := by omega
    clear hR
    go_wp2_with fail
    go_loopw [7, 8] (fun sl i wr => ∃ (q : Nat) (a : Option Addr) (c : Nat), sl = .slice a (L + q) c ∧ i = .int .i64 (q : Int) ∧ q ≤ R ∧ Hid (OM w (gb + 2) x gb (gb + 1) db tb p (S : Int) (W : Int) (N : Int) (.slice va L vc) W (.slice a (L + q) c) (A ++ rr W q) 0 (List.replicate W 0) (List.replicate N 0) (List.replicate W 0) wr)) (fun sl i _ => R - (intOf i).toNat)
    case atStart => exact ⟨0, a3, k3, rfl, rfl, Nat.zero_le _, by show OM _ _ _ _ _ _ _ _ _ _ _ _ _ _ _ _ _ _ _ _; simpa [rr] using HM3.out⟩
    case round =>
      obtain ⟨q, a, c, rfl, rfl, hq, HM⟩ := hrel
      obtain ⟨c0, c1, c2, c3, c4⟩ := HM.out.box.all
      by_cases hlt : q < R
      · have e2 : decide (q < R) = true := by simp; omega
        obtain ⟨m, hm⟩ : ∃ m : Nat, q % W = m := ⟨_, rfl⟩
        have HMM : Hid (q % W = m) := hm
        have q4 : Int.tmod (q : Int) (W : Int) = (m : Int) := by rw [rem_nat, hm]
        clear hm
        have HMA : Hid (∀ A0, OM w (gb + 2) x gb (gb + 1) db tb p (S : Int) (W : Int) (N : Int) (.slice va L vc) W (.slice a (L + q) c) (A ++ rr W q) 0 (List.replicate W 0) (List.replicate N 0) (List.replicate W 0) (wr.alloc A0)) := fun A0 => HM.out.same (bl1 _ _)
        go_wp2_with (at_builtin; refine push_int _ rfl _ _ rfl (gb + 2) _ (A ++ rr W q) (m : Int) rfl ?p1 _ rfl ?p2 ?p3 ?p4 ?_)
        case p1 => exact (HMA.out _).asks
        case p2 => simp
        case p3 => rw [List.length_append, rr_len, HLA.out]; omega
        case p4 => exact (HMA.out _).bs
        intro v4 w4 hi4 hb4
        rw [show rr W q ++ [(m : Int)] = rr W (q + 1) by rw [← HMM.out]; exact rr_snoc W q] at hi4
        obtain ⟨a4, k4, hv4⟩ := hi4.sl
        rw [List.length_append, rr_len, HLA.out] at hv4
        rw [hv4]
        have HM4 : Hid (OM w (gb + 2) x gb (gb + 1) db tb p (S : Int) (W : Int) (N : Int) (.slice va L vc) W (.slice a4 (L + (q + 1)) k4) (A ++ rr W (q + 1)) 0 (List.replicate W 0) (List.replicate N 0) (List.replicate W 0) w4) := by rw [hv4] at hi4; exact (HMA.out _).push hi4 hb4
        clear hi4 hb4 hv4 c0 c1 c2 c3 c4
        go_wp2_with fail
        go_roundw
        case rel => exact ⟨q + 1, a4, k4, rfl, by go_num, by omega, HM4⟩
        case measure => simp [intOf]; omega
      · have hqR : q = R := by omega
        subst hqR
        have e2 : decide (q < q) = false := by simp
        have HLL : Hid ((A ++ rr W q).length = L + q) := by show _ = _; rw [List.length_append, rr_len, HLA.out]
        have HON1 : Hid (ON p S N W (A ++ rr W q) 0 (List.replicate W 0) (List.replicate N 0) (List.replicate W 0) 0) := HON.out _
        obtain ⟨AL, hAL⟩ : ∃ AL, A ++ rr W q = AL := ⟨_, rfl⟩
        have HAL : Hid (AL = A ++ rr W ((N + 1) * W)) := by show _ = _; rw [HR.out]; exact hAL.symm
        rw [hAL] at HM HLL HON1
        obtain ⟨M, hM⟩ : ∃ M, L + q = M := ⟨_, rfl⟩
        have hM2 : M ≤ 2000 := by omega
        rw [hM] at HM HLL ⊢
        clear hAL hM HON
        go_wp2_with fail
        clear e2 c0 c1 c2 c3 c4
        go_loopw [9, 10, 11, 12, 13] (fun i wk0 sp ok ag wx => ∃ (t : Nat) (next : Int) (turns G La : List Int), i = .int .i64 (t : Int) ∧ t ≤ M ∧ Hid (OM w (gb + 2) x gb (gb + 1) db tb p (S : Int) (W : Int) (N : Int) (.slice va L vc) W (.slice a M c) AL next turns G La wx) ∧ Hid (ON p S N W AL next turns G La t)) (fun i wk0 sp ok ag _ => M - (intOf i).toNat)
        case atStart => exact ⟨0, 0, _, _, _, rfl, Nat.zero_le _, HM, HON1⟩
        case round =>
          obtain ⟨t, next, turns, G, La, rfl, ht, TM, TN⟩ := hrel
          obtain ⟨V, rfl⟩ : ∃ V, V = wr := ⟨_, rfl⟩
          obtain ⟨c0, c1, c2, c3, c4⟩ := TM.out.box.all
          by_cases htM : t < M
          · have e3 : decide (t < M) = true := by simp; omega
            have htA : t < AL.length := by rw [HLL.out]; exact htM
            obtain ⟨wk, hwk⟩ : ∃ wk, AL[t] = wk := ⟨_, rfl⟩
            have HWK : Hid (AL[t] = wk) := hwk
            obtain ⟨a', k', ab, ao, hva, _, _, hv1, hv2⟩ := TM.out.asks.gsl
            injection hva with hva1 hva2 hva3
            have hva := hv1 (by omega)
            rw [← hva1] at hva
            subst hva
            have cA := hv2 t htA
            rw [hwk] at cA
            clear hwk hv1 hv2 hva1 hva2 hva3
            go_wp2_with fail
            refine (next_any wk V TM.out.dl).mono ?_
            rintro e w4 ⟨rfl, D4, C4⟩
            have hAD := ask_dl TN.out.ok wk
            obtain ⟨a, b, hx, hab, hbN⟩ : ∃ a b : Nat, askX p (S : Int) (N : Int) next turns wk = ((a : Int), (b : Int)) ∧ a ≤ b ∧ b ≤ N := by
              refine ⟨(askX p (S : Int) (N : Int) next turns wk).1.toNat, (askX p (S : Int) (N : Int) next turns wk).2.toNat, ?_, by omega, by omega⟩
              have h1 := hAD.1
              have h2 := hAD.2.2.1
              generalize askX p (S : Int) (N : Int) next turns wk = X at *
              obtain ⟨X1, X2⟩ := X
              simp only [Prod.mk.injEq] at *
              omega
            have HOM : Hid (OM w (gb + 2) x gb (gb + 1) db tb p (S : Int) (W : Int) (N : Int) (.slice va L vc) W _ AL (askN p (S : Int) (N : Int) next turns wk) (askT p (S : Int) (N : Int) next turns wk) G La w4) := TM.out.ask D4 C4
            have HSTEP : Hid (∀ La', ((a < b → ∃ r : Nat, wk = (r : Int) ∧ r < W ∧ La' = La.set r (b : Int)) ∧ (¬ a < b → La' = La)) → ON p S N W AL (askN p (S : Int) (N : Int) next turns wk) (askT p (S : Int) (N : Int) next turns wk) (incG G a b) La' (t + 1)) := fun La' h => TN.out.step htA wk HWK.out (by have := D4.ok; simpa using this) a b hx La' h
            have HIN : Hid (a < b → 0 ≤ wk ∧ wk < (W : Int)) := by
              intro h
              have := hAD.2.2.2.1 (by rw [hx]; simp only []; omega)
              rw [TN.out.len] at this
              exact this
            have HRISE : Hid (a < b → ∀ r : Nat, wk = (r : Int) → ∀ h : r < La.length, La[r] ≤ (a : Int)) := by
              intro h r hr hl
              subst hr
              have := TN.out.rise r hl (by rw [hx]; simp only []; omega)
              rw [hx] at this
              exact this
            have HLLA : Hid (La.length = W) := TN.out.llen
            have HGL : Hid (G.length = N) := TN.out.glen
            have HLOW : Hid (∀ r, (h : r < La.length) → 0 ≤ La[r]) := fun r h => (TN.out.low r h).1
            rw [hx]
            simp only []
            clear hx hAD D4 C4 c0 c1 c2 c3 c4 cA
            generalize askN p (S : Int) (N : Int) next turns wk = nx at *
            generalize askT p (S : Int) (N : Int) next turns wk = tx at *
            unfold sp
            simp only []
            have HMU : Hid (OM w (gb + 2) x gb (gb + 1) db tb p (S : Int) (W : Int) (N : Int) (.slice va L vc) W _ AL nx tx G La (w4.alloc (.cells #[.int .i64 (a : Int), .int .i64 (b : Int)] 39))) := HOM.out.same (bl1 _ _)
            have HSU : Hid ((w4.alloc (.cells #[.int .i64 (a : Int), .int .i64 (b : Int)] 39)).heap[w4.heap.size]? = some (.cells #[.int .i64 (a : Int), .int .i64 (b : Int)] 39)) := heap_alloc_new _ _
            have HSG : Hid (w4.heap.size ≠ gb ∧ w4.heap.size ≠ gb + 1) := by show _ ∧ _; have := HOM.out.bs; omega
            by_cases hz : a < b
            · have f1 : decide ((a : Int) < (b : Int)) = true := by simp; omega
              rw [f1]
              clear f1
              obtain ⟨r, hr⟩ : ∃ r : Nat, wk = (r : Int) := ⟨wk.toNat, by have := HIN.out hz; omega⟩
              have hrW : r < W := by have := HIN.out hz; omega
              have hr0 : r < La.length := by rw [HLLA.out]; exact hrW
              have hris := HRISE.out hz r hr hr0
              subst hr
              obtain ⟨lr, hlr⟩ : ∃ lr, La[r] = lr := ⟨_, rfl⟩
              rw [hlr] at hris
              have HST1 := HSTEP.out (La.set r (b : Int)) ⟨fun _ => ⟨r, rfl, hrW, rfl⟩, fun q => absurd hz q⟩
              have HSTP : Hid (ON p S N W AL nx tx (incG G a b) (La.set r (b : Int)) (t + 1)) := HST1
              clear HST1
              go_upto_region 19 with fail
              generalize w4.alloc (.cells #[.int .i64 (a : Int), .int .i64 (b : Int)] 39) = U2 at *
              obtain ⟨sb, hsb⟩ : ∃ sb, w4.heap.size = sb := ⟨_, rfl⟩
              rw [hsb] at HSU HSG
              rw [hsb]
              clear hsb
              obtain ⟨c0, c1, c2, c3, c4⟩ := HMU.out.box.all
              have s0 : U2.cell? ⟨sb, 0, none⟩ = some (.int .i64 (a : Int)) := by rw [cell_of_row U2 sb 0 _ _ _ HSU.out]; rfl
              have s1 : U2.cell? ⟨sb, 1, none⟩ = some (.int .i64 (b : Int)) := by rw [cell_of_row U2 sb 1 _ _ _ HSU.out]; rfl
              have cl := HMU.out.lc r hr0
              rw [hlr] at cl
              clear hlr
              have g1 : decide ((r : Int) < 0) = false := by simp
              have g2 : decide ((W : Int) ≤ (r : Int)) = false := by simp; omega
              have g2b : decide (W ≤ r) = false := by simp; omega
              have g3 : decide ((a : Int) < lr) = false := by simp; omega
              have g4 : decide ((b : Int) ≤ (a : Int)) = false := by simp; omega
              have g4b : decide (b ≤ a) = false := by simp; omega
              have g5 : decide ((N : Int) < (b : Int)) = false := by simp; omega
              have g5b : decide (N < b) = false := by simp; omega
              go_quiet (fail)
              have HMV : Hid (OM w (gb + 2) x gb (gb + 1) db tb p (S : Int) (W : Int) (N : Int) (.slice va L vc) W (.slice (some ⟨ab, ao, none⟩) M c) AL nx tx G La (U2.drewN nq)) := HMU.out.same (Below.dN (Below.refl _ _) nq)
              have HSV : Hid ((U2.drewN nq).heap[sb]? = some (.cells #[.int .i64 (a : Int), .int .i64 (b : Int)] 39)) := HSU.out
              generalize U2.drewN nq = V2 at *
              clear c0 c1 c2 c3 c4 s0 s1 cl g1 g2 g2b g3 g4 g4b g5 g5b
              have s0 : V2.cell? ⟨sb, 0, none⟩ = some (.int .i64 (a : Int)) := by rw [cell_of_row V2 sb 0 _ _ _ HSV.out]; rfl
              have s1 : V2.cell? ⟨sb, 1, none⟩ = some (.int .i64 (b : Int)) := by rw [cell_of_row V2 sb 1 _ _ _ HSV.out]; rfl
              have cl := HMV.out.lc r hr0
              have fl := HMV.out.lf r
              generalize La[r] = lr2 at cl
              have n1 : ¬ sb = gb + 1 := HSG.out.2
              have n2 : ¬ gb + 1 = sb := fun q => n1 q.symm
              have HM2 : Hid (OM w (gb + 2) x gb (gb + 1) db tb p (S : Int) (W : Int) (N : Int) (.slice va L vc) W (.slice (some ⟨ab, ao, none⟩) M c) AL nx tx (incG G a a) (La.set r (b : Int)) (V2.setCell ⟨gb + 1, r, none⟩ (.int .i64 (b : Int)))) := by show OM _ _ _ _ _ _ _ _ _ _ _ _ _ _ _ _ _ _ _ _; rw [incG_none G a a (Nat.le_refl _)]; exact HMV.out.setL r _
              have HS2 : Hid ((V2.setCell ⟨gb + 1, r, none⟩ (.int .i64 (b : Int))).heap[sb]? = some (.cells #[.int .i64 (a : Int), .int .i64 (b : Int)] 39)) := (Below.heap_setCell _ _ _ _ HSG.out.2).trans HSV.out
              go_wp2_with fail
              clear s0 s1 cl fl n1 n2
              go_loopw [13] (fun ag wx => ∃ m : Nat, ag = .int .i64 (m : Int) ∧ a ≤ m ∧ m ≤ b ∧ Hid (OM w (gb + 2) x gb (gb + 1) db tb p (S : Int) (W : Int) (N : Int) (.slice va L vc) W (.slice (some ⟨ab, ao, none⟩) M c) AL nx tx (incG G a m) (La.set r (b : Int)) wx) ∧ Hid (wx.heap[sb]? = some (.cells #[.int .i64 (a : Int), .int .i64 (b : Int)] 39))) (fun ag _ => b - (intOf ag).toNat)
              case atStart => exact ⟨a, rfl, Nat.le_refl _, hab, HM2, HS2⟩
              case round =>
                obtain ⟨m, rfl, hm1, hm2, MJ, MS⟩ := hrel
                have s1 : wr.cell? ⟨sb, 1, none⟩ = some (.int .i64 (b : Int)) := by rw [cell_of_row wr sb 1 _ _ _ MS.out]; rfl
                by_cases hmb : m < b
                · have f2 : decide (m < b) = true := by simp; omega
                  have hmG : m < (incG G a m).length := by rw [incG_len, HGL.out]; omega
                  have cg := MJ.out.gc m hmG
                  have fg := MJ.out.gf m
                  have hnx := incG_next G a m hm1 (by rw [HGL.out]; omega) hmG
                  obtain ⟨old, hold⟩ : ∃ old, (incG G a m)[m] = old := ⟨_, rfl⟩
                  rw [hold] at cg hnx
                  have hob : 0 ≤ old ∧ old ≤ 2 := by
                    rw [← hold, incG_at G a m m (by rw [HGL.out]; omega), TN.out.gdl m (by rw [HGL.out]; omega)]
                    split <;> split <;> omega
                  have wo : wrap64 (old + 1) = old + 1 := w64in _ ⟨by omega, by omega⟩
                  clear hold
                  have MJ2 : Hid (OM w (gb + 2) x gb (gb + 1) db tb p (S : Int) (W : Int) (N : Int) (.slice va L vc) W (.slice (some ⟨ab, ao, none⟩) M c) AL nx tx (incG G a (m + 1)) (La.set r (b : Int)) (wr.setCell ⟨gb, m, none⟩ (.int .i64 (old + 1)))) := by
                    have := MJ.out.setG m (old + 1)
                    rw [hnx] at this
                    exact this
                  clear hnx
                  have MS2 : Hid ((wr.setCell ⟨gb, m, none⟩ (.int .i64 (old + 1))).heap[sb]? = some (.cells #[.int .i64 (a : Int), .int .i64 (b : Int)] 39)) := (Below.heap_setCell _ _ _ _ HSG.out.1).trans MS.out
                  go_wp2_with fail
                  go_roundw
                  case rel => exact ⟨m + 1, by go_num, by omega, by omega, MJ2, MS2⟩
                  case measure => simp [intOf]; omega
                · have hmb2 : m = b := by omega
                  have HLI : Hid (OM w (gb + 2) x gb (gb + 1) db tb p (S : Int) (W : Int) (N : Int) (.slice va L vc) W (.slice (some ⟨ab, ao, none⟩) M c) AL nx tx (incG G a b) (La.set r (b : Int)) wr) := by rw [hmb2] at MJ; exact MJ
                  have f2 : decide (m < b) = false := by simp; omega
                  clear hmb2
                  go_wp2_with fail
                  go_roundw
                  case rel => exact ⟨t + 1, nx, tx, _, _, by go_num, by omega, HLI, HSTP⟩
                  case measure => simp [intOf]; omega
            · have hab2 : b ≤ a := by omega
              have f1 : decide ((a : Int) < (b : Int)) = false := by simp; omega
              rw [f1]
              clear f1
              have HST1 := HSTEP.out La ⟨fun q => absurd q hz, fun _ => rfl⟩
              rw [incG_none G a b hab2] at HST1
              have HSTP : Hid (ON p S N W AL nx tx G La (t + 1)) := HST1
              clear HST1
              go_wp2_with fail
              go_roundw
              case rel => exact ⟨t + 1, nx, tx, G, La, by go_num, by omega, HMU, HSTP⟩
              case measure => simp [intOf]; omega
          · have htM2 : t = M := by omega
            subst htM2
            have e3 : decide (t < t) = false := by simp
            have HALL : Hid (∀ i, (h : i < G.length) → G[i] = 1) := fun i h => ON.last A (by have := TN.out; rw [← HLL.out] at this; exact this) HAL.out i h
            have HGL : Hid (G.length = N) := TN.out.glen
            go_wp2_with fail
            go_loopw [14] (fun ag wx => ∃ m : Nat, ag = .int .i64 (m : Int) ∧ m ≤ N ∧ wx = V) (fun ag _ => N - (intOf ag).toNat)
            case atStart => exact ⟨0, rfl, Nat.zero_le _, rfl⟩
            case round =>
              obtain ⟨m, rfl, hm, hwx⟩ := hrel
              rw [hwx]
              clear hwx
              by_cases hmN : m < N
              · have e4 : decide (m < N) = true := by simp; omega
                have cg := TM.out.gc m (by rw [HGL.out]; exact hmN)
                rw [HALL.out m] at cg
                go_wp2_with fail
                go_roundw
                case rel => exact ⟨m + 1, by go_num, by omega, trivial⟩
                case measure => simp [intOf]; omega
              · have e4 : decide (m < N) = false := by simp; omega
                have HBR : Hid (Below w.heap.size w V) := TM.out.bel
                go_wp2_with fail
                refine (alive_any _).mono ?_
                rintro e wz ⟨rfl, bz⟩
                have BZ : Hid (Below w.heap.size w wz) := HBR.out.trans (bz.mono HBR.out.size)
                clear bz
                go_wp2
                go_ret
                exact ⟨rfl, by first | exact BZ.out | (rw [HXE.out]; have := BZ.out; rw [HXE.out] at this; exact this)⟩
  · have HE : Hid (errN p s k n ≠ 0) := herr
    go_enter Try.func4, Try.ntmps4
    go_wp2_with fail
    refine (HN.out _).mono ?_
    rintro e w1 ⟨b1, hq, _⟩
    have hq := hq HE.out
    subst hq
    have B1 : Hid (Below w.heap.size w w1) := (bl1 w _).trans (b1.mono (bl1 w _).size)
    have herr : ¬ (errN p s k n = 0) := HE.out
    generalize errN p s k n = er at *
    clear b1 HN
    go_wp2_with fail
    refine (alive_any _).mono ?_
    rintro e wz ⟨rfl, bz⟩
    have BZ : Hid (Below w.heap.size w wz) := B1.out.trans (bz.mono B1.out.size)
    clear bz
    go_wp2
    go_ret
    exact ⟨rfl, BZ.out⟩
end Go.Proofs.Ytamlnagipmomgab
