/- The document's Next: the next ages, whoever asks; Next whole. -/
import Derived.Test.YtamlnagipmomgaaR3
import Derived.Deep.CutRange
namespace Go.Proofs.Ytamlnagipmomgaa
open Go.RowKit Go.Maps
set_option linter.unusedVariables false

theorem NX.next {w : World} {g : Nat} {p s k n next : Int} {tv av : Value} {O : List Int} {wr : World} (h : NX w g p s k n next tv av O wr) (z : Int) : NX w g p s k n z tv av O (wr.setCell ⟨g, 4, none⟩ (.int .i64 z)) :=
  ⟨h.box.set4 z, h.res.other (show g + 1 ≠ g by omega) _ _, h.row.other (show g < g + 2 by omega) _ _, h.bel.setCell (p := ⟨g, 4, none⟩) (Nat.le_refl g) _, by simpa [World.setCell] using h.bs⟩
theorem ages_from (N nx M q : Nat) (hM : 1 ≤ M) (hn : nx ≤ N) (hq : q ≤ M) (hqN : nx + q ≤ N) (he : ¬ (q < M ∧ nx + q < N)) : ∃ a b : Nat, fromP (N : Int) (nx : Int) (M : Int) = ((a : Int), (b : Int)) ∧ a ≤ b ∧ b ≤ N ∧ agesL nx (nx + q) = agesL a b ∧ ((nx + q : Nat) : Int) = (nx : Int) + ((b : Int) - (a : Int)) := by
  by_cases q1 : (nx : Int) < (N : Int)
  · rw [from_in q1]
    refine ⟨nx, nx + q, ?_, by omega, by omega, rfl, by omega⟩
    rw [Prod.mk.injEq]
    refine ⟨rfl, ?_⟩
    split <;> omega
  · rw [from_out q1]
    refine ⟨0, 0, rfl, by omega, by omega, ?_, by omega⟩
    rw [agesL_none _ _ (by omega), agesL_none _ _ (by omega)]
set_option maxRecDepth 100000 in
set_option maxHeartbeats 8000000 in
theorem rnext_rest (p : Int) (hp : p = 2 ∨ p = 3) (S W N nx : Nat) (turns : List Int) (tv : Value) (r : Nat) (hS : 1 ≤ S ∧ S ≤ 200) (hW : 1 ≤ W ∧ W ≤ 8) (hN : N ≤ 200) (hlen : turns.length = W) (hr : r < W) (hok : OkD p (S : Int) (N : Int) (nx : Int) turns S N) (w : World) (hv : GSl w tv turns) : Calls Try.prog 18 #[rdV p (S : Int) (W : Int) (N : Int) (nx : Int) tv, .int .i64 (r : Int)] w (RNQ p S W N (nx : Int) turns tv (r : Int) w) := by
  obtain ⟨va, vl, vc, rfl⟩ : ∃ a l c, tv = Value.slice a l c := by obtain ⟨a, c, _, _, e, _⟩ := hv; exact ⟨_, _, _, e⟩
  have hrt : r < turns.length := by omega
  have hnN : nx ≤ N := by have := hok.hn; omega
  have hp1 : p ≠ 1 := by omega
  obtain ⟨M, hM, hM1, hM2⟩ : ∃ M : Nat, (M : Int) = (if p = 2 then (S : Int) else guideI (S : Int) (N : Int) (nx : Int) W) ∧ 1 ≤ M ∧ M ≤ 1000 := by
    by_cases h2 : p = 2
    · rw [if_pos h2]; exact ⟨S, rfl, by omega, by omega⟩
    · rw [if_neg h2]
      have hsb := share_bd (N : Int) (nx : Int) W hW ⟨by omega, by omega⟩ ⟨by omega, by omega⟩
      have hg : 1 ≤ guideI (S : Int) (N : Int) (nx : Int) W ∧ guideI (S : Int) (N : Int) (nx : Int) W ≤ 1000 := by unfold guideI; split <;> omega
      exact ⟨(guideI (S : Int) (N : Int) (nx : Int) W).toNat, by omega, by omega, by omega⟩
  have hX : askX p (S : Int) (N : Int) (nx : Int) turns (r : Int) = fromP (N : Int) (nx : Int) (M : Int) ∧ askN p (S : Int) (N : Int) (nx : Int) turns (r : Int) = (nx : Int) + ((fromP (N : Int) (nx : Int) (M : Int)).2 - (fromP (N : Int) (nx : Int) (M : Int)).1) ∧ askT p (S : Int) (N : Int) (nx : Int) turns (r : Int) = turns := by
    have hin : (0 : Int) ≤ (r : Int) ∧ (r : Int) < turns.length := by omega
    have e0 : ((r : Int)).toNat = r := by omega
    have e1 : spanD p (S : Int) (N : Int) (nx : Int) turns r = fromP (N : Int) (nx : Int) (M : Int) := by
      unfold spanD
      rw [if_neg hp1, hM, hlen]
      by_cases h2 : p = 2
      · rw [if_pos h2, if_pos h2]
      · rw [if_neg h2, if_neg h2]
    unfold askX askN askT
    rw [if_pos hin, if_pos hin, if_pos hin, e0]
    unfold nextD turnsD
    rw [if_neg hp1, if_neg hp1, e1]
    exact ⟨rfl, rfl, rfl⟩
  have HFIN : Hid (∀ (lv : Value) (q : Nat) (V : World), q ≤ M → nx + q ≤ N → ¬ (q < M ∧ nx + q < N) → GSl V (.slice va vl vc) turns → GSl V lv (agesL nx (nx + q)) → Below w.heap.size w V → NewV w.heap.size lv → RNQ p S W N (nx : Int) turns (.slice va vl vc) (r : Int) w (.returned (.tuple #[rdV p (S : Int) (W : Int) (N : Int) ((nx + q : Nat) : Int) (.slice va vl vc), lv])) V) := by
    intro lv q V h1 h2 h3 h4 h5 h6 h7
    obtain ⟨a, b, e1, e2, e3, e4, e5⟩ := ages_from N nx M q hM1 hnN h1 h2 h3
    have hXX := hX
    rw [e1] at hXX
    refine ⟨(.slice va vl vc), lv, by rw [hXX.2.1, e5], by rw [hXX.2.2]; exact h4, .inl rfl, ⟨a, b, hXX.1, e2, e3, by rw [← e4]; exact h5⟩, h7, h6⟩
  generalize RNQ p S W N (nx : Int) turns (.slice va vl vc) (r : Int) w = P at *
  have HV : Hid (∀ V, Below w.heap.size w V → GSl V (.slice va vl vc) turns) := fun V hV => hv.below hV
  have HN0 : Hid (NX w w.heap.size p (S : Int) (W : Int) (N : Int) (nx : Int) (.slice va vl vc) (.slice none 0 0) [] ((w.alloc (.cells #[.int .i64 p, .int .i64 (S : Int), .int .i64 (W : Int), .int .i64 (N : Int), .int .i64 (nx : Int), (.slice va vl vc)] 49)).alloc Z31)) := NX.first w _ _ _ _ _ _
  have HMM : Hid (p = 3 → ∀ q : Nat, ¬ q * 2 * W < N - nx → (q = 0 ∨ (q - 1) * 2 * W < N - nx) → (S < q → M = q) ∧ (¬ S < q → M = S)) := by
    intro h3 q h1 h2
    have hs := share_is (N - nx) W q hW.1 h1 h2
    have e : shareI (N : Int) (nx : Int) W = (q : Int) := by
      unfold shareI
      rw [← hs]
      have : (N : Int) - (nx : Int) + 2 * (W : Int) - 1 = ((N - nx + 2 * W - 1 : Nat) : Int) := by omega
      rw [this]
      have e2 : 2 * (W : Int) = ((2 * W : Nat) : Int) := by omega
      rw [e2]
      exact (Int.natCast_ediv _ _).symm
    rw [if_neg (by omega)] at hM
    unfold guideI at hM
    rw [e] at hM
    split at hM <;> omega
  have HM2 : Hid (p = 2 → M = S) := by intro h; rw [if_pos h] at hM; omega
  unfold rdV at HFIN ⊢
  have e1 : decide ((r : Int) < 0) = false := by simp
  have e2 : decide (W ≤ r) = false := by simp; omega
  have ep : (p == 1) = false := by simp [hp1]
  clear hX hM hok hlen hrt hv
  go_enter Try.func18, Try.ntmps18
  go_upto_region 18 with fail
  generalize ((w.alloc (.cells #[.int .i64 p, .int .i64 (S : Int), .int .i64 (W : Int), .int .i64 (N : Int), .int .i64 (nx : Int), (.slice va vl vc)] 49)).alloc Z31) = U at *
  obtain ⟨g, hg⟩ : ∃ g, w.heap.size = g := ⟨_, rfl⟩
  have HGE : Hid (w.heap.size = g) := hg
  rw [hg] at HN0 HV HFIN
  rw [hg]
  clear hg
  obtain ⟨c0, c1, c2, c3, c4, c5⟩ := HN0.out.box.all
  go_upto_if 74 with fail
  go_cut [9, 10] from 75 to 91 (fun mn pt wx => mn = .int .i64 (M : Int) ∧ wx = U)
  case first =>
    rcases hp with hp2 | hp3
    · have f1 : (p == 3) = false := by simp; omega
      have hMS := HM2.out hp2
      clear hp2
      have HMS : Hid (M = S) := hMS
      clear hMS
      go_wp2_with fail
      go_meet
      case rel => exact ⟨by rw [HMS.out], rfl⟩
    · have f1 : (p == 3) = true := by simp; omega
      have HM3 : Hid (∀ q : Nat, ¬ q * 2 * W < N - nx → (q = 0 ∨ (q - 1) * 2 * W < N - nx) → (S < q → M = q) ∧ (¬ S < q → M = S)) := HMM.out hp3
      clear hp3
      have wN : wrap64 ((N : Int) - (nx : Int)) = (N : Int) - (nx : Int) := w64in _ ⟨by omega, by omega⟩
      go_wp2_with fail
      go_loopw [10] (fun pt wx => ∃ q : Nat, pt = .int .i64 (q : Int) ∧ q ≤ 201 ∧ wx = U ∧ Hid (q = 0 ∨ (q - 1) * 2 * W < N - nx)) (fun pt _ => 400 - (intOf pt).toNat)
      case atStart => exact ⟨0, rfl, by omega, rfl, .inl rfl⟩
      case round =>
        obtain ⟨q, rfl, hq, hwx, HQ⟩ := hrel
        rw [hwx]
        clear hwx
        have hb := Nat.mul_le_mul (Nat.mul_le_mul hq (Nat.le_refl 2)) hW.2
        have ec : (q : Int) * 2 * (W : Int) = ((q * 2 * W : Nat) : Int) := by simp
        have w1 : wrap64 ((q : Int) * 2) = (q : Int) * 2 := w64in _ ⟨by omega, by omega⟩
        have w2 : wrap64 ((q : Int) * 2 * (W : Int)) = ((q * 2 * W : Nat) : Int) := by rw [ec]; exact w64in _ ⟨by omega, by omega⟩
        obtain ⟨Y, hY⟩ : ∃ Y, q * 2 * W = Y := ⟨_, rfl⟩
        have HY : Hid (q * 2 * W = Y) := hY
        rw [hY] at w2
        have hqY : q ≤ Y := by
          rw [← hY, Nat.mul_assoc]
          exact Nat.le_mul_of_pos_right q (by omega)
        clear hb ec hY
        by_cases hlt : Y < N - nx
        · have e3 : decide ((Y : Int) < (N : Int) - (nx : Int)) = true := by simp; omega
          go_wp2_with fail
          go_roundw
          case rel => exact ⟨q + 1, by go_num, by omega, trivial, by show _ ∨ _; right; rw [Nat.add_sub_cancel, HY.out]; exact hlt⟩
          case measure => simp [intOf]; omega
        · have e3 : decide ((Y : Int) < (N : Int) - (nx : Int)) = false := by simp; omega
          have HR2 := HM3.out q (by rw [HY.out]; exact hlt) HQ.out
          by_cases hSq : S < q
          · have e4 : decide (S < q) = true := by simp; omega
            have HMQ : Hid (M = q) := HR2.1 hSq
            clear HR2
            go_wp2_with fail
            go_meet
            case rel => exact ⟨by rw [HMQ.out], rfl⟩
          · have e4 : decide (S < q) = false := by simp; omega
            have HMQ : Hid (M = S) := HR2.2 hSq
            clear HR2
            go_wp2_with fail
            go_meet
            case rel => exact ⟨by rw [HMQ.out], rfl⟩
  case rest =>
    obtain ⟨rfl, hwx⟩ := hcut
    rw [hwx]
    clear hwx c0 c1 c2 c3 c4 c5
    go_wp2_with fail
    go_loopw [6] (fun out wr => ∃ (q : Nat) (a : Option Addr) (c : Nat), out = .slice a q c ∧ q ≤ M ∧ nx + q ≤ N ∧ Hid (NX w g p (S : Int) (W : Int) (N : Int) ((nx + q : Nat) : Int) (.slice va vl vc) (.slice a q c) (agesL nx (nx + q)) wr)) (fun out _ => M - (match out with | .slice _ l _ => l | _ => 0))
    case atStart => exact ⟨0, none, 0, rfl, Nat.zero_le _, hnN, by show NX _ _ _ _ _ _ _ _ _ _ _; rw [agesL_none _ _ (by omega)]; exact HN0.out⟩
    case round =>
      obtain ⟨q, a, c, rfl, hq, hqN, HX⟩ := hrel
      obtain ⟨c0, c1, c2, c3, c4, c5⟩ := HX.out.box.all
      obtain ⟨y, hy⟩ : ∃ y, nx + q = y := ⟨_, rfl⟩
      have HYE : Hid (nx + q = y) := hy
      rw [hy] at c4
      by_cases h1 : q < M
      · have f1 : decide (q < M) = true := by simp; omega
        by_cases h2 : y < N
        · have f2 : decide (y < N) = true := by simp; omega
          have HXA : Hid (∀ A, NX w g p (S : Int) (W : Int) (N : Int) ((nx + q : Nat) : Int) (.slice va vl vc) (.slice a q c) (agesL nx (nx + q)) (wr.alloc A)) := fun A => HX.out.same (by rw [HGE.out]; exact Nat.le_refl _) (bl1 _ _)
          have wy : wrap64 ((y : Int) + 1) = (y : Int) + 1 := w64in _ ⟨by omega, by omega⟩
          clear hy
          go_wp2_with (at_builtin; refine push_int _ rfl _ _ rfl (g + 2) _ (agesL nx (nx + q)) (y : Int) rfl ?p1 _ rfl ?p2 ?p3 ?p4 ?_)
          case p1 => exact (HXA.out _).row
          case p2 => simp
          case p3 => rw [agesL_len]; omega
          case p4 => exact (HXA.out _).bs
          intro v5 w5 hi5 hb5
          rw [← HYE.out, agesL_snoc nx (nx + q) (by omega)] at hi5
          obtain ⟨a5, k5, hv5⟩ := hi5.sl
          rw [agesL_len, show nx + q + 1 - nx = q + 1 by omega] at hv5
          rw [hv5]
          have HX5 : Hid (NX w g p (S : Int) (W : Int) (N : Int) (y : Int) (.slice va vl vc) (.slice a5 (q + 1) k5) (agesL nx (nx + (q + 1))) w5) := by rw [hv5] at hi5; rw [← HYE.out]; exact (HXA.out _).push hi5 hb5
          have HX6 : Hid (NX w g p (S : Int) (W : Int) (N : Int) ((nx + (q + 1) : Nat) : Int) (.slice va vl vc) (.slice a5 (q + 1) k5) (agesL nx (nx + (q + 1))) (w5.setCell ⟨g, 4, none⟩ (.int .i64 ((y : Int) + 1)))) := by
            have := HX5.out.next ((y : Int) + 1)
            rw [show ((nx + (q + 1) : Nat) : Int) = (y : Int) + 1 by rw [← HYE.out]; omega]
            exact this
          clear hi5 hb5 hv5 c0 c1 c2 c3 c4 c5
          have c4 : w5.cell? ⟨g, 4, none⟩ = some (.int .i64 (y : Int)) := HX5.out.box.all.2.2.2.2.1
          have x4 : w5.frozen? ⟨g, 4, none⟩ = false := HX5.out.box.frz 4
          go_wp2_with fail
          go_roundw
          case rel => exact ⟨q + 1, a5, k5, rfl, by omega, by have := HYE.out; omega, HX6⟩
          case measure => simp; omega
        · have f2 : decide (y < N) = false := by simp; omega
          have HRES : Hid (RB wr (g + 1) 0 0 0 0 0 (.slice none 0 0)) := HX.out.res
          have z0 : wr.cell? ⟨g + 1, 0, none⟩ = some (.int .i64 0) := HRES.out.all.1
          have z1 : wr.cell? ⟨g + 1, 1, none⟩ = some (.int .i64 0) := HRES.out.all.2.1
          have z2 : wr.cell? ⟨g + 1, 2, none⟩ = some (.int .i64 0) := HRES.out.all.2.2.1
          have z3 : wr.cell? ⟨g + 1, 3, none⟩ = some (.int .i64 0) := HRES.out.all.2.2.2.1
          have z4 : wr.cell? ⟨g + 1, 4, none⟩ = some (.int .i64 0) := HRES.out.all.2.2.2.2.1
          have z5 : wr.cell? ⟨g + 1, 5, none⟩ = some (.slice none 0 0) := HRES.out.all.2.2.2.2.2
          have y0 : wr.frozen? ⟨g + 1, 0, none⟩ = false := HRES.out.frz 0
          have y1 : wr.frozen? ⟨g + 1, 1, none⟩ = false := HRES.out.frz 1
          have y2 : wr.frozen? ⟨g + 1, 2, none⟩ = false := HRES.out.frz 2
          have y3 : wr.frozen? ⟨g + 1, 3, none⟩ = false := HRES.out.frz 3
          have y4 : wr.frozen? ⟨g + 1, 4, none⟩ = false := HRES.out.frz 4
          have y5 : wr.frozen? ⟨g + 1, 5, none⟩ = false := HRES.out.frz 5
          have HBP : Hid (Below g w ((((((wr.setCell ⟨g + 1, 0, none⟩ (.int .i64 p)).setCell ⟨g + 1, 1, none⟩ (.int .i64 (S : Int))).setCell ⟨g + 1, 2, none⟩ (.int .i64 (W : Int))).setCell ⟨g + 1, 3, none⟩ (.int .i64 (N : Int))).setCell ⟨g + 1, 4, none⟩ (.int .i64 ((nx + q : Nat) : Int))).setCell ⟨g + 1, 5, none⟩ (.slice va vl vc))) := ((((((HX.out.bel.setCell (p := ⟨g + 1, 0, none⟩) (show g ≤ g + 1 by omega) _).setCell (p := ⟨g + 1, 1, none⟩) (show g ≤ g + 1 by omega) _).setCell (p := ⟨g + 1, 2, none⟩) (show g ≤ g + 1 by omega) _).setCell (p := ⟨g + 1, 3, none⟩) (show g ≤ g + 1 by omega) _).setCell (p := ⟨g + 1, 4, none⟩) (show g ≤ g + 1 by omega) _).setCell (p := ⟨g + 1, 5, none⟩) (show g ≤ g + 1 by omega) _)
          have HRP : Hid (RB ((((((wr.setCell ⟨g + 1, 0, none⟩ (.int .i64 p)).setCell ⟨g + 1, 1, none⟩ (.int .i64 (S : Int))).setCell ⟨g + 1, 2, none⟩ (.int .i64 (W : Int))).setCell ⟨g + 1, 3, none⟩ (.int .i64 (N : Int))).setCell ⟨g + 1, 4, none⟩ (.int .i64 ((nx + q : Nat) : Int))).setCell ⟨g + 1, 5, none⟩ (.slice va vl vc)) (g + 1) p (S : Int) (W : Int) (N : Int) ((nx + q : Nat) : Int) (.slice va vl vc)) := put6 HRES.out
          have HOP : Hid (GSl ((((((wr.setCell ⟨g + 1, 0, none⟩ (.int .i64 p)).setCell ⟨g + 1, 1, none⟩ (.int .i64 (S : Int))).setCell ⟨g + 1, 2, none⟩ (.int .i64 (W : Int))).setCell ⟨g + 1, 3, none⟩ (.int .i64 (N : Int))).setCell ⟨g + 1, 4, none⟩ (.int .i64 ((nx + q : Nat) : Int))).setCell ⟨g + 1, 5, none⟩ (.slice va vl vc)) (.slice a q c) (agesL nx (nx + q))) := (((((((HX.out.row.other (show g + 1 < g + 2 by omega) 0 _).other (show g + 1 < g + 2 by omega) 1 _).other (show g + 1 < g + 2 by omega) 2 _).other (show g + 1 < g + 2 by omega) 3 _).other (show g + 1 < g + 2 by omega) 4 _).other (show g + 1 < g + 2 by omega) 5 _)).gsl
          have HFF := HFIN.out (.slice a q c) q ((((((wr.setCell ⟨g + 1, 0, none⟩ (.int .i64 p)).setCell ⟨g + 1, 1, none⟩ (.int .i64 (S : Int))).setCell ⟨g + 1, 2, none⟩ (.int .i64 (W : Int))).setCell ⟨g + 1, 3, none⟩ (.int .i64 (N : Int))).setCell ⟨g + 1, 4, none⟩ (.int .i64 ((nx + q : Nat) : Int))).setCell ⟨g + 1, 5, none⟩ (.slice va vl vc)) hq hqN (by omega) (HV.out _ HBP.out) HOP.out HBP.out (HX.out.row.newV (by omega))
          rw [hy] at HFF HRP
          have HFG : Hid (P (.returned (.tuple #[.agg #[.int .i64 p, .int .i64 (S : Int), .int .i64 (W : Int), .int .i64 (N : Int), .int .i64 (y : Int), (.slice va vl vc)], .slice a q c])) ((((((wr.setCell ⟨g + 1, 0, none⟩ (.int .i64 p)).setCell ⟨g + 1, 1, none⟩ (.int .i64 (S : Int))).setCell ⟨g + 1, 2, none⟩ (.int .i64 (W : Int))).setCell ⟨g + 1, 3, none⟩ (.int .i64 (N : Int))).setCell ⟨g + 1, 4, none⟩ (.int .i64 (y : Int))).setCell ⟨g + 1, 5, none⟩ (.slice va vl vc))) := HFF
          clear HFF HOP HBP hy
          go_wp2_with fail
          refine bodyPost_ret (ret_rd Try.results18 _ (g + 1) rfl _ _ _ _ _ _ _ HRP.out) rfl ?_
          exact HFG.out
      · have f1 : decide (q < M) = false := by simp; omega
        have HRES : Hid (RB wr (g + 1) 0 0 0 0 0 (.slice none 0 0)) := HX.out.res
        have z0 : wr.cell? ⟨g + 1, 0, none⟩ = some (.int .i64 0) := HRES.out.all.1
        have z1 : wr.cell? ⟨g + 1, 1, none⟩ = some (.int .i64 0) := HRES.out.all.2.1
        have z2 : wr.cell? ⟨g + 1, 2, none⟩ = some (.int .i64 0) := HRES.out.all.2.2.1
        have z3 : wr.cell? ⟨g + 1, 3, none⟩ = some (.int .i64 0) := HRES.out.all.2.2.2.1
        have z4 : wr.cell? ⟨g + 1, 4, none⟩ = some (.int .i64 0) := HRES.out.all.2.2.2.2.1
        have z5 : wr.cell? ⟨g + 1, 5, none⟩ = some (.slice none 0 0) := HRES.out.all.2.2.2.2.2
        have y0 : wr.frozen? ⟨g + 1, 0, none⟩ = false := HRES.out.frz 0
        have y1 : wr.frozen? ⟨g + 1, 1, none⟩ = false := HRES.out.frz 1
        have y2 : wr.frozen? ⟨g + 1, 2, none⟩ = false := HRES.out.frz 2
        have y3 : wr.frozen? ⟨g + 1, 3, none⟩ = false := HRES.out.frz 3
        have y4 : wr.frozen? ⟨g + 1, 4, none⟩ = false := HRES.out.frz 4
        have y5 : wr.frozen? ⟨g + 1, 5, none⟩ = false := HRES.out.frz 5
        have HBP : Hid (Below g w ((((((wr.setCell ⟨g + 1, 0, none⟩ (.int .i64 p)).setCell ⟨g + 1, 1, none⟩ (.int .i64 (S : Int))).setCell ⟨g + 1, 2, none⟩ (.int .i64 (W : Int))).setCell ⟨g + 1, 3, none⟩ (.int .i64 (N : Int))).setCell ⟨g + 1, 4, none⟩ (.int .i64 ((nx + q : Nat) : Int))).setCell ⟨g + 1, 5, none⟩ (.slice va vl vc))) := ((((((HX.out.bel.setCell (p := ⟨g + 1, 0, none⟩) (show g ≤ g + 1 by omega) _).setCell (p := ⟨g + 1, 1, none⟩) (show g ≤ g + 1 by omega) _).setCell (p := ⟨g + 1, 2, none⟩) (show g ≤ g + 1 by omega) _).setCell (p := ⟨g + 1, 3, none⟩) (show g ≤ g + 1 by omega) _).setCell (p := ⟨g + 1, 4, none⟩) (show g ≤ g + 1 by omega) _).setCell (p := ⟨g + 1, 5, none⟩) (show g ≤ g + 1 by omega) _)
        have HRP : Hid (RB ((((((wr.setCell ⟨g + 1, 0, none⟩ (.int .i64 p)).setCell ⟨g + 1, 1, none⟩ (.int .i64 (S : Int))).setCell ⟨g + 1, 2, none⟩ (.int .i64 (W : Int))).setCell ⟨g + 1, 3, none⟩ (.int .i64 (N : Int))).setCell ⟨g + 1, 4, none⟩ (.int .i64 ((nx + q : Nat) : Int))).setCell ⟨g + 1, 5, none⟩ (.slice va vl vc)) (g + 1) p (S : Int) (W : Int) (N : Int) ((nx + q : Nat) : Int) (.slice va vl vc)) := put6 HRES.out
        have HOP : Hid (GSl ((((((wr.setCell ⟨g + 1, 0, none⟩ (.int .i64 p)).setCell ⟨g + 1, 1, none⟩ (.int .i64 (S : Int))).setCell ⟨g + 1, 2, none⟩ (.int .i64 (W : Int))).setCell ⟨g + 1, 3, none⟩ (.int .i64 (N : Int))).setCell ⟨g + 1, 4, none⟩ (.int .i64 ((nx + q : Nat) : Int))).setCell ⟨g + 1, 5, none⟩ (.slice va vl vc)) (.slice a q c) (agesL nx (nx + q))) := (((((((HX.out.row.other (show g + 1 < g + 2 by omega) 0 _).other (show g + 1 < g + 2 by omega) 1 _).other (show g + 1 < g + 2 by omega) 2 _).other (show g + 1 < g + 2 by omega) 3 _).other (show g + 1 < g + 2 by omega) 4 _).other (show g + 1 < g + 2 by omega) 5 _)).gsl
        have HFF := HFIN.out (.slice a q c) q ((((((wr.setCell ⟨g + 1, 0, none⟩ (.int .i64 p)).setCell ⟨g + 1, 1, none⟩ (.int .i64 (S : Int))).setCell ⟨g + 1, 2, none⟩ (.int .i64 (W : Int))).setCell ⟨g + 1, 3, none⟩ (.int .i64 (N : Int))).setCell ⟨g + 1, 4, none⟩ (.int .i64 ((nx + q : Nat) : Int))).setCell ⟨g + 1, 5, none⟩ (.slice va vl vc)) hq hqN (by omega) (HV.out _ HBP.out) HOP.out HBP.out (HX.out.row.newV (by omega))
        rw [hy] at HFF HRP
        have HFG : Hid (P (.returned (.tuple #[.agg #[.int .i64 p, .int .i64 (S : Int), .int .i64 (W : Int), .int .i64 (N : Int), .int .i64 (y : Int), (.slice va vl vc)], .slice a q c])) ((((((wr.setCell ⟨g + 1, 0, none⟩ (.int .i64 p)).setCell ⟨g + 1, 1, none⟩ (.int .i64 (S : Int))).setCell ⟨g + 1, 2, none⟩ (.int .i64 (W : Int))).setCell ⟨g + 1, 3, none⟩ (.int .i64 (N : Int))).setCell ⟨g + 1, 4, none⟩ (.int .i64 (y : Int))).setCell ⟨g + 1, 5, none⟩ (.slice va vl vc))) := HFF
        clear HFF HOP HBP hy
        go_wp2_with fail
        refine bodyPost_ret (ret_rd Try.results18 _ (g + 1) rfl _ _ _ _ _ _ _ HRP.out) rfl ?_
        exact HFG.out
theorem rnext_any (p : Int) (S W N : Nat) (next : Int) (turns : List Int) (tv : Value) (wk : Int) (hS : 1 ≤ S ∧ S ≤ 200) (hW : 1 ≤ W ∧ W ≤ 8) (hN : N ≤ 200) (hlen : turns.length = W) (ht : ∀ t ∈ turns, 0 ≤ t ∧ t ≤ 200) (hok : OkD p (S : Int) (N : Int) next turns S N) (hin : 0 ≤ wk ∧ wk < (W : Int)) (w : World) (hv : GSl w tv turns) : Calls Try.prog 18 #[rdV p (S : Int) (W : Int) (N : Int) next tv, .int .i64 wk] w (RNQ p S W N next turns tv wk w) := by
  obtain ⟨r, rfl⟩ : ∃ r : Nat, wk = (r : Int) := ⟨wk.toNat, by omega⟩
  rcases hok.hp with rfl | hp
  · exact rnext_own S W N next turns tv r hS hW hN hlen (by omega) ht hok w hv
  · obtain ⟨nx, rfl⟩ : ∃ nx : Nat, next = (nx : Int) := ⟨next.toNat, by have := hok.hn; omega⟩
    exact rnext_rest p hp S W N nx turns tv r hS hW hN hlen (by omega) hok w hv
end Go.Proofs.Ytamlnagipmomgaa
