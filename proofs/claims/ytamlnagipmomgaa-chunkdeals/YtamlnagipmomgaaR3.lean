/- The document's Next: each worker its own. -/
import Derived.Test.YtamlnagipmomgaaR1
import Derived.Test.YtamlnagipmomgaaR2
namespace Go.Proofs.Ytamlnagipmomgaa
open Go.RowKit Go.Maps
set_option linter.unusedVariables false

theorem put6 {W : World} {g : Nat} {p s k n next p' s' k' n' next' : Int} {tv tv' : Value} (h : RB W g p s k n next tv) : RB ((((((W.setCell ⟨g, 0, none⟩ (.int .i64 p')).setCell ⟨g, 1, none⟩ (.int .i64 s')).setCell ⟨g, 2, none⟩ (.int .i64 k')).setCell ⟨g, 3, none⟩ (.int .i64 n')).setCell ⟨g, 4, none⟩ (.int .i64 next')).setCell ⟨g, 5, none⟩ tv') g p' s' k' n' next' tv' := by
  have e0 := heap_setCell_same W g 0 _ 49 (.int .i64 p') h
  have e1 := heap_setCell_same _ g 1 _ 49 (.int .i64 s') e0
  have e2 := heap_setCell_same _ g 2 _ 49 (.int .i64 k') e1
  have e3 := heap_setCell_same _ g 3 _ 49 (.int .i64 n') e2
  have e4 := heap_setCell_same _ g 4 _ 49 (.int .i64 next') e3
  have e5 := heap_setCell_same _ g 5 _ 49 tv' e4
  unfold RB
  rw [e5]
  rfl
theorem RB.other {w : World} {g h : Nat} {p s k n next : Int} {tv : Value} (q : RB w g p s k n next tv) (hn : g ≠ h) (i : Nat) (u : Value) : RB (w.setCell ⟨h, i, none⟩ u) g p s k n next tv := (Below.heap_setCell _ _ _ _ hn).trans q
theorem IZ.other {w : World} {base : Nat} {u : Value} {l : List Int} (h : IZ w base u l) {g : Nat} (hg : g < base) (i : Nat) (z : Value) : IZ (w.setCell ⟨g, i, none⟩ z) base u l := h.keep fun k hk _ => Below.heap_setCell _ _ _ _ (by show k ≠ g; omega)
theorem IZ.row {w : World} {base : Nat} {a : Option Addr} {m c : Nat} {l : List Int} (h : IZ w base (.slice a m c) l) (hl : 0 < l.length) : ∃ b, a = some ⟨b, 0, none⟩ ∧ base ≤ b ∧ b < w.heap.size ∧ (∀ i, w.frozen? ⟨b, i, none⟩ = false) ∧ (∀ i (hi : i < l.length), w.cell? ⟨b, i, none⟩ = some (.int .i64 l[i])) ∧ m = l.length ∧ ∀ (i : Nat) (z : Int), i < l.length → IZ (w.setCell ⟨b, i, none⟩ (.int .i64 z)) base (.slice a m c) (l.set i z) := by
  have hg := h.gsl
  rcases h.2 with ⟨e, h0⟩ | ⟨b, cap, cur, e, h1, h2, h3, h4, h5, h6⟩
  · omega
  · injection e with e1 e2 e3
    subst e1 e2 e3
    refine ⟨b, rfl, h1, (Array.getElem?_eq_some_iff.1 h2).1, fun i => frozen_of_row w b i _ _ h2, fun i hi => ?_, rfl, fun i z hi => ⟨by simp, .inr ⟨b, c, cur.setIfInBounds i (.int .i64 z), by simp, h1, heap_setCell_same w b i _ 3 _ h2, by simpa using h3, h4, by simpa using h5, ?_⟩⟩⟩
    · obtain ⟨a', c', b', o', e', _, _, q1, q2⟩ := hg
      have := q1 (by omega)
      injection e' with e4 e5 e6
      rw [← e4] at this
      injection this with this
      injection this with t1 t2 t3
      subst t1 t2
      have := q2 i hi
      rw [Nat.zero_add] at this
      exact this
    · rw [List.length_set, Array.toList_setIfInBounds, List.take_set, h6, List.map_set]
/-- a call of the document's Next on its way: the row O that it fills -/
structure NX (w : World) (g : Nat) (p s k n next : Int) (tv av : Value) (O : List Int) (wr : World) : Prop where
  box : RB wr g p s k n next tv
  res : RB wr (g + 1) 0 0 0 0 0 (.slice none 0 0)
  row : IZ wr (g + 2) av O
  bel : Below g w wr
  bs : g + 2 ≤ wr.heap.size
theorem NX.same {w : World} {g : Nat} {p s k n next : Int} {tv av : Value} {O : List Int} {wr wr' : World} (h : NX w g p s k n next tv av O wr) (hg : g ≤ w.heap.size) (c : Below wr.heap.size wr wr') : NX w g p s k n next tv av O wr' :=
  ⟨h.box.below c, h.res.below c, h.row.below c, h.bel.trans (c.mono (Nat.le_trans hg h.bel.size)), Nat.le_trans h.bs c.size⟩
theorem NX.push {w : World} {g : Nat} {p s k n next : Int} {tv av av' : Value} {O O' : List Int} {wr wr' : World} (h : NX w g p s k n next tv av O wr) (hi : IZ wr' (g + 2) av' O') (hb : Below (g + 2) wr wr') : NX w g p s k n next tv av' O' wr' :=
  ⟨(hb.block g (by omega)).trans h.box, (hb.block (g + 1) (by omega)).trans h.res, hi, h.bel.trans (hb.mono (by omega)), Nat.le_trans h.bs hb.size⟩
theorem NX.first (w : World) (p s k n next : Int) (tv : Value) : NX w w.heap.size p s k n next tv (.slice none 0 0) [] ((w.alloc (.cells #[.int .i64 p, .int .i64 s, .int .i64 k, .int .i64 n, .int .i64 next, tv] 49)).alloc Z31) := by
  refine ⟨(RB.new w p s k n next tv).below (bl1 _ _), heap_alloc2_new w _ _, IZ.nil _ _, (bl1 w _).trans ((bl1 _ _).mono (bl1 w _).size), by simp⟩
def RNQ (p : Int) (S W N : Nat) (next : Int) (turns : List Int) (tv : Value) (wk : Int) (w : World) (e : Ending) (w' : World) : Prop :=
  ∃ tv' lv, e = .returned (.tuple #[rdV p (S : Int) (W : Int) (N : Int) (askN p S N next turns wk) tv', lv]) ∧ GSl w' tv' (askT p S N next turns wk) ∧ (tv' = tv ∨ NewV w.heap.size tv') ∧ (∃ a b : Nat, askX p S N next turns wk = ((a : Int), (b : Int)) ∧ a ≤ b ∧ b ≤ N ∧ GSl w' lv (agesL a b)) ∧ NewV w.heap.size lv ∧ Below w.heap.size w w'

set_option maxRecDepth 100000 in
set_option maxHeartbeats 8000000 in
theorem rnext_own (S W N : Nat) (next : Int) (turns : List Int) (tv : Value) (r : Nat) (hS : 1 ≤ S ∧ S ≤ 200) (hW : 1 ≤ W ∧ W ≤ 8) (hN : N ≤ 200) (hlen : turns.length = W) (hr : r < W) (ht : ∀ t ∈ turns, 0 ≤ t ∧ t ≤ 200) (hok : OkD 1 (S : Int) (N : Int) next turns S N) (w : World) (hv : GSl w tv turns) : Calls Try.prog 18 #[rdV 1 (S : Int) (W : Int) (N : Int) next tv, .int .i64 (r : Int)] w (RNQ 1 S W N next turns tv (r : Int) w) := by
  have hrt : r < turns.length := by omega
  obtain ⟨T, t1, t2, t3, t4, t5⟩ := ask_own hok rfl r hrt
  have hT200 : T ≤ 200 := by have := ht turns[r] (List.getElem_mem _); omega
  rw [hlen] at t3 t5
  obtain ⟨lo, hlo⟩ : ∃ lo, (r + T * W) * S = lo := ⟨_, rfl⟩
  rw [hlo] at t3 t5
  obtain ⟨a0, b0, m1, m2, m3⟩ := mid_from N lo S hS.1
  rw [m1] at t3
  have hci := fun q => chunk_iff q r T W S hS.1 hr
  rw [hlo] at hci
  have HCI : Hid (∀ q, (lo ≤ q ∧ q < lo + S) ↔ (q / S % W = r ∧ q / S / W = T)) := hci
  have HAB : Hid (a0 ≤ b0 ∧ b0 ≤ N) := by
    show _ ∧ _
    have := ask_dl hok (r : Int)
    rw [t3] at this
    have h1 := this.2.1
    have h2 := this.2.2.1
    simp only [] at h1 h2
    omega
  have HFIN : Hid (∀ (lv tv' : Value) (nt : List Int) (V : World), nt = askT 1 (S : Int) (N : Int) next turns (r : Int) → GSl V tv' nt → GSl V lv (midL lo (lo + S) N) → Below w.heap.size w V → (tv' = tv ∨ NewV w.heap.size tv') → NewV w.heap.size lv → RNQ 1 S W N next turns tv (r : Int) w (.returned (.tuple #[rdV 1 (S : Int) (W : Int) (N : Int) next tv', lv])) V) := by
    intro lv tv' nt V e1 h1 h2 h3 h4 h5
    refine ⟨tv', lv, by rw [t4], by rw [← e1]; exact h1, h4, ⟨a0, b0, t3, HAB.out.1, HAB.out.2, by rw [← m2]; exact h2⟩, h5, h3⟩
  have HTS : Hid ((midL lo (lo + S) N).length = 0 → turns = askT 1 (S : Int) (N : Int) next turns (r : Int)) := by
    intro q
    rw [t5, if_neg (m3.1 q)]
  have HTN : Hid ((midL lo (lo + S) N).length ≠ 0 → turns.set r ((T : Int) + 1) = askT 1 (S : Int) (N : Int) next turns (r : Int)) := by
    intro q
    rw [t5, if_pos (Decidable.byContradiction fun h => q (m3.2 h))]
  generalize RNQ 1 S W N next turns tv (r : Int) w = P at *
  have HV : Hid (∀ V, Below w.heap.size w V → GSl V tv turns) := fun V hV => hv.below hV
  obtain ⟨va, vc, vb, vo, rfl, h2, h3, h4, h5⟩ := hv
  have hva := h4 (by omega)
  subst hva
  rw [hlen] at h2 HV HFIN ⊢
  have cT0 := h5 r hrt
  rw [t1] at cT0
  have HCT : Hid (∀ V, Below w.heap.size w V → V.cell? ⟨vb, vo + r, none⟩ = some (.int .i64 (T : Int))) := fun V hV => (hV.cell (p := ⟨vb, vo + r, none⟩) (World.block_lt_of_cell? w _ cT0)).trans cT0
  have HOW : Hid (∀ (a : Nat), a ≤ 200 → ∀ V, Calls Try.prog 30 #[rdV 1 (S : Int) (W : Int) (N : Int) next (.slice (some ⟨vb, vo, none⟩) W vc), .int .i64 (a : Int)] V fun e w' => e = .returned (.int .i64 ((a / S % W : Nat) : Int)) ∧ Below V.heap.size V w') := fun a ha V => owner_any 1 next S W _ _ a hS.1 hW.1 ha V
  unfold maxLen at h3
  have HN0 : Hid (NX w w.heap.size 1 (S : Int) (W : Int) (N : Int) next (.slice (some ⟨vb, vo, none⟩) W vc) (.slice none 0 0) [] ((w.alloc (.cells #[.int .i64 1, .int .i64 (S : Int), .int .i64 (W : Int), .int .i64 (N : Int), .int .i64 next, .slice (some ⟨vb, vo, none⟩) W vc] 49)).alloc Z31)) := NX.first w _ _ _ _ _ _
  have HLT : Hid (turns.length = W) := hlen
  have HLO : Hid ((r + T * W) * S = lo) := hlo
  have HTR : Hid (turns[r] = (T : Int)) := t1
  unfold rdV at HOW ⊢
  have e1 : decide ((r : Int) < 0) = false := by simp
  have e2 : decide (W ≤ r) = false := by simp; omega
  have qS : ((S : Int)) ≠ 0 := by omega
  clear hci hlo m1 m2 m3 t1 t2 t3 t4 t5 cT0 h4 h5 hok ht hlen
  go_enter Try.func18, Try.ntmps18
  go_wp2_with fail
  generalize ((w.alloc (.cells #[.int .i64 1, .int .i64 (S : Int), .int .i64 (W : Int), .int .i64 (N : Int), .int .i64 next, .slice (some ⟨vb, vo, none⟩) W vc] 49)).alloc Z31) = U at *
  obtain ⟨g, hg⟩ : ∃ g, w.heap.size = g := ⟨_, rfl⟩
  have HGE : Hid (w.heap.size = g) := hg
  rw [hg] at HN0 HV HCT HFIN
  rw [hg]
  clear hg
  go_loopw [6, 7, 8] (fun out tn ag wr => ∃ (q m : Nat) (a : Option Addr) (c : Nat), out = .slice a m c ∧ tn = .int .i64 ((cntN S W r q : Int) - 1) ∧ ag = .int .i64 (q : Int) ∧ q ≤ N ∧ Hid ((midL lo (lo + S) q).length = m) ∧ Hid (NX w g 1 (S : Int) (W : Int) (N : Int) next (.slice (some ⟨vb, vo, none⟩) W vc) (.slice a m c) (midL lo (lo + S) q) wr)) (fun out tn ag _ => N - (intOf ag).toNat)
  case atStart => exact ⟨0, 0, none, 0, rfl, by rw [cnt_zero S W r hS.1 hr]; rfl, rfl, Nat.zero_le _, by show _ = _; rw [midL_zero]; rfl, by show NX _ _ _ _ _ _ _ _ _ _ _; rw [midL_zero]; exact HN0.out⟩
  case round =>
    obtain ⟨q, m, a, c, rfl, rfl, rfl, hq, HML, HX⟩ := hrel
    obtain ⟨c0, c1, c2, c3, c4, c5⟩ := HX.out.box.all
    by_cases hlt : q < N
    · have e3 : decide (q < N) = true := by simp; omega
      have hcl := cnt_le S W r q hS.1 hW.1
      obtain ⟨C, hC⟩ : ∃ C, cntN S W r q = C := ⟨_, rfl⟩
      rw [hC] at hcl
      have HC : Hid (cntN S W r q = C) := hC
      obtain ⟨R, hR⟩ : ∃ R, q / S % W = R := ⟨_, rfl⟩
      have HRE : Hid (q / S % W = R) := hR
      have HOQ : Hid (∀ V, Calls Try.prog 30 #[.agg #[.int .i64 1, .int .i64 (S : Int), .int .i64 (W : Int), .int .i64 (N : Int), .int .i64 next, .slice (some ⟨vb, vo, none⟩) W vc], .int .i64 (q : Int)] V fun e w' => e = .returned (.int .i64 (R : Int)) ∧ Below V.heap.size V w') := by intro V; have := HOW.out q (by omega) V; rw [hR] at this; exact this
      rw [hC]
      clear hC hR
      go_wp2_with fail
      refine (HOQ.out wr).mono ?_
      rintro e w4 ⟨rfl, b4⟩
      have HX4 : Hid (NX w g 1 (S : Int) (W : Int) (N : Int) next (.slice (some ⟨vb, vo, none⟩) W vc) (.slice a m c) (midL lo (lo + S) q) w4) := HX.out.same (by rw [HGE.out]; exact Nat.le_refl _) b4
      clear b4 c0 c1 c2 c3 c4 c5
      obtain ⟨c0, c1, c2, c3, c4, c5⟩ := HX4.out.box.all
      have cT := HCT.out w4 HX4.out.bel
      by_cases hRr : R = r
      · have f1 : ((R : Int) != (r : Int)) = false := by simp; omega
        have f1b : (R != r) = false := by simp; omega
        have HRR : Hid (q / S % W = r) := by show _ = _; rw [HRE.out, hRr]
        have hcm := cnt_mine S W r q hS.1 hr HRR.out
        obtain ⟨J, hJ⟩ : ∃ J, q / S / W = J := ⟨_, rfl⟩
        have HJ : Hid (q / S / W = J) := hJ
        rw [hJ] at hcm
        have HCM : Hid (cntN S W r (q + 1) = J + 1) := hcm
        obtain ⟨Z, hZ⟩ : ∃ Z, q % S = Z := ⟨_, rfl⟩
        have q4 : Int.tmod (q : Int) (S : Int) = (Z : Int) := by rw [Int.tmod_eq_emod_of_nonneg (Int.natCast_nonneg _), ← hZ]; simp
        have wT : wrap64 (((C : Int) - 1) + 1) = (C : Int) := by rw [w64in _ ⟨by omega, by omega⟩]; omega
        have wT2 : wrap64 ((C : Int) - 1 + 1) = (C : Int) := wT
        have hCJ : (Z = 0 → C = J) ∧ (Z ≠ 0 → C = J + 1) := by
          refine ⟨fun h => ?_, fun h => ?_⟩
          · have := cnt_begin S W r q hS.1 hr HRR.out (by omega)
            have := HC.out; omega
          · have := cnt_within S W r q hS.1 (show ¬ q % S = 0 by omega)
            have := HC.out; omega
        have HTJ : Hid ((lo ≤ q ∧ q < lo + S) ↔ J = T) := by show _ ↔ _; rw [HCI.out q, HRR.out, HJ.out]; simp
        clear hJ hcm hZ hRr
        by_cases hz0 : Z = 0
        · have hC2 : C = J := hCJ.1 hz0
          have f2 : ((Z : Int) == 0) = true := by simp; omega
          have f2b : (Z == 0) = true := by simp; omega
          by_cases hJT : J = T
          · have f3 : ((C : Int) == (T : Int)) = true := by simp; omega
            have HIN : Hid (lo ≤ q ∧ q < lo + S) := HTJ.out.2 hJT
            have HJV : Hid ((C : Int) = (J : Int)) := by show _ = _; omega
            have HXA : Hid (∀ A, NX w g 1 (S : Int) (W : Int) (N : Int) next (.slice (some ⟨vb, vo, none⟩) W vc) (.slice a m c) (midL lo (lo + S) q) (w4.alloc A)) := fun A => HX4.out.same (by rw [HGE.out]; exact Nat.le_refl _) (bl1 _ _)
            clear hJT hC2 hCJ
            go_wp2_with (at_builtin; refine push_int _ rfl _ _ rfl (g + 2) _ (midL lo (lo + S) q) (q : Int) rfl ?p1 _ rfl ?p2 ?p3 ?p4 ?_)
            case p1 => exact (HXA.out _).row
            case p2 => simp
            case p3 => have := midL_len lo (lo + S) q; omega
            case p4 => exact (HXA.out _).bs
            intro v5 w5 hi5 hb5
            rw [midL_in lo (lo + S) q HIN.out.1 HIN.out.2] at hi5
            obtain ⟨a5, k5, hv5⟩ := hi5.sl
            obtain ⟨m5, hm5⟩ : ∃ m5, (midL lo (lo + S) (q + 1)).length = m5 := ⟨_, rfl⟩
            rw [hm5] at hv5
            rw [hv5]
            have HX5 : Hid (NX w g 1 (S : Int) (W : Int) (N : Int) next (.slice (some ⟨vb, vo, none⟩) W vc) (.slice a5 m5 k5) (midL lo (lo + S) (q + 1)) w5) := by rw [hv5] at hi5; exact (HXA.out _).push hi5 hb5
            clear hi5 hb5 hv5 c0 c1 c2 c3 c4 c5 cT
            go_wp2_with fail
            go_roundw
            case rel => exact ⟨q + 1, m5, a5, k5, rfl, by rw [HCM.out]; have := HJV.out; simp; omega, by go_num, by omega, hm5, HX5⟩
            case measure => simp [intOf]; omega
          · have f3 : ((C : Int) == (T : Int)) = false := by simp; omega
            have HJV : Hid ((C : Int) = (J : Int)) := by show _ = _; omega
            have HMO : Hid (midL lo (lo + S) q = midL lo (lo + S) (q + 1)) := midL_out _ _ _ (fun h => hJT (HTJ.out.1 h))
            clear hJT hC2 hCJ
            go_wp2_with fail
            go_roundw
            case rel => exact ⟨q + 1, m, a, c, rfl, by rw [HCM.out]; have := HJV.out; simp; omega, by go_num, by omega, by show _ = _; rw [← HMO.out]; exact HML.out, by show NX _ _ _ _ _ _ _ _ _ _ _; rw [← HMO.out]; exact HX4.out⟩
            case measure => simp [intOf]; omega
        · have hC2 : C = J + 1 := hCJ.2 hz0
          have f2 : ((Z : Int) == 0) = false := by simp; omega
          have f2b : (Z == 0) = false := by simp; omega
          by_cases hJT : J = T
          · have f3 : ((C : Int) - 1 == (T : Int)) = true := by simp; omega
            have HIN : Hid (lo ≤ q ∧ q < lo + S) := HTJ.out.2 hJT
            have HJV : Hid ((C : Int) - 1 = (J : Int)) := by show _ = _; omega
            have HXA : Hid (∀ A, NX w g 1 (S : Int) (W : Int) (N : Int) next (.slice (some ⟨vb, vo, none⟩) W vc) (.slice a m c) (midL lo (lo + S) q) (w4.alloc A)) := fun A => HX4.out.same (by rw [HGE.out]; exact Nat.le_refl _) (bl1 _ _)
            clear hJT hC2 hCJ
            go_wp2_with (at_builtin; refine push_int _ rfl _ _ rfl (g + 2) _ (midL lo (lo + S) q) (q : Int) rfl ?p1 _ rfl ?p2 ?p3 ?p4 ?_)
            case p1 => exact (HXA.out _).row
            case p2 => simp
            case p3 => have := midL_len lo (lo + S) q; omega
            case p4 => exact (HXA.out _).bs
            intro v5 w5 hi5 hb5
            rw [midL_in lo (lo + S) q HIN.out.1 HIN.out.2] at hi5
            obtain ⟨a5, k5, hv5⟩ := hi5.sl
            obtain ⟨m5, hm5⟩ : ∃ m5, (midL lo (lo + S) (q + 1)).length = m5 := ⟨_, rfl⟩
            rw [hm5] at hv5
            rw [hv5]
            have HX5 : Hid (NX w g 1 (S : Int) (W : Int) (N : Int) next (.slice (some ⟨vb, vo, none⟩) W vc) (.slice a5 m5 k5) (midL lo (lo + S) (q + 1)) w5) := by rw [hv5] at hi5; exact (HXA.out _).push hi5 hb5
            clear hi5 hb5 hv5 c0 c1 c2 c3 c4 c5 cT
            go_wp2_with fail
            go_roundw
            case rel => exact ⟨q + 1, m5, a5, k5, rfl, by rw [HCM.out]; have := HJV.out; simp; omega, by go_num, by omega, hm5, HX5⟩
            case measure => simp [intOf]; omega
          · have f3 : ((C : Int) - 1 == (T : Int)) = false := by simp; omega
            have HJV : Hid ((C : Int) - 1 = (J : Int)) := by show _ = _; omega
            have HMO : Hid (midL lo (lo + S) q = midL lo (lo + S) (q + 1)) := midL_out _ _ _ (fun h => hJT (HTJ.out.1 h))
            clear hJT hC2 hCJ
            go_wp2_with fail
            go_roundw
            case rel => exact ⟨q + 1, m, a, c, rfl, by rw [HCM.out]; have := HJV.out; simp; omega, by go_num, by omega, by show _ = _; rw [← HMO.out]; exact HML.out, by show NX _ _ _ _ _ _ _ _ _ _ _; rw [← HMO.out]; exact HX4.out⟩
            case measure => simp [intOf]; omega
      · have f1 : ((R : Int) != (r : Int)) = true := by simp; omega
        have f1b : (R != r) = true := by simp; omega
        have HNR : Hid (¬ q / S % W = r) := by show ¬ _; rw [HRE.out]; exact hRr
        have HC1 : Hid (cntN S W r (q + 1) = C) := by show _ = _; rw [cnt_other S W r q hS.1 hr HNR.out]; exact HC.out
        have HMO : Hid (midL lo (lo + S) q = midL lo (lo + S) (q + 1)) := midL_out _ _ _ (fun h => HNR.out ((HCI.out q).1 h).1)
        go_wp2_with fail
        go_roundw
        case rel => exact ⟨q + 1, m, a, c, rfl, by rw [HC1.out], by go_num, by omega, by show _ = _; rw [← HMO.out]; exact HML.out, by show NX _ _ _ _ _ _ _ _ _ _ _; rw [← HMO.out]; exact HX4.out⟩
        case measure => simp [intOf]; omega
    · have hqN : q = N := by omega
      have HML2 : Hid ((midL lo (lo + S) N).length = m) := by rw [hqN] at HML; exact HML
      have HX2 : Hid (NX w g 1 (S : Int) (W : Int) (N : Int) next (.slice (some ⟨vb, vo, none⟩) W vc) (.slice a m c) (midL lo (lo + S) N) wr) := by rw [hqN] at HX; exact HX
      have e3 : decide (q < N) = false := by simp; omega
      clear hqN
      rcases Nat.eq_zero_or_pos m with hm0 | hm0
      · subst hm0
        have HRES : Hid (RB wr (g + 1) 0 0 0 0 0 (.slice none 0 0)) := HX2.out.res
        have z0 : wr.cell? ⟨g + 1, 0, none⟩ = some (.int .i64 0) := HRES.out.all.1
        have z1 : wr.cell? ⟨g + 1, 1, none⟩ = some (.int .i64 0) := HRES.out.all.2.1
        have z2 : wr.cell? ⟨g + 1, 2, none⟩ = some (.int .i64 0) := HRES.out.all.2.2.1
        have z3 : wr.cell? ⟨g + 1, 3, none⟩ = some (.int .i64 0) := HRES.out.all.2.2.2.1
        have z4 : wr.cell? ⟨g + 1, 4, none⟩ = some (.int .i64 0) := HRES.out.all.2.2.2.2.1
        have z5 : wr.cell? ⟨g + 1, 5, none⟩ = some (.slice none 0 0) := HRES.out.all.2.2.2.2.2
        have y0 : wr.frozen? ⟨g + 1, 0, none⟩ = false := HRES.out.frz 0
        have y1 : wr.frozen? ⟨g + 1, 1, none⟩ = false := HRES.out.frz 1
        have y2 : wr.frozen? ⟨g + 1, 2, none⟩ = false := HRES.out.frz 2
        have y3 : wr.frozen? ⟨g + 1, 3, none⟩ = false := HRES.out.frz 3
        have y4 : wr.frozen? ⟨g + 1, 4, none⟩ = false := HRES.out.frz 4
        have y5 : wr.frozen? ⟨g + 1, 5, none⟩ = false := HRES.out.frz 5
        have HBP : Hid (Below g w ((((((wr.setCell ⟨g + 1, 0, none⟩ (.int .i64 1)).setCell ⟨g + 1, 1, none⟩ (.int .i64 (S : Int))).setCell ⟨g + 1, 2, none⟩ (.int .i64 (W : Int))).setCell ⟨g + 1, 3, none⟩ (.int .i64 (N : Int))).setCell ⟨g + 1, 4, none⟩ (.int .i64 next)).setCell ⟨g + 1, 5, none⟩ (.slice (some ⟨vb, vo, none⟩) W vc))) := ((((((HX2.out.bel.setCell (p := ⟨g + 1, 0, none⟩) (show g ≤ g + 1 by omega) _).setCell (p := ⟨g + 1, 1, none⟩) (show g ≤ g + 1 by omega) _).setCell (p := ⟨g + 1, 2, none⟩) (show g ≤ g + 1 by omega) _).setCell (p := ⟨g + 1, 3, none⟩) (show g ≤ g + 1 by omega) _).setCell (p := ⟨g + 1, 4, none⟩) (show g ≤ g + 1 by omega) _).setCell (p := ⟨g + 1, 5, none⟩) (show g ≤ g + 1 by omega) _)
        have HRP : Hid (RB ((((((wr.setCell ⟨g + 1, 0, none⟩ (.int .i64 1)).setCell ⟨g + 1, 1, none⟩ (.int .i64 (S : Int))).setCell ⟨g + 1, 2, none⟩ (.int .i64 (W : Int))).setCell ⟨g + 1, 3, none⟩ (.int .i64 (N : Int))).setCell ⟨g + 1, 4, none⟩ (.int .i64 next)).setCell ⟨g + 1, 5, none⟩ (.slice (some ⟨vb, vo, none⟩) W vc)) (g + 1) 1 (S : Int) (W : Int) (N : Int) next (.slice (some ⟨vb, vo, none⟩) W vc)) := put6 HRES.out
        have HOP : Hid (GSl ((((((wr.setCell ⟨g + 1, 0, none⟩ (.int .i64 1)).setCell ⟨g + 1, 1, none⟩ (.int .i64 (S : Int))).setCell ⟨g + 1, 2, none⟩ (.int .i64 (W : Int))).setCell ⟨g + 1, 3, none⟩ (.int .i64 (N : Int))).setCell ⟨g + 1, 4, none⟩ (.int .i64 next)).setCell ⟨g + 1, 5, none⟩ (.slice (some ⟨vb, vo, none⟩) W vc)) (.slice a 0 c) (midL lo (lo + S) N)) := (((((((HX2.out.row.other (show g + 1 < g + 2 by omega) 0 _).other (show g + 1 < g + 2 by omega) 1 _).other (show g + 1 < g + 2 by omega) 2 _).other (show g + 1 < g + 2 by omega) 3 _).other (show g + 1 < g + 2 by omega) 4 _).other (show g + 1 < g + 2 by omega) 5 _)).gsl
        go_wp2_with fail
        refine bodyPost_ret (ret_rd Try.results18 _ (g + 1) rfl _ _ _ _ _ _ _ HRP.out) rfl ?_
        exact HFIN.out _ _ _ _ (HTS.out HML2.out) (HV.out _ HBP.out) HOP.out HBP.out (.inl rfl) (HX2.out.row.newV (by omega))
      · have f1 : decide (0 < m) = true := by simp; omega
        have c5A : ∀ A, (wr.alloc A).cell? ⟨g, 5, none⟩ = some (.slice (some ⟨vb, vo, none⟩) W vc) := fun A => (HX2.out.box.below (bl1 _ A)).all.2.2.2.2.2
        have HGU : Hid (GSl (wr.alloc (.cells #[] 3)) (.slice (some ⟨vb, vo, none⟩) W vc) turns) := (HV.out wr HX2.out.bel).below (bl1 _ _)
        have HBU : Hid (wr.heap.size ≤ (wr.alloc (.cells #[] 3)).heap.size) := by show _ ≤ _; simp
        have HEU : Hid (IZ (wr.alloc (.cells #[] 3)) wr.heap.size (.slice (some ⟨wr.heap.size, 0, none⟩) 0 0) []) := IZ.empty wr _ (Nat.le_refl _)
        go_wp2_with (at_builtin; refine push_ints _ rfl _ _ rfl wr.heap.size _ _ [] turns rfl rfl HEU.out HGU.out ?l1 HBU.out ?_)
        case l1 => rw [HLT.out]; simp; omega
        intro v5 w5 hi5 hb5
        obtain ⟨a5, k5, hv5⟩ := hi5.sl
        rw [HLT.out] at hv5
        rw [hv5] at hi5 ⊢
        have hB5 : Below wr.heap.size wr w5 := (bl1 wr _).trans hb5
        have HX5 : Hid (NX w g 1 (S : Int) (W : Int) (N : Int) next (.slice (some ⟨vb, vo, none⟩) W vc) (.slice a m c) (midL lo (lo + S) N) w5) := HX2.out.same (by rw [HGE.out]; exact Nat.le_refl _) hB5
        obtain ⟨b5, rfl, q1, q2, q3, q4, q5, q6⟩ := hi5.row (by rw [HLT.out]; omega)
        have HROW : Hid (∀ (i : Nat) (z : Int), i < turns.length → IZ (w5.setCell ⟨b5, i, none⟩ (.int .i64 z)) wr.heap.size (.slice (some ⟨b5, 0, none⟩) W k5) (turns.set i z)) := q6
        have HQ1 : Hid (wr.heap.size ≤ b5) := q1
        have HBS : Hid (g + 2 ≤ wr.heap.size) := HX2.out.bs
        have HQ4 : Hid (w5.cell? ⟨b5, r, none⟩ = some (.int .i64 (T : Int))) := by have := q4 r (by rw [HLT.out]; exact hr); rw [HTR.out] at this; exact this
        have HQ3 : Hid (w5.frozen? ⟨b5, r, none⟩ = false) := q3 r
        have HI5 : Hid (IZ w5 wr.heap.size (.slice (some ⟨b5, 0, none⟩) W k5) turns) := hi5
        have HB5 : Hid (Below wr.heap.size wr w5) := hB5
        clear hi5 hb5 hv5 hB5 q1 q2 q3 q4 q5 q6 c0 c1 c2 c3 c4 c5 c5A
        obtain ⟨c0, c1, c2, c3, c4, c5⟩ := HX5.out.box.all
        have x5 : w5.frozen? ⟨g, 5, none⟩ = false := HX5.out.box.frz 5
        have cb : w5.cell? ⟨b5, r, none⟩ = some (.int .i64 (T : Int)) := HQ4.out
        have fb : w5.frozen? ⟨b5, r, none⟩ = false := HQ3.out
        have n1 : ¬ g = b5 := by have := HQ1.out; have := HBS.out; omega
        have n2 : ¬ b5 = g := fun q => n1 q.symm
        have n3 : ¬ g + 1 = b5 := by have := HQ1.out; have := HBS.out; omega
        have n4 : ¬ b5 = g + 1 := fun q => n3 q.symm
        have wT : wrap64 ((T : Int) + 1) = (T : Int) + 1 := w64in _ ⟨by omega, by omega⟩
        have HRES : Hid (RB w5 (g + 1) 0 0 0 0 0 (.slice none 0 0)) := HX5.out.res
        have z0 : w5.cell? ⟨g + 1, 0, none⟩ = some (.int .i64 0) := HRES.out.all.1
        have z1 : w5.cell? ⟨g + 1, 1, none⟩ = some (.int .i64 0) := HRES.out.all.2.1
        have z2 : w5.cell? ⟨g + 1, 2, none⟩ = some (.int .i64 0) := HRES.out.all.2.2.1
        have z3 : w5.cell? ⟨g + 1, 3, none⟩ = some (.int .i64 0) := HRES.out.all.2.2.2.1
        have z4 : w5.cell? ⟨g + 1, 4, none⟩ = some (.int .i64 0) := HRES.out.all.2.2.2.2.1
        have z5 : w5.cell? ⟨g + 1, 5, none⟩ = some (.slice none 0 0) := HRES.out.all.2.2.2.2.2
        have y0 : w5.frozen? ⟨g + 1, 0, none⟩ = false := HRES.out.frz 0
        have y1 : w5.frozen? ⟨g + 1, 1, none⟩ = false := HRES.out.frz 1
        have y2 : w5.frozen? ⟨g + 1, 2, none⟩ = false := HRES.out.frz 2
        have y3 : w5.frozen? ⟨g + 1, 3, none⟩ = false := HRES.out.frz 3
        have y4 : w5.frozen? ⟨g + 1, 4, none⟩ = false := HRES.out.frz 4
        have y5 : w5.frozen? ⟨g + 1, 5, none⟩ = false := HRES.out.frz 5
        have HR7 : Hid (RB ((w5.setCell ⟨g, 5, none⟩ (.slice (some ⟨b5, 0, none⟩) W k5)).setCell ⟨b5, r, none⟩ (.int .i64 ((T : Int) + 1))) (g + 1) 0 0 0 0 0 (.slice none 0 0)) := (HRES.out.other (show g + 1 ≠ g by omega) _ _).other n3 _ _
        have HT7 : Hid (IZ ((w5.setCell ⟨g, 5, none⟩ (.slice (some ⟨b5, 0, none⟩) W k5)).setCell ⟨b5, r, none⟩ (.int .i64 ((T : Int) + 1))) wr.heap.size (.slice (some ⟨b5, 0, none⟩) W k5) (turns.set r ((T : Int) + 1))) := by
          have hi6 := HI5.out.other (g := g) (by have := HBS.out; omega) 5 (.slice (some ⟨b5, 0, none⟩) W k5)
          obtain ⟨b6, e6, _, _, _, _, _, q6⟩ := hi6.row (by rw [HLT.out]; omega)
          injection e6 with e6
          injection e6 with e6
          subst e6
          exact q6 r _ (by rw [HLT.out]; exact hr)
        have HO7 : Hid (IZ ((w5.setCell ⟨g, 5, none⟩ (.slice (some ⟨b5, 0, none⟩) W k5)).setCell ⟨b5, r, none⟩ (.int .i64 ((T : Int) + 1))) (g + 2) (.slice a m c) (midL lo (lo + S) N)) := by
          have hw5 : IZ wr (g + 2) (.slice a m c) (midL lo (lo + S) N) := HX2.out.row
          exact hw5.keep fun k hk hk2 => ((Below.heap_setCell _ _ _ _ (by show k ≠ b5; have := HQ1.out; omega)).trans (Below.heap_setCell _ _ _ _ (by show k ≠ g; omega))).trans (HB5.out.block k hk2)
        have HB7 : Hid (Below g w ((w5.setCell ⟨g, 5, none⟩ (.slice (some ⟨b5, 0, none⟩) W k5)).setCell ⟨b5, r, none⟩ (.int .i64 ((T : Int) + 1)))) := (HX5.out.bel.setCell (p := ⟨g, 5, none⟩) (Nat.le_refl g) _).setCell (p := ⟨b5, r, none⟩) (show g ≤ b5 by have := HQ1.out; have := HBS.out; omega) _
        have HBP : Hid (Below g w ((((((((w5.setCell ⟨g, 5, none⟩ (.slice (some ⟨b5, 0, none⟩) W k5)).setCell ⟨b5, r, none⟩ (.int .i64 ((T : Int) + 1))).setCell ⟨g + 1, 0, none⟩ (.int .i64 1)).setCell ⟨g + 1, 1, none⟩ (.int .i64 (S : Int))).setCell ⟨g + 1, 2, none⟩ (.int .i64 (W : Int))).setCell ⟨g + 1, 3, none⟩ (.int .i64 (N : Int))).setCell ⟨g + 1, 4, none⟩ (.int .i64 next)).setCell ⟨g + 1, 5, none⟩ (.slice (some ⟨b5, 0, none⟩) W k5))) := ((((((HB7.out.setCell (p := ⟨g + 1, 0, none⟩) (show g ≤ g + 1 by omega) _).setCell (p := ⟨g + 1, 1, none⟩) (show g ≤ g + 1 by omega) _).setCell (p := ⟨g + 1, 2, none⟩) (show g ≤ g + 1 by omega) _).setCell (p := ⟨g + 1, 3, none⟩) (show g ≤ g + 1 by omega) _).setCell (p := ⟨g + 1, 4, none⟩) (show g ≤ g + 1 by omega) _).setCell (p := ⟨g + 1, 5, none⟩) (show g ≤ g + 1 by omega) _)
        have HRP : Hid (RB ((((((((w5.setCell ⟨g, 5, none⟩ (.slice (some ⟨b5, 0, none⟩) W k5)).setCell ⟨b5, r, none⟩ (.int .i64 ((T : Int) + 1))).setCell ⟨g + 1, 0, none⟩ (.int .i64 1)).setCell ⟨g + 1, 1, none⟩ (.int .i64 (S : Int))).setCell ⟨g + 1, 2, none⟩ (.int .i64 (W : Int))).setCell ⟨g + 1, 3, none⟩ (.int .i64 (N : Int))).setCell ⟨g + 1, 4, none⟩ (.int .i64 next)).setCell ⟨g + 1, 5, none⟩ (.slice (some ⟨b5, 0, none⟩) W k5)) (g + 1) 1 (S : Int) (W : Int) (N : Int) next (.slice (some ⟨b5, 0, none⟩) W k5)) := put6 HR7.out
        have HOP : Hid (GSl ((((((((w5.setCell ⟨g, 5, none⟩ (.slice (some ⟨b5, 0, none⟩) W k5)).setCell ⟨b5, r, none⟩ (.int .i64 ((T : Int) + 1))).setCell ⟨g + 1, 0, none⟩ (.int .i64 1)).setCell ⟨g + 1, 1, none⟩ (.int .i64 (S : Int))).setCell ⟨g + 1, 2, none⟩ (.int .i64 (W : Int))).setCell ⟨g + 1, 3, none⟩ (.int .i64 (N : Int))).setCell ⟨g + 1, 4, none⟩ (.int .i64 next)).setCell ⟨g + 1, 5, none⟩ (.slice (some ⟨b5, 0, none⟩) W k5)) (.slice a m c) (midL lo (lo + S) N)) := (((((((HO7.out.other (show g + 1 < g + 2 by omega) 0 _).other (show g + 1 < g + 2 by omega) 1 _).other (show g + 1 < g + 2 by omega) 2 _).other (show g + 1 < g + 2 by omega) 3 _).other (show g + 1 < g + 2 by omega) 4 _).other (show g + 1 < g + 2 by omega) 5 _)).gsl
        have HTP : Hid (GSl ((((((((w5.setCell ⟨g, 5, none⟩ (.slice (some ⟨b5, 0, none⟩) W k5)).setCell ⟨b5, r, none⟩ (.int .i64 ((T : Int) + 1))).setCell ⟨g + 1, 0, none⟩ (.int .i64 1)).setCell ⟨g + 1, 1, none⟩ (.int .i64 (S : Int))).setCell ⟨g + 1, 2, none⟩ (.int .i64 (W : Int))).setCell ⟨g + 1, 3, none⟩ (.int .i64 (N : Int))).setCell ⟨g + 1, 4, none⟩ (.int .i64 next)).setCell ⟨g + 1, 5, none⟩ (.slice (some ⟨b5, 0, none⟩) W k5)) (.slice (some ⟨b5, 0, none⟩) W k5) (turns.set r ((T : Int) + 1))) := (((((((HT7.out.other (show g + 1 < wr.heap.size by have := HBS.out; omega) 0 _).other (show g + 1 < wr.heap.size by have := HBS.out; omega) 1 _).other (show g + 1 < wr.heap.size by have := HBS.out; omega) 2 _).other (show g + 1 < wr.heap.size by have := HBS.out; omega) 3 _).other (show g + 1 < wr.heap.size by have := HBS.out; omega) 4 _).other (show g + 1 < wr.heap.size by have := HBS.out; omega) 5 _)).gsl
        have HBS2 := HBS.out
        go_wp2_with fail
        refine bodyPost_ret (ret_rd Try.results18 _ (g + 1) rfl _ _ _ _ _ _ _ HRP.out) rfl ?_
        exact HFIN.out _ _ _ _ (HTN.out (by rw [HML2.out]; omega)) HTP.out HOP.out HBP.out (.inr (HI5.out.newV (by have := HBS.out; omega))) (HX2.out.row.newV (by omega))
end Go.Proofs.Ytamlnagipmomgaa
