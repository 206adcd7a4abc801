/- ChunkDeals: the law's walk. -/
import Derived.Test.YtamlnagipmomgaaR8
import Derived.Deep.CutRange
namespace Go.Proofs.Ytamlnagipmomgaa
open Go.RowKit Go.Maps
set_option linter.unusedVariables false

set_option maxRecDepth 100000 in
set_option maxHeartbeats 8000000 in
theorem deals_walk (p s k n : Int) (v : Value) (A : List Int) (w : World) (hv : GSl w v A) : Calls Try.prog 8 #[.agg #[.int .i64 p, .int .i64 s, .int .i64 k, .int .i64 n, v]] w fun e w' => e = .returned (.bool true) ∧ Below w.heap.size w w' := by
  obtain ⟨va, vc, vb, vo, rfl, h2, h3, h4, h5⟩ := hv
  obtain ⟨L, hL⟩ : ∃ L, A.length = L := ⟨_, rfl⟩
  have HLA : Hid (A.length = L) := hL
  have H4 : Hid (0 < A.length → va = some ⟨vb, vo, none⟩) := h4
  have H5 : Hid (∀ i (h : i < A.length), w.cell? ⟨vb, vo + i, none⟩ = some (.int .i64 A[i])) := h5
  rw [hL] at h2 ⊢
  unfold maxLen at h3
  clear hL h4 h5
  by_cases hbig : 300 < L
  · have e1 : decide (300 < (L : Int)) = true := by simp; omega
    go_enter Try.func8, Try.ntmps8
    go_wp2
    go_ret
    exact ⟨rfl, bl1 _ _⟩
  have e1 : decide (300 < (L : Int)) = false := by simp; omega
  have HN : Hid (∀ w, Calls Try.prog 15 #[.int .i64 p, .int .i64 s, .int .i64 k, .int .i64 n] w (NewQ p s k n w)) := new_any p s k n
  have HRN : Hid (∀ w, Calls Try.prog 16 #[.int .i64 p, .int .i64 s, .int .i64 k, .int .i64 n] w (RNewQ p s k n w)) := rnew_any p s k n
  have HX0 : Hid (XB (w.alloc (.cells #[.int .i64 p, .int .i64 s, .int .i64 k, .int .i64 n, .slice va L vc] 44)) w.heap.size p s k n (.slice va L vc)) := XB.new w p s k n _
  have HZ0 : Hid (w.heap.size + 1 ≤ (w.alloc (.cells #[.int .i64 p, .int .i64 s, .int .i64 k, .int .i64 n, .slice va L vc] 44)).heap.size) := by show _ ≤ _; simp
  by_cases herr : errN p s k n = 0
  · obtain ⟨hs1, hk1, hn1⟩ := err_ok herr
    obtain ⟨N, rfl⟩ : ∃ N : Nat, n = (N : Int) := ⟨n.toNat, by omega⟩
    obtain ⟨W, rfl⟩ : ∃ W : Nat, k = (W : Int) := ⟨k.toNat, by omega⟩
    obtain ⟨S, rfl⟩ : ∃ S : Nat, s = (S : Int) := ⟨s.toNat, by omega⟩
    have hS1 : 1 ≤ S ∧ S ≤ 200 := by omega
    have hW1 : 1 ≤ W ∧ W ≤ 8 := by omega
    have hN2 : N ≤ 200 := by omega
    clear hk1 hn1 hs1
    go_enter Try.func8, Try.ntmps8
    go_wp2_with fail
    refine (HN.out _).mono ?_
    rintro e w1 ⟨b1, _, hq⟩
    obtain ⟨db, tb, rfl, D1, l1, l2⟩ := hq herr
    have HD1 : Hid (DL w1 db tb p (S : Int) (N : Int) 0 (List.replicate W 0)) := by have e : ((W : Int)).toNat = W := Int.toNat_natCast W; rw [e] at D1; exact D1
    have HX1 : Hid (XB w1 w.heap.size p (S : Int) (W : Int) (N : Int) (.slice va L vc)) := HX0.out.below b1
    have HB1 : Hid (Below w.heap.size w w1) := (bl1 w _).trans (b1.mono (bl1 w _).size)
    have HL1 : Hid (w.heap.size + 1 ≤ db ∧ w.heap.size + 1 ≤ tb) := by have := HZ0.out; exact ⟨by omega, by omega⟩
    obtain ⟨c0, c1, c2, c3, c4⟩ := HX1.out.all
    clear b1 hq D1 l1 l2 HN
    go_wp2_with fail
    refine (HRN.out _).mono ?_
    rintro e w2 ⟨b2, _, hq⟩
    obtain ⟨tv, rfl, G2, N2⟩ := hq herr
    obtain ⟨ta, tl, tc, rfl⟩ : ∃ a l c, tv = Value.slice a l c := by obtain ⟨a, c, _, _, e, _⟩ := G2; exact ⟨_, _, _, e⟩
    have HSM : Hid (SM w w.heap.size w2.heap.size db tb p S W N (.slice va L vc) (.slice ta tl tc) 0 (List.replicate W 0) 0 (List.replicate W 0) (w2.alloc (.cells #[.int .i64 p, .int .i64 (S : Int), .int .i64 (W : Int), .int .i64 (N : Int), .int .i64 0, .slice ta tl tc] 49))) := by
      have e : ((W : Int)).toNat = W := Int.toNat_natCast W
      rw [e] at G2
      have hl := HD1.out.lt
      have hx := HX1.out.lt
      have hz := b2.size
      have hb := HB1.out.size
      have hL := HL1.out
      refine ⟨(HD1.out.below b2).alloc _, by simp, (HX1.out.below b2).below (bl1 _ _), RB.new w2 _ _ _ _ _ _, G2.below (bl1 _ _), fun a l c ee => ?_, (HB1.out.trans (b2.mono hb)).alloc (Nat.le_trans hb hz) _, ⟨Nat.le_refl _, by omega, by omega, by omega⟩, by omega, by omega, by omega, by omega, by omega⟩
      have h1 := N2 a l c ee
      have h2 : a.block < w2.heap.size := by
        obtain ⟨a', c', b', o', e1, _, _, e4, e5⟩ := G2
        have ha := e4 (by simp; omega)
        rw [ha] at e1
        rw [e1] at ee
        injection ee with ee
        injection ee with ee
        subst ee
        exact World.block_lt_of_cell? w2 _ (e5 0 (by simp; omega))
      omega
    clear b2 hq G2 N2 HRN
    unfold rdV
    go_wp2_with fail
    generalize w2.alloc (.cells #[.int .i64 p, .int .i64 (S : Int), .int .i64 (W : Int), .int .i64 (N : Int), .int .i64 0, .slice ta tl tc] 49) = U at *
    clear c0 c1 c2 c3 c4 HX1 HD1 HX0
    obtain ⟨rb, hrb⟩ : ∃ rb, w2.heap.size = rb := ⟨_, rfl⟩
    obtain ⟨x, hx⟩ : ∃ x, w.heap.size = x := ⟨_, rfl⟩
    have HXE : Hid (w.heap.size = x) := hx
    rw [hrb, hx] at HSM
    rw [hrb, hx]
    clear hrb hx
    go_loopw [7, 8, 9, 10, 11, 12] (fun i l sp ok nx tn wr => ∃ (q : Nat) (next : Int) (turns : List Int) (ta : Option Addr) (tl tc : Nat), i = .int .i64 (q : Int) ∧ q ≤ L ∧ Hid (SM w x rb db tb p S W N (.slice va L vc) (.slice ta tl tc) next turns next turns wr)) (fun i l sp ok nx tn _ => L - (intOf i).toNat)
    case atStart => exact ⟨0, 0, _, ta, tl, tc, rfl, Nat.zero_le _, HSM⟩
    case round =>
      clear HSM
      obtain ⟨q, next, turns, ta, tl, tc, rfl, hq, HI⟩ := hrel
      obtain ⟨V, rfl⟩ : ∃ V, V = wr := ⟨_, rfl⟩
      obtain ⟨c0, c1, c2, c3, c4⟩ := HI.out.box.all
      by_cases hlt : q < L
      · have e3 : decide (q < L) = true := by simp; omega
        have hqA : q < A.length := by rw [HLA.out]; exact hlt
        obtain rfl := H4.out (by omega)
        obtain ⟨wk, hwk⟩ : ∃ wk, A[q] = wk := ⟨_, rfl⟩
        have HA0 : Hid (w.cell? ⟨vb, vo + q, none⟩ = some (.int .i64 wk)) := by have := H5.out q hqA; rw [hwk] at this; exact this
        have HAc : Hid (∀ V, Below w.heap.size w V → V.cell? ⟨vb, vo + q, none⟩ = some (.int .i64 wk)) := fun V hV => (hV.cell (p := ⟨vb, vo + q, none⟩) (World.block_lt_of_cell? w _ HA0.out)).trans HA0.out
        clear hwk
        have cA : V.cell? ⟨vb, vo + q, none⟩ = some (.int .i64 wk) := HAc.out V HI.out.bel
        go_wp2_with fail
        refine (next_any wk V HI.out.dl).mono ?_
        rintro e w4 ⟨rfl, D4, C4⟩
        have hok : OkD p (S : Int) (N : Int) next turns S N := by have := HI.out.dl.ok; simpa using this
        have hAD := ask_dl hok wk
        have hAZ := ask_zero hok wk
        have hLW := HI.out.len
        have htb : ∀ t ∈ turns, 0 ≤ t ∧ t ≤ 200 := HI.out.dl.ht
        obtain ⟨n2, hn2⟩ : ∃ z, askN p (S : Int) (N : Int) next turns wk = z := ⟨_, rfl⟩
        obtain ⟨t2, ht2⟩ : ∃ z, askT p (S : Int) (N : Int) next turns wk = z := ⟨_, rfl⟩
        have hlen2 : t2.length = W := by rw [← ht2, hAD.2.2.2.2.1]; exact hLW
        obtain ⟨a, b, hx, hab, hbN⟩ : ∃ a b : Nat, askX p (S : Int) (N : Int) next turns wk = ((a : Int), (b : Int)) ∧ a ≤ b ∧ b ≤ N := by
          refine ⟨(askX p (S : Int) (N : Int) next turns wk).1.toNat, (askX p (S : Int) (N : Int) next turns wk).2.toNat, ?_, by omega, by omega⟩
          have h1 := hAD.1
          have h2 := hAD.2.2.1
          generalize askX p (S : Int) (N : Int) next turns wk = X at *
          obtain ⟨X1, X2⟩ := X
          simp only [Prod.mk.injEq] at *
          omega
        have HABZ : Hid (a < b ∨ (a = 0 ∧ b = 0)) := by
          rw [hx] at hAZ
          by_cases h : a < b
          · exact .inl h
          · have := hAZ (by simp only []; omega)
            rw [Prod.mk.injEq] at this
            exact .inr (by omega)
        have HJ : Hid (SM w x rb db tb p S W N (.slice (some ⟨vb, vo, none⟩) L vc) (.slice ta tl tc) n2 t2 next turns w4) := by rw [hn2, ht2] at D4; exact HI.out.deal D4 hlen2 C4
        have HRN : Hid (∀ V4, GSl V4 (.slice ta tl tc) turns → Calls Try.prog 18 #[.agg #[.int .i64 p, .int .i64 (S : Int), .int .i64 (W : Int), .int .i64 (N : Int), .int .i64 next, .slice ta tl tc], .int .i64 wk] V4 fun e w' => ∃ tv' lv, e = .returned (.tuple #[.agg #[.int .i64 p, .int .i64 (S : Int), .int .i64 (W : Int), .int .i64 (N : Int), .int .i64 n2, tv'], lv]) ∧ GSl w' tv' t2 ∧ (tv' = .slice ta tl tc ∨ NewV V4.heap.size tv') ∧ GSl w' lv (agesL a b) ∧ NewV V4.heap.size lv ∧ Below V4.heap.size V4 w') := by
          intro V4 hV
          have h : Calls Try.prog 18 #[rdV p (S : Int) (W : Int) (N : Int) next (.slice ta tl tc), .int .i64 wk] V4 (RNQ p S W N next turns (.slice ta tl tc) wk V4) := by
            by_cases hin : 0 ≤ wk ∧ wk < (W : Int)
            · exact rnext_any p S W N next turns _ wk hS1 hW1 hN2 hLW htb hok hin V4 hV
            · exact rnext_none p S W N next turns _ wk hLW hin V4 hV
          refine h.mono fun e w' hq => ?_
          obtain ⟨tv', lv, h1, h2, h3, ⟨a', b', h4, _, _, h5⟩, h7, h6⟩ := hq
          rw [hx, Prod.mk.injEq] at h4
          have ea : a' = a := by omega
          have eb : b' = b := by omega
          subst ea eb
          rw [hn2] at h1
          rw [ht2] at h2
          exact ⟨tv', lv, h1, h2, h3, h5, h7, h6⟩
        rw [hx]
        simp only []
        obtain ⟨okb, hok2⟩ : ∃ okb : Bool, decide ((a : Int) < (b : Int)) = okb := ⟨_, rfl⟩
        have HOK : Hid (decide (a < b) = okb) := by show _ = _; rw [← hok2]; simp
        rw [hok2]
        clear hok2
        clear hx hAD hAZ D4 C4 hn2 ht2 hok htb hLW hlen2 cA c0 c1 c2 c3 c4
        unfold sp
        simp only []
        have HJU : Hid (SM w x rb db tb p S W N (.slice (some ⟨vb, vo, none⟩) L vc) (.slice ta tl tc) n2 t2 next turns (w4.alloc (.cells #[.int .i64 (a : Int), .int .i64 (b : Int)] 53))) := HJ.out.same (bl1 _ _)
        have HSU : Hid ((w4.alloc (.cells #[.int .i64 (a : Int), .int .i64 (b : Int)] 53)).heap[w4.heap.size]? = some (.cells #[.int .i64 (a : Int), .int .i64 (b : Int)] 53)) := heap_alloc_new _ _
        have HSR : Hid (w4.heap.size ≠ rb) := by show _ ≠ _; have := HJ.out.lt; omega
        go_upto_region 12 with fail
        generalize w4.alloc (.cells #[.int .i64 (a : Int), .int .i64 (b : Int)] 53) = U2 at *
        obtain ⟨sb, hsb⟩ : ∃ sb, w4.heap.size = sb := ⟨_, rfl⟩
        rw [hsb] at HSU HSR
        rw [hsb]
        clear hsb HI
        obtain ⟨c0, c1, c2, c3, c4⟩ := HJU.out.box.all
        have cA : U2.cell? ⟨vb, vo + q, none⟩ = some (.int .i64 wk) := HAc.out U2 HJU.out.bel
        obtain ⟨r0, r1, r2, r3, r4, r5⟩ := HJU.out.ref.all
        have y0 : U2.frozen? ⟨rb, 0, none⟩ = false := HJU.out.ref.frz 0
        have y1 : U2.frozen? ⟨rb, 1, none⟩ = false := HJU.out.ref.frz 1
        have y2 : U2.frozen? ⟨rb, 2, none⟩ = false := HJU.out.ref.frz 2
        have y3 : U2.frozen? ⟨rb, 3, none⟩ = false := HJU.out.ref.frz 3
        have y4 : U2.frozen? ⟨rb, 4, none⟩ = false := HJU.out.ref.frz 4
        have y5 : U2.frozen? ⟨rb, 5, none⟩ = false := HJU.out.ref.frz 5
        go_cut [8] from 51 to 104 (fun l wx => ∃ (t5a : Option Addr) (t5l t5c : Nat), Hid (SM w x rb db tb p S W N (.slice (some ⟨vb, vo, none⟩) L vc) (.slice t5a t5l t5c) n2 t2 n2 t2 wx) ∧ Hid (GSl wx l (agesL a b)) ∧ Hid (wx.heap[sb]? = some (.cells #[.int .i64 (a : Int), .int .i64 (b : Int)] 53)))
        case first =>
          have HJD : Hid (SM w x rb db tb p S W N (.slice (some ⟨vb, vo, none⟩) L vc) (.slice ta tl tc) n2 t2 next turns U2.drew) := HJU.out.same (Below.refl _ _).drew
          have HGD : Hid (GSl U2.drew (.slice ta tl tc) turns) := HJD.out.row
          have HSD : Hid (U2.drew.heap[sb]? = some (.cells #[.int .i64 (a : Int), .int .i64 (b : Int)] 53)) := HSU.out
          have HLTD : Hid (rb < U2.drew.heap.size ∧ db < U2.drew.heap.size ∧ tb < U2.drew.heap.size) := HJD.out.lt
          go_region_with (first | (go_at_call 18; refine (HRN.out _ HGD.out).mono ?_; rintro e w5 ⟨tv5, lv5, rfl, G5, N5, A5, M5, b5⟩; obtain ⟨t5a, t5l, t5c, rfl⟩ := G5.form; have HJ5 := HJD.out.same b5; obtain ⟨z0, z1, z2, z3, z4, z5⟩ := HJ5.ref.all; have y50 := HJ5.ref.frz 0; have y51 := HJ5.ref.frz 1; have y52 := HJ5.ref.frz 2; have y53 := HJ5.ref.frz 3; have y54 := HJ5.ref.frz 4; have y55 := HJ5.ref.frz 5))
          all_goals
            go_wp2_with fail
            go_meet
            refine ⟨t5a, t5l, t5c, ?_, ?_, ?_⟩
            · first | exact HJ5.put (put6C _ _ _ _ _ _) (put6 HJ5.ref) G5 (apart HJU.out.nv N5 HLTD.out) | exact (HJ5.put (put6C _ _ _ _ _ _) (put6 HJ5.ref) G5 (apart HJU.out.nv N5 HLTD.out)).same (Below.refl _ _).drew
            · first | exact A5.apart M5 HLTD.out.1 (put6C _ _ _ _ _ _) | exact A5.apart M5 HLTD.out.1 (put6C _ _ _ _ _ _).drew
            · exact ((put6C (W := w5) (g := rb) _ _ _ _ _ _).block sb (Nat.lt_of_lt_of_le (Array.getElem?_eq_some_iff.1 HSD.out).1 b5.size) HSR.out).trans ((b5.block sb (Array.getElem?_eq_some_iff.1 HSD.out).1).trans HSD.out)
        case rest =>
          clear c0 c1 c2 c3 c4 cA r0 r1 r2 r3 r4 r5 y0 y1 y2 y3 y4 y5
          obtain ⟨t5a, t5l, t5c, KJ, KG, KS⟩ := hcut
          have s0 : wc.cell? ⟨sb, 0, none⟩ = some (.int .i64 (a : Int)) := by rw [cell_of_row wc sb 0 _ _ _ KS.out]; rfl
          have s1 : wc.cell? ⟨sb, 1, none⟩ = some (.int .i64 (b : Int)) := by rw [cell_of_row wc sb 1 _ _ _ KS.out]; rfl
          have HNW : Hid (Calls Try.prog 19 #[.pointer (some ⟨db, 0, none⟩)] wc fun e w' => ∃ v, e = .returned (.tuple #[.int .i64 n2, v]) ∧ GSl w' v t2 ∧ Below wc.heap.size wc w') := now_any wc KJ.out.dl
          go_wp2_with fail
          refine HNW.out.mono ?_
          rintro e w6 ⟨v6, rfl, G6, b6⟩
          have HJ6 : Hid (SM w x rb db tb p S W N (.slice (some ⟨vb, vo, none⟩) L vc) (.slice t5a t5l t5c) n2 t2 n2 t2 w6) := KJ.out.same b6
          have HG6 : Hid (GSl w6 v6 t2) := G6
          have HS6 : Hid (w6.heap[sb]? = some (.cells #[.int .i64 (a : Int), .int .i64 (b : Int)] 53)) := (b6.block sb (Array.getElem?_eq_some_iff.1 KS.out).1).trans KS.out
          have HSA : Hid (Calls Try.prog 20 #[.agg #[.int .i64 (a : Int), .int .i64 (b : Int)], .bool okb, u8] w6 fun e w' => e = .returned (.bool true) ∧ Below w6.heap.size w6 w') := by have := same_any a b HABZ.out (by omega) u8 w6 (KG.out.below b6); rw [HOK.out] at this; exact this
          clear b6 G6 s0 s1
          have s0 : w6.cell? ⟨sb, 0, none⟩ = some (.int .i64 (a : Int)) := by rw [cell_of_row w6 sb 0 _ _ _ HS6.out]; rfl
          have s1 : w6.cell? ⟨sb, 1, none⟩ = some (.int .i64 (b : Int)) := by rw [cell_of_row w6 sb 1 _ _ _ HS6.out]; rfl
          go_wp2_with fail
          refine HSA.out.mono ?_
          rintro e w7 ⟨rfl, b7⟩
          have HJ7 : Hid (SM w x rb db tb p S W N (.slice (some ⟨vb, vo, none⟩) L vc) (.slice t5a t5l t5c) n2 t2 n2 t2 w7) := HJ6.out.same b7
          have HRW : Hid (Calls Try.prog 21 #[v6, .slice t5a t5l t5c] w7 fun e w' => e = .returned (.bool true) ∧ Below w7.heap.size w7 w') := row_any t2 _ _ w7 (HG6.out.below b7) HJ7.out.row
          clear b7 s0 s1
          obtain ⟨r0, r1, r2, r3, r4, r5⟩ := HJ7.out.ref.all
          go_wp2_with fail
          refine HRW.out.mono ?_
          rintro e w8 ⟨rfl, b8⟩
          have HJ8 : Hid (SM w x rb db tb p S W N (.slice (some ⟨vb, vo, none⟩) L vc) (.slice t5a t5l t5c) n2 t2 n2 t2 w8) := HJ7.out.same b8
          clear b8
          go_wp2_with fail
          go_roundw
          case rel => exact ⟨q + 1, n2, t2, t5a, t5l, t5c, by go_num, by omega, HJ8⟩
          case measure => simp [intOf]; omega
      · have e3 : decide (q < L) = false := by simp; omega
        have HBR : Hid (Below w.heap.size w V) := HI.out.bel
        go_wp2_with fail
        refine (alive_any _).mono ?_
        rintro e wz ⟨rfl, bz⟩
        have BZ : Hid (Below w.heap.size w wz) := HBR.out.trans (bz.mono HBR.out.size)
        clear bz
        go_wp2
        go_ret
        exact ⟨rfl, by first | exact BZ.out | (rw [HXE.out]; have := BZ.out; rw [HXE.out] at this; exact this)⟩
  · have HE : Hid (errN p s k n ≠ 0) := herr
    go_enter Try.func8, Try.ntmps8
    go_wp2_with fail
    refine (HN.out _).mono ?_
    rintro e w1 ⟨b1, hq, _⟩
    have hq := hq HE.out
    subst hq
    have B1 : Hid (Below w.heap.size w w1) := (bl1 w _).trans (b1.mono (bl1 w _).size)
    have HX1 : Hid (XB w1 w.heap.size p s k n (.slice va L vc)) := HX0.out.below b1
    obtain ⟨c0, c1, c2, c3, c4⟩ := HX1.out.all
    clear b1 HN
    have herr2 : ¬ (errN p s k n = 0) := HE.out
    have HRQ := HRN.out
    generalize hz : errN p s k n = er at *
    go_wp2_with fail
    refine (HRQ _).mono ?_
    rintro e w2 ⟨b2, hq, _⟩
    have hq := hq (by rw [hz]; exact herr2)
    subst hq
    rw [hz]
    have B2 : Hid (∀ A0, Below w.heap.size w (w2.alloc A0)) := fun A0 => (B1.out.trans (b2.mono B1.out.size)).alloc (Nat.le_trans B1.out.size b2.size) _
    have g1 : (er != er) = false := by simp
    have g2 : (er != 0) = true := by simp [herr2]
    have HX2 : Hid (XB w2 w.heap.size p s k n (.slice va L vc)) := HX1.out.below b2
    clear b2 HRN HRQ hz HE
    unfold rdV
    go_wp2_with fail
    have B3 := B2.out (.cells #[.int .i64 0, .int .i64 0, .int .i64 0, .int .i64 0, .int .i64 0, .slice none 0 0] 49)
    have HX3 : Hid (XB (w2.alloc (.cells #[.int .i64 0, .int .i64 0, .int .i64 0, .int .i64 0, .int .i64 0, .slice none 0 0] 49)) w.heap.size p s k n (.slice va L vc)) := (HX2.out.below (bl1 _ _))
    have HB3 : Hid (Below w.heap.size w (w2.alloc (.cells #[.int .i64 0, .int .i64 0, .int .i64 0, .int .i64 0, .int .i64 0, .slice none 0 0] 49))) := B3
    generalize w2.alloc (.cells #[.int .i64 0, .int .i64 0, .int .i64 0, .int .i64 0, .int .i64 0, .slice none 0 0] 49) = U at *
    clear c0 c1 c2 c3 c4 B3
    obtain ⟨c0, c1, c2, c3, c4⟩ := HX3.out.all
    go_loopw [7, 8, 9, 10, 11, 12] (fun i l sp ok nx tn wr => i = .int .i64 0 ∧ wr = U) (fun i l sp ok nx tn _ => 0)
    case atStart => exact ⟨rfl, rfl⟩
    case round =>
      obtain ⟨rfl, hwr⟩ := hrel
      rw [hwr]
      clear hwr
      by_cases h0 : 0 < L
      · have f1 : decide (0 < L) = true := by simp; omega
        go_wp2_with fail
        refine (alive_any _).mono ?_
        rintro e wz ⟨rfl, bz⟩
        have BZ : Hid (Below w.heap.size w wz) := HB3.out.trans (bz.mono HB3.out.size)
        clear bz
        go_wp2
        go_ret
        exact ⟨rfl, BZ.out⟩
      · have f1 : decide (0 < L) = false := by simp; omega
        go_wp2_with fail
        refine (alive_any _).mono ?_
        rintro e wz ⟨rfl, bz⟩
        have BZ : Hid (Below w.heap.size w wz) := HB3.out.trans (bz.mono HB3.out.size)
        clear bz
        go_wp2
        go_ret
        exact ⟨rfl, BZ.out⟩
end Go.Proofs.Ytamlnagipmomgaa
