/- ChunkLeast: the law's walk. -/
import Derived.Test.YtamlnagipmomgabLsA
import Derived.Deep.CutRange
namespace Go.Proofs.Ytamlnagipmomgab
open Go.RowKit Go.Maps
set_option linter.unusedVariables false

theorem quo_nat (j S : Nat) (h : j ≤ 200) : wrap64 ((j : Int) / (S : Int)) = ((j / S : Nat) : Int) := by
  have e : (j : Int) / (S : Int) = ((j / S : Nat) : Int) := by simp
  rw [e]
  exact w64in _ ⟨Int.le_trans (show (-9223372036854775808 : Int) ≤ 0 by omega) (Int.natCast_nonneg _), Int.le_trans (Int.ofNat_le.2 (Nat.le_trans (Nat.div_le_self j S) h)) (by omega)⟩
theorem rem_nat (J W : Nat) : Int.tmod (J : Int) (W : Int) = ((J % W : Nat) : Int) := by
  rw [Int.tmod_eq_emod_of_nonneg (Int.natCast_nonneg _)]; simp
theorem dl_new (p : Int) (s W a : Nat) : dl p s 0 (List.replicate W 0) a = false := by
  have e : (List.replicate W (0 : Int)).getD (a / s % (List.replicate W (0 : Int)).length) 0 = 0 := by
    simp only [List.getD]
    cases h : (List.replicate W (0 : Int))[a / s % (List.replicate W (0 : Int)).length]? with
    | none => rfl
    | some y => exact List.eq_of_mem_replicate (List.mem_of_getElem? h)
  unfold dl
  rw [e]
  split
  · exact decide_eq_false (Int.not_lt.2 (Int.natCast_nonneg _))
  · exact decide_eq_false (Int.not_lt.2 (Int.natCast_nonneg _))
theorem err_ok {p s k n : Int} (h : errN p s k n = 0) : (1 ≤ s ∧ s ≤ 200) ∧ (1 ≤ k ∧ k ≤ 8) ∧ (0 ≤ n ∧ n ≤ 200) := by
  unfold errN at h
  split at h
  · omega
  · split at h
    · omega
    · split at h
      · omega
      · split at h <;> omega
theorem LI.first {w w1 : World} {x db tb : Nat} {p s : Int} {N W : Nat} {v : Value} (hD : DL w1 db tb p s (N : Int) 0 (List.replicate W 0)) (hX : XB w1 x p s (W : Int) (N : Int) v) (hB : Below w.heap.size w w1) (h0 : w.heap.size ≤ x ∧ w.heap.size ≤ db ∧ w.heap.size ≤ tb) (hn : x ≠ db ∧ x ≠ tb) :
    LI w x w1.heap.size db tb p s (W : Int) (N : Int) v W 0 (List.replicate W 0) (List.replicate (N + 1) false) (w1.alloc (.cells (bls (List.replicate (N + 1) false)) 4)) := by
  have hl := hD.lt
  have hx := hX.lt
  have hs := hB.size
  exact ⟨hD.alloc _, by simp, hX.below (bl1 _ _), heap_alloc_new _ _, by simp, fun a ha => by rw [dl_new]; simp, hB.alloc hs _, h0.1, hs, h0.2.1, h0.2.2, by omega, hn.1, hn.2, by omega, by omega⟩

set_option maxRecDepth 100000 in
set_option maxHeartbeats 8000000 in
theorem least_walk (p s k n : Int) (v : Value) (A : List Int) (w : World) (hv : GSl w v A) : Calls Try.prog 5 #[.agg #[.int .i64 p, .int .i64 s, .int .i64 k, .int .i64 n, v]] w fun e w' => e = .returned (.bool true) ∧ Below w.heap.size w w' := by
  obtain ⟨va, vc, vb, vo, rfl, h2, h3, h4, h5⟩ := hv
  obtain ⟨L, hL⟩ : ∃ L, A.length = L := ⟨_, rfl⟩
  have HLA : Hid (A.length = L) := hL
  have H4 : Hid (0 < A.length → va = some ⟨vb, vo, none⟩) := h4
  have H5 : Hid (∀ i (h : i < A.length), w.cell? ⟨vb, vo + i, none⟩ = some (.int .i64 A[i])) := h5
  rw [hL] at h2 ⊢
  unfold maxLen at h3
  clear hL h4 h5
  by_cases hbig : 300 < L
  · have e1 : decide (300 < (L : Int)) = true := by simp; omega
    go_enter Try.func5, Try.ntmps5
    go_wp2
    go_ret
    exact ⟨rfl, bl1 _ _⟩
  have e1 : decide (300 < (L : Int)) = false := by simp; omega
  have HN : Hid (∀ w, Calls Try.prog 6 #[.int .i64 p, .int .i64 s, .int .i64 k, .int .i64 n] w (NewQ p s k n w)) := new_any p s k n
  by_cases herr : errN p s k n = 0
  · obtain ⟨hs1, hk1, hn1⟩ := err_ok herr
    obtain ⟨N, rfl⟩ : ∃ N : Nat, n = (N : Int) := ⟨n.toNat, by omega⟩
    obtain ⟨W, rfl⟩ : ∃ W : Nat, k = (W : Int) := ⟨k.toNat, by omega⟩
    obtain ⟨S, rfl⟩ : ∃ S : Nat, s = (S : Int) := ⟨s.toNat, by omega⟩
    have hS1 : 1 ≤ S ∧ S ≤ 200 := by omega
    have hW1 : 1 ≤ W ∧ W ≤ 8 := by omega
    have hN2 : N ≤ 200 := by omega
    clear hk1 hn1 hs1
    have HX0 : Hid (XB (w.alloc (.cells #[.int .i64 p, .int .i64 (S : Int), .int .i64 (W : Int), .int .i64 (N : Int), .slice va L vc] 25)) w.heap.size p (S : Int) (W : Int) (N : Int) (.slice va L vc)) := XB.new w p (S : Int) (W : Int) (N : Int) _
    have HZ0 : Hid (w.heap.size + 1 ≤ (w.alloc (.cells #[.int .i64 p, .int .i64 (S : Int), .int .i64 (W : Int), .int .i64 (N : Int), .slice va L vc] 25)).heap.size) := by show _ ≤ _; simp
    go_enter Try.func5, Try.ntmps5
    go_wp2_with fail
    refine (HN.out _).mono ?_
    rintro e w1 ⟨b1, _, hq⟩
    obtain ⟨db, tb, rfl, D1, l1, l2⟩ := hq herr
    have HD1 : Hid (DL w1 db tb p (S : Int) (N : Int) 0 (List.replicate W 0)) := by have e : ((W : Int)).toNat = W := Int.toNat_natCast W; rw [e] at D1; exact D1
    have HX1 : Hid (XB w1 w.heap.size p (S : Int) (W : Int) (N : Int) (.slice va L vc)) := HX0.out.below b1
    have HB1 : Hid (Below w.heap.size w w1) := (bl1 w _).trans (b1.mono (bl1 w _).size)
    have HL1 : Hid (w.heap.size + 1 ≤ db ∧ w.heap.size + 1 ≤ tb) := by have := HZ0.out; exact ⟨by omega, by omega⟩
    obtain ⟨c0, c1, c2, c3, c4⟩ := HX1.out.all
    have wN : wrap64 ((N : Int) + 1) = (N : Int) + 1 := w64in _ ⟨by omega, by omega⟩
    have hmk : ∀ w, (Instr.makeSlice 47 (.int .i64 ((N : Int) + 1)) (.int .i64 ((N : Int) + 1))).run Try.prog w = .ok (.slice (some ⟨w.heap.size, 0, none⟩) (N + 1) (N + 1)) (w.alloc (.cells (bls (List.replicate (N + 1) false)) 4)) := fun w => by have := made47 (N + 1) (by omega) w; simpa using this
    have HI0 : Hid (LI w w.heap.size w1.heap.size db tb p (S : Int) (W : Int) (N : Int) (.slice va L vc) W 0 (List.replicate W 0) (List.replicate (N + 1) false) (w1.alloc (.cells (bls (List.replicate (N + 1) false)) 4))) := LI.first HD1.out HX1.out HB1.out ⟨Nat.le_refl _, by have := HL1.out; omega, by have := HL1.out; omega⟩ (by have := HL1.out; omega)
    clear b1 hq D1 l1 l2 HN
    go_wp2_with fail
    generalize w1.alloc (.cells (bls (List.replicate (N + 1) false)) 4) = U at *
    clear c0 c1 c2 c3 c4 hmk HX1 HD1 HX0
    obtain ⟨gb, hgb⟩ : ∃ gb, w1.heap.size = gb := ⟨_, rfl⟩
    obtain ⟨x, hx⟩ : ∃ x, w.heap.size = x := ⟨_, rfl⟩
    have HXE : Hid (w.heap.size = x) := hx
    rw [hgb, hx] at HI0
    rw [hgb, hx]
    clear hgb hx
    go_loopw [6, 7, 8, 9, 10, 11] (fun i l sp ok mine ag wr => ∃ (q : Nat) (next : Int) (turns : List Int) (G : List Bool), i = .int .i64 (q : Int) ∧ q ≤ L ∧ Hid (LI w x gb db tb p (S : Int) (W : Int) (N : Int) (.slice va L vc) W next turns G wr)) (fun i l sp ok mine ag _ => L - (intOf i).toNat)
    case atStart => exact ⟨0, 0, _, _, rfl, Nat.zero_le _, HI0⟩
    case round =>
      obtain ⟨q, next, turns, G, rfl, hq, HI⟩ := hrel
      obtain ⟨V, rfl⟩ : ∃ V, V = wr := ⟨_, rfl⟩
      obtain ⟨c0, c1, c2, c3, c4⟩ := HI.out.box.all
      by_cases hlt : q < L
      · have e2 : decide ((q : Int) < (L : Int)) = true := by simp; omega
        have hqA : q < A.length := by rw [HLA.out]; exact hlt
        obtain rfl := H4.out (by omega)
        obtain ⟨wk, hwk⟩ : ∃ wk, A[q] = wk := ⟨_, rfl⟩
        have HA0 : Hid (w.cell? ⟨vb, vo + q, none⟩ = some (.int .i64 wk)) := by have := H5.out q hqA; rw [hwk] at this; exact this
        have HAc : Hid (∀ V, Below w.heap.size w V → V.cell? ⟨vb, vo + q, none⟩ = some (.int .i64 wk)) := fun V hV => (hV.cell (p := ⟨vb, vo + q, none⟩) (World.block_lt_of_cell? w _ HA0.out)).trans HA0.out
        have HGL : Hid (G.length = N + 1) := by have := HI.out.glen; show _ = _; simpa using this
        clear hwk
        go_wp2_with fail
        have cA : V.cell? ⟨vb, vo + q, none⟩ = some (.int .i64 wk) := HAc.out V HI.out.bel
        go_loopw [7] (fun l wx => ∃ j : Nat, l = .int .i64 (j : Int) ∧ j ≤ N ∧ wx = V ∧ Hid (∀ b, (h : b < G.length) → b < j → G[b] = true)) (fun l _ => N - (intOf l).toNat)
        case atStart => exact ⟨0, rfl, Nat.zero_le _, rfl, fun b _ hb => absurd hb (by omega)⟩
        case round =>
          obtain ⟨j, rfl, hj, hwx, HJ⟩ := hrel
          rw [hwx]
          clear hwx
          go_upto_region 11 with fail
          go_cut [59] from 50 to 61 (fun b wx => ∃ cb : Bool, b = .bool cb ∧ wx = V ∧ Hid ((cb = true → j < N ∧ ∀ h : j < G.length, G[j] = true) ∧ (cb = false → j < N → ∀ h : j < G.length, G[j] = false)))
          case first =>
            by_cases hjN : j < N
            · obtain ⟨gj, hgj⟩ : ∃ gj, G[j]'(by rw [HGL.out]; omega) = gj := ⟨_, rfl⟩
              have HGJ : Hid (G[j]'(by rw [HGL.out]; omega) = gj) := hgj
              have cg : V.cell? ⟨gb, j, none⟩ = some (.bool gj) := by have := HI.out.cell j (by rw [HGL.out]; omega); rw [hgj] at this; exact this
              have e3 : decide (j < N) = true := by simp; omega
              clear hgj
              go_wp2_with fail
              go_meet
              case rel => exact ⟨gj, rfl, rfl, fun q => ⟨hjN, fun _ => by rw [HGJ.out]; exact q⟩, fun q _ _ => by rw [HGJ.out]; exact q⟩
            · have e3 : decide (j < N) = false := by simp; omega
              go_wp2_with fail
              go_meet
              case rel => exact ⟨false, rfl, rfl, fun q => (Bool.noConfusion q), fun _ q => absurd q hjN⟩
          case rest =>
            obtain ⟨cb, rfl, hwx, HCB⟩ := hcut
            rw [hwx]
            clear hwx
            cases cb with
            | true =>
              have HJ2 := HCB.out.1 rfl
              go_wp2_with fail
              go_roundw
              case rel =>
                refine ⟨j + 1, by go_num, by omega, trivial, fun b h hb => ?_⟩
                rcases Nat.lt_or_ge b j with h1 | h1
                · exact HJ.out b h h1
                · have : b = j := by omega
                  subst this
                  exact HJ2.2 h
              case measure => simp [intOf]; omega
            | false =>
              have HST : Hid (j < N → ∀ h : j < G.length, G[j] = false) := HCB.out.2 rfl
              go_wp2_with fail
              refine (next_any wk V HI.out.dl).mono ?_
              rintro e w4 ⟨rfl, D4, C4⟩
              have hAD := ask_dl HI.out.dl.ok wk
              obtain ⟨a, b, hx, hab, hbN⟩ : ∃ a b : Nat, askX p (S : Int) (N : Int) next turns wk = ((a : Int), (b : Int)) ∧ a ≤ b ∧ b ≤ N := by
                refine ⟨(askX p (S : Int) (N : Int) next turns wk).1.toNat, (askX p (S : Int) (N : Int) next turns wk).2.toNat, ?_, by omega, by omega⟩
                have h1 := hAD.1
                have h2 := hAD.2.2.1
                generalize askX p (S : Int) (N : Int) next turns wk = X at *
                obtain ⟨X1, X2⟩ := X
                simp only [Prod.mk.injEq] at *
                omega
              have HXX : Hid (askX p (S : Int) (N : Int) next turns wk = ((a : Int), (b : Int))) := hx
              have HLJ : Hid (LJ w x gb db tb p (S : Int) (W : Int) (N : Int) (.slice (some ⟨vb, vo, none⟩) L vc) W (askN p (S : Int) (N : Int) next turns wk) (askT p (S : Int) (N : Int) next turns wk) G w4) := HI.out.ask D4 C4
              have HDONE : Hid (∀ w5, LJ w x gb db tb p (S : Int) (W : Int) (N : Int) (.slice (some ⟨vb, vo, none⟩) L vc) W (askN p (S : Int) (N : Int) next turns wk) (askT p (S : Int) (N : Int) next turns wk) (markG G a b) w5 → LI w x gb db tb p (S : Int) (W : Int) (N : Int) (.slice (some ⟨vb, vo, none⟩) L vc) W (askN p (S : Int) (N : Int) next turns wk) (askT p (S : Int) (N : Int) next turns wk) (markG G a b) w5) := fun w5 h => LJ.done HI.out hx h
              have HLS : Hid ((0 ≤ wk ∧ wk < (W : Int)) → (p = 1 → ((j / S % W : Nat) : Int) = wk) → j < N → (a : Int) = (j : Int) ∧ a < b) := by
                intro hin hmine hjN
                have hlen := HI.out.len
                obtain ⟨kk, rfl⟩ : ∃ kk : Nat, wk = (kk : Int) := ⟨wk.toNat, by omega⟩
                have hG := HGL.out
                have hgd := HI.out.gdl
                have hl := ask_least HI.out.dl.ok kk (by omega) j (by simpa using hjN) ?_ ?_ ?_
                · rw [hx] at hl
                  simp only [] at hl
                  omega
                · have := hgd j (by simpa using hjN)
                  rw [← this]
                  exact HST.out hjN _
                · intro b2 hb2
                  have := hgd b2 (by simp; omega)
                  rw [← this]
                  exact HJ.out b2 _ hb2
                · intro hp1
                  have := hmine hp1
                  rw [hlen]
                  simp only [Int.toNat_natCast]
                  omega
              rw [hx]
              simp only []
              obtain ⟨okb, hok⟩ : ∃ okb : Bool, decide ((a : Int) < (b : Int)) = okb := ⟨_, rfl⟩
              have HOK : Hid (okb = true ↔ a < b) := by show _ ↔ _; rw [← hok]; simp
              rw [hok]
              clear hok
              clear hx hAD D4 C4
              generalize askN p (S : Int) (N : Int) next turns wk = nx at *
              generalize askT p (S : Int) (N : Int) next turns wk = tx at *
              unfold sp
              simp only []
              have HJU : Hid (LJ w x gb db tb p (S : Int) (W : Int) (N : Int) (.slice (some ⟨vb, vo, none⟩) L vc) W nx tx G (w4.alloc (.cells #[.int .i64 (a : Int), .int .i64 (b : Int)] 39))) := HLJ.out.same (bl1 _ _)
              have HSU : Hid ((w4.alloc (.cells #[.int .i64 (a : Int), .int .i64 (b : Int)] 39)).heap[w4.heap.size]? = some (.cells #[.int .i64 (a : Int), .int .i64 (b : Int)] 39)) := heap_alloc_new _ _
              have HSG : Hid (w4.heap.size ≠ gb) := by show _ ≠ _; have := (Array.getElem?_eq_some_iff.1 HLJ.out.got).1; omega
              go_upto_region 14 with fail
              generalize w4.alloc (.cells #[.int .i64 (a : Int), .int .i64 (b : Int)] 39) = U2 at *
              obtain ⟨sb, hsb⟩ : ∃ sb, w4.heap.size = sb := ⟨_, rfl⟩
              rw [hsb] at HSU HSG
              rw [hsb]
              clear hsb c0 c1 c2 c3 c4 cA
              go_cut [10] from 43 to 137 (fun m wx => ∃ mb : Bool, m = .bool mb ∧ Hid (mb = true ↔ 0 ≤ wk ∧ wk < (W : Int)) ∧ Hid (LJ w x gb db tb p (S : Int) (W : Int) (N : Int) (.slice (some ⟨vb, vo, none⟩) L vc) W nx tx G wx) ∧ Hid (wx.heap[sb]? = some (.cells #[.int .i64 (a : Int), .int .i64 (b : Int)] 39)))
              case first =>
                obtain ⟨c0, c1, c2, c3, c4⟩ := HJU.out.box.all
                have cA : U2.cell? ⟨vb, vo + q, none⟩ = some (.int .i64 wk) := HAc.out U2 HJU.out.bel
                have HKD : Hid (∀ n : Nat, LJ w x gb db tb p (S : Int) (W : Int) (N : Int) (.slice (some ⟨vb, vo, none⟩) L vc) W nx tx G (U2.drewN n)) := fun n => HJU.out.same (Below.dN (Below.refl _ _) n)
                by_cases h1 : wk < 0
                · have f1 : decide (0 ≤ wk) = false := by simp; omega
                  go_quiet (fail)
                  go_wp2_with fail
                  go_meet
                  case rel => exact ⟨_, rfl, by show _ ↔ _; simp; omega, HKD.out _, HSU⟩
                · have f1 : decide (0 ≤ wk) = true := by simp; omega
                  go_quiet (fail)
                  go_wp2_with fail
                  go_meet
                  case rel => exact ⟨_, rfl, by show _ ↔ _; simp; omega, HKD.out _, HSU⟩
              case rest =>
                obtain ⟨mb, rfl, KM, KJ, KS⟩ := hcut
                obtain ⟨V2, rfl⟩ : ∃ V2, V2 = wc := ⟨_, rfl⟩
                obtain ⟨c0, c1, c2, c3, c4⟩ := KJ.out.box.all
                have cA : V2.cell? ⟨vb, vo + q, none⟩ = some (.int .i64 wk) := HAc.out V2 KJ.out.bel
                have s0 : V2.cell? ⟨sb, 0, none⟩ = some (.int .i64 (a : Int)) := by rw [cell_of_row V2 sb 0 _ _ _ KS.out]; rfl
                have s1 : V2.cell? ⟨sb, 1, none⟩ = some (.int .i64 (b : Int)) := by rw [cell_of_row V2 sb 1 _ _ _ KS.out]; rfl
                go_upto_region 15 with fail
                go_cut [93] from 43 to 137 (fun t wx => ∃ tb2 : Bool, t = .bool tb2 ∧ Hid (tb2 = true ↔ p = 1 ∧ mb = true) ∧ wx = V2)
                case first =>
                  by_cases hp1 : p = 1
                  · subst hp1
                    go_wp2_with fail
                    go_meet
                    case rel => exact ⟨_, rfl, by show _ ↔ _; simp, rfl⟩
                  · go_wp2_with fail
                    go_meet
                    case rel => exact ⟨_, rfl, by show _ ↔ _; simp [hp1], rfl⟩
                case rest =>
                  obtain ⟨tb2, rfl, KT, hwx⟩ := hcut
                  rw [hwx]
                  clear hwx
                  go_upto_if 93 with fail
                  go_cut [10] from 43 to 137 (fun m wx => ∃ mc : Bool, m = .bool mc ∧ Hid (mc = true → (0 ≤ wk ∧ wk < (W : Int)) ∧ (p = 1 → ((j / S % W : Nat) : Int) = wk)) ∧ Hid (LJ w x gb db tb p (S : Int) (W : Int) (N : Int) (.slice (some ⟨vb, vo, none⟩) L vc) W nx tx G wx) ∧ Hid (wx.heap[sb]? = some (.cells #[.int .i64 (a : Int), .int .i64 (b : Int)] 39)))
                  case first =>
                    have HKD : Hid (∀ n : Nat, LJ w x gb db tb p (S : Int) (W : Int) (N : Int) (.slice (some ⟨vb, vo, none⟩) L vc) W nx tx G (V2.drewN n)) := fun n => KJ.out.same (Below.dN (Below.refl _ _) n)
                    cases tb2 with
                    | true =>
                      have HIN : Hid (0 ≤ wk ∧ wk < (W : Int)) := KM.out.1 (KT.out.1 rfl).2
                      have q0 : ((S : Int)) ≠ 0 := by omega
                      have q1 : ((W : Int)) ≠ 0 := by omega
                      obtain ⟨J, hJ⟩ : ∃ J : Nat, j / S = J := ⟨_, rfl⟩
                      obtain ⟨R, hR⟩ : ∃ R : Nat, J % W = R := ⟨_, rfl⟩
                      have HJR : Hid (j / S % W = R) := by show _ = _; rw [hJ, hR]
                      have q3 : wrap64 ((j : Int) / (S : Int)) = (J : Int) := by rw [quo_nat j S (Nat.le_trans hj hN2), hJ]
                      have q4 : Int.tmod (J : Int) (W : Int) = (R : Int) := by rw [rem_nat, hR]
                      clear hJ hR
                      go_wp2_with fail
                      go_quiet (fail)
                      go_wp2_with fail
                      go_meet
                      case rel => exact ⟨_, rfl, by intro hq; refine ⟨HIN.out, fun _ => ?_⟩; rw [HJR.out]; simpa using hq, HKD.out _, KS⟩
                    | false =>
                      go_wp2_with fail
                      go_meet
                      case rel =>
                        refine ⟨mb, rfl, fun q => ⟨KM.out.1 q, fun hp1 => ?_⟩, KJ, KS⟩
                        have := KT.out.2 ⟨hp1, q⟩
                        cases this
                  case rest =>
                    clear c0 c1 c2 c3 c4 cA s0 s1
                    obtain ⟨mc, rfl, KC, KJ2, KS2⟩ := hcut
                    obtain ⟨V3, rfl⟩ : ∃ V3, V3 = wc := ⟨_, rfl⟩
                    obtain ⟨c0, c1, c2, c3, c4⟩ := KJ2.out.box.all
                    have s0 : V3.cell? ⟨sb, 0, none⟩ = some (.int .i64 (a : Int)) := by rw [cell_of_row V3 sb 0 _ _ _ KS2.out]; rfl
                    have s1 : V3.cell? ⟨sb, 1, none⟩ = some (.int .i64 (b : Int)) := by rw [cell_of_row V3 sb 1 _ _ _ KS2.out]; rfl
                    cases okb with
                    | true =>
                      go_upto_region 17 with fail
                      go_cut [123] from 43 to 137 (fun t wx => t = .bool false ∧ wx = V3)
                      case first =>
                        cases mc with
                        | false =>
                          go_wp2_with fail
                          go_meet
                          case rel => exact ⟨rfl, rfl⟩
                        | true =>
                          have HKC := KC.out rfl
                          by_cases hjN : j < N
                          · have HAJ := HLS.out HKC.1 HKC.2 hjN
                            have HE : (a : Int) = (j : Int) := HAJ.1
                            clear HKC HAJ
                            have f1 : decide (j < N) = true := by simp; omega
                            have f3 : ((a : Int) != (j : Int)) = false := by simp; omega
                            have f4 : ((a : Int) == (j : Int)) = true := by simp; omega
                            have HAJ2 : a = j := by omega
                            clear HE
                            go_wp2_with fail
                            go_meet
                            case rel => exact ⟨rfl, rfl⟩
                          · have f1 : decide (j < N) = false := by simp; omega
                            clear HKC
                            go_wp2_with fail
                            go_meet
                            case rel => exact ⟨rfl, rfl⟩
                      case rest =>
                        obtain ⟨rfl, hwx⟩ := hcut
                        rw [hwx]
                        clear hwx
                        have HJ0 : Hid (LJ w x gb db tb p (S : Int) (W : Int) (N : Int) (.slice (some ⟨vb, vo, none⟩) L vc) W nx tx (markG G a a) V3) := by show LJ _ _ _ _ _ _ _ _ _ _ _ _ _ _ _; rw [markG_none]; exact KJ2.out
                        go_wp2_with fail
                        go_loopw [11] (fun ag wx => ∃ m : Nat, ag = .int .i64 (m : Int) ∧ a ≤ m ∧ m ≤ b ∧ Hid (LJ w x gb db tb p (S : Int) (W : Int) (N : Int) (.slice (some ⟨vb, vo, none⟩) L vc) W nx tx (markG G a m) wx) ∧ Hid (wx.heap[sb]? = some (.cells #[.int .i64 (a : Int), .int .i64 (b : Int)] 39))) (fun ag _ => b - (intOf ag).toNat)
                        case atStart => exact ⟨a, rfl, Nat.le_refl _, hab, HJ0, KS2⟩
                        case round =>
                          clear c0 c1 c2 c3 c4 s0 s1
                          obtain ⟨m, rfl, hm1, hm2, MJ, MS⟩ := hrel
                          have s1 : wr.cell? ⟨sb, 1, none⟩ = some (.int .i64 (b : Int)) := by rw [cell_of_row wr sb 1 _ _ _ MS.out]; rfl
                          by_cases hmb : m < b
                          · have f2 : decide (m < b) = true := by simp; omega
                            have hmG : m < (markG G a m).length := by rw [markG_len, HGL.out]; omega
                            have cg := MJ.out.cell m hmG
                            have fg := MJ.out.frz m
                            generalize (markG G a m)[m] = old at *
                            have MJ2 : Hid (LJ w x gb db tb p (S : Int) (W : Int) (N : Int) (.slice (some ⟨vb, vo, none⟩) L vc) W nx tx (markG G a (m + 1)) (wr.setCell ⟨gb, m, none⟩ (.bool true))) := by
                              have := MJ.out.set m true
                              rw [markG_next G a m hm1 (by rw [HGL.out]; omega)] at this
                              exact this
                            have MS2 : Hid ((wr.setCell ⟨gb, m, none⟩ (.bool true)).heap[sb]? = some (.cells #[.int .i64 (a : Int), .int .i64 (b : Int)] 39)) := (Below.heap_setCell _ _ _ _ HSG.out).trans MS.out
                            go_wp2_with fail
                            go_roundw
                            case rel => exact ⟨m + 1, by go_num, by omega, by omega, MJ2, MS2⟩
                            case measure => simp [intOf]; omega
                          · have hmb2 : m = b := by omega
                            have HLI : Hid (LI w x gb db tb p (S : Int) (W : Int) (N : Int) (.slice (some ⟨vb, vo, none⟩) L vc) W nx tx (markG G a b) wr) := HDONE.out wr (by rw [hmb2] at MJ; exact MJ.out)
                            have f2 : decide (m < b) = false := by simp; omega
                            clear hmb2
                            go_wp2_with fail
                            go_roundw
                            case rel => exact ⟨q + 1, nx, tx, _, by go_num, by omega, HLI⟩
                            case measure => simp [intOf]; omega
                    | false =>
                      go_upto_region 17 with fail
                      go_cut [123] from 43 to 137 (fun t wx => t = .bool false ∧ wx = V3)
                      case first =>
                        cases mc with
                        | false =>
                          go_wp2_with fail
                          go_meet
                          case rel => exact ⟨rfl, rfl⟩
                        | true =>
                          have HKC := KC.out rfl
                          by_cases hjN : j < N
                          · have HAJ := HLS.out HKC.1 HKC.2 hjN
                            have := HOK.out.2 HAJ.2
                            cases this
                          · have f1 : decide (j < N) = false := by simp; omega
                            clear HKC
                            go_wp2_with fail
                            go_meet
                            case rel => exact ⟨rfl, rfl⟩
                      case rest =>
                        obtain ⟨rfl, hwx⟩ := hcut
                        rw [hwx]
                        clear hwx
                        have HJ0 : Hid (LJ w x gb db tb p (S : Int) (W : Int) (N : Int) (.slice (some ⟨vb, vo, none⟩) L vc) W nx tx (markG G a a) V3) := by show LJ _ _ _ _ _ _ _ _ _ _ _ _ _ _ _; rw [markG_none]; exact KJ2.out
                        go_wp2_with fail
                        go_loopw [11] (fun ag wx => ∃ m : Nat, ag = .int .i64 (m : Int) ∧ a ≤ m ∧ m ≤ b ∧ Hid (LJ w x gb db tb p (S : Int) (W : Int) (N : Int) (.slice (some ⟨vb, vo, none⟩) L vc) W nx tx (markG G a m) wx) ∧ Hid (wx.heap[sb]? = some (.cells #[.int .i64 (a : Int), .int .i64 (b : Int)] 39))) (fun ag _ => b - (intOf ag).toNat)
                        case atStart => exact ⟨a, rfl, Nat.le_refl _, hab, HJ0, KS2⟩
                        case round =>
                          clear c0 c1 c2 c3 c4 s0 s1
                          obtain ⟨m, rfl, hm1, hm2, MJ, MS⟩ := hrel
                          have s1 : wr.cell? ⟨sb, 1, none⟩ = some (.int .i64 (b : Int)) := by rw [cell_of_row wr sb 1 _ _ _ MS.out]; rfl
                          have hmb2 : m = b := by have := HOK.out; simp at this; omega
                          have HLI : Hid (LI w x gb db tb p (S : Int) (W : Int) (N : Int) (.slice (some ⟨vb, vo, none⟩) L vc) W nx tx (markG G a b) wr) := HDONE.out wr (by rw [hmb2] at MJ; exact MJ.out)
                          clear hmb2
                          go_wp2_with fail
                          go_roundw
                          case rel => exact ⟨q + 1, nx, tx, _, by go_num, by omega, HLI⟩
                          case measure => simp [intOf]; omega
      · have e2 : decide ((q : Int) < (L : Int)) = false := by simp; omega
        have HBR : Hid (Below w.heap.size w V) := HI.out.bel
        clear c0 c1 c2 c3 c4
        obtain ⟨c0, c1, c2, c3, c4⟩ := HI.out.box.all
        go_wp2_with fail
        refine (alive_any _).mono ?_
        rintro e wz ⟨rfl, bz⟩
        have BZ : Hid (Below w.heap.size w wz) := HBR.out.trans (bz.mono HBR.out.size)
        clear bz
        go_wp2
        go_ret
        exact ⟨rfl, by first | exact BZ.out | (rw [HXE.out]; have := BZ.out; rw [HXE.out] at this; exact this)⟩
  · have HE : Hid (errN p s k n ≠ 0) := herr
    go_enter Try.func5, Try.ntmps5
    go_wp2_with fail
    refine (HN.out _).mono ?_
    rintro e w1 ⟨b1, hq, _⟩
    have hq := hq HE.out
    subst hq
    have B1 : Hid (Below w.heap.size w w1) := (bl1 w _).trans (b1.mono (bl1 w _).size)
    have herr : ¬ (errN p s k n = 0) := HE.out
    generalize errN p s k n = er at *
    clear b1 HN
    go_wp2_with fail
    refine (alive_any _).mono ?_
    rintro e wz ⟨rfl, bz⟩
    have BZ : Hid (Below w.heap.size w wz) := B1.out.trans (bz.mono B1.out.size)
    clear bz
    go_wp2
    go_ret
    exact ⟨rfl, BZ.out⟩
end Go.Proofs.Ytamlnagipmomgab
