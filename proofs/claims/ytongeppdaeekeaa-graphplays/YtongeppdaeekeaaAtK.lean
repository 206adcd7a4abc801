/- AttemptHolds: the law's walk. -/
import Derived.Test.YtongeppdaeekeaaAtJ
namespace Go.Proofs.Ytongeppdaeekeaa
open Go.RowKit Go.Maps
set_option linter.unusedVariables false

theorem turnN (a : Int) (N : Nat) (h0 : 0 < N) (hN : N ≤ 1000) : ∃ (r : Int) (k : Nat), Int.tmod a (N : Int) = r ∧ -1000 ≤ r ∧ r ≤ 1000 ∧ Int.tmod (r + N) (N : Int) = (k : Int) ∧ k < N := by
  have hp : (0 : Int) < (N : Int) := by omega
  have h1 := Int.tmod_lt_of_pos a hp
  have h2 : -(N : Int) < Int.tmod a (N : Int) := by
    rcases Int.le_total 0 a with h | h
    · have := Int.tmod_nonneg (N : Int) h; omega
    · have e : Int.tmod a (N : Int) = -(Int.tmod (-a) (N : Int)) := by rw [Int.neg_tmod]; omega
      have := Int.tmod_lt_of_pos (-a) hp
      omega
  refine ⟨_, (Int.tmod (Int.tmod a (N : Int) + N) (N : Int)).toNat, rfl, by omega, by omega, ?_, ?_⟩
  · have := Int.tmod_nonneg (N : Int) (show 0 ≤ Int.tmod a (N : Int) + N by omega)
    omega
  · have := Int.tmod_lt_of_pos (Int.tmod a (N : Int) + N) hp
    omega
set_option maxRecDepth 100000 in
set_option maxHeartbeats 8000000 in
theorem holds_walk (v0 v1 : Value) (A : List (Int × Int × Int)) (M : List Int) (at' : Int) (w : World) (h0 : RS kR w v0 A) (h1 : RS kN w v1 M) : Calls Try.prog 5 #[v0, v1, .int .i64 at'] w (AN w (.bool true)) := by
  have HQ : Hid (∀ W, Below w.heap.size w W → AN w (.bool true) (.returned (.bool true)) W) := fun W hW => ⟨rfl, hW⟩
  have HAL : Hid (∀ W, Calls Try.prog 13 #[] W (AN W (.bool true))) := alive_any
  have HNW : Hid (∀ W, Calls Try.prog 9 #[.int .i64 64, .int .i64 1, .int .i64 1, .slice none 0 0] W fun e w' => ∃ lb, e = .returned (.tuple #[.pointer (some ⟨lb, 0, none⟩), .int .i64 0]) ∧ OL W w' lb (newL 64 1 1 [])) := fun W => (lnew_any 64 1 1 [] _ W (PSl.nil W)).mono fun e w' h => new_own rfl h
  have H0 : Hid (RS kR w v0 A) := h0
  have H1 : Hid (RS kN w v1 M) := h1
  obtain ⟨a0, c0, e0⟩ := h0.form
  obtain ⟨a1, c1, e1⟩ := h1.form
  obtain ⟨n0, hn0⟩ : ∃ n, A.length = n := ⟨_, rfl⟩
  obtain ⟨n1, hn1⟩ : ∃ n, M.length = n := ⟨_, rfl⟩
  have HN0 : Hid (A.length = n0) := hn0
  have HN1 : Hid (M.length = n1) := hn1
  have hb0 : n0 ≤ maxLen := by obtain ⟨_, _, _, _, _, q1, q2, _⟩ := h0; omega
  have hb1 : n1 ≤ maxLen := by obtain ⟨_, _, _, _, _, q1, q2, _⟩ := h1; omega
  unfold maxLen at hb0 hb1
  rw [hn0] at e0
  rw [hn1] at e1
  subst e0 e1
  clear h0 h1 hn0 hn1
  generalize AN w (.bool true) = P at *
  by_cases g1 : 100 < n1
  · have d1 : decide (100 < n1) = true := by simp [g1]
    have HF : Hid (P (.returned (.bool true)) w) := HQ.out _ (Below.refl _ _)
    go_enter Try.func5, Try.ntmps5
    go_wp2
    first | exact HF.out | (go_ret; exact HF.out)
  have d1 : decide (100 < n1) = false := by simp; omega
  by_cases g2 : 64 < n0
  · have d2 : decide (64 < n0) = true := by simp [g2]
    have HF : Hid (P (.returned (.bool true)) w) := HQ.out _ (Below.refl _ _)
    go_enter Try.func5, Try.ntmps5
    go_wp2
    first | exact HF.out | (go_ret; exact HF.out)
  have d2 : decide (64 < n0) = false := by simp; omega
  go_enter Try.func5, Try.ntmps5
  go_wp2_with fail
  refine (HNW.out w).mono ?_
  rintro e w1 ⟨lb, rfl, q1⟩
  have HL : Hid (OL w w1 lb (newL 64 1 1 [])) := q1
  have HBW : Hid (Below w.heap.size w w1) := q1.bel
  clear q1
  have HE : Hid (RZ kN (w1.alloc (.cells #[] 2)) (.slice (some ⟨w1.heap.size, 0, none⟩) 0 0) []) := RZ.empty kN w1
  have HM : Hid (RS kN (w1.alloc (.cells #[] 2)) (.slice a1 n1 c1) M) := H1.out.below (HBW.out.trans ((bl1 w1 _).mono HBW.out.size))
  have hl5 : ([] : List Int).length + M.length ≤ 100000 := by have := HN1.out; simp; omega
  go_wp2_with (at_builtin; refine push_row kN _ rfl _ _ rfl _ _ [] M rfl rfl HE.out HM.out hl5 ?_)
  intro v4 w4 hz g4 ho
  have hob : ∀ g, (Value.slice (some ⟨w1.heap.size, 0, none⟩) 0 0).ownBlock = some g → w1.heap.size ≤ g := by
    intro g hg
    have : w1.heap.size = g := by simpa [Value.ownBlock] using hg
    omega
  have hOM := OL.row HL.out hob (bl1 w1 _) g4 (ho.imp id (fun e => e.trans (by simp))) hz
  obtain ⟨a4, k4, rfl⟩ := hz.sl
  simp only [HN1.out] at hOM ⊢
  have O1 : Hid (OM w w4 lb (newL 64 1 1 []) (.slice a4 n1 k4) M) := hOM
  clear hob hz g4 ho hOM HE HM HL HBW hl5
  go_wp2_with fail
  go_loopw [10, 11] (fun i u wr => ∃ (q : Nat) (s : Lg), i = .int .i64 (q : Int) ∧ q ≤ n0 ∧ Hid (OM w wr lb s (.slice a4 n1 k4) M) ∧ Hid (holdsL s.Rs M = true)) (fun i _ _ => n0 - (intOf i).toNat)
  case atStart => exact ⟨0, _, rfl, Nat.zero_le _, O1, rfl⟩
  case round =>
    clear O1
    obtain ⟨q, s, rfl, hq, O, HH⟩ := hrel
    by_cases hlt : q < n0
    · have d3 : decide (q < n0) = true := by simp [hlt]
      have hq' : q < A.length := by rw [HN0.out]; exact hlt
      obtain ⟨b, o, n, c', hv, hcl⟩ := (H0.out.below O.out.bel).cell hq'
      simp only [Value.slice.injEq] at hv
      obtain ⟨rfl, rfl, rfl⟩ := hv
      obtain ⟨⟨z0, z1, z2⟩, hz⟩ : ∃ z, A[q] = z := ⟨_, rfl⟩
      rw [hz] at hcl
      obtain ⟨y0, y1, y2⟩ := tri_cells rfl rfl hcl
      clear hz hcl
      by_cases k0 : 0 ≤ z0
      · have d4 : decide (0 ≤ z0) = true := by simp [k0]
        by_cases k1 : z0 < (n1 : Int)
        · obtain ⟨i, rfl⟩ : ∃ i : Nat, z0 = (i : Int) := ⟨z0.toNat, by omega⟩
          have k1' : i < n1 := by omega
          have d5 : decide (i < n1) = true := by simp [k1']
          have hiM : i < M.length := by rw [HN1.out]; exact k1'
          obtain ⟨U, hU⟩ : ∃ U, wr.alloc (.cells #[.int .i64 (i : Int), .int .i64 z1, .int .i64 z2] 57) = U := ⟨_, rfl⟩
          have HU : Hid (wr.alloc (.cells #[.int .i64 (i : Int), .int .i64 z1, .int .i64 z2] 57) = U) := hU
          have OU : Hid (OM w U lb s (.slice a4 n1 k4) M) := by rw [← hU]; exact O.out.below (bl1 _ _)
          have u0 : U.cell? ⟨wr.heap.size, 0, none⟩ = some (.int .i64 (i : Int)) := by rw [← hU]; simp
          have u1 : U.cell? ⟨wr.heap.size, 1, none⟩ = some (.int .i64 z1) := by rw [← hU]; simp
          have u2 : U.cell? ⟨wr.heap.size, 2, none⟩ = some (.int .i64 z2) := by rw [← hU]; simp
          have uf : U.frozen? ⟨wr.heap.size, 1, none⟩ = false := by rw [← hU]; simp
          obtain ⟨gm, cm, hvm, hclm, _⟩ := OU.out.row.cell hiM
          rw [HN1.out] at hvm
          simp only [Value.slice.injEq] at hvm
          obtain ⟨rfl, _, rfl⟩ := hvm
          have m0 := uno_own rfl rfl hclm
          obtain ⟨y, hy⟩ : ∃ y, M[i] = y := ⟨_, rfl⟩
          rw [hy] at m0
          have HZ : Hid (hlds M ((i : Int), y, z2) = true) := by
            show _ = _
            unfold hlds
            simp [List.getD, hiM, hy]
          have OU2 : Hid (OM w (U.setCell ⟨wr.heap.size, 1, none⟩ (.int .i64 y)) lb s (.slice (some ⟨gm, 0, none⟩) n1 k4) M) := by
            rw [← hU]
            refine O.out.below ((bl1 wr _).setCell (p := ⟨wr.heap.size, 1, none⟩) (Nat.le_refl _) _)
          have HO := OU2.out.step (s' := noteS s ((i : Int), y, z2)) (v := .int .i64 (noteE s ((i : Int), y, z2))) (f := 22) (args := #[.pointer (some ⟨lb, 0, none⟩), .agg #[.int .i64 (i : Int), .int .i64 y, .int .i64 z2]]) (fun lab h => note_any h _ _ _)
          have HOO : Hid (Calls Try.prog 22 #[.pointer (some ⟨lb, 0, none⟩), .agg #[.int .i64 (i : Int), .int .i64 y, .int .i64 z2]] (U.setCell ⟨wr.heap.size, 1, none⟩ (.int .i64 y)) fun e w' => e = .returned (.int .i64 (noteE s ((i : Int), y, z2))) ∧ OM w w' lb (noteS s ((i : Int), y, z2)) (.slice (some ⟨gm, 0, none⟩) n1 k4) M) := HO
          clear HO hU hclm hy hq'
          go_upto_region 11 with fail
          rw [HU.out]
          go_wp2_with fail
          refine HOO.out.mono ?_
          rintro e w6 ⟨rfl, o6⟩
          have O6 : Hid (OM w w6 lb (noteS s ((i : Int), y, z2)) (.slice (some ⟨gm, 0, none⟩) n1 k4) M) := o6
          clear o6
          go_wp2_with fail
          go_roundw
          case rel => exact ⟨q + 1, _, by go_num, by omega, O6, note_holds HH.out HZ.out⟩
          case measure => simp [intOf]; omega
        · have d5 : decide (z0 < (n1 : Int)) = false := by simp; omega
          have O6 : Hid (OM w (wr.alloc (.cells #[.int .i64 z0, .int .i64 z1, .int .i64 z2] 57)) lb s (.slice a4 n1 k4) M) := O.out.below (bl1 _ _)
          go_wp2_with fail
          go_roundw
          case rel => exact ⟨q + 1, _, by go_num, by omega, O6, HH⟩
          case measure => simp [intOf]; omega
      · have d4 : decide (0 ≤ z0) = false := by simp; omega
        have O6 : Hid (OM w (wr.alloc (.cells #[.int .i64 z0, .int .i64 z1, .int .i64 z2] 57)) lb s (.slice a4 n1 k4) M) := O.out.below (bl1 _ _)
        go_wp2_with fail
        go_roundw
        case rel => exact ⟨q + 1, _, by go_num, by omega, O6, HH⟩
        case measure => simp [intOf]; omega
    · have d3 : decide (q < n0) = false := by simp; omega
      have hqn : q = n0 := by omega
      subst hqn
      have HO : Hid (Calls Try.prog 23 #[.pointer (some ⟨lb, 0, none⟩), .slice a4 n1 k4] wr fun e w' => e = .returned (.bool true) ∧ OM w w' lb s (.slice a4 n1 k4) M) := O.out.look fun lab h => by
        obtain ⟨_, _, _, _, _, _, _, h⟩ := h
        have := holds_any h _ _ O.out.row.rs.gsl
        rw [HH.out] at this; exact this
      go_wp2_with fail
      refine HO.out.mono ?_
      rintro e w5 ⟨rfl, o5⟩
      have O5 : Hid (OM w w5 lb s (.slice a4 n1 k4) M) := o5
      clear o5 HO O
      by_cases hz : n1 = 0
      · subst hz
        go_wp2_with fail
        refine (HAL.out _).mono ?_
        rintro e w6 ⟨rfl, b6⟩
        have HF : Hid (P (.returned (.bool true)) w6) := HQ.out _ (O5.out.bel.trans (b6.mono O5.out.bel.size))
        go_wp2
        first | exact HF.out | (go_ret; exact HF.out)
      · obtain ⟨r, i, t1, t2, t3, t4, t5⟩ := turnN at' n1 (by omega) (by omega)
        have d6 : (n1 == 0) = false := by simp; omega
        have d7 : ((n1 : Int) == 0) = false := by simp; omega
        have hw1 : wrap64 (r + (n1 : Int)) = r + (n1 : Int) := w64in _ ⟨by omega, by omega⟩
        have hw2 : IntKind.i64.wrap (r + (n1 : Int)) = r + (n1 : Int) := by simp [IntKind.wrap, IntKind.bits, IntKind.signed]; omega
        have hiM : i < M.length := by rw [HN1.out]; exact t5
        obtain ⟨gm, cm, hvm, hclm, hfm⟩ := O5.out.row.cell hiM
        rw [HN1.out] at hvm
        simp only [Value.slice.injEq] at hvm
        obtain ⟨rfl, _, rfl⟩ := hvm
        have m0 := uno_own rfl rfl hclm
        have mf := hfm i
        obtain ⟨y, hy⟩ : ∃ y, M[i] = y := ⟨_, rfl⟩
        rw [hy] at m0
        obtain ⟨x, hx⟩ : ∃ x, bits .xor .i64 y 1 = x := ⟨_, rfl⟩
        have HX : Hid (holdsL s.Rs (M.set i x) = !hasR s (i : Int)) := holds_turn s.Rs M i hiM x (by rw [← hx, hy]; exact xor_ne y) HH.out s rfl
        have O7 : Hid (OM w (w5.setCell ⟨gm, i, none⟩ (.int .i64 x)) lb s (.slice (some ⟨gm, 0, none⟩) n1 k4) (M.set i x)) := O5.out.set hiM x
        have O8 : Hid (∀ A : Obj, OM w ((w5.setCell ⟨gm, i, none⟩ (.int .i64 x)).alloc A) lb s (.slice (some ⟨gm, 0, none⟩) n1 k4) (M.set i x)) := fun A => O7.out.below (bl1 _ _)
        have HR : Hid (Calls Try.prog 24 #[.pointer (some ⟨lb, 0, none⟩), .int .i64 (i : Int)] (w5.setCell ⟨gm, i, none⟩ (.int .i64 x)) fun e w' => e = .returned (readV s (i : Int)) ∧ OM w w' lb s (.slice (some ⟨gm, 0, none⟩) n1 k4) (M.set i x)) := O7.out.look fun lab h => rdq_any h _
        clear hclm hfm hy
        go_wp2_with fail
        try rw [hx]
        refine HR.out.mono ?_
        rintro e w6 ⟨rfl, o6⟩
        have O6 : Hid (OM w w6 lb s (.slice (some ⟨gm, 0, none⟩) n1 k4) (M.set i x)) := o6
        clear o6
        unfold readV
        obtain ⟨b, hb⟩ : ∃ b, hasR s (i : Int) = b := ⟨_, rfl⟩
        rw [hb] at HX ⊢
        generalize readZ s (i : Int) = rz at *
        obtain ⟨r0, r1, r2⟩ := rz
        have HH2 : Hid (∀ A : Obj, Calls Try.prog 23 #[.pointer (some ⟨lb, 0, none⟩), .slice (some ⟨gm, 0, none⟩) n1 k4] (w6.alloc A) fun e w' => e = .returned (.bool (!b)) ∧ OM w w' lb s (.slice (some ⟨gm, 0, none⟩) n1 k4) (M.set i x)) := fun A => (O6.out.below (bl1 w6 A)).look fun lab h => by
          obtain ⟨_, _, _, _, _, _, _, h⟩ := h
          have := holds_any h _ _ (O6.out.below (bl1 w6 A)).row.rs.gsl
          rw [HX.out] at this; exact this
        clear HR hx m0 mf hb
        go_wp2_with fail
        refine (HH2.out _).mono ?_
        rintro e w7 ⟨rfl, o7⟩
        have B7 : Hid (Below w.heap.size w w7) := o7.bel
        clear o7 HH2
        cases b with
        | true =>
          go_wp2_with fail
          refine (HAL.out _).mono ?_
          rintro e w8 ⟨rfl, b8⟩
          have HF : Hid (P (.returned (.bool true)) w8) := HQ.out _ (B7.out.trans (b8.mono B7.out.size))
          go_wp2
          first | exact HF.out | (go_ret; exact HF.out)
        | false =>
          go_wp2_with fail
          refine (HAL.out _).mono ?_
          rintro e w8 ⟨rfl, b8⟩
          have HF : Hid (P (.returned (.bool true)) w8) := HQ.out _ (B7.out.trans (b8.mono B7.out.size))
          go_wp2
          first | exact HF.out | (go_ret; exact HF.out)
end Go.Proofs.Ytongeppdaeekeaa
