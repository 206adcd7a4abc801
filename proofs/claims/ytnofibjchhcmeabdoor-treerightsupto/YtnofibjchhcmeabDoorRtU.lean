/- Right, exact. -/
import Derived.Test.YtnofibjchhcmeabDoorRtS
namespace Go.Proofs.YtnofibjchhcmeabDoor
open Go.RowKit Go.Maps
set_option linter.unusedVariables false
set_option linter.unusedSimpArgs false

def YS (w : World) (l : SL) (kb bb b o : Nat) (res : Option Nat) (u11 : Value) (wr : World) : Prop :=
  ∃ (r : SL) (i n : Nat), u11 = .int .i64 (i : Int) ∧ i + slen r = slen l ∧ scnt r ≤ scnt l ∧ SSz r ∧ rtS r bb n = res ∧ n ≤ 600 ∧ SAt wr (fun j => j < kb) r b (o + i * 6) ∧ LK wr kb n ∧ Gr w wr kb
theorem stmtOk_len {k : Int} {s : ByteArray} {c : Int} {m bl el : Nat} (h : stmtOk k s c m bl el = true) (hb : (hasS k).body = false) : bl = 0 ∧ el = 0 := by
  unfold stmtOk at h
  rw [Bool.and_eq_true] at h
  obtain ⟨h1, h2⟩ := h
  have ho : (hasS k).other = false := by
    unfold hasS at hb ⊢
    split
    · rfl
    split
    · rfl
    split
    · rfl
    split
    · rfl
    split
    · rename_i a1 a2 a3 a4 a5; rw [if_neg a1, if_neg a2, if_neg a3, if_neg a4, if_pos a5] at hb; cases hb
    split <;> rfl
  unfold stmtB at h2
  rw [hb, ho] at h2
  simp at h2
  exact ⟨h2.1.2, h2.2⟩
theorem stmtOk_kind {k : Int} {s : ByteArray} {c : Int} {m bl el : Nat} (h : stmtOk k s c m bl el = true) : 1 ≤ k ∧ k ≤ 9 := by
  unfold stmtOk at h
  simp at h
  exact h.1

set_option maxRecDepth 100000 in
set_option maxHeartbeats 8000000 in
theorem stmts_any : ∀ (N : Nat) (l : SL) (v : Value) (w : World) (kb n bb : Nat), scnt l ≤ N → SSz l → bb ≤ 100 → n ≤ 600 → SSlP w (fun j => j < kb) v l → LK w kb n → TB w → 2 < kb → (bb ≤ 12 ∨ slen l = 0) → Calls Tryd.prog 22 #[.pointer (some ⟨kb, 0, none⟩), v, .int .i64 (bb : Int)] w (LP w kb (rtS l bb n)) := by
  intro N
  induction N using Nat.strongRecOn with
  | _ N ih =>
  intro l v w kb n bb hc hsz hd hn hes hlk hT hk2 hb13
  obtain ⟨ad, cap, b, o, rfl, h2, h3, h4, h5⟩ := hes
  obtain ⟨res, hres⟩ : ∃ r, rtS l bb n = r := ⟨_, rfl⟩
  obtain ⟨P, hP⟩ : ∃ P, LP w kb res = P := ⟨_, rfl⟩
  have HP : Hid (LP w kb res = P) := hP
  rw [hres, hP]
  have HIH : Hid (∀ M, M < N → ∀ (l : SL) (v : Value) (w : World) (kb n bb : Nat), scnt l ≤ M → SSz l → bb ≤ 100 → n ≤ 600 → SSlP w (fun j => j < kb) v l → LK w kb n → TB w → 2 < kb → (bb ≤ 12 ∨ slen l = 0) → Calls Tryd.prog 22 #[.pointer (some ⟨kb, 0, none⟩), v, .int .i64 (bb : Int)] w (LP w kb (rtS l bb n))) := ih
  have E0 : Hid (YS w l kb bb b o res (.int .i64 0) w) := ⟨l, 0, n, rfl, by omega, Nat.le_refl _, hsz, hres, hn, by simpa using h5, hlk, Gr.refl _ _⟩
  have HAD : Hid (0 < slen l → ad = some ⟨b, o, none⟩ ∧ b < kb) := h4
  have HT : Hid (TB w) := hT
  unfold maxLen at h3
  clear ih hP h4 h5 hT hlk hsz hres hn
  go_enter Tryd.func22, Tryd.ntmps22
  go_wp2_with fail
  go_loopw [11] (fun u11 wr => Hid (YS w l kb bb b o res u11 wr)) (fun u11 _ => slen l - (intOf u11).toNat)
  case atStart => exact E0
  case round =>
    clear E0
    obtain ⟨r, i, n, rfl, hi, hcr, hsr, hre, hn, hat, hlk, hgr⟩ := hrel.out
    clear hrel
    have HGR : Hid (Gr w wr kb) := hgr
    have HLK : Hid (LK wr kb n) := hlk
    have HTR : Hid (TB wr) := HT.out.gr hgr hk2
    have HLW : Hid (kb < wr.heap.size) := hlk.lt
    have HFN : Hid (∀ W, res = none → Gr wr W kb → P (.returned (.bool false)) W) := by
      intro W h g
      rw [← HP.out, h]
      exact ⟨rfl, (fun n' h => by cases h), HGR.out.trans g⟩
    cases r with
    | leaf =>
      have hi' : i = slen l := by simpa [slen] using hi
      subst hi'
      have HF : Hid (P (.returned (.bool true)) wr) := by
        show P _ _
        rw [← HP.out, ← hre]
        exact ⟨rfl, (fun n' h => by cases h; exact HLK.out), HGR.out⟩
      clear hat hi hlk hgr hre hsr hcr
      go_wp2_with fail
      first | exact HF.out | (go_ret; exact HF.out)
    | inner j x q y r =>
      obtain ⟨k, s, c, a⟩ := x
      obtain ⟨g1, g2, g3, va, vb, ve, g4, g5, g6, hea, hsb, hse, hr⟩ := hat.parts
      obtain ⟨a1, a3, ab, ao, rfl, ha2, ha3, ha4, ha5⟩ := hea
      obtain ⟨b1, b3, bb', bo, rfl, hb2, hb3, hb4, hb5⟩ := hsb
      obtain ⟨e1, e3, eb, eo, rfl, he2, he3, he4, he5⟩ := hse
      rw [scnt_inner] at hcr
      simp only [slen] at hi
      obtain ⟨q1, q2⟩ := HAD.out (by omega)
      subst q1
      obtain ⟨s1, s2, s3, s4, s5⟩ := SSz_inner hsr
      have hil : (i : Int) < (slen l : Int) := by omega
      have hil' : decide ((i : Int) < (slen l : Int)) = true := by simp; omega
      rw [rtS_inner] at hre
      have HRE : Hid ((if 600 < n + 1 then none else if stmtOk k s c (elen a) (slen (slft y)) (slen (srgt y)) = false then none else match rtE a 1 (n + 1) with | none => none | some n1 => match blkR k bb (rtS (slft y) (bb + 1)) (rtS (srgt y) (bb + 1)) n1 with | none => none | some n3 => rtS r bb n3) = res) := hre
      have HEA : Hid (∀ W, Gr wr W kb → ESlP W (fun j => j < kb) (.slice a1 (elen a) a3) a) := fun W hW => ESlP.keep (ok := fun j => j < kb) ⟨a1, a3, ab, ao, rfl, ha2, ha3, ha4, ha5⟩ fun z hz hz2 => hW.block z hz2 (by intro e; cases e; exact absurd hz (Nat.lt_irrefl _))
      have HSB : Hid (∀ W, Gr wr W kb → SSlP W (fun j => j < kb) (.slice b1 (slen (slft y)) b3) (slft y)) := fun W hW => SSlP.keep (ok := fun j => j < kb) ⟨b1, b3, bb', bo, rfl, hb2, hb3, hb4, hb5⟩ fun z hz hz2 => hW.block z hz2 (by intro e; cases e; exact absurd hz (Nat.lt_irrefl _))
      have HSE : Hid (∀ W, Gr wr W kb → SSlP W (fun j => j < kb) (.slice e1 (slen (srgt y)) e3) (srgt y)) := fun W hW => SSlP.keep (ok := fun j => j < kb) ⟨e1, e3, eb, eo, rfl, he2, he3, he4, he5⟩ fun z hz hz2 => hW.block z hz2 (by intro e; cases e; exact absurd hz (Nat.lt_irrefl _))
      have HRA : Hid (∀ W, Gr wr W kb → SAt W (fun j => j < kb) r b (o + (i + 1) * 6)) := fun W hW => (SAt.keep (ok := fun j => j < kb) (fun z hz hz2 => hW.block z hz2 (by intro e; cases e; exact absurd hz (Nat.lt_irrefl _))) r (fun _ => q2) hr |> fun h => by rw [show o + (i + 1) * 6 = o + i * 6 + 6 by omega]; exact h)
      have HNM : Hid (i + (slen r + 1) = slen l ∧ ecnt a + scnt (slft y) + scnt (srgt y) + scnt r + 1 ≤ scnt l ∧ SSz r ∧ SSz (slft y) ∧ SSz (srgt y) ∧ ESz a) := ⟨hi, hcr, s5, s3, s4, s2⟩
      have m1 : elen a ≤ 9223372036854775807 := by unfold maxLen at ha3; omega
      have m2 : slen (slft y) ≤ 9223372036854775807 := by unfold maxLen at hb3; omega
      have m3 : slen (srgt y) ≤ 9223372036854775807 := by unfold maxLen at he3; omega
      obtain ⟨bx, hbx⟩ : ∃ bx, wr.heap.size = bx := ⟨_, rfl⟩
      have HBX : Hid (wr.heap.size = bx) := hbx
      have HA0 : Hid (∀ W, LK W kb n → Calls Tryd.prog 34 #[.pointer (some ⟨kb, 0, none⟩)] W fun e w' => e = .returned (.bool (decide ((n : Int) + 1 ≤ 600))) ∧ w' = W.setCell ⟨kb, 0, none⟩ (.int .i64 ((n + 1 : Nat) : Int))) := fun W hW => another_any kb n W hW (by omega)
      have HX0 : Hid (∀ W, TB W → Calls Tryd.prog 35 #[.agg #[.int .i64 k, .string s, .int .i64 c, .slice a1 (elen a) a3, .slice b1 (slen (slft y)) b3, .slice e1 (slen (srgt y)) e3]] W (QB W (stmtOk k s c (elen a) (slen (slft y)) (slen (srgt y))))) := fun W hW => stmtFits_any k s c a1 b1 e1 (elen a) a3 (slen (slft y)) b3 (slen (srgt y)) e3 m1 m2 m3 s1 W hW
      have HEX : Hid (∀ W, Gr wr W kb → LK W kb (n + 1) → n + 1 ≤ 600 → TB W → Calls Tryd.prog 36 #[.pointer (some ⟨kb, 0, none⟩), .slice a1 (elen a) a3, .int .i64 1] W (LP W kb (rtE a 1 (n + 1)))) := fun W hW hL hnn hTW => exprs_any (ecnt a) a _ W kb (n + 1) 1 (Nat.le_refl _) HNM.out.2.2.2.2.2 (by omega) hnn (HEA.out W hW) hL hTW hk2
      generalize hsd : rtS (slft y) (bb + 1) = rd at HRE
      generalize hsr2 : rtS (srgt y) (bb + 1) = re at HRE
      have hb12 : bb ≤ 12 := by
        rcases hb13 with h | h
        · exact h
        · omega
      have HBDB : Hid (∀ n1 n3, n1 ≤ 600 → blkR k bb rd re n1 = some n3 → n3 ≤ 600) := by
        intro n1 n3 hn1 h
        unfold blkR at h
        split at h
        · cases h
        · rcases e3' : rd n1 with _ | n2
          · rw [e3'] at h; cases h
          · rw [e3'] at h; simp only at h
            rw [← hsd] at e3'; rw [← hsr2] at h
            exact rtS_bd _ _ _ _ (rtS_bd _ _ _ _ hn1 e3') h
      have HBL : Hid (∀ W n1, stmtOk k s c (elen a) (slen (slft y)) (slen (srgt y)) = true → Gr wr W kb → LK W kb n1 → n1 ≤ 600 → TB W → Calls Tryd.prog 37 #[.pointer (some ⟨kb, 0, none⟩), .agg #[.int .i64 k, .string s, .int .i64 c, .slice a1 (elen a) a3, .slice b1 (slen (slft y)) b3, .slice e1 (slen (srgt y)) e3], .int .i64 (bb : Int)] W (LP W kb (blkR k bb rd re n1))) := by
        intro W n1 hok hW hL hn1 hTW
        rw [← hsd, ← hsr2]
        have hdep : ¬ ((hasS k).body = true ∧ 12 ≤ bb) → (bb + 1 ≤ 12 ∨ slen (slft y) = 0) ∧ (bb + 1 ≤ 12 ∨ slen (srgt y) = 0) := by
          intro h
          by_cases h12 : bb + 1 ≤ 12
          · exact ⟨.inl h12, .inl h12⟩
          · have hbf : (hasS k).body = false := by
              cases hh : (hasS k).body
              · rfl
              · exact absurd ⟨hh, by omega⟩ h
            obtain ⟨z1, z2⟩ := stmtOk_len hok hbf
            exact ⟨.inr z1, .inr z2⟩
        refine blocks_any k (stmtOk_kind hok) s c _ _ _ bb n1 kb hd _ _ W hL hTW hk2 ?_ ?_
        · intro V hnb hV hLV hTV
          have := HIH.out (scnt (slft y)) (by have := HNM.out; omega) (slft y) (.slice b1 (slen (slft y)) b3) V kb n1 (bb + 1) (Nat.le_refl _) HNM.out.2.2.2.1 (by omega) hn1 (HSB.out V (hW.trans hV)) hLV hTV hk2 (hdep hnb).1
          rw [show ((bb + 1 : Nat) : Int) = (bb : Int) + 1 by omega] at this
          exact this
        · intro V n2 hnb hr2 hV hLV hTV
          have := HIH.out (scnt (srgt y)) (by have := HNM.out; omega) (srgt y) (.slice e1 (slen (srgt y)) e3) V kb n2 (bb + 1) (Nat.le_refl _) HNM.out.2.2.2.2.1 (by omega) (rtS_bd _ _ _ _ hn1 hr2) (HSE.out V (hW.trans hV)) hLV hTV hk2 (hdep hnb).2
          rw [show ((bb + 1 : Nat) : Int) = (bb : Int) + 1 by omega] at this
          exact this
      clear hr ha5 hb5 he5 hi ha4 hb4 he4 ha2 hb2 he2 ha3 hb3 he3 hlk hgr hre s1 s2 s3 s4 s5 hbx hat hsr hsd hsr2
      go_wp2_with fail
      rw [HBX.out]
      generalize hW : wr.alloc _ = W0
      have B0 : Hid (Below wr.heap.size wr W0) := by show Below _ _ _; rw [← hW]; exact (Below.refl _ _).alloc (Nat.le_refl _) _
      have X0 : Hid (W0.heap[bx]? = some (.cells #[.int .i64 k, .string s, .int .i64 c, .slice a1 (elen a) a3, .slice b1 (slen (slft y)) b3, .slice e1 (slen (srgt y)) e3] 39)) := by show _ = _; rw [← hW, ← HBX.out]; exact heap_alloc_new _ _
      clear hW g1 g2 g3 g4 g5 g6
      have L0 : Hid (LK W0 kb n) := HLK.out.keep (B0.out.block kb HLW.out)
      refine (HA0.out _ L0.out).mono ?_
      rintro e w1 ⟨rfl, hw1⟩
      have L1 : Hid (LK w1 kb (n + 1)) := by show LK _ _ _; rw [hw1]; exact L0.out.put _
      have hne : bx ≠ kb := by have := HBX.out; have := HLW.out; omega
      have X1 : Hid (w1.heap[bx]? = some (.cells #[.int .i64 k, .string s, .int .i64 c, .slice a1 (elen a) a3, .slice b1 (slen (slft y)) b3, .slice e1 (slen (srgt y)) e3] 39)) := by show _ = _; rw [hw1]; exact (Below.heap_setCell _ _ _ _ (by show bx ≠ kb; exact hne)).trans X0.out
      have G1 : Hid (Gr wr w1 kb) := by show Gr _ _ _; rw [hw1]; exact (Gr.below B0.out).set _ _
      clear hw1
      by_cases h6 : 600 < n + 1
      · have e6 : decide ((n : Int) + 1 ≤ 600) = false := by simp; omega
        rw [e6]
        have HRN : Hid (res = none) := by show _ = _; rw [← HRE.out, if_pos h6]
        have HF : Hid (P (.returned (.bool false)) w1) := HFN.out _ HRN.out G1.out
        clear h6
        go_wp2_with fail
        first | exact HF.out | (go_ret; exact HF.out)
      have e6 : decide ((n : Int) + 1 ≤ 600) = true := by simp; omega
      rw [e6]
      have x0 : w1.cell? ⟨bx, 0, none⟩ = some (.int .i64 k) := (cell_of_row _ _ 0 _ _ _ X1.out).trans rfl
      have x1 : w1.cell? ⟨bx, 1, none⟩ = some (.string s) := (cell_of_row _ _ 1 _ _ _ X1.out).trans rfl
      have x2 : w1.cell? ⟨bx, 2, none⟩ = some (.int .i64 c) := (cell_of_row _ _ 2 _ _ _ X1.out).trans rfl
      have x3 : w1.cell? ⟨bx, 3, none⟩ = some (.slice a1 (elen a) a3) := (cell_of_row _ _ 3 _ _ _ X1.out).trans rfl
      have x4 : w1.cell? ⟨bx, 4, none⟩ = some (.slice b1 (slen (slft y)) b3) := (cell_of_row _ _ 4 _ _ _ X1.out).trans rfl
      have x5 : w1.cell? ⟨bx, 5, none⟩ = some (.slice e1 (slen (srgt y)) e3) := (cell_of_row _ _ 5 _ _ _ X1.out).trans rfl
      have T1 : Hid (TB w1) := HTR.out.gr G1.out hk2
      go_wp2_with fail
      refine (HX0.out _ T1.out).mono ?_
      rintro e w2 ⟨rfl, hb2⟩
      have G2 : Hid (Gr wr w2 kb) := G1.out.trans (Gr.below hb2)
      have L2 : Hid (LK w2 kb (n + 1)) := L1.out.keep (hb2.block kb L1.out.lt)
      have X2 : Hid (w2.heap[bx]? = some (.cells #[.int .i64 k, .string s, .int .i64 c, .slice a1 (elen a) a3, .slice b1 (slen (slft y)) b3, .slice e1 (slen (srgt y)) e3] 39)) := (hb2.block bx (Array.getElem?_eq_some_iff.1 X1.out).1).trans X1.out
      have T2 : Hid (TB w2) := T1.out.below hb2
      clear x0 x1 x2 x3 x4 x5 hb2
      have y3 : w2.cell? ⟨bx, 3, none⟩ = some (.slice a1 (elen a) a3) := (cell_of_row _ _ 3 _ _ _ X2.out).trans rfl
      rcases hok : stmtOk k s c (elen a) (slen (slft y)) (slen (srgt y)) with _ | _
      · have HRN : Hid (res = none) := by show _ = _; rw [← HRE.out, if_neg h6, if_pos hok]
        have HF : Hid (P (.returned (.bool false)) w2) := HFN.out _ HRN.out G2.out
        clear h6 hok
        go_wp2_with fail
        first | exact HF.out | (go_ret; exact HF.out)
      have HKD : Hid (stmtOk k s c (elen a) (slen (slft y)) (slen (srgt y)) = true) := hok
      have HRM : Hid ((match rtE a 1 (n + 1) with | none => none | some n1 => match blkR k bb rd re n1 with | none => none | some n3 => rtS r bb n3) = res) := by show _ = _; rw [← HRE.out, if_neg h6, if_neg (by rw [hok]; simp)]
      clear hok
      go_wp2_with fail
      refine (HEX.out _ G2.out L2.out (by omega) T2.out).mono ?_
      intro e w3 hp3
      have hbda := rtE_bd a 1 (n + 1)
      rcases hra : rtE a 1 (n + 1) with _ | n1
      · rw [hra] at hp3 HRM
        obtain ⟨rfl, hp4, hp5⟩ := hp3
        have HF : Hid (P (.returned (.bool false)) w3) := HFN.out _ HRM.out.symm (G2.out.trans hp5)
        clear h6 hra hp4 hp5 hbda
        simp only [Option.isSome]
        go_wp2_with fail
        first | exact HF.out | (go_ret; exact HF.out)
      rw [hra] at hp3 HRM
      obtain ⟨rfl, hp4, hp5⟩ := hp3
      have G3 : Hid (Gr wr w3 kb) := G2.out.trans hp5
      have L3 : Hid (LK w3 kb n1) := hp4 n1 rfl
      have HN1 : Hid (n1 ≤ 600) := hbda n1 (by omega) hra
      have X3 : Hid (w3.heap[bx]? = some (.cells #[.int .i64 k, .string s, .int .i64 c, .slice a1 (elen a) a3, .slice b1 (slen (slft y)) b3, .slice e1 (slen (srgt y)) e3] 39)) := (hp5.block bx (Array.getElem?_eq_some_iff.1 X2.out).1 (by intro e; cases e; exact hne rfl)).trans X2.out
      have T3 : Hid (TB w3) := HTR.out.gr G3.out hk2
      clear h6 hra hp4 hp5 hbda y3
      have x0 : w3.cell? ⟨bx, 0, none⟩ = some (.int .i64 k) := (cell_of_row _ _ 0 _ _ _ X3.out).trans rfl
      have x1 : w3.cell? ⟨bx, 1, none⟩ = some (.string s) := (cell_of_row _ _ 1 _ _ _ X3.out).trans rfl
      have x2 : w3.cell? ⟨bx, 2, none⟩ = some (.int .i64 c) := (cell_of_row _ _ 2 _ _ _ X3.out).trans rfl
      have x3 : w3.cell? ⟨bx, 3, none⟩ = some (.slice a1 (elen a) a3) := (cell_of_row _ _ 3 _ _ _ X3.out).trans rfl
      have x4 : w3.cell? ⟨bx, 4, none⟩ = some (.slice b1 (slen (slft y)) b3) := (cell_of_row _ _ 4 _ _ _ X3.out).trans rfl
      have x5 : w3.cell? ⟨bx, 5, none⟩ = some (.slice e1 (slen (srgt y)) e3) := (cell_of_row _ _ 5 _ _ _ X3.out).trans rfl
      simp only [Option.isSome]
      go_wp2_with fail
      refine (HBL.out _ n1 HKD.out G3.out L3.out HN1.out T3.out).mono ?_
      intro e w4 hp6
      rcases hrb : blkR k bb rd re n1 with _ | n3
      · rw [hrb] at hp6
        have HRN : Hid (res = none) := by
          show _ = _
          have := HRM.out
          rw [hrb] at this
          exact this.symm
        obtain ⟨rfl, hp7, hp8⟩ := hp6
        have HF : Hid (P (.returned (.bool false)) w4) := HFN.out _ HRN.out (G3.out.trans hp8)
        clear hrb hp7 hp8 x0 x1 x2 x3 x4 x5
        simp only [Option.isSome]
        go_wp2_with fail
        first | exact HF.out | (go_ret; exact HF.out)
      · rw [hrb] at hp6
        have HRN : Hid (rtS r bb n3 = res) := by
          show _ = _
          have := HRM.out
          rw [hrb] at this
          exact this
        obtain ⟨rfl, hp7, hp8⟩ := hp6
        have HE2 : Hid (YS w l kb bb b o res (.int .i64 ((i : Int) + 1)) w4) := ⟨r, i + 1, n3, by simp, by have := HNM.out; omega, by have := HNM.out; omega, HNM.out.2.2.1, HRN.out, HBDB.out n1 n3 HN1.out hrb, HRA.out w4 (G3.out.trans hp8), hp7 n3 rfl, HGR.out.trans (G3.out.trans hp8)⟩
        clear hrb hp7 hp8 x0 x1 x2 x3 x4 x5
        simp only [Option.isSome]
        go_wp2_with fail
        go_roundw
        case rel => exact HE2
        case measure => simp [intOf]; omega
end Go.Proofs.YtnofibjchhcmeabDoor
namespace Go.Proofs.YtnofibjchhcmeabDoor
open Go.RowKit Go.Maps
set_option linter.unusedVariables false

set_option maxRecDepth 100000 in
set_option maxHeartbeats 4000000 in
theorem right_any (l : SL) (v : Value) (w : World) (hsz : SSz l) (hs : SSx w v l) (hT : TB w) : Calls Tryd.prog 13 #[v] w (QB w (rtS l 0 0).isSome) := by
  have h2 : 2 < w.heap.size := by obtain ⟨⟨t, fr, h⟩, _⟩ := hT; exact (Array.getElem?_eq_some_iff.1 h).1
  have HC : Hid (∀ W, Below w.heap.size w W → LK W w.heap.size 0 → Calls Tryd.prog 22 #[.pointer (some ⟨w.heap.size, 0, none⟩), v, .int .i64 0] W (LP W w.heap.size (rtS l 0 0))) := fun W hW hL => stmts_any (scnt l) l v W w.heap.size 0 0 (Nat.le_refl _) hsz (by omega) (by omega) ((hs.mono' (ok' := fun j => j < w.heap.size) fun k _ hk => hk).below hW) hL (hT.below hW) h2 (.inl (by omega))
  obtain ⟨ad, cap, b, o, rfl, _⟩ := hs
  generalize rtS l 0 0 = res at HC ⊢
  generalize slen l = N at HC ⊢
  obtain ⟨z, hz⟩ : ∃ z, res.isSome = z := ⟨_, rfl⟩
  have HZ : Hid (res.isSome = z) := hz
  rw [hz]
  clear hT h2 hsz hz
  go_enter Tryd.func13, Tryd.ntmps13
  go_wp2_with fail
  refine (HC.out _ ((Below.refl _ _).alloc (Nat.le_refl _) _) (heap_alloc_new w _)).mono ?_
  rintro e w1 ⟨rfl, _, hg⟩
  rw [HZ.out]
  have HB : Hid (Below w.heap.size w w1) := by
    have hb := (Below.refl w.heap.size w).alloc (Nat.le_refl _) (.cells #[.int .i64 0] 51)
    exact ⟨hg.os.trans hb.os, hg.tape.trans hb.tape, hg.output.trans hb.output, Nat.le_trans hb.size hg.size, fun k hk => (hg.block k (by simp; omega) (by intro e; cases e; omega)).trans (hb.block k hk)⟩
  clear hg
  go_wp2_with fail
  first | exact ⟨rfl, HB.out⟩ | (go_ret; exact ⟨rfl, HB.out⟩)
end Go.Proofs.YtnofibjchhcmeabDoor
