/- The looker goes over expressions: exact. -/
import Derived.Test.YtnofibjchhcmeabDoorRtC
namespace Go.Proofs.YtnofibjchhcmeabDoor
open Go.RowKit Go.Maps
set_option linter.unusedVariables false
set_option linter.unusedSimpArgs false

/-- strings that there may be -/
def ESz : EL → Prop
  | .leaf => True
  | .inner _ (_, _, s, _) _ a r => s.size ≤ maxLen ∧ ESz a ∧ ESz r
/-- how many nodes there are behind expressions that are right, the d-th from the statement on -/
def rtE : EL → Nat → Nat → Option Nat
  | .leaf, _, n => some n
  | .inner _ (k, m, s, p) _ a r, d, n => if 48 < d then none else if 600 < n + 1 then none else if exprOk k m s p (elen a) = false then none else
    match rtE a (d + 1) (n + 1) with
    | none => none
    | some n' => rtE r d n'
theorem rtE_bd (l : EL) : ∀ d n n', n ≤ 600 → rtE l d n = some n' → n' ≤ 600 := by
  induction l with
  | leaf => intro d n n' hn h; cases h; exact hn
  | inner i x v a r iha ihr =>
    obtain ⟨k, m, s, p⟩ := x
    intro d n n' hn h
    unfold rtE at h
    split at h
    · cases h
    split at h
    · cases h
    split at h
    · cases h
    rcases e : rtE a (d + 1) (n + 1) with _ | n1
    · rw [e] at h; cases h
    · rw [e] at h
      exact ihr _ _ _ (iha _ _ _ (by omega) e) h
def LP (w : World) (kb : Nat) (res : Option Nat) (e : Ending) (w' : World) : Prop := e = .returned (.bool res.isSome) ∧ (∀ n', res = some n' → LK w' kb n') ∧ Gr w w' kb
theorem LK.keep {w w' : World} {kb n : Nat} (h : LK w kb n) (hb : w'.heap[kb]? = w.heap[kb]?) : LK w' kb n := hb.trans h
theorem LK.lt {w : World} {kb n : Nat} (h : LK w kb n) : kb < w.heap.size := (Array.getElem?_eq_some_iff.1 h).1
theorem LK.put {w : World} {kb n : Nat} (h : LK w kb n) (m : Nat) : LK (w.setCell ⟨kb, 0, none⟩ (.int .i64 (m : Int))) kb m := by
  unfold LK
  rw [heap_setCell_same w kb 0 _ 51 _ h]; simp
theorem TB.gr {w w' : World} {kb : Nat} (h : TB w) (g : Gr w w' kb) (hk : 2 < kb) : TB w' := by
  obtain ⟨⟨t, fr, h1⟩, ⟨t', fr', h2⟩⟩ := h
  exact ⟨⟨t, fr, (g.block 2 (Array.getElem?_eq_some_iff.1 h1).1 (by intro e; cases e; omega)).trans h1⟩, ⟨t', fr', (g.block 1 (Array.getElem?_eq_some_iff.1 h2).1 (by intro e; cases e; omega)).trans h2⟩⟩
def RXs (w : World) (l : EL) (kb d b o : Nat) (res : Option Nat) (u11 : Value) (wr : World) : Prop :=
  ∃ (r : EL) (i n : Nat), u11 = .int .i64 (i : Int) ∧ i + elen r = elen l ∧ ecnt r ≤ ecnt l ∧ ESz r ∧ rtE r d n = res ∧ n ≤ 600 ∧ EAt wr (fun j => j < kb) r b (o + i * 5) ∧ LK wr kb n ∧ Gr w wr kb

set_option maxRecDepth 100000 in
set_option maxHeartbeats 8000000 in
theorem exprs_any : ∀ (N : Nat) (l : EL) (v : Value) (w : World) (kb n d : Nat), ecnt l ≤ N → ESz l → d ≤ 100 → n ≤ 600 → ESlP w (fun j => j < kb) v l → LK w kb n → TB w → 2 < kb → Calls Tryd.prog 36 #[.pointer (some ⟨kb, 0, none⟩), v, .int .i64 (d : Int)] w (LP w kb (rtE l d n)) := by
  intro N
  induction N using Nat.strongRecOn with
  | _ N ih =>
  intro l v w kb n d hc hsz hd hn hes hlk hT hk2
  obtain ⟨ad, cap, b, o, rfl, h2, h3, h4, h5⟩ := hes
  obtain ⟨res, hres⟩ : ∃ r, rtE l d n = r := ⟨_, rfl⟩
  obtain ⟨P, hP⟩ : ∃ P, LP w kb res = P := ⟨_, rfl⟩
  have HP : Hid (LP w kb res = P) := hP
  rw [hres, hP]
  have HIH : Hid (∀ M, M < N → ∀ (l : EL) (v : Value) (w : World) (kb n d : Nat), ecnt l ≤ M → ESz l → d ≤ 100 → n ≤ 600 → ESlP w (fun j => j < kb) v l → LK w kb n → TB w → 2 < kb → Calls Tryd.prog 36 #[.pointer (some ⟨kb, 0, none⟩), v, .int .i64 (d : Int)] w (LP w kb (rtE l d n))) := ih
  have E0 : Hid (RXs w l kb d b o res (.int .i64 0) w) := ⟨l, 0, n, rfl, by omega, Nat.le_refl _, hsz, hres, hn, by simpa using h5, hlk, Gr.refl _ _⟩
  have HAD : Hid (0 < elen l → ad = some ⟨b, o, none⟩ ∧ b < kb) := h4
  have HT : Hid (TB w) := hT
  have HLT : Hid (kb < w.heap.size) := hlk.lt
  unfold maxLen at h3
  clear ih hP h4 h5 hT hlk hsz hres hn
  go_enter Tryd.func36, Tryd.ntmps36
  go_wp2_with fail
  go_loopw [11] (fun u11 wr => Hid (RXs w l kb d b o res u11 wr)) (fun u11 _ => elen l - (intOf u11).toNat)
  case atStart => exact E0
  case round =>
    clear E0
    obtain ⟨r, i, n, rfl, hi, hcr, hsr, hre, hn, hat, hlk, hgr⟩ := hrel.out
    clear hrel
    have HGR : Hid (Gr w wr kb) := hgr
    have HLK : Hid (LK wr kb n) := hlk
    have HTR : Hid (TB wr) := HT.out.gr hgr hk2
    have HLW : Hid (kb < wr.heap.size) := hlk.lt
    cases r with
    | leaf =>
      have hi' : i = elen l := by simpa [elen] using hi
      subst hi'
      have HF : Hid (P (.returned (.bool true)) wr) := by
        show P _ _
        rw [← HP.out, ← hre]
        exact ⟨rfl, (fun n' h => by cases h; exact HLK.out), HGR.out⟩
      clear hat hi hlk hgr hre hsr hcr
      go_wp2_with fail
      first | exact HF.out | (go_ret; exact HF.out)
    | inner j x q a r =>
      obtain ⟨k, m, s, p⟩ := x
      obtain ⟨g1, g2, g3, g4, ⟨ad', cap', b', o', f1, f2, f3, f4, f5⟩, hr⟩ := hat
      simp only [elen, ecnt] at hi hcr
      obtain ⟨e1, e2⟩ := HAD.out (by omega)
      subst e1
      obtain ⟨s1, s2, s3⟩ := hsr
      have hil : (i : Int) < (elen l : Int) := by omega
      have hil' : decide ((i : Int) < (elen l : Int)) = true := by simp; omega
      have HRE : Hid ((if 48 < d then none else if 600 < n + 1 then none else if exprOk k m s p (elen a) = false then none else match rtE a (d + 1) (n + 1) with | none => none | some n' => rtE r d n') = res) := hre
      have HES : Hid (∀ W, Gr wr W kb → ESlP W (fun j => j < kb) (.slice ad' (elen a) cap') a) := fun W hW => ESlP.keep (ok := fun j => j < kb) ⟨ad', cap', b', o', rfl, f2, f3, f4, f5⟩ fun z hz hz2 => hW.block z hz2 (by intro e; cases e; exact absurd hz (Nat.lt_irrefl _))
      have HRA : Hid (∀ W, Gr wr W kb → EAt W (fun j => j < kb) r b (o + (i + 1) * 5)) := fun W hW => (EAt.keep (ok := fun j => j < kb) (fun z hz hz2 => hW.block z hz2 (by intro e; cases e; exact absurd hz (Nat.lt_irrefl _))) (fun _ => e2) hr |> fun h => by rw [show o + (i + 1) * 5 = o + i * 5 + 5 by omega]; exact h)
      have HNM : Hid (i + (elen r + 1) = elen l ∧ ecnt a + ecnt r + 1 ≤ ecnt l ∧ ESz r ∧ ESz a ∧ s.size ≤ maxLen) := ⟨hi, hcr, s3, s2, s1⟩
      have ham : elen a ≤ 9223372036854775807 := by unfold maxLen at f3; omega
      obtain ⟨bx, hbx⟩ : ∃ bx, wr.heap.size = bx := ⟨_, rfl⟩
      have HBX : Hid (wr.heap.size = bx) := hbx
      have HA0 : Hid (∀ W, LK W kb n → Calls Tryd.prog 34 #[.pointer (some ⟨kb, 0, none⟩)] W fun e w' => e = .returned (.bool (decide ((n : Int) + 1 ≤ 600))) ∧ w' = W.setCell ⟨kb, 0, none⟩ (.int .i64 ((n + 1 : Nat) : Int))) := fun W hW => another_any kb n W hW (by omega)
      have HX0 : Hid (∀ W, TB W → Calls Tryd.prog 49 #[.agg #[.int .i64 k, .int .i64 m, .string s, .int .i64 p, .slice ad' (elen a) cap']] W (QB W (exprOk k m s p (elen a)))) := fun W hW => exprFits_any k m s p ad' (elen a) cap' ham s1 W hW
      clear hr f5 hi f4 f2 f3 hlk hgr hre s1 s2 s3 hbx
      by_cases hdd : 48 < d
      · have ed : decide ((48 : Int) < (d : Int)) = true := by simp; omega
        have HRN : Hid (res = none) := by show _ = _; rw [← HRE.out, if_pos hdd]
        have HF : Hid (P (.returned (.bool false)) (wr.alloc (.cells #[.int .i64 k, .int .i64 m, .string s, .int .i64 p, .slice ad' (elen a) cap'] 42))) := by
          show P _ _
          rw [← HP.out, HRN.out]
          exact ⟨rfl, (fun n' h => by cases h), HGR.out.alloc _⟩
        clear hdd
        go_wp2_with fail
        first | exact HF.out | (go_ret; exact HF.out)
      have ed : decide ((48 : Int) < (d : Int)) = false := by simp; omega
      go_wp2_with fail
      rw [HBX.out]
      generalize hW : wr.alloc _ = W0
      have B0 : Hid (Below wr.heap.size wr W0) := by show Below _ _ _; rw [← hW]; exact (Below.refl _ _).alloc (Nat.le_refl _) _
      have X0 : Hid (W0.heap[bx]? = some (.cells #[.int .i64 k, .int .i64 m, .string s, .int .i64 p, .slice ad' (elen a) cap'] 42)) := by show _ = _; rw [← hW, ← HBX.out]; exact heap_alloc_new _ _
      clear hW g1 g2 g3 g4 f1
      have L0 : Hid (LK W0 kb n) := HLK.out.keep (B0.out.block kb HLW.out)
      refine (HA0.out _ L0.out).mono ?_
      rintro e w1 ⟨rfl, hw1⟩
      have L1 : Hid (LK w1 kb (n + 1)) := by show LK _ _ _; rw [hw1]; exact L0.out.put _
      have hne : bx ≠ kb := by have := HBX.out; have := HLW.out; omega
      have X1 : Hid (w1.heap[bx]? = some (.cells #[.int .i64 k, .int .i64 m, .string s, .int .i64 p, .slice ad' (elen a) cap'] 42)) := by show _ = _; rw [hw1]; exact (Below.heap_setCell _ _ _ _ (by show bx ≠ kb; exact hne)).trans X0.out
      have G1 : Hid (Gr wr w1 kb) := by show Gr _ _ _; rw [hw1]; exact (Gr.below B0.out).set _ _
      clear hw1
      by_cases h6 : 600 < n + 1
      · have e6 : decide ((n : Int) + 1 ≤ 600) = false := by simp; omega
        rw [e6]
        have HRN : Hid (res = none) := by show _ = _; rw [← HRE.out, if_neg hdd, if_pos h6]
        have HF : Hid (P (.returned (.bool false)) w1) := by
          show P _ _
          rw [← HP.out, HRN.out]
          exact ⟨rfl, (fun n' h => by cases h), HGR.out.trans G1.out⟩
        clear hdd h6
        go_wp2_with fail
        first | exact HF.out | (go_ret; exact HF.out)
      have e6 : decide ((n : Int) + 1 ≤ 600) = true := by simp; omega
      rw [e6]
      have x0 : w1.cell? ⟨bx, 0, none⟩ = some (.int .i64 k) := (cell_of_row _ _ 0 _ _ _ X1.out).trans rfl
      have x1 : w1.cell? ⟨bx, 1, none⟩ = some (.int .i64 m) := (cell_of_row _ _ 1 _ _ _ X1.out).trans rfl
      have x2 : w1.cell? ⟨bx, 2, none⟩ = some (.string s) := (cell_of_row _ _ 2 _ _ _ X1.out).trans rfl
      have x3 : w1.cell? ⟨bx, 3, none⟩ = some (.int .i64 p) := (cell_of_row _ _ 3 _ _ _ X1.out).trans rfl
      have x4 : w1.cell? ⟨bx, 4, none⟩ = some (.slice ad' (elen a) cap') := (cell_of_row _ _ 4 _ _ _ X1.out).trans rfl
      have T1 : Hid (TB w1) := HTR.out.gr G1.out hk2
      go_wp2_with fail
      refine (HX0.out _ T1.out).mono ?_
      rintro e w2 ⟨rfl, hb2⟩
      have G2 : Hid (Gr wr w2 kb) := G1.out.trans (Gr.below hb2)
      have L2 : Hid (LK w2 kb (n + 1)) := L1.out.keep (hb2.block kb L1.out.lt)
      have X2 : Hid (w2.heap[bx]? = some (.cells #[.int .i64 k, .int .i64 m, .string s, .int .i64 p, .slice ad' (elen a) cap'] 42)) := (hb2.block bx (Array.getElem?_eq_some_iff.1 X1.out).1).trans X1.out
      have T2 : Hid (TB w2) := T1.out.below hb2
      clear x0 x1 x2 x3 x4 hb2
      have y4 : w2.cell? ⟨bx, 4, none⟩ = some (.slice ad' (elen a) cap') := (cell_of_row _ _ 4 _ _ _ X2.out).trans rfl
      rcases hok : exprOk k m s p (elen a) with _ | _
      · have HRN : Hid (res = none) := by show _ = _; rw [← HRE.out, if_neg hdd, if_neg h6, if_pos hok]
        have HF : Hid (P (.returned (.bool false)) w2) := by
          show P _ _
          rw [← HP.out, HRN.out]
          exact ⟨rfl, (fun n' h => by cases h), HGR.out.trans G2.out⟩
        clear hdd h6 hok
        go_wp2_with fail
        first | exact HF.out | (go_ret; exact HF.out)
      have HRM : Hid ((match rtE a (d + 1) (n + 1) with | none => none | some n' => rtE r d n') = res) := by show _ = _; rw [← HRE.out, if_neg hdd, if_neg h6, if_neg (by rw [hok]; simp)]
      have HCA : Hid (∀ W, Gr wr W kb → LK W kb (n + 1) → TB W → Calls Tryd.prog 36 #[.pointer (some ⟨kb, 0, none⟩), .slice ad' (elen a) cap', .int .i64 ((d : Int) + 1)] W (LP W kb (rtE a (d + 1) (n + 1)))) := fun W hW hL hTW => by
        have := HIH.out (ecnt a) (by have := HNM.out; omega) a (.slice ad' (elen a) cap') W kb (n + 1) (d + 1) (Nat.le_refl _) HNM.out.2.2.2.1 (by omega) (by omega) (HES.out W hW) hL hTW hk2
        rw [show ((d + 1 : Nat) : Int) = (d : Int) + 1 by omega] at this
        exact this
      clear hok
      go_wp2_with fail
      refine (HCA.out _ G2.out L2.out T2.out).mono ?_
      intro e w3 hp3
      have hbda := rtE_bd a (d + 1) (n + 1)
      rcases hra : rtE a (d + 1) (n + 1) with _ | n2
      · rw [hra] at hp3 HRM
        obtain ⟨rfl, hp4, hp5⟩ := hp3
        have HF : Hid (P (.returned (.bool false)) w3) := by
          show P _ _
          rw [← HP.out, ← HRM.out]
          exact ⟨rfl, (fun n' h => by cases h), HGR.out.trans (G2.out.trans hp5)⟩
        clear hdd h6 hra hp4 hp5 hbda
        simp only [Option.isSome]
        go_wp2_with fail
        first | exact HF.out | (go_ret; exact HF.out)
      · rw [hra] at hp3 HRM
        obtain ⟨rfl, hp4, hp5⟩ := hp3
        have HE2 : Hid (RXs w l kb d b o res (.int .i64 ((i : Int) + 1)) w3) := ⟨r, i + 1, n2, by simp, by have := HNM.out; omega, by have := HNM.out; omega, HNM.out.2.2.1, HRM.out, hbda n2 (by omega) hra, HRA.out w3 (G2.out.trans hp5), hp4 n2 rfl, HGR.out.trans (G2.out.trans hp5)⟩
        clear hdd h6 hra hp4 hp5 hbda
        simp only [Option.isSome]
        go_wp2_with fail
        go_roundw
        case rel => exact HE2
        case measure => simp [intOf]; omega
end Go.Proofs.YtnofibjchhcmeabDoor
