/- TreeKeeps, its walk. -/
import Derived.Test.YtnofibjchhcmeabDoorPb
import Derived.Test.YtnofibjchhcmeabDoorNd
import Derived.Test.YtnofibjchhcmeabDoorRtC
import Derived.Test.YtnofibjchhcmeabDoorRtD
import Derived.Test.YtnofibjchhcmeabDoorTjE
namespace Go.Proofs.YtnofibjchhcmeabDoor
open Go.RowKit Go.Maps
set_option linter.unusedVariables false

def L1 : List Tok := [⟨3, [101, 109, 105, 116], 0, 0⟩, ⟨1, [49], 1, 5⟩, ⟨4, [43], 0, 7⟩, ⟨1, [50], 2, 9⟩, ⟨4, [42], 0, 11⟩, ⟨1, [51], 3, 13⟩, ⟨4, [59], 0, 14⟩, ⟨0, [], 0, 15⟩]
def L2 : List Tok := [⟨3, [101, 109, 105, 116], 0, 0⟩, ⟨1, [49], 1, 5⟩, ⟨0, [], 0, 6⟩]
theorem cut1 : cut [101, 109, 105, 116, 32, 49, 32, 43, 32, 50, 32, 42, 32, 51, 59] = .inl L1 := by kernel_rfl
theorem cut2 : cut [101, 109, 105, 116, 32, 49] = .inl L2 := by kernel_rfl
def eNum (z : Int) (r : EL) : EL := .inner 0 (1, z, ⟨#[]⟩, 0) () .leaf r
def pt1 : PT := ⟨4, ⟨#[]⟩, 0, .inner 0 (5, 0, ⟨#[]⟩, 1) () (eNum 1 (.inner 0 (5, 0, ⟨#[]⟩, 3) () (eNum 2 (eNum 3 .leaf)) .leaf)) .leaf, .leaf, .leaf⟩
theorem text1 : textF L1 (L1.length + 1) 0 0 = .ok ([pt1], 7, 6) := by kernel_rfl
theorem text2 : textF L2 (L2.length + 1) 0 0 = .error (6, 40) := by kernel_rfl
theorem ns1 : NoSign L1 := by
  intro p
  match p with
  | 0 => exact ⟨by decide, by decide, by decide⟩
  | 1 => exact ⟨by decide, by decide, by decide⟩
  | 2 => exact ⟨by decide, by decide, by decide⟩
  | 3 => exact ⟨by decide, by decide, by decide⟩
  | 4 => exact ⟨by decide, by decide, by decide⟩
  | 5 => exact ⟨by decide, by decide, by decide⟩
  | 6 => exact ⟨by decide, by decide, by decide⟩
  | 7 => exact ⟨by decide, by decide, by decide⟩
  | n + 8 => rw [tk_out (by simp [L1])]; exact ⟨by decide, by decide, by decide⟩
theorem ns2 : NoSign L2 := by
  intro p
  match p with
  | 0 => exact ⟨by decide, by decide, by decide⟩
  | 1 => exact ⟨by decide, by decide, by decide⟩
  | 2 => exact ⟨by decide, by decide, by decide⟩
  | n + 3 => rw [tk_out (by simp [L2])]; exact ⟨by decide, by decide, by decide⟩
theorem ot1 : OnlyTell L1 := by
  intro p
  match p with
  | 0 => exact ⟨by decide, by decide⟩
  | 1 => exact ⟨by decide, by decide⟩
  | 2 => exact ⟨by decide, by decide⟩
  | 3 => exact ⟨by decide, by decide⟩
  | 4 => exact ⟨by decide, by decide⟩
  | 5 => exact ⟨by decide, by decide⟩
  | 6 => exact ⟨by decide, by decide⟩
  | 7 => exact ⟨by decide, by decide⟩
  | n + 8 => rw [tk_out (by simp [L1])]; exact ⟨by decide, by decide⟩
theorem ot2 : OnlyTell L2 := by
  intro p
  match p with
  | 0 => exact ⟨by decide, by decide⟩
  | 1 => exact ⟨by decide, by decide⟩
  | 2 => exact ⟨by decide, by decide⟩
  | n + 3 => rw [tk_out (by simp [L2])]; exact ⟨by decide, by decide⟩
theorem parse1 (w : World) (hsg : ∃ A t fr, SA A ∧ w.heap[0]? = some (.cells A t fr)) : Calls Tryd.prog 19 #[.string ⟨#[101, 109, 105, 116, 32, 49, 32, 43, 32, 50, 32, 42, 32, 51, 59]⟩] w (PPost w (.ok [pt1])) := by
  have hE := (cut_end cut1).1
  have := parse_cut ⟨#[101, 109, 105, 116, 32, 49, 32, 43, 32, 50, 32, 42, 32, 51, 59]⟩ w L1 cut1 (by show 15 ≤ maxLen; unfold maxLen; decide) hsg (fun pb g c => stmt_tell hE (ex1_any hE (Or.inr ns1)) ot1) (by rw [text1]; intro k h; cases h)
  rw [text1] at this
  exact this
theorem parse2 (w : World) (hsg : ∃ A t fr, SA A ∧ w.heap[0]? = some (.cells A t fr)) : Calls Tryd.prog 19 #[.string ⟨#[101, 109, 105, 116, 32, 49]⟩] w (PPost w (.error (6, 40))) := by
  have hE := (cut_end cut2).1
  have := parse_cut ⟨#[101, 109, 105, 116, 32, 49]⟩ w L2 cut2 (by show 6 ≤ maxLen; unfold maxLen; decide) hsg (fun pb g c => stmt_tell hE (ex1_any hE (Or.inr ns2)) ot2) (by rw [text2]; intro k h; cases h)
  rw [text2] at this
  exact this
theorem sg_below {w w' : World} (h : ∃ A t fr, SA A ∧ w.heap[0]? = some (.cells A t fr)) (hb : Below w.heap.size w w') : ∃ A t fr, SA A ∧ w'.heap[0]? = some (.cells A t fr) := by
  obtain ⟨A, t, fr, h1, h2⟩ := h
  exact ⟨A, t, fr, h1, (hb.block 0 (Array.getElem?_eq_some_iff.1 h2).1).trans h2⟩

set_option maxRecDepth 100000 in
set_option maxHeartbeats 8000000 in
theorem alive_any (w : World) (hsg : ∃ A t fr, SA A ∧ w.heap[0]? = some (.cells A t fr)) : Calls Tryd.prog 11 #[] w fun e w' => e = .returned (.bool true) ∧ Below w.heap.size w w' := by
  have HSG : Hid (∃ A t fr, SA A ∧ w.heap[0]? = some (.cells A t fr)) := hsg
  have HP1 : Hid (Calls Tryd.prog 19 #[.string ⟨#[101, 109, 105, 116, 32, 49, 32, 43, 32, 50, 32, 42, 32, 51, 59]⟩] w (PPost w (.ok [pt1]))) := parse1 w hsg
  clear hsg
  go_enter Tryd.func11, Tryd.ntmps11
  go_wp2_with fail
  refine HP1.out.mono ?_
  rintro e w1 ⟨v1, v2, v3, rfl, hss, hb1⟩
  have HB1 : Hid (Below w.heap.size w w1) := hb1
  have HP2 := parse2 w1 (sg_below HSG.out hb1)
  go_wp2_with fail
  refine HP2.mono ?_
  rintro e w2 ⟨rfl, hb2⟩
  have hbb : Below w.heap.size w w2 := hb1.trans (hb2.mono hb1.size)
  obtain ⟨A, ty, fr, h1, h2⟩ := sg_below HSG.out hbb
  have hrk := rank_any ⟨#[37]⟩ w2 A h1 ty fr h2
  go_wp2_with fail
  refine hrk.mono ?_
  rintro e w3 ⟨rfl, hb3⟩
  have HSS : Hid (SSlP w3 (fun j => w.heap.size ≤ j) (.slice v1 v2 v3) (srow [pt1])) := (hss.keep fun k _ hk => hb2.block k hk).keep fun k _ hk => hb3.block k hk
  have HB3 : Hid (Below w.heap.size w w3) := hbb.trans (hb3.mono hbb.size)
  obtain ⟨ad, cap, b, o, hv, g2, g3, g4, g5⟩ := HSS.out
  have hsl : slen (srow [pt1]) = 1 := rfl
  rw [hsl] at hv g2 g4
  obtain ⟨ha, hok⟩ := g4 (by omega)
  subst ha
  injection hv with hv1 hv2 hv3
  subst hv1 hv2 hv3
  obtain ⟨i1, i2, i3, va, vb, ve, i4, i5, i6, pa, pb, pe, hr⟩ := SAt.parts (show SAt w3 _ (.inner 0 (4, ⟨#[]⟩, 0, pt1.args) () (.inner 0 (0, ⟨#[]⟩, 0, .leaf) () .leaf .leaf) .leaf) b o from g5)
  obtain ⟨ad', cap', b', o', rfl, f2, f3, f4, f5⟩ := pa
  have hel : elen pt1.args = 1 := rfl
  rw [hel] at f2 f4 i4
  obtain ⟨ha', hok'⟩ := f4 (by omega)
  subst ha'
  have j4 : w3.cell? ⟨b', o' + 3, none⟩ = some (.int .i64 1) := f5.2.2.2.1
  have hnd := nodes_any 6 (srow [pt1]) _ _ w3 (Nat.le_refl 6) (by omega) HSS.out
  have hr1 : (rankOf (⟨#[37]⟩ : ByteArray).data.toList) = (8, 5) := rfl
  rw [hr1]
  unfold maxLen at g3 f3
  clear HP2 hrk HP1 hss hb1 hb2 hb3 hbb g5 f5 hr pb pe
  go_wp2_with (go_at_call 15; refine hnd.mono ?_; rintro e w4 ⟨rfl, hb4⟩)
  first | exact ⟨rfl, HB3.out.trans (hb4.mono HB3.out.size)⟩ | (go_ret; exact ⟨rfl, HB3.out.trans (hb4.mono HB3.out.size)⟩)
end Go.Proofs.YtnofibjchhcmeabDoor
namespace Go.Proofs.YtnofibjchhcmeabDoor
open Go.RowKit Go.Maps
set_option linter.unusedVariables false
set_option linter.unusedSimpArgs false

/-- strings that there may be -/
def ESz : EL → Prop
  | .leaf => True
  | .inner _ (_, _, s, _) _ a r => s.size ≤ maxLen ∧ ESz a ∧ ESz r
/-- how many nodes there are behind expressions that are right, the d-th from the statement on -/
def rtE : EL → Nat → Nat → Option Nat
  | .leaf, _, n => some n
  | .inner _ (k, m, s, p) _ a r, d, n => if 48 < d then none else if 600 < n + 1 then none else if exprOk k m s p (elen a) = false then none else
    match rtE a (d + 1) (n + 1) with
    | none => none
    | some n' => rtE r d n'
theorem rtE_bd (l : EL) : ∀ d n n', n ≤ 600 → rtE l d n = some n' → n' ≤ 600 := by
  induction l with
  | leaf => intro d n n' hn h; cases h; exact hn
  | inner i x v a r iha ihr =>
    obtain ⟨k, m, s, p⟩ := x
    intro d n n' hn h
    unfold rtE at h
    split at h
    · cases h
    split at h
    · cases h
    split at h
    · cases h
    rcases e : rtE a (d + 1) (n + 1) with _ | n1
    · rw [e] at h; cases h
    · rw [e] at h
      exact ihr _ _ _ (iha _ _ _ (by omega) e) h
def LP (w : World) (kb : Nat) (res : Option Nat) (e : Ending) (w' : World) : Prop := e = .returned (.bool res.isSome) ∧ (∀ n', res = some n' → LK w' kb n') ∧ Gr w w' kb
theorem LK.keep {w w' : World} {kb n : Nat} (h : LK w kb n) (hb : w'.heap[kb]? = w.heap[kb]?) : LK w' kb n := hb.trans h
theorem LK.lt {w : World} {kb n : Nat} (h : LK w kb n) : kb < w.heap.size := (Array.getElem?_eq_some_iff.1 h).1
theorem LK.put {w : World} {kb n : Nat} (h : LK w kb n) (m : Nat) : LK (w.setCell ⟨kb, 0, none⟩ (.int .i64 (m : Int))) kb m := by
  unfold LK
  rw [heap_setCell_same w kb 0 _ 51 _ h]; simp
theorem TB.gr {w w' : World} {kb : Nat} (h : TB w) (g : Gr w w' kb) (hk : 2 < kb) : TB w' := by
  obtain ⟨⟨t, fr, h1⟩, ⟨t', fr', h2⟩⟩ := h
  exact ⟨⟨t, fr, (g.block 2 (Array.getElem?_eq_some_iff.1 h1).1 (by intro e; cases e; omega)).trans h1⟩, ⟨t', fr', (g.block 1 (Array.getElem?_eq_some_iff.1 h2).1 (by intro e; cases e; omega)).trans h2⟩⟩
def RXs (w : World) (l : EL) (kb d b o : Nat) (res : Option Nat) (u11 : Value) (wr : World) : Prop :=
  ∃ (r : EL) (i n : Nat), u11 = .int .i64 (i : Int) ∧ i + elen r = elen l ∧ ecnt r ≤ ecnt l ∧ ESz r ∧ rtE r d n = res ∧ n ≤ 600 ∧ EAt wr (fun j => j < kb) r b (o + i * 5) ∧ LK wr kb n ∧ Gr w wr kb

set_option maxRecDepth 100000 in
set_option maxHeartbeats 8000000 in
theorem exprs_any : ∀ (N : Nat) (l : EL) (v : Value) (w : World) (kb n d : Nat), ecnt l ≤ N → ESz l → d ≤ 100 → n ≤ 600 → ESlP w (fun j => j < kb) v l → LK w kb n → TB w → 2 < kb → Calls Tryd.prog 36 #[.pointer (some ⟨kb, 0, none⟩), v, .int .i64 (d : Int)] w (LP w kb (rtE l d n)) := by
  intro N
  induction N using Nat.strongRecOn with
  | _ N ih =>
  intro l v w kb n d hc hsz hd hn hes hlk hT hk2
  obtain ⟨ad, cap, b, o, rfl, h2, h3, h4, h5⟩ := hes
  obtain ⟨res, hres⟩ : ∃ r, rtE l d n = r := ⟨_, rfl⟩
  obtain ⟨P, hP⟩ : ∃ P, LP w kb res = P := ⟨_, rfl⟩
  have HP : Hid (LP w kb res = P) := hP
  rw [hres, hP]
  have HIH : Hid (∀ M, M < N → ∀ (l : EL) (v : Value) (w : World) (kb n d : Nat), ecnt l ≤ M → ESz l → d ≤ 100 → n ≤ 600 → ESlP w (fun j => j < kb) v l → LK w kb n → TB w → 2 < kb → Calls Tryd.prog 36 #[.pointer (some ⟨kb, 0, none⟩), v, .int .i64 (d : Int)] w (LP w kb (rtE l d n))) := ih
  have E0 : Hid (RXs w l kb d b o res (.int .i64 0) w) := ⟨l, 0, n, rfl, by omega, Nat.le_refl _, hsz, hres, hn, by simpa using h5, hlk, Gr.refl _ _⟩
  have HAD : Hid (0 < elen l → ad = some ⟨b, o, none⟩ ∧ b < kb) := h4
  have HT : Hid (TB w) := hT
  have HLT : Hid (kb < w.heap.size) := hlk.lt
  unfold maxLen at h3
  clear ih hP h4 h5 hT hlk hsz hres hn
  go_enter Tryd.func36, Tryd.ntmps36
  go_wp2_with fail
  go_loopw [11] (fun u11 wr => Hid (RXs w l kb d b o res u11 wr)) (fun u11 _ => elen l - (intOf u11).toNat)
  case atStart => exact E0
  case round =>
    clear E0
    obtain ⟨r, i, n, rfl, hi, hcr, hsr, hre, hn, hat, hlk, hgr⟩ := hrel.out
    clear hrel
    have HGR : Hid (Gr w wr kb) := hgr
    have HLK : Hid (LK wr kb n) := hlk
    have HTR : Hid (TB wr) := HT.out.gr hgr hk2
    have HLW : Hid (kb < wr.heap.size) := hlk.lt
    cases r with
    | leaf =>
      have hi' : i = elen l := by simpa [elen] using hi
      subst hi'
      have HF : Hid (P (.returned (.bool true)) wr) := by
        show P _ _
        rw [← HP.out, ← hre]
        exact ⟨rfl, (fun n' h => by cases h; exact HLK.out), HGR.out⟩
      clear hat hi hlk hgr hre hsr hcr
      go_wp2_with fail
      first | exact HF.out | (go_ret; exact HF.out)
    | inner j x q a r =>
      obtain ⟨k, m, s, p⟩ := x
      obtain ⟨g1, g2, g3, g4, ⟨ad', cap', b', o', f1, f2, f3, f4, f5⟩, hr⟩ := hat
      simp only [elen, ecnt] at hi hcr
      obtain ⟨e1, e2⟩ := HAD.out (by omega)
      subst e1
      obtain ⟨s1, s2, s3⟩ := hsr
      have hil : (i : Int) < (elen l : Int) := by omega
      have hil' : decide ((i : Int) < (elen l : Int)) = true := by simp; omega
      have HRE : Hid ((if 48 < d then none else if 600 < n + 1 then none else if exprOk k m s p (elen a) = false then none else match rtE a (d + 1) (n + 1) with | none => none | some n' => rtE r d n') = res) := hre
      have HES : Hid (∀ W, Gr wr W kb → ESlP W (fun j => j < kb) (.slice ad' (elen a) cap') a) := fun W hW => ESlP.keep (ok := fun j => j < kb) ⟨ad', cap', b', o', rfl, f2, f3, f4, f5⟩ fun z hz hz2 => hW.block z hz2 (by intro e; cases e; exact absurd hz (Nat.lt_irrefl _))
      have HRA : Hid (∀ W, Gr wr W kb → EAt W (fun j => j < kb) r b (o + (i + 1) * 5)) := fun W hW => (EAt.keep (ok := fun j => j < kb) (fun z hz hz2 => hW.block z hz2 (by intro e; cases e; exact absurd hz (Nat.lt_irrefl _))) (fun _ => e2) hr |> fun h => by rw [show o + (i + 1) * 5 = o + i * 5 + 5 by omega]; exact h)
      have HNM : Hid (i + (elen r + 1) = elen l ∧ ecnt a + ecnt r + 1 ≤ ecnt l ∧ ESz r ∧ ESz a ∧ s.size ≤ maxLen) := ⟨hi, hcr, s3, s2, s1⟩
      have ham : elen a ≤ 9223372036854775807 := by unfold maxLen at f3; omega
      obtain ⟨bx, hbx⟩ : ∃ bx, wr.heap.size = bx := ⟨_, rfl⟩
      have HBX : Hid (wr.heap.size = bx) := hbx
      have HA0 : Hid (∀ W, LK W kb n → Calls Tryd.prog 34 #[.pointer (some ⟨kb, 0, none⟩)] W fun e w' => e = .returned (.bool (decide ((n : Int) + 1 ≤ 600))) ∧ w' = W.setCell ⟨kb, 0, none⟩ (.int .i64 ((n + 1 : Nat) : Int))) := fun W hW => another_any kb n W hW (by omega)
      have HX0 : Hid (∀ W, TB W → Calls Tryd.prog 49 #[.agg #[.int .i64 k, .int .i64 m, .string s, .int .i64 p, .slice ad' (elen a) cap']] W (QB W (exprOk k m s p (elen a)))) := fun W hW => exprFits_any k m s p ad' (elen a) cap' ham s1 W hW
      clear hr f5 hi f4 f2 f3 hlk hgr hre s1 s2 s3 hbx
      by_cases hdd : 48 < d
      · have ed : decide ((48 : Int) < (d : Int)) = true := by simp; omega
        have HRN : Hid (res = none) := by show _ = _; rw [← HRE.out, if_pos hdd]
        have HF : Hid (P (.returned (.bool false)) (wr.alloc (.cells #[.int .i64 k, .int .i64 m, .string s, .int .i64 p, .slice ad' (elen a) cap'] 42))) := by
          show P _ _
          rw [← HP.out, HRN.out]
          exact ⟨rfl, (fun n' h => by cases h), HGR.out.alloc _⟩
        clear hdd
        go_wp2_with fail
        first | exact HF.out | (go_ret; exact HF.out)
      have ed : decide ((48 : Int) < (d : Int)) = false := by simp; omega
      go_wp2_with fail
      rw [HBX.out]
      generalize hW : wr.alloc _ = W0
      have B0 : Hid (Below wr.heap.size wr W0) := by show Below _ _ _; rw [← hW]; exact (Below.refl _ _).alloc (Nat.le_refl _) _
      have X0 : Hid (W0.heap[bx]? = some (.cells #[.int .i64 k, .int .i64 m, .string s, .int .i64 p, .slice ad' (elen a) cap'] 42)) := by show _ = _; rw [← hW, ← HBX.out]; exact heap_alloc_new _ _
      clear hW g1 g2 g3 g4 f1
      have L0 : Hid (LK W0 kb n) := HLK.out.keep (B0.out.block kb HLW.out)
      refine (HA0.out _ L0.out).mono ?_
      rintro e w1 ⟨rfl, hw1⟩
      have L1 : Hid (LK w1 kb (n + 1)) := by show LK _ _ _; rw [hw1]; exact L0.out.put _
      have hne : bx ≠ kb := by have := HBX.out; have := HLW.out; omega
      have X1 : Hid (w1.heap[bx]? = some (.cells #[.int .i64 k, .int .i64 m, .string s, .int .i64 p, .slice ad' (elen a) cap'] 42)) := by show _ = _; rw [hw1]; exact (Below.heap_setCell _ _ _ _ (by show bx ≠ kb; exact hne)).trans X0.out
      have G1 : Hid (Gr wr w1 kb) := by show Gr _ _ _; rw [hw1]; exact (Gr.below B0.out).set _ _
      clear hw1
      by_cases h6 : 600 < n + 1
      · have e6 : decide ((n : Int) + 1 ≤ 600) = false := by simp; omega
        rw [e6]
        have HRN : Hid (res = none) := by show _ = _; rw [← HRE.out, if_neg hdd, if_pos h6]
        have HF : Hid (P (.returned (.bool false)) w1) := by
          show P _ _
          rw [← HP.out, HRN.out]
          exact ⟨rfl, (fun n' h => by cases h), HGR.out.trans G1.out⟩
        clear hdd h6
        go_wp2_with fail
        first | exact HF.out | (go_ret; exact HF.out)
      have e6 : decide ((n : Int) + 1 ≤ 600) = true := by simp; omega
      rw [e6]
      have x0 : w1.cell? ⟨bx, 0, none⟩ = some (.int .i64 k) := (cell_of_row _ _ 0 _ _ _ X1.out).trans rfl
      have x1 : w1.cell? ⟨bx, 1, none⟩ = some (.int .i64 m) := (cell_of_row _ _ 1 _ _ _ X1.out).trans rfl
      have x2 : w1.cell? ⟨bx, 2, none⟩ = some (.string s) := (cell_of_row _ _ 2 _ _ _ X1.out).trans rfl
      have x3 : w1.cell? ⟨bx, 3, none⟩ = some (.int .i64 p) := (cell_of_row _ _ 3 _ _ _ X1.out).trans rfl
      have x4 : w1.cell? ⟨bx, 4, none⟩ = some (.slice ad' (elen a) cap') := (cell_of_row _ _ 4 _ _ _ X1.out).trans rfl
      have T1 : Hid (TB w1) := HTR.out.gr G1.out hk2
      go_wp2_with fail
      refine (HX0.out _ T1.out).mono ?_
      rintro e w2 ⟨rfl, hb2⟩
      have G2 : Hid (Gr wr w2 kb) := G1.out.trans (Gr.below hb2)
      have L2 : Hid (LK w2 kb (n + 1)) := L1.out.keep (hb2.block kb L1.out.lt)
      have X2 : Hid (w2.heap[bx]? = some (.cells #[.int .i64 k, .int .i64 m, .string s, .int .i64 p, .slice ad' (elen a) cap'] 42)) := (hb2.block bx (Array.getElem?_eq_some_iff.1 X1.out).1).trans X1.out
      have T2 : Hid (TB w2) := T1.out.below hb2
      clear x0 x1 x2 x3 x4 hb2
      have y4 : w2.cell? ⟨bx, 4, none⟩ = some (.slice ad' (elen a) cap') := (cell_of_row _ _ 4 _ _ _ X2.out).trans rfl
      rcases hok : exprOk k m s p (elen a) with _ | _
      · have HRN : Hid (res = none) := by show _ = _; rw [← HRE.out, if_neg hdd, if_neg h6, if_pos hok]
        have HF : Hid (P (.returned (.bool false)) w2) := by
          show P _ _
          rw [← HP.out, HRN.out]
          exact ⟨rfl, (fun n' h => by cases h), HGR.out.trans G2.out⟩
        clear hdd h6 hok
        go_wp2_with fail
        first | exact HF.out | (go_ret; exact HF.out)
      have HRM : Hid ((match rtE a (d + 1) (n + 1) with | none => none | some n' => rtE r d n') = res) := by show _ = _; rw [← HRE.out, if_neg hdd, if_neg h6, if_neg (by rw [hok]; simp)]
      have HCA : Hid (∀ W, Gr wr W kb → LK W kb (n + 1) → TB W → Calls Tryd.prog 36 #[.pointer (some ⟨kb, 0, none⟩), .slice ad' (elen a) cap', .int .i64 ((d : Int) + 1)] W (LP W kb (rtE a (d + 1) (n + 1)))) := fun W hW hL hTW => by
        have := HIH.out (ecnt a) (by have := HNM.out; omega) a (.slice ad' (elen a) cap') W kb (n + 1) (d + 1) (Nat.le_refl _) HNM.out.2.2.2.1 (by omega) (by omega) (HES.out W hW) hL hTW hk2
        rw [show ((d + 1 : Nat) : Int) = (d : Int) + 1 by omega] at this
        exact this
      clear hok
      go_wp2_with fail
      refine (HCA.out _ G2.out L2.out T2.out).mono ?_
      intro e w3 hp3
      have hbda := rtE_bd a (d + 1) (n + 1)
      rcases hra : rtE a (d + 1) (n + 1) with _ | n2
      · rw [hra] at hp3 HRM
        obtain ⟨rfl, hp4, hp5⟩ := hp3
        have HF : Hid (P (.returned (.bool false)) w3) := by
          show P _ _
          rw [← HP.out, ← HRM.out]
          exact ⟨rfl, (fun n' h => by cases h), HGR.out.trans (G2.out.trans hp5)⟩
        clear hdd h6 hra hp4 hp5 hbda
        simp only [Option.isSome]
        go_wp2_with fail
        first | exact HF.out | (go_ret; exact HF.out)
      · rw [hra] at hp3 HRM
        obtain ⟨rfl, hp4, hp5⟩ := hp3
        have HE2 : Hid (RXs w l kb d b o res (.int .i64 ((i : Int) + 1)) w3) := ⟨r, i + 1, n2, by simp, by have := HNM.out; omega, by have := HNM.out; omega, HNM.out.2.2.1, HRM.out, hbda n2 (by omega) hra, HRA.out w3 (G2.out.trans hp5), hp4 n2 rfl, HGR.out.trans (G2.out.trans hp5)⟩
        clear hdd h6 hra hp4 hp5 hbda
        simp only [Option.isSome]
        go_wp2_with fail
        go_roundw
        case rel => exact HE2
        case measure => simp [intOf]; omega
end Go.Proofs.YtnofibjchhcmeabDoor
namespace Go.Proofs.YtnofibjchhcmeabDoor
open Go.RowKit Go.Maps
set_option linter.unusedVariables false
set_option linter.unusedSimpArgs false

def SSz : SL → Prop
  | .leaf => True
  | .inner _ (_, s, _, a) _ .leaf r => s.size ≤ maxLen ∧ ESz a ∧ SSz r
  | .inner _ (_, s, _, a) _ (.inner _ _ _ d e) r => s.size ≤ maxLen ∧ ESz a ∧ SSz d ∧ SSz e ∧ SSz r
theorem SSz_inner {i : Nat} {k : Int} {s : ByteArray} {c : Int} {a : EL} {v : Unit} {x r : SL} (h : SSz (.inner i (k, s, c, a) v x r)) : s.size ≤ maxLen ∧ ESz a ∧ SSz (slft x) ∧ SSz (srgt x) ∧ SSz r := by
  cases x with
  | leaf => exact ⟨h.1, h.2.1, trivial, trivial, h.2.2⟩
  | inner => exact h
def rtS : SL → Nat → Nat → Option Nat
  | .leaf, _, n => some n
  | .inner _ (k, s, c, a) _ .leaf r, b, n => if 600 < n + 1 then none else if stmtOk k s c (elen a) 0 0 = false then none else
    match rtE a 1 (n + 1) with
    | none => none
    | some n1 => if (hasS k).body = true ∧ 12 ≤ b then none else rtS r b n1
  | .inner _ (k, s, c, a) _ (.inner _ _ _ d e) r, b, n => if 600 < n + 1 then none else if stmtOk k s c (elen a) (slen d) (slen e) = false then none else
    match rtE a 1 (n + 1) with
    | none => none
    | some n1 => if (hasS k).body = true ∧ 12 ≤ b then none else
      match rtS d (b + 1) n1 with
      | none => none
      | some n2 => match rtS e (b + 1) n2 with
        | none => none
        | some n3 => rtS r b n3
/-- a statement's blocks -/
def blkR (k : Int) (b : Nat) (rd re : Nat → Option Nat) (n : Nat) : Option Nat := if (hasS k).body = true ∧ 12 ≤ b then none else
  match rd n with
  | none => none
  | some n2 => re n2
theorem rtS_inner (i : Nat) (k : Int) (s : ByteArray) (c : Int) (a : EL) (v : Unit) (x r : SL) (b n : Nat) : rtS (.inner i (k, s, c, a) v x r) b n = if 600 < n + 1 then none else if stmtOk k s c (elen a) (slen (slft x)) (slen (srgt x)) = false then none else
    match rtE a 1 (n + 1) with
    | none => none
    | some n1 => match blkR k b (rtS (slft x) (b + 1)) (rtS (srgt x) (b + 1)) n1 with
      | none => none
      | some n3 => rtS r b n3 := by
  cases x with
  | leaf =>
    rw [rtS]
    unfold blkR
    simp only [slft, srgt, slen]
    split
    · rfl
    split
    · rfl
    rcases rtE a 1 (n + 1) with _ | n1
    · rfl
    · simp only
      split <;> rfl
  | inner j d' v' p q =>
    show rtS (.inner i (k, s, c, a) v (.inner j d' v' p q) r) b n = if 600 < n + 1 then none else if stmtOk k s c (elen a) (slen p) (slen q) = false then none else
      match rtE a 1 (n + 1) with
      | none => none
      | some n1 => match blkR k b (rtS p (b + 1)) (rtS q (b + 1)) n1 with
        | none => none
        | some n3 => rtS r b n3
    rw [rtS]
    unfold blkR
    by_cases h1 : 600 < n + 1
    · rw [if_pos h1, if_pos h1]
    rw [if_neg h1, if_neg h1]
    by_cases h2 : stmtOk k s c (elen a) (slen p) (slen q) = false
    · rw [if_pos h2, if_pos h2]
    rw [if_neg h2, if_neg h2]
    rcases rtE a 1 (n + 1) with _ | n1
    · rfl
    · simp only
      by_cases h3 : (hasS k).body = true ∧ 12 ≤ b
      · rw [if_pos h3, if_pos h3]
      · rw [if_neg h3, if_neg h3]
        rcases rtS p (b + 1) n1 with _ | n2
        · rfl
        · rfl
theorem rtS_bd (l : SL) : ∀ b n n', n ≤ 600 → rtS l b n = some n' → n' ≤ 600 := by
  induction l using sl_ind with
  | h0 => intro b n n' hn h; cases h; exact hn
  | h1 i d v x r ihl ihr ih =>
    obtain ⟨k, s, c, a⟩ := d
    intro b n n' hn h
    rw [rtS_inner] at h
    split at h
    · cases h
    split at h
    · cases h
    rcases e : rtE a 1 (n + 1) with _ | n1
    · rw [e] at h; cases h
    · rw [e] at h; simp only at h
      have h1 := rtE_bd a 1 (n + 1) n1 (by omega) e
      rcases e2 : blkR k b (rtS (slft x) (b + 1)) (rtS (srgt x) (b + 1)) n1 with _ | n3
      · rw [e2] at h; cases h
      · rw [e2] at h; simp only at h
        refine ih _ _ _ ?_ h
        unfold blkR at e2
        split at e2
        · cases e2
        · rcases e3 : rtS (slft x) (b + 1) n1 with _ | n2
          · rw [e3] at e2; cases e2
          · rw [e3] at e2; simp only at e2
            exact ihr _ _ _ (ihl _ _ _ h1 e3) e2
theorem body_cell (w : World) (kk : Nat) (h1 : 1 ≤ kk) (h9 : kk ≤ 9) (hT : TB w) : w.cell? ⟨1, kk * 5 + 2, none⟩ = some (.bool (hasS (kk : Int)).body) ∧ 1 < w.heap.size := by
  obtain ⟨_, ⟨t, fr, h⟩⟩ := hT
  refine ⟨?_, (Array.getElem?_eq_some_iff.1 h).1⟩
  rw [cell_of_row w 1 _ _ _ _ h]
  have hk9 : kk = 1 ∨ kk = 2 ∨ kk = 3 ∨ kk = 4 ∨ kk = 5 ∨ kk = 6 ∨ kk = 7 ∨ kk = 8 ∨ kk = 9 := by omega
  rcases hk9 with rfl | rfl | rfl | rfl | rfl | rfl | rfl | rfl | rfl <;> rfl

set_option maxRecDepth 100000 in
set_option maxHeartbeats 8000000 in
theorem blocks_any (k : Int) (hk : 1 ≤ k ∧ k ≤ 9) (s : ByteArray) (c : Int) (va vb ve : Value) (b n kb : Nat) (hb : b ≤ 100) (rd re : Nat → Option Nat) (w : World) (hlk : LK w kb n) (hT : TB w) (hk2 : 2 < kb)
    (HD : Hid (∀ W, ¬ ((hasS k).body = true ∧ 12 ≤ b) → Gr w W kb → LK W kb n → TB W → Calls Tryd.prog 22 #[.pointer (some ⟨kb, 0, none⟩), vb, .int .i64 ((b : Int) + 1)] W (LP W kb (rd n))))
    (HE : Hid (∀ W n2, ¬ ((hasS k).body = true ∧ 12 ≤ b) → rd n = some n2 → Gr w W kb → LK W kb n2 → TB W → Calls Tryd.prog 22 #[.pointer (some ⟨kb, 0, none⟩), ve, .int .i64 ((b : Int) + 1)] W (LP W kb (re n2)))) :
    Calls Tryd.prog 37 #[.pointer (some ⟨kb, 0, none⟩), .agg #[.int .i64 k, .string s, .int .i64 c, va, vb, ve], .int .i64 (b : Int)] w (LP w kb (blkR k b rd re n)) := by
  obtain ⟨kk, rfl⟩ : ∃ kk : Nat, k = kk := ⟨k.toNat, by omega⟩
  have hk10 : (kk : Int) < 10 := by omega
  obtain ⟨res, hres⟩ : ∃ r, blkR (kk : Int) b rd re n = r := ⟨_, rfl⟩
  have HR : Hid (blkR (kk : Int) b rd re n = res) := hres
  obtain ⟨P, hP⟩ : ∃ P, LP w kb res = P := ⟨_, rfl⟩
  have HP : Hid (LP w kb res = P) := hP
  rw [hres, hP]
  obtain ⟨bd, hbd⟩ : ∃ bd, (hasS (kk : Int)).body = bd := ⟨_, rfl⟩
  have HBD : Hid ((hasS (kk : Int)).body = bd) := hbd
  have tb : ∀ A, (w.alloc A).cell? ⟨1, kk * 5 + 2, none⟩ = some (.bool bd) := fun A => by
    obtain ⟨h1, h2⟩ := body_cell w kk (by omega) (by omega) hT
    rw [World.cell?_of_block (a := ⟨1, kk * 5 + 2, none⟩) (Below.heap_alloc _ _ _ h2), h1, hbd]
  have HLK : Hid (LK w kb n) := hlk
  have HT : Hid (TB w) := hT
  have HLT : Hid (kb < w.heap.size) := hlk.lt
  clear hres hP hbd hT hlk
  have HFN : Hid (∀ W, res = none → Gr w W kb → P (.returned (.bool false)) W) := by
    intro W h g
    rw [← HP.out, h]
    exact ⟨rfl, (fun n' h => by cases h), g⟩
  by_cases hbb : bd = true ∧ 12 ≤ b
  · obtain ⟨rfl, h12⟩ := hbb
    have e12 : decide ((12 : Int) ≤ (b : Int)) = true := by simp; omega
    have HRN : Hid (res = none) := by show _ = _; rw [← HR.out]; unfold blkR; rw [if_pos ⟨HBD.out, h12⟩]
    have HF : Hid (∀ A, P (.returned (.bool false)) (w.alloc A)) := fun A => HFN.out _ HRN.out ((Gr.refl _ _).alloc _)
    clear h12
    go_enter Tryd.func37, Tryd.ntmps37
    go_wp2_with fail
    first | exact HF.out _ | (go_ret; exact HF.out _)
  · have HRM : Hid ((match rd n with | none => none | some n2 => re n2) = res) := by show _ = _; rw [← HR.out]; unfold blkR; rw [HBD.out, if_neg hbb]
    have K : ∃ z : Bool, bd = z ∧ (z = true → decide ((12 : Int) ≤ (b : Int)) = false) := ⟨bd, rfl, fun h => by simp; simp [h] at hbb; omega⟩
    have HNB : Hid (¬ ((hasS (kk : Int)).body = true ∧ 12 ≤ b)) := by rw [HBD.out]; exact hbb
    clear hbb
    have main : ∀ (hz : bd = true → decide ((12 : Int) ≤ (b : Int)) = false), Calls Tryd.prog 37 #[.pointer (some ⟨kb, 0, none⟩), .agg #[.int .i64 (kk : Int), .string s, .int .i64 c, va, vb, ve], .int .i64 (b : Int)] w P := by
      intro hz
      cases bd
      all_goals
        try have hz' := hz rfl
        clear hz K
        go_enter Tryd.func37, Tryd.ntmps37
        go_wp2_with fail
        generalize hW : w.alloc _ = W0
        have B0 : Hid (Below w.heap.size w W0) := by show Below _ _ _; rw [← hW]; exact (Below.refl _ _).alloc (Nat.le_refl _) _
        have X0 : Hid (W0.heap[w.heap.size]? = some (.cells #[.int .i64 (kk : Int), .string s, .int .i64 c, va, vb, ve] 39)) := by show _ = _; rw [← hW]; exact heap_alloc_new _ _
        clear hW
        refine (HD.out _ HNB.out (Gr.below B0.out) (HLK.out.keep (B0.out.block kb HLT.out)) (HT.out.below B0.out)).mono ?_
        intro e w1 hp1
        rcases hr1 : rd n with _ | n2
        · rw [hr1] at hp1 HRM
          obtain ⟨rfl, hp2, hp3⟩ := hp1
          have HF : Hid (P (.returned (.bool false)) w1) := HFN.out _ HRM.out.symm ((Gr.below B0.out).trans hp3)
          clear hp2 hp3 hr1
          simp only [Option.isSome]
          go_wp2_with fail
          first | exact HF.out | (go_ret; exact HF.out)
        · rw [hr1] at hp1 HRM
          obtain ⟨rfl, hp2, hp3⟩ := hp1
          have G1 : Hid (Gr w w1 kb) := (Gr.below B0.out).trans hp3
          have L1 : Hid (LK w1 kb n2) := hp2 n2 rfl
          have X1 : Hid (w1.heap[w.heap.size]? = some (.cells #[.int .i64 (kk : Int), .string s, .int .i64 c, va, vb, ve] 39)) := (hp3.block _ (Array.getElem?_eq_some_iff.1 X0.out).1 (by intro e; cases e; have := HLT.out; omega)).trans X0.out
          have y5 : w1.cell? ⟨w.heap.size, 5, none⟩ = some ve := (cell_of_row _ _ 5 _ _ _ X1.out).trans rfl
          have HRM2 : Hid (re n2 = res) := HRM.out
          have HR1 : Hid (rd n = some n2) := hr1
          clear hp2 hp3 hr1 HRM
          simp only [Option.isSome]
          go_wp2_with fail
          refine (HE.out _ n2 HNB.out HR1.out G1.out L1.out (HT.out.gr G1.out hk2)).mono ?_
          intro e w2 hp4
          have HF : Hid (P e w2) := by
            show P _ _
            rw [← HP.out, ← HRM2.out]
            exact ⟨hp4.1, hp4.2.1, G1.out.trans hp4.2.2⟩
          obtain ⟨rfl, hp5, hp6⟩ := hp4
          clear hp5 hp6
          generalize (re n2).isSome = zz at HF ⊢
          go_wp2_with fail
          first | exact HF.out | (go_ret; exact HF.out)
    obtain ⟨z, hz1, hz2⟩ := K
    exact main (fun h => hz2 (by rw [← hz1]; exact h))
end Go.Proofs.YtnofibjchhcmeabDoor
namespace Go.Proofs.YtnofibjchhcmeabDoor
open Go.RowKit Go.Maps
set_option linter.unusedVariables false
set_option linter.unusedSimpArgs false

def YS (w : World) (l : SL) (kb bb b o : Nat) (res : Option Nat) (u11 : Value) (wr : World) : Prop :=
  ∃ (r : SL) (i n : Nat), u11 = .int .i64 (i : Int) ∧ i + slen r = slen l ∧ scnt r ≤ scnt l ∧ SSz r ∧ rtS r bb n = res ∧ n ≤ 600 ∧ SAt wr (fun j => j < kb) r b (o + i * 6) ∧ LK wr kb n ∧ Gr w wr kb
theorem stmtOk_len {k : Int} {s : ByteArray} {c : Int} {m bl el : Nat} (h : stmtOk k s c m bl el = true) (hb : (hasS k).body = false) : bl = 0 ∧ el = 0 := by
  unfold stmtOk at h
  rw [Bool.and_eq_true] at h
  obtain ⟨h1, h2⟩ := h
  have ho : (hasS k).other = false := by
    unfold hasS at hb ⊢
    split
    · rfl
    split
    · rfl
    split
    · rfl
    split
    · rfl
    split
    · rename_i a1 a2 a3 a4 a5; rw [if_neg a1, if_neg a2, if_neg a3, if_neg a4, if_pos a5] at hb; cases hb
    split <;> rfl
  unfold stmtB at h2
  rw [hb, ho] at h2
  simp at h2
  exact ⟨h2.1.2, h2.2⟩
theorem stmtOk_kind {k : Int} {s : ByteArray} {c : Int} {m bl el : Nat} (h : stmtOk k s c m bl el = true) : 1 ≤ k ∧ k ≤ 9 := by
  unfold stmtOk at h
  simp at h
  exact h.1

set_option maxRecDepth 100000 in
set_option maxHeartbeats 8000000 in
theorem stmts_any : ∀ (N : Nat) (l : SL) (v : Value) (w : World) (kb n bb : Nat), scnt l ≤ N → SSz l → bb ≤ 100 → n ≤ 600 → SSlP w (fun j => j < kb) v l → LK w kb n → TB w → 2 < kb → (bb ≤ 12 ∨ slen l = 0) → Calls Tryd.prog 22 #[.pointer (some ⟨kb, 0, none⟩), v, .int .i64 (bb : Int)] w (LP w kb (rtS l bb n)) := by
  intro N
  induction N using Nat.strongRecOn with
  | _ N ih =>
  intro l v w kb n bb hc hsz hd hn hes hlk hT hk2 hb13
  obtain ⟨ad, cap, b, o, rfl, h2, h3, h4, h5⟩ := hes
  obtain ⟨res, hres⟩ : ∃ r, rtS l bb n = r := ⟨_, rfl⟩
  obtain ⟨P, hP⟩ : ∃ P, LP w kb res = P := ⟨_, rfl⟩
  have HP : Hid (LP w kb res = P) := hP
  rw [hres, hP]
  have HIH : Hid (∀ M, M < N → ∀ (l : SL) (v : Value) (w : World) (kb n bb : Nat), scnt l ≤ M → SSz l → bb ≤ 100 → n ≤ 600 → SSlP w (fun j => j < kb) v l → LK w kb n → TB w → 2 < kb → (bb ≤ 12 ∨ slen l = 0) → Calls Tryd.prog 22 #[.pointer (some ⟨kb, 0, none⟩), v, .int .i64 (bb : Int)] w (LP w kb (rtS l bb n))) := ih
  have E0 : Hid (YS w l kb bb b o res (.int .i64 0) w) := ⟨l, 0, n, rfl, by omega, Nat.le_refl _, hsz, hres, hn, by simpa using h5, hlk, Gr.refl _ _⟩
  have HAD : Hid (0 < slen l → ad = some ⟨b, o, none⟩ ∧ b < kb) := h4
  have HT : Hid (TB w) := hT
  unfold maxLen at h3
  clear ih hP h4 h5 hT hlk hsz hres hn
  go_enter Tryd.func22, Tryd.ntmps22
  go_wp2_with fail
  go_loopw [11] (fun u11 wr => Hid (YS w l kb bb b o res u11 wr)) (fun u11 _ => slen l - (intOf u11).toNat)
  case atStart => exact E0
  case round =>
    clear E0
    obtain ⟨r, i, n, rfl, hi, hcr, hsr, hre, hn, hat, hlk, hgr⟩ := hrel.out
    clear hrel
    have HGR : Hid (Gr w wr kb) := hgr
    have HLK : Hid (LK wr kb n) := hlk
    have HTR : Hid (TB wr) := HT.out.gr hgr hk2
    have HLW : Hid (kb < wr.heap.size) := hlk.lt
    have HFN : Hid (∀ W, res = none → Gr wr W kb → P (.returned (.bool false)) W) := by
      intro W h g
      rw [← HP.out, h]
      exact ⟨rfl, (fun n' h => by cases h), HGR.out.trans g⟩
    cases r with
    | leaf =>
      have hi' : i = slen l := by simpa [slen] using hi
      subst hi'
      have HF : Hid (P (.returned (.bool true)) wr) := by
        show P _ _
        rw [← HP.out, ← hre]
        exact ⟨rfl, (fun n' h => by cases h; exact HLK.out), HGR.out⟩
      clear hat hi hlk hgr hre hsr hcr
      go_wp2_with fail
      first | exact HF.out | (go_ret; exact HF.out)
    | inner j x q y r =>
      obtain ⟨k, s, c, a⟩ := x
      obtain ⟨g1, g2, g3, va, vb, ve, g4, g5, g6, hea, hsb, hse, hr⟩ := hat.parts
      obtain ⟨a1, a3, ab, ao, rfl, ha2, ha3, ha4, ha5⟩ := hea
      obtain ⟨b1, b3, bb', bo, rfl, hb2, hb3, hb4, hb5⟩ := hsb
      obtain ⟨e1, e3, eb, eo, rfl, he2, he3, he4, he5⟩ := hse
      rw [scnt_inner] at hcr
      simp only [slen] at hi
      obtain ⟨q1, q2⟩ := HAD.out (by omega)
      subst q1
      obtain ⟨s1, s2, s3, s4, s5⟩ := SSz_inner hsr
      have hil : (i : Int) < (slen l : Int) := by omega
      have hil' : decide ((i : Int) < (slen l : Int)) = true := by simp; omega
      rw [rtS_inner] at hre
      have HRE : Hid ((if 600 < n + 1 then none else if stmtOk k s c (elen a) (slen (slft y)) (slen (srgt y)) = false then none else match rtE a 1 (n + 1) with | none => none | some n1 => match blkR k bb (rtS (slft y) (bb + 1)) (rtS (srgt y) (bb + 1)) n1 with | none => none | some n3 => rtS r bb n3) = res) := hre
      have HEA : Hid (∀ W, Gr wr W kb → ESlP W (fun j => j < kb) (.slice a1 (elen a) a3) a) := fun W hW => ESlP.keep (ok := fun j => j < kb) ⟨a1, a3, ab, ao, rfl, ha2, ha3, ha4, ha5⟩ fun z hz hz2 => hW.block z hz2 (by intro e; cases e; exact absurd hz (Nat.lt_irrefl _))
      have HSB : Hid (∀ W, Gr wr W kb → SSlP W (fun j => j < kb) (.slice b1 (slen (slft y)) b3) (slft y)) := fun W hW => SSlP.keep (ok := fun j => j < kb) ⟨b1, b3, bb', bo, rfl, hb2, hb3, hb4, hb5⟩ fun z hz hz2 => hW.block z hz2 (by intro e; cases e; exact absurd hz (Nat.lt_irrefl _))
      have HSE : Hid (∀ W, Gr wr W kb → SSlP W (fun j => j < kb) (.slice e1 (slen (srgt y)) e3) (srgt y)) := fun W hW => SSlP.keep (ok := fun j => j < kb) ⟨e1, e3, eb, eo, rfl, he2, he3, he4, he5⟩ fun z hz hz2 => hW.block z hz2 (by intro e; cases e; exact absurd hz (Nat.lt_irrefl _))
      have HRA : Hid (∀ W, Gr wr W kb → SAt W (fun j => j < kb) r b (o + (i + 1) * 6)) := fun W hW => (SAt.keep (ok := fun j => j < kb) (fun z hz hz2 => hW.block z hz2 (by intro e; cases e; exact absurd hz (Nat.lt_irrefl _))) r (fun _ => q2) hr |> fun h => by rw [show o + (i + 1) * 6 = o + i * 6 + 6 by omega]; exact h)
      have HNM : Hid (i + (slen r + 1) = slen l ∧ ecnt a + scnt (slft y) + scnt (srgt y) + scnt r + 1 ≤ scnt l ∧ SSz r ∧ SSz (slft y) ∧ SSz (srgt y) ∧ ESz a) := ⟨hi, hcr, s5, s3, s4, s2⟩
      have m1 : elen a ≤ 9223372036854775807 := by unfold maxLen at ha3; omega
      have m2 : slen (slft y) ≤ 9223372036854775807 := by unfold maxLen at hb3; omega
      have m3 : slen (srgt y) ≤ 9223372036854775807 := by unfold maxLen at he3; omega
      obtain ⟨bx, hbx⟩ : ∃ bx, wr.heap.size = bx := ⟨_, rfl⟩
      have HBX : Hid (wr.heap.size = bx) := hbx
      have HA0 : Hid (∀ W, LK W kb n → Calls Tryd.prog 34 #[.pointer (some ⟨kb, 0, none⟩)] W fun e w' => e = .returned (.bool (decide ((n : Int) + 1 ≤ 600))) ∧ w' = W.setCell ⟨kb, 0, none⟩ (.int .i64 ((n + 1 : Nat) : Int))) := fun W hW => another_any kb n W hW (by omega)
      have HX0 : Hid (∀ W, TB W → Calls Tryd.prog 35 #[.agg #[.int .i64 k, .string s, .int .i64 c, .slice a1 (elen a) a3, .slice b1 (slen (slft y)) b3, .slice e1 (slen (srgt y)) e3]] W (QB W (stmtOk k s c (elen a) (slen (slft y)) (slen (srgt y))))) := fun W hW => stmtFits_any k s c a1 b1 e1 (elen a) a3 (slen (slft y)) b3 (slen (srgt y)) e3 m1 m2 m3 s1 W hW
      have HEX : Hid (∀ W, Gr wr W kb → LK W kb (n + 1) → n + 1 ≤ 600 → TB W → Calls Tryd.prog 36 #[.pointer (some ⟨kb, 0, none⟩), .slice a1 (elen a) a3, .int .i64 1] W (LP W kb (rtE a 1 (n + 1)))) := fun W hW hL hnn hTW => exprs_any (ecnt a) a _ W kb (n + 1) 1 (Nat.le_refl _) HNM.out.2.2.2.2.2 (by omega) hnn (HEA.out W hW) hL hTW hk2
      generalize hsd : rtS (slft y) (bb + 1) = rd at HRE
      generalize hsr2 : rtS (srgt y) (bb + 1) = re at HRE
      have hb12 : bb ≤ 12 := by
        rcases hb13 with h | h
        · exact h
        · omega
      have HBDB : Hid (∀ n1 n3, n1 ≤ 600 → blkR k bb rd re n1 = some n3 → n3 ≤ 600) := by
        intro n1 n3 hn1 h
        unfold blkR at h
        split at h
        · cases h
        · rcases e3' : rd n1 with _ | n2
          · rw [e3'] at h; cases h
          · rw [e3'] at h; simp only at h
            rw [← hsd] at e3'; rw [← hsr2] at h
            exact rtS_bd _ _ _ _ (rtS_bd _ _ _ _ hn1 e3') h
      have HBL : Hid (∀ W n1, stmtOk k s c (elen a) (slen (slft y)) (slen (srgt y)) = true → Gr wr W kb → LK W kb n1 → n1 ≤ 600 → TB W → Calls Tryd.prog 37 #[.pointer (some ⟨kb, 0, none⟩), .agg #[.int .i64 k, .string s, .int .i64 c, .slice a1 (elen a) a3, .slice b1 (slen (slft y)) b3, .slice e1 (slen (srgt y)) e3], .int .i64 (bb : Int)] W (LP W kb (blkR k bb rd re n1))) := by
        intro W n1 hok hW hL hn1 hTW
        rw [← hsd, ← hsr2]
        have hdep : ¬ ((hasS k).body = true ∧ 12 ≤ bb) → (bb + 1 ≤ 12 ∨ slen (slft y) = 0) ∧ (bb + 1 ≤ 12 ∨ slen (srgt y) = 0) := by
          intro h
          by_cases h12 : bb + 1 ≤ 12
          · exact ⟨.inl h12, .inl h12⟩
          · have hbf : (hasS k).body = false := by
              cases hh : (hasS k).body
              · rfl
              · exact absurd ⟨hh, by omega⟩ h
            obtain ⟨z1, z2⟩ := stmtOk_len hok hbf
            exact ⟨.inr z1, .inr z2⟩
        refine blocks_any k (stmtOk_kind hok) s c _ _ _ bb n1 kb hd _ _ W hL hTW hk2 ?_ ?_
        · intro V hnb hV hLV hTV
          have := HIH.out (scnt (slft y)) (by have := HNM.out; omega) (slft y) (.slice b1 (slen (slft y)) b3) V kb n1 (bb + 1) (Nat.le_refl _) HNM.out.2.2.2.1 (by omega) hn1 (HSB.out V (hW.trans hV)) hLV hTV hk2 (hdep hnb).1
          rw [show ((bb + 1 : Nat) : Int) = (bb : Int) + 1 by omega] at this
          exact this
        · intro V n2 hnb hr2 hV hLV hTV
          have := HIH.out (scnt (srgt y)) (by have := HNM.out; omega) (srgt y) (.slice e1 (slen (srgt y)) e3) V kb n2 (bb + 1) (Nat.le_refl _) HNM.out.2.2.2.2.1 (by omega) (rtS_bd _ _ _ _ hn1 hr2) (HSE.out V (hW.trans hV)) hLV hTV hk2 (hdep hnb).2
          rw [show ((bb + 1 : Nat) : Int) = (bb : Int) + 1 by omega] at this
          exact this
      clear hr ha5 hb5 he5 hi ha4 hb4 he4 ha2 hb2 he2 ha3 hb3 he3 hlk hgr hre s1 s2 s3 s4 s5 hbx hat hsr hsd hsr2
      go_wp2_with fail
      rw [HBX.out]
      generalize hW : wr.alloc _ = W0
      have B0 : Hid (Below wr.heap.size wr W0) := by show Below _ _ _; rw [← hW]; exact (Below.refl _ _).alloc (Nat.le_refl _) _
      have X0 : Hid (W0.heap[bx]? = some (.cells #[.int .i64 k, .string s, .int .i64 c, .slice a1 (elen a) a3, .slice b1 (slen (slft y)) b3, .slice e1 (slen (srgt y)) e3] 39)) := by show _ = _; rw [← hW, ← HBX.out]; exact heap_alloc_new _ _
      clear hW g1 g2 g3 g4 g5 g6
      have L0 : Hid (LK W0 kb n) := HLK.out.keep (B0.out.block kb HLW.out)
      refine (HA0.out _ L0.out).mono ?_
      rintro e w1 ⟨rfl, hw1⟩
      have L1 : Hid (LK w1 kb (n + 1)) := by show LK _ _ _; rw [hw1]; exact L0.out.put _
      have hne : bx ≠ kb := by have := HBX.out; have := HLW.out; omega
      have X1 : Hid (w1.heap[bx]? = some (.cells #[.int .i64 k, .string s, .int .i64 c, .slice a1 (elen a) a3, .slice b1 (slen (slft y)) b3, .slice e1 (slen (srgt y)) e3] 39)) := by show _ = _; rw [hw1]; exact (Below.heap_setCell _ _ _ _ (by show bx ≠ kb; exact hne)).trans X0.out
      have G1 : Hid (Gr wr w1 kb) := by show Gr _ _ _; rw [hw1]; exact (Gr.below B0.out).set _ _
      clear hw1
      by_cases h6 : 600 < n + 1
      · have e6 : decide ((n : Int) + 1 ≤ 600) = false := by simp; omega
        rw [e6]
        have HRN : Hid (res = none) := by show _ = _; rw [← HRE.out, if_pos h6]
        have HF : Hid (P (.returned (.bool false)) w1) := HFN.out _ HRN.out G1.out
        clear h6
        go_wp2_with fail
        first | exact HF.out | (go_ret; exact HF.out)
      have e6 : decide ((n : Int) + 1 ≤ 600) = true := by simp; omega
      rw [e6]
      have x0 : w1.cell? ⟨bx, 0, none⟩ = some (.int .i64 k) := (cell_of_row _ _ 0 _ _ _ X1.out).trans rfl
      have x1 : w1.cell? ⟨bx, 1, none⟩ = some (.string s) := (cell_of_row _ _ 1 _ _ _ X1.out).trans rfl
      have x2 : w1.cell? ⟨bx, 2, none⟩ = some (.int .i64 c) := (cell_of_row _ _ 2 _ _ _ X1.out).trans rfl
      have x3 : w1.cell? ⟨bx, 3, none⟩ = some (.slice a1 (elen a) a3) := (cell_of_row _ _ 3 _ _ _ X1.out).trans rfl
      have x4 : w1.cell? ⟨bx, 4, none⟩ = some (.slice b1 (slen (slft y)) b3) := (cell_of_row _ _ 4 _ _ _ X1.out).trans rfl
      have x5 : w1.cell? ⟨bx, 5, none⟩ = some (.slice e1 (slen (srgt y)) e3) := (cell_of_row _ _ 5 _ _ _ X1.out).trans rfl
      have T1 : Hid (TB w1) := HTR.out.gr G1.out hk2
      go_wp2_with fail
      refine (HX0.out _ T1.out).mono ?_
      rintro e w2 ⟨rfl, hb2⟩
      have G2 : Hid (Gr wr w2 kb) := G1.out.trans (Gr.below hb2)
      have L2 : Hid (LK w2 kb (n + 1)) := L1.out.keep (hb2.block kb L1.out.lt)
      have X2 : Hid (w2.heap[bx]? = some (.cells #[.int .i64 k, .string s, .int .i64 c, .slice a1 (elen a) a3, .slice b1 (slen (slft y)) b3, .slice e1 (slen (srgt y)) e3] 39)) := (hb2.block bx (Array.getElem?_eq_some_iff.1 X1.out).1).trans X1.out
      have T2 : Hid (TB w2) := T1.out.below hb2
      clear x0 x1 x2 x3 x4 x5 hb2
      have y3 : w2.cell? ⟨bx, 3, none⟩ = some (.slice a1 (elen a) a3) := (cell_of_row _ _ 3 _ _ _ X2.out).trans rfl
      rcases hok : stmtOk k s c (elen a) (slen (slft y)) (slen (srgt y)) with _ | _
      · have HRN : Hid (res = none) := by show _ = _; rw [← HRE.out, if_neg h6, if_pos hok]
        have HF : Hid (P (.returned (.bool false)) w2) := HFN.out _ HRN.out G2.out
        clear h6 hok
        go_wp2_with fail
        first | exact HF.out | (go_ret; exact HF.out)
      have HKD : Hid (stmtOk k s c (elen a) (slen (slft y)) (slen (srgt y)) = true) := hok
      have HRM : Hid ((match rtE a 1 (n + 1) with | none => none | some n1 => match blkR k bb rd re n1 with | none => none | some n3 => rtS r bb n3) = res) := by show _ = _; rw [← HRE.out, if_neg h6, if_neg (by rw [hok]; simp)]
      clear hok
      go_wp2_with fail
      refine (HEX.out _ G2.out L2.out (by omega) T2.out).mono ?_
      intro e w3 hp3
      have hbda := rtE_bd a 1 (n + 1)
      rcases hra : rtE a 1 (n + 1) with _ | n1
      · rw [hra] at hp3 HRM
        obtain ⟨rfl, hp4, hp5⟩ := hp3
        have HF : Hid (P (.returned (.bool false)) w3) := HFN.out _ HRM.out.symm (G2.out.trans hp5)
        clear h6 hra hp4 hp5 hbda
        simp only [Option.isSome]
        go_wp2_with fail
        first | exact HF.out | (go_ret; exact HF.out)
      rw [hra] at hp3 HRM
      obtain ⟨rfl, hp4, hp5⟩ := hp3
      have G3 : Hid (Gr wr w3 kb) := G2.out.trans hp5
      have L3 : Hid (LK w3 kb n1) := hp4 n1 rfl
      have HN1 : Hid (n1 ≤ 600) := hbda n1 (by omega) hra
      have X3 : Hid (w3.heap[bx]? = some (.cells #[.int .i64 k, .string s, .int .i64 c, .slice a1 (elen a) a3, .slice b1 (slen (slft y)) b3, .slice e1 (slen (srgt y)) e3] 39)) := (hp5.block bx (Array.getElem?_eq_some_iff.1 X2.out).1 (by intro e; cases e; exact hne rfl)).trans X2.out
      have T3 : Hid (TB w3) := HTR.out.gr G3.out hk2
      clear h6 hra hp4 hp5 hbda y3
      have x0 : w3.cell? ⟨bx, 0, none⟩ = some (.int .i64 k) := (cell_of_row _ _ 0 _ _ _ X3.out).trans rfl
      have x1 : w3.cell? ⟨bx, 1, none⟩ = some (.string s) := (cell_of_row _ _ 1 _ _ _ X3.out).trans rfl
      have x2 : w3.cell? ⟨bx, 2, none⟩ = some (.int .i64 c) := (cell_of_row _ _ 2 _ _ _ X3.out).trans rfl
      have x3 : w3.cell? ⟨bx, 3, none⟩ = some (.slice a1 (elen a) a3) := (cell_of_row _ _ 3 _ _ _ X3.out).trans rfl
      have x4 : w3.cell? ⟨bx, 4, none⟩ = some (.slice b1 (slen (slft y)) b3) := (cell_of_row _ _ 4 _ _ _ X3.out).trans rfl
      have x5 : w3.cell? ⟨bx, 5, none⟩ = some (.slice e1 (slen (srgt y)) e3) := (cell_of_row _ _ 5 _ _ _ X3.out).trans rfl
      simp only [Option.isSome]
      go_wp2_with fail
      refine (HBL.out _ n1 HKD.out G3.out L3.out HN1.out T3.out).mono ?_
      intro e w4 hp6
      rcases hrb : blkR k bb rd re n1 with _ | n3
      · rw [hrb] at hp6
        have HRN : Hid (res = none) := by
          show _ = _
          have := HRM.out
          rw [hrb] at this
          exact this.symm
        obtain ⟨rfl, hp7, hp8⟩ := hp6
        have HF : Hid (P (.returned (.bool false)) w4) := HFN.out _ HRN.out (G3.out.trans hp8)
        clear hrb hp7 hp8 x0 x1 x2 x3 x4 x5
        simp only [Option.isSome]
        go_wp2_with fail
        first | exact HF.out | (go_ret; exact HF.out)
      · rw [hrb] at hp6
        have HRN : Hid (rtS r bb n3 = res) := by
          show _ = _
          have := HRM.out
          rw [hrb] at this
          exact this
        obtain ⟨rfl, hp7, hp8⟩ := hp6
        have HE2 : Hid (YS w l kb bb b o res (.int .i64 ((i : Int) + 1)) w4) := ⟨r, i + 1, n3, by simp, by have := HNM.out; omega, by have := HNM.out; omega, HNM.out.2.2.1, HRN.out, HBDB.out n1 n3 HN1.out hrb, HRA.out w4 (G3.out.trans hp8), hp7 n3 rfl, HGR.out.trans (G3.out.trans hp8)⟩
        clear hrb hp7 hp8 x0 x1 x2 x3 x4 x5
        simp only [Option.isSome]
        go_wp2_with fail
        go_roundw
        case rel => exact HE2
        case measure => simp [intOf]; omega
end Go.Proofs.YtnofibjchhcmeabDoor
namespace Go.Proofs.YtnofibjchhcmeabDoor
open Go.RowKit Go.Maps
set_option linter.unusedVariables false

set_option maxRecDepth 100000 in
set_option maxHeartbeats 4000000 in
theorem right_any (l : SL) (v : Value) (w : World) (hsz : SSz l) (hs : SSx w v l) (hT : TB w) : Calls Tryd.prog 13 #[v] w (QB w (rtS l 0 0).isSome) := by
  have h2 : 2 < w.heap.size := by obtain ⟨⟨t, fr, h⟩, _⟩ := hT; exact (Array.getElem?_eq_some_iff.1 h).1
  have HC : Hid (∀ W, Below w.heap.size w W → LK W w.heap.size 0 → Calls Tryd.prog 22 #[.pointer (some ⟨w.heap.size, 0, none⟩), v, .int .i64 0] W (LP W w.heap.size (rtS l 0 0))) := fun W hW hL => stmts_any (scnt l) l v W w.heap.size 0 0 (Nat.le_refl _) hsz (by omega) (by omega) ((hs.mono' (ok' := fun j => j < w.heap.size) fun k _ hk => hk).below hW) hL (hT.below hW) h2 (.inl (by omega))
  obtain ⟨ad, cap, b, o, rfl, _⟩ := hs
  generalize rtS l 0 0 = res at HC ⊢
  generalize slen l = N at HC ⊢
  obtain ⟨z, hz⟩ : ∃ z, res.isSome = z := ⟨_, rfl⟩
  have HZ : Hid (res.isSome = z) := hz
  rw [hz]
  clear hT h2 hsz hz
  go_enter Tryd.func13, Tryd.ntmps13
  go_wp2_with fail
  refine (HC.out _ ((Below.refl _ _).alloc (Nat.le_refl _) _) (heap_alloc_new w _)).mono ?_
  rintro e w1 ⟨rfl, _, hg⟩
  rw [HZ.out]
  have HB : Hid (Below w.heap.size w w1) := by
    have hb := (Below.refl w.heap.size w).alloc (Nat.le_refl _) (.cells #[.int .i64 0] 51)
    exact ⟨hg.os.trans hb.os, hg.tape.trans hb.tape, hg.output.trans hb.output, Nat.le_trans hb.size hg.size, fun k hk => (hg.block k (by simp; omega) (by intro e; cases e; omega)).trans (hb.block k hk)⟩
  clear hg
  go_wp2_with fail
  first | exact ⟨rfl, HB.out⟩ | (go_ret; exact ⟨rfl, HB.out⟩)
end Go.Proofs.YtnofibjchhcmeabDoor
namespace Go.Proofs.YtnofibjchhcmeabDoor
open Go.RowKit
set_option linter.unusedVariables false

def allE : EL → Prop
  | .leaf => True
  | .inner _ (k, m, s, p) _ a r => exprOk k m s p (elen a) = true ∧ allE a ∧ allE r
def dpE : EL → Nat
  | .leaf => 0
  | .inner _ _ _ a r => max (dpE a + 1) (dpE r)
theorem rtE_some (l : EL) : ∀ d n, allE l → d + dpE l ≤ 49 → n + ecnt l ≤ 600 → rtE l d n = some (n + ecnt l) := by
  induction l with
  | leaf => intro d n _ _ _; rfl
  | inner i x v a r iha ihr =>
    obtain ⟨k, m, s, p⟩ := x
    intro d n ha hd hn
    obtain ⟨h1, h2, h3⟩ := ha
    simp only [dpE, ecnt] at hd hn
    unfold rtE
    rw [if_neg (by omega), if_neg (by omega), if_neg (by rw [h1]; simp), iha _ _ h2 (by omega) (by omega)]
    simp only
    rw [ihr _ _ h3 (by omega) (by omega)]
    simp only [ecnt]
    congr 1; omega
theorem nameF_size {s : ByteArray} {b : Bool} (h : nameF s b = true) : s.size ≤ maxLen := by
  have hl : s.data.toList.length = s.size := by simp
  unfold nameF at h
  cases b
  · simp only [Bool.false_eq_true, if_false, beq_iff_eq] at h
    rw [ByteArray.toList_eq] at h
    rw [h] at hl
    simp at hl
    unfold maxLen; omega
  · simp only [if_true] at h
    unfold nmB at h
    simp at h
    unfold maxLen; omega
theorem exprOk_size {k m : Int} {s : ByteArray} {p : Int} {n : Nat} (h : exprOk k m s p n = true) : s.size ≤ maxLen := by
  unfold exprOk exprB at h
  simp only [Bool.and_eq_true] at h
  exact nameF_size h.2.1.1.1.2
theorem stmtOk_size {k : Int} {s : ByteArray} {c : Int} {m bl el : Nat} (h : stmtOk k s c m bl el = true) : s.size ≤ maxLen := by
  unfold stmtOk stmtB at h
  simp only [Bool.and_eq_true] at h
  exact nameF_size h.2.1.1.1.1
theorem ESz_of {l : EL} (h : allE l) : ESz l := by
  induction l with
  | leaf => trivial
  | inner i x v a r iha ihr =>
    obtain ⟨k, m, s, p⟩ := x
    exact ⟨exprOk_size h.1, iha h.2.1, ihr h.2.2⟩
def GoodP (x : PE) : Prop := exprOk x.kind x.num x.name x.op (elen x.args) = true ∧ allE x.args ∧ x.deep = dpE x.args + 1 ∧ x.deep ≤ 48
theorem allE_row (l : List PE) (h : ∀ x ∈ l, GoodP x) : allE (erow l) := by
  induction l with
  | nil => trivial
  | cons x l ih => exact ⟨(h x (by simp)).1, (h x (by simp)).2.1, ih fun y hy => h y (by simp [hy])⟩
theorem deep_fold (l : List PE) : ∀ d, 1 ≤ d → (∀ x ∈ l, GoodP x) → l.foldl (fun d x => max d (x.deep + 1)) d = max d (dpE (erow l) + 1) := by
  induction l with
  | nil => intro d hd _; simp [erow, dpE]; omega
  | cons x l ih =>
    intro d hd h
    rw [List.foldl_cons, ih _ (by omega) fun y hy => h y (by simp [hy])]
    have := (h x (by simp)).2.2.1
    simp only [erow, dpE]
    omega
theorem deepOf_is (l : List PE) (h : ∀ x ∈ l, GoodP x) : deepOf l = dpE (erow l) + 1 := by
  unfold deepOf
  rw [deep_fold l 1 (Nat.le_refl _) h]; omega
theorem mkE_good {t : Tok} {k m : Int} {s : ByteArray} {op : Int} {l : List PE} {n : Nat} {x : PE} {i : Nat} (h : mkE t k m s op l n = .ok (x, i)) (hl : ∀ y ∈ l, GoodP y) (hk : exprOk k m s op l.length = true) : GoodP x := by
  unfold mkE at h
  split at h
  · cases h
  · rename_i h48
    split at h
    · cases h
    · cases h
      refine ⟨by rw [elen_row]; exact hk, allE_row l hl, deepOf_is l hl, ?_⟩
      show deepOf l ≤ 48
      omega
theorem mk'_good {p : Nat} {t : Tok} {k m : Int} {s : ByteArray} {op : Int} {l : List PE} {n : Nat} {x : PE} {q i : Nat} (h : mk' p (mkE t k m s op l n) = .ok (x, q, i)) (hl : ∀ y ∈ l, GoodP y) (hk : exprOk k m s op l.length = true) : GoodP x := by
  rcases e : mkE t k m s op l n with e1 | ⟨y, j⟩
  · rw [e] at h; cases h
  · rw [e] at h; cases h; exact mkE_good e hl hk
theorem nameF_no : nameF ⟨#[]⟩ false = true := by
  unfold nameF
  simp only [Bool.false_eq_true, if_false]
  rw [ByteArray.toList_eq]; rfl
theorem ok_num (m : Int) (h : 0 ≤ m) : exprOk 1 m ⟨#[]⟩ 0 0 = true := by
  unfold exprOk exprB
  rw [show hasE 1 = ⟨true, false, 0, 0, 0⟩ from rfl]
  simp only [nameF_no]
  by_cases h0 : m = 0
  · subst h0; rfl
  · have h1 : decide (0 < m) = true := by simp; omega
    rw [h1]; simp
theorem ok_name (l : List UInt8) (h : nmB l = true) : exprOk 2 0 ⟨l.toArray⟩ 0 0 = true := by
  unfold exprOk exprB
  rw [show hasE 2 = ⟨false, true, 0, 0, 0⟩ from rfl]
  have : nameF ⟨l.toArray⟩ true = true := by unfold nameF; simp only [if_true]; exact h
  simp only [this]; rfl
theorem ok_mem : exprOk 3 0 ⟨#[]⟩ 0 1 = true := by
  unfold exprOk exprB
  rw [show hasE 3 = ⟨false, false, 0, 0, 1⟩ from rfl]
  simp only [nameF_no]; rfl
theorem ok_one (op : Int) (h : op = 19 ∨ op = 20 ∨ op = 21) : exprOk 4 0 ⟨#[]⟩ op 1 = true := by
  unfold exprOk exprB
  rw [show hasE 4 = ⟨false, false, 19, 21, 1⟩ from rfl]
  simp only [nameF_no]
  rcases h with rfl | rfl | rfl <;> rfl
theorem ok_two (op : Int) (h : 1 ≤ op ∧ op ≤ 18) : exprOk 5 0 ⟨#[]⟩ op 2 = true := by
  unfold exprOk exprB
  rw [show hasE 5 = ⟨false, false, 1, 18, 2⟩ from rfl]
  simp only [nameF_no, decide_eq_true h.1, decide_eq_true h.2]; rfl
/-- tokens as they are cut -/
def TG (L : List Tok) : Prop := ∀ i, ((tk L i).kind = 1 → 0 ≤ (tk L i).num) ∧ ((tk L i).kind = 2 → nmB (tk L i).text = true)
def GE (r : Nat → Nat → Nat → PR) : Prop := ∀ p o n x q m, r p o n = .ok (x, q, m) → GoodP x
theorem withinP_good {L : List Tok} {ex : Nat → Nat → Nat → PR} (h : GE ex) (a b : List UInt8) : GE (withinP L ex a b) := by
  intro p o n x q m hr
  unfold withinP at hr
  split at hr
  · cases hr
  · split at hr
    · cases hr
    · rcases e : ex (p + 1) (o + 1) n with e1 | ⟨y, r, i⟩
      · rw [e] at hr; cases hr
      · rw [e] at hr
        have h1 := h _ _ _ _ _ _ e
        simp only at hr
        split at hr
        · cases hr
        · cases hr; exact h1
theorem memP_good {L : List Tok} {ex : Nat → Nat → Nat → PR} (h : GE ex) : GE (memP L ex) := by
  intro p o n x q m hr
  unfold memP at hr
  rcases e : withinP L ex [91] [93] (p + 1) o n with e1 | ⟨y, r, i⟩
  · rw [e] at hr; cases hr
  · rw [e] at hr
    have h1 := withinP_good h _ _ _ _ _ _ _ _ e
    exact mk'_good hr (fun z hz => by simp at hz; subst hz; exact h1) ok_mem
theorem pairP_good {L : List Tok} {ex : Nat → Nat → Nat → PR} (h : GE ex) (op : Int) (ho : 1 ≤ op ∧ op ≤ 18) : GE (pairP L ex op) := by
  intro p o n x q m hr
  unfold pairP at hr
  split at hr
  · cases hr
  · split at hr
    · cases hr
    · rcases e : ex (p + 2) (o + 1) n with e1 | ⟨y, r, i⟩
      · rw [e] at hr; cases hr
      · rw [e] at hr
        have h1 := h _ _ _ _ _ _ e
        simp only at hr
        split at hr
        · cases hr
        · rcases e2 : ex (r + 1) (o + 1) i with e1 | ⟨z, r2, i2⟩
          · rw [e2] at hr; cases hr
          · rw [e2] at hr
            have h3 := h _ _ _ _ _ _ e2
            simp only at hr
            split at hr
            · cases hr
            · exact mk'_good hr (fun u hu => by simp at hu; rcases hu with rfl | rfl; exact h1; exact h3) (ok_two op ho)
theorem signedP_good {L : List Tok} {on : Nat → Nat → Nat → PR} (h : GE on) (op : Int) (ho : op = 19 ∨ op = 20 ∨ op = 21) : GE (signedP L on op) := by
  intro p o n x q m hr
  unfold signedP at hr
  split at hr
  · cases hr
  · rcases e : on (p + 1) (o + 1) n with e1 | ⟨y, r, i⟩
    · rw [e] at hr; cases hr
    · rw [e] at hr
      have h1 := h _ _ _ _ _ _ e
      exact mk'_good hr (fun z hz => by simp at hz; subst hz; exact h1) (ok_one op ho)
theorem oneP_good {L : List Tok} (hL : TG L) {ex on : Nat → Nat → Nat → PR} (h : GE ex) (h' : GE on) : GE (oneP L ex on) := by
  intro p o n x q m hr
  unfold oneP at hr
  split at hr
  · rename_i g; exact mk'_good hr (fun z hz => by cases hz) (ok_num _ ((hL p).1 g))
  split at hr
  · rename_i g; exact mk'_good hr (fun z hz => by cases hz) (ok_name _ ((hL p).2 g))
  split at hr
  · exact withinP_good h _ _ _ _ _ _ _ _ hr
  split at hr
  · exact memP_good h _ _ _ _ _ _ hr
  split at hr
  · exact pairP_good h _ (by omega) _ _ _ _ _ _ hr
  split at hr
  · exact pairP_good h _ (by omega) _ _ _ _ _ _ hr
  split at hr
  · exact signedP_good h' _ (by omega) _ _ _ _ _ _ hr
  split at hr
  · exact signedP_good h' _ (by omega) _ _ _ _ _ _ hr
  split at hr
  · exact signedP_good h' _ (by omega) _ _ _ _ _ _ hr
  · cases hr
theorem rankGo_op (t : List UInt8) : ∀ (M : List (List UInt8 × Int × Int)), (∀ x ∈ M, 1 ≤ x.2.2 ∧ x.2.2 ≤ 18) → 1 ≤ (rankGo t M).1 → 1 ≤ (rankGo t M).2 ∧ (rankGo t M).2 ≤ 18
  | [], _, h => by simp [rankGo] at h
  | x :: M, hM, h => by
    unfold rankGo at h ⊢
    split at h
    · rename_i g; rw [if_pos g]; exact hM x (by simp)
    · rename_i g; rw [if_neg g]; exact rankGo_op t M (fun y hy => hM y (by simp [hy])) h
theorem rank_op (t : List UInt8) (h : 1 ≤ (rankOf t).1) : 1 ≤ (rankOf t).2 ∧ (rankOf t).2 ≤ 18 := rankGo_op t signsL (by decide) h
theorem exprF_good {L : List Tok} (hL : TG L) : ∀ f, GE (exprF L f none) ∧ (∀ least, 1 ≤ least → GE (exprF L f (some (least, none)))) ∧ (∀ least y, 1 ≤ least → GoodP y → GE (exprF L f (some (least, some y)))) := by
  intro f
  induction f with
  | zero => exact ⟨fun _ _ _ _ _ _ h => (by cases h), fun _ _ _ _ _ _ _ _ h => (by cases h), fun _ _ _ _ _ _ _ _ _ _ h => (by cases h)⟩
  | succ f ih =>
    obtain ⟨i0, i1, i2⟩ := ih
    refine ⟨oneP_good hL (i1 1 (by omega)) i0, fun least hl => ?_, fun least y hl hy => ?_⟩
    · intro p o n x q m h
      unfold exprF at h
      rcases e : exprF L f none p o n with e1 | ⟨z, r, i⟩
      · rw [e] at h; cases h
      · rw [e] at h; simp only at h
        exact i2 least z hl (i0 _ _ _ _ _ _ e) _ _ _ _ _ _ h
    · intro p o n x q m h
      unfold exprF at h
      split at h
      · cases h; exact hy
      · rename_i g
        rcases e : exprF L f (some ((rankOf (tk L p).text).1 + 1, none)) (p + 1) o n with e1 | ⟨z, r, i⟩
        · rw [e] at h; cases h
        · rw [e] at h; simp only at h
          have h1 := i1 _ (by omega) _ _ _ _ _ _ e
          rcases e2 : mkE (tk L p) 5 0 ⟨#[]⟩ (rankOf (tk L p).text).2 [y, z] i with e1 | ⟨u, j⟩
          · rw [e2] at h; cases h
          · rw [e2] at h; simp only at h
            have h2 := mkE_good e2 (fun w hw => by simp at hw; rcases hw with rfl | rfl; exact hy; exact h1) (ok_two _ (rank_op _ (by omega)))
            exact i2 least u hl h2 _ _ _ _ _ _ h
theorem ex1_good {L : List Tok} (hL : TG L) : GE (ex1 L) := (exprF_good hL _).2.1 1 (by omega)
end Go.Proofs.YtnofibjchhcmeabDoor
namespace Go.Proofs.YtnofibjchhcmeabDoor
open Go.RowKit
set_option linter.unusedVariables false

def allS : SL → Nat → Prop
  | .leaf, _ => True
  | .inner _ (k, s, c, a) _ .leaf r, b => stmtOk k s c (elen a) 0 0 = true ∧ allE a ∧ dpE a ≤ 48 ∧ ¬ ((hasS k).body = true ∧ 12 ≤ b) ∧ allS r b
  | .inner _ (k, s, c, a) _ (.inner _ _ _ d e) r, b => stmtOk k s c (elen a) (slen d) (slen e) = true ∧ allE a ∧ dpE a ≤ 48 ∧ ¬ ((hasS k).body = true ∧ 12 ≤ b) ∧ allS d (b + 1) ∧ allS e (b + 1) ∧ allS r b
theorem allS_inner {i : Nat} {k : Int} {s : ByteArray} {c : Int} {a : EL} {v : Unit} {x r : SL} {b : Nat} (h : allS (.inner i (k, s, c, a) v x r) b) : stmtOk k s c (elen a) (slen (slft x)) (slen (srgt x)) = true ∧ allE a ∧ dpE a ≤ 48 ∧ ¬ ((hasS k).body = true ∧ 12 ≤ b) ∧ allS (slft x) (b + 1) ∧ allS (srgt x) (b + 1) ∧ allS r b := by
  cases x with
  | leaf => exact ⟨h.1, h.2.1, h.2.2.1, h.2.2.2.1, trivial, trivial, h.2.2.2.2⟩
  | inner => exact h
theorem rtS_some (l : SL) : ∀ b n, allS l b → n + scnt l ≤ 600 → rtS l b n = some (n + scnt l) := by
  induction l using sl_ind with
  | h0 => intro b n _ _; rfl
  | h1 i d v x r ihl ihr ih =>
    obtain ⟨k, s, c, a⟩ := d
    intro b n ha hn
    obtain ⟨h1, h2, h3, h4, h5, h6, h7⟩ := allS_inner ha
    rw [scnt_inner] at hn ⊢
    rw [rtS_inner, if_neg (by omega), if_neg (by rw [h1]; simp), rtE_some a 1 (n + 1) h2 (by omega) (by omega)]
    simp only
    have e1 : blkR k b (rtS (slft x) (b + 1)) (rtS (srgt x) (b + 1)) (n + 1 + ecnt a) = some (n + 1 + ecnt a + scnt (slft x) + scnt (srgt x)) := by
      unfold blkR
      rw [if_neg h4, ihl _ _ h5 (by omega)]
      simp only
      rw [ihr _ _ h6 (by omega)]
    rw [e1]
    simp only
    rw [ih _ _ h7 (by omega)]
    congr 1; omega
theorem SSz_of (l : SL) : ∀ b, allS l b → SSz l := by
  induction l using sl_ind with
  | h0 => intro b _; trivial
  | h1 i d v x r ihl ihr ih =>
    obtain ⟨k, s, c, a⟩ := d
    intro b ha
    obtain ⟨h1, h2, h3, h4, h5, h6, h7⟩ := allS_inner ha
    cases x with
    | leaf => exact ⟨stmtOk_size h1, ESz_of h2, ih _ h7⟩
    | inner => exact ⟨stmtOk_size h1, ESz_of h2, ihl _ h5, ihr _ h6, ih _ h7⟩
def GoodT (b : Nat) (x : PT) : Prop := stmtOk x.kind x.name x.cell (elen x.args) (slen x.body) (slen x.els) = true ∧ allE x.args ∧ dpE x.args ≤ 48 ∧ ¬ ((hasS x.kind).body = true ∧ 12 ≤ b) ∧ allS x.body (b + 1) ∧ allS x.els (b + 1)
theorem allS_row (b : Nat) (l : List PT) (h : ∀ x ∈ l, GoodT b x) : allS (srow l) b := by
  induction l with
  | nil => trivial
  | cons x l ih =>
    obtain ⟨h1, h2, h3, h4, h5, h6⟩ := h x (by simp)
    exact ⟨h1, h2, h3, h4, h5, h6, ih fun y hy => h y (by simp [hy])⟩
theorem one_row {x : PE} (h : GoodP x) : allE (erow [x]) ∧ dpE (erow [x]) ≤ 48 := by
  refine ⟨allE_row _ fun y hy => by simp at hy; subst hy; exact h, ?_⟩
  have := h.2.2
  simp only [erow, dpE]; omega
theorem two_row {x y : PE} (h : GoodP x) (h' : GoodP y) : allE (erow [x, y]) ∧ dpE (erow [x, y]) ≤ 48 := by
  refine ⟨allE_row _ fun z hz => by simp at hz; rcases hz with rfl | rfl; exact h; exact h', ?_⟩
  have := h.2.2
  have := h'.2.2
  simp only [erow, dpE]; omega
theorem sk_name (k : Int) (hk : k = 1 ∨ k = 2) (l : List UInt8) (h : nmB l = true) : stmtOk k ⟨l.toArray⟩ 0 1 0 0 = true := by
  have : nameF ⟨l.toArray⟩ true = true := by unfold nameF; simp only [if_true]; exact h
  unfold stmtOk stmtB
  rcases hk with rfl | rfl
  · rw [show hasS 1 = ⟨true, false, false, false, 1⟩ from rfl]; simp only [this]; rfl
  · rw [show hasS 2 = ⟨true, false, false, false, 1⟩ from rfl]; simp only [this]; rfl
theorem sk_store : stmtOk 3 ⟨#[]⟩ 0 2 0 0 = true := by
  unfold stmtOk stmtB; rw [show hasS 3 = ⟨false, false, false, false, 2⟩ from rfl]; simp only [nameF_no]; rfl
theorem sk_tell (k : Int) (hk : k = 4 ∨ k = 8) : stmtOk k ⟨#[]⟩ 0 1 0 0 = true := by
  unfold stmtOk stmtB
  rcases hk with rfl | rfl
  · rw [show hasS 4 = ⟨false, false, false, false, 1⟩ from rfl]; simp only [nameF_no]; rfl
  · rw [show hasS 8 = ⟨false, false, false, false, 1⟩ from rfl]; simp only [nameF_no]; rfl
theorem sk_into (c : Int) (h0 : 0 ≤ c) (h : c ≤ 255) : stmtOk 5 ⟨#[]⟩ c 1 0 0 = true := by
  unfold stmtOk stmtB; rw [show hasS 5 = ⟨false, true, false, false, 1⟩ from rfl]
  simp only [nameF_no]
  by_cases hc : c = 0
  · subst hc; rfl
  · have h1 : decide (0 < c) = true := by simp; omega
    simp only [h1, decide_eq_true h]; simp
theorem sk_if (bl el : Nat) : stmtOk 6 ⟨#[]⟩ 0 1 bl el = true := by
  unfold stmtOk stmtB; rw [show hasS 6 = ⟨false, false, true, true, 1⟩ from rfl]; simp only [nameF_no]; rfl
theorem sk_while (bl : Nat) : stmtOk 7 ⟨#[]⟩ 0 1 bl 0 = true := by
  unfold stmtOk stmtB; rw [show hasS 7 = ⟨false, false, true, false, 1⟩ from rfl]; simp only [nameF_no]; rfl
theorem sk_stop : stmtOk 9 ⟨#[]⟩ 0 0 0 0 = true := by
  unfold stmtOk stmtB; rw [show hasS 9 = ⟨false, false, false, false, 0⟩ from rfl]; simp only [nameF_no]; rfl

def GT (r : Nat → Nat → Nat → TR) : Prop := ∀ b p n l q m, r b p n = .ok (l, q, m) → ∀ x ∈ l, GoodT b x
theorem lastP_good {L : List Tok} (hL : TG L) {p n : Nat} {x : PE} {q m : Nat} (h : lastP L p n = .ok (x, q, m)) : GoodP x := by
  unfold lastP at h
  rcases e : ex1 L p 0 n with e1 | ⟨y, r, i⟩
  · rw [e] at h; cases h
  · rw [e] at h; simp only at h
    split at h
    · cases h
    · cases h; exact ex1_good hL _ _ _ _ _ _ e
theorem valueP_good {L : List Tok} (hL : TG L) {p n : Nat} {x : PE} {q m : Nat} (h : valueP L p n = .ok (x, q, m)) : GoodP x := by
  unfold valueP at h
  split at h
  · cases h
  · exact lastP_good hL h
theorem withinT_good {L : List Tok} (hL : TG L) {a b : List UInt8} {p n : Nat} {x : PE} {q m : Nat} (h : withinT L a b p n = .ok (x, q, m)) : GoodP x := withinP_good (ex1_good hL) _ _ _ _ _ _ _ _ h
theorem ofPart_good {t : Tok} {k : Int} {s : ByteArray} {c : Int} {r : PR} {l : List PT} {q m b : Nat} (h : ofPart t k s c r = .ok (l, q, m)) (hr : ∀ x i, r = .ok (x, q, i) → GoodP x) (hk : stmtOk k s c 1 0 0 = true) (hb : (hasS k).body = false) : ∀ x ∈ l, GoodT b x := by
  unfold ofPart at h
  rcases r with e | ⟨x, r, i⟩
  · cases h
  · simp only at h
    obtain ⟨h1, h2, h3⟩ := mkS_cnt h
    subst h1 h2
    intro y hy
    simp at hy
    subst hy
    have hg := one_row (hr x i rfl)
    exact ⟨hk, hg.1, hg.2, fun h => (by rw [hb] at h; cases h.1), trivial, trivial⟩
theorem blockP_good {L : List Tok} {row : Nat → Nat → Nat → TR} (hr : GT row) {b p n : Nat} {l : List PT} {q m : Nat} (h : blockP L row b p n = .ok (l, q, m)) : (∀ x ∈ l, GoodT (b + 1) x) ∧ b < 12 := by
  unfold blockP at h
  split at h
  · cases h
  · split at h
    · cases h
    · rename_i g
      rcases e : row (b + 1) (p + 1) n with e1 | ⟨y, r, i⟩
      · rw [e] at h; cases h
      · rw [e] at h; simp only at h
        cases h
        exact ⟨hr _ _ _ _ _ _ e, by omega⟩
theorem otherP_good {L : List Tok} {row ch : Nat → Nat → Nat → TR} (hr : GT row) (hc : GT ch) {b p n : Nat} {l : List PT} {q m : Nat} (h : otherP L row ch b p n = .ok (l, q, m)) : ∀ x ∈ l, GoodT (b + 1) x := by
  unfold otherP at h
  split at h
  · exact (blockP_good hr h).1
  · split at h
    · cases h
    · exact hc _ _ _ _ _ _ h
theorem chooseP_good {L : List Tok} (hL : TG L) {row ch : Nat → Nat → Nat → TR} (hr : GT row) (hc : GT ch) : GT (chooseP L row ch) := by
  intro b p n x q m h
  unfold chooseP at h
  rcases e : withinT L [40] [41] (p + 1) n with e1 | ⟨y, r, i⟩
  · rw [e] at h; cases h
  · rw [e] at h; simp only at h
    have hg := one_row (withinT_good hL e)
    rcases e2 : blockP L row b r i with e1 | ⟨z, r2, i2⟩
    · rw [e2] at h; cases h
    · rw [e2] at h; simp only at h
      obtain ⟨h3, h4⟩ := blockP_good hr e2
      split at h
      · rcases e3 : otherP L row ch b (r2 + 1) i2 with e1 | ⟨u, r3, i3⟩
        · rw [e3] at h; cases h
        · rw [e3] at h; simp only at h
          have h5 := otherP_good hr hc e3
          obtain ⟨g1, g2, g3⟩ := mkS_cnt h
          subst g1
          intro y' hy'
          simp at hy'
          subst hy'
          exact ⟨sk_if _ _, hg.1, hg.2, fun hh => by omega, allS_row _ _ h3, allS_row _ _ h5⟩
      · obtain ⟨g1, g2, g3⟩ := mkS_cnt h
        subst g1
        intro y' hy'
        simp at hy'
        subst hy'
        exact ⟨sk_if _ _, hg.1, hg.2, fun hh => by omega, allS_row _ _ h3, trivial⟩
theorem repeatP_good {L : List Tok} (hL : TG L) {row : Nat → Nat → Nat → TR} (hr : GT row) : GT (repeatP L row) := by
  intro b p n x q m h
  unfold repeatP at h
  rcases e : withinT L [40] [41] (p + 1) n with e1 | ⟨y, r, i⟩
  · rw [e] at h; cases h
  · rw [e] at h; simp only at h
    have hg := one_row (withinT_good hL e)
    rcases e2 : blockP L row b r i with e1 | ⟨z, r2, i2⟩
    · rw [e2] at h; cases h
    · rw [e2] at h; simp only at h
      obtain ⟨h3, h4⟩ := blockP_good hr e2
      obtain ⟨g1, g2, g3⟩ := mkS_cnt h
      subst g1
      intro y' hy'
      simp at hy'
      subst hy'
      exact ⟨sk_while _, hg.1, hg.2, fun hh => by omega, allS_row _ _ h3, trivial⟩
theorem stmtP_good {L : List Tok} (hL : TG L) {row ch : Nat → Nat → Nat → TR} (hr : GT row) (hc : GT ch) : GT (stmtP L row ch) := by
  intro b p n x q m h
  unfold stmtP at h
  split at h
  · rename_i g; exact ofPart_good h (fun y i e => valueP_good hL e) (sk_name 2 (by omega) _ ((hL p).2 g)) rfl
  split at h
  · unfold declareP at h
    split at h
    · cases h
    · rename_i g; exact ofPart_good h (fun y i e => valueP_good hL e) (sk_name 1 (by omega) _ ((hL (p + 1)).2 (Decidable.of_not_not g))) rfl
  split at h
  · unfold storeP at h
    rcases e : withinT L [91] [93] (p + 1) n with e1 | ⟨y, r, i⟩
    · rw [e] at h; cases h
    · rw [e] at h; simp only at h
      rcases e2 : valueP L r i with e1 | ⟨z, r2, i2⟩
      · rw [e2] at h; cases h
      · rw [e2] at h; simp only at h
        have hg := two_row (withinT_good hL e) (valueP_good hL e2)
        obtain ⟨g1, g2, g3⟩ := mkS_cnt h
        subst g1
        intro y' hy'
        simp at hy'
        subst hy'
        exact ⟨sk_store, hg.1, hg.2, fun hh => (by cases hh.1), trivial, trivial⟩
  split at h
  · exact ofPart_good h (fun y i e => lastP_good hL e) (sk_tell 4 (by omega)) rfl
  split at h
  · exact ofPart_good h (fun y i e => lastP_good hL e) (sk_tell 8 (by omega)) rfl
  split at h
  · unfold intoP at h
    split at h
    · cases h
    split at h
    · cases h
    · rename_i g1 g2
      exact ofPart_good h (fun y i e => lastP_good hL e) (sk_into _ ((hL (p + 1)).1 (Decidable.of_not_not g2)) (by omega)) rfl
  split at h
  · unfold stopP at h
    split at h
    · cases h
    · obtain ⟨g1, g2, g3⟩ := mkS_cnt h
      subst g1
      intro y' hy'
      simp at hy'
      subst hy'
      exact ⟨sk_stop, trivial, Nat.zero_le _, fun hh => (by cases hh.1), trivial, trivial⟩
  split at h
  · exact chooseP_good hL hr hc _ _ _ _ _ _ h
  split at h
  · exact repeatP_good hL hr _ _ _ _ _ _ h
  · cases h
theorem stmtF_good {L : List Tok} (hL : TG L) : ∀ f, GT (stmtF L f 0) ∧ GT (stmtF L f 1) ∧ GT (stmtF L f 2) := by
  intro f
  induction f with
  | zero => exact ⟨fun _ _ _ _ _ _ h => (by cases h), fun _ _ _ _ _ _ h => (by cases h), fun _ _ _ _ _ _ h => (by cases h)⟩
  | succ f ih =>
    obtain ⟨i0, i1, i2⟩ := ih
    refine ⟨stmtP_good hL i1 i2, ?_, chooseP_good hL i1 i2⟩
    intro b p n x q m h
    rw [stmtF_row] at h
    split at h
    · cases h; intro y hy; cases hy
    · rcases e : stmtF L f 0 b p n with e1 | ⟨y, r, i⟩
      · rw [e] at h; cases h
      · rw [e] at h; simp only at h
        rcases e2 : stmtF L f 1 b r i with e1 | ⟨z, r2, i3⟩
        · rw [e2] at h; cases h
        · rw [e2] at h; simp only at h
          cases h
          intro y' hy'
          rcases List.mem_append.1 hy' with h1 | h1
          · exact i0 _ _ _ _ _ _ e _ h1
          · exact i1 _ _ _ _ _ _ e2 _ h1
theorem textF_good {L : List Tok} (hL : TG L) : ∀ f p n l q m, textF L f p n = .ok (l, q, m) → ∀ x ∈ l, GoodT 0 x := by
  intro f
  induction f with
  | zero => intro p n l q m h; cases h
  | succ f ih =>
    intro p n l q m h
    unfold textF at h
    split at h
    · cases h; intro y hy; cases hy
    · rcases e : stmtT L 0 p n with e1 | ⟨y, r, i⟩
      · rw [e] at h; cases h
      · rw [e] at h; simp only at h
        rcases e2 : textF L f r i with e1 | ⟨z, r2, i2⟩
        · rw [e2] at h; cases h
        · rw [e2] at h; simp only at h
          cases h
          intro y' hy'
          rcases List.mem_append.1 hy' with h1 | h1
          · exact (stmtF_good hL _).1 _ _ _ _ _ _ e _ h1
          · exact ih _ _ _ _ _ e2 _ h1
end Go.Proofs.YtnofibjchhcmeabDoor
namespace Go.Proofs.YtnofibjchhcmeabDoor
open Go.RowKit
set_option linter.unusedVariables false

theorem ga_all {step : Unit → UInt8 → Bool × Unit} (P : UInt8 → Bool) (hs : ∀ b, (step () b).1 = P b) : ∀ R : List UInt8, ((R.take (ga step () R)).all P) = true
  | [] => rfl
  | b :: R => by
    unfold ga
    split
    · rename_i h
      have ih := ga_all P hs R
      simp only [List.take_succ_cons, List.all_cons, Bool.and_eq_true]
      exact ⟨by rw [← hs]; exact h, ih⟩
    · rfl
theorem parse_pos (l : List UInt8) (h : l.all isD = true) : 0 ≤ (parse l).1 := by
  cases l with
  | nil => simp [parse]
  | cons c r =>
    change 0 ≤ (if c = 45 then parseOf true false r else parseOf false (c :: r == [48]) (c :: r)).1
    have hc : c ≠ 45 := by
      simp at h
      intro e
      rw [e] at h
      exact absurd h.1 (by decide)
    rw [if_neg hc]
    unfold parseOf
    split
    · simp
    split
    · simp
    split
    · simp
    · unfold withS
      simp only [Bool.false_eq_true, if_false]
      split
      · simp
      · simp
theorem tokOf_good (b : UInt8) (T : List UInt8) (k m : Int) (n : Nat) (h : tokOf (b :: T) = .inl (k, m, n)) : (k = 1 → 0 ≤ m) ∧ (k = 2 → nmB ((b :: T).take n) = true) := by
  change (if isD b = true then numTok (b :: T) else if isL b = true then wordTok (b :: T) else signTok (b :: T)) = _ at h
  split at h
  · unfold numTok at h
    simp only at h
    split at h
    · cases h
    · split at h
      · cases h
      · injection h with h
        injection h with h1 h2
        injection h2 with h2 h3
        refine ⟨fun _ => ?_, fun e => ?_⟩
        · rw [← h2]; exact parse_pos _ (ga_all isD (fun _ => rfl) _)
        · rw [← h1] at e; cases e
  · rename_i hD
    split at h
    · rename_i hL
      unfold wordTok at h
      simp only at h
      split at h
      · injection h with h; injection h with h1 _; exact ⟨(fun e => by rw [← h1] at e; cases e), (fun e => by rw [← h1] at e; cases e)⟩
      · rename_i hw
        split at h
        · cases h
        · rename_i h12
          injection h with h; injection h with h1 h2; injection h2 with h2 h3
          refine ⟨(fun e => by rw [← h1] at e; cases e), fun _ => ?_⟩
          subst h3
          have hall := ga_all (step := alStep) isA (fun _ => rfl) (b :: T)
          have hle := ga_le alStep () (b :: T)
          have hp : 1 ≤ ga alStep () (b :: T) := ga_pos alStep () b T (by show isA b = true; unfold isA; rw [hL]; rfl)
          obtain ⟨g, hg⟩ : ∃ g, ga alStep () (b :: T) = g + 1 := ⟨ga alStep () (b :: T) - 1, by omega⟩
          rw [hg] at hall hle h12 hw ⊢
          unfold nmB
          have e1 : ((b :: T).take (g + 1)).isEmpty = false := rfl
          have e2 : ((b :: T).take (g + 1)).length ≤ 12 := by simp; omega
          have e3 : headD ((b :: T).take (g + 1)) = false := by show isD b = false; simpa using hD
          have e4 : isW ((b :: T).take (g + 1)) = false := by simpa using hw
          rw [e1, decide_eq_true e2, e3, hall, e4]; rfl
    · unfold signTok at h
      simp only at h
      split at h
      · cases h
      · injection h with h; injection h with h1 _; exact ⟨(fun e => by rw [← h1] at e; cases e), (fun e => by rw [← h1] at e; cases e)⟩
theorem cutG_good : ∀ (f p : Nat) (R : List UInt8) (l : List Tok), cutG f p R = .inl l → ∀ t ∈ l, (t.kind = 1 → 0 ≤ t.num) ∧ (t.kind = 2 → nmB t.text = true) := by
  intro f
  induction f with
  | zero => intro p R l h; cases h
  | succ f ih =>
    intro p R l h
    cases R with
    | nil =>
      cases h
      intro t ht
      simp at ht
      subst ht
      exact ⟨(fun h => by cases h), (fun h => by cases h)⟩
    | cons b T =>
      unfold cutG at h
      rcases ht : tokOf (b :: T) with ⟨kd, m, n⟩ | ⟨o, er⟩
      · rw [ht] at h
        simp only at h
        rcases hc : cutG f (p + n + gapLen ((b :: T).drop n)) (((b :: T).drop n).drop (gapLen ((b :: T).drop n))) with l' | ⟨k', e'⟩
        · rw [hc] at h
          cases h
          intro t htm
          rcases List.mem_cons.1 htm with rfl | h2
          · exact tokOf_good b T kd m n ht
          · exact ih _ _ _ hc t h2
        · rw [hc] at h; cases h
      · rw [ht] at h; cases h
theorem cut_good {s : List UInt8} {L : List Tok} (h : cut s = .inl L) : TG L := by
  unfold cut at h
  split at h
  · cases h
  · intro i
    rcases Nat.lt_or_ge i L.length with h1 | h1
    · exact cutG_good _ _ _ _ h _ (by rw [← tk_eq h1]; exact List.getElem_mem h1)
    · rw [tk_out h1]; exact ⟨(fun h => by cases h), (fun h => by cases h)⟩
/-- what is read may be -/
theorem parseT_good {s : List UInt8} {l : List PT} (h : parseT s = .ok l) : allS (srow l) 0 := by
  unfold parseT at h
  rcases e : cut s with L | ⟨k, er⟩
  · rw [e] at h
    simp only at h
    rcases e2 : textF L (L.length + 1) 0 0 with ⟨k, e1⟩ | ⟨l', q, m⟩
    · rw [e2] at h; cases h
    · rw [e2] at h; cases h
      exact allS_row 0 _ (textF_good (cut_good e) _ _ _ _ _ _ e2)
  · rw [e] at h; cases h

/-- an error is told no further than the text's end -/
def PZr {α : Type} (M : Nat) (r : Except (Nat × Int) α) : Prop := ∀ k e, r = .error (k, e) → k ≤ M
theorem pz_ok {α : Type} {M : Nat} (x : α) : PZr M (.ok x) := fun k e h => by cases h
theorem pz_err {α : Type} {M k : Nat} {e : Int} (h : k ≤ M) : PZr (α := α) M (.error (k, e)) := fun k' e' h' => by cases h'; exact h
theorem pz_of {α β : Type} {M k : Nat} {e : Int} (h : PZr (α := α) M (.error (k, e))) : PZr (α := β) M (.error (k, e)) := pz_err (h k e rfl)
theorem pz_mk {M : Nat} {t : Tok} (ht : t.pos ≤ M) {k m : Int} {s : ByteArray} {op : Int} {l : List PE} {n : Nat} : PZr M (mkE t k m s op l n) := by
  unfold mkE
  split
  · exact pz_err (by first | exact hM _ | exact ht | omega)
  · split
    · exact pz_err (by first | exact hM _ | exact ht | omega)
    · exact pz_ok _
theorem pz_mk' {M p : Nat} {r : Except (Nat × Int) (PE × Nat)} (h : PZr M r) : PZr M (mk' p r) := by
  rcases r with ⟨k, e⟩ | ⟨x, n⟩
  · exact pz_err (h k e rfl)
  · exact pz_ok _
theorem withinP_pz {M : Nat} {L : List Tok} (hM : ∀ i, (tk L i).pos ≤ M) {ex : Nat → Nat → Nat → PR} (h : ∀ p o n, PZr M (ex p o n)) (a b : List UInt8) (p o n : Nat) : PZr M (withinP L ex a b p o n) := by
  unfold withinP
  split
  · exact pz_err (by first | exact hM _ | exact ht | omega)
  split
  · exact pz_err (by first | exact hM _ | exact ht | omega)
  have := h (p + 1) (o + 1) n
  rcases e : ex (p + 1) (o + 1) n with ⟨k, e1⟩ | ⟨x, q, m⟩
  · rw [e] at this; exact this
  · simp only
    split
    · exact pz_err (by first | exact hM _ | exact ht | omega)
    · exact pz_ok _
theorem memP_pz {M : Nat} {L : List Tok} (hM : ∀ i, (tk L i).pos ≤ M) {ex : Nat → Nat → Nat → PR} (h : ∀ p o n, PZr M (ex p o n)) (p o n : Nat) : PZr M (memP L ex p o n) := by
  unfold memP
  have := withinP_pz (L := L) hM h [91] [93] (p + 1) o n
  rcases e : withinP L ex [91] [93] (p + 1) o n with ⟨k, e1⟩ | ⟨x, q, m⟩
  · rw [e] at this; exact this
  · exact pz_mk' (pz_mk (hM _))
theorem pairP_pz {M : Nat} {L : List Tok} (hM : ∀ i, (tk L i).pos ≤ M) {ex : Nat → Nat → Nat → PR} (h : ∀ p o n, PZr M (ex p o n)) (op : Int) (p o n : Nat) : PZr M (pairP L ex op p o n) := by
  unfold pairP
  split
  · exact pz_err (by first | exact hM _ | exact ht | omega)
  split
  · exact pz_err (by first | exact hM _ | exact ht | omega)
  have := h (p + 2) (o + 1) n
  rcases e : ex (p + 2) (o + 1) n with ⟨k, e1⟩ | ⟨x, q, m⟩
  · rw [e] at this; exact this
  · simp only
    split
    · exact pz_err (by first | exact hM _ | exact ht | omega)
    have h2 := h (q + 1) (o + 1) m
    rcases e2 : ex (q + 1) (o + 1) m with ⟨k, e1⟩ | ⟨y, r, i⟩
    · rw [e2] at h2; exact h2
    · simp only
      split
      · exact pz_err (by first | exact hM _ | exact ht | omega)
      · exact pz_mk' (pz_mk (hM _))
theorem signedP_pz {M : Nat} {L : List Tok} (hM : ∀ i, (tk L i).pos ≤ M) {on : Nat → Nat → Nat → PR} (h : ∀ p o n, PZr M (on p o n)) (op : Int) (p o n : Nat) : PZr M (signedP L on op p o n) := by
  unfold signedP
  split
  · exact pz_err (by first | exact hM _ | exact ht | omega)
  have := h (p + 1) (o + 1) n
  rcases e : on (p + 1) (o + 1) n with ⟨k, e1⟩ | ⟨x, q, m⟩
  · rw [e] at this; exact this
  · exact pz_mk' (pz_mk (hM _))
theorem oneP_pz {M : Nat} {L : List Tok} (hM : ∀ i, (tk L i).pos ≤ M) {ex on : Nat → Nat → Nat → PR} (h : ∀ p o n, PZr M (ex p o n)) (h' : ∀ p o n, PZr M (on p o n)) (p o n : Nat) : PZr M (oneP L ex on p o n) := by
  unfold oneP
  split
  · exact pz_mk' (pz_mk (hM _))
  split
  · exact pz_mk' (pz_mk (hM _))
  split
  · exact withinP_pz hM h _ _ _ _ _
  split
  · exact memP_pz hM h _ _ _
  split
  · exact pairP_pz hM h _ _ _ _
  split
  · exact pairP_pz hM h _ _ _ _
  split
  · exact signedP_pz hM h' _ _ _ _
  split
  · exact signedP_pz hM h' _ _ _ _
  split
  · exact signedP_pz hM h' _ _ _ _
  · exact pz_err (by first | exact hM _ | exact ht | omega)
theorem exprF_pz {M : Nat} (L : List Tok) (hM : ∀ i, (tk L i).pos ≤ M) : ∀ f md p o n, PZr M (exprF L f md p o n) := by
  intro f
  induction f with
  | zero => intro md p o n; exact pz_err (by first | exact hM _ | exact ht | omega)
  | succ f ih =>
    intro md p o n
    rcases md with _ | ⟨least, _ | y⟩
    · exact oneP_pz hM (ih _) (ih _) p o n
    · unfold exprF
      have := ih none p o n
      rcases e : exprF L f none p o n with ⟨k, e1⟩ | ⟨x, q, m⟩
      · rw [e] at this; exact this
      · exact ih _ _ _ _
    · unfold exprF
      split
      · exact pz_ok _
      · have := ih (some ((rankOf (tk L p).text).1 + 1, none)) (p + 1) o n
        rcases e : exprF L f (some ((rankOf (tk L p).text).1 + 1, none)) (p + 1) o n with ⟨k, e1⟩ | ⟨x, q, m⟩
        · rw [e] at this; exact this
        · simp only
          have h2 := pz_mk (M := M) (hM p) (t := tk L p) (k := 5) (m := 0) (s := ⟨#[]⟩) (op := (rankOf (tk L p).text).2) (l := [y, x]) (n := m)
          rcases e2 : mkE (tk L p) 5 0 ⟨#[]⟩ (rankOf (tk L p).text).2 [y, x] m with ⟨k, e1⟩ | ⟨z, i⟩
          · rw [e2] at h2; exact pz_of h2
          · exact ih _ _ _ _
theorem ex1_pz {M : Nat} (L : List Tok) (hM : ∀ i, (tk L i).pos ≤ M) (p o n : Nat) : PZr M (ex1 L p o n) := exprF_pz L hM _ _ _ _ _
theorem lastP_pz {M : Nat} (L : List Tok) (hM : ∀ i, (tk L i).pos ≤ M) (p n : Nat) : PZr M (lastP L p n) := by
  unfold lastP
  have h := ex1_pz L hM p 0 n
  rcases e : ex1 L p 0 n with ⟨k, e1⟩ | ⟨x, q, m⟩
  · rw [e] at h; exact h
  · simp only
    split
    · exact pz_err (by first | exact hM _ | exact ht | omega)
    · exact pz_ok _
theorem valueP_pz {M : Nat} (L : List Tok) (hM : ∀ i, (tk L i).pos ≤ M) (p n : Nat) : PZr M (valueP L p n) := by
  unfold valueP
  split
  · exact pz_err (by first | exact hM _ | exact ht | omega)
  · exact lastP_pz L hM _ _
theorem withinT_pz {M : Nat} (L : List Tok) (hM : ∀ i, (tk L i).pos ≤ M) (a b : List UInt8) (p n : Nat) : PZr M (withinT L a b p n) := withinP_pz hM (ex1_pz L hM) _ _ _ _ _
theorem mkS_pz {M : Nat} (t : Tok) (ht : t.pos ≤ M) (x : PT) (q n : Nat) : PZr M (mkS t x q n) := by
  unfold mkS
  split
  · exact pz_err (by first | exact hM _ | exact ht | omega)
  · exact pz_ok _
theorem ofPart_pz {M : Nat} {t : Tok} (ht : t.pos ≤ M) {k : Int} {s : ByteArray} {c : Int} {r : PR} (h : PZr M r) : PZr M (ofPart t k s c r) := by
  unfold ofPart
  rcases r with ⟨k', e⟩ | ⟨x, q, m⟩
  · exact pz_of h
  · exact mkS_pz _ ht _ _ _
theorem blockP_pz {M : Nat} {L : List Tok} (hM : ∀ i, (tk L i).pos ≤ M) {row : Nat → Nat → Nat → TR} (h : ∀ b p n, PZr M (row b p n)) (b p n : Nat) : PZr M (blockP L row b p n) := by
  unfold blockP
  split
  · exact pz_err (by first | exact hM _ | exact ht | omega)
  split
  · exact pz_err (by first | exact hM _ | exact ht | omega)
  have := h (b + 1) (p + 1) n
  rcases e : row (b + 1) (p + 1) n with ⟨k, e1⟩ | ⟨y, r, i⟩
  · rw [e] at this; exact this
  · exact pz_ok _
theorem otherP_pz {M : Nat} {L : List Tok} (hM : ∀ i, (tk L i).pos ≤ M) {row ch : Nat → Nat → Nat → TR} (h : ∀ b p n, PZr M (row b p n)) (h' : ∀ b p n, PZr M (ch b p n)) (b p n : Nat) : PZr M (otherP L row ch b p n) := by
  unfold otherP
  split
  · exact blockP_pz hM h _ _ _
  split
  · exact pz_err (by first | exact hM _ | exact ht | omega)
  · exact h' _ _ _
theorem chooseP_pz {M : Nat} {L : List Tok} (hM : ∀ i, (tk L i).pos ≤ M) {row ch : Nat → Nat → Nat → TR} (h : ∀ b p n, PZr M (row b p n)) (h' : ∀ b p n, PZr M (ch b p n)) (b p n : Nat) : PZr M (chooseP L row ch b p n) := by
  unfold chooseP
  have h1 := withinT_pz L hM [40] [41] (p + 1) n
  rcases e : withinT L [40] [41] (p + 1) n with ⟨k, e1⟩ | ⟨x, q, m⟩
  · rw [e] at h1; exact pz_of h1
  · simp only
    have h2 := blockP_pz (L := L) hM h b q m
    rcases e2 : blockP L row b q m with ⟨k, e1⟩ | ⟨l, r, i⟩
    · rw [e2] at h2; exact h2
    · simp only
      split
      · have h3 := otherP_pz (L := L) hM h h' b (r + 1) i
        rcases e3 : otherP L row ch b (r + 1) i with ⟨k, e1⟩ | ⟨l2, r2, i2⟩
        · rw [e3] at h3; exact h3
        · exact mkS_pz _ (hM _) _ _ _
      · exact mkS_pz _ (hM _) _ _ _
theorem repeatP_pz {M : Nat} {L : List Tok} (hM : ∀ i, (tk L i).pos ≤ M) {row : Nat → Nat → Nat → TR} (h : ∀ b p n, PZr M (row b p n)) (b p n : Nat) : PZr M (repeatP L row b p n) := by
  unfold repeatP
  have h1 := withinT_pz L hM [40] [41] (p + 1) n
  rcases e : withinT L [40] [41] (p + 1) n with ⟨k, e1⟩ | ⟨x, q, m⟩
  · rw [e] at h1; exact pz_of h1
  · simp only
    have h2 := blockP_pz (L := L) hM h b q m
    rcases e2 : blockP L row b q m with ⟨k, e1⟩ | ⟨l, r, i⟩
    · rw [e2] at h2; exact h2
    · exact mkS_pz _ (hM _) _ _ _
theorem stmtP_pz {M : Nat} {L : List Tok} (hM : ∀ i, (tk L i).pos ≤ M) {row ch : Nat → Nat → Nat → TR} (h : ∀ b p n, PZr M (row b p n)) (h' : ∀ b p n, PZr M (ch b p n)) (b p n : Nat) : PZr M (stmtP L row ch b p n) := by
  unfold stmtP
  split
  · exact ofPart_pz (hM _) (valueP_pz L hM _ _)
  split
  · unfold declareP
    split
    · exact pz_err (by first | exact hM _ | exact ht | omega)
    · exact ofPart_pz (hM _) (valueP_pz L hM _ _)
  split
  · unfold storeP
    have h1 := withinT_pz L hM [91] [93] (p + 1) n
    rcases e : withinT L [91] [93] (p + 1) n with ⟨k, e1⟩ | ⟨x, q, m⟩
    · rw [e] at h1; exact pz_of h1
    · simp only
      have h2 := valueP_pz L hM q m
      rcases e2 : valueP L q m with ⟨k, e1⟩ | ⟨y, r, i⟩
      · rw [e2] at h2; exact pz_of h2
      · exact mkS_pz _ (hM _) _ _ _
  split
  · exact ofPart_pz (hM _) (lastP_pz L hM _ _)
  split
  · exact ofPart_pz (hM _) (lastP_pz L hM _ _)
  split
  · unfold intoP
    split
    · exact pz_err (by first | exact hM _ | exact ht | omega)
    split
    · exact pz_err (by first | exact hM _ | exact ht | omega)
    · exact ofPart_pz (hM _) (lastP_pz L hM _ _)
  split
  · unfold stopP
    split
    · exact pz_err (by first | exact hM _ | exact ht | omega)
    · exact mkS_pz _ (hM _) _ _ _
  split
  · exact chooseP_pz hM h h' _ _ _
  split
  · exact repeatP_pz hM h _ _ _
  · exact pz_err (by first | exact hM _ | exact ht | omega)
theorem stmtF_pz {M : Nat} (L : List Tok) (hM : ∀ i, (tk L i).pos ≤ M) : ∀ f, (∀ b p n, PZr M (stmtF L f 0 b p n)) ∧ (∀ b p n, PZr M (stmtF L f 1 b p n)) ∧ (∀ b p n, PZr M (stmtF L f 2 b p n)) := by
  intro f
  induction f with
  | zero => exact ⟨fun _ _ _ => pz_err (by first | exact hM _ | exact ht | omega), fun _ _ _ => pz_err (by first | exact hM _ | exact ht | omega), fun _ _ _ => pz_err (by first | exact hM _ | exact ht | omega)⟩
  | succ f ih =>
    obtain ⟨i0, i1, i2⟩ := ih
    refine ⟨stmtP_pz hM i1 i2, fun b p n => ?_, chooseP_pz hM i1 i2⟩
    rw [stmtF_row]
    split
    · exact pz_ok _
    · have h0 := i0 b p n
      rcases e : stmtF L f 0 b p n with ⟨k, e1⟩ | ⟨x, q, m⟩
      · rw [e] at h0; exact h0
      · simp only
        have h1 := i1 b q m
        rcases e2 : stmtF L f 1 b q m with ⟨k, e1⟩ | ⟨l, r, i⟩
        · rw [e2] at h1; exact h1
        · exact pz_ok _
theorem textF_pz {M : Nat} (L : List Tok) (hM : ∀ i, (tk L i).pos ≤ M) : ∀ f p n, PZr M (textF L f p n) := by
  intro f
  induction f with
  | zero => intro p n; exact pz_err (by first | exact hM _ | exact ht | omega)
  | succ f ih =>
    intro p n
    unfold textF
    split
    · exact pz_ok _
    · have h0 := (stmtF_pz L hM (2 * L.length + 2)).1 0 p n
      rcases e : stmtT L 0 p n with ⟨k, e1⟩ | ⟨x, q, m⟩
      · rw [show stmtF L (2 * L.length + 2) 0 0 p n = _ from e] at h0; exact h0
      · simp only
        have h1 := ih q m
        rcases e2 : textF L f q m with ⟨k, e1⟩ | ⟨l, r, i⟩
        · rw [e2] at h1; exact h1
        · exact pz_ok _

theorem tokOf_bad (b : UInt8) (T : List UInt8) (o : Nat) (e : Int) (h : tokOf (b :: T) = .inr (o, e)) : o ≤ (b :: T).length := by
  change (if isD b = true then numTok (b :: T) else if isL b = true then wordTok (b :: T) else signTok (b :: T)) = _ at h
  split at h
  · unfold numTok at h
    simp only at h
    split at h
    · cases h; omega
    · split at h
      · cases h; exact ga_le _ _ _
      · cases h
  · split at h
    · unfold wordTok at h
      simp only at h
      split at h
      · cases h
      · split at h
        · cases h; omega
        · cases h
    · unfold signTok at h
      simp only at h
      split at h
      · cases h; omega
      · cases h
theorem cutG_pos : ∀ (f p : Nat) (R : List UInt8), (∀ k e, cutG f p R = .inr (k, e) → k ≤ p + R.length) ∧ (∀ l, cutG f p R = .inl l → ∀ t ∈ l, t.pos ≤ p + R.length) := by
  intro f
  induction f with
  | zero => intro p R; exact ⟨(fun k e h => by cases h; omega), (fun l h => by cases h)⟩
  | succ f ih =>
    intro p R
    cases R with
    | nil => exact ⟨(fun k e h => by cases h), (fun l h t ht => by cases h; simp at ht; subst ht; exact Nat.le_refl _)⟩
    | cons b T =>
      unfold cutG
      rcases ht : tokOf (b :: T) with ⟨kd, m, n⟩ | ⟨o, er⟩
      · simp only
        obtain ⟨n1, n2, _⟩ := tokOf_tok ht
        obtain ⟨i1, i2⟩ := ih (p + n + gapLen ((b :: T).drop n)) (((b :: T).drop n).drop (gapLen ((b :: T).drop n)))
        have hgl := gapLen_le ((b :: T).drop n)
        have hlen : p + n + gapLen ((b :: T).drop n) + (((b :: T).drop n).drop (gapLen ((b :: T).drop n))).length = p + (b :: T).length := by
          rw [List.length_drop, List.length_drop] at *
          omega
        rcases hc : cutG f (p + n + gapLen ((b :: T).drop n)) (((b :: T).drop n).drop (gapLen ((b :: T).drop n))) with l' | ⟨k', e'⟩
        · refine ⟨fun k e h => (by cases h), fun l h t htm => ?_⟩
          cases h
          rcases List.mem_cons.1 htm with rfl | h2
          · show p ≤ _; omega
          · have := i2 _ hc t h2; omega
        · refine ⟨fun k e h => ?_, fun l h => (by cases h)⟩
          cases h
          have := i1 _ _ hc; omega
      · refine ⟨fun k e h => ?_, fun l h => (by cases h)⟩
        cases h
        have := tokOf_bad b T o er ht
        omega
theorem parseT_pos (s : List UInt8) : PZr s.length (parseT s) := by
  unfold parseT
  have hgl := gapLen_le s
  rcases e : cut s with L | ⟨k, er⟩
  · simp only
    have hM : ∀ i, (tk L i).pos ≤ s.length := by
      intro i
      rcases Nat.lt_or_ge i L.length with h1 | h1
      · unfold cut at e
        split at e
        · cases e
        · have := (cutG_pos _ _ _).2 _ e (tk L i) (by rw [← tk_eq h1]; exact List.getElem_mem h1)
          rw [List.length_drop] at this
          omega
      · rw [tk_out h1]; exact Nat.zero_le _
    have h := textF_pz L hM (L.length + 1) 0 0
    rcases e2 : textF L (L.length + 1) 0 0 with ⟨k, e1⟩ | ⟨l, q, m⟩
    · rw [e2] at h; exact pz_of h
    · exact pz_ok _
  · refine pz_err ?_
    unfold cut at e
    split at e
    · cases e; exact Nat.zero_le _
    · have := (cutG_pos _ _ _).1 _ _ e
      rw [List.length_drop] at this
      omega
end Go.Proofs.YtnofibjchhcmeabDoor
namespace Go.Proofs.YtnofibjchhcmeabDoor
open Go.RowKit Go.Maps
set_option linter.unusedVariables false

set_option maxRecDepth 100000 in
set_option maxHeartbeats 8000000 in
theorem keeps_walk (s : ByteArray) (w : World) (hm : s.size ≤ maxLen) (hsg : ∃ A t fr, SA A ∧ w.heap[0]? = some (.cells A t fr)) (hT : TB w) : Calls Tryd.prog 5 #[.string s] w fun e w' => e = .returned (.bool true) ∧ Below w.heap.size w w' := by
  have hlen : s.data.toList.length = s.size := by simp
  have HPS : Hid (Calls Tryd.prog 19 #[.string s] w (PPost w (parseT s.data.toList))) := tparse_any s w hm hsg
  have HAL : Hid (∀ W, Below w.heap.size w W → Calls Tryd.prog 11 #[] W fun e w' => e = .returned (.bool true) ∧ Below W.heap.size W w') := fun W hW => alive_any W (sg_below hsg hW)
  have HNZ : Hid (NZ (parseT s.data.toList)) := parseT_nz _
  have HPZ : Hid (PZr s.size (parseT s.data.toList)) := by have := parseT_pos s.data.toList; rw [hlen] at this; exact this
  have HGD : Hid (∀ l, parseT s.data.toList = .ok l → allS (srow l) 0 ∧ tcnts l ≤ 600) := fun l h => ⟨parseT_good h, parseT_cnt h⟩
  have HT : Hid (TB w) := hT
  unfold maxLen at hm
  generalize parseT s.data.toList = rs at HPS HNZ HPZ HGD
  clear hlen hsg hT
  go_enter Tryd.func5, Tryd.ntmps5
  go_wp2_with fail
  refine HPS.out.mono ?_
  intro e w1 hp
  rcases rs with ⟨k, er⟩ | l
  · obtain ⟨rfl, hb1⟩ := hp
    have e1 : (er != 0) = true := by have := HNZ.out k er rfl; simpa using this
    have hk : k ≤ s.size := HPZ.out k er rfl
    have e5 : (decide (k ≤ s.size)) = true := by simpa using hk
    have e2 : decide ((0 : Int) ≤ (k : Int)) = true := by simp
    have e3 : decide ((k : Int) ≤ (s.size : Int)) = true := by simp; omega
    have B1 : Hid (Below w.heap.size w w1) := hb1
    clear hb1
    go_wp2_with fail
    refine (HAL.out _ B1.out).mono ?_
    rintro e w4 ⟨rfl, hb4⟩
    have B4 : Hid (Below w.heap.size w w4) := B1.out.trans (hb4.mono B1.out.size)
    clear hb4
    go_wp2_with fail
    go_ret
    exact ⟨rfl, B4.out⟩
  · obtain ⟨v1, v2, v3, rfl, hss, hb1⟩ := hp
    obtain ⟨hg, hc⟩ := HGD.out l rfl
    have hall : SSx w1 (.slice v1 v2 v3) (srow l) := hss.mono fun _ _ => trivial
    have hsc : scnt (srow l) = tcnts l := scnt_row l
    have B1 : Hid (Below w.heap.size w w1) := hb1
    have HRT : Hid (Calls Tryd.prog 13 #[.slice v1 v2 v3] w1 (QB w1 true)) := by
      have := right_any (srow l) (.slice v1 v2 v3) w1 (SSz_of _ 0 hg) hall (HT.out.below hb1)
      rw [rtS_some (srow l) 0 0 hg (by omega)] at this
      exact this
    have HND : Hid (∀ W, Below w1.heap.size w1 W → Calls Tryd.prog 15 #[.slice v1 v2 v3] W (NQ W (tcnts l))) := fun W hW => by
      have := nodes_any (scnt (srow l)) (srow l) (fun _ => True) (.slice v1 v2 v3) W (Nat.le_refl _) (by omega) (hall.below hW)
      rw [hsc] at this
      exact this
    have e4 : decide ((tcnts l : Int) ≤ 600) = true := by simp; omega
    clear hss hall hg hb1 hsc
    go_wp2_with fail
    refine HRT.out.mono ?_
    rintro e w2 ⟨rfl, hb2⟩
    have B12 : Hid (Below w1.heap.size w1 w2) := hb2
    clear hb2
    go_wp2_with fail
    refine (HND.out _ B12.out).mono ?_
    rintro e w3 ⟨rfl, hb3⟩
    have B3 : Hid (Below w.heap.size w w3) := (B1.out.trans (B12.out.mono B1.out.size)).trans (hb3.mono (Nat.le_trans B1.out.size B12.out.size))
    clear hb3
    go_wp2_with fail
    refine (HAL.out _ B3.out).mono ?_
    rintro e w4 ⟨rfl, hb4⟩
    have B4 : Hid (Below w.heap.size w w4) := B3.out.trans (hb4.mono B3.out.size)
    clear hb4
    go_wp2_with fail
    go_ret
    exact ⟨rfl, B4.out⟩
end Go.Proofs.YtnofibjchhcmeabDoor
