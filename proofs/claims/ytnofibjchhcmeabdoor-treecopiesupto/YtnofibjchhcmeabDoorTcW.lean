/- TreeCopies, its walk. -/
import Derived.Test.YtnofibjchhcmeabDoorTcP
import Derived.Test.YtnofibjchhcmeabDoorSr
import Derived.Test.YtnofibjchhcmeabDoorAl
namespace Go.Proofs.YtnofibjchhcmeabDoor
open Go.RowKit Go.Maps
set_option linter.unusedVariables false
set_option linter.unusedSimpArgs false

theorem SSlP.mono0 {w : World} {ok : Nat → Prop} {v : Value} {l : SL} (h : SSlP w ok v l) : SSx w v l := h.mono fun _ _ => trivial
theorem sg_keep {w w' : World} (h : ∃ A t fr, SA A ∧ w.heap[0]? = some (.cells A t fr)) (hb : w'.heap[0]? = w.heap[0]?) : ∃ A t fr, SA A ∧ w'.heap[0]? = some (.cells A t fr) := by
  obtain ⟨A, t, fr, h1, h2⟩ := h
  exact ⟨A, t, fr, h1, hb.trans h2⟩

set_option maxRecDepth 100000 in
set_option maxHeartbeats 16000000 in
theorem copies_walk (l : SL) (ad : Option Addr) (cap : Nat) (w : World) (hE : SSx w (.slice ad (slen l) cap) l) (hl : scnt l ≤ 1048576) (hsg : ∃ A t fr, SA A ∧ w.heap[0]? = some (.cells A t fr)) :
    Calls Tryd.prog 7 #[.slice ad (slen l) cap] w fun e w' => e = .returned (.bool true) ∧ Below w.heap.size w w' := by
  have HSG : Hid (∃ A t fr, SA A ∧ w.heap[0]? = some (.cells A t fr)) := hsg
  have HE : Hid (SSx w (.slice ad (slen l) cap) l) := hE
  have HGR := great_any l _ w hE (by omega)
  have HL : Hid (scnt l ≤ 1048576) := hl
  have h0 : 0 < w.heap.size := by obtain ⟨A, t, fr, h1, h2⟩ := hsg; exact (Array.getElem?_eq_some_iff.1 h2).1
  clear hsg hE hl
  go_enter Tryd.func7, Tryd.ntmps7
  go_wp2_with fail
  refine HGR.mono ?_
  rintro e w1 ⟨rfl, b1⟩
  have B1 : Hid (Below w.heap.size w w1) := b1
  clear b1 HGR
  by_cases hg : (5000 : Int) < (scnt l : Int)
  · rw [decide_eq_true hg]
    go_wp2
    first | exact ⟨rfl, B1.out⟩ | (go_ret; exact ⟨rfl, B1.out⟩)
  rw [decide_eq_false hg]
  have hs : scnt l ≤ 5000 := by omega
  have E1 : Hid (SSx w1 (.slice ad (slen l) cap) l) := HE.out.below B1.out
  have H21 := refCopy_any (scnt l) l (fun _ => True) _ w1 (Nat.le_refl _) (by omega) E1.out
  go_wp2_with fail
  refine H21.mono ?_
  rintro e w2 ⟨s1, s2, s3, rfl, hw, b2⟩
  have B2 : Hid (Below w1.heap.size w1 w2) := b2
  have HW : Hid (CTv w2 w1.heap.size l (.slice s1 s2 s3)) := hw
  have E2 : Hid (SSx w2 (.slice ad (slen l) cap) l) := E1.out.below b2
  have H20 := copy_any (scnt l) l (fun _ => True) _ w2 (Nat.le_refl _) (by omega) E2.out
  clear b2 hw H21
  go_wp2_with fail
  refine H20.mono ?_
  rintro e w3 ⟨c1, c2, c3, rfl, hc, b3⟩
  have B3 : Hid (Below w2.heap.size w2 w3) := b3
  have HCV : Hid (CTv w3 w2.heap.size l (.slice c1 c2 c3)) := hc
  have E3 : Hid (SSx w3 (.slice ad (slen l) cap) l) := E2.out.below b3
  have W3 : Hid (SSx w3 (.slice s1 s2 s3) l) := HW.out.ssl.mono0.below b3
  have H18 := refSame_true (scnt l) l _ _ w3 (Nat.le_refl _) hc.ssl.mono0 W3.out
  clear b3 hc H20
  go_wp2_with fail
  refine H18.mono ?_
  rintro e w4 ⟨rfl, b4⟩
  have B4 : Hid (Below w3.heap.size w3 w4) := b4
  have E4 : Hid (SSx w4 (.slice ad (slen l) cap) l) := E3.out.below b4
  have H20 := copy_any (scnt l) l (fun _ => True) _ w4 (Nat.le_refl _) (by omega) E4.out
  clear b4 H18
  go_wp2_with fail
  refine H20.mono ?_
  rintro e w5 ⟨a1, a2, a3, rfl, ha, b5⟩
  have B5 : Hid (Below w4.heap.size w4 w5) := b5
  have HAV : Hid (CTv w5 w4.heap.size l (.slice a1 a2 a3)) := ha
  have hsz : w.heap.size ≤ w1.heap.size ∧ w1.heap.size ≤ w2.heap.size ∧ w2.heap.size ≤ w3.heap.size ∧ w3.heap.size ≤ w4.heap.size ∧ w4.heap.size ≤ w5.heap.size := ⟨B1.out.size, B2.out.size, B3.out.size, B4.out.size, B5.out.size⟩
  have HSZ : Hid (w.heap.size ≤ w1.heap.size ∧ w1.heap.size ≤ w2.heap.size ∧ w2.heap.size ≤ w3.heap.size ∧ w3.heap.size ≤ w4.heap.size ∧ w4.heap.size ≤ w5.heap.size) := hsz
  obtain ⟨b, cc, hcv, hcb, HC0⟩ : ∃ b cc, Value.slice c1 c2 c3 = .slice c1 (slen l) cc ∧ (0 < slen l → c1 = some ⟨b, 0, none⟩) ∧ Hid (Cc w5 w2.heap.size w3.heap.size b (slen l) w5 ∧ cc ≤ maxLen ∧ slen l ≤ cc) := by
    obtain ⟨ys, h1, h2, h3⟩ := HCV.out
    have hlen : ys.length = slen l := by have := congrArg List.length h1; rw [List.length_map, toPT_len] at this; exact this
    have hk : ∀ j, j < w3.heap.size → w5.heap[j]? = w3.heap[j]? := fun j hj => (B5.out.block j (by omega)).trans (B4.out.block j hj)
    have ho := h2
    obtain ⟨g1, ⟨g2, g3⟩ | ⟨g, cap', cur, e1, e2, e3, e4, e5, e6, e7⟩⟩ := h2
    · have hn0 : slen l = 0 := by omega
      cases g2
      refine ⟨0, 0, by rw [hn0], fun h => by omega, ?_, Nat.zero_le _, by omega⟩
      rw [hn0] at hlen ⊢
      exact Cc.new ho hlen (fun h => by omega) h3 (by omega) (by omega) hk
    · cases e1
      rw [hlen] at ho h3 e4 ⊢
      exact ⟨g, c3, rfl, fun _ => rfl, Cc.new ho hlen (fun _ => rfl) h3 (by omega) (by omega) hk, e5, e4⟩
  cases hcv
  have hcm : c3 ≤ 2 ^ 63 - 1 ∧ slen l ≤ c3 := by have := HC0.out.2; unfold maxLen at this; exact this
  replace HC0 : Hid (Cc w5 w2.heap.size w3.heap.size b (slen l) w5) := HC0.out.1
  have HSL : Hid (∀ W, Cc w5 w2.heap.size w3.heap.size b (slen l) W → SSx W (.slice a1 a2 a3) l ∧ SSx W (.slice s1 s2 s3) l ∧ SSx W (.slice ad (slen l) cap) l ∧ Below w.heap.size w W) := by
    intro W hW
    have hz := HSZ.out
    refine ⟨(HAV.out.ssl.keep fun j hj _ => hW.rest j (Or.inr (by omega))).mono0, ?_, ?_, ?_⟩
    · have h2 : SSlP w2 (fun j => j < w2.heap.size) (.slice s1 s2 s3) l := HW.out.ssl.mono' fun j _ hj => hj
      exact (h2.keep fun j hj _ => (hW.rest j (Or.inl hj)).trans ((B5.out.block j (by omega)).trans ((B4.out.block j (by omega)).trans (B3.out.block j hj)))).mono0
    · have h2 : SSlP w (fun j => j < w.heap.size) (.slice ad (slen l) cap) l := HE.out.mono' fun j _ hj => hj
      exact (h2.keep fun j hj _ => (hW.rest j (Or.inl (by omega))).trans ((B5.out.block j (by omega)).trans ((B4.out.block j (by omega)).trans ((B3.out.block j (by omega)).trans ((B2.out.block j (by omega)).trans (B1.out.block j hj)))))).mono0
    · exact ⟨hW.os.trans (B5.out.os.trans (B4.out.os.trans (B3.out.os.trans (B2.out.os.trans B1.out.os)))), hW.tape.trans (B5.out.tape.trans (B4.out.tape.trans (B3.out.tape.trans (B2.out.tape.trans B1.out.tape)))), hW.out.trans (B5.out.output.trans (B4.out.output.trans (B3.out.output.trans (B2.out.output.trans B1.out.output)))), by rw [hW.sz]; omega, fun j hj => (hW.rest j (Or.inl (by omega))).trans ((B5.out.block j (by omega)).trans ((B4.out.block j (by omega)).trans ((B3.out.block j (by omega)).trans ((B2.out.block j (by omega)).trans (B1.out.block j hj)))))⟩
  clear b5 ha H20 HCV HAV HW E1 E2 E3 E4 W3 B1 B2 B3 B4 B5 HE hsz HSZ
  generalize w2.heap.size = lo at *
  generalize w3.heap.size = hi at *
  have hn9 : slen l ≤ 1000000 := Nat.le_trans (slen_le l) (by omega)
  go_wp2
  go_loopw [6] (fun u6 wr => ∃ i : Nat, i ≤ slen l ∧ u6 = .int .i64 (i : Int) ∧ Hid (Cc w5 lo hi b (slen l) wr)) (fun u6 _ => slen l - (intOf u6).toNat)
  case atStart => exact ⟨0, Nat.zero_le _, rfl, HC0⟩
  case round =>
    obtain ⟨i, hi0, rfl, HC⟩ := hrel
    clear HC0
    by_cases hil : i < slen l
    case neg =>
      have hil' : ¬ ((i : Int) < (slen l : Int)) := by omega
      obtain ⟨q1, q2, q3, q4⟩ := HSL.out wr HC.out
      have H1 := refSame_true (scnt l) l _ _ wr (Nat.le_refl _) q1 q2
      have Q2 : Hid (SSx wr (.slice s1 s2 s3) l ∧ SSx wr (.slice ad (slen l) cap) l ∧ Below w.heap.size w wr) := ⟨q2, q3, q4⟩
      clear q1 q2 q3 q4
      go_wp2_with fail
      refine H1.mono ?_
      rintro e w6 ⟨rfl, b6⟩
      have B6 : Hid (Below wr.heap.size wr w6) := b6
      have H2 := refSame_true (scnt l) l _ _ w6 (Nat.le_refl _) (Q2.out.2.1.below b6) (Q2.out.1.below b6)
      clear H1 b6
      go_wp2_with fail
      refine H2.mono ?_
      rintro e w7 ⟨rfl, b7⟩
      have B7 : Hid (Below w.heap.size w w7) := (Q2.out.2.2.trans (B6.out.mono Q2.out.2.2.size)).trans (b7.mono (Nat.le_trans Q2.out.2.2.size B6.out.size))
      clear H2 b7
      go_wp2_with fail
      refine (alive_any w7 (sg_below HSG.out B7.out)).mono ?_
      rintro e w8 ⟨rfl, b8⟩
      have B8 : Hid (Below w.heap.size w w8) := B7.out.trans (b8.mono B7.out.size)
      clear b8
      go_wp2
      first | exact ⟨rfl, B8.out⟩ | (go_ret; exact ⟨rfl, B8.out⟩)
    have hn : 0 < slen l := by omega
    have hil' : (i : Int) < (slen l : Int) := by omega
    have e0 := hcb hn
    subst e0
    have HBB : Hid (lo ≤ b ∧ b < hi) := HC.out.bb hn
    obtain ⟨x0, hx0, y0⟩ : ∃ x0, wr.cell? ⟨b, i * 6, none⟩ = some x0 ∧ wr.frozen? ⟨b, i * 6, none⟩ = false := by
      obtain ⟨cur, t, g1, g2, _⟩ := HC.out.blk hn
      obtain ⟨v, hv⟩ := cell_there g1 (q := i * 6) (by omega)
      exact ⟨v, hv, frozen_of_row wr b (i * 6) _ _ g1⟩
    have HCA : Hid (Cc w5 lo hi b (slen l) (wr.setCell ⟨b, i * 6, none⟩ (.int .i64 77))) := HC.out.set hn HBB.out (by obtain ⟨cur, t, g1, _⟩ := HC.out.blk hn; exact ⟨cur, t, g1⟩) (fun _ => ⟨i, rfl⟩) _
    go_upto_region 12 with fail
    generalize wr.setCell ⟨b, i * 6, none⟩ (.int .i64 77) = wA at HCA ⊢
    clear hx0 y0 HC
    obtain ⟨_, _, _, _, hcell⟩ := HCA.out.blk hn
    obtain ⟨_, _, _, x3, x4, x5, ⟨d1, n1, p1, rfl, m1, k1, t1⟩, _, _⟩ := hcell i hil
    have T1 : Hid (0 < n1 → ∃ g, d1 = some ⟨g, 0, none⟩ ∧ lo ≤ g ∧ g < hi ∧ g ≠ b ∧ ∃ cur t, wA.heap[g]? = some (.cells cur t) ∧ 5 ≤ cur.size) := t1
    unfold maxLen at m1
    clear t1 hcell
    go_upto_if 35 with fail
    go_cut [] from 19 to 70 (fun wx => Hid (Cc w5 lo hi b (slen l) wx))
    case first =>
      by_cases hn1 : 0 < n1
      · obtain ⟨g, rfl, g1, g2, g3, cur, t, g4, g5⟩ := T1.out hn1
        obtain ⟨v0, hv0⟩ := cell_there g4 (q := 0) (by omega)
        have hf0 := frozen_of_row wA g 0 _ _ g4
        have HF : Hid (Cc w5 lo hi b (slen l) (wA.setCell ⟨g, 0, none⟩ (.int .i64 77))) := HCA.out.set hn ⟨g1, g2⟩ ⟨cur, t, g4⟩ (fun e => absurd e g3) _
        have hn1' : (0 : Int) < (n1 : Int) := by omega
        go_wp2
        go_meet
        exact HF
      · have hn1' : ¬ (0 : Int) < (n1 : Int) := by omega
        go_wp2
        go_meet
        exact HCA
    case rest =>
    clear x3 x4 x5 T1 HCA
    have HCB : Hid (Cc w5 lo hi b (slen l) wc) := hcut
    clear hcut
    generalize wc = wB at HCB ⊢
    obtain ⟨_, _, _, _, hcell⟩ := HCB.out.blk hn
    obtain ⟨_, _, _, x3, x4, x5, _, ⟨d1, n1, p1, rfl, m1, k1, t1⟩, _⟩ := hcell i hil
    have T1 : Hid (0 < n1 → ∃ g, d1 = some ⟨g, 0, none⟩ ∧ lo ≤ g ∧ g < hi ∧ g ≠ b ∧ ∃ cur t, wB.heap[g]? = some (.cells cur t) ∧ 6 ≤ cur.size) := t1
    unfold maxLen at m1
    clear t1 hcell
    go_upto_if 49 with fail
    go_cut [] from 19 to 70 (fun wx => Hid (Cc w5 lo hi b (slen l) wx))
    case first =>
      by_cases hn1 : 0 < n1
      · obtain ⟨g, rfl, g1, g2, g3, cur, t, g4, g5⟩ := T1.out hn1
        obtain ⟨v0, hv0⟩ := cell_there g4 (q := 1) (by omega)
        have hf0 := frozen_of_row wB g 1 _ _ g4
        have HF : Hid (Cc w5 lo hi b (slen l) (wB.setCell ⟨g, 1, none⟩ (.string ⟨#[122, 122]⟩))) := HCB.out.set hn ⟨g1, g2⟩ ⟨cur, t, g4⟩ (fun e => absurd e g3) _
        have hn1' : (0 : Int) < (n1 : Int) := by omega
        go_wp2
        go_meet
        exact HF
      · have hn1' : ¬ (0 : Int) < (n1 : Int) := by omega
        go_wp2
        go_meet
        exact HCB
    case rest =>
    clear x3 x4 x5 T1 HCB
    have HCC : Hid (Cc w5 lo hi b (slen l) wc) := hcut
    clear hcut
    generalize wc = wD at HCC ⊢
    obtain ⟨_, _, _, _, hcell⟩ := HCC.out.blk hn
    obtain ⟨_, _, _, x3, x4, x5, _, _, ⟨d1, n1, p1, rfl, m1, k1, t1⟩⟩ := hcell i hil
    have T1 : Hid (0 < n1 → ∃ g, d1 = some ⟨g, 0, none⟩ ∧ lo ≤ g ∧ g < hi ∧ g ≠ b ∧ ∃ cur t, wD.heap[g]? = some (.cells cur t) ∧ 6 ≤ cur.size) := t1
    unfold maxLen at m1
    clear t1 hcell
    go_upto_if 63 with fail
    by_cases hn1 : 0 < n1
    · obtain ⟨g, rfl, g1, g2, g3, cur, t, g4, g5⟩ := T1.out hn1
      obtain ⟨v0, hv0⟩ := cell_there g4 (q := 2) (by omega)
      have hf0 := frozen_of_row wD g 2 _ _ g4
      have HF : Hid (Cc w5 lo hi b (slen l) (wD.setCell ⟨g, 2, none⟩ (.int .i64 77))) := HCC.out.set hn ⟨g1, g2⟩ ⟨cur, t, g4⟩ (fun e => absurd e g3) _
      have hn1' : (0 : Int) < (n1 : Int) := by omega
      go_wp2
      go_roundw
      case rel => exact ⟨i + 1, by omega, by go_num, HF⟩
      case measure => simp [intOf]; omega
    · have hn1' : ¬ (0 : Int) < (n1 : Int) := by omega
      go_wp2
      go_roundw
      case rel => exact ⟨i + 1, by omega, by go_num, HCC⟩
      case measure => simp [intOf]; omega
end Go.Proofs.YtnofibjchhcmeabDoor
