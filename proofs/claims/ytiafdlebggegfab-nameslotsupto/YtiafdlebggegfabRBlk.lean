/- The document's call over a block. -/
import Derived.Test.YtiafdlebggegfabOne0
import Derived.Test.YtiafdlebggegfabOne1
import Derived.Test.YtiafdlebggegfabOne2
import Derived.Test.YtiafdlebggegfabOne5
namespace Go.Proofs.Ytiafdlebggegfab
open Go.RowKit Go.Maps Go.WideMaps
set_option linter.unusedVariables false

theorem one_any (W : World) (base : Nat) (cc : Int) (hWb : W.heap.size ≤ base) (k : Int) (s : ByteArray) (c : Int) (a : EL) (b e : SL) (hb : RBlockC W base cc b) (he : RBlockC W base cc e) (aa ab ae : Option Addr) (ca cb ce : Nat) (hA : ESl W (.slice aa a.len ca) a) (hB : SSl W (.slice ab b.len cb) b) (hE : SSl W (.slice ae e.len ce) e) (w : World) (th : List ByteArray) (ta : Option Addr) (tc : Nat) (oa : Option Addr) (oc : Nat) (out : List Int) (most : Int) (hT : THd w (.slice ta th.length tc) (.slice oa out.length oc) th) (hO : Ints w base (.slice oa out.length oc) out) (hbs : base ≤ w.heap.size) (hg : Good ⟨tabOf th, out, most⟩) (hbw : Below W.heap.size W w) (hl : out.length + (a.cnt + b.cnt + e.cnt + 1) ≤ 1000000000) :
    Calls Try.prog 24 #[sV k s c (.slice aa a.len ca) (.slice ab b.len cb) (.slice ae e.len ce), .slice ta th.length tc, .int .i64 cc, .slice oa out.length oc, .int .i64 most] w (OPost base w (.slice oa out.length oc) (runS (min cc 4) k s c a b e ⟨tabOf th, out, most⟩)) := by
  by_cases h1 : k = 1
  · subst h1; exact one_one W base cc hWb s c a b e hb he aa ab ae ca cb ce hA hB hE w th ta tc oa oc out most hT hO hbs hg hbw hl
  · by_cases h2 : k = 2
    · subst h2; exact one_two W base cc hWb s c a b e hb he aa ab ae ca cb ce hA hB hE w th ta tc oa oc out most hT hO hbs hg hbw hl
    · by_cases h5 : k = 5
      · subst h5; exact one_five W base cc hWb s c a b e hb he aa ab ae ca cb ce hA hB hE w th ta tc oa oc out most hT hO hbs hg hbw hl
      · exact one_other W base cc hWb k h1 h2 h5 s c a b e hb he aa ab ae ca cb ce hA hB hE w th ta tc oa oc out most hT hO hbs hg hbw hl

set_option maxRecDepth 100000 in
set_option maxHeartbeats 4000000 in
theorem rblock_step (W : World) (base : Nat) (cc : Int) (hWb : W.heap.size ≤ base) (l : SL) (HI : Hid (∀ l' : SL, l'.cnt < l.cnt → RBlockC W base cc l')) : RBlockC W base cc l := by
  intro va w th ta tc oa oc out most hE hT hO hbs hg hbw hl
  obtain ⟨ad, cap, b1, o1, rfl, h1, h2, h3, h4⟩ := hE
  have HO : Hid (Ints w base (.slice oa out.length oc) out) := hO
  have HT : Hid (THd w (.slice ta th.length tc) (.slice oa out.length oc) th) := hT
  have HG : Hid (Good ⟨tabOf th, out, most⟩) := hg
  have HB0 : Hid (Below W.heap.size W w) := hbw
  have HE0 : Hid (SAt W l b1 o1) := h4
  have HL : Hid (out.length + l.cnt ≤ 1000000000) := hl
  obtain ⟨n, hn⟩ : ∃ n, l.len = n := ⟨_, rfl⟩
  have HLN : Hid (l.len = n) := hn
  have hn9 : n ≤ 1000000000 := by have := l.len_le; omega
  rw [hn] at h1 h3 ⊢
  obtain ⟨res, hres⟩ : ∃ r, runL (min cc 4) l ⟨tabOf th, out, most⟩ = r := ⟨_, rfl⟩
  have HRES : Hid (runL (min cc 4) l ⟨tabOf th, out, most⟩ = res) := hres
  rw [hres]
  obtain ⟨tn, htn⟩ : ∃ tn, th.length = tn := ⟨_, rfl⟩
  have HTN : Hid (th.length = tn) := htn
  rw [htn] at ⊢
  obtain ⟨on, hon⟩ : ∃ on, out.length = on := ⟨_, rfl⟩
  have HON : Hid (out.length = on) := hon
  rw [hon] at ⊢
  unfold maxLen at h2
  clear hO hT hg hbw h4 hl hn hres htn hon
  go_enter Try.func18, Try.ntmps18
  go_wp2
  go_loopw [1, 3, 4, 14] (fun tv ov mv iv wr => ∃ (j : Nat) (r : SL) (th' : List ByteArray) (ta' : Option Addr) (tc' : Nat) (o2 : List Int) (oa2 : Option Addr) (oc2 : Nat) (m2 : Int), j ≤ n ∧ iv = .int .i64 (j : Int) ∧ tv = .slice ta' th'.length tc' ∧ ov = .slice oa2 o2.length oc2 ∧ mv = .int .i64 m2 ∧ Hid (j + r.len = n) ∧ Hid (SAt W r b1 (o1 + 6 * j)) ∧ Hid (THd wr (.slice ta' th'.length tc') (.slice oa2 o2.length oc2) th') ∧ Hid (Ints wr base (.slice oa2 o2.length oc2) o2) ∧ Hid (Good ⟨tabOf th', o2, m2⟩) ∧ Hid (GO w wr (.slice oa on oc) (.slice oa2 o2.length oc2)) ∧ Hid (runL (min cc 4) r ⟨tabOf th', o2, m2⟩ = res) ∧ Hid (o2.length + r.cnt ≤ 1000000000 ∧ r.cnt ≤ l.cnt)) (fun _ _ _ i _ => n - (intOf i).toNat)
  case atStart => exact ⟨0, l, th, ta, tc, out, oa, oc, most, Nat.zero_le _, rfl, by rw [HTN.out], by rw [HON.out], rfl, by show _ = _; rw [Nat.zero_add]; exact HLN.out, HE0, HT, HO, HG, by rw [HON.out]; exact GO.refl _ _, HRES, ⟨HL.out, Nat.le_refl _⟩⟩
  case round =>
    obtain ⟨j, r, th', ta', tc', o2, oa2, oc2, m2, hj, rfl, rfl, rfl, rfl, HJ, HE, HT1, HO1, HG1, HGO, HR1, HC1⟩ := hrel
    have HBr : Hid (Below W.heap.size W wr) := by
      have h9 := HO.out
      rw [HON.out] at h9
      exact h9.belowW hWb HGO.out HB0.out
    have hm20 : 0 ≤ m2 := HG1.out.m0
    have hm21 : m2 ≤ 8 := HG1.out.m1
    obtain ⟨t2, ht2⟩ : ∃ t2, th'.length = t2 := ⟨_, rfl⟩
    have HT2N : Hid (th'.length = t2) := ht2
    rw [ht2]
    clear ht2
    by_cases hlt : j < n
    · have e0 := h3 (by omega)
      subst e0
      cases r with
      | nil => have := HJ.out; simp only [SL.len] at this; omega
      | cons kd s c a d e r =>
        obtain ⟨q0, q1, q2, q3, ⟨va, q4, q4'⟩, ⟨ad1, cap1, b2, o3, q5, q6, q7, q8, q9⟩, ⟨ad2, cap2, b3, o4, p5, p6, p7, p8, p9⟩, q10⟩ := HE.out
        obtain ⟨aa, ca, ba, oaa, rfl, _⟩ := id q4'
        have hbl : b1 < W.heap.size := World.block_lt_of_cell? W ⟨b1, o1 + 6 * j, none⟩ q0
        have x0 : wr.cell? ⟨b1, o1 + j * 6, none⟩ = some (.int .i64 kd) := by rw [Nat.mul_comm j 6]; exact (HBr.out.cell (p := ⟨b1, o1 + 6 * j, none⟩) hbl).trans q0
        have x1 : wr.cell? ⟨b1, o1 + j * 6 + 1, none⟩ = some (.string s) := by rw [Nat.mul_comm j 6]; exact (HBr.out.cell (p := ⟨b1, o1 + 6 * j + 1, none⟩) hbl).trans q1
        have x2 : wr.cell? ⟨b1, o1 + j * 6 + 2, none⟩ = some (.int .i64 c) := by rw [Nat.mul_comm j 6]; exact (HBr.out.cell (p := ⟨b1, o1 + 6 * j + 2, none⟩) hbl).trans q2
        have x3 : wr.cell? ⟨b1, o1 + j * 6 + 3, none⟩ = some (.slice aa a.len ca) := by rw [Nat.mul_comm j 6]; exact (HBr.out.cell (p := ⟨b1, o1 + 6 * j + 3, none⟩) hbl).trans q4
        have x4 : wr.cell? ⟨b1, o1 + j * 6 + 4, none⟩ = some (.slice ad1 d.len cap1) := by rw [Nat.mul_comm j 6]; exact (HBr.out.cell (p := ⟨b1, o1 + 6 * j + 4, none⟩) hbl).trans q5
        have x5 : wr.cell? ⟨b1, o1 + j * 6 + 5, none⟩ = some (.slice ad2 e.len cap2) := by rw [Nat.mul_comm j 6]; exact (HBr.out.cell (p := ⟨b1, o1 + 6 * j + 5, none⟩) hbl).trans p5
        have hcn : d.cnt < l.cnt ∧ e.cnt < l.cnt ∧ o2.length + (a.cnt + d.cnt + e.cnt + 1) ≤ 1000000000 := by have := HC1.out; simp only [SL.cnt] at this; omega
        have HRest : Hid (SAt W r b1 (o1 + 6 * (j + 1))) := by have := q10; rw [show o1 + 6 * (j + 1) = o1 + 6 * j + 6 by omega]; exact this
        have HCL : Hid (Calls Try.prog 24 #[.agg #[.int .i64 kd, .string s, .int .i64 c, .slice aa a.len ca, .slice ad1 d.len cap1, .slice ad2 e.len cap2], .slice ta' t2 tc', .int .i64 cc, .slice oa2 o2.length oc2, .int .i64 m2] wr (OPost base wr (.slice oa2 o2.length oc2) (runS (min cc 4) kd s c a d e ⟨tabOf th', o2, m2⟩))) := by
          have := one_any W base cc hWb kd s c a d e (HI.out d hcn.1) (HI.out e hcn.2.1) aa ad1 ad2 ca cap1 cap2 q4' ⟨ad1, cap1, b2, o3, rfl, q6, q7, q8, q9⟩ ⟨ad2, cap2, b3, o4, rfl, p6, p7, p8, p9⟩ wr th' ta' tc' oa2 oc2 o2 m2 HT1.out HO1.out (Nat.le_trans hbs HGO.out.size) HG1.out HBr.out hcn.2.2
          rw [HT2N.out] at this
          exact this
        clear q0 q1 q2 q3 q4 q4' q5 q6 q7 q8 q9 q10 p5 p6 p7 p8 p9 hcn
        go_wp2_with fail
        refine HCL.out.mono ?_
        intro e1 w2 hp
        rcases r1 : runS (min cc 4) kd s c a d e ⟨tabOf th', o2, m2⟩ with x | s2
        · rw [r1] at hp
          have hp2 := hp.pre HGO.out
          obtain ⟨⟨ta5, tn5, tc5, m5, rfl⟩, hx, hq⟩ := hp2
          have HQ : Hid _ := hq
          have HRR : Hid (res = .err x) := by show _ = _; rw [← HR1.out, runL_cons, r1]; rfl
          clear hp hq r1 x0 x1 x2 x3 x4 x5
          go_wp2
          (try simp only [Exit.inBlock, Exit.then])
          refine bodyPost_ret (results_tmp4 rfl _ _ _) rfl ?_
          rw [HRR.out]
          exact ⟨⟨_, _, _, _, rfl⟩, hx, HQ.out⟩
        · rw [r1] at hp
          obtain ⟨th5, ta5, tc5, oa5, oc5, rfl, hT5, hO5, hR5, hG5⟩ := hp
          obtain ⟨g2, _, l2⟩ := runS_good HG1.out r1
          have HRR : Hid (runL (min cc 4) r ⟨tabOf th5, s2.out, s2.most⟩ = res) := by show _ = _; rw [← HR1.out, runL_cons, r1, ← hT5]; rfl
          have HGD : Hid (Good ⟨tabOf th5, s2.out, s2.most⟩) := by show Good _; rw [← hT5]; exact g2
          have HGO5 : Hid (GO w w2 (.slice oa on oc) (.slice oa5 s2.out.length oc5)) := HGO.out.trans hG5
          have HO5 : Hid (Ints w2 base (.slice oa5 s2.out.length oc5) s2.out) := hO5
          have HTH5 : Hid (THd w2 (.slice ta5 th5.length tc5) (.slice oa5 s2.out.length oc5) th5) := hR5
          have HC5 : Hid (s2.out.length + r.cnt ≤ 1000000000 ∧ r.cnt ≤ l.cnt) := by
            have h6 := HC1.out
            simp only [SL.cnt] at h6
            have h7 : s2.out.length ≤ o2.length + (a.cnt + d.cnt + e.cnt + 1) := l2
            exact ⟨by omega, by omega⟩
          clear hT5 hO5 hR5 hG5 r1 g2 l2 x0 x1 x2 x3 x4 x5
          go_wp2
          go_roundw
          case rel => exact ⟨j + 1, r, th5, ta5, tc5, s2.out, oa5, oc5, s2.most, by omega, by go_num, rfl, rfl, rfl, by have := HJ.out; simp only [SL.len] at this; show _ = _; omega, HRest, HTH5, HO5, HGD, HGO5, HRR, HC5⟩
          case measure => simp [intOf]; omega
    · have hr : r = .nil := by cases r with
        | nil => rfl
        | cons k s c a b e r => have := HJ.out; simp only [SL.len] at this; omega
      subst hr
      have HRR : Hid (res = .ok ⟨tabOf th', o2, m2⟩) := HR1.out.symm
      go_wp2
      (try simp only [Exit.inBlock, Exit.then])
      refine bodyPost_ret (results_tmp4 rfl _ _ _) rfl ?_
      rw [HRR.out]
      exact ⟨th', ta', tc', oa2, oc2, by rw [HT2N.out]; rfl, rfl, HO1.out, HT1.out, HGO.out⟩

theorem rblock_any (W : World) (base : Nat) (cc : Int) (hWb : W.heap.size ≤ base) : ∀ (N : Nat) (l : SL), l.cnt ≤ N → RBlockC W base cc l := by
  intro N
  induction N with
  | zero => intro l h; exact rblock_step W base cc hWb l (fun l' h' => absurd h' (by omega))
  | succ N ih => intro l h; exact rblock_step W base cc hWb l (fun l' h' => ih l' (by omega))
end Go.Proofs.Ytiafdlebggegfab
