/- What the chapter says of some texts. -/
import Derived.Test.YtnofibjchhcmeabDoorPb
import Derived.Test.YtnofibjchhcmeabDoorNd
namespace Go.Proofs.YtnofibjchhcmeabDoor
open Go.RowKit Go.Maps
set_option linter.unusedVariables false

def L1 : List Tok := [⟨3, [101, 109, 105, 116], 0, 0⟩, ⟨1, [49], 1, 5⟩, ⟨4, [43], 0, 7⟩, ⟨1, [50], 2, 9⟩, ⟨4, [42], 0, 11⟩, ⟨1, [51], 3, 13⟩, ⟨4, [59], 0, 14⟩, ⟨0, [], 0, 15⟩]
def L2 : List Tok := [⟨3, [101, 109, 105, 116], 0, 0⟩, ⟨1, [49], 1, 5⟩, ⟨0, [], 0, 6⟩]
theorem cut1 : cut [101, 109, 105, 116, 32, 49, 32, 43, 32, 50, 32, 42, 32, 51, 59] = .inl L1 := by kernel_rfl
theorem cut2 : cut [101, 109, 105, 116, 32, 49] = .inl L2 := by kernel_rfl
def eNum (z : Int) (r : EL) : EL := .inner 0 (1, z, ⟨#[]⟩, 0) () .leaf r
def pt1 : PT := ⟨4, ⟨#[]⟩, 0, .inner 0 (5, 0, ⟨#[]⟩, 1) () (eNum 1 (.inner 0 (5, 0, ⟨#[]⟩, 3) () (eNum 2 (eNum 3 .leaf)) .leaf)) .leaf, .leaf, .leaf⟩
theorem text1 : textF L1 (L1.length + 1) 0 0 = .ok ([pt1], 7, 6) := by kernel_rfl
theorem text2 : textF L2 (L2.length + 1) 0 0 = .error (6, 40) := by kernel_rfl
theorem ns1 : NoSign L1 := by
  intro p
  match p with
  | 0 => exact ⟨by decide, by decide, by decide⟩
  | 1 => exact ⟨by decide, by decide, by decide⟩
  | 2 => exact ⟨by decide, by decide, by decide⟩
  | 3 => exact ⟨by decide, by decide, by decide⟩
  | 4 => exact ⟨by decide, by decide, by decide⟩
  | 5 => exact ⟨by decide, by decide, by decide⟩
  | 6 => exact ⟨by decide, by decide, by decide⟩
  | 7 => exact ⟨by decide, by decide, by decide⟩
  | n + 8 => rw [tk_out (by simp [L1])]; exact ⟨by decide, by decide, by decide⟩
theorem ns2 : NoSign L2 := by
  intro p
  match p with
  | 0 => exact ⟨by decide, by decide, by decide⟩
  | 1 => exact ⟨by decide, by decide, by decide⟩
  | 2 => exact ⟨by decide, by decide, by decide⟩
  | n + 3 => rw [tk_out (by simp [L2])]; exact ⟨by decide, by decide, by decide⟩
theorem ot1 : OnlyTell L1 := by
  intro p
  match p with
  | 0 => exact ⟨by decide, by decide⟩
  | 1 => exact ⟨by decide, by decide⟩
  | 2 => exact ⟨by decide, by decide⟩
  | 3 => exact ⟨by decide, by decide⟩
  | 4 => exact ⟨by decide, by decide⟩
  | 5 => exact ⟨by decide, by decide⟩
  | 6 => exact ⟨by decide, by decide⟩
  | 7 => exact ⟨by decide, by decide⟩
  | n + 8 => rw [tk_out (by simp [L1])]; exact ⟨by decide, by decide⟩
theorem ot2 : OnlyTell L2 := by
  intro p
  match p with
  | 0 => exact ⟨by decide, by decide⟩
  | 1 => exact ⟨by decide, by decide⟩
  | 2 => exact ⟨by decide, by decide⟩
  | n + 3 => rw [tk_out (by simp [L2])]; exact ⟨by decide, by decide⟩
theorem parse1 (w : World) (hsg : ∃ A t fr, SA A ∧ w.heap[0]? = some (.cells A t fr)) : Calls Tryd.prog 19 #[.string ⟨#[101, 109, 105, 116, 32, 49, 32, 43, 32, 50, 32, 42, 32, 51, 59]⟩] w (PPost w (.ok [pt1])) := by
  have hE := (cut_end cut1).1
  have := parse_cut ⟨#[101, 109, 105, 116, 32, 49, 32, 43, 32, 50, 32, 42, 32, 51, 59]⟩ w L1 cut1 (by show 15 ≤ maxLen; unfold maxLen; decide) hsg (fun pb g c => stmt_tell hE (ex1_any hE (Or.inr ns1)) ot1) (by rw [text1]; intro k h; cases h)
  rw [text1] at this
  exact this
theorem parse2 (w : World) (hsg : ∃ A t fr, SA A ∧ w.heap[0]? = some (.cells A t fr)) : Calls Tryd.prog 19 #[.string ⟨#[101, 109, 105, 116, 32, 49]⟩] w (PPost w (.error (6, 40))) := by
  have hE := (cut_end cut2).1
  have := parse_cut ⟨#[101, 109, 105, 116, 32, 49]⟩ w L2 cut2 (by show 6 ≤ maxLen; unfold maxLen; decide) hsg (fun pb g c => stmt_tell hE (ex1_any hE (Or.inr ns2)) ot2) (by rw [text2]; intro k h; cases h)
  rw [text2] at this
  exact this
theorem sg_below {w w' : World} (h : ∃ A t fr, SA A ∧ w.heap[0]? = some (.cells A t fr)) (hb : Below w.heap.size w w') : ∃ A t fr, SA A ∧ w'.heap[0]? = some (.cells A t fr) := by
  obtain ⟨A, t, fr, h1, h2⟩ := h
  exact ⟨A, t, fr, h1, (hb.block 0 (Array.getElem?_eq_some_iff.1 h2).1).trans h2⟩

set_option maxRecDepth 100000 in
set_option maxHeartbeats 8000000 in
theorem alive_any (w : World) (hsg : ∃ A t fr, SA A ∧ w.heap[0]? = some (.cells A t fr)) : Calls Tryd.prog 11 #[] w fun e w' => e = .returned (.bool true) ∧ Below w.heap.size w w' := by
  have HSG : Hid (∃ A t fr, SA A ∧ w.heap[0]? = some (.cells A t fr)) := hsg
  have HP1 : Hid (Calls Tryd.prog 19 #[.string ⟨#[101, 109, 105, 116, 32, 49, 32, 43, 32, 50, 32, 42, 32, 51, 59]⟩] w (PPost w (.ok [pt1]))) := parse1 w hsg
  clear hsg
  go_enter Tryd.func11, Tryd.ntmps11
  go_wp2_with fail
  refine HP1.out.mono ?_
  rintro e w1 ⟨v1, v2, v3, rfl, hss, hb1⟩
  have HB1 : Hid (Below w.heap.size w w1) := hb1
  have HP2 := parse2 w1 (sg_below HSG.out hb1)
  go_wp2_with fail
  refine HP2.mono ?_
  rintro e w2 ⟨rfl, hb2⟩
  have hbb : Below w.heap.size w w2 := hb1.trans (hb2.mono hb1.size)
  obtain ⟨A, ty, fr, h1, h2⟩ := sg_below HSG.out hbb
  have hrk := rank_any ⟨#[37]⟩ w2 A h1 ty fr h2
  go_wp2_with fail
  refine hrk.mono ?_
  rintro e w3 ⟨rfl, hb3⟩
  have HSS : Hid (SSlP w3 (fun j => w.heap.size ≤ j) (.slice v1 v2 v3) (srow [pt1])) := (hss.keep fun k _ hk => hb2.block k hk).keep fun k _ hk => hb3.block k hk
  have HB3 : Hid (Below w.heap.size w w3) := hbb.trans (hb3.mono hbb.size)
  obtain ⟨ad, cap, b, o, hv, g2, g3, g4, g5⟩ := HSS.out
  have hsl : slen (srow [pt1]) = 1 := rfl
  rw [hsl] at hv g2 g4
  obtain ⟨ha, hok⟩ := g4 (by omega)
  subst ha
  injection hv with hv1 hv2 hv3
  subst hv1 hv2 hv3
  obtain ⟨i1, i2, i3, va, vb, ve, i4, i5, i6, pa, pb, pe, hr⟩ := SAt.parts (show SAt w3 _ (.inner 0 (4, ⟨#[]⟩, 0, pt1.args) () (.inner 0 (0, ⟨#[]⟩, 0, .leaf) () .leaf .leaf) .leaf) b o from g5)
  obtain ⟨ad', cap', b', o', rfl, f2, f3, f4, f5⟩ := pa
  have hel : elen pt1.args = 1 := rfl
  rw [hel] at f2 f4 i4
  obtain ⟨ha', hok'⟩ := f4 (by omega)
  subst ha'
  have j4 : w3.cell? ⟨b', o' + 3, none⟩ = some (.int .i64 1) := f5.2.2.2.1
  have hnd := nodes_any 6 (srow [pt1]) _ _ w3 (Nat.le_refl 6) (by omega) HSS.out
  have hr1 : (rankOf (⟨#[37]⟩ : ByteArray).data.toList) = (8, 5) := rfl
  rw [hr1]
  unfold maxLen at g3 f3
  clear HP2 hrk HP1 hss hb1 hb2 hb3 hbb g5 f5 hr pb pe
  go_wp2_with (go_at_call 15; refine hnd.mono ?_; rintro e w4 ⟨rfl, hb4⟩)
  first | exact ⟨rfl, HB3.out.trans (hb4.mono HB3.out.size)⟩ | (go_ret; exact ⟨rfl, HB3.out.trans (hb4.mono HB3.out.size)⟩)
end Go.Proofs.YtnofibjchhcmeabDoor
