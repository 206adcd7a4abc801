/- TreeJoins, its walk. -/
import Derived.Test.YtnofibjchhcmeabDoorPb
import Derived.Test.YtnofibjchhcmeabDoorNd
import Derived.Test.YtnofibjchhcmeabDoorPlS
import Derived.Test.YtnofibjchhcmeabDoorFi
import Derived.Test.YtnofibjchhcmeabDoorLCutQ
import Derived.Deep.RegionHeld3
import Derived.Test.YtnofibjchhcmeabDoorCt
import Derived.Test.YtnofibjchhcmeabDoorSy
namespace Go.Proofs.YtnofibjchhcmeabDoor
open Go.RowKit Go.Maps
set_option linter.unusedVariables false

def L1 : List Tok := [⟨3, [101, 109, 105, 116], 0, 0⟩, ⟨1, [49], 1, 5⟩, ⟨4, [43], 0, 7⟩, ⟨1, [50], 2, 9⟩, ⟨4, [42], 0, 11⟩, ⟨1, [51], 3, 13⟩, ⟨4, [59], 0, 14⟩, ⟨0, [], 0, 15⟩]
def L2 : List Tok := [⟨3, [101, 109, 105, 116], 0, 0⟩, ⟨1, [49], 1, 5⟩, ⟨0, [], 0, 6⟩]
theorem cut1 : cut [101, 109, 105, 116, 32, 49, 32, 43, 32, 50, 32, 42, 32, 51, 59] = .inl L1 := by kernel_rfl
theorem cut2 : cut [101, 109, 105, 116, 32, 49] = .inl L2 := by kernel_rfl
def eNum (z : Int) (r : EL) : EL := .inner 0 (1, z, ⟨#[]⟩, 0) () .leaf r
def pt1 : PT := ⟨4, ⟨#[]⟩, 0, .inner 0 (5, 0, ⟨#[]⟩, 1) () (eNum 1 (.inner 0 (5, 0, ⟨#[]⟩, 3) () (eNum 2 (eNum 3 .leaf)) .leaf)) .leaf, .leaf, .leaf⟩
theorem text1 : textF L1 (L1.length + 1) 0 0 = .ok ([pt1], 7, 6) := by kernel_rfl
theorem text2 : textF L2 (L2.length + 1) 0 0 = .error (6, 40) := by kernel_rfl
theorem ns1 : NoSign L1 := by
  intro p
  match p with
  | 0 => exact ⟨by decide, by decide, by decide⟩
  | 1 => exact ⟨by decide, by decide, by decide⟩
  | 2 => exact ⟨by decide, by decide, by decide⟩
  | 3 => exact ⟨by decide, by decide, by decide⟩
  | 4 => exact ⟨by decide, by decide, by decide⟩
  | 5 => exact ⟨by decide, by decide, by decide⟩
  | 6 => exact ⟨by decide, by decide, by decide⟩
  | 7 => exact ⟨by decide, by decide, by decide⟩
  | n + 8 => rw [tk_out (by simp [L1])]; exact ⟨by decide, by decide, by decide⟩
theorem ns2 : NoSign L2 := by
  intro p
  match p with
  | 0 => exact ⟨by decide, by decide, by decide⟩
  | 1 => exact ⟨by decide, by decide, by decide⟩
  | 2 => exact ⟨by decide, by decide, by decide⟩
  | n + 3 => rw [tk_out (by simp [L2])]; exact ⟨by decide, by decide, by decide⟩
theorem ot1 : OnlyTell L1 := by
  intro p
  match p with
  | 0 => exact ⟨by decide, by decide⟩
  | 1 => exact ⟨by decide, by decide⟩
  | 2 => exact ⟨by decide, by decide⟩
  | 3 => exact ⟨by decide, by decide⟩
  | 4 => exact ⟨by decide, by decide⟩
  | 5 => exact ⟨by decide, by decide⟩
  | 6 => exact ⟨by decide, by decide⟩
  | 7 => exact ⟨by decide, by decide⟩
  | n + 8 => rw [tk_out (by simp [L1])]; exact ⟨by decide, by decide⟩
theorem ot2 : OnlyTell L2 := by
  intro p
  match p with
  | 0 => exact ⟨by decide, by decide⟩
  | 1 => exact ⟨by decide, by decide⟩
  | 2 => exact ⟨by decide, by decide⟩
  | n + 3 => rw [tk_out (by simp [L2])]; exact ⟨by decide, by decide⟩
theorem parse1 (w : World) (hsg : ∃ A t fr, SA A ∧ w.heap[0]? = some (.cells A t fr)) : Calls Tryd.prog 19 #[.string ⟨#[101, 109, 105, 116, 32, 49, 32, 43, 32, 50, 32, 42, 32, 51, 59]⟩] w (PPost w (.ok [pt1])) := by
  have hE := (cut_end cut1).1
  have := parse_cut ⟨#[101, 109, 105, 116, 32, 49, 32, 43, 32, 50, 32, 42, 32, 51, 59]⟩ w L1 cut1 (by show 15 ≤ maxLen; unfold maxLen; decide) hsg (fun pb g c => stmt_tell hE (ex1_any hE (Or.inr ns1)) ot1) (by rw [text1]; intro k h; cases h)
  rw [text1] at this
  exact this
theorem parse2 (w : World) (hsg : ∃ A t fr, SA A ∧ w.heap[0]? = some (.cells A t fr)) : Calls Tryd.prog 19 #[.string ⟨#[101, 109, 105, 116, 32, 49]⟩] w (PPost w (.error (6, 40))) := by
  have hE := (cut_end cut2).1
  have := parse_cut ⟨#[101, 109, 105, 116, 32, 49]⟩ w L2 cut2 (by show 6 ≤ maxLen; unfold maxLen; decide) hsg (fun pb g c => stmt_tell hE (ex1_any hE (Or.inr ns2)) ot2) (by rw [text2]; intro k h; cases h)
  rw [text2] at this
  exact this
theorem sg_below {w w' : World} (h : ∃ A t fr, SA A ∧ w.heap[0]? = some (.cells A t fr)) (hb : Below w.heap.size w w') : ∃ A t fr, SA A ∧ w'.heap[0]? = some (.cells A t fr) := by
  obtain ⟨A, t, fr, h1, h2⟩ := h
  exact ⟨A, t, fr, h1, (hb.block 0 (Array.getElem?_eq_some_iff.1 h2).1).trans h2⟩

set_option maxRecDepth 100000 in
set_option maxHeartbeats 8000000 in
theorem alive_any (w : World) (hsg : ∃ A t fr, SA A ∧ w.heap[0]? = some (.cells A t fr)) : Calls Tryd.prog 11 #[] w fun e w' => e = .returned (.bool true) ∧ Below w.heap.size w w' := by
  have HSG : Hid (∃ A t fr, SA A ∧ w.heap[0]? = some (.cells A t fr)) := hsg
  have HP1 : Hid (Calls Tryd.prog 19 #[.string ⟨#[101, 109, 105, 116, 32, 49, 32, 43, 32, 50, 32, 42, 32, 51, 59]⟩] w (PPost w (.ok [pt1]))) := parse1 w hsg
  clear hsg
  go_enter Tryd.func11, Tryd.ntmps11
  go_wp2_with fail
  refine HP1.out.mono ?_
  rintro e w1 ⟨v1, v2, v3, rfl, hss, hb1⟩
  have HB1 : Hid (Below w.heap.size w w1) := hb1
  have HP2 := parse2 w1 (sg_below HSG.out hb1)
  go_wp2_with fail
  refine HP2.mono ?_
  rintro e w2 ⟨rfl, hb2⟩
  have hbb : Below w.heap.size w w2 := hb1.trans (hb2.mono hb1.size)
  obtain ⟨A, ty, fr, h1, h2⟩ := sg_below HSG.out hbb
  have hrk := rank_any ⟨#[37]⟩ w2 A h1 ty fr h2
  go_wp2_with fail
  refine hrk.mono ?_
  rintro e w3 ⟨rfl, hb3⟩
  have HSS : Hid (SSlP w3 (fun j => w.heap.size ≤ j) (.slice v1 v2 v3) (srow [pt1])) := (hss.keep fun k _ hk => hb2.block k hk).keep fun k _ hk => hb3.block k hk
  have HB3 : Hid (Below w.heap.size w w3) := hbb.trans (hb3.mono hbb.size)
  obtain ⟨ad, cap, b, o, hv, g2, g3, g4, g5⟩ := HSS.out
  have hsl : slen (srow [pt1]) = 1 := rfl
  rw [hsl] at hv g2 g4
  obtain ⟨ha, hok⟩ := g4 (by omega)
  subst ha
  injection hv with hv1 hv2 hv3
  subst hv1 hv2 hv3
  obtain ⟨i1, i2, i3, va, vb, ve, i4, i5, i6, pa, pb, pe, hr⟩ := SAt.parts (show SAt w3 _ (.inner 0 (4, ⟨#[]⟩, 0, pt1.args) () (.inner 0 (0, ⟨#[]⟩, 0, .leaf) () .leaf .leaf) .leaf) b o from g5)
  obtain ⟨ad', cap', b', o', rfl, f2, f3, f4, f5⟩ := pa
  have hel : elen pt1.args = 1 := rfl
  rw [hel] at f2 f4 i4
  obtain ⟨ha', hok'⟩ := f4 (by omega)
  subst ha'
  have j4 : w3.cell? ⟨b', o' + 3, none⟩ = some (.int .i64 1) := f5.2.2.2.1
  have hnd := nodes_any 6 (srow [pt1]) _ _ w3 (Nat.le_refl 6) (by omega) HSS.out
  have hr1 : (rankOf (⟨#[37]⟩ : ByteArray).data.toList) = (8, 5) := rfl
  rw [hr1]
  unfold maxLen at g3 f3
  clear HP2 hrk HP1 hss hb1 hb2 hb3 hbb g5 f5 hr pb pe
  go_wp2_with (go_at_call 15; refine hnd.mono ?_; rintro e w4 ⟨rfl, hb4⟩)
  first | exact ⟨rfl, HB3.out.trans (hb4.mono HB3.out.size)⟩ | (go_ret; exact ⟨rfl, HB3.out.trans (hb4.mono HB3.out.size)⟩)
end Go.Proofs.YtnofibjchhcmeabDoor
namespace Go.Proofs.YtnofibjchhcmeabDoor
open Go.RowKit
set_option linter.unusedVariables false

/-- how many nodes an expression is -/
def pcnt (x : PE) : Nat := ecnt x.args + 1
def pcnts : List PE → Nat
  | [] => 0
  | x :: l => pcnt x + pcnts l
theorem ecnt_row (l : List PE) : ecnt (erow l) = pcnts l := by
  induction l with
  | nil => rfl
  | cons x l ih => simp only [erow, ecnt, pcnts, pcnt, ih]; omega
theorem mkE_cnt {t : Tok} {k m : Int} {s : ByteArray} {op : Int} {l : List PE} {n : Nat} {x : PE} {i : Nat} (h : mkE t k m s op l n = .ok (x, i)) : i = n + 1 ∧ pcnt x = pcnts l + 1 := by
  unfold mkE at h
  split at h
  · cases h
  · split at h
    · cases h
    · cases h; exact ⟨rfl, by unfold pcnt; rw [ecnt_row]⟩
theorem mk'_cnt {p : Nat} {t : Tok} {k m : Int} {s : ByteArray} {op : Int} {l : List PE} {n : Nat} {x : PE} {q i : Nat} (h : mk' p (mkE t k m s op l n) = .ok (x, q, i)) : i = n + 1 ∧ pcnt x = pcnts l + 1 := by
  rcases e : mkE t k m s op l n with e1 | ⟨y, j⟩
  · rw [e] at h; cases h
  · rw [e] at h; cases h; exact mkE_cnt e
/-- as many nodes are made as there are -/
def Cts (r : Nat → Nat → Nat → PR) : Prop := ∀ p o n x q m, r p o n = .ok (x, q, m) → m = n + pcnt x
theorem withinP_cts {L : List Tok} {ex : Nat → Nat → Nat → PR} (h : Cts ex) (a b : List UInt8) : Cts (withinP L ex a b) := by
  intro p o n x q m hr
  unfold withinP at hr
  split at hr
  · cases hr
  · split at hr
    · cases hr
    · rcases e : ex (p + 1) (o + 1) n with e1 | ⟨y, r, i⟩
      · rw [e] at hr; cases hr
      · rw [e] at hr
        have h1 := h _ _ _ _ _ _ e
        simp only at hr
        split at hr
        · cases hr
        · cases hr; exact h1
theorem memP_cts {L : List Tok} {ex : Nat → Nat → Nat → PR} (h : Cts ex) : Cts (memP L ex) := by
  intro p o n x q m hr
  unfold memP at hr
  rcases e : withinP L ex [91] [93] (p + 1) o n with e1 | ⟨y, r, i⟩
  · rw [e] at hr; cases hr
  · rw [e] at hr
    have h1 := withinP_cts h _ _ _ _ _ _ _ _ e
    obtain ⟨h3, h4⟩ := mk'_cnt hr
    simp only [pcnts] at h4; omega
theorem pairP_cts {L : List Tok} {ex : Nat → Nat → Nat → PR} (h : Cts ex) (op : Int) : Cts (pairP L ex op) := by
  intro p o n x q m hr
  unfold pairP at hr
  split at hr
  · cases hr
  · split at hr
    · cases hr
    · rcases e : ex (p + 2) (o + 1) n with e1 | ⟨y, r, i⟩
      · rw [e] at hr; cases hr
      · rw [e] at hr
        have h1 := h _ _ _ _ _ _ e
        simp only at hr
        split at hr
        · cases hr
        · rcases e2 : ex (r + 1) (o + 1) i with e1 | ⟨z, r2, i2⟩
          · rw [e2] at hr; cases hr
          · rw [e2] at hr
            have h3 := h _ _ _ _ _ _ e2
            simp only at hr
            split at hr
            · cases hr
            · obtain ⟨h5, h6⟩ := mk'_cnt hr
              simp only [pcnts] at h6; omega
theorem signedP_cts {L : List Tok} {on : Nat → Nat → Nat → PR} (h : Cts on) (op : Int) : Cts (signedP L on op) := by
  intro p o n x q m hr
  unfold signedP at hr
  split at hr
  · cases hr
  · rcases e : on (p + 1) (o + 1) n with e1 | ⟨y, r, i⟩
    · rw [e] at hr; cases hr
    · rw [e] at hr
      have h1 := h _ _ _ _ _ _ e
      obtain ⟨h3, h4⟩ := mk'_cnt hr
      simp only [pcnts] at h4; omega
theorem oneP_cts {L : List Tok} {ex on : Nat → Nat → Nat → PR} (h : Cts ex) (h' : Cts on) : Cts (oneP L ex on) := by
  intro p o n x q m hr
  unfold oneP at hr
  split at hr
  · obtain ⟨h3, h4⟩ := mk'_cnt hr; simp only [pcnts] at h4; omega
  split at hr
  · obtain ⟨h3, h4⟩ := mk'_cnt hr; simp only [pcnts] at h4; omega
  split at hr
  · exact withinP_cts h _ _ _ _ _ _ _ _ hr
  split at hr
  · exact memP_cts h _ _ _ _ _ _ hr
  split at hr
  · exact pairP_cts h _ _ _ _ _ _ _ hr
  split at hr
  · exact pairP_cts h _ _ _ _ _ _ _ hr
  split at hr
  · exact signedP_cts h' _ _ _ _ _ _ _ hr
  split at hr
  · exact signedP_cts h' _ _ _ _ _ _ _ hr
  split at hr
  · exact signedP_cts h' _ _ _ _ _ _ _ hr
  · cases hr
theorem exprF_cts (L : List Tok) : ∀ f, Cts (exprF L f none) ∧ (∀ least, Cts (exprF L f (some (least, none)))) ∧ (∀ least y p o n x q m, exprF L f (some (least, some y)) p o n = .ok (x, q, m) → n ≤ m ∧ m + pcnt y = n + pcnt x) := by
  intro f
  induction f with
  | zero => exact ⟨fun _ _ _ _ _ _ h => (by cases h), fun _ _ _ _ _ _ _ h => (by cases h), fun _ _ _ _ _ _ _ _ h => (by cases h)⟩
  | succ f ih =>
    obtain ⟨i0, i1, i2⟩ := ih
    refine ⟨oneP_cts (i1 1) i0, fun least => ?_, fun least y => ?_⟩
    · intro p o n x q m h
      unfold exprF at h
      rcases e : exprF L f none p o n with e1 | ⟨z, r, i⟩
      · rw [e] at h; cases h
      · rw [e] at h; simp only at h
        have h1 := i0 _ _ _ _ _ _ e
        obtain ⟨h2, h3⟩ := i2 _ _ _ _ _ _ _ _ h
        omega
    · intro p o n x q m h
      unfold exprF at h
      split at h
      · cases h; exact ⟨Nat.le_refl _, rfl⟩
      · rcases e : exprF L f (some ((rankOf (tk L p).text).1 + 1, none)) (p + 1) o n with e1 | ⟨z, r, i⟩
        · rw [e] at h; cases h
        · rw [e] at h; simp only at h
          have h1 := i1 _ _ _ _ _ _ _ e
          rcases e2 : mkE (tk L p) 5 0 ⟨#[]⟩ (rankOf (tk L p).text).2 [y, z] i with e1 | ⟨u, j⟩
          · rw [e2] at h; cases h
          · rw [e2] at h; simp only at h
            obtain ⟨h2, h3⟩ := mkE_cnt e2
            simp only [pcnts] at h3
            obtain ⟨h4, h5⟩ := i2 _ _ _ _ _ _ _ _ h
            omega

/-- tokens of L, d places on in M, up to the place K -/
def Mv (L M : List Tok) (K d : Nat) : Prop := ∀ i, i < K → (tk M (d + i)).kind = (tk L i).kind ∧ (tk M (d + i)).text = (tk L i).text ∧ (tk M (d + i)).num = (tk L i).num
def Mo (c d : Nat) (x : PE) (q m : Nat) (r : PR) : Prop := (m + c ≤ 600 ∧ r = .ok (x, d + q, m + c)) ∨ (600 < m + c ∧ ∃ e, r = .error (e, 42))
def MvE (K d c : Nat) (r r' : Nat → Nat → Nat → PR) : Prop := ∀ p o n x q m, r p o n = .ok (x, q, m) → q < K → n + c ≤ 600 → Mo c d x q m (r' (d + p) o (n + c))

theorem mkE_mv {t t' : Tok} {k m : Int} {s : ByteArray} {op : Int} {l : List PE} {n : Nat} {x : PE} {i : Nat} (c : Nat) (h : mkE t k m s op l n = .ok (x, i)) :
    (i + c ≤ 600 ∧ mkE t' k m s op l (n + c) = .ok (x, i + c)) ∨ (600 < i + c ∧ ∃ e, mkE t' k m s op l (n + c) = .error (e, 42)) := by
  unfold mkE at h ⊢
  split at h
  · cases h
  · split at h
    · cases h
    · rename_i h1 h2
      cases h
      rw [if_neg h1]
      by_cases hc : 600 < n + c + 1
      · right; exact ⟨by omega, t'.pos, by rw [if_pos hc]⟩
      · left; refine ⟨by omega, ?_⟩
        rw [if_neg hc]
        have : n + 1 + c = n + c + 1 := by omega
        rw [this]
theorem mk'_mv {p : Nat} {t t' : Tok} {k m : Int} {s : ByteArray} {op : Int} {l : List PE} {n : Nat} {x : PE} {q i : Nat} (c d : Nat) (h : mk' p (mkE t k m s op l n) = .ok (x, q, i)) : Mo c d x q i (mk' (d + p) (mkE t' k m s op l (n + c))) := by
  rcases e : mkE t k m s op l n with e1 | ⟨y, j⟩
  · rw [e] at h; cases h
  · rw [e] at h; cases h
    rcases mkE_mv (t' := t') c e with ⟨h1, h2⟩ | ⟨h1, e', h2⟩
    · left; exact ⟨h1, by rw [h2]; rfl⟩
    · right; exact ⟨h1, e', by rw [h2]; rfl⟩
theorem withinP_mv {L M : List Tok} {K d c : Nat} (H : Mv L M K d) {ex ex' : Nat → Nat → Nat → PR} (hf : Fwd 1 ex) (hx : MvE K d c ex ex') (a b : List UInt8) :
    ∀ p o n x q m, withinP L ex a b p o n = .ok (x, q, m) → q ≤ K → n + c ≤ 600 → Mo c d x q m (withinP M ex' a b (d + p) o (n + c)) := by
  intro p o n x q m hr hq hn
  unfold withinP at hr ⊢
  split at hr
  · cases hr
  · rename_i g1
    split at hr
    · cases hr
    · rename_i g2
      rcases e : ex (p + 1) (o + 1) n with e1 | ⟨y, r, i⟩
      · rw [e] at hr; cases hr
      · rw [e] at hr
        simp only at hr
        split at hr
        · cases hr
        · rename_i g3
          cases hr
          obtain ⟨f1, f2⟩ := hf _ _ _ _ _ _ e
          have k1 := (H p (by omega)).2.1
          have k2 := (H r (by omega)).2.1
          rw [if_neg (by rw [k1]; exact g1), if_neg g2]
          rcases hx _ _ _ _ _ _ e (by omega) hn with ⟨h1, h2⟩ | ⟨h1, e', h2⟩
          · left; refine ⟨h1, ?_⟩
            rw [show d + p + 1 = d + (p + 1) from rfl, h2]
            simp only
            rw [if_neg (by rw [k2]; exact g3)]
            rfl
          · right; refine ⟨h1, e', ?_⟩
            rw [show d + p + 1 = d + (p + 1) from rfl, h2]
theorem memP_mv {L M : List Tok} {K d c : Nat} (H : Mv L M K d) {ex ex' : Nat → Nat → Nat → PR} (hf : Fwd 1 ex) (hc : Cts ex) (hx : MvE K d c ex ex') : MvE K d c (memP L ex) (memP M ex') := by
  intro p o n x q m hr hq hn
  unfold memP at hr ⊢
  rcases e : withinP L ex [91] [93] (p + 1) o n with e1 | ⟨y, r, i⟩
  · rw [e] at hr; cases hr
  · rw [e] at hr
    simp only at hr
    obtain ⟨h3, h4, h5⟩ := mk'_ok hr
    rw [show d + p + 1 = d + (p + 1) from rfl]
    rcases withinP_mv H hf hx _ _ _ _ _ _ _ _ e (by omega) hn with ⟨h1, h2⟩ | ⟨h1, e', h2⟩
    · rw [h2]; exact mk'_mv c d hr
    · rw [h2]; right; exact ⟨by omega, e', rfl⟩
theorem pairP_mv {L M : List Tok} {K d c : Nat} (H : Mv L M K d) {ex ex' : Nat → Nat → Nat → PR} (hf : Fwd 1 ex) (hc : Cts ex) (hx : MvE K d c ex ex') (op : Int) : MvE K d c (pairP L ex op) (pairP M ex' op) := by
  intro p o n x q m hr hq hn
  unfold pairP at hr ⊢
  split at hr
  · cases hr
  · rename_i g1
    split at hr
    · cases hr
    · rename_i g2
      rcases e : ex (p + 2) (o + 1) n with e1 | ⟨y, r, i⟩
      · rw [e] at hr; cases hr
      · rw [e] at hr
        simp only at hr
        split at hr
        · cases hr
        · rename_i g3
          rcases e2 : ex (r + 1) (o + 1) i with e1 | ⟨z, r2, i2⟩
          · rw [e2] at hr; cases hr
          · rw [e2] at hr
            simp only at hr
            split at hr
            · cases hr
            · rename_i g4
              obtain ⟨h5, h6, h7⟩ := mk'_ok hr
              obtain ⟨f1, f2⟩ := hf _ _ _ _ _ _ e
              obtain ⟨f3, f4⟩ := hf _ _ _ _ _ _ e2
              have c1 := hc _ _ _ _ _ _ e
              have c2 := hc _ _ _ _ _ _ e2
              have k1 := (H (p + 1) (by omega)).2.1
              have k2 := (H r (by omega)).2.1
              have k3 := (H r2 (by omega)).2.1
              rw [show d + p + 1 = d + (p + 1) from rfl, if_neg (by rw [k1]; exact g1), if_neg g2, show d + p + 2 = d + (p + 2) from rfl]
              rcases hx _ _ _ _ _ _ e (by omega) hn with ⟨h1, h2⟩ | ⟨h1, e', h2⟩
              · rw [h2]; simp only
                rw [if_neg (by rw [k2]; exact g3), show d + r + 1 = d + (r + 1) from rfl]
                rcases hx _ _ _ _ _ _ e2 (by omega) h1 with ⟨h3, h4⟩ | ⟨h3, e', h4⟩
                · rw [h4]; simp only
                  rw [if_neg (by rw [k3]; exact g4)]
                  exact mk'_mv c d hr
                · rw [h4]; right; exact ⟨by omega, e', rfl⟩
              · rw [h2]; right; exact ⟨by omega, e', rfl⟩
theorem signedP_mv {L M : List Tok} {K d c : Nat} {on on' : Nat → Nat → Nat → PR} (hx : MvE K d c on on') (op : Int) : MvE K d c (signedP L on op) (signedP M on' op) := by
  intro p o n x q m hr hq hn
  unfold signedP at hr ⊢
  split at hr
  · cases hr
  · rename_i g2
    rcases e : on (p + 1) (o + 1) n with e1 | ⟨y, r, i⟩
    · rw [e] at hr; cases hr
    · rw [e] at hr
      simp only at hr
      obtain ⟨h5, h6, h7⟩ := mk'_ok hr
      rw [if_neg g2, show d + p + 1 = d + (p + 1) from rfl]
      rcases hx _ _ _ _ _ _ e (by omega) hn with ⟨h1, h2⟩ | ⟨h1, e', h2⟩
      · rw [h2]; exact mk'_mv c d hr
      · rw [h2]; right; exact ⟨by omega, e', rfl⟩
theorem oneP_mv {L M : List Tok} {K d c : Nat} (H : Mv L M K d) {ex ex' on on' : Nat → Nat → Nat → PR} (hf : Fwd 1 ex) (hf' : Fwd 1 on) (hc : Cts ex) (hx : MvE K d c ex ex') (hx' : MvE K d c on on') : MvE K d c (oneP L ex on) (oneP M ex' on') := by
  intro p o n x q m hr hq hn
  have hp := (oneP_fwd hf hf' _ _ _ _ _ _ hr).1
  obtain ⟨k1, k2, k3⟩ := H p (by omega)
  unfold oneP at hr ⊢
  rw [k1, k2, k3]
  split at hr
  · rename_i g; rw [if_pos g, show d + p + 1 = d + (p + 1) from rfl]; exact mk'_mv c d hr
  rename_i g; rw [if_neg g]
  split at hr
  · rename_i g; rw [if_pos g, show d + p + 1 = d + (p + 1) from rfl]; exact mk'_mv c d hr
  rename_i g; rw [if_neg g]
  split at hr
  · rename_i g; rw [if_pos g]; exact withinP_mv H hf hx _ _ _ _ _ _ _ _ hr (by omega) hn
  rename_i g; rw [if_neg g]
  split at hr
  · rename_i g; rw [if_pos g]; exact memP_mv H hf hc hx _ _ _ _ _ _ hr hq hn
  rename_i g; rw [if_neg g]
  split at hr
  · rename_i g; rw [if_pos g]; exact pairP_mv H hf hc hx _ _ _ _ _ _ _ hr hq hn
  rename_i g; rw [if_neg g]
  split at hr
  · rename_i g; rw [if_pos g]; exact pairP_mv H hf hc hx _ _ _ _ _ _ _ hr hq hn
  rename_i g; rw [if_neg g]
  split at hr
  · rename_i g; rw [if_pos g]; exact signedP_mv hx' _ _ _ _ _ _ _ hr hq hn
  rename_i g; rw [if_neg g]
  split at hr
  · rename_i g; rw [if_pos g]; exact signedP_mv hx' _ _ _ _ _ _ _ hr hq hn
  rename_i g; rw [if_neg g]
  split at hr
  · rename_i g; rw [if_pos g]; exact signedP_mv hx' _ _ _ _ _ _ _ hr hq hn
  · cases hr
theorem exprF_mv {L M : List Tok} {K d c : Nat} (H : Mv L M K d) : ∀ f f', f ≤ f' → ∀ md, MvE K d c (exprF L f md) (exprF M f' md) := by
  intro f
  induction f with
  | zero => intro f' _ md p o n x q m h; cases h
  | succ f ih =>
    intro f' hf md
    cases f' with
    | zero => omega
    | succ f' =>
      have ih' := ih f' (by omega)
      have F := exprF_fwd L f
      have C := exprF_cts L f
      rcases md with _ | ⟨least, _ | y⟩
      · exact oneP_mv H (F.2.1 1) F.1 (C.2.1 1) (ih' _) (ih' _)
      · intro p o n x q m h hq hn
        unfold exprF at h ⊢
        rcases e : exprF L f none p o n with e1 | ⟨z, r, i⟩
        · rw [e] at h; cases h
        · rw [e] at h; simp only at h
          have f1 := (F.2.2 _ _ _ _ _ _ _ _ h).1
          have c1 := (C.2.2 _ _ _ _ _ _ _ _ h).1
          rcases ih' none _ _ _ _ _ _ e (by omega) hn with ⟨h1, h2⟩ | ⟨h1, e', h2⟩
          · rw [h2]; exact ih' _ _ _ _ _ _ _ h hq h1
          · rw [h2]; right; exact ⟨by omega, e', rfl⟩
      · intro p o n x q m h hq hn
        have f0 := ((exprF_fwd L (f + 1)).2.2 _ _ _ _ _ _ _ _ h).1
        have k2 := (H p (by omega)).2.1
        unfold exprF at h ⊢
        rw [k2]
        split at h
        · rename_i g
          cases h
          rw [if_pos g]; left; exact ⟨hn, rfl⟩
        · rename_i g
          rw [if_neg g]
          rcases e : exprF L f (some ((rankOf (tk L p).text).1 + 1, none)) (p + 1) o n with e1 | ⟨z, r, i⟩
          · rw [e] at h; cases h
          · rw [e] at h; simp only at h
            rcases e2 : mkE (tk L p) 5 0 ⟨#[]⟩ (rankOf (tk L p).text).2 [y, z] i with e1 | ⟨u, j⟩
            · rw [e2] at h; cases h
            · rw [e2] at h; simp only at h
              have f1 := (F.2.2 _ _ _ _ _ _ _ _ h).1
              have c1 := (C.2.2 _ _ _ _ _ _ _ _ h).1
              have c2 := (mkE_cnt e2).1
              rw [show d + p + 1 = d + (p + 1) from rfl]
              rcases ih' _ _ _ _ _ _ _ e (by omega) hn with ⟨h1, h2⟩ | ⟨h1, e', h2⟩
              · rw [h2]; simp only
                rcases mkE_mv (t' := tk M (d + p)) c e2 with ⟨h3, h4⟩ | ⟨h3, e', h4⟩
                · rw [h4]; simp only; exact ih' _ _ _ _ _ _ _ h hq h3
                · rw [h4]; right; exact ⟨by omega, e', rfl⟩
              · rw [h2]; right; exact ⟨by omega, e', rfl⟩
end Go.Proofs.YtnofibjchhcmeabDoor
namespace Go.Proofs.YtnofibjchhcmeabDoor
open Go.RowKit
set_option linter.unusedVariables false

/-- how many nodes a statement is -/
def tcnt (x : PT) : Nat := ecnt x.args + scnt x.body + scnt x.els + 1
def tcnts : List PT → Nat
  | [] => 0
  | x :: l => tcnt x + tcnts l
theorem scnt_row (l : List PT) : scnt (srow l) = tcnts l := by
  induction l with
  | nil => rfl
  | cons x l ih => show scnt (SL.cons _ _ _ _ _ _ _) = _; rw [scnt_inner]; simp only [slft, srgt, tcnts, tcnt, ih]; omega
theorem tcnts_app (l m : List PT) : tcnts (l ++ m) = tcnts l + tcnts m := by
  induction l with
  | nil => simp [tcnts]
  | cons x l ih => simp only [List.cons_append, tcnts, ih]; omega
theorem mkS_cnt {t : Tok} {x : PT} {q n : Nat} {l : List PT} {r m : Nat} (h : mkS t x q n = .ok (l, r, m)) : l = [x] ∧ r = q ∧ m = n + 1 := by
  obtain ⟨h1, h2, h3, h4⟩ := mkS_ok h; exact ⟨h1, h2, h3⟩
def CtsT (r : Nat → Nat → Nat → TR) : Prop := ∀ b p n l q m, r b p n = .ok (l, q, m) → m = n + tcnts l
theorem ex1_cts (L : List Tok) : Cts (ex1 L) := (exprF_cts L _).2.1 1
theorem withinT_cts {L : List Tok} {a b : List UInt8} {p n : Nat} {x : PE} {q m : Nat} (h : withinT L a b p n = .ok (x, q, m)) : m = n + pcnt x := withinP_cts (ex1_cts L) _ _ _ _ _ _ _ _ h
theorem lastP_cts {L : List Tok} {p n : Nat} {x : PE} {q m : Nat} (h : lastP L p n = .ok (x, q, m)) : m = n + pcnt x := by
  unfold lastP at h
  rcases e : ex1 L p 0 n with e1 | ⟨y, r, i⟩
  · rw [e] at h; cases h
  · rw [e] at h; simp only at h
    have h1 := ex1_cts L _ _ _ _ _ _ e
    split at h
    · cases h
    · cases h; exact h1
theorem valueP_cts {L : List Tok} {p n : Nat} {x : PE} {q m : Nat} (h : valueP L p n = .ok (x, q, m)) : m = n + pcnt x := by
  unfold valueP at h
  split at h
  · cases h
  · exact lastP_cts h
theorem ofPart_cts {t : Tok} {k : Int} {s : ByteArray} {c : Int} {r : PR} {l : List PT} {q m : Nat} (h : ofPart t k s c r = .ok (l, q, m)) : ∃ x i, r = .ok (x, q, i) ∧ m = i + 1 ∧ tcnts l = pcnt x + 1 := by
  unfold ofPart at h
  rcases r with e | ⟨x, r, i⟩
  · cases h
  · simp only at h
    obtain ⟨h1, h2, h3⟩ := mkS_cnt h
    subst h1 h2 h3
    exact ⟨x, i, rfl, rfl, by simp [tcnts, tcnt, ecnt_row, pcnts, scnt]⟩
theorem blockP_cts {L : List Tok} {row : Nat → Nat → Nat → TR} (hr : CtsT row) : CtsT (blockP L row) := by
  intro b p n x q m h
  unfold blockP at h
  split at h
  · cases h
  · split at h
    · cases h
    · rcases e : row (b + 1) (p + 1) n with e1 | ⟨y, r, i⟩
      · rw [e] at h; cases h
      · rw [e] at h; simp only at h
        have h1 := hr _ _ _ _ _ _ e
        cases h; exact h1
theorem otherP_cts {L : List Tok} {row ch : Nat → Nat → Nat → TR} (hr : CtsT row) (hc : CtsT ch) : CtsT (otherP L row ch) := by
  intro b p n x q m h
  unfold otherP at h
  split at h
  · exact blockP_cts hr _ _ _ _ _ _ h
  · split at h
    · cases h
    · exact hc _ _ _ _ _ _ h
theorem chooseP_cts {L : List Tok} {row ch : Nat → Nat → Nat → TR} (hr : CtsT row) (hc : CtsT ch) : CtsT (chooseP L row ch) := by
  intro b p n x q m h
  unfold chooseP at h
  rcases e : withinT L [40] [41] (p + 1) n with e1 | ⟨y, r, i⟩
  · rw [e] at h; cases h
  · rw [e] at h; simp only at h
    have h1 := withinT_cts e
    rcases e2 : blockP L row b r i with e1 | ⟨z, r2, i2⟩
    · rw [e2] at h; cases h
    · rw [e2] at h; simp only at h
      have h3 := blockP_cts hr _ _ _ _ _ _ e2
      split at h
      · rcases e3 : otherP L row ch b (r2 + 1) i2 with e1 | ⟨u, r3, i3⟩
        · rw [e3] at h; cases h
        · rw [e3] at h; simp only at h
          have h5 := otherP_cts hr hc _ _ _ _ _ _ e3
          obtain ⟨g1, g2, g3⟩ := mkS_cnt h
          subst g1
          simp only [tcnts, tcnt, ecnt_row, pcnts, scnt_row]; omega
      · obtain ⟨g1, g2, g3⟩ := mkS_cnt h
        subst g1
        simp only [tcnts, tcnt, ecnt_row, pcnts, scnt_row, scnt]; omega
theorem repeatP_cts {L : List Tok} {row : Nat → Nat → Nat → TR} (hr : CtsT row) : CtsT (repeatP L row) := by
  intro b p n x q m h
  unfold repeatP at h
  rcases e : withinT L [40] [41] (p + 1) n with e1 | ⟨y, r, i⟩
  · rw [e] at h; cases h
  · rw [e] at h; simp only at h
    have h1 := withinT_cts e
    rcases e2 : blockP L row b r i with e1 | ⟨z, r2, i2⟩
    · rw [e2] at h; cases h
    · rw [e2] at h; simp only at h
      have h3 := blockP_cts hr _ _ _ _ _ _ e2
      obtain ⟨g1, g2, g3⟩ := mkS_cnt h
      subst g1
      simp only [tcnts, tcnt, ecnt_row, pcnts, scnt_row, scnt]; omega
theorem stmtP_cts {L : List Tok} {row ch : Nat → Nat → Nat → TR} (hr : CtsT row) (hc : CtsT ch) : CtsT (stmtP L row ch) := by
  intro b p n x q m h
  unfold stmtP at h
  split at h
  · obtain ⟨y, i, h1, h2, h3⟩ := ofPart_cts h
    have := valueP_cts h1; omega
  split at h
  · unfold declareP at h
    split at h
    · cases h
    · obtain ⟨y, i, h1, h2, h3⟩ := ofPart_cts h
      have := valueP_cts h1; omega
  split at h
  · unfold storeP at h
    rcases e : withinT L [91] [93] (p + 1) n with e1 | ⟨y, r, i⟩
    · rw [e] at h; cases h
    · rw [e] at h; simp only at h
      have h1 := withinT_cts e
      rcases e2 : valueP L r i with e1 | ⟨z, r2, i2⟩
      · rw [e2] at h; cases h
      · rw [e2] at h; simp only at h
        have h3 := valueP_cts e2
        obtain ⟨g1, g2, g3⟩ := mkS_cnt h
        subst g1
        simp only [tcnts, tcnt, ecnt_row, pcnts, scnt]; omega
  split at h
  · obtain ⟨y, i, h1, h2, h3⟩ := ofPart_cts h
    have := lastP_cts h1; omega
  split at h
  · obtain ⟨y, i, h1, h2, h3⟩ := ofPart_cts h
    have := lastP_cts h1; omega
  split at h
  · unfold intoP at h
    split at h
    · cases h
    split at h
    · cases h
    · obtain ⟨y, i, h1, h2, h3⟩ := ofPart_cts h
      have := lastP_cts h1; omega
  split at h
  · unfold stopP at h
    split at h
    · cases h
    · obtain ⟨g1, g2, g3⟩ := mkS_cnt h
      subst g1
      simp only [tcnts, tcnt, ecnt, scnt]; omega
  split at h
  · exact chooseP_cts hr hc _ _ _ _ _ _ h
  split at h
  · exact repeatP_cts hr _ _ _ _ _ _ h
  · cases h
theorem stmtF_cts (L : List Tok) : ∀ f, CtsT (stmtF L f 0) ∧ CtsT (stmtF L f 1) ∧ CtsT (stmtF L f 2) := by
  intro f
  induction f with
  | zero => exact ⟨fun _ _ _ _ _ _ h => (by cases h), fun _ _ _ _ _ _ h => (by cases h), fun _ _ _ _ _ _ h => (by cases h)⟩
  | succ f ih =>
    obtain ⟨i0, i1, i2⟩ := ih
    refine ⟨stmtP_cts i1 i2, ?_, chooseP_cts i1 i2⟩
    intro b p n x q m h
    rw [stmtF_row] at h
    split at h
    · cases h; simp [tcnts]
    · rcases e : stmtF L f 0 b p n with e1 | ⟨y, r, i⟩
      · rw [e] at h; cases h
      · rw [e] at h; simp only at h
        have h1 := i0 _ _ _ _ _ _ e
        rcases e2 : stmtF L f 1 b r i with e1 | ⟨z, r2, i2⟩
        · rw [e2] at h; cases h
        · rw [e2] at h; simp only at h
          have h3 := i1 _ _ _ _ _ _ e2
          cases h
          rw [tcnts_app]; omega
theorem textF_cts (L : List Tok) : ∀ f p n l q m, textF L f p n = .ok (l, q, m) → m = n + tcnts l := by
  intro f
  induction f with
  | zero => intro p n l q m h; cases h
  | succ f ih =>
    intro p n l q m h
    unfold textF at h
    split at h
    · cases h; simp [tcnts]
    · rcases e : stmtT L 0 p n with e1 | ⟨y, r, i⟩
      · rw [e] at h; cases h
      · rw [e] at h; simp only at h
        have h1 := (stmtF_cts L _).1 _ _ _ _ _ _ e
        rcases e2 : textF L f r i with e1 | ⟨z, r2, i2⟩
        · rw [e2] at h; cases h
        · rw [e2] at h; simp only at h
          have h3 := ih _ _ _ _ _ e2
          cases h
          rw [tcnts_app]; omega

def MoT (c d : Nat) (l : List PT) (q m : Nat) (r : TR) : Prop := (m + c ≤ 600 ∧ r = .ok (l, d + q, m + c)) ∨ (600 < m + c ∧ ∃ e, r = .error (e, 42))
def MvT (K d c : Nat) (r r' : Nat → Nat → Nat → TR) : Prop := ∀ b p n l q m, r b p n = .ok (l, q, m) → q ≤ K → n + c ≤ 600 → MoT c d l q m (r' b (d + p) (n + c))
def MvR (K d c : Nat) (r r' : Nat → Nat → Nat → TR) : Prop := ∀ b p n l q m, r b p n = .ok (l, q, m) → q < K → n + c ≤ 600 → MoT c d l q m (r' b (d + p) (n + c))
theorem ex1_mv {L M : List Tok} {K d c : Nat} (H : Mv L M K d) (hl : L.length ≤ M.length) : MvE K d c (ex1 L) (ex1 M) := exprF_mv H _ _ (by omega) _
theorem withinT_mv {L M : List Tok} {K d c : Nat} (H : Mv L M K d) (hl : L.length ≤ M.length) {a b : List UInt8} {p n : Nat} {x : PE} {q m : Nat} (h : withinT L a b p n = .ok (x, q, m)) (hq : q ≤ K) (hn : n + c ≤ 600) : Mo c d x q m (withinT M a b (d + p) (n + c)) :=
  withinP_mv H (ex1_fwd L) (ex1_mv H hl) a b p 0 n x q m h hq hn
theorem lastP_mv {L M : List Tok} {K d c : Nat} (H : Mv L M K d) (hl : L.length ≤ M.length) {p n : Nat} {x : PE} {q m : Nat} (h : lastP L p n = .ok (x, q, m)) (hq : q ≤ K) (hn : n + c ≤ 600) : Mo c d x q m (lastP M (d + p) (n + c)) := by
  unfold lastP at h ⊢
  rcases e : ex1 L p 0 n with e1 | ⟨y, r, i⟩
  · rw [e] at h; cases h
  · rw [e] at h; simp only at h
    split at h
    · cases h
    · rename_i g
      cases h
      have k := (H r (by omega)).2.1
      rcases ex1_mv (c := c) H hl _ _ _ _ _ _ e (by omega) hn with ⟨h1, h2⟩ | ⟨h1, e', h2⟩
      · rw [h2]; simp only
        rw [if_neg (by rw [k]; exact g)]
        left; exact ⟨h1, rfl⟩
      · rw [h2]; right; exact ⟨h1, e', rfl⟩
theorem valueP_mv {L M : List Tok} {K d c : Nat} (H : Mv L M K d) (hl : L.length ≤ M.length) {p n : Nat} {x : PE} {q m : Nat} (h : valueP L p n = .ok (x, q, m)) (hq : q ≤ K) (hn : n + c ≤ 600) : Mo c d x q m (valueP M (d + p) (n + c)) := by
  have hf := (valueP_fwd h).1
  unfold valueP at h ⊢
  split at h
  · cases h
  · rename_i g
    have k := (H p (by omega)).2.1
    rw [if_neg (by rw [k]; exact g)]
    exact lastP_mv H hl h hq hn
theorem mkS_mv {t t' : Tok} {x : PT} {q n : Nat} {l : List PT} {r m : Nat} (c d : Nat) (h : mkS t x q n = .ok (l, r, m)) : MoT c d l r m (mkS t' x (d + q) (n + c)) := by
  unfold mkS at h ⊢
  split at h
  · cases h
  · cases h
    by_cases hc : 600 < n + c + 1
    · right; exact ⟨by omega, t'.pos, by rw [if_pos hc]⟩
    · left; refine ⟨by omega, ?_⟩
      rw [if_neg hc]
      have : n + 1 + c = n + c + 1 := by omega
      rw [this]
theorem ofPart_mv {t t' : Tok} {k : Int} {s : ByteArray} {c0 : Int} {r r' : PR} {l : List PT} {q m : Nat} (c d : Nat) (h : ofPart t k s c0 r = .ok (l, q, m)) (hr : ∀ x i, r = .ok (x, q, i) → Mo c d x q i r') : MoT c d l q m (ofPart t' k s c0 r') := by
  unfold ofPart at h ⊢
  rcases r with e | ⟨x, r, i⟩
  · cases h
  · simp only at h
    obtain ⟨h1, h2, h3⟩ := mkS_cnt h
    subst h2
    rcases hr x i rfl with ⟨g1, g2⟩ | ⟨g1, e', g2⟩
    · rw [g2]; exact mkS_mv c d h
    · rw [g2]; right; exact ⟨by omega, e', rfl⟩
theorem blockP_mv {L M : List Tok} {K d c : Nat} (H : Mv L M K d) {row row' : Nat → Nat → Nat → TR} (hf : FwdT 0 row) (hr : MvR K d c row row') : MvT K d c (blockP L row) (blockP M row') := by
  intro b p n l q m h hq hn
  have hfw := (blockP_fwd hf _ _ _ _ _ _ h).1
  unfold blockP at h ⊢
  split at h
  · cases h
  · rename_i g1
    split at h
    · cases h
    · rename_i g2
      rcases e : row (b + 1) (p + 1) n with e1 | ⟨y, r, i⟩
      · rw [e] at h; cases h
      · rw [e] at h; simp only at h
        cases h
        have k := (H p (by omega)).2.1
        rw [if_neg (by rw [k]; exact g1), if_neg g2, show d + p + 1 = d + (p + 1) from rfl]
        rcases hr _ _ _ _ _ _ e (by omega) hn with ⟨h1, h2⟩ | ⟨h1, e', h2⟩
        · rw [h2]; left; exact ⟨h1, rfl⟩
        · rw [h2]; right; exact ⟨h1, e', rfl⟩
theorem otherP_mv {L M : List Tok} {K d c : Nat} (H : Mv L M K d) {row row' ch ch' : Nat → Nat → Nat → TR} (hf : FwdT 0 row) (hfc : FwdT 1 ch) (hr : MvR K d c row row') (hc : MvT K d c ch ch') : MvT K d c (otherP L row ch) (otherP M row' ch') := by
  intro b p n l q m h hq hn
  have hfw := (otherP_fwd hf hfc _ _ _ _ _ _ h).1
  have k := (H p (by omega)).2.1
  unfold otherP at h ⊢
  split at h
  · rename_i g1
    rw [if_pos (by rw [k]; exact g1)]
    exact blockP_mv H hf hr _ _ _ _ _ _ h hq hn
  · rename_i g1
    rw [if_neg (by rw [k]; exact g1)]
    split at h
    · cases h
    · rename_i g2
      rw [if_neg g2]
      exact hc _ _ _ _ _ _ h hq hn
/-- at the end of what was read the one tells an else just if the other does -/
def ElseAt (L M : List Tok) (K d : Nat) : Prop := (tk M (d + K)).text = [101, 108, 115, 101] ↔ (tk L K).text = [101, 108, 115, 101]
theorem ElseAt.at {L M : List Tok} {K d : Nat} (H : Mv L M K d) (hE : ElseAt L M K d) {r : Nat} (hr : r ≤ K) : (tk M (d + r)).text = [101, 108, 115, 101] ↔ (tk L r).text = [101, 108, 115, 101] := by
  rcases Nat.lt_or_ge r K with h | h
  · rw [(H r h).2.1]
  · obtain rfl : r = K := by omega
    exact hE
theorem chooseP_mv {L M : List Tok} {K d c : Nat} (H : Mv L M K d) (hl : L.length ≤ M.length) (hE : ElseAt L M K d) {row row' ch ch' : Nat → Nat → Nat → TR} (hf : FwdT 0 row) (hfc : FwdT 1 ch) (hcr : CtsT row) (hcc : CtsT ch) (hr : MvR K d c row row') (hc : MvT K d c ch ch') : MvT K d c (chooseP L row ch) (chooseP M row' ch') := by
  intro b p n l q m h hq hn
  have hct := chooseP_cts hcr hcc _ _ _ _ _ _ h
  unfold chooseP at h ⊢
  rcases e : withinT L [40] [41] (p + 1) n with e1 | ⟨y, r, i⟩
  · rw [e] at h; cases h
  · rw [e] at h; simp only at h
    rcases e2 : blockP L row b r i with e1 | ⟨z, r2, i2⟩
    · rw [e2] at h; cases h
    · rw [e2] at h; simp only at h
      have f1 := (blockP_fwd hf _ _ _ _ _ _ e2).1
      have c1 := withinT_cts e
      have c2 := blockP_cts hcr _ _ _ _ _ _ e2
      rw [show d + p + 1 = d + (p + 1) from rfl]
      split at h
      · rename_i g
        rcases e3 : otherP L row ch b (r2 + 1) i2 with e1 | ⟨u, r3, i3⟩
        · rw [e3] at h; cases h
        · rw [e3] at h; simp only at h
          have f2 := (otherP_fwd hf hfc _ _ _ _ _ _ e3).1
          have c3 := otherP_cts hcr hcc _ _ _ _ _ _ e3
          obtain ⟨g1, g2, g3⟩ := mkS_cnt h
          rcases withinT_mv (c := c) H hl e (by omega) hn with ⟨h1, h2⟩ | ⟨h1, e', h2⟩
          · rw [h2]; simp only
            rcases blockP_mv H hf hr _ _ _ _ _ _ e2 (by omega) h1 with ⟨h3, h4⟩ | ⟨h3, e', h4⟩
            · rw [h4]; simp only
              rw [if_pos ((hE.at H (by omega)).2 g), show d + r2 + 1 = d + (r2 + 1) from rfl]
              rcases otherP_mv H hf hfc hr hc _ _ _ _ _ _ e3 (by omega) h3 with ⟨h5, h6⟩ | ⟨h5, e', h6⟩
              · rw [h6]; exact mkS_mv c d h
              · rw [h6]; right; exact ⟨by omega, e', rfl⟩
            · rw [h4]; right; exact ⟨by omega, e', rfl⟩
          · rw [h2]; right; exact ⟨by omega, e', rfl⟩
      · rename_i g
        obtain ⟨g1, g2, g3⟩ := mkS_cnt h
        rcases withinT_mv (c := c) H hl e (by omega) hn with ⟨h1, h2⟩ | ⟨h1, e', h2⟩
        · rw [h2]; simp only
          rcases blockP_mv H hf hr _ _ _ _ _ _ e2 (by omega) h1 with ⟨h3, h4⟩ | ⟨h3, e', h4⟩
          · rw [h4]; simp only
            rw [if_neg (fun x => g ((hE.at H (by omega)).1 x))]
            exact mkS_mv c d h
          · rw [h4]; right; exact ⟨by omega, e', rfl⟩
        · rw [h2]; right; exact ⟨by omega, e', rfl⟩
theorem repeatP_mv {L M : List Tok} {K d c : Nat} (H : Mv L M K d) (hl : L.length ≤ M.length) {row row' : Nat → Nat → Nat → TR} (hf : FwdT 0 row) (hcr : CtsT row) (hr : MvR K d c row row') : MvT K d c (repeatP L row) (repeatP M row') := by
  intro b p n l q m h hq hn
  unfold repeatP at h ⊢
  rcases e : withinT L [40] [41] (p + 1) n with e1 | ⟨y, r, i⟩
  · rw [e] at h; cases h
  · rw [e] at h; simp only at h
    rcases e2 : blockP L row b r i with e1 | ⟨z, r2, i2⟩
    · rw [e2] at h; cases h
    · rw [e2] at h; simp only at h
      have f1 := (blockP_fwd hf _ _ _ _ _ _ e2).1
      have c2 := blockP_cts hcr _ _ _ _ _ _ e2
      obtain ⟨g1, g2, g3⟩ := mkS_cnt h
      rw [show d + p + 1 = d + (p + 1) from rfl]
      rcases withinT_mv (c := c) H hl e (by omega) hn with ⟨h1, h2⟩ | ⟨h1, e', h2⟩
      · rw [h2]; simp only
        rcases blockP_mv H hf hr _ _ _ _ _ _ e2 (by omega) h1 with ⟨h3, h4⟩ | ⟨h3, e', h4⟩
        · rw [h4]; exact mkS_mv c d h
        · rw [h4]; right; exact ⟨by omega, e', rfl⟩
      · rw [h2]; right; exact ⟨by omega, e', rfl⟩
theorem stmtP_mv {L M : List Tok} {K d c : Nat} (H : Mv L M K d) (hl : L.length ≤ M.length) (hE : ElseAt L M K d) {row row' ch ch' : Nat → Nat → Nat → TR} (hf : FwdT 0 row) (hfc : FwdT 1 ch) (hcr : CtsT row) (hcc : CtsT ch) (hr : MvR K d c row row') (hc : MvT K d c ch ch') : MvT K d c (stmtP L row ch) (stmtP M row' ch') := by
  intro b p n l q m h hq hn
  have hfw := (stmtP_fwd hf hfc _ _ _ _ _ _ h).1
  obtain ⟨k1, k2, k3⟩ := H p (by omega)
  unfold stmtP at h ⊢
  rw [k1, k2]
  split at h
  · rename_i g; rw [if_pos g]
    unfold setP at h ⊢
    rw [k2, show d + p + 1 = d + (p + 1) from rfl]
    exact ofPart_mv c d h (fun x i e => valueP_mv H hl e hq hn)
  rename_i g; rw [if_neg g]
  split at h
  · rename_i g; rw [if_pos g]
    unfold declareP at h ⊢
    split at h
    · cases h
    · rename_i g2
      obtain ⟨x, i, hx, _⟩ := ofPart_cts h
      have f := (valueP_fwd hx).1
      obtain ⟨j1, j2, j3⟩ := H (p + 1) (by omega)
      rw [show d + p + 1 = d + (p + 1) from rfl, if_neg (by rw [j1]; exact g2), j2, show d + p + 2 = d + (p + 2) from rfl]
      exact ofPart_mv c d h (fun x i e => valueP_mv H hl e hq hn)
  rename_i g; rw [if_neg g]
  split at h
  · rename_i g; rw [if_pos g]
    unfold storeP at h ⊢
    rcases e : withinT L [91] [93] (p + 1) n with e1 | ⟨y, r, i⟩
    · rw [e] at h; cases h
    · rw [e] at h; simp only at h
      rcases e2 : valueP L r i with e1 | ⟨z, r2, i2⟩
      · rw [e2] at h; cases h
      · rw [e2] at h; simp only at h
        obtain ⟨g1, g2, g3⟩ := mkS_cnt h
        have f1 := (valueP_fwd e2).1
        have c2 := valueP_cts e2
        rw [show d + p + 1 = d + (p + 1) from rfl]
        rcases withinT_mv (c := c) H hl e (by omega) hn with ⟨h1, h2⟩ | ⟨h1, e', h2⟩
        · rw [h2]; simp only
          rcases valueP_mv (c := c) H hl e2 (by omega) h1 with ⟨h3, h4⟩ | ⟨h3, e', h4⟩
          · rw [h4]; exact mkS_mv c d h
          · rw [h4]; right; exact ⟨by omega, e', rfl⟩
        · rw [h2]; right; exact ⟨by omega, e', rfl⟩
  rename_i g; rw [if_neg g]
  split at h
  · rename_i g; rw [if_pos g]
    unfold tellP at h ⊢
    rw [show d + p + 1 = d + (p + 1) from rfl]
    exact ofPart_mv c d h (fun x i e => lastP_mv H hl e hq hn)
  rename_i g; rw [if_neg g]
  split at h
  · rename_i g; rw [if_pos g]
    unfold tellP at h ⊢
    rw [show d + p + 1 = d + (p + 1) from rfl]
    exact ofPart_mv c d h (fun x i e => lastP_mv H hl e hq hn)
  rename_i g; rw [if_neg g]
  split at h
  · rename_i g; rw [if_pos g]
    unfold intoP at h ⊢
    split at h
    · cases h
    split at h
    · cases h
    · rename_i g2 g3
      obtain ⟨x, i, hx, _⟩ := ofPart_cts h
      have f := (lastP_fwd hx).1
      obtain ⟨j1, j2, j3⟩ := H (p + 1) (by omega)
      rw [show d + p + 1 = d + (p + 1) from rfl, if_neg (by rw [j3]; exact g2), if_neg (by rw [j1]; exact g3), j3, show d + p + 2 = d + (p + 2) from rfl]
      exact ofPart_mv c d h (fun x i e => lastP_mv H hl e hq hn)
  rename_i g; rw [if_neg g]
  split at h
  · rename_i g; rw [if_pos g]
    unfold stopP at h ⊢
    split at h
    · cases h
    · rename_i g2
      obtain ⟨g1, g3, g4⟩ := mkS_cnt h
      obtain ⟨j1, j2, j3⟩ := H (p + 1) (by omega)
      rw [show d + p + 1 = d + (p + 1) from rfl, if_neg (by rw [j2]; exact g2), show d + p + 2 = d + (p + 2) from rfl]
      exact mkS_mv c d h
  rename_i g; rw [if_neg g]
  split at h
  · rename_i g; rw [if_pos g]; exact chooseP_mv H hl hE hf hfc hcr hcc hr hc _ _ _ _ _ _ h hq hn
  rename_i g; rw [if_neg g]
  split at h
  · rename_i g; rw [if_pos g]; exact repeatP_mv H hl hf hcr hr _ _ _ _ _ _ h hq hn
  · cases h
theorem stmtF_mv {L M : List Tok} {K d c : Nat} (H : Mv L M K d) (hl : L.length ≤ M.length) (hE : ElseAt L M K d) : ∀ f f', f ≤ f' → MvT K d c (stmtF L f 0) (stmtF M f' 0) ∧ MvR K d c (stmtF L f 1) (stmtF M f' 1) ∧ MvT K d c (stmtF L f 2) (stmtF M f' 2) := by
  intro f
  induction f with
  | zero => intro f' _; exact ⟨fun _ _ _ _ _ _ h => (by cases h), fun _ _ _ _ _ _ h => (by cases h), fun _ _ _ _ _ _ h => (by cases h)⟩
  | succ f ih =>
    intro f' hf
    cases f' with
    | zero => omega
    | succ f' =>
      obtain ⟨i0, i1, i2⟩ := ih f' (by omega)
      obtain ⟨F0, F1, F2⟩ := stmtF_fwd L f
      obtain ⟨C0, C1, C2⟩ := stmtF_cts L f
      refine ⟨stmtP_mv H hl hE F1 F2 C1 C2 i1 i2, ?_, chooseP_mv H hl hE F1 F2 C1 C2 i1 i2⟩
      intro b p n l q m h hq hn
      have hfw := ((stmtF_fwd L (f + 1)).2.1 _ _ _ _ _ _ h).1
      have k2 := (H p (by omega)).2.1
      rw [stmtF_row] at h ⊢
      rw [k2]
      split at h
      · rename_i g; rw [if_pos g]; cases h; left; exact ⟨hn, rfl⟩
      · rename_i g; rw [if_neg g]
        rcases e : stmtF L f 0 b p n with e1 | ⟨y, r, i⟩
        · rw [e] at h; cases h
        · rw [e] at h; simp only at h
          rcases e2 : stmtF L f 1 b r i with e1 | ⟨z, r2, i3⟩
          · rw [e2] at h; cases h
          · rw [e2] at h; simp only at h
            cases h
            have f1 := (F1 _ _ _ _ _ _ e2).1
            have c1 := C1 _ _ _ _ _ _ e2
            rcases i0 _ _ _ _ _ _ e (by omega) hn with ⟨h1, h2⟩ | ⟨h1, e', h2⟩
            · rw [h2]; simp only
              rcases i1 _ _ _ _ _ _ e2 hq h1 with ⟨h3, h4⟩ | ⟨h3, e', h4⟩
              · rw [h4]; left; exact ⟨h3, rfl⟩
              · rw [h4]; right; exact ⟨h3, e', rfl⟩
            · rw [h2]; right; exact ⟨by omega, e', rfl⟩
end Go.Proofs.YtnofibjchhcmeabDoor
namespace Go.Proofs.YtnofibjchhcmeabDoor
open Go.RowKit Go.Maps
set_option linter.unusedVariables false

theorem tokOf_er {R : List UInt8} {o : Nat} {e : Int} (hR : R ≠ []) (h : tokOf R = .inr (o, e)) : e ≠ 0 := by
  cases R with
  | nil => exact absurd rfl hR
  | cons b T =>
    change (if isD b = true then numTok (b :: T) else if isL b = true then wordTok (b :: T) else signTok (b :: T)) = _ at h
    split at h
    · unfold numTok at h
      simp only at h
      split at h
      · cases h; decide
      · split at h
        · cases h; decide
        · cases h
    · split at h
      · unfold wordTok at h
        simp only at h
        split at h
        · cases h
        · split at h
          · cases h; decide
          · cases h
      · unfold signTok at h
        simp only at h
        split at h
        · cases h; decide
        · cases h
theorem cutG_er : ∀ (f p : Nat) (R : List UInt8) (k : Nat) (e : Int), R.length < f → cutG f p R = .inr (k, e) → e ≠ 0 := by
  intro f
  induction f with
  | zero => intro p R k e h; omega
  | succ f ih =>
    intro p R k e hl h
    cases R with
    | nil => cases h
    | cons b T =>
      unfold cutG at h
      rcases ht : tokOf (b :: T) with ⟨kd, m, n⟩ | ⟨o, er⟩
      · rw [ht] at h
        simp only at h
        have hn := (tokOf_tok ht).1
        rcases hc : cutG f (p + n + gapLen ((b :: T).drop n)) (((b :: T).drop n).drop (gapLen ((b :: T).drop n))) with l | ⟨k', e'⟩
        · rw [hc] at h; cases h
        · rw [hc] at h
          cases h
          refine ih _ _ _ _ ?_ hc
          simp only [List.length_drop, List.length_cons] at hl ⊢
          omega
      · rw [ht] at h
        cases h
        exact tokOf_er (by simp) ht
theorem cut_er {s : List UInt8} {k : Nat} {e : Int} (h : cut s = .inr (k, e)) : e ≠ 0 := by
  unfold cut at h
  split at h
  · cases h; decide
  · exact cutG_er _ _ _ _ _ (by simp only [List.length_drop]; omega) h
set_option maxRecDepth 100000 in
set_option maxHeartbeats 8000000 in
theorem parse_err (s : ByteArray) (w : World) (k : Nat) (er : Int) (her : er ≠ 0) (hcut : cut s.data.toList = .inr (k, er)) (hm : s.size ≤ maxLen) :
    Calls Tryd.prog 19 #[.string s] w (PPost w (.error (k, er))) := by
  have hmf : ∀ (fn : Fn) (first cap : Array Value) (w : World), (Instr.makeFunc fn first cap).run Tryd.prog w = .ok (.func fn first cap) w := fun _ _ _ _ => rfl
  have HRR : Hid (Res3 (((w.alloc (.cells #[.slice none 0 0] 27)).alloc (.cells #[.int .i64 0] 3)).alloc (.cells #[.int .i64 0] 31)) w.heap.size (.slice none 0 0) (.int .i64 0) (.int .i64 0)) := Res3.new w (.slice none 0 0) (.int .i64 0) (.int .i64 0) 27 3 31
  have HBB : Hid (Below w.heap.size w (((w.alloc (.cells #[.slice none 0 0] 27)).alloc (.cells #[.int .i64 0] 3)).alloc (.cells #[.int .i64 0] 31))) := below3 w _ _ _ _ _ _
  have hws : (((w.alloc (.cells #[.slice none 0 0] 27)).alloc (.cells #[.int .i64 0] 3)).alloc (.cells #[.int .i64 0] 31)).heap.size = w.heap.size + 3 := by simp
  have HCUT : Hid (Calls Tryd.prog 30 #[.string s] (((w.alloc (.cells #[.slice none 0 0] 27)).alloc (.cells #[.int .i64 0] 3)).alloc (.cells #[.int .i64 0] 31)) fun e w' => CutPost (((w.alloc (.cells #[.slice none 0 0] 27)).alloc (.cells #[.int .i64 0] 3)).alloc (.cells #[.int .i64 0] 31)) (.inr (k, er)) e w') := by have := cut_any s (((w.alloc (.cells #[.slice none 0 0] 27)).alloc (.cells #[.int .i64 0] 3)).alloc (.cells #[.int .i64 0] 31)) hm; rw [hcut] at this; exact this
  obtain ⟨P, hP⟩ : ∃ P, PPost w (.error (k, er)) = P := ⟨_, rfl⟩
  have HP : Hid (PPost w (.error (k, er)) = P) := hP
  rw [hP]
  have e1 : (er != 0) = true := by simpa using her
  clear hcut hm hP her
  go_enter_defers Tryd.func19, Tryd.ntmps19
  go_wp2_with fail
  refine HCUT.out.mono ?_
  rintro e w1 ⟨rfl, hb1⟩
  rw [hws] at hb1
  have R1 : Res3 w1 w.heap.size (.slice none 0 0) (.int .i64 0) (.int .i64 0) := HRR.out.keep (fun k _ hk => hb1.block k (by omega)) hb1.size
  have HB1 : Hid (Below w.heap.size w w1) := HBB.out.trans (hb1.mono (by omega))
  obtain ⟨x0, x1, x2, y0, y1, y2, hlt1⟩ := R1
  have x2' : w1.cell? ⟨w.heap.size + 1 + 1, 0, none⟩ = some (.int .i64 0) := x2
  have y2' : w1.frozen? ⟨w.heap.size + 1 + 1, 0, none⟩ = false := y2
  clear hb1 HCUT HRR HBB hws
  go_wp2_with fail
  have q1 : ∀ (u : World) (x y : Nat) (v : Value), x ≠ y → (u.setCell ⟨x, 0, none⟩ v).cell? ⟨y, 0, none⟩ = u.cell? ⟨y, 0, none⟩ := fun u x y v hne => World.cell?_setCell_other u _ _ _ (by intro e; cases e; exact hne rfl)
  generalize hV : (w1.setCell ⟨w.heap.size + 1, 0, none⟩ (.int .i64 (k : Int))).setCell ⟨w.heap.size + 1 + 1, 0, none⟩ (.int .i64 er) = V
  have v0 : V.cell? ⟨w.heap.size, 0, none⟩ = some (.slice none 0 0) := by rw [← hV, q1 _ _ _ _ (by omega), q1 _ _ _ _ (by omega)]; exact x0
  have v1 : V.cell? ⟨w.heap.size + 1, 0, none⟩ = some (.int .i64 (k : Int)) := by rw [← hV, q1 _ _ _ _ (by omega)]; exact World.cell?_setCell_same _ _ _ x1
  have v2 : V.cell? ⟨w.heap.size + 1 + 1, 0, none⟩ = some (.int .i64 er) := by rw [← hV]; exact World.cell?_setCell_same _ _ _ ((q1 _ _ _ _ (by omega)).trans x2')
  have g0 : V.frozen? ⟨w.heap.size, 0, none⟩ = false := by rw [← hV]; simpa using y0
  have g1 : V.frozen? ⟨w.heap.size + 1, 0, none⟩ = false := by rw [← hV]; simpa using y1
  have g2 : V.frozen? ⟨w.heap.size + 1 + 1, 0, none⟩ = false := by rw [← hV]; simpa using y2'
  have HV : Hid (Below w.heap.size w V) := by
    show Below _ _ _
    rw [← hV]
    exact (HB1.out.setCell (p := ⟨w.heap.size + 1, 0, none⟩) (by show w.heap.size ≤ w.heap.size + 1; omega) _).setCell (p := ⟨w.heap.size + 1 + 1, 0, none⟩) (by show w.heap.size ≤ w.heap.size + 1 + 1; omega) _
  have HVS : Hid (w.heap.size + 2 < V.heap.size) := by show _ < _; rw [← hV]; simpa [World.setCell] using hlt1
  clear hV x0 x1 x2 x2' y0 y1 y2 y2' hlt1
  have HE : Hid (∀ U : World, U.cell? ⟨w.heap.size, 0, none⟩ = some (.slice none 0 0) → U.cell? ⟨w.heap.size + 1, 0, none⟩ = some (.int .i64 (k : Int)) → U.cell? ⟨w.heap.size + 1 + 1, 0, none⟩ = some (.int .i64 er) → w.heap.size + 2 < U.heap.size →
      (U.alloc (.cells #[.int .i64 0, .int .i64 0] 60)).cell? ⟨w.heap.size, 0, none⟩ = some (.slice none 0 0) ∧ (U.alloc (.cells #[.int .i64 0, .int .i64 0] 60)).cell? ⟨w.heap.size + 1, 0, none⟩ = some (.int .i64 (k : Int)) ∧ (U.alloc (.cells #[.int .i64 0, .int .i64 0] 60)).cell? ⟨w.heap.size + 2, 0, none⟩ = some (.int .i64 er)) := by
    intro U h0 h1 h2 hs
    refine ⟨?_, ?_, ?_⟩
    · rw [World.cell?_of_block (a := ⟨w.heap.size, 0, none⟩) (Below.heap_alloc _ _ _ (by show w.heap.size < _; omega))]; exact h0
    · rw [World.cell?_of_block (a := ⟨w.heap.size + 1, 0, none⟩) (Below.heap_alloc _ _ _ (by show w.heap.size + 1 < _; omega))]; exact h1
    · rw [World.cell?_of_block (a := ⟨w.heap.size + 2, 0, none⟩) (Below.heap_alloc _ _ _ (by show w.heap.size + 2 < _; omega))]; exact h2
  have F1 : Hid ((V.setCell ⟨w.heap.size, 0, none⟩ (.slice none 0 0)).cell? ⟨w.heap.size, 0, none⟩ = some (.slice none 0 0) ∧ (V.setCell ⟨w.heap.size, 0, none⟩ (.slice none 0 0)).cell? ⟨w.heap.size + 1, 0, none⟩ = some (.int .i64 (k : Int)) ∧ (V.setCell ⟨w.heap.size, 0, none⟩ (.slice none 0 0)).cell? ⟨w.heap.size + 1 + 1, 0, none⟩ = some (.int .i64 er)) := ⟨World.cell?_setCell_same _ _ _ v0, (q1 _ _ _ _ (by omega)).trans v1, (q1 _ _ _ _ (by omega)).trans v2⟩
  have F2 : Hid (((V.setCell ⟨w.heap.size, 0, none⟩ (.slice none 0 0)).setCell ⟨w.heap.size + 1, 0, none⟩ (.int .i64 (k : Int))).cell? ⟨w.heap.size, 0, none⟩ = some (.slice none 0 0) ∧ ((V.setCell ⟨w.heap.size, 0, none⟩ (.slice none 0 0)).setCell ⟨w.heap.size + 1, 0, none⟩ (.int .i64 (k : Int))).cell? ⟨w.heap.size + 1, 0, none⟩ = some (.int .i64 (k : Int)) ∧ ((V.setCell ⟨w.heap.size, 0, none⟩ (.slice none 0 0)).setCell ⟨w.heap.size + 1, 0, none⟩ (.int .i64 (k : Int))).cell? ⟨w.heap.size + 1 + 1, 0, none⟩ = some (.int .i64 er)) := ⟨(q1 _ _ _ _ (by omega)).trans F1.out.1, World.cell?_setCell_same _ _ _ F1.out.2.1, (q1 _ _ _ _ (by omega)).trans F1.out.2.2⟩
  have F3 : Hid ((((V.setCell ⟨w.heap.size, 0, none⟩ (.slice none 0 0)).setCell ⟨w.heap.size + 1, 0, none⟩ (.int .i64 (k : Int))).setCell ⟨w.heap.size + 1 + 1, 0, none⟩ (.int .i64 er)).cell? ⟨w.heap.size, 0, none⟩ = some (.slice none 0 0) ∧ (((V.setCell ⟨w.heap.size, 0, none⟩ (.slice none 0 0)).setCell ⟨w.heap.size + 1, 0, none⟩ (.int .i64 (k : Int))).setCell ⟨w.heap.size + 1 + 1, 0, none⟩ (.int .i64 er)).cell? ⟨w.heap.size + 1, 0, none⟩ = some (.int .i64 (k : Int)) ∧ (((V.setCell ⟨w.heap.size, 0, none⟩ (.slice none 0 0)).setCell ⟨w.heap.size + 1, 0, none⟩ (.int .i64 (k : Int))).setCell ⟨w.heap.size + 1 + 1, 0, none⟩ (.int .i64 er)).cell? ⟨w.heap.size + 1 + 1, 0, none⟩ = some (.int .i64 er)) := ⟨(q1 _ _ _ _ (by omega)).trans F2.out.1, (q1 _ _ _ _ (by omega)).trans F2.out.2.1, World.cell?_setCell_same _ _ _ F2.out.2.2⟩
  have HB3 : Hid (Below w.heap.size w (((V.setCell ⟨w.heap.size, 0, none⟩ (.slice none 0 0)).setCell ⟨w.heap.size + 1, 0, none⟩ (.int .i64 (k : Int))).setCell ⟨w.heap.size + 1 + 1, 0, none⟩ (.int .i64 er)) ∧ w.heap.size + 2 < (((V.setCell ⟨w.heap.size, 0, none⟩ (.slice none 0 0)).setCell ⟨w.heap.size + 1, 0, none⟩ (.int .i64 (k : Int))).setCell ⟨w.heap.size + 1 + 1, 0, none⟩ (.int .i64 er)).heap.size) := ⟨((HV.out.setCell (p := ⟨w.heap.size, 0, none⟩) (Nat.le_refl _) _).setCell (p := ⟨w.heap.size + 1, 0, none⟩) (by show w.heap.size ≤ w.heap.size + 1; omega) _).setCell (p := ⟨w.heap.size + 1 + 1, 0, none⟩) (by show w.heap.size ≤ w.heap.size + 1 + 1; omega) _, by simpa [World.setCell] using HVS.out⟩
  clear q1
  go_region_held3 (fun w' => w'.cell? ⟨w.heap.size, 0, none⟩ = some (.slice none 0 0) ∧ w'.cell? ⟨w.heap.size + 1, 0, none⟩ = some (.int .i64 (k : Int)) ∧ w'.cell? ⟨w.heap.size + 1 + 1, 0, none⟩ = some (.int .i64 er)) (first | exact ⟨v0, v1, v2⟩ | exact F1.out | exact F2.out | exact F3.out) (fail)
  go_wp2
  refine leaves_cons (f := 29) (args := #[.pointer (some ⟨w.heap.size, 0, none⟩), .pointer (some ⟨w.heap.size + 1, 0, none⟩), .pointer (some ⟨w.heap.size + 2, 0, none⟩)]) (by simp) (by simp [go_sem]) ?_
  refine (tcatch_idle _ _ _ _).mono ?_
  rintro e u' w7 ⟨rfl, rfl, rfl⟩
  obtain ⟨z0, z1, z2⟩ := HE.out (((V.setCell ⟨w.heap.size, 0, none⟩ (.slice none 0 0)).setCell ⟨w.heap.size + 1, 0, none⟩ (.int .i64 (k : Int))).setCell ⟨w.heap.size + 1 + 1, 0, none⟩ (.int .i64 er)).drew F3.out.1 F3.out.2.1 F3.out.2.2 HB3.out.2
  have HF : Hid (P (.returned (.tuple #[.slice none 0 0, .int .i64 (k : Int), .int .i64 er])) (((((V.setCell ⟨w.heap.size, 0, none⟩ (.slice none 0 0)).setCell ⟨w.heap.size + 1, 0, none⟩ (.int .i64 (k : Int))).setCell ⟨w.heap.size + 1 + 1, 0, none⟩ (.int .i64 er)).drew).alloc (.cells #[.int .i64 0, .int .i64 0] 60))) := by
    show P _ _
    rw [← HP.out]
    exact ⟨rfl, (show Below w.heap.size w ((((V.setCell ⟨w.heap.size, 0, none⟩ (.slice none 0 0)).setCell ⟨w.heap.size + 1, 0, none⟩ (.int .i64 (k : Int))).setCell ⟨w.heap.size + 1 + 1, 0, none⟩ (.int .i64 er)).drew) from ⟨HB3.out.1.os, HB3.out.1.tape, HB3.out.1.output, HB3.out.1.size, HB3.out.1.block⟩).alloc (Nat.le_trans (Nat.le_add_right _ 2) (Nat.le_of_lt HB3.out.2)) _⟩
  generalize (((((V.setCell ⟨w.heap.size, 0, none⟩ (.slice none 0 0)).setCell ⟨w.heap.size + 1, 0, none⟩ (.int .i64 (k : Int))).setCell ⟨w.heap.size + 1 + 1, 0, none⟩ (.int .i64 er)).drew).alloc (.cells #[.int .i64 0, .int .i64 0] 60)) = w7 at z0 z1 z2 HF ⊢
  simp [Leaves, settle, results, Tryd.results19, go_sem, z0, z1, z2]
  exact HF.out
/-- Parse of any text -/
theorem tparse_any (s : ByteArray) (w : World) (hm : s.size ≤ maxLen) (hsg : ∃ A t fr, SA A ∧ w.heap[0]? = some (.cells A t fr)) : Calls Tryd.prog 19 #[.string s] w (PPost w (parseT s.data.toList)) := by
  unfold parseT
  rcases e : cut s.data.toList with L | ⟨k, er⟩
  · have := parse_all s w L e hm hsg
    rcases e2 : textF L (L.length + 1) 0 0 with ⟨a, b⟩ | ⟨l, q, m⟩
    · rw [e2] at this; simp only; rw [e2]; exact this
    · rw [e2] at this; simp only; rw [e2]; exact this
  · exact parse_err s w k er (cut_er e) e hm
end Go.Proofs.YtnofibjchhcmeabDoor
namespace Go.Proofs.YtnofibjchhcmeabDoor
open Go.RowKit
set_option linter.unusedVariables false

/-- what is read ends ahead of the last token -/
def InT (L : List Tok) (r : Nat → Nat → Nat → TR) : Prop := ∀ b p n l q m, r b p n = .ok (l, q, m) → q < L.length
def InR (L : List Tok) (r : Nat → Nat → Nat → TR) : Prop := ∀ b p n l q m, r b p n = .ok (l, q, m) → (tk L q).text = [125]
theorem lastP_in {L : List Tok} (hE : TEnd L) {p n : Nat} {x : PE} {q m : Nat} (h : lastP L p n = .ok (x, q, m)) : q < L.length := by
  unfold lastP at h
  rcases e : ex1 L p 0 n with e1 | ⟨y, r, i⟩
  · rw [e] at h; cases h
  · rw [e] at h; simp only at h
    split at h
    · cases h
    · rename_i g
      cases h
      exact hE.text (by rw [Decidable.of_not_not g]; simp)
theorem valueP_in {L : List Tok} (hE : TEnd L) {p n : Nat} {x : PE} {q m : Nat} (h : valueP L p n = .ok (x, q, m)) : q < L.length := by
  unfold valueP at h
  split at h
  · cases h
  · exact lastP_in hE h
theorem blockP_in {L : List Tok} (hE : TEnd L) {row : Nat → Nat → Nat → TR} (hr : InR L row) : InT L (blockP L row) := by
  intro b p n x q m h
  unfold blockP at h
  split at h
  · cases h
  · split at h
    · cases h
    · rcases e : row (b + 1) (p + 1) n with e1 | ⟨y, r, i⟩
      · rw [e] at h; cases h
      · rw [e] at h; simp only at h
        have h1 := hr _ _ _ _ _ _ e
        cases h; exact hE.text (by rw [h1]; simp)
theorem otherP_in {L : List Tok} (hE : TEnd L) {row ch : Nat → Nat → Nat → TR} (hr : InR L row) (hc : InT L ch) : InT L (otherP L row ch) := by
  intro b p n x q m h
  unfold otherP at h
  split at h
  · exact blockP_in hE hr _ _ _ _ _ _ h
  · split at h
    · cases h
    · exact hc _ _ _ _ _ _ h
theorem chooseP_in {L : List Tok} (hE : TEnd L) {row ch : Nat → Nat → Nat → TR} (hr : InR L row) (hc : InT L ch) : InT L (chooseP L row ch) := by
  intro b p n x q m h
  unfold chooseP at h
  rcases e : withinT L [40] [41] (p + 1) n with e1 | ⟨y, r, i⟩
  · rw [e] at h; cases h
  · rw [e] at h; simp only at h
    rcases e2 : blockP L row b r i with e1 | ⟨z, r2, i2⟩
    · rw [e2] at h; cases h
    · rw [e2] at h; simp only at h
      have h3 := blockP_in hE hr _ _ _ _ _ _ e2
      split at h
      · rcases e3 : otherP L row ch b (r2 + 1) i2 with e1 | ⟨u, r3, i3⟩
        · rw [e3] at h; cases h
        · rw [e3] at h; simp only at h
          have h5 := otherP_in hE hr hc _ _ _ _ _ _ e3
          obtain ⟨g1, g2, g3⟩ := mkS_cnt h
          omega
      · obtain ⟨g1, g2, g3⟩ := mkS_cnt h
        omega
theorem repeatP_in {L : List Tok} (hE : TEnd L) {row : Nat → Nat → Nat → TR} (hr : InR L row) : InT L (repeatP L row) := by
  intro b p n x q m h
  unfold repeatP at h
  rcases e : withinT L [40] [41] (p + 1) n with e1 | ⟨y, r, i⟩
  · rw [e] at h; cases h
  · rw [e] at h; simp only at h
    rcases e2 : blockP L row b r i with e1 | ⟨z, r2, i2⟩
    · rw [e2] at h; cases h
    · rw [e2] at h; simp only at h
      have h3 := blockP_in hE hr _ _ _ _ _ _ e2
      obtain ⟨g1, g2, g3⟩ := mkS_cnt h
      omega
theorem stmtP_inT {L : List Tok} (hE : TEnd L) {row ch : Nat → Nat → Nat → TR} (hr : InR L row) (hc : InT L ch) : InT L (stmtP L row ch) := by
  intro b p n x q m h
  unfold stmtP at h
  split at h
  · obtain ⟨y, i, h1, h2, h3⟩ := ofPart_cts h; exact valueP_in hE h1
  split at h
  · unfold declareP at h
    split at h
    · cases h
    · obtain ⟨y, i, h1, h2, h3⟩ := ofPart_cts h; exact valueP_in hE h1
  split at h
  · unfold storeP at h
    rcases e : withinT L [91] [93] (p + 1) n with e1 | ⟨y, r, i⟩
    · rw [e] at h; cases h
    · rw [e] at h; simp only at h
      rcases e2 : valueP L r i with e1 | ⟨z, r2, i2⟩
      · rw [e2] at h; cases h
      · rw [e2] at h; simp only at h
        have h3 := valueP_in hE e2
        obtain ⟨g1, g2, g3⟩ := mkS_cnt h
        omega
  split at h
  · obtain ⟨y, i, h1, h2, h3⟩ := ofPart_cts h; exact lastP_in hE h1
  split at h
  · obtain ⟨y, i, h1, h2, h3⟩ := ofPart_cts h; exact lastP_in hE h1
  split at h
  · unfold intoP at h
    split at h
    · cases h
    split at h
    · cases h
    · obtain ⟨y, i, h1, h2, h3⟩ := ofPart_cts h; exact lastP_in hE h1
  split at h
  · unfold stopP at h
    split at h
    · cases h
    · rename_i g
      obtain ⟨g1, g2, g3⟩ := mkS_cnt h
      have := hE.text (p := p + 1) (by rw [Decidable.of_not_not g]; simp)
      omega
  split at h
  · exact chooseP_in hE hr hc _ _ _ _ _ _ h
  split at h
  · exact repeatP_in hE hr _ _ _ _ _ _ h
  · cases h
theorem stmtF_in {L : List Tok} (hE : TEnd L) : ∀ f, InT L (stmtF L f 0) ∧ InR L (stmtF L f 1) ∧ InT L (stmtF L f 2) := by
  intro f
  induction f with
  | zero => exact ⟨fun _ _ _ _ _ _ h => (by cases h), fun _ _ _ _ _ _ h => (by cases h), fun _ _ _ _ _ _ h => (by cases h)⟩
  | succ f ih =>
    obtain ⟨i0, i1, i2⟩ := ih
    refine ⟨stmtP_inT hE i1 i2, ?_, chooseP_in hE i1 i2⟩
    intro b p n x q m h
    rw [stmtF_row] at h
    split at h
    · rename_i g; cases h; exact g
    · rcases e : stmtF L f 0 b p n with e1 | ⟨y, r, i⟩
      · rw [e] at h; cases h
      · rw [e] at h; simp only at h
        rcases e2 : stmtF L f 1 b r i with e1 | ⟨z, r2, i2⟩
        · rw [e2] at h; cases h
        · rw [e2] at h; simp only at h
          have h3 := i1 _ _ _ _ _ _ e2
          cases h
          exact h3
theorem ofPart_one {t : Tok} {k : Int} {s : ByteArray} {c : Int} {r : PR} {l : List PT} {q m : Nat} (h : ofPart t k s c r = .ok (l, q, m)) : l.length = 1 := by
  unfold ofPart at h
  rcases r with e | ⟨x, r, i⟩
  · cases h
  · simp only at h
    rw [(mkS_cnt h).1]; rfl
theorem chooseP_one {L : List Tok} {row ch : Nat → Nat → Nat → TR} {b p n : Nat} {l : List PT} {q m : Nat} (h : chooseP L row ch b p n = .ok (l, q, m)) : l.length = 1 := by
  unfold chooseP at h
  rcases e : withinT L [40] [41] (p + 1) n with e1 | ⟨y, r, i⟩
  · rw [e] at h; cases h
  · rw [e] at h; simp only at h
    rcases e2 : blockP L row b r i with e1 | ⟨z, r2, i2⟩
    · rw [e2] at h; cases h
    · rw [e2] at h; simp only at h
      split at h
      · rcases e3 : otherP L row ch b (r2 + 1) i2 with e1 | ⟨u, r3, i3⟩
        · rw [e3] at h; cases h
        · rw [e3] at h; simp only at h
          rw [(mkS_cnt h).1]; rfl
      · rw [(mkS_cnt h).1]; rfl
theorem stmtP_one {L : List Tok} {row ch : Nat → Nat → Nat → TR} {b p n : Nat} {l : List PT} {q m : Nat} (h : stmtP L row ch b p n = .ok (l, q, m)) : l.length = 1 := by
  unfold stmtP at h
  split at h
  · exact ofPart_one h
  split at h
  · unfold declareP at h
    split at h
    · cases h
    · exact ofPart_one h
  split at h
  · unfold storeP at h
    rcases e : withinT L [91] [93] (p + 1) n with e1 | ⟨y, r, i⟩
    · rw [e] at h; cases h
    · rw [e] at h; simp only at h
      rcases e2 : valueP L r i with e1 | ⟨z, r2, i2⟩
      · rw [e2] at h; cases h
      · rw [e2] at h; simp only at h
        rw [(mkS_cnt h).1]; rfl
  split at h
  · exact ofPart_one h
  split at h
  · exact ofPart_one h
  split at h
  · unfold intoP at h
    split at h
    · cases h
    split at h
    · cases h
    · exact ofPart_one h
  split at h
  · unfold stopP at h
    split at h
    · cases h
    · rw [(mkS_cnt h).1]; rfl
  split at h
  · exact chooseP_one h
  split at h
  · unfold repeatP at h
    rcases e : withinT L [40] [41] (p + 1) n with e1 | ⟨y, r, i⟩
    · rw [e] at h; cases h
    · rw [e] at h; simp only at h
      rcases e2 : blockP L row b r i with e1 | ⟨z, r2, i2⟩
      · rw [e2] at h; cases h
      · rw [e2] at h; simp only at h
        rw [(mkS_cnt h).1]; rfl
  · cases h
theorem stmtT_one {L : List Tok} {b p n : Nat} {l : List PT} {q m : Nat} (h : stmtT L b p n = .ok (l, q, m)) : l.length = 1 := stmtP_one (show stmtP L (stmtF L (2 * L.length + 1) 1) (stmtF L (2 * L.length + 1) 2) b p n = _ from h)

theorem textF_in {L : List Tok} (hE : TEnd L) : ∀ f p n l q m, textF L f p n = .ok (l, q, m) → p < L.length → p + l.length ≤ q ∧ q < L.length := by
  intro f
  induction f with
  | zero => intro p n l q m h; cases h
  | succ f ih =>
    intro p n l q m h hp
    unfold textF at h
    split at h
    · cases h; exact ⟨by simp, hp⟩
    · rcases e : stmtT L 0 p n with e1 | ⟨y, r, i⟩
      · rw [e] at h; cases h
      · rw [e] at h; simp only at h
        rcases e2 : textF L f r i with e1 | ⟨z, r2, i2⟩
        · rw [e2] at h; cases h
        · rw [e2] at h; simp only at h
          cases h
          have o1 := stmtT_one e
          have hr := (stmtF_in hE _).1 _ _ _ _ _ _ e
          have hf := ((stmtF_fwd L _).1 _ _ _ _ _ _ e).1
          have := ih _ _ _ _ _ e2 hr
          rw [List.length_append]
          omega
/-- a text read of the same tokens elsewhere -/
theorem textF_mv {B C : List Tok} {d c : Nat} (H : ∀ K, Mv B C K d) (hl : B.length ≤ C.length) : ∀ f p n l q m, textF B f p n = .ok (l, q, m) → n + c ≤ 600 → ∀ F, l.length + 1 ≤ F →
    (m + c ≤ 600 ∧ textF C F (d + p) (n + c) = .ok (l, d + q, m + c)) ∨ (600 < m + c ∧ ∃ e, textF C F (d + p) (n + c) = .error (e, 42)) := by
  intro f
  induction f with
  | zero => intro p n l q m h; cases h
  | succ f ih =>
    intro p n l q m h hn F hF
    cases F with
    | zero => omega
    | succ F =>
      have k1 := (H (p + 1) p (by omega)).1
      unfold textF at h ⊢
      rw [k1]
      split at h
      · rename_i g; rw [if_pos g]; cases h; left; exact ⟨hn, rfl⟩
      · rename_i g; rw [if_neg g]
        rcases e : stmtT B 0 p n with e1 | ⟨y, r, i⟩
        · rw [e] at h; cases h
        · rw [e] at h; simp only at h
          rcases e2 : textF B f r i with e1 | ⟨z, r2, i2⟩
          · rw [e2] at h; cases h
          · rw [e2] at h; simp only at h
            cases h
            have c1 := textF_cts B _ _ _ _ _ _ e2
            have o1 := stmtT_one e
            rw [List.length_append] at hF
            have hE : ElseAt B C r d := by unfold ElseAt; rw [(H (r + 1) r (by omega)).2.1]
            rcases (stmtF_mv (c := c) (H r) hl hE (2 * B.length + 2) (2 * C.length + 2) (by omega)).1 _ _ _ _ _ _ e (Nat.le_refl _) hn with ⟨h1, h2⟩ | ⟨h1, e', h2⟩
            · rw [show stmtT C 0 (d + p) (n + c) = _ from h2]; simp only
              rcases ih _ _ _ _ _ e2 h1 F (by omega) with ⟨h3, h4⟩ | ⟨h3, e', h4⟩
              · rw [h4]; left; exact ⟨h3, rfl⟩
              · rw [h4]; right; exact ⟨h3, e', rfl⟩
            · rw [show stmtT C 0 (d + p) (n + c) = _ from h2]; right; exact ⟨by omega, e', rfl⟩
/-- the first text's statements, and what comes behind them -/
theorem textF_pre {A C : List Tok} {K : Nat} (hE : TEnd A) (hA : A.length = K + 1) (hk : ∀ i, i < K → (tk A i).kind ≠ 0) (H : Mv A C K 0) (hl : A.length ≤ C.length) (hel : ElseAt A C K 0) (hck : (tk C K).kind = 0 ∨ (tk C K).kind ≠ 0) :
    ∀ f p n l q m, textF A f p n = .ok (l, q, m) → p ≤ K → n ≤ 600 → q = K ∧ p + l.length ≤ K ∧ m ≤ 600 ∧ ∀ F r, textF C F K m = r → textF C (F + l.length) p n = (match r with | .error e => .error e | .ok (l2, q2, m2) => .ok (l ++ l2, q2, m2)) := by
  intro f
  induction f with
  | zero => intro p n l q m h; cases h
  | succ f ih =>
    intro p n l q m h hp hn
    unfold textF at h
    split at h
    · rename_i g
      cases h
      have hpk : p = K := by
        rcases Nat.lt_or_ge p K with h1 | h1
        · exact absurd g (hk p h1)
        · omega
      subst hpk
      refine ⟨rfl, by simp, hn, fun F r hr => ?_⟩
      rw [List.length_nil, Nat.add_zero, hr]
      rcases r with e | ⟨l2, q2, m2⟩ <;> rfl
    · rename_i g
      rcases e : stmtT A 0 p n with e1 | ⟨y, r, i⟩
      · rw [e] at h; cases h
      · rw [e] at h; simp only at h
        rcases e2 : textF A f r i with e1 | ⟨z, r2, i2⟩
        · rw [e2] at h; cases h
        · rw [e2] at h; simp only at h
          cases h
          have o1 := stmtT_one e
          have hr := (stmtF_in hE _).1 _ _ _ _ _ _ e
          have hf := (stmtF_fwd A _).1 _ _ _ _ _ _ e
          obtain ⟨g1, g2, g3, g4⟩ := ih _ _ _ _ _ e2 (by omega) (hf.2 hn)
          have hpK : p < K := by omega
          refine ⟨g1, by rw [List.length_append]; omega, g3, fun F rr hrr => ?_⟩
          rw [List.length_append, o1, show F + (1 + z.length) = (F + z.length) + 1 by omega]
          unfold textF
          have k1 := (H p hpK).1
          rw [Nat.zero_add] at k1
          rw [if_neg (by rw [k1]; exact g)]
          have hs := (stmtF_mv (c := 0) H hl hel (2 * A.length + 2) (2 * C.length + 2) (by omega)).1 _ _ _ _ _ _ e (by omega) (by omega)
          have hs2 : stmtT C 0 p n = .ok (y, r, i) := by
            rcases hs with ⟨h1, h2⟩ | ⟨h1, e', h2⟩
            · unfold stmtT; simpa using h2
            · have := hf.2 hn; omega
          rw [hs2]; simp only
          rw [g4 F rr hrr]
          rcases rr with e | ⟨l2, q2, m2⟩
          · rfl
          · simp only [List.append_assoc]
/-- tokens of a kind -/
theorem cutG_kinds : ∀ (f p : Nat) (R : List UInt8) (l : List Tok), cutG f p R = .inl l → (∀ i, i + 1 < l.length → (tk l i).kind ≠ 0) ∧ (∀ t ∈ l, t.kind = 2 → isW t.text = false) := by
  intro f
  induction f with
  | zero => intro p R l h; cases h
  | succ f ih =>
    intro p R l h
    cases R with
    | nil =>
      cases h
      exact ⟨fun i hi => by simp at hi, fun t ht hk => by simp at ht; subst ht; cases hk⟩
    | cons b T =>
      unfold cutG at h
      rcases ht : tokOf (b :: T) with ⟨kd, m, n⟩ | ⟨o, er⟩
      · rw [ht] at h
        simp only at h
        rcases hc : cutG f (p + n + gapLen ((b :: T).drop n)) (((b :: T).drop n).drop (gapLen ((b :: T).drop n))) with l' | ⟨k', e'⟩
        · rw [hc] at h
          cases h
          obtain ⟨i1, i2⟩ := ih _ _ _ hc
          refine ⟨fun i hi => ?_, fun t htm hk => ?_⟩
          · cases i with
            | zero => exact (tokOf_tok ht).2.2
            | succ i => exact i1 i (by simpa using hi)
          · rcases List.mem_cons.1 htm with rfl | h2
            · simp only at hk ⊢
              subst hk
              change (if isD b = true then numTok (b :: T) else if isL b = true then wordTok (b :: T) else signTok (b :: T)) = _ at ht
              split at ht
              · unfold numTok at ht
                simp only at ht
                split at ht
                · cases ht
                · split at ht
                  · cases ht
                  · injection ht with ht; injection ht with h1 _; cases h1
              · split at ht
                · unfold wordTok at ht
                  simp only at ht
                  split at ht
                  · injection ht with ht; injection ht with h1 _; cases h1
                  · rename_i hw
                    split at ht
                    · cases ht
                    · injection ht with ht; injection ht with _ h1; injection h1 with _ h1; subst h1
                      simpa using hw
                · unfold signTok at ht
                  simp only at ht
                  split at ht
                  · cases ht
                  · injection ht with ht; injection ht with h1 _; cases h1
            · exact i2 t h2 hk
        · rw [hc] at h; cases h
      · rw [ht] at h; cases h
theorem cut_kinds {s : List UInt8} {l : List Tok} (h : cut s = .inl l) : (∀ i, i + 1 < l.length → (tk l i).kind ≠ 0) ∧ (∀ t ∈ l, t.kind = 2 → isW t.text = false) := by
  unfold cut at h
  split at h
  · cases h
  · exact cutG_kinds _ _ _ _ h
/-- what can be read begins with no else -/
theorem no_else {B : List Tok} (hE : TEnd B) (hl : 1 ≤ B.length) (hk : (∀ i, i + 1 < B.length → (tk B i).kind ≠ 0) ∧ (∀ t ∈ B, t.kind = 2 → isW t.text = false)) {f n : Nat} {l : List PT} {q m : Nat} (h : textF B f 0 n = .ok (l, q, m)) : (tk B 0).text ≠ [101, 108, 115, 101] := by
  cases f with
  | zero => cases h
  | succ f =>
    unfold textF at h
    intro hx
    split at h
    · rename_i g
      rcases Nat.lt_or_ge 1 B.length with h1 | h1
      · exact hk.1 0 (by omega) g
      · have := (hE 0 (by omega)).2
        rw [this] at hx; cases hx
    · rename_i g
      rcases e : stmtT B 0 0 n with e1 | ⟨y, r, i⟩
      · rw [e] at h; cases h
      · have e' : stmtP B (stmtF B (2 * B.length + 1) 1) (stmtF B (2 * B.length + 1) 2) 0 0 n = .ok (y, r, i) := e
        have h0 : 0 < B.length := by omega
        have hm : tk B 0 ∈ B := by rw [← tk_eq h0]; exact List.getElem_mem h0
        unfold stmtP at e'
        split at e'
        · rename_i g2
          have := hk.2 _ hm g2
          rw [hx] at this
          exact absurd this (by decide)
        · rw [hx] at e'
          simp at e'
/-- a text behind another one -/
theorem parse_two (s t : List UInt8) (hlen : s.length + 1 + t.length ≤ 8192) (la lb : List PT) (ha : parseT s = .ok la) (hb : parseT t = .ok lb) :
    (tcnts la + tcnts lb ≤ 600 → parseT (s ++ 10 :: t) = .ok (la ++ lb)) ∧ (600 < tcnts la + tcnts lb → ∃ k, parseT (s ++ 10 :: t) = .error (k, 42)) := by
  unfold parseT at ha hb ⊢
  rcases hA : cut s with A | ⟨k, e⟩
  · rcases hB : cut t with B | ⟨k, e⟩
    · rw [hA] at ha; rw [hB] at hb
      simp only at ha hb
      rcases eA : textF A (A.length + 1) 0 0 with e1 | ⟨la', qa, ma⟩
      · rw [eA] at ha; cases ha
      · rcases eB : textF B (B.length + 1) 0 0 with e1 | ⟨lb', qb, mb⟩
        · rw [eB] at hb; cases hb
        · rw [eA] at ha; rw [eB] at hb
          cases ha; cases hb
          obtain ⟨EA, lA1, lA2⟩ := cut_end hA
          obtain ⟨EB, lB1, lB2⟩ := cut_end hB
          have kA := cut_kinds hA
          have kB := cut_kinds hB
          have hC := cut_two s t hlen
          rw [hA, hB] at hC
          obtain ⟨C, hCC⟩ : ∃ C, C = A.dropLast ++ B.map fun t => { t with pos := t.pos + (s.length + 1) } := ⟨_, rfl⟩
          have hC' : cut (s ++ 10 :: t) = .inl C := by rw [hC, hCC]; rfl
          rw [hC']
          simp only
          obtain ⟨K, hK⟩ : ∃ K, A.dropLast.length = K := ⟨_, rfl⟩
          have hAK : A.length = K + 1 := by rw [← hK, List.length_dropLast]; omega
          have hCl : C.length = K + B.length := by rw [hCC, List.length_append, hK, List.length_map]
          have M1 : Mv A C K 0 := by
            intro i hi
            have : tk C (0 + i) = tk A i := by
              unfold tk
              rw [Nat.zero_add, hCC, List.getD, List.getD, List.getElem?_append_left (by rw [hK]; exact hi), List.getElem?_dropLast, if_pos (by omega)]
            rw [this]; exact ⟨rfl, rfl, rfl⟩
          have M2 : ∀ K', Mv B C K' K := by
            intro K' i hi
            have : (C[K + i]?) = (B[i]?).map fun t => { t with pos := t.pos + (s.length + 1) } := by
              rw [hCC, List.getElem?_append_right (by rw [hK]; omega), hK, Nat.add_sub_cancel_left, List.getElem?_map]
            unfold tk
            rw [List.getD, List.getD, this]
            rcases B[i]? with _ | b
            · exact ⟨rfl, rfl, rfl⟩
            · exact ⟨rfl, rfl, rfl⟩
          have hne := no_else EB lB1 kB eB
          have hel : ElseAt A C K 0 := by
            unfold ElseAt
            rw [Nat.zero_add]
            have h1 := (M2 1 0 (by omega)).2.1
            rw [Nat.add_zero] at h1
            rw [h1, (EA K (by omega)).2]
            constructor
            · intro h; exact absurd h hne
            · intro h; cases h
          obtain ⟨p1, p2, p3, p4⟩ := textF_pre EA hAK (fun i hi => kA.1 i (by omega)) M1 (by omega) hel (Decidable.em _) _ _ _ _ _ _ eA (by omega) (by omega)
          have cA := textF_cts A _ _ _ _ _ _ eA
          have cB := textF_cts B _ _ _ _ _ _ eB
          rw [Nat.zero_add] at cA cB p2
          have lenB : lb.length ≤ B.length := by
            have := textF_in EB _ _ _ _ _ _ eB (by omega)
            omega
          have hF : C.length + 1 = (C.length + 1 - la.length) + la.length := by omega
          have hm := textF_mv (c := ma) M2 (by omega) _ _ _ _ _ _ eB (by omega) (C.length + 1 - la.length) (by omega)
          rw [Nat.add_zero, Nat.zero_add] at hm
          rw [hF]
          rcases hm with ⟨h1, h2⟩ | ⟨h1, e', h2⟩
          · rw [p4 _ _ h2]
            simp only
            exact ⟨fun _ => trivial, fun h => by omega⟩
          · rw [p4 _ _ h2]
            simp only
            exact ⟨fun h => by omega, fun _ => ⟨e', rfl⟩⟩
    · rw [hB] at hb; cases hb
  · rw [hA] at ha; cases ha
end Go.Proofs.YtnofibjchhcmeabDoor
namespace Go.Proofs.YtnofibjchhcmeabDoor
open Go.RowKit
set_option linter.unusedVariables false

def NZ {α : Type} (r : Except (Nat × Int) α) : Prop := ∀ k e, r = .error (k, e) → e ≠ 0
theorem nz_ok {α : Type} (x : α) : NZ (.ok x) := fun k e h => by cases h
theorem nz_err {α : Type} {k : Nat} {e : Int} (h : e ≠ 0) : NZ (α := α) (.error (k, e)) := fun k' e' h' => by cases h'; exact h
theorem nz_mk {t : Tok} {k m : Int} {s : ByteArray} {op : Int} {l : List PE} {n : Nat} : NZ (mkE t k m s op l n) := by
  unfold mkE
  split
  · exact nz_err (by decide)
  · split
    · exact nz_err (by decide)
    · exact nz_ok _
theorem nz_mk' {p : Nat} {r : Except (Nat × Int) (PE × Nat)} (h : NZ r) : NZ (mk' p r) := by
  rcases r with ⟨k, e⟩ | ⟨x, n⟩
  · exact nz_err (h k e rfl)
  · exact nz_ok _
theorem nz_of {α β : Type} {k : Nat} {e : Int} (h : NZ (α := α) (.error (k, e))) : NZ (α := β) (.error (k, e)) := nz_err (h k e rfl)
theorem withinP_nz {L : List Tok} {ex : Nat → Nat → Nat → PR} (h : ∀ p o n, NZ (ex p o n)) (a b : List UInt8) (p o n : Nat) : NZ (withinP L ex a b p o n) := by
  unfold withinP
  split
  · exact nz_err (by decide)
  split
  · exact nz_err (by decide)
  have := h (p + 1) (o + 1) n
  rcases e : ex (p + 1) (o + 1) n with ⟨k, e1⟩ | ⟨x, q, m⟩
  · rw [e] at this; exact this
  · simp only
    split
    · exact nz_err (by decide)
    · exact nz_ok _
theorem memP_nz {L : List Tok} {ex : Nat → Nat → Nat → PR} (h : ∀ p o n, NZ (ex p o n)) (p o n : Nat) : NZ (memP L ex p o n) := by
  unfold memP
  have := withinP_nz (L := L) h [91] [93] (p + 1) o n
  rcases e : withinP L ex [91] [93] (p + 1) o n with ⟨k, e1⟩ | ⟨x, q, m⟩
  · rw [e] at this; exact this
  · exact nz_mk' nz_mk
theorem pairP_nz {L : List Tok} {ex : Nat → Nat → Nat → PR} (h : ∀ p o n, NZ (ex p o n)) (op : Int) (p o n : Nat) : NZ (pairP L ex op p o n) := by
  unfold pairP
  split
  · exact nz_err (by decide)
  split
  · exact nz_err (by decide)
  have := h (p + 2) (o + 1) n
  rcases e : ex (p + 2) (o + 1) n with ⟨k, e1⟩ | ⟨x, q, m⟩
  · rw [e] at this; exact this
  · simp only
    split
    · exact nz_err (by decide)
    have h2 := h (q + 1) (o + 1) m
    rcases e2 : ex (q + 1) (o + 1) m with ⟨k, e1⟩ | ⟨y, r, i⟩
    · rw [e2] at h2; exact h2
    · simp only
      split
      · exact nz_err (by decide)
      · exact nz_mk' nz_mk
theorem signedP_nz {L : List Tok} {on : Nat → Nat → Nat → PR} (h : ∀ p o n, NZ (on p o n)) (op : Int) (p o n : Nat) : NZ (signedP L on op p o n) := by
  unfold signedP
  split
  · exact nz_err (by decide)
  have := h (p + 1) (o + 1) n
  rcases e : on (p + 1) (o + 1) n with ⟨k, e1⟩ | ⟨x, q, m⟩
  · rw [e] at this; exact this
  · exact nz_mk' nz_mk
theorem oneP_nz {L : List Tok} {ex on : Nat → Nat → Nat → PR} (h : ∀ p o n, NZ (ex p o n)) (h' : ∀ p o n, NZ (on p o n)) (p o n : Nat) : NZ (oneP L ex on p o n) := by
  unfold oneP
  split
  · exact nz_mk' nz_mk
  split
  · exact nz_mk' nz_mk
  split
  · exact withinP_nz h _ _ _ _ _
  split
  · exact memP_nz h _ _ _
  split
  · exact pairP_nz h _ _ _ _
  split
  · exact pairP_nz h _ _ _ _
  split
  · exact signedP_nz h' _ _ _ _
  split
  · exact signedP_nz h' _ _ _ _
  split
  · exact signedP_nz h' _ _ _ _
  · exact nz_err (by decide)
theorem exprF_nz (L : List Tok) : ∀ f md p o n, NZ (exprF L f md p o n) := by
  intro f
  induction f with
  | zero => intro md p o n; exact nz_err (by decide)
  | succ f ih =>
    intro md p o n
    rcases md with _ | ⟨least, _ | y⟩
    · exact oneP_nz (ih _) (ih _) p o n
    · unfold exprF
      have := ih none p o n
      rcases e : exprF L f none p o n with ⟨k, e1⟩ | ⟨x, q, m⟩
      · rw [e] at this; exact this
      · exact ih _ _ _ _
    · unfold exprF
      split
      · exact nz_ok _
      · have := ih (some ((rankOf (tk L p).text).1 + 1, none)) (p + 1) o n
        rcases e : exprF L f (some ((rankOf (tk L p).text).1 + 1, none)) (p + 1) o n with ⟨k, e1⟩ | ⟨x, q, m⟩
        · rw [e] at this; exact this
        · simp only
          have h2 := nz_mk (t := tk L p) (k := 5) (m := 0) (s := ⟨#[]⟩) (op := (rankOf (tk L p).text).2) (l := [y, x]) (n := m)
          rcases e2 : mkE (tk L p) 5 0 ⟨#[]⟩ (rankOf (tk L p).text).2 [y, x] m with ⟨k, e1⟩ | ⟨z, i⟩
          · rw [e2] at h2; exact nz_of h2
          · exact ih _ _ _ _
theorem ex1_nz (L : List Tok) (p o n : Nat) : NZ (ex1 L p o n) := exprF_nz L _ _ _ _ _
theorem lastP_nz (L : List Tok) (p n : Nat) : NZ (lastP L p n) := by
  unfold lastP
  have h := ex1_nz L p 0 n
  rcases e : ex1 L p 0 n with ⟨k, e1⟩ | ⟨x, q, m⟩
  · rw [e] at h; exact h
  · simp only
    split
    · exact nz_err (by decide)
    · exact nz_ok _
theorem valueP_nz (L : List Tok) (p n : Nat) : NZ (valueP L p n) := by
  unfold valueP
  split
  · exact nz_err (by decide)
  · exact lastP_nz L _ _
theorem withinT_nz (L : List Tok) (a b : List UInt8) (p n : Nat) : NZ (withinT L a b p n) := withinP_nz (ex1_nz L) _ _ _ _ _
theorem mkS_nz (t : Tok) (x : PT) (q n : Nat) : NZ (mkS t x q n) := by
  unfold mkS
  split
  · exact nz_err (by decide)
  · exact nz_ok _
theorem ofPart_nz {t : Tok} {k : Int} {s : ByteArray} {c : Int} {r : PR} (h : NZ r) : NZ (ofPart t k s c r) := by
  unfold ofPart
  rcases r with ⟨k', e⟩ | ⟨x, q, m⟩
  · exact nz_of h
  · exact mkS_nz _ _ _ _
theorem blockP_nz {L : List Tok} {row : Nat → Nat → Nat → TR} (h : ∀ b p n, NZ (row b p n)) (b p n : Nat) : NZ (blockP L row b p n) := by
  unfold blockP
  split
  · exact nz_err (by decide)
  split
  · exact nz_err (by decide)
  have := h (b + 1) (p + 1) n
  rcases e : row (b + 1) (p + 1) n with ⟨k, e1⟩ | ⟨y, r, i⟩
  · rw [e] at this; exact this
  · exact nz_ok _
theorem otherP_nz {L : List Tok} {row ch : Nat → Nat → Nat → TR} (h : ∀ b p n, NZ (row b p n)) (h' : ∀ b p n, NZ (ch b p n)) (b p n : Nat) : NZ (otherP L row ch b p n) := by
  unfold otherP
  split
  · exact blockP_nz h _ _ _
  split
  · exact nz_err (by decide)
  · exact h' _ _ _
theorem chooseP_nz {L : List Tok} {row ch : Nat → Nat → Nat → TR} (h : ∀ b p n, NZ (row b p n)) (h' : ∀ b p n, NZ (ch b p n)) (b p n : Nat) : NZ (chooseP L row ch b p n) := by
  unfold chooseP
  have h1 := withinT_nz L [40] [41] (p + 1) n
  rcases e : withinT L [40] [41] (p + 1) n with ⟨k, e1⟩ | ⟨x, q, m⟩
  · rw [e] at h1; exact nz_of h1
  · simp only
    have h2 := blockP_nz (L := L) h b q m
    rcases e2 : blockP L row b q m with ⟨k, e1⟩ | ⟨l, r, i⟩
    · rw [e2] at h2; exact h2
    · simp only
      split
      · have h3 := otherP_nz (L := L) h h' b (r + 1) i
        rcases e3 : otherP L row ch b (r + 1) i with ⟨k, e1⟩ | ⟨l2, r2, i2⟩
        · rw [e3] at h3; exact h3
        · exact mkS_nz _ _ _ _
      · exact mkS_nz _ _ _ _
theorem repeatP_nz {L : List Tok} {row : Nat → Nat → Nat → TR} (h : ∀ b p n, NZ (row b p n)) (b p n : Nat) : NZ (repeatP L row b p n) := by
  unfold repeatP
  have h1 := withinT_nz L [40] [41] (p + 1) n
  rcases e : withinT L [40] [41] (p + 1) n with ⟨k, e1⟩ | ⟨x, q, m⟩
  · rw [e] at h1; exact nz_of h1
  · simp only
    have h2 := blockP_nz (L := L) h b q m
    rcases e2 : blockP L row b q m with ⟨k, e1⟩ | ⟨l, r, i⟩
    · rw [e2] at h2; exact h2
    · exact mkS_nz _ _ _ _
theorem stmtP_nz {L : List Tok} {row ch : Nat → Nat → Nat → TR} (h : ∀ b p n, NZ (row b p n)) (h' : ∀ b p n, NZ (ch b p n)) (b p n : Nat) : NZ (stmtP L row ch b p n) := by
  unfold stmtP
  split
  · exact ofPart_nz (valueP_nz L _ _)
  split
  · unfold declareP
    split
    · exact nz_err (by decide)
    · exact ofPart_nz (valueP_nz L _ _)
  split
  · unfold storeP
    have h1 := withinT_nz L [91] [93] (p + 1) n
    rcases e : withinT L [91] [93] (p + 1) n with ⟨k, e1⟩ | ⟨x, q, m⟩
    · rw [e] at h1; exact nz_of h1
    · simp only
      have h2 := valueP_nz L q m
      rcases e2 : valueP L q m with ⟨k, e1⟩ | ⟨y, r, i⟩
      · rw [e2] at h2; exact nz_of h2
      · exact mkS_nz _ _ _ _
  split
  · exact ofPart_nz (lastP_nz L _ _)
  split
  · exact ofPart_nz (lastP_nz L _ _)
  split
  · unfold intoP
    split
    · exact nz_err (by decide)
    split
    · exact nz_err (by decide)
    · exact ofPart_nz (lastP_nz L _ _)
  split
  · unfold stopP
    split
    · exact nz_err (by decide)
    · exact mkS_nz _ _ _ _
  split
  · exact chooseP_nz h h' _ _ _
  split
  · exact repeatP_nz h _ _ _
  · exact nz_err (by decide)
theorem stmtF_nz (L : List Tok) : ∀ f, (∀ b p n, NZ (stmtF L f 0 b p n)) ∧ (∀ b p n, NZ (stmtF L f 1 b p n)) ∧ (∀ b p n, NZ (stmtF L f 2 b p n)) := by
  intro f
  induction f with
  | zero => exact ⟨fun _ _ _ => nz_err (by decide), fun _ _ _ => nz_err (by decide), fun _ _ _ => nz_err (by decide)⟩
  | succ f ih =>
    obtain ⟨i0, i1, i2⟩ := ih
    refine ⟨stmtP_nz i1 i2, fun b p n => ?_, chooseP_nz i1 i2⟩
    rw [stmtF_row]
    split
    · exact nz_ok _
    · have h0 := i0 b p n
      rcases e : stmtF L f 0 b p n with ⟨k, e1⟩ | ⟨x, q, m⟩
      · rw [e] at h0; exact h0
      · simp only
        have h1 := i1 b q m
        rcases e2 : stmtF L f 1 b q m with ⟨k, e1⟩ | ⟨l, r, i⟩
        · rw [e2] at h1; exact h1
        · exact nz_ok _
theorem textF_nz (L : List Tok) : ∀ f p n, NZ (textF L f p n) := by
  intro f
  induction f with
  | zero => intro p n; exact nz_err (by decide)
  | succ f ih =>
    intro p n
    unfold textF
    split
    · exact nz_ok _
    · have h0 := (stmtF_nz L (2 * L.length + 2)).1 0 p n
      rcases e : stmtT L 0 p n with ⟨k, e1⟩ | ⟨x, q, m⟩
      · rw [show stmtF L (2 * L.length + 2) 0 0 p n = _ from e] at h0; exact h0
      · simp only
        have h1 := ih q m
        rcases e2 : textF L f q m with ⟨k, e1⟩ | ⟨l, r, i⟩
        · rw [e2] at h1; exact h1
        · exact nz_ok _
theorem parseT_nz (s : List UInt8) : NZ (parseT s) := by
  unfold parseT
  rcases e : cut s with L | ⟨k, er⟩
  · simp only
    have h := textF_nz L (L.length + 1) 0 0
    rcases e2 : textF L (L.length + 1) 0 0 with ⟨k, e1⟩ | ⟨l, q, m⟩
    · rw [e2] at h; exact nz_of h
    · exact nz_ok _
  · exact nz_err (cut_er e)
theorem textF_bd (L : List Tok) : ∀ f p n l q m, textF L f p n = .ok (l, q, m) → n ≤ 600 → m ≤ 600 := by
  intro f
  induction f with
  | zero => intro p n l q m h; cases h
  | succ f ih =>
    intro p n l q m h hn
    unfold textF at h
    split at h
    · cases h; exact hn
    · rcases e : stmtT L 0 p n with e1 | ⟨y, r, i⟩
      · rw [e] at h; cases h
      · rw [e] at h; simp only at h
        rcases e2 : textF L f r i with e1 | ⟨z, r2, i2⟩
        · rw [e2] at h; cases h
        · rw [e2] at h; simp only at h
          cases h
          exact ih _ _ _ _ _ e2 (((stmtF_fwd L _).1 _ _ _ _ _ _ e).2 hn)
theorem parseT_cnt {s : List UInt8} {l : List PT} (h : parseT s = .ok l) : tcnts l ≤ 600 := by
  unfold parseT at h
  rcases e : cut s with L | ⟨k, er⟩
  · rw [e] at h
    simp only at h
    rcases e2 : textF L (L.length + 1) 0 0 with ⟨k, e1⟩ | ⟨l', q, m⟩
    · rw [e2] at h; cases h
    · rw [e2] at h; cases h
      have h1 := textF_cts L _ _ _ _ _ _ e2
      have h2 := textF_bd L _ _ _ _ _ _ e2 (by omega)
      omega
  · rw [e] at h; cases h

/-- statements as they lie in a row -/
theorem rows_of {w : World} {ok : Nat → Prop} {b : Nat} : ∀ (l : List PT) (o : Nat), SAt w ok (srow l) b o → ∃ ys : List RT, ys.map (·.x) = l ∧ (∀ j u, (scs ys)[j]? = some u → w.cell? ⟨b, o + j, none⟩ = some u) ∧ ∀ y ∈ ys, TM w ok y ∧ ∀ u ∈ sc y, u.oneCell' = true
  | [], o, _ => ⟨[], rfl, fun j u h => by simp [scs] at h, fun y hy => by cases hy⟩
  | x :: l, o, h => by
    obtain ⟨h1, h2, h3, ⟨u, h4, h5⟩, ⟨ad, cap, b', o', f1, f2, f3, f4, f5⟩, ⟨ad', cap', b'', o'', g1, g2, g3, g4, g5⟩, hr⟩ := h
    obtain ⟨ys, y1, y2, y3⟩ := rows_of l (o + 6) hr
    have hone : u.oneCell' = true := by obtain ⟨a, c, b, o, rfl, _⟩ := h5; rfl
    refine ⟨⟨x, u, .slice ad (slen x.body) cap, .slice ad' (slen x.els) cap'⟩ :: ys, by simp [y1], ?_, ?_⟩
    · intro j v hj
      match j, hj with
      | 0, hj => simp [scs, sc] at hj; subst hj; exact h1
      | 1, hj => simp [scs, sc] at hj; subst hj; exact h2
      | 2, hj => simp [scs, sc] at hj; subst hj; exact h3
      | 3, hj => simp [scs, sc] at hj; subst hj; exact h4
      | 4, hj => simp [scs, sc] at hj; subst hj; exact f1
      | 5, hj => simp [scs, sc] at hj; subst hj; exact g1
      | j + 6, hj =>
        have := y2 j v (by simpa [scs, sc] using hj)
        rw [show o + (j + 6) = o + 6 + j by omega]; exact this
    · intro y hy
      rcases List.mem_cons.1 hy with rfl | hy
      · refine ⟨⟨h5, ⟨ad, cap, b', o', rfl, f2, f3, f4, f5⟩, ⟨ad', cap', b'', o'', rfl, g2, g3, g4, g5⟩⟩, ?_⟩
        intro v hv
        simp [sc] at hv
        rcases hv with rfl | rfl | rfl | rfl | rfl | rfl
        · rfl
        · rfl
        · rfl
        · exact hone
        · rfl
        · rfl
      · exact y3 y hy
theorem toPT_row (l : List PT) : toPT (srow l) = l := by
  induction l with
  | nil => rfl
  | cons x l ih => show _ :: toPT (srow l) = _; rw [ih]; rfl
end Go.Proofs.YtnofibjchhcmeabDoor
namespace Go.Proofs.YtnofibjchhcmeabDoor
open Go.RowKit Go.Maps
set_option linter.unusedVariables false

set_option maxRecDepth 100000 in
set_option maxHeartbeats 4000000 in
theorem joins_long (s t : ByteArray) (w : World) (hs : s.size ≤ maxLen) (ht : t.size ≤ maxLen) (h : 8192 < s.size ∨ 8192 < t.size ∨ 8192 < s.size + 1 + t.size) : Calls Tryd.prog 6 #[.string s, .string t] w fun e w' => e = .returned (.bool true) ∧ Below w.heap.size w w' := by
  unfold maxLen at hs ht
  by_cases h1 : 8192 < s.size
  · have e1 : decide ((8192 : Int) < (s.size : Int)) = true := by simp; omega
    clear h
    go_enter Tryd.func6, Tryd.ntmps6
    go_wp2_with fail
    go_ret
    exact ⟨rfl, Below.refl _ _⟩
  · have e1 : decide ((8192 : Int) < (s.size : Int)) = false := by simp; omega
    by_cases h2 : 8192 < t.size
    · have e2 : decide ((8192 : Int) < (t.size : Int)) = true := by simp; omega
      clear h
      go_enter Tryd.func6, Tryd.ntmps6
      go_wp2_with fail
      go_ret
      exact ⟨rfl, Below.refl _ _⟩
    · have e2 : decide ((8192 : Int) < (t.size : Int)) = false := by simp; omega
      have h3 : 8192 < s.size + 1 + t.size := by omega
      have e3 : decide ((8192 : Int) < (s.size : Int) + 1 + (t.size : Int)) = true := by simp; omega
      clear h
      go_enter Tryd.func6, Tryd.ntmps6
      go_wp2_with fail
      go_ret
      exact ⟨rfl, Below.refl _ _⟩
theorem SSlP.all0 {w : World} {ok : Nat → Prop} {v : Value} {l : SL} (h : SSlP w ok v l) : SSx w v l := h.mono fun _ _ => trivial
/-- an append that is named -/
def appJ (ats : Array TypeId) (ty : TypeId) (args : Array Value) : Sem Value := Builtin.append_ ats ty args
theorem addj (b o j : Nat) : (⟨b, o, none⟩ : Addr).add j = ⟨b, o + j, none⟩ := by
  unfold Addr.add
  split
  · rename_i h; subst h; rfl
  · rfl
theorem scs_six (l : List RT) : (scs l).length = l.length * 6 := by
  induction l with
  | nil => rfl
  | cons y l ih => simp [scs, sc, ih]; omega
theorem run_append_nil {w : World} {base : Nat} {i : TypeInfo} (hi : Tryd.prog.info? 39 = some i) (v : Value) (n : Nat) (xs : List Value) (hown : w.ownsRow base 39 6 v n xs) (cap : Nat) :
    (Builtin.append_ #[27, 27] 27 #[v, .slice none 0 cap]).run Tryd.prog w = .ok v w := by
  rcases hown.2 with ⟨rfl, rfl⟩ | ⟨g, cap, cur, rfl, _, _, hnc, _⟩
  · simp [Builtin.append_, run_underlying Tryd.underlying27, sizeOf, typeInfo, hi, Builtin.lenOf, Builtin.firstCells]
  · simp [Builtin.append_, run_underlying Tryd.underlying27, sizeOf, typeInfo, hi, Builtin.lenOf, Builtin.firstCells, hnc, storeCells]
/-- a row of statements behind a copied one -/
theorem app_rows {w : World} {base : Nat} {v vb : Value} {la lb : List PT} {ok : Nat → Prop} (ha : CTv w base (srow la) v) (hb : SSlP w ok vb (srow lb)) (hok : ∀ k, ok k → k < base) (hbase : base ≤ w.heap.size) (hl : la.length + lb.length ≤ 100000) :
    ∃ v' w', (appJ #[27, 27] 27 #[v, vb]).run Tryd.prog w = .ok v' w' ∧ SSx w' v' (srow (la ++ lb)) ∧ Below base w w' := by
  obtain ⟨ys, hy, hown, htm⟩ := ha
  rw [toPT_row] at hy
  have hyl : ys.length = la.length := by rw [← hy, List.length_map]
  obtain ⟨ad, cap, b, o, rfl, h2, h3, h4, h5⟩ := hb
  obtain ⟨zs, hz, hzc, hzt⟩ := rows_of lb o h5
  have hzl : zs.length = lb.length := by rw [← hz, List.length_map]
  obtain ⟨i0, hi, hz0, hz1, hz2⟩ := info_parts info39
  have fin : ∀ v' w', SOwn w' base v' (ys ++ zs) → w.grownBy w' v.ownBlock → SSx w' v' (srow (la ++ lb)) ∧ Below base w w' := by
    intro v' w' h6 h7
    have hbl : Below base w w' := (Below.refl base w).grown h7 hbase (fun k hk => (World.ownsRow.lt hown k hk).1)
    refine ⟨?_, hbl⟩
    have := h6.ssl (ok := fun _ => True) (fun _ _ => trivial) (fun y hy' => ?_)
    · rw [List.map_append, hy, hz] at this; exact this
    · rcases List.mem_append.1 hy' with q | q
      · exact ((htm y q).1.keep fun k hk hk2 => h7.block k hk2 (fun e => hk.2 e)).mono fun _ _ => trivial
      · exact ((hzt y q).1.keep fun k hk hk2 => hbl.block k (hok k hk)).mono fun _ _ => trivial
  rcases Nat.eq_zero_or_pos lb.length with h0 | h0
  · have hlb : lb = [] := List.length_eq_zero_iff.1 h0
    have hzs : zs = [] := List.length_eq_zero_iff.1 (by omega)
    subst hlb hzs
    rcases ad with _ | ad
    · refine ⟨v, w, ?_, fin v w (by rw [List.append_nil]; exact hown) ⟨rfl, rfl, rfl, Nat.le_refl _, fun _ _ _ => rfl⟩⟩
      exact run_append_nil hi v ys.length (scs ys) hown cap
    · obtain ⟨v', w', hr, h6, h7, _⟩ := run_append_own (P := Tryd.prog) w base 27 27 39 i0 _ 6 104 Tryd.underlying27 hi hz0 hz1 hz2 rfl (by decide) v ys.length (scs ys) hown ad 0 cap [] rfl (fun j u hj => by simp at hj) (fun u hu => by cases hu) (by unfold maxLen; omega) (by omega) hbase
      refine ⟨v', w', hr, fin v' w' ?_ h7⟩
      rw [List.append_nil]; unfold SOwn
      rw [List.append_nil] at h6; exact h6
  · obtain ⟨rfl, hbk⟩ := h4 (by rw [slen_row]; exact h0)
    obtain ⟨v', w', hr, h6, h7, _⟩ := run_append_own (P := Tryd.prog) w base 27 27 39 i0 _ 6 104 Tryd.underlying27 hi hz0 hz1 hz2 rfl (by decide) v ys.length (scs ys) hown ⟨b, o, none⟩ lb.length cap (scs zs) (by rw [scs_six, hzl]) (fun j u hj => by rw [addj]; exact hzc j u hj) (fun u hu => by
      obtain ⟨y, hy1, hy2⟩ : ∃ y ∈ zs, u ∈ sc y := by
        clear hzc hzt hz hzl fin
        induction zs with
        | nil => simp [scs] at hu
        | cons z zs ih =>
          simp only [scs, List.mem_append] at hu
          rcases hu with q | q
          · exact ⟨z, by simp, q⟩
          · obtain ⟨y, h1, h2⟩ := ih q; exact ⟨y, by simp [h1], h2⟩
      exact (hzt y hy1).2 u hy2) (by unfold maxLen; omega) (by omega) hbase
    refine ⟨v', w', ?_, fin v' w' ?_ h7⟩
    · unfold appJ; rw [slen_row]; exact hr
    · unfold SOwn; rw [List.length_append, scs_app, hzl]; exact h6
theorem sg_below' {w w' : World} (h : ∃ A t fr, SA A ∧ w.heap[0]? = some (.cells A t fr)) (hb : Below w.heap.size w w') : ∃ A t fr, SA A ∧ w'.heap[0]? = some (.cells A t fr) := sg_below h hb

theorem tcnts_len (l : List PT) : l.length ≤ tcnts l := by
  induction l with
  | nil => exact Nat.le_refl _
  | cons x l ih => simp only [tcnts, tcnt, List.length_cons]; omega
@[local go_sem ↓] theorem app_hold (ats : Array TypeId) (ty : TypeId) (args : Array Value) : Builtin.append_ ats ty args = appJ ats ty args := rfl
set_option maxRecDepth 100000 in
set_option maxHeartbeats 8000000 in
theorem joins_short (s t : ByteArray) (w : World) (hsg : ∃ A t fr, SA A ∧ w.heap[0]? = some (.cells A t fr)) (h1 : s.size + 1 + t.size ≤ 8192) : Calls Tryd.prog 6 #[.string s, .string t] w fun e w' => e = .returned (.bool true) ∧ Below w.heap.size w w' := by
  have HSG : Hid (∃ A t fr, SA A ∧ w.heap[0]? = some (.cells A t fr)) := hsg
  have HPS : Hid (∀ W, Below w.heap.size w W → Calls Tryd.prog 19 #[.string s] W (PPost W (parseT s.data.toList))) := fun W hW => tparse_any s W (by unfold maxLen; omega) (sg_below hsg hW)
  have HPT : Hid (∀ W, Below w.heap.size w W → Calls Tryd.prog 19 #[.string t] W (PPost W (parseT t.data.toList))) := fun W hW => tparse_any t W (by unfold maxLen; omega) (sg_below hsg hW)
  obtain ⟨X, hX⟩ : ∃ X : ByteArray, s ++ ⟨#[10]⟩ ++ t = X := ⟨_, rfl⟩
  have hXl : X.data.toList = s.data.toList ++ 10 :: t.data.toList := by rw [← hX]; simp
  have hXs : X.size ≤ 8192 := by rw [← hX]; simp only [ByteArray.size_append]; show s.size + 1 + t.size ≤ 8192; omega
  have HX : Hid (s ++ ⟨#[10]⟩ ++ t = X) := hX
  have HPX : Hid (∀ W, Below w.heap.size w W → Calls Tryd.prog 19 #[.string X] W (PPost W (parseT (s.data.toList ++ 10 :: t.data.toList)))) := fun W hW => by rw [← hXl]; exact tparse_any X W (by unfold maxLen; omega) (sg_below hsg hW)
  have HTW : Hid (∀ la lb, parseT s.data.toList = .ok la → parseT t.data.toList = .ok lb → (tcnts la + tcnts lb ≤ 600 → parseT (s.data.toList ++ 10 :: t.data.toList) = .ok (la ++ lb)) ∧ (600 < tcnts la + tcnts lb → ∃ k, parseT (s.data.toList ++ 10 :: t.data.toList) = .error (k, 42))) := fun la lb => parse_two _ _ (by simpa using h1) la lb
  have HAL : Hid (∀ W, Below w.heap.size w W → Calls Tryd.prog 11 #[] W fun e w' => e = .returned (.bool true) ∧ Below W.heap.size W w') := fun W hW => alive_any W (sg_below hsg hW)
  have HNS : Hid (NZ (parseT s.data.toList) ∧ NZ (parseT t.data.toList)) := ⟨parseT_nz _, parseT_nz _⟩
  have HCT : Hid ((∀ l, parseT s.data.toList = .ok l → tcnts l ≤ 600) ∧ (∀ l, parseT t.data.toList = .ok l → tcnts l ≤ 600)) := ⟨fun l h => parseT_cnt h, fun l h => parseT_cnt h⟩
  generalize parseT s.data.toList = rs at HPS HTW HNS HCT
  generalize parseT t.data.toList = rt at HPT HTW HNS HCT
  generalize parseT (s.data.toList ++ 10 :: t.data.toList) = rx at HPX HTW
  have e1 : decide ((8192 : Int) < (s.size : Int)) = false := by simp; omega
  have e2 : decide ((8192 : Int) < (t.size : Int)) = false := by simp; omega
  have e3 : decide ((8192 : Int) < (s.size : Int) + 1 + (t.size : Int)) = false := by simp; omega
  clear hX hXl hXs hsg
  go_enter Tryd.func6, Tryd.ntmps6
  go_wp2_with fail
  refine (HPS.out _ (Below.refl _ _)).mono ?_
  intro e w1 hp1
  have K : ∃ u1 u2 u3 : _, ∃ (k1 er1 : Int), e = .returned (.tuple #[.slice u1 u2 u3, .int .i64 k1, .int .i64 er1]) ∧ Below w.heap.size w w1 ∧ ((er1 ≠ 0) ∨ er1 = 0 ∧ ∃ la, rs = .ok la ∧ SSlP w1 (fun j => w.heap.size ≤ j) (.slice u1 u2 u3) (srow la)) := by
    rcases rs with ⟨k, er⟩ | la
    · exact ⟨none, 0, 0, k, er, hp1.1, hp1.2, .inl (HNS.out.1 k er rfl)⟩
    · obtain ⟨v1, v2, v3, h1, h2, h3⟩ := hp1
      exact ⟨v1, v2, v3, 0, 0, h1, h3, .inr ⟨rfl, la, rfl, h2⟩⟩
  obtain ⟨a1, a2, a3, k1, er1, rfl, hb1, hc1⟩ := K
  have B1 : Hid (Below w.heap.size w w1) := hb1
  have HC1 : Hid ((er1 ≠ 0) ∨ er1 = 0 ∧ ∃ la, rs = .ok la ∧ SSlP w1 (fun j => w.heap.size ≤ j) (.slice a1 a2 a3) (srow la)) := hc1
  clear hp1 hb1 hc1
  go_wp2_with fail
  refine (HPT.out _ B1.out).mono ?_
  intro e w2 hp2
  have K : ∃ u1 u2 u3 : _, ∃ (k1 er1 : Int), e = .returned (.tuple #[.slice u1 u2 u3, .int .i64 k1, .int .i64 er1]) ∧ Below w1.heap.size w1 w2 ∧ ((er1 ≠ 0) ∨ er1 = 0 ∧ ∃ la, rt = .ok la ∧ SSlP w2 (fun j => w1.heap.size ≤ j) (.slice u1 u2 u3) (srow la)) := by
    rcases rt with ⟨k, er⟩ | la
    · exact ⟨none, 0, 0, k, er, hp2.1, hp2.2, .inl (HNS.out.2 k er rfl)⟩
    · obtain ⟨v1, v2, v3, h1, h2, h3⟩ := hp2
      exact ⟨v1, v2, v3, 0, 0, h1, h3, .inr ⟨rfl, la, rfl, h2⟩⟩
  obtain ⟨b1, b2, b3, k2, er2, rfl, hb2, hc2⟩ := K
  have B12 : Hid (Below w1.heap.size w1 w2) := hb2
  have B2 : Hid (Below w.heap.size w w2) := B1.out.trans (hb2.mono B1.out.size)
  have HC2 : Hid ((er2 ≠ 0) ∨ er2 = 0 ∧ ∃ la, rt = .ok la ∧ SSlP w2 (fun j => w1.heap.size ≤ j) (.slice b1 b2 b3) (srow la)) := hc2
  clear hp2 hb2 hc2
  go_wp2_with fail
  rw [HX.out]
  refine (HPX.out _ B2.out).mono ?_
  intro e w3 hp3
  have K : ∃ u1 u2 u3 : _, ∃ (k1 er1 : Int), e = .returned (.tuple #[.slice u1 u2 u3, .int .i64 k1, .int .i64 er1]) ∧ Below w2.heap.size w2 w3 ∧ (∀ k er, rx = .error (k, er) → er1 = er) ∧ (∀ la, rx = .ok la → er1 = 0 ∧ SSlP w3 (fun j => w2.heap.size ≤ j) (.slice u1 u2 u3) (srow la)) := by
    rcases rx with ⟨k, er⟩ | la
    · exact ⟨none, 0, 0, k, er, hp3.1, hp3.2, (fun k' er' h => by cases h; rfl), (fun la h => by cases h)⟩
    · obtain ⟨v1, v2, v3, h1, h2, h3⟩ := hp3
      exact ⟨v1, v2, v3, 0, 0, h1, h3, (fun k er h => by cases h), (fun la h => by cases h; exact ⟨rfl, h2⟩)⟩
  obtain ⟨c1, c2, c3, k3, er3, rfl, hb3, hx1, hx2⟩ := K
  have B23 : Hid (Below w2.heap.size w2 w3) := hb3
  have B3 : Hid (Below w.heap.size w w3) := B2.out.trans (hb3.mono B2.out.size)
  have HX1 : Hid (∀ k er, rx = .error (k, er) → er3 = er) := hx1
  have HX2 : Hid (∀ la, rx = .ok la → er3 = 0 ∧ SSlP w3 (fun j => w2.heap.size ≤ j) (.slice c1 c2 c3) (srow la)) := hx2
  clear hp3 hb3 hx1 hx2
  rcases HC1.out with q1 | ⟨q1, la, hla, hsa⟩
  · have f1 : (er1 != 0) = true := by simpa using q1
    clear q1
    go_wp2_with fail
    refine (HAL.out _ B3.out).mono ?_
    rintro e w4 ⟨rfl, hb4⟩
    have B4 : Hid (Below w.heap.size w w4) := B3.out.trans (hb4.mono B3.out.size)
    clear hb4
    go_wp2_with fail
    go_ret
    exact ⟨rfl, B4.out⟩
  subst q1
  rcases HC2.out with q2 | ⟨q2, lb, hlb, hsb⟩
  · have f2 : (er2 != 0) = true := by simpa using q2
    clear q2 hla hsa
    go_wp2_with fail
    refine (HAL.out _ B3.out).mono ?_
    rintro e w4 ⟨rfl, hb4⟩
    have B4 : Hid (Below w.heap.size w w4) := B3.out.trans (hb4.mono B3.out.size)
    clear hb4
    go_wp2_with fail
    go_ret
    exact ⟨rfl, B4.out⟩
  subst q2
  obtain ⟨T1, T2⟩ := HTW.out la lb hla hlb
  have ca := HCT.out.1 la hla
  have cb := HCT.out.2 lb hlb
  have HSA : Hid (SSlP w3 (fun j => w.heap.size ≤ j ∧ j < w1.heap.size) (.slice a1 a2 a3) (srow la)) := (hsa.mono' fun k hk hk2 => ⟨hk, hk2⟩).below (B12.out.trans (B23.out.mono B12.out.size))
  have HSB : Hid (SSlP w3 (fun j => w1.heap.size ≤ j ∧ j < w2.heap.size) (.slice b1 b2 b3) (srow lb)) := (hsb.mono' fun k hk hk2 => ⟨hk, hk2⟩).below B23.out
  have H3 : Hid ((tcnts la + tcnts lb ≤ 600 → er3 = 0 ∧ SSlP w3 (fun j => w2.heap.size ≤ j) (.slice c1 c2 c3) (srow (la ++ lb))) ∧ (600 < tcnts la + tcnts lb → er3 = 42)) := ⟨fun h => HX2.out _ (T1 h), fun h => by obtain ⟨k, hk⟩ := T2 h; exact HX1.out k 42 hk⟩
  clear T1 T2 hla hlb hsa hsb HX1 HX2 HTW HCT HNS HC1 HC2 HPS HPT HPX
  have HNA : Hid (∀ W, SSx W (.slice a1 a2 a3) (srow la) → Calls Tryd.prog 15 #[.slice a1 a2 a3] W (NQ W (tcnts la))) := fun W h => by have := nodes_any (scnt (srow la)) (srow la) (fun _ => True) _ W (Nat.le_refl _) (by rw [scnt_row]; omega) h; rw [scnt_row] at this; exact this
  have HNB : Hid (∀ W, SSx W (.slice b1 b2 b3) (srow lb) → Calls Tryd.prog 15 #[.slice b1 b2 b3] W (NQ W (tcnts lb))) := fun W h => by have := nodes_any (scnt (srow lb)) (srow lb) (fun _ => True) _ W (Nat.le_refl _) (by rw [scnt_row]; omega) h; rw [scnt_row] at this; exact this
  go_wp2_with fail
  refine (HNA.out _ HSA.out.all0).mono ?_
  rintro e w4 ⟨rfl, hb4⟩
  have B34 : Hid (Below w3.heap.size w3 w4) := hb4
  clear hb4
  go_wp2_with fail
  refine (HNB.out _ (HSB.out.all0.below B34.out)).mono ?_
  rintro e w5 ⟨rfl, hb5⟩
  have B35 : Hid (Below w3.heap.size w3 w5) := B34.out.trans (hb5.mono B34.out.size)
  have B5 : Hid (Below w.heap.size w w5) := B3.out.trans (B35.out.mono B3.out.size)
  clear hb5
  by_cases hbig : 600 < tcnts la + tcnts lb
  · have e4 : decide ((600 : Int) < (tcnts la : Int) + (tcnts lb : Int)) = true := by simp; omega
    obtain rfl := H3.out.2 hbig
    clear hbig
    go_wp2_with fail
    refine (HAL.out _ B5.out).mono ?_
    rintro e w6 ⟨rfl, hb6⟩
    have B6 : Hid (Below w.heap.size w w6) := B5.out.trans (hb6.mono B5.out.size)
    clear hb6
    go_wp2_with fail
    go_ret
    exact ⟨rfl, B6.out⟩
  · have e4 : decide ((600 : Int) < (tcnts la : Int) + (tcnts lb : Int)) = false := by simp; omega
    obtain ⟨rfl, hsc⟩ := H3.out.1 (by omega)
    have HSC : Hid (SSlP w3 (fun j => w2.heap.size ≤ j) (.slice c1 c2 c3) (srow (la ++ lb))) := hsc
    have HCP : Hid (∀ W, SSx W (.slice a1 a2 a3) (srow la) → Calls Tryd.prog 20 #[.slice a1 a2 a3] W (CSP W (srow la))) := fun W h => copy_any (scnt (srow la)) (srow la) (fun _ => True) _ W (Nat.le_refl _) (by rw [scnt_row]; omega) h
    clear hbig hsc
    go_wp2_with fail
    refine (HCP.out _ (HSA.out.all0.below B35.out)).mono ?_
    rintro e w6 ⟨v1, v2, v3, rfl, hcv, hb6⟩
    have B36 : Hid (Below w3.heap.size w3 w6) := B35.out.trans (hb6.mono B35.out.size)
    have B6 : Hid (Below w.heap.size w w6) := B5.out.trans (hb6.mono B5.out.size)
    have HCV : Hid (CTv w6 w5.heap.size (srow la) (.slice v1 v2 v3)) := hcv
    have HZ56 : Hid (w5.heap.size ≤ w6.heap.size ∧ w3.heap.size ≤ w5.heap.size ∧ w2.heap.size ≤ w3.heap.size) := ⟨hb6.size, B35.out.size, B23.out.size⟩
    clear hb6 hcv
    obtain ⟨av, w7, hrun, hsx, hb7⟩ := app_rows HCV.out (HSB.out.below B36.out) (fun k hk => by have := HZ56.out; have := hk.2; omega) HZ56.out.1 (by have := tcnts_len la; have := tcnts_len lb; omega)
    have B7 : Hid (Below w.heap.size w w7) := B6.out.trans (hb7.mono (by have := HZ56.out; have := B3.out.size; omega))
    have HSX : Hid (SSx w7 av (srow (la ++ lb))) := hsx
    have HSC7 : Hid (SSx w7 (.slice c1 c2 c3) (srow (la ++ lb))) := ((HSC.out.mono' (ok' := fun k => k < w3.heap.size) fun k hk hk2 => hk2).keep fun k hk _ => (hb7.block k (by have := HZ56.out; omega)).trans (B36.out.block k hk)).all0
    have HSM : Hid (Calls Tryd.prog 17 #[.slice c1 c2 c3, av] w7 (QB w7 true)) := by have := same_any (srow (la ++ lb)) (srow (la ++ lb)) _ _ w7 HSC7.out HSX.out; rw [eqS_refl] at this; exact this
    clear hsx hb7
    go_wp2_with fail
    refine HSM.out.mono ?_
    rintro e w8 ⟨rfl, hb8⟩
    have B8 : Hid (Below w.heap.size w w8) := B7.out.trans (hb8.mono B7.out.size)
    clear hb8
    go_wp2_with fail
    refine (HAL.out _ B8.out).mono ?_
    rintro e w9 ⟨rfl, hb9⟩
    have B9 : Hid (Below w.heap.size w w9) := B8.out.trans (hb9.mono B8.out.size)
    clear hb9
    go_wp2_with fail
    go_ret
    exact ⟨rfl, B9.out⟩
theorem joins_walk (s t : ByteArray) (w : World) (hs : s.size ≤ maxLen) (ht : t.size ≤ maxLen) (hsg : ∃ A t fr, SA A ∧ w.heap[0]? = some (.cells A t fr)) : Calls Tryd.prog 6 #[.string s, .string t] w fun e w' => e = .returned (.bool true) ∧ Below w.heap.size w w' := by
  by_cases h : s.size + 1 + t.size ≤ 8192
  · exact joins_short s t w hsg h
  · exact joins_long s t w hs ht (by omega)
end Go.Proofs.YtnofibjchhcmeabDoor
