/- The program's Same: statements. -/
import Derived.Test.YtnofibjchhcmeabDoorSs
namespace Go.Proofs.YtnofibjchhcmeabDoor
open Go.RowKit Go.Maps
set_option linter.unusedVariables false
set_option linter.unusedSimpArgs false

set_option maxRecDepth 100000 in
set_option maxHeartbeats 8000000 in
theorem sameStmt_any (k : Int) (s : ByteArray) (c : Int) (ad : Option Addr) (m cap : Nat) (bd : Option Addr) (bm bcap : Nat) (ed : Option Addr) (em ecap : Nat) (k' : Int) (s' : ByteArray) (c' : Int) (ad' : Option Addr) (m' cap' : Nat) (bd' : Option Addr) (bm' bcap' : Nat) (ed' : Option Addr) (em' ecap' : Nat) (EA EB EE : Bool) (w : World)
    (hA : ∀ W, Below w.heap.size w W → Calls Tryd.prog 41 #[.slice ad m cap, .slice ad' m' cap', .func (.func 42) #[] #[]] W (QB W EA))
    (hB : ∀ W, Below w.heap.size w W → Calls Tryd.prog 17 #[.slice bd bm bcap, .slice bd' bm' bcap'] W (QB W EB))
    (hE : ∀ W, Below w.heap.size w W → Calls Tryd.prog 17 #[.slice ed em ecap, .slice ed' em' ecap'] W (QB W EE)) :
    Calls Tryd.prog 27 #[.agg #[.int .i64 k, .string s, .int .i64 c, .slice ad m cap, .slice bd bm bcap, .slice ed em ecap], .agg #[.int .i64 k', .string s', .int .i64 c', .slice ad' m' cap', .slice bd' bm' bcap', .slice ed' em' ecap']] w (QB w (decide (k = k') && decide (s = s') && decide (c = c') && EA && EB && EE)) := by
  have HB : Hid (∀ o1 o2, Below w.heap.size w ((w.alloc o1).alloc o2)) := fun o1 o2 => ((Below.refl _ _).alloc (Nat.le_refl _) _).alloc (by simp) _
  have HA : Hid (∀ W, Below w.heap.size w W → Calls Tryd.prog 41 #[.slice ad m cap, .slice ad' m' cap', .func (.func 42) #[] #[]] W (QB W EA)) := hA
  have HBB : Hid (∀ W, Below w.heap.size w W → Calls Tryd.prog 17 #[.slice bd bm bcap, .slice bd' bm' bcap'] W (QB W EB)) := hB
  have HE : Hid (∀ W, Below w.heap.size w W → Calls Tryd.prog 17 #[.slice ed em ecap, .slice ed' em' ecap'] W (QB W EE)) := hE
  clear hA hB hE
  go_enter Tryd.func27, Tryd.ntmps27
  by_cases h0 : k = k'
  case neg =>
    have hb := beq_f h0
    go_wp2
    first | exact ⟨by simp [h0], HB.out _ _⟩ | (go_ret; exact ⟨by simp [h0], HB.out _ _⟩)
  subst h0
  by_cases h1 : s = s'
  case neg =>
    have hb := tl_ne h1
    go_wp2
    first | exact ⟨by simp [h1], HB.out _ _⟩ | (go_ret; exact ⟨by simp [h1], HB.out _ _⟩)
  subst h1
  by_cases h2 : c = c'
  case neg =>
    have hb := beq_f h2
    go_wp2
    first | exact ⟨by simp [h2], HB.out _ _⟩ | (go_ret; exact ⟨by simp [h2], HB.out _ _⟩)
  subst h2
  go_wp2_with fail
  have hbk : ∀ {W W' : World} {a0 a1 a2 a3 a4 a5 b0 b1 b2 b3 b4 b5 : Value} {T : TypeId}, True := trivial
  obtain ⟨o1, ho1⟩ : ∃ o1, Obj.cells #[.int .i64 k, .string s, .int .i64 c, .slice ad m cap, .slice bd bm bcap, .slice ed em ecap] 39 = o1 := ⟨_, rfl⟩
  obtain ⟨o2, ho2⟩ : ∃ o2, Obj.cells #[.int .i64 k, .string s, .int .i64 c, .slice ad' m' cap', .slice bd' bm' bcap', .slice ed' em' ecap'] 39 = o2 := ⟨_, rfl⟩
  have C1 : ((w.alloc o1).alloc o2).heap[w.heap.size]? = some o1 := (heap_alloc_old _ _ (by simp)).trans (heap_alloc_new _ _)
  have C2 : ((w.alloc o1).alloc o2).heap[w.heap.size + 1]? = some o2 := by have h := heap_alloc_new (w.alloc o1) o2; rw [show (w.alloc o1).heap.size = w.heap.size + 1 by simp] at h; exact h
  have hsz : ((w.alloc o1).alloc o2).heap.size = w.heap.size + 2 := by simp
  have HK : Hid (∀ W, Below (w.heap.size + 2) ((w.alloc o1).alloc o2) W → (W.cell? ⟨w.heap.size, 4, none⟩ = some (.slice bd bm bcap) ∧ W.cell? ⟨w.heap.size, 5, none⟩ = some (.slice ed em ecap)) ∧ W.cell? ⟨w.heap.size + 1, 4, none⟩ = some (.slice bd' bm' bcap') ∧ W.cell? ⟨w.heap.size + 1, 5, none⟩ = some (.slice ed' em' ecap')) := by
    intro W hW
    have q1 := (hW.block w.heap.size (by omega)).trans C1
    have q2 := (hW.block (w.heap.size + 1) (by omega)).trans C2
    rw [← ho1] at q1
    rw [← ho2] at q2
    obtain ⟨_, _, _, _, x4, x5⟩ := c6 q1
    obtain ⟨_, _, _, _, y4, y5⟩ := c6 q2
    exact ⟨⟨x4, x5⟩, y4, y5⟩
  have HW0 : Hid (Below w.heap.size w ((w.alloc o1).alloc o2)) := HB.out _ _
  have HA1 := HA.out _ HW0.out
  rw [← ho1, ← ho2] at HA1
  refine HA1.mono ?_
  rintro e w2 ⟨rfl, hb2⟩
  have hb2' : Below (w.heap.size + 2) ((w.alloc o1).alloc o2) w2 := by rw [← hsz, ← ho1, ← ho2]; exact hb2
  have hs2 : w.heap.size + 2 ≤ w2.heap.size := by have := hb2'.size; omega
  have HX2 : Hid (Below (w.heap.size + 2) ((w.alloc o1).alloc o2) w2 ∧ w.heap.size + 2 ≤ w2.heap.size ∧ Below w.heap.size w w2) := ⟨hb2', hs2, HW0.out.trans (hb2'.mono (by omega))⟩
  obtain ⟨⟨x4, x5⟩, y4, y5⟩ := HK.out _ hb2'
  clear hb2 hb2' HA1 C1 C2 hsz
  cases EA with
  | false =>
    go_wp2
    first | exact ⟨by simp, HX2.out.2.2⟩ | (go_ret; exact ⟨by simp, HX2.out.2.2⟩)
  | true =>
  go_wp2_with fail
  refine (HBB.out _ HX2.out.2.2).mono ?_
  rintro e w3 ⟨rfl, hb3⟩
  have HX3 : Hid (Below (w.heap.size + 2) ((w.alloc o1).alloc o2) w3 ∧ Below w.heap.size w w3) := ⟨HX2.out.1.trans (hb3.mono HX2.out.2.1), HX2.out.2.2.trans (hb3.mono (by omega))⟩
  clear x4 x5 y4 y5 hb3
  obtain ⟨⟨x4, x5⟩, y4, y5⟩ := HK.out _ HX3.out.1
  cases EB with
  | false =>
    go_wp2
    first | exact ⟨by simp, HX3.out.2⟩ | (go_ret; exact ⟨by simp, HX3.out.2⟩)
  | true =>
  go_wp2_with fail
  refine (HE.out _ HX3.out.2).mono ?_
  rintro e w4 ⟨rfl, hb4⟩
  have HX4 : Hid (Below w.heap.size w w4) := HX3.out.2.trans (hb4.mono HX3.out.2.size)
  clear hb4
  go_wp2
  first | exact ⟨by simp, HX4.out⟩ | (go_ret; exact ⟨by simp, HX4.out⟩)

set_option maxRecDepth 100000 in
/-- Same by EqualFunc -/
theorem same_of {va vb : Value} {B : Bool} {w : World} (ha : Sl va) (hb : Sl vb) (h : Calls Tryd.prog 26 #[va, vb, .func (.func 27) #[] #[]] w (QB w B)) : Calls Tryd.prog 17 #[va, vb] w (QB w B) := by
  obtain ⟨a1, a2, a3, rfl⟩ := ha
  obtain ⟨b1, b2, b3, rfl⟩ := hb
  go_enter Tryd.func17, Tryd.ntmps17
  go_wp2_with fail
  refine h.mono ?_
  rintro e w2 ⟨rfl, hb2⟩
  have HB2 : Hid (Below w.heap.size w w2) := hb2
  clear hb2 h
  go_wp2
  first | exact ⟨rfl, HB2.out⟩ | (go_ret; exact ⟨rfl, HB2.out⟩)

def QS (w : World) (la lb : SL) (b o b' o' : Nat) (u : Value) (wr : World) : Prop :=
  ∃ (ra rb : SL) (i : Nat), u = .int .i64 (i : Int) ∧ i + slen ra = slen la ∧ slen ra = slen rb ∧ eqS ra rb = eqS la lb ∧ scnt ra ≤ scnt la ∧ SAx w ra b (o + i * 6) ∧ SAx w rb b' (o' + i * 6) ∧ Below w.heap.size w wr

set_option maxRecDepth 100000 in
set_option maxHeartbeats 8000000 in
theorem eqFuncS_any : ∀ (N : Nat) (la lb : SL) (va vb : Value) (w : World), scnt la ≤ N → SSx w va la → SSx w vb lb → Calls Tryd.prog 26 #[va, vb, .func (.func 27) #[] #[]] w (QB w (eqS la lb)) := by
  intro N
  induction N using Nat.strongRecOn with
  | _ N ih =>
  intro la lb va vb w hc hes hes'
  obtain ⟨ad, cap, b, o, rfl, h2, h3, h4, h5⟩ := hes
  obtain ⟨ad', cap', b', o', rfl, h2', h3', h4', h5'⟩ := hes'
  obtain ⟨P, hP⟩ : ∃ P, QB w (eqS la lb) = P := ⟨_, rfl⟩
  have HP : Hid (QB w (eqS la lb) = P) := hP
  rw [hP]
  have HIH : Hid (∀ M, M < N → ∀ (la lb : SL) (va vb : Value) (w : World), scnt la ≤ M → SSx w va la → SSx w vb lb → Calls Tryd.prog 26 #[va, vb, .func (.func 27) #[] #[]] w (QB w (eqS la lb))) := ih
  have HAD : Hid (0 < slen la → ad = some ⟨b, o, none⟩ ∧ True) := h4
  have HAD' : Hid (0 < slen lb → ad' = some ⟨b', o', none⟩ ∧ True) := h4'
  have E0 : Hid (slen la = slen lb → QS w la lb b o b' o' (.int .i64 0) w) := fun hl => ⟨la, lb, 0, rfl, by omega, hl, rfl, Nat.le_refl _, by simpa using h5, by simpa using h5', Below.refl _ _⟩
  have HF0 : Hid (¬ slen la = slen lb → P (.returned (.bool false)) w) := fun hl => by
    rw [← HP.out]
    refine ⟨?_, Below.refl _ _⟩
    have : eqS la lb = false := by
      rcases hb : eqS la lb with _ | _
      · rfl
      · exact absurd (eqS_len la lb hb) hl
    rw [this]
  have HC0 : Hid (scnt la ≤ N) := hc
  unfold maxLen at h3 h3'
  clear ih hP h4 h5 h4' h5' hc
  by_cases hl : slen la = slen lb
  case neg =>
    have hli : ¬ ((slen la : Int) = (slen lb : Int)) := by omega
    have HF := HF0.out hl
    go_enter Tryd.func26, Tryd.ntmps26
    go_wp2
    first | exact HF | (go_ret; exact HF)
  replace E0 : Hid (QS w la lb b o b' o' (.int .i64 0) w) := E0.out hl
  rw [← hl] at h2' HAD' ⊢
  clear HF0 hl
  go_enter Tryd.func26, Tryd.ntmps26
  go_wp2
  go_loopw [17] (fun u wr => Hid (QS w la lb b o b' o' u wr)) (fun u _ => slen la - (intOf u).toNat)
  case atStart => exact E0
  case round =>
    clear E0
    obtain ⟨ra, rb, i, rfl, hi, hrl, heq, hcr, hat, hat', hbl⟩ := hrel.out
    clear hrel
    have HBL : Hid (Below w.heap.size w wr) := hbl
    have hsz := hbl.size
    cases ra with
    | leaf =>
      have hil : ¬ ((i : Int) < (slen la : Int)) := by simp only [slen] at hi; omega
      have hrb : rb = .leaf := by cases rb with
        | leaf => rfl
        | inner => simp [slen] at hrl
      subst hrb
      have HF : Hid (P (.returned (.bool true)) wr) := by show P _ _; rw [← HP.out, ← heq]; exact ⟨rfl, HBL.out⟩
      clear hbl hat hat' hi heq
      go_wp2
      first | exact HF.out | (go_ret; exact HF.out)
    | inner j d q x r =>
      cases rb with
      | leaf => simp [slen] at hrl
      | inner j' d' q' x' r' =>
        obtain ⟨k, s, c, a⟩ := d
        obtain ⟨k', s', c', a'⟩ := d'
        obtain ⟨ad1, cap1, bd1, bcap1, ed1, ecap1, hrd, hsl, hsb, hse, hrest⟩ := SAx.read hat hbl
        obtain ⟨ad2, cap2, bd2, bcap2, ed2, ecap2, hrd', hsl', hsb', hse', hrest'⟩ := SAx.read hat' hbl
        rw [scnt_inner] at hcr
        simp only [slen] at hi hrl
        rw [eqS_inner] at heq
        obtain ⟨e1, _⟩ := HAD.out (by omega)
        obtain ⟨e2, _⟩ := HAD'.out (by omega)
        subst e1 e2
        obtain ⟨hlt1, x0, x1, x2, x3, x4, x5⟩ := hrd
        obtain ⟨hlt2, y0, y1, y2, y3, y4, y5⟩ := hrd'
        have HCC : Hid (∀ V, Below wr.heap.size wr V → Calls Tryd.prog 27 #[.agg #[.int .i64 k, .string s, .int .i64 c, .slice ad1 (elen a) cap1, .slice bd1 (slen (slft x)) bcap1, .slice ed1 (slen (srgt x)) ecap1], .agg #[.int .i64 k', .string s', .int .i64 c', .slice ad2 (elen a') cap2, .slice bd2 (slen (slft x')) bcap2, .slice ed2 (slen (srgt x')) ecap2]] V (QB V (decide (k = k') && decide (s = s') && decide (c = c') && eqE a a' && eqS (slft x) (slft x') && eqS (srgt x) (srgt x')))) := fun V hV => sameStmt_any k s c ad1 _ cap1 bd1 _ bcap1 ed1 _ ecap1 k' s' c' ad2 _ cap2 bd2 _ bcap2 ed2 _ ecap2 _ _ _ V (fun W hW => eqFuncE_any (ecnt a) a a' _ _ W (Nat.le_refl _) ((hsl.below hV).below hW) ((hsl'.below hV).below hW)) (fun W hW => same_of ⟨_, _, _, rfl⟩ ⟨_, _, _, rfl⟩ (HIH.out (scnt (slft x)) (by have := HC0.out; omega) _ _ _ _ W (Nat.le_refl _) ((hsb.below hV).below hW) ((hsb'.below hV).below hW))) (fun W hW => same_of ⟨_, _, _, rfl⟩ ⟨_, _, _, rfl⟩ (HIH.out (scnt (srgt x)) (by have := HC0.out; omega) _ _ _ _ W (Nat.le_refl _) ((hse.below hV).below hW) ((hse'.below hV).below hW)))
        have HEQ : Hid ((decide (k = k') && decide (s = s') && decide (c = c') && eqE a a' && eqS (slft x) (slft x') && eqS (srgt x) (srgt x') && eqS r r') = eqS la lb) := heq
        have hil : (i : Int) < (slen la : Int) := by omega
        have HHI : Hid (i + (slen r + 1) = slen la ∧ slen r = slen r' ∧ scnt r ≤ scnt la) := ⟨hi, by omega, by omega⟩
        have HRA : Hid (SAx w r b (o + (i + 1) * 6) ∧ SAx w r' b' (o' + (i + 1) * 6)) := by rw [show o + (i + 1) * 6 = o + i * 6 + 6 by omega, show o' + (i + 1) * 6 = o' + i * 6 + 6 by omega]; exact ⟨hrest, hrest'⟩
        have HBA : Hid (∀ o1 o2, Below wr.heap.size wr ((wr.alloc o1).alloc o2)) := fun o1 o2 => ((Below.refl _ _).alloc (Nat.le_refl _) _).alloc (by simp) _
        generalize (decide (k = k') && decide (s = s') && decide (c = c') && eqE a a' && eqS (slft x) (slft x') && eqS (srgt x) (srgt x')) = B at HCC HEQ
        clear hat hat' hrest hrest' hsl hsl' hsb hsb' hse hse' heq hi hrl hcr hbl
        go_wp2_with fail
        refine (HCC.out _ (HBA.out _ _)).mono ?_
        rintro e w2 ⟨rfl, hb2⟩
        have HB2 : Hid (Below w.heap.size w w2) := HBL.out.trans (((HBA.out _ _).trans (hb2.mono (by simp; omega))).mono hsz)
        clear hb2
        cases B with
        | false =>
          have HF : Hid (P (.returned (.bool false)) w2) := by show P _ _; rw [← HP.out, ← HEQ.out]; exact ⟨rfl, HB2.out⟩
          go_wp2
          first | exact HF.out | (go_ret; exact HF.out)
        | true =>
          have HXN : Hid (QS w la lb b o b' o' (.int .i64 ((i : Int) + 1)) w2) := ⟨r, r', i + 1, by simp, by have := HHI.out; omega, HHI.out.2.1, by rw [← HEQ.out]; simp, HHI.out.2.2, HRA.out.1, HRA.out.2, HB2.out⟩
          go_wp2
          go_roundw
          case rel => exact HXN
          case measure => simp [intOf]; omega
/-- the program's Same: two rows of statements are the same -/
theorem same_any (la lb : SL) (va vb : Value) (w : World) (ha : SSx w va la) (hb : SSx w vb lb) : Calls Tryd.prog 17 #[va, vb] w (QB w (eqS la lb)) := same_of ha.sl hb.sl (eqFuncS_any (scnt la) la lb va vb w (Nat.le_refl _) ha hb)
end Go.Proofs.YtnofibjchhcmeabDoor
