/- The program's Same: expressions. -/
import Derived.Test.YtnofibjchhcmeabDoorEq
import Derived.Test.YtnofibjchhcmeabDoorCn
import Derived.WideShapes
namespace Go.Proofs.YtnofibjchhcmeabDoor
open Go.RowKit Go.Maps
set_option linter.unusedVariables false
set_option linter.unusedSimpArgs false

theorem tl_ne {a b : ByteArray} (h : ¬ a = b) : (a.toList == b.toList) = false := by
  rw [ByteArray.toList_eq, ByteArray.toList_eq]
  exact beq_false_of_ne fun e => h (Go.WideShapes.bytes_inj e)
theorem beq_f {a b : Int} (h : ¬ a = b) : (a == b) = false := beq_false_of_ne h

set_option maxRecDepth 100000 in
set_option maxHeartbeats 8000000 in
theorem sameExpr_any (k n : Int) (s : ByteArray) (p : Int) (ad : Option Addr) (m cap : Nat) (k' n' : Int) (s' : ByteArray) (p' : Int) (ad' : Option Addr) (m' cap' : Nat) (E : Bool) (w : World)
    (hC : ∀ W, Below w.heap.size w W → Calls Tryd.prog 41 #[.slice ad m cap, .slice ad' m' cap', .func (.func 42) #[] #[]] W (QB W E)) :
    Calls Tryd.prog 42 #[.agg #[.int .i64 k, .int .i64 n, .string s, .int .i64 p, .slice ad m cap], .agg #[.int .i64 k', .int .i64 n', .string s', .int .i64 p', .slice ad' m' cap']] w (QB w (decide (k = k') && decide (n = n') && decide (s = s') && decide (p = p') && E)) := by
  have HB : Hid (∀ o1 o2, Below w.heap.size w ((w.alloc o1).alloc o2)) := fun o1 o2 => ((Below.refl _ _).alloc (Nat.le_refl _) _).alloc (by simp) _
  have HC : Hid (∀ W, Below w.heap.size w W → Calls Tryd.prog 41 #[.slice ad m cap, .slice ad' m' cap', .func (.func 42) #[] #[]] W (QB W E)) := hC
  clear hC
  go_enter Tryd.func42, Tryd.ntmps42
  by_cases h0 : k = k'
  case neg =>
    have hb := beq_f h0
    go_wp2
    first | exact ⟨by simp [h0], HB.out _ _⟩ | (go_ret; exact ⟨by simp [h0], HB.out _ _⟩)
  subst h0
  by_cases h1 : n = n'
  case neg =>
    have hb := beq_f h1
    go_wp2
    first | exact ⟨by simp [h1], HB.out _ _⟩ | (go_ret; exact ⟨by simp [h1], HB.out _ _⟩)
  subst h1
  by_cases h2 : s = s'
  case neg =>
    have hb := tl_ne h2
    go_wp2
    first | exact ⟨by simp [h2], HB.out _ _⟩ | (go_ret; exact ⟨by simp [h2], HB.out _ _⟩)
  subst h2
  by_cases h3 : p = p'
  case neg =>
    have hb := beq_f h3
    go_wp2
    first | exact ⟨by simp [h3], HB.out _ _⟩ | (go_ret; exact ⟨by simp [h3], HB.out _ _⟩)
  subst h3
  go_wp2_with fail
  refine (HC.out _ (HB.out _ _)).mono ?_
  rintro e w2 ⟨rfl, hb2⟩
  have HB2 : Hid (Below w.heap.size w w2) := (HB.out _ _).trans (hb2.mono (by simp; omega))
  clear hb2
  go_wp2
  first | exact ⟨by simp, HB2.out⟩ | (go_ret; exact ⟨by simp, HB2.out⟩)

/-- while two rows of expressions are held against each other -/
def QE (w : World) (la lb : EL) (b o b' o' : Nat) (u : Value) (wr : World) : Prop :=
  ∃ (ra rb : EL) (i : Nat), u = .int .i64 (i : Int) ∧ i + elen ra = elen la ∧ elen ra = elen rb ∧ eqE ra rb = eqE la lb ∧ ecnt ra ≤ ecnt la ∧ EAx w ra b (o + i * 5) ∧ EAx w rb b' (o' + i * 5) ∧ Below w.heap.size w wr

set_option maxRecDepth 100000 in
set_option maxHeartbeats 8000000 in
theorem eqFuncE_any : ∀ (N : Nat) (la lb : EL) (va vb : Value) (w : World), ecnt la ≤ N → ESx w va la → ESx w vb lb → Calls Tryd.prog 41 #[va, vb, .func (.func 42) #[] #[]] w (QB w (eqE la lb)) := by
  intro N
  induction N using Nat.strongRecOn with
  | _ N ih =>
  intro la lb va vb w hc hes hes'
  obtain ⟨ad, cap, b, o, rfl, h2, h3, h4, h5⟩ := hes
  obtain ⟨ad', cap', b', o', rfl, h2', h3', h4', h5'⟩ := hes'
  obtain ⟨P, hP⟩ : ∃ P, QB w (eqE la lb) = P := ⟨_, rfl⟩
  have HP : Hid (QB w (eqE la lb) = P) := hP
  rw [hP]
  have HIH : Hid (∀ M, M < N → ∀ (la lb : EL) (va vb : Value) (w : World), ecnt la ≤ M → ESx w va la → ESx w vb lb → Calls Tryd.prog 41 #[va, vb, .func (.func 42) #[] #[]] w (QB w (eqE la lb))) := ih
  have HAD : Hid (0 < elen la → ad = some ⟨b, o, none⟩ ∧ True) := h4
  have HAD' : Hid (0 < elen lb → ad' = some ⟨b', o', none⟩ ∧ True) := h4'
  have E0 : Hid (elen la = elen lb → QE w la lb b o b' o' (.int .i64 0) w) := fun hl => ⟨la, lb, 0, rfl, by omega, hl, rfl, Nat.le_refl _, by simpa using h5, by simpa using h5', Below.refl _ _⟩
  have HF0 : Hid (¬ elen la = elen lb → P (.returned (.bool false)) w) := fun hl => by
    rw [← HP.out]
    refine ⟨?_, Below.refl _ _⟩
    have : eqE la lb = false := by
      rcases hb : eqE la lb with _ | _
      · rfl
      · exact absurd (eqE_len la lb hb) hl
    rw [this]
  have HC0 : Hid (ecnt la ≤ N) := hc
  unfold maxLen at h3 h3'
  clear ih hP h4 h5 h4' h5' hc
  by_cases hl : elen la = elen lb
  case neg =>
    have hli : ¬ ((elen la : Int) = (elen lb : Int)) := by omega
    have HF := HF0.out hl
    go_enter Tryd.func41, Tryd.ntmps41
    go_wp2
    first | exact HF | (go_ret; exact HF)
  replace E0 : Hid (QE w la lb b o b' o' (.int .i64 0) w) := E0.out hl
  rw [← hl] at h2' HAD' ⊢
  clear HF0 hl
  go_enter Tryd.func41, Tryd.ntmps41
  go_wp2
  go_loopw [17] (fun u wr => Hid (QE w la lb b o b' o' u wr)) (fun u _ => elen la - (intOf u).toNat)
  case atStart => exact E0
  case round =>
    clear E0
    obtain ⟨ra, rb, i, rfl, hi, hrl, heq, hcr, hat, hat', hbl⟩ := hrel.out
    clear hrel
    have HBL : Hid (Below w.heap.size w wr) := hbl
    have hsz := hbl.size
    cases ra with
    | leaf =>
      have hil : ¬ ((i : Int) < (elen la : Int)) := by simp only [elen] at hi; omega
      have hrb : rb = .leaf := by cases rb with
        | leaf => rfl
        | inner => simp [elen] at hrl
      subst hrb
      have HF : Hid (P (.returned (.bool true)) wr) := by show P _ _; rw [← HP.out, ← heq]; exact ⟨rfl, HBL.out⟩
      clear hbl hat hat' hi heq
      go_wp2
      first | exact HF.out | (go_ret; exact HF.out)
    | inner j d q x r =>
      cases rb with
      | leaf => simp [elen] at hrl
      | inner j' d' q' x' r' =>
        obtain ⟨k, n, s, p⟩ := d
        obtain ⟨k', n', s', p'⟩ := d'
        obtain ⟨ad1, cap1, hrd, hsl, hrest⟩ := EAx.read hat hbl
        obtain ⟨ad2, cap2, hrd', hsl', hrest'⟩ := EAx.read hat' hbl
        simp only [elen, ecnt] at hi hrl hcr
        obtain ⟨e1, _⟩ := HAD.out (by omega)
        obtain ⟨e2, _⟩ := HAD'.out (by omega)
        subst e1 e2
        obtain ⟨hlt1, x0, x1, x2, x3, x4⟩ := hrd
        obtain ⟨hlt2, y0, y1, y2, y3, y4⟩ := hrd'
        have HCC : Hid (∀ V, Below wr.heap.size wr V → Calls Tryd.prog 42 #[.agg #[.int .i64 k, .int .i64 n, .string s, .int .i64 p, .slice ad1 (elen x) cap1], .agg #[.int .i64 k', .int .i64 n', .string s', .int .i64 p', .slice ad2 (elen x') cap2]] V (QB V (decide (k = k') && decide (n = n') && decide (s = s') && decide (p = p') && eqE x x'))) := fun V hV => sameExpr_any k n s p ad1 _ cap1 k' n' s' p' ad2 _ cap2 (eqE x x') V fun W hW => HIH.out (ecnt x) (by have := HC0.out; omega) x x' _ _ W (Nat.le_refl _) ((hsl.below hV).below hW) ((hsl'.below hV).below hW)
        have HEQ : Hid ((decide (k = k') && decide (n = n') && decide (s = s') && decide (p = p') && eqE x x' && eqE r r') = eqE la lb) := heq
        have hil : (i : Int) < (elen la : Int) := by omega
        have HHI : Hid (i + (elen r + 1) = elen la ∧ elen r = elen r' ∧ ecnt r ≤ ecnt la) := ⟨hi, by omega, by omega⟩
        have HRA : Hid (EAx w r b (o + (i + 1) * 5) ∧ EAx w r' b' (o' + (i + 1) * 5)) := by rw [show o + (i + 1) * 5 = o + i * 5 + 5 by omega, show o' + (i + 1) * 5 = o' + i * 5 + 5 by omega]; exact ⟨hrest, hrest'⟩
        have HBA : Hid (∀ o1 o2, Below wr.heap.size wr ((wr.alloc o1).alloc o2)) := fun o1 o2 => ((Below.refl _ _).alloc (Nat.le_refl _) _).alloc (by simp) _
        generalize (decide (k = k') && decide (n = n') && decide (s = s') && decide (p = p') && eqE x x') = B at HCC HEQ
        clear hat hat' hrest hrest' hsl hsl' heq hi hrl hcr hbl
        go_wp2_with fail
        refine (HCC.out _ (HBA.out _ _)).mono ?_
        rintro e w2 ⟨rfl, hb2⟩
        have HB2 : Hid (Below w.heap.size w w2) := HBL.out.trans (((HBA.out _ _).trans (hb2.mono (by simp; omega))).mono hsz)
        clear hb2
        cases B with
        | false =>
          have HF : Hid (P (.returned (.bool false)) w2) := by show P _ _; rw [← HP.out, ← HEQ.out]; exact ⟨rfl, HB2.out⟩
          go_wp2
          first | exact HF.out | (go_ret; exact HF.out)
        | true =>
          have HXN : Hid (QE w la lb b o b' o' (.int .i64 ((i : Int) + 1)) w2) := ⟨r, r', i + 1, by simp, by have := HHI.out; omega, HHI.out.2.1, by rw [← HEQ.out]; simp, HHI.out.2.2, HRA.out.1, HRA.out.2, HB2.out⟩
          go_wp2
          go_roundw
          case rel => exact HXN
          case measure => simp [intOf]; omega
end Go.Proofs.YtnofibjchhcmeabDoor
