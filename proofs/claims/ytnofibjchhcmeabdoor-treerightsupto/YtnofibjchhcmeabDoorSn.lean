/- The document's Same. -/
import Derived.Test.YtnofibjchhcmeabDoorEq
import Derived.Test.YtnofibjchhcmeabDoorSs
import Derived.Deep.CutRange
import Derived.WideShapes
import Derived.Deep.QuietTactic
import Derived.BigQuiet
namespace Go.Proofs.YtnofibjchhcmeabDoor
open Go.RowKit Go.Maps
set_option linter.unusedVariables false

/-- a call that only draws answers -/
def QD (w : World) (x : Bool) (e : Ending) (w' : World) : Prop := e = .returned (.bool x) ∧ ∃ k, w' = w.drewN k
/-- while two rows of expressions are held against each other -/
def GEq (w : World) (la lb : EL) (b o b' o' : Nat) (u5 : Value) (wr : World) : Prop :=
  ∃ (ra rb : EL) (i k : Nat), u5 = .int .i64 (i : Int) ∧ i + elen ra = elen la ∧ elen ra = elen rb ∧ eqE ra rb = eqE la lb ∧ ecnt ra ≤ ecnt la ∧ EAt w (fun _ => True) ra b (o + i * 5) ∧ EAt w (fun _ => True) rb b' (o' + i * 5) ∧ wr = w.drewN k
def GSq (w : World) (la lb : SL) (b o b' o' : Nat) (u5 : Value) (wr : World) : Prop :=
  ∃ (ra rb : SL) (i k : Nat), u5 = .int .i64 (i : Int) ∧ i + slen ra = slen la ∧ slen ra = slen rb ∧ eqS ra rb = eqS la lb ∧ scnt ra ≤ scnt la ∧ SAt w (fun _ => True) ra b (o + i * 6) ∧ SAt w (fun _ => True) rb b' (o' + i * 6) ∧ wr = w.drewN k
theorem neqJ (t : TypeId) (a b : Int) (w : World) : (binOp .neq t (.int .i64 a) (.int .i64 b)).run Tryd.prog w = .ok (.bool (a != b)) w := by simp [go_sem]
theorem neqT (t : TypeId) (a b : ByteArray) (w : World) : (binOp .neq t (.string a) (.string b)).run Tryd.prog w = .ok (.bool (!(a.toList == b.toList))) w := by simp [go_sem]
theorem grdJ (t : TypeId) (x y : Operand) (a b : Int) (w : World) : (eqGuard .neq t x y (.int .i64 a) (.int .i64 b)).run Tryd.prog w = .ok () w := by simp [go_sem, eqGuard]
theorem grdT (t : TypeId) (x y : Operand) (a b : ByteArray) (w : World) : (eqGuard .neq t x y (.string a) (.string b)).run Tryd.prog w = .ok () w := by simp [go_sem, eqGuard]
theorem below_drewM {B : Nat} {w w' : World} (h : Below B w w') (n : Nat) : Below B w (w'.drewN n) := by
  induction n with
  | zero => exact h
  | succ n ih => exact ih.drew
theorem bne_t {a b : Int} (h : ¬ a = b) : (a != b) = true := by simpa using h

set_option maxRecDepth 100000 in
set_option maxHeartbeats 16000000 in
theorem equal_any : ∀ (N : Nat) (la lb : EL) (va vb : Value) (w : World), ecnt la ≤ N → ESlP w (fun _ => True) va la → ESlP w (fun _ => True) vb lb → Calls Tryd.prog 28 #[va, vb] w (QD w (eqE la lb)) := by
  intro N
  induction N using Nat.strongRecOn with
  | _ N ih =>
  intro la lb va vb w hc hes hes'
  obtain ⟨ad, cap, b, o, rfl, h2, h3, h4, h5⟩ := hes
  obtain ⟨ad', cap', b', o', rfl, h2', h3', h4', h5'⟩ := hes'
  obtain ⟨P, hP⟩ : ∃ P, QD w (eqE la lb) = P := ⟨_, rfl⟩
  have HP : Hid (QD w (eqE la lb) = P) := hP
  rw [hP]
  have HIH : Hid (∀ M, M < N → ∀ (la lb : EL) (va vb : Value) (w : World), ecnt la ≤ M → ESlP w (fun _ => True) va la → ESlP w (fun _ => True) vb lb → Calls Tryd.prog 28 #[va, vb] w (QD w (eqE la lb))) := ih
  have HAD : Hid (0 < elen la → ad = some ⟨b, o, none⟩ ∧ True) := h4
  have HAD' : Hid (0 < elen lb → ad' = some ⟨b', o', none⟩ ∧ True) := h4'
  have E0 : Hid (elen la = elen lb → GEq w la lb b o b' o' (.int .i64 0) w) := fun hl => ⟨la, lb, 0, 0, rfl, by omega, hl, rfl, Nat.le_refl _, by simpa using h5, by simpa using h5', rfl⟩
  have HF0 : Hid (¬ elen la = elen lb → P (.returned (.bool false)) w) := fun hl => by
    rw [← HP.out]
    refine ⟨?_, 0, rfl⟩
    have : eqE la lb = false := by
      rcases hb : eqE la lb with _ | _
      · rfl
      · exact absurd (eqE_len la lb hb) hl
    rw [this]
  unfold maxLen at h3 h3'
  clear ih hP h4 h5 h4' h5'
  go_enter Tryd.func28, Tryd.ntmps28
  by_cases hl : elen la = elen lb
  case neg =>
    have hli : ¬ ((elen la : Int) = (elen lb : Int)) := by omega
    have HF := HF0.out hl
    go_wp2
    first | exact HF | (go_ret; exact HF)
  have hli : ((elen la : Int) = (elen lb : Int)) := by omega
  replace E0 : Hid (GEq w la lb b o b' o' (.int .i64 0) w) := E0.out hl
  clear HF0
  go_wp2
  go_loopw [5] (fun u5 wr => Hid (GEq w la lb b o b' o' u5 wr)) (fun u5 _ => elen la - (intOf u5).toNat)
  case atStart => exact E0
  case round =>
    clear E0
    obtain ⟨ra, rb, i, k0, rfl, hi, hrl, heq, hcr, hat, hat', hwr⟩ := hrel.out
    have hbl : Below w.heap.size w wr := by rw [hwr]; exact below_drewM (Below.refl _ _) k0
    have HWR : Hid (wr = w.drewN k0) := hwr
    clear hrel hwr
    cases ra with
    | leaf =>
      have hil : ¬ ((i : Int) < (elen la : Int)) := by simp only [elen] at hi; omega
      have hrb : rb = .leaf := by cases rb with
        | leaf => rfl
        | inner => simp [elen] at hrl
      subst hrb
      have HF : Hid (P (.returned (.bool true)) wr) := by show P _ _; rw [← HP.out, ← heq]; exact ⟨rfl, k0, HWR.out⟩
      clear hbl hat hat' hi heq
      go_wp2
      first | exact HF.out | (go_ret; exact HF.out)
    | inner j d q x r =>
      cases rb with
      | leaf => simp [elen] at hrl
      | inner j' d' q' x' r' =>
        obtain ⟨k, n, s, p⟩ := d
        obtain ⟨k', n', s', p'⟩ := d'
        obtain ⟨ad1, cap1, hrd, hsl, hrest⟩ := EAx.read hat hbl
        obtain ⟨ad2, cap2, hrd', hsl', hrest'⟩ := EAx.read hat' hbl
        simp only [elen, ecnt] at hi hrl hcr
        obtain ⟨e1, _⟩ := HAD.out (by omega)
        obtain ⟨e2, _⟩ := HAD'.out (by omega)
        subst e1 e2
        obtain ⟨hlt1, x0, x1, x2, x3, x4⟩ := hrd
        obtain ⟨hlt2, y0, y1, y2, y3, y4⟩ := hrd'
        rw [show eqE (.inner j (k, n, s, p) q x r) (.inner j' (k', n', s', p') q' x' r') = (decide (k = k') && decide (n = n') && decide (s = s') && decide (p = p') && eqE x x' && eqE r r') from rfl] at heq
        have HC : Hid (∀ n, Calls Tryd.prog 28 #[.slice ad1 (elen x) cap1, .slice ad2 (elen x') cap2] (wr.drewN n) (QD (wr.drewN n) (eqE x x'))) := fun n => HIH.out (ecnt x) (by omega) x x' _ _ (wr.drewN n) (Nat.le_refl _) (hsl.below (below_drewM (Below.refl _ _) n)) (hsl'.below (below_drewM (Below.refl _ _) n))
        obtain ⟨C0, hcb0⟩ : ∃ C, eqE x x' = C := ⟨_, rfl⟩
        rw [hcb0] at HC heq
        have hil : (i : Int) < (elen la : Int) := by omega
        have hil' : (i : Int) < (elen lb : Int) := by omega
        have HHI : Hid (i + (elen r + 1) = elen la ∧ elen r = elen r') := ⟨hi, by omega⟩
        have HEQ : Hid (_ = eqE la lb) := heq
        have HRA : Hid (EAt w (fun _ => True) r b (o + (i + 1) * 5) ∧ EAt w (fun _ => True) r' b' (o' + (i + 1) * 5)) := by rw [show o + (i + 1) * 5 = o + i * 5 + 5 by omega, show o' + (i + 1) * 5 = o' + i * 5 + 5 by omega]; exact ⟨hrest, hrest'⟩
        have HCR : Hid (ecnt r ≤ ecnt la) := by show _ ≤ _; omega
        clear hat hat' hrest hrest' hsl hsl' heq hi hrl hcr hbl 
        clear hcb0
        generalize elen x = m1 at x4 HC
        generalize elen x' = m2 at y4 HC
        obtain ⟨V0, hV0⟩ : ∃ V, Value.int .i64 k = V := ⟨_, rfl⟩
        obtain ⟨W0, hW0⟩ : ∃ V, Value.int .i64 k' = V := ⟨_, rfl⟩
        rw [hV0] at x0; rw [hW0] at y0
        have hg0 : ∀ x y W, (eqGuard .neq 40 x y V0 W0).run Tryd.prog W = .ok () W := fun x y W => by rw [← hV0, ← hW0, grdJ]
        obtain ⟨V1, hV1⟩ : ∃ V, Value.int .i64 n = V := ⟨_, rfl⟩
        obtain ⟨W1, hW1⟩ : ∃ V, Value.int .i64 n' = V := ⟨_, rfl⟩
        rw [hV1] at x1; rw [hW1] at y1
        have hg1 : ∀ x y W, (eqGuard .neq 2 x y V1 W1).run Tryd.prog W = .ok () W := fun x y W => by rw [← hV1, ← hW1, grdJ]
        obtain ⟨V2, hV2⟩ : ∃ V, Value.string s = V := ⟨_, rfl⟩
        obtain ⟨W2, hW2⟩ : ∃ V, Value.string s' = V := ⟨_, rfl⟩
        rw [hV2] at x2; rw [hW2] at y2
        have hg2 : ∀ x y W, (eqGuard .neq 9 x y V2 W2).run Tryd.prog W = .ok () W := fun x y W => by rw [← hV2, ← hW2, grdT]
        obtain ⟨V3, hV3⟩ : ∃ V, Value.int .i64 p = V := ⟨_, rfl⟩
        obtain ⟨W3, hW3⟩ : ∃ V, Value.int .i64 p' = V := ⟨_, rfl⟩
        rw [hV3] at x3; rw [hW3] at y3
        have hg3 : ∀ x y W, (eqGuard .neq 22 x y V3 W3).run Tryd.prog W = .ok () W := fun x y W => by rw [← hV3, ← hW3, grdJ]
        clear HIH HAD HAD' hl hli
        by_cases h0 : k = k'
        case neg =>
          have hb0 : ∀ W, (binOp .neq 40 V0 W0).run Tryd.prog W = .ok (.bool true) W := fun W => by rw [← hV0, ← hW0, neqJ]; simp [h0]
          have HF : Hid (∀ n, P (.returned (.bool false)) (wr.drewN n)) := fun n => by show P _ _; rw [← HP.out, ← HEQ.out]; exact ⟨by simp [h0], k0 + n, by rw [HWR.out, World.drewN_drewN]⟩
          go_upto_region 6 with fail
          go_quiet (first | (go_at_call_of 28 (Value.slice ad1 m1 cap1); exact Calls.quiet_of (HC.out _)))
          go_wp2
          first | exact HF.out _ | (go_ret; exact HF.out _)
        have hb0 : ∀ W, (binOp .neq 40 V0 W0).run Tryd.prog W = .ok (.bool false) W := fun W => by rw [← hV0, ← hW0, neqJ]; simp [h0]
        by_cases h1 : n = n'
        case neg =>
          have hb1 : ∀ W, (binOp .neq 2 V1 W1).run Tryd.prog W = .ok (.bool true) W := fun W => by rw [← hV1, ← hW1, neqJ]; simp [h1]
          have HF : Hid (∀ n, P (.returned (.bool false)) (wr.drewN n)) := fun n => by show P _ _; rw [← HP.out, ← HEQ.out]; exact ⟨by simp [h1], k0 + n, by rw [HWR.out, World.drewN_drewN]⟩
          go_upto_region 6 with fail
          go_quiet (first | (go_at_call_of 28 (Value.slice ad1 m1 cap1); exact Calls.quiet_of (HC.out _)))
          go_wp2
          first | exact HF.out _ | (go_ret; exact HF.out _)
        have hb1 : ∀ W, (binOp .neq 2 V1 W1).run Tryd.prog W = .ok (.bool false) W := fun W => by rw [← hV1, ← hW1, neqJ]; simp [h1]
        by_cases h2 : s = s'
        case neg =>
          have hb2 : ∀ W, (binOp .neq 9 V2 W2).run Tryd.prog W = .ok (.bool true) W := fun W => by rw [← hV2, ← hW2, neqT, tl_ne h2]; simp
          have HF : Hid (∀ n, P (.returned (.bool false)) (wr.drewN n)) := fun n => by show P _ _; rw [← HP.out, ← HEQ.out]; exact ⟨by simp [h2], k0 + n, by rw [HWR.out, World.drewN_drewN]⟩
          go_upto_region 6 with fail
          go_quiet (first | (go_at_call_of 28 (Value.slice ad1 m1 cap1); exact Calls.quiet_of (HC.out _)))
          go_wp2
          first | exact HF.out _ | (go_ret; exact HF.out _)
        have hb2 : ∀ W, (binOp .neq 9 V2 W2).run Tryd.prog W = .ok (.bool false) W := fun W => by rw [← hV2, ← hW2, neqT, h2]; simp
        by_cases h3 : p = p'
        case neg =>
          have hb3 : ∀ W, (binOp .neq 22 V3 W3).run Tryd.prog W = .ok (.bool true) W := fun W => by rw [← hV3, ← hW3, neqJ]; simp [h3]
          have HF : Hid (∀ n, P (.returned (.bool false)) (wr.drewN n)) := fun n => by show P _ _; rw [← HP.out, ← HEQ.out]; exact ⟨by simp [h3], k0 + n, by rw [HWR.out, World.drewN_drewN]⟩
          go_upto_region 6 with fail
          go_quiet (first | (go_at_call_of 28 (Value.slice ad1 m1 cap1); exact Calls.quiet_of (HC.out _)))
          go_wp2
          first | exact HF.out _ | (go_ret; exact HF.out _)
        have hb3 : ∀ W, (binOp .neq 22 V3 W3).run Tryd.prog W = .ok (.bool false) W := fun W => by rw [← hV3, ← hW3, neqJ]; simp [h3]
        cases C0
        case false =>
          have HF : Hid (∀ n, P (.returned (.bool false)) (wr.drewN n)) := fun n => by show P _ _; rw [← HP.out, ← HEQ.out]; exact ⟨by simp [], k0 + n, by rw [HWR.out, World.drewN_drewN]⟩
          go_upto_region 6 with fail
          go_quiet (first | (go_at_call_of 28 (Value.slice ad1 m1 cap1); exact Calls.quiet_of (HC.out _)))
          go_wp2
          first | exact HF.out _ | (go_ret; exact HF.out _)
        case true =>
          have HXN : Hid (∀ n, GEq w la lb b o b' o' (.int .i64 ((i : Int) + 1)) (wr.drewN n)) := fun n => ⟨r, r', i + 1, k0 + n, by simp, by have := HHI.out; omega, HHI.out.2, by rw [← HEQ.out]; simp [h0, h1, h2, h3], HCR.out, HRA.out.1, HRA.out.2, by rw [HWR.out, World.drewN_drewN]⟩
          go_upto_region 6 with fail
          go_quiet (first | (go_at_call_of 28 (Value.slice ad1 m1 cap1); exact Calls.quiet_of (HC.out _)))
          go_wp2
          go_roundw
          case rel => exact HXN.out _
          case measure => simp [intOf]; omega
end Go.Proofs.YtnofibjchhcmeabDoor
namespace Go.Proofs.YtnofibjchhcmeabDoor
open Go.RowKit Go.Maps
set_option linter.unusedVariables false

set_option maxRecDepth 100000 in
set_option maxHeartbeats 16000000 in
theorem refSame_any : ∀ (N : Nat) (la lb : SL) (va vb : Value) (w : World), scnt la ≤ N → SSlP w (fun _ => True) va la → SSlP w (fun _ => True) vb lb → Calls Tryd.prog 18 #[va, vb] w (QD w (eqS la lb)) := by
  intro N
  induction N using Nat.strongRecOn with
  | _ N ih =>
  intro la lb va vb w hc hes hes'
  obtain ⟨ad, cap, b, o, rfl, h2, h3, h4, h5⟩ := hes
  obtain ⟨ad', cap', b', o', rfl, h2', h3', h4', h5'⟩ := hes'
  obtain ⟨P, hP⟩ : ∃ P, QD w (eqS la lb) = P := ⟨_, rfl⟩
  have HP : Hid (QD w (eqS la lb) = P) := hP
  rw [hP]
  have HIH : Hid (∀ M, M < N → ∀ (la lb : SL) (va vb : Value) (w : World), scnt la ≤ M → SSlP w (fun _ => True) va la → SSlP w (fun _ => True) vb lb → Calls Tryd.prog 18 #[va, vb] w (QD w (eqS la lb))) := ih
  have HAD : Hid (0 < slen la → ad = some ⟨b, o, none⟩ ∧ True) := h4
  have HAD' : Hid (0 < slen lb → ad' = some ⟨b', o', none⟩ ∧ True) := h4'
  have E0 : Hid (slen la = slen lb → GSq w la lb b o b' o' (.int .i64 0) w) := fun hl => ⟨la, lb, 0, 0, rfl, by omega, hl, rfl, Nat.le_refl _, by simpa using h5, by simpa using h5', rfl⟩
  have HF0 : Hid (¬ slen la = slen lb → P (.returned (.bool false)) w) := fun hl => by
    rw [← HP.out]
    refine ⟨?_, 0, rfl⟩
    have : eqS la lb = false := by
      rcases hb : eqS la lb with _ | _
      · rfl
      · exact absurd (eqS_len la lb hb) hl
    rw [this]
  unfold maxLen at h3 h3'
  clear ih hP h4 h5 h4' h5'
  go_enter Tryd.func18, Tryd.ntmps18
  by_cases hl : slen la = slen lb
  case neg =>
    have hli : ¬ ((slen la : Int) = (slen lb : Int)) := by omega
    have HF := HF0.out hl
    go_wp2
    first | exact HF | (go_ret; exact HF)
  have hli : ((slen la : Int) = (slen lb : Int)) := by omega
  replace E0 : Hid (GSq w la lb b o b' o' (.int .i64 0) w) := E0.out hl
  clear HF0
  go_wp2
  go_loopw [5] (fun u5 wr => Hid (GSq w la lb b o b' o' u5 wr)) (fun u5 _ => slen la - (intOf u5).toNat)
  case atStart => exact E0
  case round =>
    clear E0
    obtain ⟨ra, rb, i, k0, rfl, hi, hrl, heq, hcr, hat, hat', hwr⟩ := hrel.out
    have hbl : Below w.heap.size w wr := by rw [hwr]; exact below_drewM (Below.refl _ _) k0
    have HWR : Hid (wr = w.drewN k0) := hwr
    clear hrel hwr
    cases ra with
    | leaf =>
      have hil : ¬ ((i : Int) < (slen la : Int)) := by simp only [slen] at hi; omega
      have hrb : rb = .leaf := by cases rb with
        | leaf => rfl
        | inner => simp [slen] at hrl
      subst hrb
      have HF : Hid (P (.returned (.bool true)) wr) := by show P _ _; rw [← HP.out, ← heq]; exact ⟨rfl, k0, HWR.out⟩
      clear hbl hat hat' hi heq
      go_wp2
      first | exact HF.out | (go_ret; exact HF.out)
    | inner j d q x r =>
      cases rb with
      | leaf => simp [slen] at hrl
      | inner j' d' q' x' r' =>
        obtain ⟨k, s, c, a⟩ := d
        obtain ⟨k', s', c', a'⟩ := d'
        obtain ⟨ad1, cap1, bd1, bcap1, ed1, ecap1, hrd, hsl, hsb, hse, hrest⟩ := SAx.read hat hbl
        obtain ⟨ad2, cap2, bd2, bcap2, ed2, ecap2, hrd', hsl', hsb', hse', hrest'⟩ := SAx.read hat' hbl
        rw [scnt_inner] at hcr
        simp only [slen] at hi hrl
        rw [eqS_inner] at heq
        obtain ⟨e1, _⟩ := HAD.out (by omega)
        obtain ⟨e2, _⟩ := HAD'.out (by omega)
        subst e1 e2
        obtain ⟨hlt1, x0, x1, x2, x3, x4, x5⟩ := hrd
        obtain ⟨hlt2, y0, y1, y2, y3, y4, y5⟩ := hrd'
        have HC : Hid (∀ n, Calls Tryd.prog 28 #[.slice ad1 (elen a) cap1, .slice ad2 (elen a') cap2] (wr.drewN n) (QD (wr.drewN n) (eqE a a'))) := fun n => equal_any (ecnt a) a a' _ _ (wr.drewN n) (Nat.le_refl _) (hsl.below (below_drewM (Below.refl _ _) n)) (hsl'.below (below_drewM (Below.refl _ _) n))
        have HCB : Hid (∀ n, Calls Tryd.prog 18 #[.slice bd1 (slen (slft x)) bcap1, .slice bd2 (slen (slft x')) bcap2] (wr.drewN n) (QD (wr.drewN n) (eqS (slft x) (slft x')))) := fun n => HIH.out (scnt (slft x)) (by omega) _ _ _ _ (wr.drewN n) (Nat.le_refl _) (hsb.below (below_drewM (Below.refl _ _) n)) (hsb'.below (below_drewM (Below.refl _ _) n))
        have HCE : Hid (∀ n, Calls Tryd.prog 18 #[.slice ed1 (slen (srgt x)) ecap1, .slice ed2 (slen (srgt x')) ecap2] (wr.drewN n) (QD (wr.drewN n) (eqS (srgt x) (srgt x')))) := fun n => HIH.out (scnt (srgt x)) (by omega) _ _ _ _ (wr.drewN n) (Nat.le_refl _) (hse.below (below_drewM (Below.refl _ _) n)) (hse'.below (below_drewM (Below.refl _ _) n))
        obtain ⟨C0, hcb0⟩ : ∃ C, eqE a a' = C := ⟨_, rfl⟩
        rw [hcb0] at HC heq
        obtain ⟨C1, hcb1⟩ : ∃ C, eqS (slft x) (slft x') = C := ⟨_, rfl⟩
        rw [hcb1] at HCB heq
        obtain ⟨C2, hcb2⟩ : ∃ C, eqS (srgt x) (srgt x') = C := ⟨_, rfl⟩
        rw [hcb2] at HCE heq
        have hil : (i : Int) < (slen la : Int) := by omega
        have hil' : (i : Int) < (slen lb : Int) := by omega
        have HHI : Hid (i + (slen r + 1) = slen la ∧ slen r = slen r') := ⟨hi, by omega⟩
        have HEQ : Hid (_ = eqS la lb) := heq
        have HRA : Hid (SAt w (fun _ => True) r b (o + (i + 1) * 6) ∧ SAt w (fun _ => True) r' b' (o' + (i + 1) * 6)) := by rw [show o + (i + 1) * 6 = o + i * 6 + 6 by omega, show o' + (i + 1) * 6 = o' + i * 6 + 6 by omega]; exact ⟨hrest, hrest'⟩
        have HCR : Hid (scnt r ≤ scnt la) := by show _ ≤ _; omega
        clear hat hat' hrest hrest' hsl hsl' heq hi hrl hcr hbl hsb hsb' hse hse'
        clear hcb0 hcb1 hcb2
        generalize elen a = m1 at x3 HC
        generalize elen a' = m2 at y3 HC
        generalize slen (slft x) = m3 at x4 HCB
        generalize slen (slft x') = m4 at y4 HCB
        generalize slen (srgt x) = m5 at x5 HCE
        generalize slen (srgt x') = m6 at y5 HCE
        obtain ⟨V0, hV0⟩ : ∃ V, Value.int .i64 k = V := ⟨_, rfl⟩
        obtain ⟨W0, hW0⟩ : ∃ V, Value.int .i64 k' = V := ⟨_, rfl⟩
        rw [hV0] at x0; rw [hW0] at y0
        have hg0 : ∀ x y W, (eqGuard .neq 36 x y V0 W0).run Tryd.prog W = .ok () W := fun x y W => by rw [← hV0, ← hW0, grdJ]
        obtain ⟨V1, hV1⟩ : ∃ V, Value.string s = V := ⟨_, rfl⟩
        obtain ⟨W1, hW1⟩ : ∃ V, Value.string s' = V := ⟨_, rfl⟩
        rw [hV1] at x1; rw [hW1] at y1
        have hg1 : ∀ x y W, (eqGuard .neq 9 x y V1 W1).run Tryd.prog W = .ok () W := fun x y W => by rw [← hV1, ← hW1, grdT]
        obtain ⟨V2, hV2⟩ : ∃ V, Value.int .i64 c = V := ⟨_, rfl⟩
        obtain ⟨W2, hW2⟩ : ∃ V, Value.int .i64 c' = V := ⟨_, rfl⟩
        rw [hV2] at x2; rw [hW2] at y2
        have hg2 : ∀ x y W, (eqGuard .neq 3 x y V2 W2).run Tryd.prog W = .ok () W := fun x y W => by rw [← hV2, ← hW2, grdJ]
        clear HIH HAD HAD' hl hli
        by_cases h0 : k = k'
        case neg =>
          have hb0 : ∀ W, (binOp .neq 36 V0 W0).run Tryd.prog W = .ok (.bool true) W := fun W => by rw [← hV0, ← hW0, neqJ]; simp [h0]
          have HF : Hid (∀ n, P (.returned (.bool false)) (wr.drewN n)) := fun n => by show P _ _; rw [← HP.out, ← HEQ.out]; exact ⟨by simp [h0], k0 + n, by rw [HWR.out, World.drewN_drewN]⟩
          go_upto_region 6 with fail
          go_quiet (first | (go_at_call_of 28 (Value.slice ad1 m1 cap1); exact Calls.quiet_of (HC.out _)) | (go_at_call_of 18 (Value.slice bd1 m3 bcap1); exact Calls.quiet_of (HCB.out _)) | (go_at_call_of 18 (Value.slice ed1 m5 ecap1); exact Calls.quiet_of (HCE.out _)))
          go_wp2
          first | exact HF.out _ | (go_ret; exact HF.out _)
        have hb0 : ∀ W, (binOp .neq 36 V0 W0).run Tryd.prog W = .ok (.bool false) W := fun W => by rw [← hV0, ← hW0, neqJ]; simp [h0]
        by_cases h1 : s = s'
        case neg =>
          have hb1 : ∀ W, (binOp .neq 9 V1 W1).run Tryd.prog W = .ok (.bool true) W := fun W => by rw [← hV1, ← hW1, neqT, tl_ne h1]; simp
          have HF : Hid (∀ n, P (.returned (.bool false)) (wr.drewN n)) := fun n => by show P _ _; rw [← HP.out, ← HEQ.out]; exact ⟨by simp [h1], k0 + n, by rw [HWR.out, World.drewN_drewN]⟩
          go_upto_region 6 with fail
          go_quiet (first | (go_at_call_of 28 (Value.slice ad1 m1 cap1); exact Calls.quiet_of (HC.out _)) | (go_at_call_of 18 (Value.slice bd1 m3 bcap1); exact Calls.quiet_of (HCB.out _)) | (go_at_call_of 18 (Value.slice ed1 m5 ecap1); exact Calls.quiet_of (HCE.out _)))
          go_wp2
          first | exact HF.out _ | (go_ret; exact HF.out _)
        have hb1 : ∀ W, (binOp .neq 9 V1 W1).run Tryd.prog W = .ok (.bool false) W := fun W => by rw [← hV1, ← hW1, neqT, h1]; simp
        by_cases h2 : c = c'
        case neg =>
          have hb2 : ∀ W, (binOp .neq 3 V2 W2).run Tryd.prog W = .ok (.bool true) W := fun W => by rw [← hV2, ← hW2, neqJ]; simp [h2]
          have HF : Hid (∀ n, P (.returned (.bool false)) (wr.drewN n)) := fun n => by show P _ _; rw [← HP.out, ← HEQ.out]; exact ⟨by simp [h2], k0 + n, by rw [HWR.out, World.drewN_drewN]⟩
          go_upto_region 6 with fail
          go_quiet (first | (go_at_call_of 28 (Value.slice ad1 m1 cap1); exact Calls.quiet_of (HC.out _)) | (go_at_call_of 18 (Value.slice bd1 m3 bcap1); exact Calls.quiet_of (HCB.out _)) | (go_at_call_of 18 (Value.slice ed1 m5 ecap1); exact Calls.quiet_of (HCE.out _)))
          go_wp2
          first | exact HF.out _ | (go_ret; exact HF.out _)
        have hb2 : ∀ W, (binOp .neq 3 V2 W2).run Tryd.prog W = .ok (.bool false) W := fun W => by rw [← hV2, ← hW2, neqJ]; simp [h2]
        cases C0
        case false =>
          have HF : Hid (∀ n, P (.returned (.bool false)) (wr.drewN n)) := fun n => by show P _ _; rw [← HP.out, ← HEQ.out]; exact ⟨by simp [], k0 + n, by rw [HWR.out, World.drewN_drewN]⟩
          go_upto_region 6 with fail
          go_quiet (first | (go_at_call_of 28 (Value.slice ad1 m1 cap1); exact Calls.quiet_of (HC.out _)) | (go_at_call_of 18 (Value.slice bd1 m3 bcap1); exact Calls.quiet_of (HCB.out _)) | (go_at_call_of 18 (Value.slice ed1 m5 ecap1); exact Calls.quiet_of (HCE.out _)))
          go_wp2
          first | exact HF.out _ | (go_ret; exact HF.out _)
        cases C1
        case false =>
          have HF : Hid (∀ n, P (.returned (.bool false)) (wr.drewN n)) := fun n => by show P _ _; rw [← HP.out, ← HEQ.out]; exact ⟨by simp [], k0 + n, by rw [HWR.out, World.drewN_drewN]⟩
          go_upto_region 6 with fail
          go_quiet (first | (go_at_call_of 28 (Value.slice ad1 m1 cap1); exact Calls.quiet_of (HC.out _)) | (go_at_call_of 18 (Value.slice bd1 m3 bcap1); exact Calls.quiet_of (HCB.out _)) | (go_at_call_of 18 (Value.slice ed1 m5 ecap1); exact Calls.quiet_of (HCE.out _)))
          go_wp2
          first | exact HF.out _ | (go_ret; exact HF.out _)
        cases C2
        case false =>
          have HF : Hid (∀ n, P (.returned (.bool false)) (wr.drewN n)) := fun n => by show P _ _; rw [← HP.out, ← HEQ.out]; exact ⟨by simp [], k0 + n, by rw [HWR.out, World.drewN_drewN]⟩
          go_upto_region 6 with fail
          go_quiet (first | (go_at_call_of 28 (Value.slice ad1 m1 cap1); exact Calls.quiet_of (HC.out _)) | (go_at_call_of 18 (Value.slice bd1 m3 bcap1); exact Calls.quiet_of (HCB.out _)) | (go_at_call_of 18 (Value.slice ed1 m5 ecap1); exact Calls.quiet_of (HCE.out _)))
          go_wp2
          first | exact HF.out _ | (go_ret; exact HF.out _)
        case true =>
          have HXN : Hid (∀ n, GSq w la lb b o b' o' (.int .i64 ((i : Int) + 1)) (wr.drewN n)) := fun n => ⟨r, r', i + 1, k0 + n, by simp, by have := HHI.out; omega, HHI.out.2, by rw [← HEQ.out]; simp [h0, h1, h2], HCR.out, HRA.out.1, HRA.out.2, by rw [HWR.out, World.drewN_drewN]⟩
          go_upto_region 6 with fail
          go_quiet (first | (go_at_call_of 28 (Value.slice ad1 m1 cap1); exact Calls.quiet_of (HC.out _)) | (go_at_call_of 18 (Value.slice bd1 m3 bcap1); exact Calls.quiet_of (HCB.out _)) | (go_at_call_of 18 (Value.slice ed1 m5 ecap1); exact Calls.quiet_of (HCE.out _)))
          go_wp2
          go_roundw
          case rel => exact HXN.out _
          case measure => simp [intOf]; omega
end Go.Proofs.YtnofibjchhcmeabDoor
