/- Rows of expressions and statements that are the same: plain mathematics. -/
import Derived.Test.YtnofibjchhcmeabDoorNd
namespace Go.Proofs.YtnofibjchhcmeabDoor
open Go.RowKit Go.Maps
set_option linter.unusedVariables false

def eqE : EL → EL → Bool
  | .leaf, .leaf => true
  | .inner _ (k, n, s, p) _ a r, .inner _ (k', n', s', p') _ a' r' => decide (k = k') && decide (n = n') && decide (s = s') && decide (p = p') && eqE a a' && eqE r r'
  | .leaf, .inner .. => false
  | .inner .., .leaf => false
theorem eqE_len (l : EL) : ∀ l', eqE l l' = true → elen l = elen l' := by
  induction l with
  | leaf => intro l' h; cases l' with
    | leaf => rfl
    | inner => simp [eqE] at h
  | inner i d v a r _ ih =>
    obtain ⟨k, n, s, p⟩ := d
    intro l' h
    cases l' with
    | leaf => simp [eqE] at h
    | inner i' d' v' a' r' =>
      obtain ⟨k', n', s', p'⟩ := d'
      simp only [eqE, Bool.and_eq_true] at h
      simp only [elen]
      rw [ih r' h.2]
theorem eqE_refl (l : EL) : eqE l l = true := by
  induction l with
  | leaf => rfl
  | inner i d v a r iha ihr => obtain ⟨k, n, s, p⟩ := d; simp [eqE, iha, ihr]
def eqS : SL → SL → Bool
  | .leaf, .leaf => true
  | .leaf, .inner .. => false
  | .inner .., .leaf => false
  | .inner _ (k, s, c, a) _ .leaf r, .inner _ (k', s', c', a') _ x' r' => decide (k = k') && decide (s = s') && decide (c = c') && eqE a a' && decide (slen (slft x') = 0) && decide (slen (srgt x') = 0) && eqS r r'
  | .inner _ (k, s, c, a) _ (.inner _ _ _ d e) r, .inner _ (k', s', c', a') _ x' r' => decide (k = k') && decide (s = s') && decide (c = c') && eqE a a' && eqS d (slft x') && eqS e (srgt x') && eqS r r'
theorem eqS_leaf (l : SL) : eqS .leaf l = decide (slen l = 0) := by
  cases l with
  | leaf => rfl
  | inner => simp [eqS, slen]
theorem eqS_inner (i i' : Nat) (k k' : Int) (s s' : ByteArray) (c c' : Int) (a a' : EL) (v v' : Unit) (x x' r r' : SL) : eqS (.inner i (k, s, c, a) v x r) (.inner i' (k', s', c', a') v' x' r') = (decide (k = k') && decide (s = s') && decide (c = c') && eqE a a' && eqS (slft x) (slft x') && eqS (srgt x) (srgt x') && eqS r r') := by
  cases x with
  | leaf => show eqS _ _ = (_ && _ && _ && _ && eqS .leaf _ && eqS .leaf _ && _); rw [eqS_leaf, eqS_leaf]; rfl
  | inner => rfl
theorem eqS_len (l : SL) : ∀ l', eqS l l' = true → slen l = slen l' := by
  induction l with
  | leaf => intro l' h; rw [eqS_leaf] at h; exact (of_decide_eq_true h).symm
  | inner i d v a r _ ih =>
    obtain ⟨k, s, c, e⟩ := d
    intro l' h
    cases l' with
    | leaf => cases a <;> simp [eqS] at h
    | inner i' d' v' a' r' =>
      obtain ⟨k', s', c', e'⟩ := d'
      rw [eqS_inner] at h
      simp only [Bool.and_eq_true] at h
      simp only [slen]
      rw [ih r' h.2]
theorem eqS_refl (l : SL) : eqS l l = true := by
  induction l using sl_ind with
  | h0 => rfl
  | h1 i d v x r ihl ihr ih => obtain ⟨k, s, c, a⟩ := d; rw [eqS_inner, ihl, ihr, ih, eqE_refl]; simp
def QB (w : World) (x : Bool) (e : Ending) (w' : World) : Prop := e = .returned (.bool x) ∧ Below w.heap.size w w'
end Go.Proofs.YtnofibjchhcmeabDoor
