/- Which statements may be, as the document says it: plain, and that the looker says the same. -/
import Derived.Test.YtnofibjchhcmeabDoorRtU
namespace Go.Proofs.YtnofibjchhcmeabDoor
open Go.RowKit
set_option linter.unusedVariables false

def allE : EL → Prop
  | .leaf => True
  | .inner _ (k, m, s, p) _ a r => exprOk k m s p (elen a) = true ∧ allE a ∧ allE r
def dpE : EL → Nat
  | .leaf => 0
  | .inner _ _ _ a r => max (dpE a + 1) (dpE r)
theorem rtE_some (l : EL) : ∀ d n, allE l → d + dpE l ≤ 49 → n + ecnt l ≤ 600 → rtE l d n = some (n + ecnt l) := by
  induction l with
  | leaf => intro d n _ _ _; rfl
  | inner i x v a r iha ihr =>
    obtain ⟨k, m, s, p⟩ := x
    intro d n ha hd hn
    obtain ⟨h1, h2, h3⟩ := ha
    simp only [dpE, ecnt] at hd hn
    unfold rtE
    rw [if_neg (by omega), if_neg (by omega), if_neg (by rw [h1]; simp), iha _ _ h2 (by omega) (by omega)]
    simp only
    rw [ihr _ _ h3 (by omega) (by omega)]
    simp only [ecnt]
    congr 1; omega
def allS : SL → Nat → Prop
  | .leaf, _ => True
  | .inner _ (k, s, c, a) _ .leaf r, b => stmtOk k s c (elen a) 0 0 = true ∧ allE a ∧ dpE a ≤ 48 ∧ ¬ ((hasS k).body = true ∧ 12 ≤ b) ∧ allS r b
  | .inner _ (k, s, c, a) _ (.inner _ _ _ d e) r, b => stmtOk k s c (elen a) (slen d) (slen e) = true ∧ allE a ∧ dpE a ≤ 48 ∧ ¬ ((hasS k).body = true ∧ 12 ≤ b) ∧ allS d (b + 1) ∧ allS e (b + 1) ∧ allS r b
theorem allS_inner {i : Nat} {k : Int} {s : ByteArray} {c : Int} {a : EL} {v : Unit} {x r : SL} {b : Nat} (h : allS (.inner i (k, s, c, a) v x r) b) : stmtOk k s c (elen a) (slen (slft x)) (slen (srgt x)) = true ∧ allE a ∧ dpE a ≤ 48 ∧ ¬ ((hasS k).body = true ∧ 12 ≤ b) ∧ allS (slft x) (b + 1) ∧ allS (srgt x) (b + 1) ∧ allS r b := by
  cases x with
  | leaf => exact ⟨h.1, h.2.1, h.2.2.1, h.2.2.2.1, trivial, trivial, h.2.2.2.2⟩
  | inner => exact h
theorem rtS_some (l : SL) : ∀ b n, allS l b → n + scnt l ≤ 600 → rtS l b n = some (n + scnt l) := by
  induction l using sl_ind with
  | h0 => intro b n _ _; rfl
  | h1 i d v x r ihl ihr ih =>
    obtain ⟨k, s, c, a⟩ := d
    intro b n ha hn
    obtain ⟨h1, h2, h3, h4, h5, h6, h7⟩ := allS_inner ha
    rw [scnt_inner] at hn ⊢
    rw [rtS_inner, if_neg (by omega), if_neg (by rw [h1]; simp), rtE_some a 1 (n + 1) h2 (by omega) (by omega)]
    simp only
    have e1 : blkR k b (rtS (slft x) (b + 1)) (rtS (srgt x) (b + 1)) (n + 1 + ecnt a) = some (n + 1 + ecnt a + scnt (slft x) + scnt (srgt x)) := by
      unfold blkR
      rw [if_neg h4, ihl _ _ h5 (by omega)]
      simp only
      rw [ihr _ _ h6 (by omega)]
    rw [e1]
    simp only
    rw [ih _ _ h7 (by omega)]
    congr 1; omega
end Go.Proofs.YtnofibjchhcmeabDoor
namespace Go.Proofs.YtnofibjchhcmeabDoor
open Go.RowKit
set_option linter.unusedVariables false

def fitsE : EL → Bool
  | .leaf => true
  | .inner _ (k, m, s, p) _ a r => exprOk k m s p (elen a) && fitsE a && fitsE r
theorem fitsE_all (l : EL) : fitsE l = true ↔ allE l := by
  induction l with
  | leaf => exact ⟨fun _ => trivial, fun _ => rfl⟩
  | inner i x v a r iha ihr =>
    obtain ⟨k, m, s, p⟩ := x
    unfold fitsE allE
    rw [Bool.and_eq_true, Bool.and_eq_true, iha, ihr]
    exact ⟨fun h => ⟨h.1.1, h.1.2, h.2⟩, fun h => ⟨⟨h.1, h.2.1⟩, h.2.2⟩⟩
theorem rtE_conv (l : EL) : ∀ d n n', n ≤ 600 → d ≤ 49 → rtE l d n = some n' → allE l ∧ d + dpE l ≤ 49 ∧ n' = n + ecnt l ∧ n' ≤ 600 := by
  induction l with
  | leaf => intro d n n' h1 h2 h; unfold rtE at h; injection h with h; subst h; exact ⟨trivial, by simp only [dpE]; omega, by simp only [ecnt]; omega, h1⟩
  | inner i x v a r iha ihr =>
    obtain ⟨k, m, s, p⟩ := x
    intro d n n' h1 h2 h
    unfold rtE at h
    by_cases q1 : 48 < d
    · rw [if_pos q1] at h; cases h
    rw [if_neg q1] at h
    by_cases q2 : 600 < n + 1
    · rw [if_pos q2] at h; cases h
    rw [if_neg q2] at h
    by_cases q3 : exprOk k m s p (elen a) = false
    · rw [if_pos q3] at h; cases h
    rw [if_neg q3] at h
    rcases e : rtE a (d + 1) (n + 1) with _ | m1
    · rw [e] at h; cases h
    · rw [e] at h
      simp only at h
      obtain ⟨g1, g2, g3, g4⟩ := iha _ _ _ (by omega) (by omega) e
      obtain ⟨f1, f2, f3, f4⟩ := ihr _ _ _ g4 h2 h
      refine ⟨⟨by simpa using q3, g1, f1⟩, ?_, ?_, f4⟩
      · simp only [dpE]; omega
      · simp only [ecnt]; omega
theorem rtS_conv (l : SL) : ∀ b n n', n ≤ 600 → rtS l b n = some n' → allS l b ∧ n' = n + scnt l ∧ n' ≤ 600 := by
  induction l using sl_ind with
  | h0 => intro b n n' h1 h; unfold rtS at h; injection h with h; subst h; exact ⟨trivial, by simp [scnt], h1⟩
  | h1 i d v x r ihl ihr ih =>
    obtain ⟨k, s, c, a⟩ := d
    intro b n n' h1 h
    rw [rtS_inner] at h
    by_cases q2 : 600 < n + 1
    · rw [if_pos q2] at h; cases h
    rw [if_neg q2] at h
    by_cases q3 : stmtOk k s c (elen a) (slen (slft x)) (slen (srgt x)) = false
    · rw [if_pos q3] at h; cases h
    rw [if_neg q3] at h
    rcases e : rtE a 1 (n + 1) with _ | m1
    · rw [e] at h; cases h
    rw [e] at h
    simp only at h
    obtain ⟨g1, g2, g3, g4⟩ := rtE_conv a _ _ _ (by omega) (by omega) e
    rcases e2 : blkR k b (rtS (slft x) (b + 1)) (rtS (srgt x) (b + 1)) m1 with _ | m3
    · rw [e2] at h; cases h
    rw [e2] at h
    simp only at h
    unfold blkR at e2
    by_cases q4 : (hasS k).body = true ∧ 12 ≤ b
    · rw [if_pos q4] at e2; cases e2
    rw [if_neg q4] at e2
    rcases e3 : rtS (slft x) (b + 1) m1 with _ | m2
    · rw [e3] at e2; cases e2
    rw [e3] at e2
    simp only at e2
    obtain ⟨f1, f2, f3⟩ := ihl _ _ _ g4 e3
    obtain ⟨r1, r2, r3⟩ := ihr _ _ _ f3 e2
    obtain ⟨t1, t2, t3⟩ := ih _ _ _ r3 h
    rw [scnt_inner]
    refine ⟨?_, by omega, t3⟩
    have q5 : stmtOk k s c (elen a) (slen (slft x)) (slen (srgt x)) = true := by simpa using q3
    cases x with
    | leaf => exact ⟨q5, g1, by omega, q4, t1⟩
    | inner => exact ⟨q5, g1, by omega, q4, f1, r1, t1⟩
/-- may one statement be, but for its blocks? -/
def ownB (k : Int) (s : ByteArray) (c : Int) (a : EL) (m n b : Nat) : Bool := stmtOk k s c (elen a) m n && (decide (dpE a ≤ 48) && fitsE a) && !((hasS k).body && decide (12 ≤ b))
/-- which statements may be within so many blocks -/
def mayS : SL → Nat → Bool
  | .leaf, _ => true
  | .inner _ (k, s, c, a) _ .leaf r, b => ownB k s c a 0 0 b && mayS r b
  | .inner _ (k, s, c, a) _ (.inner _ _ _ d e) r, b => (ownB k s c a (slen d) (slen e) b && mayS d (b + 1) && mayS e (b + 1)) && mayS r b
theorem mayS_inner (i : Nat) (k : Int) (s : ByteArray) (c : Int) (a : EL) (v : Unit) (x r : SL) (b : Nat) : mayS (.inner i (k, s, c, a) v x r) b = ((ownB k s c a (slen (slft x)) (slen (srgt x)) b && mayS (slft x) (b + 1) && mayS (srgt x) (b + 1)) && mayS r b) := by
  cases x with
  | leaf => simp [mayS, slft, srgt, slen]
  | inner => rfl
theorem ownB_is (k : Int) (s : ByteArray) (c : Int) (a : EL) (m n b : Nat) : ownB k s c a m n b = true ↔ stmtOk k s c (elen a) m n = true ∧ allE a ∧ dpE a ≤ 48 ∧ ¬ ((hasS k).body = true ∧ 12 ≤ b) := by
  unfold ownB
  rw [← fitsE_all]
  cases h : (hasS k).body <;> by_cases hb : 12 ≤ b <;> simp [hb] <;> intros <;> constructor <;> intros <;> simp_all
theorem mayS_all (l : SL) : ∀ b, mayS l b = true ↔ allS l b := by
  induction l using sl_ind with
  | h0 => intro b; exact ⟨fun _ => trivial, fun _ => rfl⟩
  | h1 i d v x r ihl ihr ih =>
    obtain ⟨k, s, c, a⟩ := d
    intro b
    rw [mayS_inner, Bool.and_eq_true, Bool.and_eq_true, Bool.and_eq_true, ownB_is, ihl, ihr, ih]
    constructor
    · intro h
      cases x with
      | leaf => exact ⟨h.1.1.1.1, h.1.1.1.2.1, h.1.1.1.2.2.1, h.1.1.1.2.2.2, h.2⟩
      | inner => exact ⟨h.1.1.1.1, h.1.1.1.2.1, h.1.1.1.2.2.1, h.1.1.1.2.2.2, h.1.1.2, h.1.2, h.2⟩
    · intro h
      obtain ⟨h1, h2, h3, h4, h5, h6, h7⟩ := allS_inner h
      exact ⟨⟨⟨⟨h1, h2, h3, h4⟩, h5⟩, h6⟩, h7⟩
theorem right_is (l : SL) : (rtS l 0 0).isSome = (decide (scnt l ≤ 600) && mayS l 0) := by
  rw [Bool.eq_iff_iff, Bool.and_eq_true, mayS_all, decide_eq_true_eq]
  constructor
  · intro h
    obtain ⟨n, hn⟩ := Option.isSome_iff_exists.1 h
    obtain ⟨h1, h2, h3⟩ := rtS_conv l 0 0 n (by omega) hn
    exact ⟨by omega, h1⟩
  · intro h
    rw [rtS_some l 0 0 h.2 (by omega)]; rfl
end Go.Proofs.YtnofibjchhcmeabDoor
