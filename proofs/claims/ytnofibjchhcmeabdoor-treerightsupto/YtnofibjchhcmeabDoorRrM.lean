/- The document's may: plain, kind by kind. -/
import Derived.Test.YtnofibjchhcmeabDoorRrF
namespace Go.Proofs.YtnofibjchhcmeabDoor
open Go.RowKit Go.Maps
set_option linter.unusedVariables false
set_option linter.unusedSimpArgs false

theorem slen_zero {l : SL} (h : slen l = 0) : l = .leaf := by cases l with
  | leaf => rfl
  | inner i d u x r => simp [slen] at h
theorem elen_zero {l : EL} (h : elen l = 0) : l = .leaf := by cases l with
  | leaf => rfl
  | inner i d u x r => simp [elen] at h
theorem below_drewN {B : Nat} {w w' : World} (h : Below B w w') (n : Nat) : Below B w (w'.drewN n) := by
  induction n with
  | zero => exact h
  | succ n ih => exact ih.drew
structure Six (w : World) (b : Nat) (v0 v1 v2 v3 v4 v5 : Value) : Prop where
  c0 : w.cell? ⟨b, 0, none⟩ = some v0
  c1 : w.cell? ⟨b, 1, none⟩ = some v1
  c2 : w.cell? ⟨b, 2, none⟩ = some v2
  c3 : w.cell? ⟨b, 3, none⟩ = some v3
  c4 : w.cell? ⟨b, 4, none⟩ = some v4
  c5 : w.cell? ⟨b, 5, none⟩ = some v5
theorem Six.keep {w w' : World} {b : Nat} {v0 v1 v2 v3 v4 v5 : Value} (h : Six w b v0 v1 v2 v3 v4 v5) (hb : w'.heap[b]? = w.heap[b]?) : Six w' b v0 v1 v2 v3 v4 v5 :=
  ⟨(World.cell?_of_block (w := w) (a := ⟨b, 0, none⟩) hb).trans h.c0, (World.cell?_of_block (w := w) (a := ⟨b, 1, none⟩) hb).trans h.c1, (World.cell?_of_block (w := w) (a := ⟨b, 2, none⟩) hb).trans h.c2, (World.cell?_of_block (w := w) (a := ⟨b, 3, none⟩) hb).trans h.c3, (World.cell?_of_block (w := w) (a := ⟨b, 4, none⟩) hb).trans h.c4, (World.cell?_of_block (w := w) (a := ⟨b, 5, none⟩) hb).trans h.c5⟩
theorem Six.new (w : World) (v0 v1 v2 v3 v4 v5 : Value) (t : TypeId) : Six (w.alloc (.cells #[v0, v1, v2, v3, v4, v5] t)) w.heap.size v0 v1 v2 v3 v4 v5 := ⟨by simp, by simp, by simp, by simp, by simp, by simp⟩
/-- the arguments' own part -/
def argB (l : EL) : Bool := decide (dpE l ≤ 48) && fitsE l
theorem argB_inner (i : Nat) (k n : Int) (s : ByteArray) (p : Int) (u : Unit) (a r : EL) : argB (.inner i (k, n, s, p) u a r) = (decide (dpC a ≤ 48) && (exprOk k n s p (elen a) && fitsE a) && argB r) := by
  have e1 : decide (dpE (.inner i (k, n, s, p) u a r) ≤ 48) = (decide (dpC a ≤ 48) && decide (dpE r ≤ 48)) := by
    rw [Bool.eq_iff_iff, Bool.and_eq_true, decide_eq_true_eq, decide_eq_true_eq, decide_eq_true_eq]
    show max (dpE a + 1) (dpE r) ≤ 48 ↔ _
    unfold dpC
    split <;> omega
  unfold argB
  rw [e1]
  simp only [fitsE]
  generalize decide (dpC a ≤ 48) = p1
  generalize decide (dpE r ≤ 48) = p2
  generalize exprOk k n s p (elen a) = p3
  generalize fitsE a = p4
  generalize fitsE r = p5
  cases p1 <;> cases p2 <;> cases p3 <;> cases p4 <;> cases p5 <;> rfl
/-- may one statement be? -/
def mayO (k : Int) (s : ByteArray) (c : Int) (a : EL) (d e : SL) (b : Nat) : Bool := ownB k s c a (slen d) (slen e) b && mayS d (b + 1) && mayS e (b + 1)
theorem mayO_is (k : Int) (s : ByteArray) (c : Int) (a : EL) (d e : SL) (b : Nat) : mayO k s c a d e b = ((stmtOk k s c (elen a) (slen d) (slen e) && !((hasS k).body && decide (12 ≤ b))) && (argB a && (mayS d (b + 1) && mayS e (b + 1)))) := by
  unfold mayO ownB argB
  rw [Bool.eq_iff_iff]
  simp only [Bool.and_eq_true]
  constructor
  · rintro ⟨⟨⟨⟨h1, h2⟩, h3⟩, h4⟩, h5⟩; exact ⟨⟨h1, h3⟩, h2, h4, h5⟩
  · rintro ⟨⟨h1, h3⟩, h2, h4, h5⟩; exact ⟨⟨⟨⟨h1, h2⟩, h3⟩, h4⟩, h5⟩
theorem mayS_O (i : Nat) (k : Int) (s : ByteArray) (c : Int) (a : EL) (v : Unit) (x r : SL) (b : Nat) : mayS (.inner i (k, s, c, a) v x r) b = (mayO k s c a (slft x) (srgt x) b && mayS r b) := mayS_inner i k s c a v x r b
theorem sk_1 (s : ByteArray) (c : Int) (m bl el : Nat) : stmtOk 1 s c m bl el = (nmB s.data.toList && decide (c = 0) && decide (m = 1) && decide (bl = 0) && decide (el = 0)) := by
  unfold stmtOk stmtB hasS nameF
  rw [Bool.eq_iff_iff]
  by_cases hs : nmB s.data.toList = true <;> simp [hs] <;> omega
theorem sk_2 (s : ByteArray) (c : Int) (m bl el : Nat) : stmtOk 2 s c m bl el = (nmB s.data.toList && decide (c = 0) && decide (m = 1) && decide (bl = 0) && decide (el = 0)) := by
  unfold stmtOk stmtB hasS nameF
  rw [Bool.eq_iff_iff]
  by_cases hs : nmB s.data.toList = true <;> simp [hs] <;> omega
theorem sk_3 (s : ByteArray) (c : Int) (m bl el : Nat) : stmtOk 3 s c m bl el = ((s.toList == []) && decide (c = 0) && decide (m = 2) && decide (bl = 0) && decide (el = 0)) := by
  unfold stmtOk stmtB hasS nameF
  rw [Bool.eq_iff_iff]
  by_cases hs : s.toList = [] <;> simp [hs] <;> omega
theorem sk_4 (s : ByteArray) (c : Int) (m bl el : Nat) : stmtOk 4 s c m bl el = ((s.toList == []) && decide (c = 0) && decide (m = 1) && decide (bl = 0) && decide (el = 0)) := by
  unfold stmtOk stmtB hasS nameF
  rw [Bool.eq_iff_iff]
  by_cases hs : s.toList = [] <;> simp [hs] <;> omega
theorem sk_5 (s : ByteArray) (c : Int) (m bl el : Nat) : stmtOk 5 s c m bl el = ((s.toList == []) && (decide (0 ≤ c) && decide (c ≤ 255)) && decide (m = 1) && decide (bl = 0) && decide (el = 0)) := by
  unfold stmtOk stmtB hasS nameF
  rw [Bool.eq_iff_iff]
  by_cases hs : s.toList = [] <;> simp [hs] <;> omega
theorem sk_6 (s : ByteArray) (c : Int) (m bl el : Nat) : stmtOk 6 s c m bl el = ((s.toList == []) && decide (c = 0) && decide (m = 1) && true && true) := by
  unfold stmtOk stmtB hasS nameF
  rw [Bool.eq_iff_iff]
  by_cases hs : s.toList = [] <;> simp [hs] <;> omega
theorem sk_7 (s : ByteArray) (c : Int) (m bl el : Nat) : stmtOk 7 s c m bl el = ((s.toList == []) && decide (c = 0) && decide (m = 1) && true && decide (el = 0)) := by
  unfold stmtOk stmtB hasS nameF
  rw [Bool.eq_iff_iff]
  by_cases hs : s.toList = [] <;> simp [hs] <;> omega
theorem sk_8 (s : ByteArray) (c : Int) (m bl el : Nat) : stmtOk 8 s c m bl el = ((s.toList == []) && decide (c = 0) && decide (m = 1) && decide (bl = 0) && decide (el = 0)) := by
  unfold stmtOk stmtB hasS nameF
  rw [Bool.eq_iff_iff]
  by_cases hs : s.toList = [] <;> simp [hs] <;> omega
theorem sk_9 (s : ByteArray) (c : Int) (m bl el : Nat) : stmtOk 9 s c m bl el = ((s.toList == []) && decide (c = 0) && decide (m = 0) && decide (bl = 0) && decide (el = 0)) := by
  unfold stmtOk stmtB hasS nameF
  rw [Bool.eq_iff_iff]
  by_cases hs : s.toList = [] <;> simp [hs] <;> omega
theorem sk_no (k : Int) (s : ByteArray) (c : Int) (m bl el : Nat) (hk : k < 1 ∨ 9 < k) : stmtOk k s c m bl el = false := by
  unfold stmtOk; rw [Bool.and_eq_false_iff]; left; simp; omega
def MayC (M : Nat) : Prop := ∀ (a : EL) (b e : SL), ecnt a + scnt b + scnt e < M → ∀ (k : Int) (s : ByteArray) (c : Int) (aa ab ae : Option Addr) (ca cb ce : Nat) (bl : Nat) (w : World), s.size ≤ maxLen → ESz a → SSz b → SSz e → bl ≤ 12 → ESx w (.slice aa (elen a) ca) a → SSx w (.slice ab (slen b) cb) b → SSx w (.slice ae (slen e) ce) e →
  Calls Tryd.prog 23 #[.agg #[.int .i64 k, .string s, .int .i64 c, .slice aa (elen a) ca, .slice ab (slen b) cb, .slice ae (slen e) ce], .int .i64 (bl : Int)] w (QB w (mayO k s c a b e bl))
end Go.Proofs.YtnofibjchhcmeabDoor
