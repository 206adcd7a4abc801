/- Plain: whether two rows of numbers meet at unlike places. -/
import Derived.Test.YtcaefimnhoeimaaRows
import Derived.WalkKit
import Derived.Handy
namespace Go.Proofs.Ytcaefimnhoeimaa
open Go.RowKit
set_option linter.unusedVariables false

def farB (n m : Int) : Bool := decide (n > m ∨ n < -m)
/-- is there a q other than p, from 0 on below n, with way = q*y? -/
def meetsB (way y p n : Int) : Bool := (List.range n.toNat).any fun q => decide ((q : Int) ≠ p ∧ way = (q : Int) * y)
/-- with this p -/
def rowB (a x b y : Int) (n : Int) (p : Nat) : Bool := meetsB (a - b + (p : Int) * x) y p n
def anyP (f : Nat → Bool) (k : Nat) : Bool := (List.range k).any f
def meetB (a x b y n : Int) : Bool :=
  farB a 1048576 || farB x 1048576 || farB b 1048576 || farB y 1048576 || decide (200 < n) || anyP (rowB a x b y n) n.toNat

theorem anyP_succ (f : Nat → Bool) (k : Nat) : anyP f (k + 1) = (anyP f k || f k) := by
  unfold anyP; rw [List.range_succ, List.any_append]; simp
theorem anyP_true {f : Nat → Bool} {k q : Nat} (h : q < k) (hq : f q = true) : anyP f k = true := by
  unfold anyP; rw [List.any_eq_true]; exact ⟨q, by simpa using h, hq⟩
theorem anyP_iff {f : Nat → Bool} {k : Nat} : anyP f k = true ↔ ∃ q, q < k ∧ f q = true := by
  unfold anyP; rw [List.any_eq_true]; simp
theorem meetsB_iff (way y p n : Int) : meetsB way y p n = true ↔ ∃ q : Nat, (q : Int) < n ∧ (q : Int) ≠ p ∧ way = (q : Int) * y := by
  unfold meetsB; rw [List.any_eq_true]
  constructor
  · rintro ⟨q, h1, h2⟩; simp at h1 h2; exact ⟨q, by omega, h2.1, h2.2⟩
  · rintro ⟨q, h1, h2, h3⟩; exact ⟨q, by simp; omega, by simp; exact ⟨h2, h3⟩⟩
theorem meets_zero (way p n : Int) (hp : 0 ≤ p) (hpn : p < n) : meetsB way 0 p n = (decide (way = 0) && decide (1 < n)) := by
  rw [Bool.eq_iff_iff, meetsB_iff]
  constructor
  · rintro ⟨q, h1, h2, h3⟩; simp at h3; simp; omega
  · intro h; simp at h
    by_cases h0 : p = 0
    · exact ⟨1, by omega, by omega, by simp; omega⟩
    · exact ⟨0, by omega, by omega, by simp; omega⟩
/-- where y isn't 0: the quotient alone -/
theorem meets_quot (way y p n q l : Int) (hy : y ≠ 0) (hl : l = 0 → way = q * y) (hd : ∀ k : Int, way = k * y → l = 0) :
    meetsB way y p n = (decide (l = 0) && decide (q ≠ p) && decide (0 ≤ q) && decide (q < n)) := by
  rw [Bool.eq_iff_iff, meetsB_iff]
  constructor
  · rintro ⟨k, h1, h2, h3⟩
    have h4 := hd k h3
    have h5 := hl h4
    have h6 : q = (k : Int) := by
      rw [h3] at h5
      exact (Int.eq_of_mul_eq_mul_right hy h5).symm
    simp; subst h6; exact ⟨⟨⟨h4, h2⟩, by omega⟩, h1⟩
  · intro h; simp at h
    obtain ⟨⟨⟨h1, h2⟩, h3⟩, h4⟩ := h
    refine ⟨q.toNat, by omega, by omega, ?_⟩
    rw [Int.toNat_of_nonneg h3]; exact hl h1
theorem meet_iff (a x b y n : Int) : anyP (rowB a x b y n) n.toNat = true ↔ ∃ p q : Nat, (p : Int) < n ∧ (q : Int) < n ∧ p ≠ q ∧ a + (p : Int) * x = b + (q : Int) * y := by
  rw [anyP_iff]
  constructor
  · rintro ⟨p, h1, h2⟩
    unfold rowB at h2; rw [meetsB_iff] at h2
    obtain ⟨q, h3, h4, h5⟩ := h2
    exact ⟨p, q, by omega, h3, by omega, by omega⟩
  · rintro ⟨p, q, h1, h2, h3, h4⟩
    refine ⟨p, by omega, ?_⟩
    unfold rowB; rw [meetsB_iff]
    exact ⟨q, h2, by omega, by omega⟩
theorem meetB_swap (a x b y n : Int) : meetB a x b y n = meetB b y a x n := by
  have h : anyP (rowB a x b y n) n.toNat = anyP (rowB b y a x n) n.toNat := by
    rw [Bool.eq_iff_iff, meet_iff, meet_iff]
    constructor
    · rintro ⟨p, q, h1, h2, h3, h4⟩; exact ⟨q, p, h2, h1, by omega, by omega⟩
    · rintro ⟨p, q, h1, h2, h3, h4⟩; exact ⟨q, p, h2, h1, by omega, by omega⟩
  unfold meetB; rw [h]
  cases farB a 1048576 <;> cases farB x 1048576 <;> cases farB b 1048576 <;> cases farB y 1048576 <;> rfl
/-- the document's: the pairs (p, q) up to a place -/
def pairB (a x b y : Int) (p q : Nat) : Bool := p != q && (a + (p : Int) * x == b + (q : Int) * y)
theorem pair_row (a x b y n : Int) (p : Nat) : anyP (pairB a x b y p) n.toNat = rowB a x b y n p := by
  rw [Bool.eq_iff_iff, anyP_iff]; unfold rowB; rw [meetsB_iff]
  constructor
  · rintro ⟨q, h1, h2⟩; unfold pairB at h2; simp at h2; exact ⟨q, by omega, by omega, by omega⟩
  · rintro ⟨q, h1, h2, h3⟩; refine ⟨q, by omega, ?_⟩; unfold pairB; simp; exact ⟨by omega, by omega⟩
end Go.Proofs.Ytcaefimnhoeimaa
