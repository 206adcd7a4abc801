/- Plain mathematics: the order of texts of as many digits is the order of their numbers. -/
import Derived.Test.YthcidcfaodjbjabDoorNPlainC
import Derived.Test.YthcidcfaodjbjabDoorNRefB
namespace Go.Proofs.YthcidcfaodjbjabDoor
open Go.RowKit

theorem fold_from (r : List UInt8) : ∀ n : Nat, r.foldl (fun n c => n * 10 + (c.toNat - 48)) n = n * 10 ^ r.length + val r := by
  induction r with
  | nil => intro n; simp [val]
  | cons c r ih =>
    intro n
    have h2 := ih (0 * 10 + (c.toNat - 48))
    unfold val
    rw [List.foldl_cons, List.foldl_cons, ih, h2, List.length_cons, Nat.pow_succ, Nat.add_mul]
    simp only [Nat.zero_mul, Nat.zero_add]
    rw [Nat.mul_assoc, Nat.mul_comm 10 (10 ^ r.length), Nat.add_assoc]

theorem val_cons (c : UInt8) (r : List UInt8) : val (c :: r) = (c.toNat - 48) * 10 ^ r.length + val r := by
  have := fold_from r (0 * 10 + (c.toNat - 48))
  unfold val at this ⊢
  rw [List.foldl_cons, this]
  simp

theorem less_val : ∀ (A B : List UInt8), A.length = B.length → A.all isD = true → B.all isD = true → (Op.bytesLess A B = true ↔ val A < val B)
  | [], [], _, _, _ => by simp [Op.bytesLess, val]
  | [], _ :: _, h, _, _ => by simp at h
  | _ :: _, [], h, _, _ => by simp at h
  | a :: x, b :: y, hl, hA, hB => by
    simp only [List.length_cons, Nat.add_right_cancel_iff] at hl
    simp only [List.all_cons, Bool.and_eq_true] at hA hB
    have ih := less_val x y hl hA.2 hB.2
    have da := hA.1
    have db := hB.1
    simp [isD] at da db
    have hx := val_lt x hA.2
    have hy := val_lt y hB.2
    rw [val_cons, val_cons, hl]
    rw [hl] at hx
    generalize 10 ^ y.length = P at *
    have key : ∀ p q : Nat, p < q → p * P + P ≤ q * P := by
      intro p q hpq
      have := Nat.mul_le_mul_right P (show p + 1 ≤ q by omega)
      rw [Nat.add_mul] at this
      omega
    simp only [Op.bytesLess, Bool.or_eq_true, Bool.and_eq_true, decide_eq_true_eq, beq_iff_eq]
    constructor
    · rintro (h | ⟨h, h2⟩)
      · have h' : a.toNat < b.toNat := h
        have := key (a.toNat - 48) (b.toNat - 48) (by omega)
        omega
      · subst h
        have := ih.1 h2
        omega
    · intro h
      rcases Nat.lt_trichotomy a.toNat b.toNat with h2 | h2 | h2
      · exact Or.inl h2
      · right
        refine ⟨UInt8.toNat_inj.1 h2, ih.2 ?_⟩
        rw [h2] at h
        omega
      · have := key (b.toNat - 48) (a.toNat - 48) (by omega)
        omega

theorem gt_less : ∀ (A B : List UInt8), (!Op.bytesLess A B && !(A == B)) = Op.bytesLess B A
  | [], [] => rfl
  | [], _ :: _ => rfl
  | _ :: _, [] => rfl
  | a :: x, b :: y => by
    have ih := gt_less x y
    simp only [Op.bytesLess]
    rcases Nat.lt_trichotomy a.toNat b.toNat with h | h | h
    · have h1 : a < b := h
      have h2 : ¬ b < a := by show ¬ b.toNat < a.toNat; omega
      have h3 : (b == a) = false := by
        simp; intro e; rw [e] at h; omega
      simp [h1, h2, h3]
    · have h1 := UInt8.toNat_inj.1 h
      subst h1
      have h2 : ¬ a < a := by show ¬ a.toNat < a.toNat; omega
      simp [h2]
      simpa using ih
    · have h1 : b < a := h
      have h2 : ¬ a < b := by show ¬ a.toNat < b.toNat; omega
      have h3 : (a == b) = false := by
        simp; intro e; rw [e] at h; omega
      have h4 : ((a :: x) == (b :: y)) = false := by
        simp; intro e; rw [e] at h; omega
      simp [h1, h2, h3, h4]

def most7 : List UInt8 := [57, 50, 50, 51, 51, 55, 50, 48, 51, 54, 56, 53, 52, 55, 55, 53, 56, 48, 55]
def most8 : List UInt8 := [57, 50, 50, 51, 51, 55, 50, 48, 51, 54, 56, 53, 52, 55, 55, 53, 56, 48, 56]

theorem over_7 (l : List UInt8) (ha : l.all isD = true) (h : l.length = 19) : (!Op.bytesLess l most7 && !(l == most7)) = decide (9223372036854775807 < val l) := by
  rw [gt_less, Bool.eq_iff_iff, less_val most7 l (by rw [h]; rfl) (by decide) ha, decide_eq_true_eq]
  have : val most7 = 9223372036854775807 := by decide
  rw [this]
theorem over_8 (l : List UInt8) (ha : l.all isD = true) (h : l.length = 19) : (!Op.bytesLess l most8 && !(l == most8)) = decide (9223372036854775808 < val l) := by
  rw [gt_less, Bool.eq_iff_iff, less_val most8 l (by rw [h]; rfl) (by decide) ha, decide_eq_true_eq]
  have : val most8 = 9223372036854775808 := by decide
  rw [this]

theorem val_small (l : List UInt8) (ha : l.all isD = true) (h : l.length ≤ 18) : val l < 1000000000000000000 := by
  have h2 := val_lt l ha
  have h4 : 10 ^ l.length ≤ 10 ^ 18 := Nat.pow_le_pow_right (by omega) h
  omega
theorem areD_all {l : List UInt8} (h : areD l = true) : l.all isD = true := by
  unfold areD at h
  simp only [Bool.and_eq_true] at h
  exact h.2
end Go.Proofs.YthcidcfaodjbjabDoor
