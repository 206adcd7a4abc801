/- Plain mathematics of Euclid's way with factors. -/
import Derived.Test.YtjdcoiekbnefkabDiv
namespace Go.Proofs.Ytjdcoiekbnefkab
open Go.RowKit
set_option linter.unusedVariables false

/-- what is so at each round's head -/
def EI (a0 b0 : Int) (G : Nat) (a b x n : Int) : Prop :=
  x.natAbs * b.natAbs + n.natAbs * a.natAbs ≤ b0.natAbs ∧ b0 ∣ a - a0 * x ∧ b0 ∣ b - a0 * n ∧ Nat.gcd a.natAbs b.natAbs = G ∧
  a.natAbs ≤ 2147483648 ∧ b.natAbs ≤ 2147483648 ∧ x.natAbs ≤ 2147483648 ∧ n.natAbs ≤ 2147483648

theorem EI.start (a b : Int) (ha : a.natAbs ≤ 2147483648) (hb : b.natAbs ≤ 2147483648) : EI a b (Nat.gcd a.natAbs b.natAbs) a b 1 0 :=
  ⟨by simp, by simp, by simp, rfl, ha, hb, by simp, by simp⟩

theorem abs_div (a b : Int) (hb : b ≠ 0) : a.natAbs = (a.tdiv b).natAbs * b.natAbs + (a.tmod b).natAbs := by
  rw [Int.natAbs_tdiv, Int.natAbs_tmod, Nat.mul_comm]
  exact (Nat.div_add_mod _ _).symm

theorem EI.step {a0 b0 : Int} {G : Nat} {a b x n : Int} (hb : b ≠ 0) (hb0 : b0.natAbs ≤ 2147483648) (h : EI a0 b0 G a b x n) :
    EI a0 b0 G b (a - a.tdiv b * b) n (x - a.tdiv b * n) ∧ (a.tdiv b).natAbs ≤ 2147483648 ∧ (a.tdiv b * b).natAbs ≤ 2147483648 ∧ (a.tdiv b * n).natAbs ≤ 2147483648 ∧ (a - a.tdiv b * b).natAbs < b.natAbs := by
  obtain ⟨h1, h2, h3, h4, h5, h6, h7, h8⟩ := h
  have hd := abs_div a b hb
  have hr : a - a.tdiv b * b = a.tmod b := by have := (div_facts a b hb).1; omega
  have hlt := (div_facts a b hb).2.2
  have hbp : 1 ≤ b.natAbs := by omega
  have hq : (a.tdiv b).natAbs ≤ a.natAbs := by
    have := Nat.mul_le_mul_left (a.tdiv b).natAbs hbp
    omega
  have hqb : (a.tdiv b * b).natAbs ≤ 2147483648 := by rw [Int.natAbs_mul]; omega
  have hqn0 : (a.tdiv b).natAbs * n.natAbs ≤ a.natAbs * n.natAbs := Nat.mul_le_mul_right _ hq
  have hcomm : a.natAbs * n.natAbs = n.natAbs * a.natAbs := Nat.mul_comm _ _
  have hqn : (a.tdiv b * n).natAbs ≤ 2147483648 := by rw [Int.natAbs_mul]; omega
  have htri : (x - a.tdiv b * n).natAbs ≤ x.natAbs + (a.tdiv b).natAbs * n.natAbs := by
    have := Int.natAbs_sub_le x (a.tdiv b * n)
    rw [Int.natAbs_mul] at this
    exact this
  have hS : n.natAbs * (a.tmod b).natAbs + (x - a.tdiv b * n).natAbs * b.natAbs ≤ b0.natAbs := by
    have e1 := Nat.mul_le_mul_right b.natAbs htri
    rw [Nat.add_mul] at e1
    have e2 : n.natAbs * a.natAbs = n.natAbs * ((a.tdiv b).natAbs * b.natAbs) + n.natAbs * (a.tmod b).natAbs := by
      rw [← Nat.mul_add, ← hd]
    have e3 : (a.tdiv b).natAbs * n.natAbs * b.natAbs = n.natAbs * ((a.tdiv b).natAbs * b.natAbs) := by
      rw [Nat.mul_comm (a.tdiv b).natAbs n.natAbs, Nat.mul_assoc]
    omega
  refine ⟨⟨by rw [hr]; exact hS, h3, ?_, ?_, h6, by rw [hr]; omega, h8, ?_⟩, by omega, hqb, hqn, by rw [hr]; exact hlt⟩
  · have e : a - a.tdiv b * b - a0 * (x - a.tdiv b * n) = (a - a0 * x) - a.tdiv b * (b - a0 * n) := by
      rw [Int.mul_sub, Int.mul_sub, ← Int.mul_assoc a0, Int.mul_comm a0 (a.tdiv b), Int.mul_assoc (a.tdiv b) a0 n]; omega
    rw [e]
    exact Int.dvd_sub h2 (Int.dvd_mul_of_dvd_right h3)
  · rw [hr, Int.natAbs_tmod, Nat.gcd_comm, ← Nat.gcd_rec, Nat.gcd_comm]; exact h4
  · have := Nat.mul_le_mul_left (x - a.tdiv b * n).natAbs hbp
    omega

/-- a factor: what someFactor answers -/
def Fac (a0 b0 : Int) (G : Nat) (f : Int) : Prop := f.natAbs ≤ 2147483648 ∧ b0 ∣ (G : Int) - a0 * f

theorem EI.done {a0 b0 : Int} {G : Nat} {a x n : Int} (h : EI a0 b0 G a 0 x n) : (a < 0 → Fac a0 b0 G (-x)) ∧ (0 ≤ a → Fac a0 b0 G x) := by
  obtain ⟨h1, h2, h3, h4, h5, h6, h7, h8⟩ := h
  simp only [Int.natAbs_zero, Nat.gcd_zero_right] at h4
  refine ⟨fun ha => ⟨by omega, ?_⟩, fun ha => ⟨h7, ?_⟩⟩
  · have e : (G : Int) - a0 * -x = -(a - a0 * x) := by rw [Int.mul_neg]; omega
    rw [e]; exact Int.dvd_neg.2 h2
  · have e : (G : Int) - a0 * x = a - a0 * x := by omega
    rw [e]; exact h2

theorem floorR_pos (f p : Int) (hp : 0 < p) : floorR f p = f % p := by
  have hd := div_facts f p (by omega)
  have ht := (tmod_lt f p (by omega)).2 (by omega)
  have key : ∀ r k : Int, 0 ≤ r → r < p → f = k * p + r → f % p = r := by
    intro r k h0 h1 h2
    rw [h2, Int.mul_comm, Int.add_comm, Int.add_mul_emod_self_left]
    exact Int.emod_eq_of_lt h0 h1
  unfold floorR
  by_cases h : down f p = true
  · rw [if_pos h]
    unfold down at h
    simp at h
    have hneg : f.tmod p < 0 := by
      rcases Int.lt_or_le (f.tmod p) 0 with h' | h'
      · exact h'
      · exact absurd ⟨fun h3 => by omega, fun h3 => by omega⟩ h.2
    exact (key _ (f.tdiv p - 1) (by omega) (by omega) (by rw [Int.sub_mul]; omega)).symm
  · rw [if_neg h]
    unfold down at h
    simp at h
    have hpos : 0 ≤ f.tmod p := by
      rcases Int.lt_or_le (f.tmod p) 0 with h' | h'
      · have := (h (by omega)).1 h'; omega
      · exact h'
    exact (key _ (f.tdiv p) hpos (by omega) (by omega)).symm

/-- the facts of Bezout's answer -/
theorem bez_facts (a b f : Int) (ha : a.natAbs ≤ 2147483648) (hb : b.natAbs ≤ 2147483648) (hb0 : b ≠ 0) (hf : Fac a b (Nat.gcd a.natAbs b.natAbs) f) :
    0 < (b.natAbs / Nat.gcd a.natAbs b.natAbs : Nat) ∧ b.natAbs / Nat.gcd a.natAbs b.natAbs ≤ 2147483648 ∧ 0 < Nat.gcd a.natAbs b.natAbs ∧ Nat.gcd a.natAbs b.natAbs ≤ 2147483648 ∧
    (let g : Int := (Nat.gcd a.natAbs b.natAbs : Nat); let p : Int := ((b.natAbs / Nat.gcd a.natAbs b.natAbs : Nat) : Int); let x := f % p
     0 ≤ x ∧ x < p ∧ (a * x).natAbs ≤ 4611686018427387904 ∧ b * ((g - a * x).tdiv b) = g - a * x) := by
  have hbp : 0 < b.natAbs := by omega
  have hg0 : 0 < Nat.gcd a.natAbs b.natAbs := Nat.gcd_pos_of_pos_right _ hbp
  have hgd := Nat.gcd_dvd_right a.natAbs b.natAbs
  have hga := Nat.gcd_dvd_left a.natAbs b.natAbs
  have hgle := Nat.le_of_dvd hbp hgd
  have hp0 : 0 < b.natAbs / Nat.gcd a.natAbs b.natAbs := Nat.div_pos hgle hg0
  have hple := Nat.div_le_self b.natAbs (Nat.gcd a.natAbs b.natAbs)
  refine ⟨hp0, by omega, hg0, by omega, ?_⟩
  intro g p x
  have hpp : 0 < p := by show (0 : Int) < ((b.natAbs / Nat.gcd a.natAbs b.natAbs : Nat) : Int); omega
  have hpl : p ≤ 2147483648 := by show ((b.natAbs / Nat.gcd a.natAbs b.natAbs : Nat) : Int) ≤ _; omega
  have hx0 : 0 ≤ x := Int.emod_nonneg f (by omega)
  have hx1 : x < p := Int.emod_lt_of_pos f hpp
  refine ⟨hx0, hx1, ?_, ?_⟩
  · rw [Int.natAbs_mul]
    have h1 : x.natAbs ≤ 2147483648 := by omega
    have := Nat.mul_le_mul ha h1
    omega
  · apply Int.mul_tdiv_cancel_of_dvd
    have e1 : f = x + p * (f / p) := by
      have := Int.emod_add_mul_ediv f p
      omega
    have e2 : b ∣ a * p := by
      obtain ⟨k, hk⟩ := hga
      have h1 : a.natAbs * (b.natAbs / Nat.gcd a.natAbs b.natAbs) = k * b.natAbs := by
        have h2 : b.natAbs = Nat.gcd a.natAbs b.natAbs * (b.natAbs / Nat.gcd a.natAbs b.natAbs) := (Nat.mul_div_cancel' hgd).symm
        generalize hq : b.natAbs / Nat.gcd a.natAbs b.natAbs = q at *
        generalize hgg : Nat.gcd a.natAbs b.natAbs = g' at *
        rw [hk, h2, ← Nat.mul_assoc, Nat.mul_comm k g']
      have h3 : (a * p).natAbs = k * b.natAbs := by
        rw [Int.natAbs_mul]; exact h1
      exact Int.natAbs_dvd_natAbs.1 (by rw [h3]; exact Nat.dvd_mul_left _ _)
    have e3 : g - a * x = (g - a * f) + a * p * (f / p) := by
      have : a * f = a * x + a * p * (f / p) := by
        conv => lhs; rw [e1]
        rw [Int.mul_add, Int.mul_assoc]
      omega
    rw [e3]
    exact Int.dvd_add hf.2 (Int.dvd_mul_of_dvd_left e2)
end Go.Proofs.Ytjdcoiekbnefkab
