/- Plain mathematics of the greatest common divisor, twos first. -/
import Derived.WalkKit
namespace Go.Proofs.Ytjdcoiekbnefkab
open Go.RowKit

theorem gcd_halves (x y : Nat) : Nat.gcd (x * 2) (y * 2) = Nat.gcd x y * 2 := Nat.gcd_mul_right x 2 y

theorem gcd_half_left (x y : Nat) (hy : y % 2 = 1) : Nat.gcd (x * 2) y = Nat.gcd x y := by
  have hc : Nat.Coprime 2 y := by
    rw [Nat.coprime_iff_gcd_eq_one, Nat.gcd_rec, hy]; decide
  exact Nat.Coprime.gcd_mul_right_cancel x hc

theorem gcd_even_left (x y : Nat) (hx : x % 2 = 0) (hy : y % 2 = 1) : Nat.gcd (x / 2) y = Nat.gcd x y := by
  have := gcd_half_left (x / 2) y hy
  rw [show x / 2 * 2 = x by omega] at this
  exact this.symm
theorem gcd_even_right (x y : Nat) (hx : x % 2 = 1) (hy : y % 2 = 0) : Nat.gcd x (y / 2) = Nat.gcd x y := by
  rw [Nat.gcd_comm, gcd_even_left y x hy hx, Nat.gcd_comm]
theorem gcd_odd_left (x y : Nat) (hx : x % 2 = 1) (hy : y % 2 = 1) (h : y < x) : Nat.gcd ((x - y) / 2) y = Nat.gcd x y := by
  rw [gcd_even_left (x - y) y (by omega) hy, Nat.gcd_sub_self_left (by omega)]
theorem gcd_odd_right (x y : Nat) (hx : x % 2 = 1) (hy : y % 2 = 1) (h : x < y) : Nat.gcd x ((y - x) / 2) = Nat.gcd x y := by
  rw [Nat.gcd_comm, gcd_odd_left y x hy hx h, Nat.gcd_comm]

/-- both even: halved, and the twos counted -/
theorem gcd_twos (x y t G : Nat) (hx : x % 2 = 0) (hy : y % 2 = 0) (h : Nat.gcd x y * 2 ^ t = G) : Nat.gcd (x / 2) (y / 2) * 2 ^ (t + 1) = G := by
  have e := gcd_halves (x / 2) (y / 2)
  rw [show x / 2 * 2 = x by omega, show y / 2 * 2 = y by omega] at e
  rw [← h, e, Nat.pow_succ, Nat.mul_assoc, Nat.mul_comm 2 (2 ^ t)]
end Go.Proofs.Ytjdcoiekbnefkab
