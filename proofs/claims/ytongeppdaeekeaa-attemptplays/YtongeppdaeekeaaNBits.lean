/- The bits of numbers of 64 bits with a sign: and, or, exclusive or, as the natural numbers' ones. -/
import Derived.Test.YtongeppdaeekeaaNRefA
namespace Go.Proofs.Ytongeppdaeekeaa
open Go.RowKit

theorem ofInt_U (a : Int) : (BitVec.ofInt 64 a).toNat = (U a).toNat := by
  rw [BitVec.toNat_ofInt]; rfl
theorem i64_and (a b : Int) : bits .and .i64 a b = wrap64 (((U a).toNat &&& (U b).toNat : Nat) : Int) := by
  show IntKind.i64.wrap ((BitVec.ofInt 64 a &&& BitVec.ofInt 64 b).toNat : Int) = _
  rw [BitVec.toNat_and, ofInt_U, ofInt_U, IntWalk.i64_left]
theorem i64_or (a b : Int) : bits .or .i64 a b = wrap64 (((U a).toNat ||| (U b).toNat : Nat) : Int) := by
  show IntKind.i64.wrap ((BitVec.ofInt 64 a ||| BitVec.ofInt 64 b).toNat : Int) = _
  rw [BitVec.toNat_or, ofInt_U, ofInt_U, IntWalk.i64_left]
theorem i64_xor (a b : Int) : bits .xor .i64 a b = wrap64 (((U a).toNat ^^^ (U b).toNat : Nat) : Int) := by
  show IntKind.i64.wrap ((BitVec.ofInt 64 a ^^^ BitVec.ofInt 64 b).toNat : Int) = _
  rw [BitVec.toNat_xor, ofInt_U, ofInt_U, IntWalk.i64_left]
theorem i64_not (a : Int) (h1 : -9223372036854775808 ≤ a) (h2 : a ≤ 9223372036854775807) : bits .xor .i64 (-1) a = -1 - a := by
  show IntKind.i64.wrap ((BitVec.ofInt 64 (-1) ^^^ BitVec.ofInt 64 a).toNat : Int) = _
  have e : BitVec.ofInt 64 (-1) = BitVec.allOnes 64 := by decide
  rw [e, BitVec.allOnes_xor, BitVec.toNat_not, ofInt_U, IntWalk.i64_left]
  unfold wrap64 U
  omega

/-- bits below a place, as numbers -/
theorem testBit_div (x i : Nat) : x.testBit i = decide (x / 2 ^ i % 2 = 1) := by
  rw [Nat.testBit_eq_decide_div_mod_eq]

theorem bitOf_test (a : Int) (i : Nat) : bitOf a i = (U a).toNat.testBit i := by
  rw [testBit_div]
  unfold bitOf
  have h := (U_bd a).1
  obtain ⟨A, hA⟩ := Int.eq_ofNat_of_zero_le h
  rw [hA]
  have : ((A : Int) / 2 ^ i % 2 = 1) ↔ (A / 2 ^ i % 2 = 1) := by
    have e : (A : Int) / 2 ^ i % 2 = ((A / 2 ^ i % 2 : Nat) : Int) := by simp
    rw [e]; omega
  simp [this]

/-- one bit more of a number -/
theorem mod_succ (x i : Nat) : x % 2 ^ (i + 1) = x % 2 ^ i + (if x.testBit i then 2 ^ i else 0) := by
  rw [Nat.mod_pow_succ, testBit_div]
  rcases Nat.mod_two_eq_zero_or_one (x / 2 ^ i) with h | h <;> rw [h] <;> simp
end Go.Proofs.Ytongeppdaeekeaa
