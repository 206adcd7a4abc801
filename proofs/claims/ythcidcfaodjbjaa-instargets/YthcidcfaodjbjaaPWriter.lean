/- What a writer's Bytes, Text and Int do, and New. -/
import Derived.Test.YthcidcfaodjbjaaPBytes
namespace Go.Proofs.Ythcidcfaodjbjaa
open Go.RowKit
set_option linter.unusedVariables false

/-- new memory reads as the bytes L -/
def RdPost (w : World) (L : List UInt8) (e : Ending) (w' : World) : Prop := ∃ v', e = .returned v' ∧ Rd w' v' L ∧ Below w.heap.size w w'

set_option maxRecDepth 100000 in
theorem from0 (v : Value) (L : List UInt8) (w : World) (base : Nat) (h : Own w base v L) :
    Calls Try.prog 56 #[v, .int .i64 0] w fun e w' => (∃ v', e = .returned v' ∧ Rd w v' L) ∧ w' = w := by
  have hr := h.rd
  rcases hr with ⟨rfl, rfl⟩ | ⟨b, off, cap, rfl, e2, e2', e3, e4⟩
  · refine (from_nil w).mono ?_
    rintro e w' ⟨rfl, rfl⟩
    exact ⟨⟨_, rfl, Or.inl ⟨rfl, rfl⟩⟩, rfl⟩
  · refine (from_some b off L.length cap 0 w (by omega) e2 e2').mono ?_
    rintro e w' ⟨rfl, rfl⟩
    refine ⟨⟨_, rfl, Or.inr ⟨b, off, L.length, ?_, by omega, by omega, e3, e4⟩⟩, rfl⟩
    split <;> simp

set_option maxRecDepth 100000 in
set_option maxHeartbeats 1000000 in
theorem bytes_any (pb : Nat) (L : List UInt8) (w : World) (hL : L.length ≤ 1000000000) (hw : WS w pb L) :
    Calls Try.prog 40 #[.pointer (some ⟨pb, 0, none⟩)] w fun e w' => RdPost w L e w' := by
  obtain ⟨v, c0, f0, o0, p0⟩ := hw
  have HO : Hid (Own w (pb + 1) v L) := o0
  have hfit : ∃ a n c, v = .slice a n c := by
    rcases o0.2 with ⟨h, _⟩ | ⟨g, cap, cur, h, _⟩
    · exact ⟨_, _, _, h⟩
    · exact ⟨_, _, _, h⟩
  obtain ⟨a, n, c, rfl⟩ := hfit
  clear o0
  go_enter Try.func40, Try.ntmps40
  go_wp2_with fail
  refine (clone_any _ L w hL HO.out.rd).mono ?_
  rintro e w1 ⟨v1, rfl, h1, h2⟩
  have H1 : Hid (Own w1 w.heap.size v1 L) := h1
  have H2 : Hid _ := h2
  obtain ⟨a1, n1, c1, rfl⟩ : ∃ a n c, v1 = .slice a n c := by
    rcases h1.2 with ⟨h, _⟩ | ⟨g, cap, cur, h, _⟩
    · exact ⟨_, _, _, h⟩
    · exact ⟨_, _, _, h⟩
  clear h1 h2
  go_wp2_with fail
  refine (from0 _ L w1 _ H1.out).mono ?_
  rintro e w2 ⟨⟨v2, rfl, h3⟩, rfl⟩
  have H3 : Hid (Rd _ v2 L) := h3
  clear h3
  go_wp2
  go_ret
  exact ⟨v2, rfl, H3.out, H2.out⟩

set_option maxRecDepth 100000 in
set_option maxHeartbeats 400000 in
theorem new_any (w : World) : Calls Try.prog 37 #[] w fun e w' => e = .returned (.pointer (some ⟨w.heap.size, 0, none⟩)) ∧ WS w' w.heap.size [] ∧ Below w.heap.size w w' := by
  go_enter Try.func37, Try.ntmps37
  go_wp2
  go_ret
  refine ⟨rfl, ⟨.slice none 0 0, ?_, ?_, World.ownsRow_nil _ _ _ _, by simp⟩, (Below.refl _ _).alloc (Nat.le_refl _) _⟩
  · simp
  · simp

/-- what is laid down of a text -/
def textB (s : ByteArray) : List UInt8 := uintB s.size ++ s.data.toList

/-- a number as one from 0 on -/
def zig (n : Int) : Nat := if n < 0 then (-2 * n - 1).toNat else (2 * n).toNat

set_option maxRecDepth 100000 in
theorem xor_max (x : Int) (h0 : 0 ≤ x) (h1 : x ≤ 18446744073709551615) : bits .xor .u64 IntKind.u64.max x = 18446744073709551615 - x := by
  show IntKind.u64.wrap ((BitVec.ofInt 64 IntKind.u64.max ^^^ BitVec.ofInt 64 x).toNat : Int) = _
  have e : BitVec.ofInt 64 IntKind.u64.max = BitVec.allOnes 64 := by decide
  rw [e, BitVec.allOnes_xor, BitVec.toNat_not, BitVec.toNat_ofInt, IntKind.wrap_u64]
  omega
set_option maxRecDepth 100000 in
theorem zig_neg (n : Int) (h1 : -9223372036854775808 ≤ n) (hn : n < 0) : bits .xor .u64 IntKind.u64.max (IntKind.u64.wrap (IntKind.u64.wrap n * 2)) = ((zig n : Nat) : Int) := by
  have hx : IntKind.u64.wrap (IntKind.u64.wrap n * 2) = 2 * n + 18446744073709551616 := by rw [IntKind.wrap_u64, IntKind.wrap_u64]; omega
  rw [hx, xor_max _ (by omega) (by omega)]
  unfold zig
  rw [if_pos hn]
  omega
set_option maxRecDepth 100000 in
theorem zig_le (n : Int) (h1 : -9223372036854775808 ≤ n) (h2 : n ≤ 9223372036854775807) : zig n ≤ 18446744073709551615 := by
  unfold zig; split <;> omega

set_option maxRecDepth 100000 in
set_option maxHeartbeats 1000000 in
theorem int_any (pb : Nat) (L : List UInt8) (n : Int) (w : World) (h1 : -9223372036854775808 ≤ n) (h2 : n ≤ 9223372036854775807) (hL : L.length ≤ 1000000000) (hw : WS w pb L) :
    Calls Try.prog 55 #[.pointer (some ⟨pb, 0, none⟩), .int .i64 n] w fun e w' => e = .returned (.tuple #[]) ∧ WS w' pb (L ++ uintB (zig n)) ∧ Below pb w w' ∧ Lib.OthersKept 5 (some pb) w w' := by
  have HW : Hid (WS w pb L) := hw
  have HZ : Hid _ := zig_le n h1 h2
  by_cases hn : n < 0
  · have E : Hid _ := zig_neg n h1 hn
    go_enter Try.func55, Try.ntmps55
    go_wp2_with fail
    rw [E.out]
    refine (uint_any pb (zig n) L w HZ.out hL HW.out).mono ?_
    rintro e w1 ⟨rfl, k1, k2, k3⟩
    have K3 : Hid (Lib.OthersKept 5 (some pb) w w1) := k3
    have K1 : Hid (WS w1 pb _) := k1
    have K2 : Hid _ := k2
    clear k1 k2 k3
    go_wp2
    go_returns
    exact ⟨rfl, K1.out, K2.out, K3.out⟩
  · have E : Hid (n * 2 = ((zig n : Nat) : Int)) := by show _ = _; unfold zig; rw [if_neg hn]; omega
    go_enter Try.func55, Try.ntmps55
    go_wp2_with fail
    rw [E.out]
    refine (uint_any pb (zig n) L w HZ.out hL HW.out).mono ?_
    rintro e w1 ⟨rfl, k1, k2, k3⟩
    have K3 : Hid (Lib.OthersKept 5 (some pb) w w1) := k3
    have K1 : Hid (WS w1 pb _) := k1
    have K2 : Hid _ := k2
    clear k1 k2 k3
    go_wp2
    go_end0
    exact ⟨rfl, K1.out, K2.out, K3.out⟩
end Go.Proofs.Ythcidcfaodjbjaa
