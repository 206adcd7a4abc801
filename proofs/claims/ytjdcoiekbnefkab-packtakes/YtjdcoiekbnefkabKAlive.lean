/- That the fixed fact of package outriderlaw02 (alive) is so: it returns true, in whatever world, and turns nothing that was there. -/
import Derived.Test.YtjdcoiekbnefkabKWriter
import Derived.Test.YtjdcoiekbnefkabKSeal
namespace Go.Proofs.Ytjdcoiekbnefkab
open Go.RowKit
set_option linter.unusedVariables false

def abS : ByteArray := ⟨#[97, 98]⟩
set_option maxRecDepth 100000 in
theorem laid6 : [] ++ uintB 300 ++ uintB (zig (-2)) ++ textB ⟨#[97, 98]⟩ = [172, 2, 3, 2, 97, 98] := by decide

set_option maxRecDepth 100000 in
theorem own_slice {w : World} {base : Nat} {v : Value} {L : List UInt8} (h : Own w base v L) : ∃ a c, v = .slice a L.length c := by
  rcases h.2 with ⟨h1, h2⟩ | ⟨g, cap, cur, h1, _⟩
  · exact ⟨none, 0, by rw [h1, h2]⟩
  · exact ⟨_, _, h1⟩

set_option maxRecDepth 100000 in
theorem rd7 (w : World) : Rd (w.alloc (.cells #[.int .u8 7] 5)) (.slice (some ⟨w.heap.size, 0, none⟩) 1 1) [7] := by
  right
  refine ⟨w.heap.size, 0, 1, rfl, by decide, by unfold maxLen; decide, by simp, ?_⟩
  intro i hi
  match i, hi with
  | 0, _ => simp

set_option maxRecDepth 100000 in
theorem seal7_len : (sealB [7]).length = 17 := by simp [sealB, outr, lowB_len]

set_option maxRecDepth 100000 in
set_option maxHeartbeats 2000000 in
theorem alive_any (w : World) : Calls Try.prog 20 #[] w fun e w' => e = .returned (.bool true) ∧ Below w.heap.size w w' := by
  go_enter Try.func20, Try.ntmps20
  go_wp2_with fail
  refine (new_any w).mono ?_
  rintro e w1 ⟨rfl, k1, b1⟩
  have K1 : Hid (WS w1 w.heap.size []) := k1
  have B1 : Hid (Below w.heap.size w w1) := b1
  clear k1 b1
  go_wp2_with fail
  refine (uint_any w.heap.size 300 [] w1 (by omega) (by simp) K1.out).mono ?_
  rintro e w2 ⟨rfl, k2, b2⟩
  have K2 : Hid (WS w2 w.heap.size ([] ++ uintB 300)) := k2
  have B2 : Hid (Below w.heap.size w w2) := B1.out.trans b2
  clear k2 b2
  go_wp2_with fail
  refine (int_any w.heap.size _ (-2) w2 (by omega) (by omega) (by decide) K2.out).mono ?_
  rintro e w3 ⟨rfl, k3, b3⟩
  have K3 : Hid (WS w3 w.heap.size ([] ++ uintB 300 ++ uintB (zig (-2)))) := k3
  have B3 : Hid (Below w.heap.size w w3) := B2.out.trans b3
  clear k3 b3
  go_wp2_with fail
  refine (text_any w.heap.size _ ⟨#[97, 98]⟩ w3 (by decide) (by decide) K3.out).mono ?_
  rintro e w4 ⟨rfl, k4, b4⟩
  rw [laid6] at k4
  have K4 : Hid (WS w4 w.heap.size [172, 2, 3, 2, 97, 98]) := k4
  have B4 : Hid (Below w.heap.size w w4) := B3.out.trans b4
  clear k4 b4 K1 K2 K3 B1 B2 B3
  go_wp2_with fail
  refine (seal_any _ [7] _ (by decide) (rd7 w4)).mono ?_
  rintro e w5 ⟨v5, rfl, o5, b5⟩
  have B45 : Below w4.heap.size w4 w5 := ((Below.refl _ _).alloc (Nat.le_refl _) _).trans (b5.mono (by simp))
  have K5 : Hid (WS w5 w.heap.size [172, 2, 3, 2, 97, 98]) := K4.out.below B45
  have B5 : Hid (Below w.heap.size w w5) := B4.out.trans (B45.mono (by have := B4.out.size; exact this))
  obtain ⟨a5, c5, rfl⟩ := own_slice o5
  rw [seal7_len]
  clear o5 b5 B45 K4 B4
  go_wp2_with fail
  refine (bytes_any w.heap.size _ w5 (by decide) K5.out).mono ?_
  rintro e w6 ⟨v6, rfl, r6, b6⟩
  have B6 : Hid (Below w.heap.size w w6) := B5.out.trans (b6.mono (by have := B5.out.size; exact this))
  obtain ⟨a6, c6, rfl⟩ := rd_slice r6
  have r6s : (convert 37 9 (.slice a6 6 c6)).run Try.prog w6 = .ok (.string ⟨#[172, 2, 3, 2, 97, 98]⟩) w6 := Rd.str r6
  clear r6 b6 K5 B5
  go_wp2_with fail
  refine (sum_nil w6).mono ?_
  rintro e w7 ⟨rfl, rfl⟩
  rw [sum_start]
  go_wp2
  go_ret
  exact ⟨rfl, B6.out⟩
end Go.Proofs.Ytjdcoiekbnefkab
