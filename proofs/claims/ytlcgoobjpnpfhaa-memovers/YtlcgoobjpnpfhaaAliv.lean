/- The chapter's example of a heap. -/
import Derived.Test.YtlcgoobjpnpfhaaHp4
namespace Go.Proofs.Ytlcgoobjpnpfhaa
open Go.RowKit Go.Maps
set_option linter.unusedVariables false

theorem PSl.two (w : World) (a b c d : Int) (t : Nat) : PSl (w.alloc (Obj.cells #[Value.int .i64 a, Value.int .i64 b, Value.int .i64 c, Value.int .i64 d] t)) (.slice (some ⟨w.heap.size, 0, none⟩) 2 2) [(a, b), (c, d)] := by
  refine ⟨some ⟨w.heap.size, 0, none⟩, 2, w.heap.size, 0, rfl, Nat.le_refl _, by unfold maxLen; omega, fun _ => rfl, fun i hi => ?_⟩
  match i, hi with
  | 0, _ => exact ⟨by simp, by simp⟩
  | 1, _ => exact ⟨by simp, by simp⟩
theorem GSl.two (w : World) (a b : Int) (t : Nat) : GSl (w.alloc (Obj.cells #[Value.int .i64 a, Value.int .i64 b] t)) (.slice (some ⟨w.heap.size, 0, none⟩) 2 2) [a, b] := by
  refine ⟨some ⟨w.heap.size, 0, none⟩, 2, w.heap.size, 0, rfl, Nat.le_refl _, by unfold maxLen; omega, fun _ => rfl, fun i hi => ?_⟩
  match i, hi with
  | 0, _ => simp
  | 1, _ => simp
theorem GSl.three (w : World) (a b c : Int) (t : Nat) : GSl (w.alloc (Obj.cells #[Value.int .i64 a, Value.int .i64 b, Value.int .i64 c] t)) (.slice (some ⟨w.heap.size, 0, none⟩) 3 3) [a, b, c] := by
  refine ⟨some ⟨w.heap.size, 0, none⟩, 3, w.heap.size, 0, rfl, Nat.le_refl _, by unfold maxLen; omega, fun _ => rfl, fun i hi => ?_⟩
  match i, hi with
  | 0, _ => simp
  | 1, _ => simp
  | 2, _ => simp

theorem al1 : addL [1, 4] [0, -9223372036854775808] 0 5 = [5, -9223372036854775808] ∧ addM [(1 : Int), 4].length 0 0 = 1 := by simp [addL, addM, inB, joinI, wrap64]
theorem al2 : addL [1, 4] [5, -9223372036854775808] 0 2 = [7, -9223372036854775808] ∧ addM [(1 : Int), 4].length 1 0 = 2 := by simp [addL, addM, inB, joinI, wrap64]
theorem al3 : ontoL [1, 4] [10, 3] [7, 4] = [17, 4] := by simp [ontoL, ontoX, joinI, wrap64, List.range_succ]
/-- a heap of the call's own -/
def OH (B hb bo bn : Nat) (W w : World) (ops now : List Int) (many : Int) : Prop := HP w hb bo bn ops now many ∧ B ≤ hb ∧ B ≤ bo ∧ B ≤ bn ∧ Below B W w
theorem OH.add {B hb bo bn : Nat} {W w : World} {ops now : List Int} {many : Int} (h : OH B hb bo bn W w ops now many) (hB : B = W.heap.size) (c n : Int) (hm : 0 ≤ many ∧ many ≤ 9223372036854775807) :
    Calls Try.prog 39 #[.pointer (some ⟨hb, 0, none⟩), .int .i64 c, .int .i64 n] w fun e w' => e = .returned (.bool (inB ops.length c)) ∧ OH B hb bo bn W w' ops (addL ops now c n) (addM ops.length many c) := by
  obtain ⟨h1, h2, h3, h4, h5⟩ := h
  refine (hadd_any c n hm w h1).mono ?_
  rintro e w' ⟨rfl, k1, k2⟩
  have hs := h5.size
  exact ⟨rfl, k1, h2, h3, h4, h5.trans (k2.below (by omega) (fun k hk => by rcases hk with rfl | rfl <;> omega))⟩

set_option maxRecDepth 100000 in
set_option maxHeartbeats 2000000 in
theorem alive_any (w : World) : Calls Try.prog 33 #[] w fun e w' => e = .returned (.bool true) ∧ Below w.heap.size w w' := by
  have HN : Hid (Calls Try.prog 38 #[.slice (some ⟨w.heap.size, 0, none⟩) 2 2] (w.alloc (Obj.cells #[Value.int .i64 1, Value.int .i64 0, Value.int .i64 4, Value.int .i64 0] 70)) (fun e w' => ∃ hb bo bn, e = .returned (.tuple #[.pointer (some ⟨hb, 0, none⟩), .int .i64 0]) ∧ OH w.heap.size hb bo bn w w' [1, 4] [0, -9223372036854775808] 0)) := by
    refine (new_any [(1, 0), (4, 0)] _ _ (PSl.two w 1 0 4 0 70)).mono ?_
    rintro e w' (⟨h, _⟩ | ⟨_, h, _⟩ | ⟨_, _, hb, bo, bn, rfl, h1, h2, h3, h4, h5⟩)
    · simp at h
    · simp [rightL, rightB] at h
    · rw [World.size_alloc] at h2 h3 h4 h5
      exact ⟨hb, bo, bn, rfl, h1, by omega, by omega, by omega, ((Below.refl _ _).alloc (Nat.le_refl _) _).trans (h5.mono (by omega))⟩
  go_enter Try.func33, Try.ntmps33
  go_wp2_with fail
  refine HN.out.mono ?_
  rintro e w1 ⟨hb, bo, bn, rfl, H1⟩
  have K1 : Hid (OH w.heap.size hb bo bn w w1 [1, 4] [0, -9223372036854775808] 0) := H1
  clear H1
  go_wp2_with fail
  refine (K1.out.add rfl 0 5 (by omega)).mono ?_
  rintro e w2 ⟨rfl, H2⟩
  have K2 : Hid (OH w.heap.size hb bo bn w w2 [1, 4] [5, -9223372036854775808] 1) := by rw [al1.1, al1.2] at H2; exact H2
  rw [show inB [(1 : Int), 4].length 0 = true from rfl]
  clear H2 K1
  go_wp2_with fail
  refine (K2.out.add rfl 0 2 (by omega)).mono ?_
  rintro e w3 ⟨rfl, H3⟩
  have K3 : Hid (OH w.heap.size hb bo bn w w3 [1, 4] [7, -9223372036854775808] 2) := by rw [al2.1, al2.2] at H3; exact H3
  rw [show inB [(1 : Int), 4].length 0 = true from rfl]
  clear H3 K2
  go_wp2_with fail
  refine (K3.out.add rfl 1 4 (by omega)).mono ?_
  rintro e w4 ⟨rfl, H4⟩
  have K4 : Hid (OH w.heap.size hb bo bn w w4 [1, 4] [7, 4] 3) := H4
  rw [show inB [(1 : Int), 4].length 1 = true from rfl]
  clear H4 K3
  go_wp2_with fail
  refine (K4.out.add rfl 2 1 (by omega)).mono ?_
  rintro e w5 ⟨rfl, H5⟩
  have K5 : Hid (OH w.heap.size hb bo bn w w5 [1, 4] [7, 4] 3) := H5
  rw [show inB [(1 : Int), 4].length 2 = false from rfl]
  clear H5 K4
  have HO : Hid (Calls Try.prog 40 #[.pointer (some ⟨hb, 0, none⟩), .slice (some ⟨w5.heap.size, 0, none⟩) 2 2] (w5.alloc (Obj.cells #[Value.int .i64 10, Value.int .i64 3] 2)) (fun e w' => e = .returned (.tuple #[.slice (some ⟨w5.heap.size + 1, 0, none⟩) 2 2, .bool true]) ∧ w'.cell? ⟨w5.heap.size + 1, 0, none⟩ = some (.int .i64 17) ∧ w'.cell? ⟨w5.heap.size + 1, 1, none⟩ = some (.int .i64 4) ∧ OH w.heap.size hb bo bn w w' [1, 4] [7, 4] 3)) := by
    obtain ⟨k1, k2, k3, k4, k5⟩ := K5.out
    refine (onto_any [10, 3] _ _ (k1.below ((Below.refl _ _).alloc (Nat.le_refl _) _)) (GSl.two w5 10 3 2)).mono ?_
    rintro e w' (⟨h, _⟩ | ⟨_, h1, h2, h3⟩)
    · simp at h
    · rw [World.size_alloc] at h1 h2 h3
      rw [al3] at h2
      have hs := k5.size
      have hbb : Below w5.heap.size w5 w' := ((Below.refl _ _).alloc (Nat.le_refl _) _).trans (h3.mono (by omega))
      exact ⟨h1, (cell_of_row w' _ 0 _ _ _ h2).trans rfl, (cell_of_row w' _ 1 _ _ _ h2).trans rfl, k1.below hbb, k2, k3, k4, k5.trans (hbb.mono (by omega))⟩
  go_wp2_with fail
  refine HO.out.mono ?_
  rintro e w6 ⟨rfl, c1, c2, H6⟩
  have K6 : Hid (OH w.heap.size hb bo bn w w6 [1, 4] [7, 4] 3) := H6
  clear H6 K5 HO
  go_wp2_with fail
  refine (len_any w6 K6.out.1).mono ?_
  rintro e w7 ⟨rfl, hw7⟩
  rw [hw7]
  clear hw7 w7
  have HF : Hid (Calls Try.prog 42 #[.int .i64 3, .slice (some ⟨w6.heap.size, 0, none⟩) 3 3] (w6.alloc (Obj.cells #[Value.int .i64 3, Value.int .i64 (-1), Value.int .i64 7] 2)) (fun e w' => e = .returned (.int .i64 (-1)) ∧ Below w.heap.size w w')) := by
    refine (fold_any 3 [3, -1, 7] _ _ (GSl.three w6 3 (-1) 7 2)).mono ?_
    rintro e w' ⟨rfl, rfl⟩
    exact ⟨rfl, K6.out.2.2.2.2.alloc (K6.out.2.2.2.2.size) _⟩
  go_wp2_with fail
  refine HF.out.mono ?_
  rintro e w8 ⟨rfl, hb8⟩
  have HB8 : Hid (Below w.heap.size w w8) := hb8
  clear hb8
  go_wp2
  go_ret
  exact ⟨rfl, HB8.out⟩
end Go.Proofs.Ytlcgoobjpnpfhaa
