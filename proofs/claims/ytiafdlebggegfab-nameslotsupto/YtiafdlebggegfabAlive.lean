/- What the chapter says of some statements. -/
import Derived.Test.YtiafdlebggegfabRow
import Derived.Test.YtiafdlebggegfabCount
namespace Go.Proofs.Ytiafdlebggegfab
open Go.RowKit Go.Maps Go.WideMaps
set_option linter.unusedVariables false

def nmE (s : ByteArray) (r : EL) : EL := .cons 2 0 s 0 .nil r
def al1 : SL := .cons 1 ⟨#[120]⟩ 0 (nmE ⟨#[105]⟩ .nil) .nil .nil (.cons 2 ⟨#[120]⟩ 0 (.cons 5 0 ⟨#[]⟩ 1 (nmE ⟨#[120]⟩ (nmE ⟨#[107]⟩ .nil)) .nil) .nil .nil .nil)
def al2 : SL := .cons 1 ⟨#[105]⟩ 0 (nmE ⟨#[105]⟩ .nil) .nil .nil .nil
theorem al1_is : ∃ m, slots al1 (min 0 4) = .ok ⟨m, [1, 3, 3, 2, 3], 1⟩ := ⟨_, rfl⟩
theorem al2_is : slots al2 (min 0 4) = .err 61 := rfl

theorem cell_new (X : World) (n : Nat) (hn : X.heap.size = n) (cs : Array Value) (t : TypeId) (j : Nat) (v : Value) (h : cs[j]? = some v) : (X.alloc (.cells cs t)).cell? ⟨n, j, none⟩ = some v := by
  rw [World.cell?_alloc_at _ _ _ _ hn.symm]; exact h
theorem cell_old (X : World) (o : Obj) (b j : Nat) (h : b < X.heap.size) : (X.alloc o).cell? ⟨b, j, none⟩ = X.cell? ⟨b, j, none⟩ := World.cell?_of_block (a := ⟨b, j, none⟩) (Below.heap_alloc X o b h)
theorem al1_in (w : World) : SSl (((((w.alloc (.cells #[.int .i64 2, .int .i64 0, .string ⟨#[105]⟩, .int .i64 0, .slice none 0 0] 41)).alloc (.cells #[.int .i64 2, .int .i64 0, .string ⟨#[105]⟩, .int .i64 0, .slice none 0 0] 41)).alloc (.cells #[.int .i64 2, .int .i64 0, .string ⟨#[120]⟩, .int .i64 0, .slice none 0 0, .int .i64 2, .int .i64 0, .string ⟨#[107]⟩, .int .i64 0, .slice none 0 0] 41)).alloc (.cells #[.int .i64 5, .int .i64 0, .string ⟨#[]⟩, .int .i64 1, .slice (some ⟨w.heap.size + 1 + 1, 0, none⟩) 2 2] 41)).alloc (.cells #[.int .i64 1, .string ⟨#[120]⟩, .int .i64 0, .slice (some ⟨w.heap.size + 1, 0, none⟩) 1 1, .slice none 0 0, .slice none 0 0, .int .i64 2, .string ⟨#[120]⟩, .int .i64 0, .slice (some ⟨w.heap.size + 1 + 1 + 1, 0, none⟩) 1 1, .slice none 0 0, .slice none 0 0] 43)) (.slice (some ⟨w.heap.size + 1 + 1 + 1 + 1, 0, none⟩) 2 2) al1 := by
  refine ⟨_, 2, w.heap.size + 1 + 1 + 1 + 1, 0, rfl, Nat.le_refl _, by unfold maxLen; decide, fun _ => rfl, ?_⟩
  refine ⟨cell_new _ _ (by simp) _ _ _ _ rfl, cell_new _ _ (by simp) _ _ _ _ rfl, cell_new _ _ (by simp) _ _ _ _ rfl, by unfold maxLen; decide, ⟨.slice (some ⟨w.heap.size + 1, 0, none⟩) 1 1, cell_new _ _ (by simp) _ _ _ _ rfl, ?_⟩, ⟨none, 0, 0, 0, cell_new _ _ (by simp) _ _ _ _ rfl, Nat.le_refl _, Nat.zero_le _, fun h => absurd h (by simp [SL.len]), trivial⟩, ⟨none, 0, 0, 0, cell_new _ _ (by simp) _ _ _ _ rfl, Nat.le_refl _, Nat.zero_le _, fun h => absurd h (by simp [SL.len]), trivial⟩, ?_⟩
  · refine ⟨_, 1, w.heap.size + 1, 0, rfl, Nat.le_refl _, by unfold maxLen; decide, fun _ => rfl, ?_⟩
    exact ⟨(cell_old _ _ _ _ (by simp <;> omega)).trans ((cell_old _ _ _ _ (by simp <;> omega)).trans ((cell_old _ _ _ _ (by simp <;> omega)).trans (cell_new _ _ (by simp) _ _ _ _ rfl))), (cell_old _ _ _ _ (by simp <;> omega)).trans ((cell_old _ _ _ _ (by simp <;> omega)).trans ((cell_old _ _ _ _ (by simp <;> omega)).trans (cell_new _ _ (by simp) _ _ _ _ rfl))), (cell_old _ _ _ _ (by simp <;> omega)).trans ((cell_old _ _ _ _ (by simp <;> omega)).trans ((cell_old _ _ _ _ (by simp <;> omega)).trans (cell_new _ _ (by simp) _ _ _ _ rfl))), (cell_old _ _ _ _ (by simp <;> omega)).trans ((cell_old _ _ _ _ (by simp <;> omega)).trans ((cell_old _ _ _ _ (by simp <;> omega)).trans (cell_new _ _ (by simp) _ _ _ _ rfl))), by unfold maxLen; decide, ⟨none, 0, 0, 0, (cell_old _ _ _ _ (by simp <;> omega)).trans ((cell_old _ _ _ _ (by simp <;> omega)).trans ((cell_old _ _ _ _ (by simp <;> omega)).trans (cell_new _ _ (by simp) _ _ _ _ rfl))), Nat.le_refl _, Nat.zero_le _, fun h => absurd h (by simp [EL.len]), trivial⟩, trivial⟩
  · refine ⟨cell_new _ _ (by simp) _ _ _ _ rfl, cell_new _ _ (by simp) _ _ _ _ rfl, cell_new _ _ (by simp) _ _ _ _ rfl, by unfold maxLen; decide, ⟨.slice (some ⟨w.heap.size + 1 + 1 + 1, 0, none⟩) 1 1, cell_new _ _ (by simp) _ _ _ _ rfl, ?_⟩, ⟨none, 0, 0, 0, cell_new _ _ (by simp) _ _ _ _ rfl, Nat.le_refl _, Nat.zero_le _, fun h => absurd h (by simp [SL.len]), trivial⟩, ⟨none, 0, 0, 0, cell_new _ _ (by simp) _ _ _ _ rfl, Nat.le_refl _, Nat.zero_le _, fun h => absurd h (by simp [SL.len]), trivial⟩, trivial⟩
    refine ⟨_, 1, w.heap.size + 1 + 1 + 1, 0, rfl, Nat.le_refl _, by unfold maxLen; decide, fun _ => rfl, ?_⟩
    refine ⟨(cell_old _ _ _ _ (by simp <;> omega)).trans (cell_new _ _ (by simp) _ _ _ _ rfl), (cell_old _ _ _ _ (by simp <;> omega)).trans (cell_new _ _ (by simp) _ _ _ _ rfl), (cell_old _ _ _ _ (by simp <;> omega)).trans (cell_new _ _ (by simp) _ _ _ _ rfl), (cell_old _ _ _ _ (by simp <;> omega)).trans (cell_new _ _ (by simp) _ _ _ _ rfl), by unfold maxLen; decide, ⟨some ⟨w.heap.size + 1 + 1, 0, none⟩, 2, w.heap.size + 1 + 1, 0, (cell_old _ _ _ _ (by simp <;> omega)).trans (cell_new _ _ (by simp) _ _ _ _ rfl), Nat.le_refl _, by unfold maxLen; decide, fun _ => rfl, ?_⟩, trivial⟩
    refine ⟨(cell_old _ _ _ _ (by simp <;> omega)).trans ((cell_old _ _ _ _ (by simp <;> omega)).trans (cell_new _ _ (by simp) _ _ _ _ rfl)), (cell_old _ _ _ _ (by simp <;> omega)).trans ((cell_old _ _ _ _ (by simp <;> omega)).trans (cell_new _ _ (by simp) _ _ _ _ rfl)), (cell_old _ _ _ _ (by simp <;> omega)).trans ((cell_old _ _ _ _ (by simp <;> omega)).trans (cell_new _ _ (by simp) _ _ _ _ rfl)), (cell_old _ _ _ _ (by simp <;> omega)).trans ((cell_old _ _ _ _ (by simp <;> omega)).trans (cell_new _ _ (by simp) _ _ _ _ rfl)), by unfold maxLen; decide, ⟨none, 0, 0, 0, (cell_old _ _ _ _ (by simp <;> omega)).trans ((cell_old _ _ _ _ (by simp <;> omega)).trans (cell_new _ _ (by simp) _ _ _ _ rfl)), Nat.le_refl _, Nat.zero_le _, fun h => absurd h (by simp [EL.len]), trivial⟩, ?_⟩
    exact ⟨(cell_old _ _ _ _ (by simp <;> omega)).trans ((cell_old _ _ _ _ (by simp <;> omega)).trans (cell_new _ _ (by simp) _ _ _ _ rfl)), (cell_old _ _ _ _ (by simp <;> omega)).trans ((cell_old _ _ _ _ (by simp <;> omega)).trans (cell_new _ _ (by simp) _ _ _ _ rfl)), (cell_old _ _ _ _ (by simp <;> omega)).trans ((cell_old _ _ _ _ (by simp <;> omega)).trans (cell_new _ _ (by simp) _ _ _ _ rfl)), (cell_old _ _ _ _ (by simp <;> omega)).trans ((cell_old _ _ _ _ (by simp <;> omega)).trans (cell_new _ _ (by simp) _ _ _ _ rfl)), by unfold maxLen; decide, ⟨none, 0, 0, 0, (cell_old _ _ _ _ (by simp <;> omega)).trans ((cell_old _ _ _ _ (by simp <;> omega)).trans (cell_new _ _ (by simp) _ _ _ _ rfl)), Nat.le_refl _, Nat.zero_le _, fun h => absurd h (by simp [EL.len]), trivial⟩, trivial⟩

theorem al2_in (w : World) : SSl ((w.alloc (.cells #[.int .i64 2, .int .i64 0, .string ⟨#[105]⟩, .int .i64 0, .slice none 0 0] 41)).alloc (.cells #[.int .i64 1, .string ⟨#[105]⟩, .int .i64 0, .slice (some ⟨w.heap.size, 0, none⟩) 1 1, .slice none 0 0, .slice none 0 0] 43)) (.slice (some ⟨w.heap.size + 1, 0, none⟩) 1 1) al2 := by
  refine ⟨_, 1, w.heap.size + 1, 0, rfl, Nat.le_refl _, by unfold maxLen; decide, fun _ => rfl, ?_⟩
  refine ⟨cell_new _ _ (by simp) _ _ _ _ rfl, cell_new _ _ (by simp) _ _ _ _ rfl, cell_new _ _ (by simp) _ _ _ _ rfl, by unfold maxLen; decide, ⟨.slice (some ⟨w.heap.size, 0, none⟩) 1 1, cell_new _ _ (by simp) _ _ _ _ rfl, ?_⟩, ⟨none, 0, 0, 0, cell_new _ _ (by simp) _ _ _ _ rfl, Nat.le_refl _, Nat.zero_le _, fun h => absurd h (by simp [SL.len]), trivial⟩, ⟨none, 0, 0, 0, cell_new _ _ (by simp) _ _ _ _ rfl, Nat.le_refl _, Nat.zero_le _, fun h => absurd h (by simp [SL.len]), trivial⟩, trivial⟩
  refine ⟨_, 1, w.heap.size, 0, rfl, Nat.le_refl _, by unfold maxLen; decide, fun _ => rfl, ?_⟩
  exact ⟨(cell_old _ _ _ _ (by simp <;> omega)).trans (cell_new _ _ (by simp) _ _ _ _ rfl), (cell_old _ _ _ _ (by simp <;> omega)).trans (cell_new _ _ (by simp) _ _ _ _ rfl), (cell_old _ _ _ _ (by simp <;> omega)).trans (cell_new _ _ (by simp) _ _ _ _ rfl), (cell_old _ _ _ _ (by simp <;> omega)).trans (cell_new _ _ (by simp) _ _ _ _ rfl), by unfold maxLen; decide, ⟨none, 0, 0, 0, (cell_old _ _ _ _ (by simp <;> omega)).trans (cell_new _ _ (by simp) _ _ _ _ rfl), Nat.le_refl _, Nat.zero_le _, fun h => absurd h (by simp [EL.len]), trivial⟩, trivial⟩

set_option maxRecDepth 100000 in
set_option maxHeartbeats 1000000 in
theorem alive_any (w : World) : Calls Try.prog 9 #[] w fun e w' => e = .returned (.bool true) ∧ Below w.heap.size w w' := by
  obtain ⟨m0, hal⟩ := al1_is
  have HAL : Hid (slots al1 (min 0 4) = .ok ⟨m0, [1, 3, 3, 2, 3], 1⟩) := hal
  have HB5 : Hid (∀ o1 o2 o3 o4 o5, Below w.heap.size w (((((w.alloc o1).alloc o2).alloc o3).alloc o4).alloc o5)) := fun o1 o2 o3 o4 o5 => (((((Below.refl _ w).alloc (Nat.le_refl _) o1).alloc (by simp) o2).alloc (by simp; omega) o3).alloc (by simp; omega) o4).alloc (by simp; omega) o5
  have HF : Hid (Five (((((w.alloc (.cells #[.int .i64 2, .int .i64 0, .string ⟨#[105]⟩, .int .i64 0, .slice none 0 0] 41)).alloc (.cells #[.int .i64 2, .int .i64 0, .string ⟨#[105]⟩, .int .i64 0, .slice none 0 0] 41)).alloc (.cells #[.int .i64 2, .int .i64 0, .string ⟨#[120]⟩, .int .i64 0, .slice none 0 0, .int .i64 2, .int .i64 0, .string ⟨#[107]⟩, .int .i64 0, .slice none 0 0] 41)).alloc (.cells #[.int .i64 5, .int .i64 0, .string ⟨#[]⟩, .int .i64 1, .slice (some ⟨w.heap.size + 1 + 1, 0, none⟩) 2 2] 41)).alloc (.cells #[.int .i64 1, .string ⟨#[120]⟩, .int .i64 0, .slice (some ⟨w.heap.size + 1, 0, none⟩) 1 1, .slice none 0 0, .slice none 0 0, .int .i64 2, .string ⟨#[120]⟩, .int .i64 0, .slice (some ⟨w.heap.size + 1 + 1 + 1, 0, none⟩) 1 1, .slice none 0 0, .slice none 0 0] 43)) w.heap.size (.int .i64 2) (.int .i64 0) (.string ⟨#[105]⟩) (.int .i64 0) (.slice none 0 0) ∧ (((((w.alloc (.cells #[.int .i64 2, .int .i64 0, .string ⟨#[105]⟩, .int .i64 0, .slice none 0 0] 41)).alloc (.cells #[.int .i64 2, .int .i64 0, .string ⟨#[105]⟩, .int .i64 0, .slice none 0 0] 41)).alloc (.cells #[.int .i64 2, .int .i64 0, .string ⟨#[120]⟩, .int .i64 0, .slice none 0 0, .int .i64 2, .int .i64 0, .string ⟨#[107]⟩, .int .i64 0, .slice none 0 0] 41)).alloc (.cells #[.int .i64 5, .int .i64 0, .string ⟨#[]⟩, .int .i64 1, .slice (some ⟨w.heap.size + 1 + 1, 0, none⟩) 2 2] 41)).alloc (.cells #[.int .i64 1, .string ⟨#[120]⟩, .int .i64 0, .slice (some ⟨w.heap.size + 1, 0, none⟩) 1 1, .slice none 0 0, .slice none 0 0, .int .i64 2, .string ⟨#[120]⟩, .int .i64 0, .slice (some ⟨w.heap.size + 1 + 1 + 1, 0, none⟩) 1 1, .slice none 0 0, .slice none 0 0] 43)).heap.size = w.heap.size + 5) := ⟨⟨(cell_old _ _ _ _ (by simp <;> omega)).trans ((cell_old _ _ _ _ (by simp <;> omega)).trans ((cell_old _ _ _ _ (by simp <;> omega)).trans ((cell_old _ _ _ _ (by simp <;> omega)).trans (cell_new _ _ (by simp) _ _ _ _ rfl)))), (cell_old _ _ _ _ (by simp <;> omega)).trans ((cell_old _ _ _ _ (by simp <;> omega)).trans ((cell_old _ _ _ _ (by simp <;> omega)).trans ((cell_old _ _ _ _ (by simp <;> omega)).trans (cell_new _ _ (by simp) _ _ _ _ rfl)))), (cell_old _ _ _ _ (by simp <;> omega)).trans ((cell_old _ _ _ _ (by simp <;> omega)).trans ((cell_old _ _ _ _ (by simp <;> omega)).trans ((cell_old _ _ _ _ (by simp <;> omega)).trans (cell_new _ _ (by simp) _ _ _ _ rfl)))), (cell_old _ _ _ _ (by simp <;> omega)).trans ((cell_old _ _ _ _ (by simp <;> omega)).trans ((cell_old _ _ _ _ (by simp <;> omega)).trans ((cell_old _ _ _ _ (by simp <;> omega)).trans (cell_new _ _ (by simp) _ _ _ _ rfl)))), (cell_old _ _ _ _ (by simp <;> omega)).trans ((cell_old _ _ _ _ (by simp <;> omega)).trans ((cell_old _ _ _ _ (by simp <;> omega)).trans ((cell_old _ _ _ _ (by simp <;> omega)).trans (cell_new _ _ (by simp) _ _ _ _ rfl))))⟩, by simp⟩
  clear hal
  go_enter Try.func9, Try.ntmps9
  go_wp2_with fail
  refine (slots_any al1 0 _ _ (al1_in w) (by decide)).mono ?_
  rw [HAL.out]
  rintro e w1 ⟨v1, rfl, hi1, hb1⟩
  have HI1 : Hid (IRd w1 v1 [1, 3, 3, 2, 3]) := hi1.rd
  obtain ⟨a1, c1, rfl⟩ := hi1.form
  have HS1 : Hid (SSl w1 (.slice (some ⟨w.heap.size + 1 + 1 + 1 + 1, 0, none⟩) 2 2) al1) := (al1_in w).below hb1
  have HB1 : Hid (Below w.heap.size w w1) := (HB5.out _ _ _ _ _).trans (hb1.mono (by simp; omega))
  have HF1 : Hid (Five w1 w.heap.size (.int .i64 2) (.int .i64 0) (.string ⟨#[105]⟩) (.int .i64 0) (.slice none 0 0)) := HF.out.1.keep (hb1.block _ (by have := HF.out.2; omega))
  have hz1 : w.heap.size < w1.heap.size := by have := hb1.size; have := HF.out.2; omega
  clear hi1 hb1
  go_wp2_with fail
  refine (most_any al1 0 _ w1 HS1.out (by decide)).mono ?_
  rw [HAL.out]
  rintro e w2 ⟨rfl, hb2⟩
  have HI2 : Hid (IRd w2 (.slice a1 5 c1) [1, 3, 3, 2, 3]) := HI1.out.below hb2
  have HB2 : Hid (Below w.heap.size w w2) := HB1.out.trans (hb2.mono HB1.out.size)
  obtain ⟨x0, x1, x2, x3, x4⟩ := HF1.out.keep (hb2.block _ hz1)
  have hz2 : w.heap.size < w2.heap.size := Nat.lt_of_lt_of_le hz1 hb2.size
  clear hb2
  go_wp2_with fail
  refine (slots_any al2 0 _ _ (al2_in w2) (by decide)).mono ?_
  rw [al2_is]
  rintro e w3 ⟨rfl, _, hb3⟩
  have HQ3 : Hid (Below w2.heap.size w2 w3) := (((Below.refl _ w2).alloc (Nat.le_refl _) _).alloc (by simp) _).trans (hb3.mono (by simp; omega))
  have HI3 : Hid (IRd w3 (.slice a1 5 c1) [1, 3, 3, 2, 3]) := HI2.out.below HQ3.out
  have HB3 : Hid (Below w.heap.size w w3) := HB2.out.trans (HQ3.out.mono HB2.out.size)
  clear hb3 x0 x1 x2 x3 x4
  go_wp2_with fail
  refine (row_same _ _ [1, 3, 3, 2, 3] _ (by decide) (HI3.out.below ((Below.refl _ _).alloc (Nat.le_refl _) _)) ?_).mono ?_
  · refine ⟨_, 5, w3.heap.size, 0, rfl, Nat.le_refl _, by unfold maxLen; decide, fun _ => ⟨rfl, by simp⟩, fun i hi => ?_⟩
    match i, hi with
    | 0, _ => exact cell_new _ _ rfl _ _ _ _ rfl
    | 1, _ => exact cell_new _ _ rfl _ _ _ _ rfl
    | 2, _ => exact cell_new _ _ rfl _ _ _ _ rfl
    | 3, _ => exact cell_new _ _ rfl _ _ _ _ rfl
    | 4, _ => exact cell_new _ _ rfl _ _ _ _ rfl
  · rintro e w4 ⟨rfl, hb4⟩
    have HB4 : Hid (Below w.heap.size w w4) := HB3.out.trans (((Below.refl _ w3).alloc (Nat.le_refl _) _).trans (hb4.mono (by simp)) |>.mono HB3.out.size)
    clear hb4
    go_wp2
    go_ret
    exact ⟨rfl, HB4.out⟩
end Go.Proofs.Ytiafdlebggegfab
