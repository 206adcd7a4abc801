/- That the fixed fact of package outriderlaw08 (alive) is so: it returns true, in whatever world, and turns nothing that was there. -/
import Derived.Test.YthcidcfaodjbjaaEnc
namespace Go.Proofs.Ythcidcfaodjbjaa
open Go.RowKit
set_option linter.unusedVariables false
set_option linter.unusedSimpArgs false

def al : List In := [⟨2, 0, 3, 0, 0, -1⟩, ⟨9, 0, 3, 0, 0, 0⟩, ⟨1, 0, 0, 0, 0, 0⟩]
set_option maxRecDepth 100000 in
theorem al_check : (checkL al 0).2 = 0 := by decide
set_option maxRecDepth 100000 in
theorem al_bytes : encB al = [3, 2, 3, 1, 9, 3, 1] := by decide
set_option maxRecDepth 100000 in
theorem al_one : checkL [⟨2, 0, 3, 0, 0, -1⟩] 0 = (0, 85) := by decide

theorem al_r : ∀ x ∈ al, r64 x.k := by
  intro x hx
  simp only [al, List.mem_cons, List.not_mem_nil, or_false] at hx
  rcases hx with rfl | rfl | rfl <;> (unfold r64; decide)
set_option maxRecDepth 100000 in
theorem al_sl (w : World) : ISl (w.alloc (.cells #[.int .i64 2, .int .i64 0, .int .i64 3, .int .i64 0, .int .i64 0, .int .i64 (-1), .int .i64 9, .int .i64 0, .int .i64 3, .int .i64 0, .int .i64 0, .int .i64 0, .int .i64 1, .int .i64 0, .int .i64 0, .int .i64 0, .int .i64 0, .int .i64 0] 25)) (.slice (some ⟨w.heap.size, 0, none⟩) 3 3) al := by
  refine ⟨_, 3, w.heap.size, 0, rfl, by decide, by unfold maxLen; decide, fun _ => rfl, ?_⟩
  intro i hi
  match i, hi with
  | 0, _ => exact ⟨by simp [al], by simp [al], by simp [al], by simp [al], by simp [al], by simp [al]⟩
  | 1, _ => exact ⟨by simp [al], by simp [al], by simp [al], by simp [al], by simp [al], by simp [al]⟩
  | 2, _ => exact ⟨by simp [al], by simp [al], by simp [al], by simp [al], by simp [al], by simp [al]⟩
theorem ISl.first {w : World} {b o n c : Nat} {x : In} {l : List In} (h : ISl w (.slice (some ⟨b, o, none⟩) n c) (x :: l)) : ISl w (.slice (some ⟨b, o, none⟩) 1 1) [x] := by
  obtain ⟨ad, cap, b', o', h1, h2, h3, h4, h5⟩ := h
  have h6 := h4 (by simp)
  subst h6
  injection h1 with h1 _ _
  injection h1 with h1
  injection h1 with h1 h7
  subst h1 h7
  refine ⟨_, 1, b, o, rfl, by simp, by unfold maxLen; decide, fun _ => rfl, ?_⟩
  intro i hi
  match i, hi with
  | 0, _ => exact h5 0 (by simp)
theorem ISl.at {w : World} {b o n c : Nat} {l : List In} (h : ISl w (.slice (some ⟨b, o, none⟩) n c) l) (i : Nat) (hi : i < l.length) : IAt w b (o + i * 6) l[i] := by
  obtain ⟨ad, cap, b', o', h1, h2, h3, h4, h5⟩ := h
  have h6 := h4 (by omega)
  subst h6
  injection h1 with h1 _ _
  injection h1 with h1
  injection h1 with h1 h7
  subst h1 h7
  exact h5 i hi

set_option maxRecDepth 100000 in
set_option maxHeartbeats 4000000 in
theorem alive_any (w : World) : Calls Try.prog 13 #[] w fun e w' => e = .returned (.bool true) ∧ Below w.heap.size w w' := by
  have A0 : Hid (ISl (w.alloc (.cells #[.int .i64 2, .int .i64 0, .int .i64 3, .int .i64 0, .int .i64 0, .int .i64 (-1), .int .i64 9, .int .i64 0, .int .i64 3, .int .i64 0, .int .i64 0, .int .i64 0, .int .i64 1, .int .i64 0, .int .i64 0, .int .i64 0, .int .i64 0, .int .i64 0] 25)) (.slice (some ⟨w.heap.size, 0, none⟩) 3 3) al) := al_sl w
  have B0 : Hid (Below w.heap.size w (w.alloc (.cells #[.int .i64 2, .int .i64 0, .int .i64 3, .int .i64 0, .int .i64 0, .int .i64 (-1), .int .i64 9, .int .i64 0, .int .i64 3, .int .i64 0, .int .i64 0, .int .i64 0, .int .i64 1, .int .i64 0, .int .i64 0, .int .i64 0, .int .i64 0, .int .i64 0] 25))) := (Below.refl _ _).alloc (Nat.le_refl _) _
  go_enter Try.func13, Try.ntmps13
  go_wp2_with fail
  refine (encode_any al 0 _ _ A0.out al_r).mono ?_
  rintro e w1 ⟨b1, h | ⟨_, v, rfl, r1⟩⟩
  · exact absurd al_check h.1
  have A1 : Hid (ISl w1 (.slice (some ⟨w.heap.size, 0, none⟩) 3 3) al) := A0.out.below b1
  have B1 : Hid (Below w.heap.size w w1) := B0.out.trans (b1.mono B0.out.size)
  rw [al_bytes] at r1
  obtain ⟨a1, c1, rfl⟩ := rd_sl r1
  have R1 : Hid (Rd w1 (.slice a1 7 c1) [3, 2, 3, 1, 9, 3, 1]) := r1
  clear b1 r1 A0 B0
  go_wp2_with fail
  refine (check_any [⟨2, 0, 3, 0, 0, -1⟩] 0 _ w1 A1.out.first).mono ?_
  rintro e w2 ⟨rfl, b2⟩
  have A2 : Hid (ISl w2 (.slice (some ⟨w.heap.size, 0, none⟩) 3 3) al) := A1.out.below b2
  have B2 : Hid (Below w.heap.size w w2) := B1.out.trans (b2.mono B1.out.size)
  have R2 : (convert 40 9 (.slice a1 7 c1)).run Try.prog w2 = .ok (.string ⟨#[3, 2, 3, 1, 9, 3, 1]⟩) w2 := (R1.out.below b2).str
  rw [al_one]
  obtain ⟨x0, x1, x2, x3, x4, x5⟩ := A2.out.at 0 (by decide)
  simp only [al, List.getElem_cons_zero] at x0 x1 x2 x3 x4 x5
  clear b2 A1 B1 R1
  go_wp2_with fail
  refine (falls_any ⟨2, 0, 3, 0, 0, -1⟩ w2).mono ?_
  rintro e w3 ⟨rfl, b3⟩
  rw [show fallsB ⟨2, 0, 3, 0, 0, -1⟩ = true from rfl]
  have A3 : Hid (ISl w3 (.slice (some ⟨w.heap.size, 0, none⟩) 3 3) al) := A2.out.below b3
  have B3 : Hid (Below w.heap.size w w3) := B2.out.trans (b3.mono B2.out.size)
  clear b3 A2 B2 x0 x1 x2 x3 x4 x5 R2
  obtain ⟨x0, x1, x2, x3, x4, x5⟩ := A3.out.at 2 (by decide)
  simp only [al, List.getElem_cons_zero, List.getElem_cons_succ, Nat.zero_add] at x0 x1 x2 x3 x4 x5
  go_wp2_with fail
  refine (falls_any ⟨1, 0, 0, 0, 0, 0⟩ w3).mono ?_
  rintro e w4 ⟨rfl, b4⟩
  rw [show fallsB ⟨1, 0, 0, 0, 0, 0⟩ = false from rfl]
  have B4 : Hid (Below w.heap.size w w4) := B3.out.trans (b4.mono B3.out.size)
  clear b4 A3 B3
  go_wp2
  go_ret
  exact ⟨rfl, B4.out⟩
end Go.Proofs.Ythcidcfaodjbjaa
