/- What dep.Meet answers. -/
import Derived.Test.YtcaefimnhoeimaaNDiv
import Derived.Test.YtcaefimnhoeimaaMtP
namespace Go.Proofs.Ytcaefimnhoeimaa
open Go.RowKit
set_option linter.unusedVariables false

theorem ret_bo {a b : Bool} (h : a = b) : Ending.returned (.bool a) = .returned (.bool b) := by rw [h]
set_option maxRecDepth 100000 in
set_option maxHeartbeats 1000000 in
theorem near_any (n m : Int) (h0 : 0 ≤ m) (h1 : m ≤ 9223372036854775807) (w : World) : Calls Try.prog 17 #[.int .i64 n, .int .i64 m] w fun e w' => e = .returned (.bool (!farB n m)) ∧ w' = w := by
  go_enter Try.func17, Try.ntmps17
  go_wp2
  all_goals (go_ret; exact ⟨ret_bo (by unfold farB; rw [Bool.eq_iff_iff]; simp_all; try omega), rfl⟩)
set_option maxRecDepth 100000 in
set_option maxHeartbeats 1000000 in
theorem far_any (n m : Int) (h0 : 0 ≤ m) (h1 : m ≤ 9223372036854775807) (w : World) : Calls Try.prog 19 #[.int .i64 n, .int .i64 m] w fun e w' => e = .returned (.bool (farB n m)) ∧ w' = w := by
  go_enter Try.func19, Try.ntmps19
  go_wp2
  all_goals (go_ret; exact ⟨ret_bo (by unfold farB; simp_all; try omega), rfl⟩)

theorem floor_quot (a b : Int) (hb : b ≠ 0) (ha : -1000000000 ≤ a ∧ a ≤ 1000000000) (hb1 : -1048576 ≤ b ∧ b ≤ 1048576) : (floorR a b = 0 → a = floorQ a b * b) ∧ (∀ k : Int, a = k * b → floorR a b = 0) := by
  have hf := div_facts a b hb
  have ht := tmod_lt a b hb
  constructor
  · intro h
    unfold floorR at h
    have hd : down a b = false ∧ a.tmod b = 0 := by
      by_cases hd : down a b = true
      · rw [if_pos hd] at h; omega
      · rw [if_neg hd] at h; exact ⟨by simpa using hd, h⟩
    unfold floorQ
    rw [hd.1, if_neg (by simp)]
    have h1 : a = b * a.tdiv b := by have := Int.mul_tdiv_add_tmod a b; rw [hd.2] at this; omega
    have h2 : (a.tdiv b).natAbs ≤ a.natAbs := by rw [Int.natAbs_tdiv]; exact Nat.div_le_self _ _
    rw [wrap_in (by omega) (by omega)]
    rw [Int.mul_comm]; exact h1
  · intro k hk
    have h1 : a.tmod b = 0 := by rw [hk]; exact Int.mul_tmod_left k b
    unfold floorR down
    simp [h1]

set_option maxRecDepth 100000 in
set_option maxHeartbeats 2000000 in
theorem meets_any (way y p n : Int) (hw : -1000000000 ≤ way ∧ way ≤ 1000000000) (hy : -1048576 ≤ y ∧ y ≤ 1048576) (hp : 0 ≤ p) (hpn : p < n) (w : World) : Calls Try.prog 18 #[.int .i64 way, .int .i64 y, .int .i64 p, .int .i64 n] w fun e w' => e = .returned (.bool (meetsB way y p n)) ∧ ∃ k, w' = w.drewN k := by
  by_cases h0 : y = 0
  · subst h0
    obtain ⟨r, hr⟩ : ∃ r, meetsB way 0 p n = r := ⟨_, rfl⟩
    have HR : Hid ((decide (way = 0) && decide (1 < n)) = r) := by show _ = _; rw [← hr, meets_zero way p n hp hpn]
    rw [hr]
    clear hr
    go_enter Try.func18, Try.ntmps18
    go_wp2_with (first | (go_at_call 32; refine (floor_zero _ _).mono ?_; rintro e w4 ⟨rfl, hw4⟩; rw [hw4]; clear hw4 w4) | fail)
    all_goals (go_ret; exact ⟨ret_bo (by rw [← HR.out]; simp_all), 0, rfl⟩)
  · obtain ⟨r, hr⟩ : ∃ r, meetsB way y p n = r := ⟨_, rfl⟩
    obtain ⟨q, hq⟩ : ∃ q, floorQ way y = q := ⟨_, rfl⟩
    obtain ⟨l, hl⟩ : ∃ l, floorR way y = l := ⟨_, rfl⟩
    have HR : Hid ((decide (l = 0) && decide (q ≠ p) && decide (0 ≤ q) && decide (q < n)) = r) := by
      show _ = _
      obtain ⟨f1, f2⟩ := floor_quot way y h0 hw hy
      rw [← hr, meets_quot way y p n q l h0 (by rw [← hq, ← hl]; exact f1) (by rw [← hl]; exact f2)]
    have HF : Hid (∀ w, Calls Try.prog 32 #[.int .i64 way, .int .i64 y] w fun e w' => e = .returned (.tuple #[.int .i64 q, .int .i64 l, .int .i64 0]) ∧ ∃ n, w' = w.drewN n) := by
      intro w
      refine (floor_any way y h0 (by omega) (by omega) w).mono ?_
      rintro e w' ⟨⟨f', l', h1, h2, h3⟩, h4⟩
      refine ⟨?_, h4⟩
      rw [h3, h1, h2, hq, hl]
    rw [hr]
    clear hr hq hl
    go_enter Try.func18, Try.ntmps18
    go_wp2_with (first | (go_at_call 32; refine (HF.out _).mono ?_; rintro e w4 ⟨rfl, k4, hw4⟩; rw [hw4]; clear hw4 w4) | fail)
    all_goals (go_ret; exact ⟨ret_bo (by rw [← HR.out]; simp_all; try omega), k4, rfl⟩)
end Go.Proofs.Ytcaefimnhoeimaa
