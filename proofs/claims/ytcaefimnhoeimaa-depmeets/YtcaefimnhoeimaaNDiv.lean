/- What num.Two answers of quotients and rests, and num.Floor and nearer. -/
import Derived.Test.YtcaefimnhoeimaaRows
import Derived.Test.YtcaefimnhoeimaaNWrap
import Derived.WalkKit
import Derived.WalkSpells
import Derived.WalkLawsBesides
import Derived.Handy
import Derived.Deep.QuietTactic
import Derived.BigQuiet
namespace Go.Proofs.Ytcaefimnhoeimaa
open Go.RowKit

set_option maxHeartbeats 400000 in
theorem div_any (a b : Int) (hb : ¬ b = 0) (w : World) :
    Calls Try.prog 63 #[.int .i64 4, .int .i64 a, .int .i64 b] w fun e w' => e = .returned (.tuple #[.int .i64 (wrap64 (a.tdiv b)), .bool true]) ∧ w' = w := by
  go_enter Try.func63, Try.ntmps63
  go_wp2
  go_ret2
  exact ⟨rfl, rfl⟩

set_option maxHeartbeats 400000 in
theorem rem_any (a b : Int) (hb : ¬ b = 0) (w : World) :
    Calls Try.prog 63 #[.int .i64 5, .int .i64 a, .int .i64 b] w fun e w' => e = .returned (.tuple #[.int .i64 (a.tmod b), .bool true]) ∧ w' = w := by
  go_enter Try.func63, Try.ntmps63
  go_wp2
  go_ret2
  exact ⟨rfl, rfl⟩

set_option maxHeartbeats 400000 in
theorem div_zero (op a : Int) (hop : op = 4 ∨ op = 5) (w : World) :
    Calls Try.prog 63 #[.int .i64 op, .int .i64 a, .int .i64 0] w fun e w' => e = .returned (.tuple #[.int .i64 0, .bool false]) ∧ w' = w := by
  rcases hop with rfl | rfl
  · go_enter Try.func63, Try.ntmps63
    go_wp2
    go_ret2
    exact ⟨rfl, rfl⟩
  · go_enter Try.func63, Try.ntmps63
    go_wp2
    go_ret2
    exact ⟨rfl, rfl⟩

set_option maxHeartbeats 400000 in
theorem floor_zero (a : Int) (w : World) :
    Calls Try.prog 32 #[.int .i64 a, .int .i64 0] w fun e w' => e = .returned (.tuple #[.int .i64 0, .int .i64 0, .int .i64 12]) ∧ w' = w := by
  go_enter Try.func32, Try.ntmps32
  go_wp2
  go_ret3
  exact ⟨rfl, rfl⟩

/-- is the quotient cut towards 0 one too great? -/
def down (a b : Int) : Bool := decide (a.tmod b ≠ 0) && (decide (a.tmod b < 0) != decide (b < 0))
def floorQ (a b : Int) : Int := if down a b = true then wrap64 (wrap64 (a.tdiv b) - 1) else wrap64 (a.tdiv b)
def floorR (a b : Int) : Int := if down a b = true then a.tmod b + b else a.tmod b

theorem tmod_lt (a b : Int) (hb : ¬ b = 0) : (b < 0 → b < a.tmod b ∧ a.tmod b < -b) ∧ (0 ≤ b → -b < a.tmod b ∧ a.tmod b < b) := by
  have := (div_facts a b hb).2.2
  omega

set_option maxHeartbeats 1000000 in
theorem floor_any (a b : Int) (hb : ¬ b = 0) (hb1 : -9223372036854775808 ≤ b) (hb2 : b ≤ 9223372036854775807) (w : World) :
    Calls Try.prog 32 #[.int .i64 a, .int .i64 b] w fun e w' => (∃ f l : Int, f = floorQ a b ∧ l = floorR a b ∧ e = .returned (.tuple #[.int .i64 f, .int .i64 l, .int .i64 0])) ∧ ∃ n, w' = w.drewN n := by
  obtain ⟨t1, t2⟩ := tmod_lt a b hb
  by_cases hm : a.tmod b = 0
  · have D : Hid (down a b = false) := by show _ = false; unfold down; simp [hm]
    have hm' : (a.tmod b != 0) = false := by simp [hm]
    have HM : Hid (a.tmod b = 0) := hm
    clear hm t1 t2
    go_enter Try.func32, Try.ntmps32
    go_wp2
    go_quiet (fail)
    all_goals go_wp2
    all_goals go_ret3
    all_goals exact ⟨⟨_, _, rfl, rfl, by unfold floorQ floorR; rw [D.out]; rfl⟩, _, rfl⟩
  · by_cases h1 : a.tmod b < 0
    · by_cases h2 : b < 0
      · have D : Hid (down a b = false) := by show _ = false; unfold down; simp [hm, h1, h2]
        have t := t1 h2
        have q1 : (a.tmod b != 0) = true := by simp [hm]
        have q2 : decide (b < 0) = true := by simp; omega
        have q3 : decide (a.tmod b < 0) = true := by simp; omega
        clear t1 t2
        go_enter Try.func32, Try.ntmps32
        go_wp2
        go_quiet (fail)
        all_goals go_wp2
        all_goals go_ret3
        all_goals exact ⟨⟨_, _, rfl, rfl, by unfold floorQ floorR; rw [D.out]; rfl⟩, _, rfl⟩
      · have D : Hid (down a b = true) := by show _ = true; unfold down; simp [hm, h1, h2]
        have t := t2 (by omega)
        have q1 : (a.tmod b != 0) = true := by simp [hm]
        have q2 : decide (b < 0) = false := by simp; omega
        have q3 : decide (a.tmod b < 0) = true := by simp; omega
        clear t1 t2
        go_enter Try.func32, Try.ntmps32
        go_wp2
        go_quiet (fail)
        all_goals go_wp2
        all_goals go_ret3
        all_goals exact ⟨⟨_, _, rfl, rfl, by unfold floorQ floorR; rw [D.out]; rfl⟩, _, rfl⟩
    · by_cases h2 : b < 0
      · have D : Hid (down a b = true) := by show _ = true; unfold down; simp [hm, h1, h2]
        have t := t1 h2
        have q1 : (a.tmod b != 0) = true := by simp [hm]
        have q2 : decide (b < 0) = true := by simp; omega
        have q3 : decide (a.tmod b < 0) = false := by simp; omega
        clear t1 t2
        go_enter Try.func32, Try.ntmps32
        go_wp2
        go_quiet (fail)
        all_goals go_wp2
        all_goals go_ret3
        all_goals exact ⟨⟨_, _, rfl, rfl, by unfold floorQ floorR; rw [D.out]; rfl⟩, _, rfl⟩
      · have D : Hid (down a b = false) := by show _ = false; unfold down; simp [hm, h1, h2]
        have t := t2 (by omega)
        have q1 : (a.tmod b != 0) = true := by simp [hm]
        have q2 : decide (b < 0) = false := by simp; omega
        have q3 : decide (a.tmod b < 0) = false := by simp; omega
        clear t1 t2
        go_enter Try.func32, Try.ntmps32
        go_wp2
        go_quiet (fail)
        all_goals go_wp2
        all_goals go_ret3
        all_goals exact ⟨⟨_, _, rfl, rfl, by unfold floorQ floorR; rw [D.out]; rfl⟩, _, rfl⟩

end Go.Proofs.Ytcaefimnhoeimaa
