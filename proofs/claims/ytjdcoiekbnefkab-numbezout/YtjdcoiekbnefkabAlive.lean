/- That the fixed fact of package outriderlaw01 (alive) is so: it returns true, in whatever world. -/
import Derived.Test.YtjdcoiekbnefkabText
import Derived.Test.YtjdcoiekbnefkabParse
namespace Go.Proofs.Ytjdcoiekbnefkab
open Go.RowKit

set_option maxHeartbeats 400000 in
theorem two_alive (w : World) :
    Calls Try.prog 9 #[.int .i64 4, .int .i64 (-7), .int .i64 2] w fun e w' => e = .returned (.tuple #[.int .i64 (-3), .bool true]) ∧ w' = w := by
  go_enter Try.func9, Try.ntmps9
  go_wp2
  go_ret2
  exact ⟨rfl, rfl⟩

set_option maxHeartbeats 400000 in
theorem one_alive (w : World) :
    Calls Try.prog 31 #[.int .i64 20, .int .i64 5] w fun e w' => e = .returned (.tuple #[.int .i64 (-6), .bool true]) ∧ w' = w := by
  go_enter Try.func31, Try.ntmps31
  go_wp2
  go_ret2
  exact ⟨rfl, rfl⟩

theorem text_12 : text (-12) = [45, 49, 50] := by decide
theorem parse_12 : parse [45, 49, 50] = (-12, 0) := by decide

theorem text_alive (w : World) :
    Calls Try.prog 33 #[.int .i64 (-12)] w fun e w' => e = .returned (.string { data := #[45, 49, 50] }) ∧ Grown w w' := by
  have h := text_any (-12) (by omega) (by omega) w
  rw [text_12] at h
  exact h

theorem parse_alive (w : World) :
    Calls Try.prog 32 #[.string { data := #[45, 49, 50] }] w fun e w' => e = .returned (.tuple #[.int .i64 (-12), .int .i64 0]) ∧ w' = w := by
  have h := parse_any { data := #[45, 49, 50] } (by unfold maxLen; decide) w
  have e : parse ({ data := #[45, 49, 50] } : ByteArray).data.toList = (-12, 0) := parse_12
  rw [e] at h
  exact h

set_option maxHeartbeats 400000 in
theorem alive_any (w : World) : Calls Try.prog 10 #[] w fun e w' => e = .returned (.bool true) ∧ Grown w w' := by
  go_enter Try.func10, Try.ntmps10
  go_wp2_with (first | (go_at_call 9; refine (two_alive _).mono ?_; rintro e w' ⟨rfl, rfl⟩) | (go_at_call 31; refine (one_alive _).mono ?_; rintro e w' ⟨rfl, rfl⟩) | (go_at_call 32; refine (parse_alive _).mono ?_; rintro e w' ⟨rfl, rfl⟩) | (go_at_call 33; refine (text_alive _).mono ?_; rintro e w' ⟨rfl, hg⟩))
  go_ret
  exact ⟨rfl, hg⟩
end Go.Proofs.Ytjdcoiekbnefkab
