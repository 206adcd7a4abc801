/- What asm.number, small, register and read answer. -/
import Derived.Test.YthcidcfaodjbjabGreatDoorAsmM
import Derived.Lib.Bytealg
namespace Go.Proofs.YthcidcfaodjbjabGreatDoor
open Go.RowKit
set_option linter.unusedVariables false

set_option maxRecDepth 100000 in
set_option maxHeartbeats 1000000 in
theorem number_any (s : ByteArray) (hs : s.size ≤ maxLen) (w : World) :
    Calls Tryz.prog 89 #[.string s] w fun e w' => e = .returned (.tuple #[.int .i64 (parse s.data.toList).1, .bool ((parse s.data.toList).2 == 0)]) ∧ w' = w := by
  obtain ⟨n, hn⟩ : ∃ n, (parse s.data.toList).1 = n := ⟨_, rfl⟩
  obtain ⟨f, hf⟩ : ∃ f, (parse s.data.toList).2 = f := ⟨_, rfl⟩
  have HP : Hid (∀ w, Calls Tryz.prog 96 #[.string s] w fun e w' => e = .returned (.tuple #[.int .i64 n, .int .i64 f]) ∧ w' = w) := fun w => by rw [← hn, ← hf]; exact parse_any s hs w
  rw [hn, hf]
  clear hn hf
  go_enter Tryz.func89, Tryz.ntmps89
  go_wp2_with (go_at_call 96; refine (HP.out _).mono ?_; rintro e w' ⟨rfl, rfl⟩)
  go_ret2
  exact ⟨rfl, rfl⟩

/-- a small number's answer -/
def smallA (o : Option Int) : Value := .tuple #[.int .i64 (o.getD 0), .bool o.isSome]
set_option maxRecDepth 100000 in
set_option maxHeartbeats 1000000 in
theorem small_any (s : ByteArray) (hs : s.size ≤ maxLen) (w : World) :
    Calls Tryz.prog 88 #[.string s] w fun e w' => e = .returned (smallA (smallL s.data.toList)) ∧ w' = w := by
  unfold smallL
  obtain ⟨n, hn⟩ : ∃ n, (parse s.data.toList).1 = n := ⟨_, rfl⟩
  obtain ⟨f, hf⟩ : ∃ f, (parse s.data.toList).2 = f := ⟨_, rfl⟩
  have HP : Hid (∀ w, Calls Tryz.prog 89 #[.string s] w fun e w' => e = .returned (.tuple #[.int .i64 n, .bool (f == 0)]) ∧ w' = w) := fun w => by rw [← hn, ← hf]; exact number_any s hs w
  rw [hn, hf]
  clear hn hf
  by_cases h0 : f = 0
  · have e0 : (f == 0) = true := by simpa using h0
    rw [e0] at HP
    by_cases h1 : 0 ≤ n
    · by_cases h2 : n ≤ 255
      · rw [if_pos ⟨h0, h1, h2⟩]
        clear h0 e0
        go_enter Tryz.func88, Tryz.ntmps88
        go_wp2_with (go_at_call 89; refine (HP.out _).mono ?_; rintro e w' ⟨rfl, rfl⟩)
        go_ret2
        exact ⟨rfl, rfl⟩
      · rw [if_neg (by omega)]
        have h2' : (255 : Int) < n := by omega
        clear h0 e0
        go_enter Tryz.func88, Tryz.ntmps88
        go_wp2_with (go_at_call 89; refine (HP.out _).mono ?_; rintro e w' ⟨rfl, rfl⟩)
        go_ret2
        exact ⟨rfl, rfl⟩
    · rw [if_neg (by omega)]
      have h1' : n < 0 := by omega
      clear h0 e0
      go_enter Tryz.func88, Tryz.ntmps88
      go_wp2_with (go_at_call 89; refine (HP.out _).mono ?_; rintro e w' ⟨rfl, rfl⟩)
      go_ret2
      exact ⟨rfl, rfl⟩
  · rw [if_neg (fun h => h0 h.1)]
    have e0 : (f == 0) = false := by simpa using h0
    rw [e0] at HP
    clear h0 e0
    go_enter Tryz.func88, Tryz.ntmps88
    go_wp2_with (go_at_call 89; refine (HP.out _).mono ?_; rintro e w' ⟨rfl, rfl⟩)
    go_ret2
    exact ⟨rfl, rfl⟩
end Go.Proofs.YthcidcfaodjbjabGreatDoor
