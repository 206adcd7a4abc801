/- A reader's End. -/
import Derived.Test.YthcidcfaodjbjaaPCount
namespace Go.Proofs.Ythcidcfaodjbjaa
open Go.RowKit
set_option linter.unusedVariables false

/-- the end, as both tell it -/
def endI (L : List UInt8) (f : Int) : Int := if f = 0 ∧ 0 < L.length then 21 else f
set_option maxRecDepth 100000 in
set_option maxHeartbeats 400000 in
theorem end_any (pb : Nat) (L : List UInt8) (f : Int) (w : World) (hl : L.length ≤ 1000000000) (h : RS w pb L f) : Calls Try.prog 46 #[.pointer (some ⟨pb, 0, none⟩)] w fun e w' => e = .returned (.int .i64 (endI L f)) ∧ w' = w := by
  obtain ⟨v, h1, h2, h3, h4, h5, h6⟩ := h
  obtain ⟨a, c, rfl⟩ : ∃ a c, v = .slice a L.length c := by
    rcases h6 with ⟨rfl, rfl⟩ | ⟨g, off, cap, rfl, _⟩
    · exact ⟨_, _, rfl⟩
    · exact ⟨_, _, rfl⟩
  obtain ⟨E, hE⟩ : ∃ E, endI L f = E := ⟨_, rfl⟩
  have HE : Hid ((if f = 0 ∧ 0 < L.length then (21 : Int) else f) = E) := hE
  rw [hE]
  obtain ⟨n, hn⟩ : ∃ n, L.length = n := ⟨_, rfl⟩
  rw [hn] at h1 hl HE
  clear h6 hE hn
  by_cases hf : f = 0
  · subst hf
    by_cases h0 : 0 < n
    · have HE2 : Hid (21 = E) := by show _ = _; rw [← HE.out, if_pos ⟨rfl, h0⟩]
      have h0' : (0 : Int) < (n : Int) := by omega
      go_enter Try.func46, Try.ntmps46
      go_wp2
      go_ret
      exact ⟨by rw [← HE2.out] <;> rfl, rfl⟩
    · have HE2 : Hid (0 = E) := by show _ = _; rw [← HE.out, if_neg (fun h => h0 h.2)]
      have h0' : ¬ (0 : Int) < (n : Int) := by omega
      go_enter Try.func46, Try.ntmps46
      go_wp2
      go_ret
      exact ⟨by rw [← HE2.out] <;> rfl, rfl⟩
  · have HE2 : Hid (f = E) := by show _ = _; rw [← HE.out, if_neg (fun h => hf h.1)]
    have hf' : (f == 0) = false := by simp [hf]
    go_enter Try.func46, Try.ntmps46
    go_wp2
    go_ret
    exact ⟨by rw [← HE2.out] <;> rfl, rfl⟩
end Go.Proofs.Ythcidcfaodjbjaa
