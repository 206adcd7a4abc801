/- The document's Has, bad and One. -/
import Derived.Test.YtcaefimnhoeimaaIRef
namespace Go.Proofs.Ytcaefimnhoeimaa
open Go.RowKit
set_option linter.unusedVariables false
set_option linter.unusedSimpArgs false

theorem has_next (s : ByteArray) (c : UInt8) (p : Nat) (h : p < s.size) : (s.data.toList.drop p).contains c = ((c == s[p]) || (s.data.toList.drop (p + 1)).contains c) := by
  have hp : p < s.data.toList.length := by simpa using h
  rw [List.drop_eq_getElem_cons hp, List.contains_cons]; rfl
set_option maxRecDepth 100000 in
set_option maxHeartbeats 1000000 in
theorem has_any (s : ByteArray) (n : Int) (c : UInt8) (w : World) (hs : s.size ≤ 1000) (hn : n = (c.toNat : Int)) : Calls Try.prog 46 #[.string s, .int .u8 n] w fun e w' => e = .returned (.bool (hasL s c)) ∧ w' = w := by
  subst hn
  obtain ⟨R, hR⟩ : ∃ R, hasL s c = R := ⟨_, rfl⟩
  rw [hR]
  have HR : Hid ((s.data.toList.drop 0).contains c = R) := hR
  clear hR
  have hc : c.toNat ≤ 255 := by have := c.toNat_lt; omega
  go_enter Try.func46, Try.ntmps46
  go_wp2
  go_loop [5] (fun i => ∃ k : Nat, k ≤ s.size ∧ i = .int .i64 k ∧ Hid ((s.data.toList.drop k).contains c = R)) (fun i => s.size - (intOf i).toNat)
  case atStart => exact ⟨0, Nat.zero_le _, rfl, HR⟩
  case round =>
    obtain ⟨k, hk, rfl, HP⟩ := hrel
    by_cases hlt : k < s.size
    · have HN : Hid (((c == s[k]) || (s.data.toList.drop (k + 1)).contains c) = R) := by
        show _ = _
        rw [← has_next s c k hlt]; exact HP.out
      have h255 : s[k].toNat ≤ 255 := by have := s[k].toNat_lt; omega
      by_cases he : s[k] = c
      · have HT : Hid (true = R) := by show _ = _; have := HN.out; simpa [he] using this
        have hi : (s[k].toNat : Int) = (c.toNat : Int) := by rw [he]
        go_wp2
        all_goals first | (exfalso; simp_all; done) | skip
        go_ret
        exact ⟨ret_b HT.out, rfl⟩
      · have HT : Hid ((s.data.toList.drop (k + 1)).contains c = R) := by
          show _ = _
          have := HN.out
          rw [show (c == s[k]) = false by simp; exact fun e => he e.symm, Bool.false_or] at this
          exact this
        have hi : ¬ (s[k].toNat : Int) = (c.toNat : Int) := fun e => he (UInt8.toNat_inj.1 (by omega))
        go_wp2
        all_goals first | (exfalso; simp_all; done) | skip
        go_round
        case rel => exact ⟨k + 1, by omega, by go_num, HT⟩
        case measure => simp [intOf]; omega
    · have HT : Hid (false = R) := by
        have := HP.out
        rw [List.drop_of_length_le (by simp; omega)] at this
        exact this
      go_wp2
      go_ret
      exact ⟨ret_b HT.out, rfl⟩

theorem ret_i {a b : Int} (h : a = b) : Ending.returned (.int .i64 a) = Ending.returned (.int .i64 b) := by rw [h]
def hasI (s : ByteArray) (n : Int) : Bool := hasL s n.toNat.toUInt8
theorem has_gen (s : ByteArray) (n : Int) (w : World) (hs : s.size ≤ 1000) (h0 : 0 ≤ n) (h1 : n ≤ 255) : Calls Try.prog 46 #[.string s, .int .u8 n] w fun e w' => e = .returned (.bool (hasI s n)) ∧ w' = w :=
  has_any s n n.toNat.toUInt8 w hs (by simp [UInt8.toNat_ofNat']; omega)
set_option maxRecDepth 100000 in
set_option maxHeartbeats 1000000 in
theorem bad_any (n : Int) (w : World) : Calls Try.prog 47 #[.int .i64 n] w fun e w' => e = .returned (.bool (decide (n < 0 ∨ 15 < n))) ∧ w' = w := by
  by_cases h : n < 0
  · go_enter Try.func47, Try.ntmps47
    go_wp2
    go_ret
    exact ⟨ret_b (by simp; omega), rfl⟩
  · go_enter Try.func47, Try.ntmps47
    go_wp2
    go_ret
    exact ⟨ret_b (by simp; omega), rfl⟩
end Go.Proofs.Ytcaefimnhoeimaa
