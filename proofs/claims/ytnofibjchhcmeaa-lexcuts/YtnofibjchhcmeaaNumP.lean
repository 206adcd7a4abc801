/- What the document's Parse answers, in whatever world. -/
import Derived.Test.YtnofibjchhcmeaaNumB
import Derived.Test.YtnofibjchhcmeaaNumD
import Derived.Deep.QuietTactic
import Derived.BigQuiet
namespace Go.Proofs.Ytnofibjchhcmeaa
open Go.RowKit
set_option linter.unusedVariables false

theorem vstep (v d : Int) : wrap64 (wrap64 (wrap64 v * 10) + d) = wrap64 (v * 10 + d) := wrap_mul_add v 10 d
theorem drews {w wr : World} (h : ∃ m, wr = w.drewN m) (n : Nat) : ∃ m, wr.drewN n = w.drewN m := by
  obtain ⟨m, rfl⟩ := h
  exact ⟨m + n, World.drewN_drewN _ _ _⟩
theorem val_none (l : List UInt8) : wrap64 ((val (l.take 0) : Nat) : Int) = 0 := by show wrap64 ((0 : Nat) : Int) = 0; unfold wrap64; omega
theorem ret_22 {a b c d : Int} (h1 : a = c) (h2 : b = d) : Ending.returned (.tuple #[.int .i64 a, .int .i64 b]) = .returned (.tuple #[.int .i64 c, .int .i64 d]) := by rw [h1, h2]

theorem cases_plain (s : ByteArray) (HA : areD s.data.toList = true) (h19 : ¬ 19 < s.size) (hv : (val s.data.toList : Int) ≤ 9223372036854775807) :
    ((s.size : Int) == 19) = false ∨ ((s.size : Int) == 19) = true ∧ Op.bytesLess s.toList [57, 50, 50, 51, 51, 55, 50, 48, 51, 54, 56, 53, 52, 55, 55, 53, 56, 48, 55] = true ∨ ((s.size : Int) == 19) = true ∧ Op.bytesLess s.toList [57, 50, 50, 51, 51, 55, 50, 48, 51, 54, 56, 53, 52, 55, 55, 53, 56, 48, 55] = false ∧ (s.toList == [57, 50, 50, 51, 51, 55, 50, 48, 51, 54, 56, 53, 52, 55, 55, 53, 56, 48, 55]) = true := by
  by_cases h : s.size = 19
  · right
    have hl : s.data.toList.length = 19 := by simp [h]
    have := over_7 s.data.toList (areD_all HA) hl
    rw [show decide (9223372036854775807 < val s.data.toList) = false by simp; omega] at this
    have e : s.toList = s.data.toList := ByteArray.toList_eq s
    rw [e]
    have hs : ((s.size : Int) == 19) = true := by simp [h]
    change (!Op.bytesLess s.data.toList [57, 50, 50, 51, 51, 55, 50, 48, 51, 54, 56, 53, 52, 55, 55, 53, 56, 48, 55] && !(s.data.toList == [57, 50, 50, 51, 51, 55, 50, 48, 51, 54, 56, 53, 52, 55, 55, 53, 56, 48, 55])) = false at this
    cases h1 : Op.bytesLess s.data.toList [57, 50, 50, 51, 51, 55, 50, 48, 51, 54, 56, 53, 52, 55, 55, 53, 56, 48, 55]
    · rw [h1] at this
      right
      refine ⟨hs, rfl, ?_⟩
      simpa using this
    · left; exact ⟨hs, rfl⟩
  · left
    simp; omega
theorem overs_plain (s : ByteArray) (HA : areD s.data.toList = true) (h19 : ¬ 19 < s.size) (hv : ¬ (val s.data.toList : Int) ≤ 9223372036854775807) :
    ((s.size : Int) == 19) = true ∧ Op.bytesLess s.toList [57, 50, 50, 51, 51, 55, 50, 48, 51, 54, 56, 53, 52, 55, 55, 53, 56, 48, 55] = false ∧ (s.toList == [57, 50, 50, 51, 51, 55, 50, 48, 51, 54, 56, 53, 52, 55, 55, 53, 56, 48, 55]) = false := by
  by_cases h : s.size = 19
  · have hl : s.data.toList.length = 19 := by simp [h]
    have := over_7 s.data.toList (areD_all HA) hl
    rw [show decide (9223372036854775807 < val s.data.toList) = true by simp; omega] at this
    have e : s.toList = s.data.toList := ByteArray.toList_eq s
    rw [e]
    have hs : ((s.size : Int) == 19) = true := by simp [h]
    change (!Op.bytesLess s.data.toList [57, 50, 50, 51, 51, 55, 50, 48, 51, 54, 56, 53, 52, 55, 55, 53, 56, 48, 55] && !(s.data.toList == [57, 50, 50, 51, 51, 55, 50, 48, 51, 54, 56, 53, 52, 55, 55, 53, 56, 48, 55])) = true at this
    simp only [Bool.and_eq_true] at this
    exact ⟨hs, by simpa using this.1, by simpa using this.2⟩
  · exfalso
    have := val_small s.data.toList (areD_all HA) (by simp; omega)
    omega

set_option maxHeartbeats 4000000 in
theorem rparse_plain (s : ByteArray) (hs : s.size ≤ 8192) (h0 : 0 < s.size) (h45 : ((s[0].toNat : Int) == 45) = false) (hz : ((s[0].toNat : Int) == 48) = false ∨ ((s[0].toNat : Int) == 48) = true ∧ (s.toList == [48]) = true) (w : World) :
    Calls Try.prog 23 #[.string s] w fun e w' => e = .returned (.tuple #[.int .i64 (parseOf false (s.toList == [48]) s.data.toList).1, .int .i64 (parseOf false (s.toList == [48]) s.data.toList).2]) ∧ ∃ n, w' = w.drewN n := by
  have HZ : Hid (s.data.toList.head? ≠ some 48 ∨ (s.toList == [48]) = true) := by
    rcases hz with h | ⟨_, h⟩
    · left; rw [Ne, head_48 s h0]; simpa using h
    · right; exact h
  have hsz : ((s.size : Int) == 0) = false := by
    have : s.size ≠ 0 := by omega
    simp only [beq_eq_false_iff_ne, ne_eq]; omega
  have hl : s.data.toList.length = s.size := by simp
  obtain ⟨R, hR⟩ : ∃ R, R = parseOf false (s.toList == [48]) s.data.toList := ⟨_, rfl⟩
  rw [← hR]
  have HR : Hid _ := hR
  clear hR
  rcases hz with hz | ⟨hz, hz'⟩
  all_goals
    go_enter Try.func23, Try.ntmps23
    go_wp2
    go_loop [5] (fun i => ∃ k : Nat, k ≤ s.size ∧ i = .int .i64 k ∧ (s.data.toList.take k).all isD = true) (fun i => s.size - (intOf i).toNat)
    case atStart => exact ⟨0, Nat.zero_le _, rfl, rfl⟩
    case round =>
      obtain ⟨k, hk, rfl, ha⟩ := hrel
      have HA0 : Hid (_ = true) := ha
      clear ha
      by_cases hlt : k < s.size
      · by_cases c1 : (s[k].toNat : Int) < 48
        · have HN : Hid (_ = false) := not_all s k hlt (Or.inl c1)
          go_wp2
          go_ret2
          exact ⟨by rw [HR.out, parseOf_1 HN.out]; rfl, 0, rfl⟩
        · by_cases c2 : (57 : Int) < s[k].toNat
          · have HN : Hid (_ = false) := not_all s k hlt (Or.inr c2)
            go_wp2
            go_ret2
            exact ⟨by rw [HR.out, parseOf_1 HN.out]; rfl, 0, rfl⟩
          · have HN : Hid (_ = true) := all_snoc s k hlt HA0.out (by omega) (by omega)
            go_wp2
            go_round
            case rel => exact ⟨k + 1, by omega, by go_num, HN.out⟩
            case measure => simp [intOf]; omega
      · have hk' : k = s.size := by omega
        have HA : Hid (areD s.data.toList = true) := areD_of_all s h0 (by rw [← hk']; exact HA0.out)
        have HAL : Hid _ := areD_all HA.out
        clear hk'
        by_cases h19 : 19 < s.size
        · go_wp2
          go_ret2
          exact ⟨by rw [HR.out, parseOf_3 HA.out HZ.out (by omega)]; rfl, 0, rfl⟩
        · by_cases hv : (val s.data.toList : Int) ≤ 9223372036854775807
          · rcases cases_plain s HA.out h19 hv with g | ⟨g, g1⟩ | ⟨g, g1, g2⟩
            all_goals
              go_wp2
              go_loopw [7, 8] (fun n i wr => ∃ k : Nat, k ≤ s.size ∧ n = .int .i64 (wrap64 (val (s.data.toList.take k))) ∧ i = .int .i64 k ∧ ∃ m, wr = w.drewN m) (fun _ i _ => s.size - (intOf i).toNat)
              case atStart => exact ⟨0, Nat.zero_le _, by rw [val_none], rfl, 0, rfl⟩
              case round =>
                obtain ⟨j, hj, rfl, rfl, hwr⟩ := hrel
                have HW : Hid (∃ m, _) := hwr
                clear hwr
                by_cases hjlt : j < s.size
                · obtain ⟨d1, d2⟩ := isD_at s j hjlt HA.out
                  have HV : Hid (_ = _) := val_take s j hjlt HA.out
                  go_wp2
                  go_quiet (first | (go_at_call 35; exact Calls.quiet_of_same (mul_any _ _ (wrap_bd _) (by omega) _)) | (go_at_call 34; exact Calls.quiet_of_same (add_any _ _ (wrap_bd _) (by omega) _)))
                  go_wp2
                  go_roundw
                  case rel => exact ⟨j + 1, by omega, by rw [vstep, HV.out], by go_num, drews HW.out _⟩
                  case measure => simp [intOf]; omega
                · 
                  go_wp2
                  go_ret2
                  exact ⟨ret_22 (by rw [HR.out, parseOf_4 HA.out HZ.out (by omega), withS, if_neg (by decide), if_pos (by omega), List.take_of_length_le (by simp; omega)]; exact wrap_in (by omega) (by omega)) (by rw [HR.out, parseOf_4 HA.out HZ.out (by omega), withS, if_neg (by decide), if_pos (by omega)]), HW.out⟩

          · obtain ⟨g, g1, g2⟩ := overs_plain s HA.out h19 hv
            go_wp2
            go_ret2
            exact ⟨by rw [HR.out, parseOf_4 HA.out HZ.out (by omega), withS, if_neg (by decide), if_neg (by omega)]; rfl, 0, rfl⟩
end Go.Proofs.Ytnofibjchhcmeaa
