/- What the document's Parse answers of texts with a sign ahead, in whatever world. -/
import Derived.Test.YtjdcoiekbnefkaaRefP
namespace Go.Proofs.Ytjdcoiekbnefkaa
open Go.RowKit
set_option linter.unusedVariables false

theorem cases_minus (t : ByteArray) (HA : areD t.data.toList = true) (h19 : ¬ 19 < t.size) (hv : (val t.data.toList : Int) ≤ 9223372036854775808) :
    ((t.size : Int) == 19) = false ∨ ((t.size : Int) == 19) = true ∧ Op.bytesLess t.toList [57, 50, 50, 51, 51, 55, 50, 48, 51, 54, 56, 53, 52, 55, 55, 53, 56, 48, 56] = true ∨ ((t.size : Int) == 19) = true ∧ Op.bytesLess t.toList [57, 50, 50, 51, 51, 55, 50, 48, 51, 54, 56, 53, 52, 55, 55, 53, 56, 48, 56] = false ∧ (t.toList == [57, 50, 50, 51, 51, 55, 50, 48, 51, 54, 56, 53, 52, 55, 55, 53, 56, 48, 56]) = true := by
  by_cases h : t.size = 19
  · right
    have hl : t.data.toList.length = 19 := by simp [h]
    have := over_8 t.data.toList (areD_all HA) hl
    rw [show decide (9223372036854775808 < val t.data.toList) = false by simp; omega] at this
    have e : t.toList = t.data.toList := ByteArray.toList_eq t
    rw [e]
    have hs : ((t.size : Int) == 19) = true := by simp [h]
    change (!Op.bytesLess t.data.toList [57, 50, 50, 51, 51, 55, 50, 48, 51, 54, 56, 53, 52, 55, 55, 53, 56, 48, 56] && !(t.data.toList == [57, 50, 50, 51, 51, 55, 50, 48, 51, 54, 56, 53, 52, 55, 55, 53, 56, 48, 56])) = false at this
    cases h1 : Op.bytesLess t.data.toList [57, 50, 50, 51, 51, 55, 50, 48, 51, 54, 56, 53, 52, 55, 55, 53, 56, 48, 56]
    · rw [h1] at this
      right
      refine ⟨hs, rfl, ?_⟩
      simpa using this
    · left; exact ⟨hs, rfl⟩
  · left
    simp; omega
theorem overs_minus (t : ByteArray) (HA : areD t.data.toList = true) (h19 : ¬ 19 < t.size) (hv : ¬ (val t.data.toList : Int) ≤ 9223372036854775808) :
    ((t.size : Int) == 19) = true ∧ Op.bytesLess t.toList [57, 50, 50, 51, 51, 55, 50, 48, 51, 54, 56, 53, 52, 55, 55, 53, 56, 48, 56] = false ∧ (t.toList == [57, 50, 50, 51, 51, 55, 50, 48, 51, 54, 56, 53, 52, 55, 55, 53, 56, 48, 56]) = false := by
  by_cases h : t.size = 19
  · have hl : t.data.toList.length = 19 := by simp [h]
    have := over_8 t.data.toList (areD_all HA) hl
    rw [show decide (9223372036854775808 < val t.data.toList) = true by simp; omega] at this
    have e : t.toList = t.data.toList := ByteArray.toList_eq t
    rw [e]
    have hs : ((t.size : Int) == 19) = true := by simp [h]
    change (!Op.bytesLess t.data.toList [57, 50, 50, 51, 51, 55, 50, 48, 51, 54, 56, 53, 52, 55, 55, 53, 56, 48, 56] && !(t.data.toList == [57, 50, 50, 51, 51, 55, 50, 48, 51, 54, 56, 53, 52, 55, 55, 53, 56, 48, 56])) = true at this
    simp only [Bool.and_eq_true] at this
    exact ⟨hs, by simpa using this.1, by simpa using this.2⟩
  · exfalso
    have := val_small t.data.toList (areD_all HA) (by simp; omega)
    omega

set_option maxHeartbeats 4000000 in
theorem rparse_minus (s t : ByteArray) (hs : s.size ≤ 4096) (h0 : 0 < s.size) (h45 : ((s[0].toNat : Int) == 45) = true) (ht : s.extract 1 s.size = t) (hts : t.size < s.size) (ht0 : 0 < t.size) (hne : (t.toList == s.toList) = false) (hz : ((t[0].toNat : Int) == 48) = false ∨ ((t[0].toNat : Int) == 48) = true ∧ (s.toList == [48]) = true) (w : World) :
    Calls Try.prog 15 #[.string s] w fun e w' => e = .returned (.tuple #[.int .i64 (parseOf true (s.toList == [48]) t.data.toList).1, .int .i64 (parseOf true (s.toList == [48]) t.data.toList).2]) ∧ ∃ n, w' = w.drewN n := by
  have HZ : Hid (t.data.toList.head? ≠ some 48 ∨ (s.toList == [48]) = true) := by
    rcases hz with h | ⟨_, h⟩
    · left; rw [Ne, head_48 t ht0]; simpa using h
    · right; exact h
  have hsz : ((t.size : Int) == 0) = false := by
    have : t.size ≠ 0 := by omega
    simp only [beq_eq_false_iff_ne, ne_eq]; omega
  have hl : t.data.toList.length = t.size := by simp
  obtain ⟨R, hR⟩ : ∃ R, R = parseOf true (s.toList == [48]) t.data.toList := ⟨_, rfl⟩
  rw [← hR]
  have HR : Hid _ := hR
  clear hR
  rcases hz with hz | ⟨hz, hz'⟩
  all_goals
    go_enter Try.func15, Try.ntmps15
    go_wp2
    go_loop [5] (fun i => ∃ k : Nat, k ≤ t.size ∧ i = .int .i64 k ∧ (t.data.toList.take k).all isD = true) (fun i => t.size - (intOf i).toNat)
    case atStart => exact ⟨0, Nat.zero_le _, rfl, rfl⟩
    case round =>
      obtain ⟨k, hk, rfl, ha⟩ := hrel
      have HA0 : Hid (_ = true) := ha
      clear ha
      by_cases hlt : k < t.size
      · by_cases c1 : (t[k].toNat : Int) < 48
        · have HN : Hid (_ = false) := not_all t k hlt (Or.inl c1)
          go_wp2
          go_ret2
          exact ⟨by rw [HR.out, parseOf_1 HN.out]; rfl, 0, rfl⟩
        · by_cases c2 : (57 : Int) < t[k].toNat
          · have HN : Hid (_ = false) := not_all t k hlt (Or.inr c2)
            go_wp2
            go_ret2
            exact ⟨by rw [HR.out, parseOf_1 HN.out]; rfl, 0, rfl⟩
          · have HN : Hid (_ = true) := all_snoc t k hlt HA0.out (by omega) (by omega)
            go_wp2
            go_round
            case rel => exact ⟨k + 1, by omega, by go_num, HN.out⟩
            case measure => simp [intOf]; omega
      · have hk' : k = t.size := by omega
        have HA : Hid (areD t.data.toList = true) := areD_of_all t ht0 (by rw [← hk']; exact HA0.out)
        have HAL : Hid _ := areD_all HA.out
        clear hk'
        by_cases h19 : 19 < t.size
        · go_wp2
          go_ret2
          exact ⟨by rw [HR.out, parseOf_3 HA.out HZ.out (by omega)]; rfl, 0, rfl⟩
        · by_cases hv : (val t.data.toList : Int) ≤ 9223372036854775808
          · rcases cases_minus t HA.out h19 hv with g | ⟨g, g1⟩ | ⟨g, g1, g2⟩
            all_goals
              go_wp2
              go_loopw [7, 8] (fun n i wr => ∃ k : Nat, k ≤ t.size ∧ n = .int .i64 (wrap64 (val (t.data.toList.take k))) ∧ i = .int .i64 k ∧ ∃ m, wr = w.drewN m) (fun _ i _ => t.size - (intOf i).toNat)
              case atStart => exact ⟨0, Nat.zero_le _, by rw [val_none], rfl, 0, rfl⟩
              case round =>
                obtain ⟨j, hj, rfl, rfl, hwr⟩ := hrel
                have HW : Hid (∃ m, _) := hwr
                clear hwr
                by_cases hjlt : j < t.size
                · obtain ⟨d1, d2⟩ := isD_at t j hjlt HA.out
                  have HV : Hid (_ = _) := val_take t j hjlt HA.out
                  go_wp2
                  go_quiet (first | (go_at_call 25; exact Calls.quiet_of_same (mul_any _ _ (wrap_bd _) (by omega) _)) | (go_at_call 23; exact Calls.quiet_of_same (add_any _ _ (wrap_bd _) (by omega) _)))
                  go_wp2
                  go_roundw
                  case rel => exact ⟨j + 1, by omega, by rw [vstep, HV.out], by go_num, drews HW.out _⟩
                  case measure => simp [intOf]; omega
                · 
                  go_wp2_with fail
                  refine (neg_any _ (wrap_bd _).1 (wrap_bd _).2 _).mono ?_
                  rintro e w2 ⟨rfl, rfl⟩
                  go_wp2
                  go_ret2
                  exact ⟨ret_22 (by rw [HR.out, parseOf_4 HA.out HZ.out (by omega), withS, if_pos rfl, if_pos (by omega), List.take_of_length_le (by simp; omega), wrap_neg]; exact wrap_in (by omega) (by omega)) (by rw [HR.out, parseOf_4 HA.out HZ.out (by omega), withS, if_pos rfl, if_pos (by omega)]), HW.out⟩

          · obtain ⟨g, g1, g2⟩ := overs_minus t HA.out h19 hv
            go_wp2
            go_ret2
            exact ⟨by rw [HR.out, parseOf_4 HA.out HZ.out (by omega), withS, if_pos rfl, if_neg (by omega)]; rfl, 0, rfl⟩
end Go.Proofs.Ytjdcoiekbnefkaa
