/- NumReads: any text of at most 4,096 bytes is read by num.Parse as the number that the document says, or refused with the document's error (a longer one isn't asked); it has no conditions. -/
import Derived.Test.YthcidcfaodjbjabDoorNRefB
import Derived.Test.YthcidcfaodjbjabDoorNPlainD
import Derived.Deep.QuietTactic
import Derived.BigQuiet
import Derived.Test.YthcidcfaodjbjabDoorRows
import Derived.WalkKit
import Derived.ProofKit
import Derived.OpenShut
import Derived.ShutString
namespace Go.Proofs.YthcidcfaodjbjabDoor
open Go.RowKit
set_option maxRecDepth 100000
set_option linter.unusedVariables false

theorem vstep (v d : Int) : wrap64 (wrap64 (wrap64 v * 10) + d) = wrap64 (v * 10 + d) := wrap_mul_add v 10 d
theorem drews {w wr : World} (h : ∃ m, wr = w.drewN m) (n : Nat) : ∃ m, wr.drewN n = w.drewN m := by
  obtain ⟨m, rfl⟩ := h
  exact ⟨m + n, World.drewN_drewN _ _ _⟩
theorem val_none (l : List UInt8) : wrap64 ((val (l.take 0) : Nat) : Int) = 0 := by show wrap64 ((0 : Nat) : Int) = 0; unfold wrap64; omega
theorem ret_22 {a b c d : Int} (h1 : a = c) (h2 : b = d) : Ending.returned (.tuple #[.int .i64 a, .int .i64 b]) = .returned (.tuple #[.int .i64 c, .int .i64 d]) := by rw [h1, h2]

theorem cases_plain (s : ByteArray) (HA : areD s.data.toList = true) (h19 : ¬ 19 < s.size) (hv : (val s.data.toList : Int) ≤ 9223372036854775807) :
    ((s.size : Int) == 19) = false ∨ ((s.size : Int) == 19) = true ∧ Op.bytesLess s.toList [57, 50, 50, 51, 51, 55, 50, 48, 51, 54, 56, 53, 52, 55, 55, 53, 56, 48, 55] = true ∨ ((s.size : Int) == 19) = true ∧ Op.bytesLess s.toList [57, 50, 50, 51, 51, 55, 50, 48, 51, 54, 56, 53, 52, 55, 55, 53, 56, 48, 55] = false ∧ (s.toList == [57, 50, 50, 51, 51, 55, 50, 48, 51, 54, 56, 53, 52, 55, 55, 53, 56, 48, 55]) = true := by
  by_cases h : s.size = 19
  · right
    have hl : s.data.toList.length = 19 := by simp [h]
    have := over_7 s.data.toList (areD_all HA) hl
    rw [show decide (9223372036854775807 < val s.data.toList) = false by simp; omega] at this
    have e : s.toList = s.data.toList := ByteArray.toList_eq s
    rw [e]
    have hs : ((s.size : Int) == 19) = true := by simp [h]
    change (!Op.bytesLess s.data.toList [57, 50, 50, 51, 51, 55, 50, 48, 51, 54, 56, 53, 52, 55, 55, 53, 56, 48, 55] && !(s.data.toList == [57, 50, 50, 51, 51, 55, 50, 48, 51, 54, 56, 53, 52, 55, 55, 53, 56, 48, 55])) = false at this
    cases h1 : Op.bytesLess s.data.toList [57, 50, 50, 51, 51, 55, 50, 48, 51, 54, 56, 53, 52, 55, 55, 53, 56, 48, 55]
    · rw [h1] at this
      right
      refine ⟨hs, rfl, ?_⟩
      simpa using this
    · left; exact ⟨hs, rfl⟩
  · left
    simp; omega
theorem overs_plain (s : ByteArray) (HA : areD s.data.toList = true) (h19 : ¬ 19 < s.size) (hv : ¬ (val s.data.toList : Int) ≤ 9223372036854775807) :
    ((s.size : Int) == 19) = true ∧ Op.bytesLess s.toList [57, 50, 50, 51, 51, 55, 50, 48, 51, 54, 56, 53, 52, 55, 55, 53, 56, 48, 55] = false ∧ (s.toList == [57, 50, 50, 51, 51, 55, 50, 48, 51, 54, 56, 53, 52, 55, 55, 53, 56, 48, 55]) = false := by
  by_cases h : s.size = 19
  · have hl : s.data.toList.length = 19 := by simp [h]
    have := over_7 s.data.toList (areD_all HA) hl
    rw [show decide (9223372036854775807 < val s.data.toList) = true by simp; omega] at this
    have e : s.toList = s.data.toList := ByteArray.toList_eq s
    rw [e]
    have hs : ((s.size : Int) == 19) = true := by simp [h]
    change (!Op.bytesLess s.data.toList [57, 50, 50, 51, 51, 55, 50, 48, 51, 54, 56, 53, 52, 55, 55, 53, 56, 48, 55] && !(s.data.toList == [57, 50, 50, 51, 51, 55, 50, 48, 51, 54, 56, 53, 52, 55, 55, 53, 56, 48, 55])) = true at this
    simp only [Bool.and_eq_true] at this
    exact ⟨hs, by simpa using this.1, by simpa using this.2⟩
  · exfalso
    have := val_small s.data.toList (areD_all HA) (by simp; omega)
    omega

set_option maxHeartbeats 4000000 in
theorem rparse_plain (s : ByteArray) (hs : s.size ≤ 8192) (h0 : 0 < s.size) (h45 : ((s[0].toNat : Int) == 45) = false) (hz : ((s[0].toNat : Int) == 48) = false ∨ ((s[0].toNat : Int) == 48) = true ∧ (s.toList == [48]) = true) (w : World) :
    Calls Tryd.prog 69 #[.string s] w fun e w' => e = .returned (.tuple #[.int .i64 (parseOf false (s.toList == [48]) s.data.toList).1, .int .i64 (parseOf false (s.toList == [48]) s.data.toList).2]) ∧ ∃ n, w' = w.drewN n := by
  have HZ : Hid (s.data.toList.head? ≠ some 48 ∨ (s.toList == [48]) = true) := by
    rcases hz with h | ⟨_, h⟩
    · left; rw [Ne, head_48 s h0]; simpa using h
    · right; exact h
  have hsz : ((s.size : Int) == 0) = false := by
    have : s.size ≠ 0 := by omega
    simp only [beq_eq_false_iff_ne, ne_eq]; omega
  have hl : s.data.toList.length = s.size := by simp
  obtain ⟨R, hR⟩ : ∃ R, R = parseOf false (s.toList == [48]) s.data.toList := ⟨_, rfl⟩
  rw [← hR]
  have HR : Hid _ := hR
  clear hR
  rcases hz with hz | ⟨hz, hz'⟩
  all_goals
    go_enter Tryd.func69, Tryd.ntmps69
    go_wp2
    go_loop [5] (fun i => ∃ k : Nat, k ≤ s.size ∧ i = .int .i64 k ∧ (s.data.toList.take k).all isD = true) (fun i => s.size - (intOf i).toNat)
    case atStart => exact ⟨0, Nat.zero_le _, rfl, rfl⟩
    case round =>
      obtain ⟨k, hk, rfl, ha⟩ := hrel
      have HA0 : Hid (_ = true) := ha
      clear ha
      by_cases hlt : k < s.size
      · by_cases c1 : (s[k].toNat : Int) < 48
        · have HN : Hid (_ = false) := not_all s k hlt (Or.inl c1)
          go_wp2
          go_ret2
          exact ⟨by rw [HR.out, parseOf_1 HN.out]; rfl, 0, rfl⟩
        · by_cases c2 : (57 : Int) < s[k].toNat
          · have HN : Hid (_ = false) := not_all s k hlt (Or.inr c2)
            go_wp2
            go_ret2
            exact ⟨by rw [HR.out, parseOf_1 HN.out]; rfl, 0, rfl⟩
          · have HN : Hid (_ = true) := all_snoc s k hlt HA0.out (by omega) (by omega)
            go_wp2
            go_round
            case rel => exact ⟨k + 1, by omega, by go_num, HN.out⟩
            case measure => simp [intOf]; omega
      · have hk' : k = s.size := by omega
        have HA : Hid (areD s.data.toList = true) := areD_of_all s h0 (by rw [← hk']; exact HA0.out)
        have HAL : Hid _ := areD_all HA.out
        clear hk'
        by_cases h19 : 19 < s.size
        · go_wp2
          go_ret2
          exact ⟨by rw [HR.out, parseOf_3 HA.out HZ.out (by omega)]; rfl, 0, rfl⟩
        · by_cases hv : (val s.data.toList : Int) ≤ 9223372036854775807
          · rcases cases_plain s HA.out h19 hv with g | ⟨g, g1⟩ | ⟨g, g1, g2⟩
            all_goals
              go_wp2
              go_loopw [7, 8] (fun n i wr => ∃ k : Nat, k ≤ s.size ∧ n = .int .i64 (wrap64 (val (s.data.toList.take k))) ∧ i = .int .i64 k ∧ ∃ m, wr = w.drewN m) (fun _ i _ => s.size - (intOf i).toNat)
              case atStart => exact ⟨0, Nat.zero_le _, by rw [val_none], rfl, 0, rfl⟩
              case round =>
                obtain ⟨j, hj, rfl, rfl, hwr⟩ := hrel
                have HW : Hid (∃ m, _) := hwr
                clear hwr
                by_cases hjlt : j < s.size
                · obtain ⟨d1, d2⟩ := isD_at s j hjlt HA.out
                  have HV : Hid (_ = _) := val_take s j hjlt HA.out
                  go_wp2
                  go_quiet (first | (go_at_call 88; exact Calls.quiet_of_same (mul_any _ _ (wrap_bd _) (by omega) _)) | (go_at_call 87; exact Calls.quiet_of_same (add_any _ _ (wrap_bd _) (by omega) _)))
                  go_wp2
                  go_roundw
                  case rel => exact ⟨j + 1, by omega, by rw [vstep, HV.out], by go_num, drews HW.out _⟩
                  case measure => simp [intOf]; omega
                · 
                  go_wp2
                  go_ret2
                  exact ⟨ret_22 (by rw [HR.out, parseOf_4 HA.out HZ.out (by omega), withS, if_neg (by decide), if_pos (by omega), List.take_of_length_le (by simp; omega)]; exact wrap_in (by omega) (by omega)) (by rw [HR.out, parseOf_4 HA.out HZ.out (by omega), withS, if_neg (by decide), if_pos (by omega)]), HW.out⟩

          · obtain ⟨g, g1, g2⟩ := overs_plain s HA.out h19 hv
            go_wp2
            go_ret2
            exact ⟨by rw [HR.out, parseOf_4 HA.out HZ.out (by omega), withS, if_neg (by decide), if_neg (by omega)]; rfl, 0, rfl⟩
end Go.Proofs.YthcidcfaodjbjabDoor
namespace Go.Proofs.YthcidcfaodjbjabDoor
open Go.RowKit
set_option maxRecDepth 100000
set_option linter.unusedVariables false

theorem cases_minus (t : ByteArray) (HA : areD t.data.toList = true) (h19 : ¬ 19 < t.size) (hv : (val t.data.toList : Int) ≤ 9223372036854775808) :
    ((t.size : Int) == 19) = false ∨ ((t.size : Int) == 19) = true ∧ Op.bytesLess t.toList [57, 50, 50, 51, 51, 55, 50, 48, 51, 54, 56, 53, 52, 55, 55, 53, 56, 48, 56] = true ∨ ((t.size : Int) == 19) = true ∧ Op.bytesLess t.toList [57, 50, 50, 51, 51, 55, 50, 48, 51, 54, 56, 53, 52, 55, 55, 53, 56, 48, 56] = false ∧ (t.toList == [57, 50, 50, 51, 51, 55, 50, 48, 51, 54, 56, 53, 52, 55, 55, 53, 56, 48, 56]) = true := by
  by_cases h : t.size = 19
  · right
    have hl : t.data.toList.length = 19 := by simp [h]
    have := over_8 t.data.toList (areD_all HA) hl
    rw [show decide (9223372036854775808 < val t.data.toList) = false by simp; omega] at this
    have e : t.toList = t.data.toList := ByteArray.toList_eq t
    rw [e]
    have hs : ((t.size : Int) == 19) = true := by simp [h]
    change (!Op.bytesLess t.data.toList [57, 50, 50, 51, 51, 55, 50, 48, 51, 54, 56, 53, 52, 55, 55, 53, 56, 48, 56] && !(t.data.toList == [57, 50, 50, 51, 51, 55, 50, 48, 51, 54, 56, 53, 52, 55, 55, 53, 56, 48, 56])) = false at this
    cases h1 : Op.bytesLess t.data.toList [57, 50, 50, 51, 51, 55, 50, 48, 51, 54, 56, 53, 52, 55, 55, 53, 56, 48, 56]
    · rw [h1] at this
      right
      refine ⟨hs, rfl, ?_⟩
      simpa using this
    · left; exact ⟨hs, rfl⟩
  · left
    simp; omega
theorem overs_minus (t : ByteArray) (HA : areD t.data.toList = true) (h19 : ¬ 19 < t.size) (hv : ¬ (val t.data.toList : Int) ≤ 9223372036854775808) :
    ((t.size : Int) == 19) = true ∧ Op.bytesLess t.toList [57, 50, 50, 51, 51, 55, 50, 48, 51, 54, 56, 53, 52, 55, 55, 53, 56, 48, 56] = false ∧ (t.toList == [57, 50, 50, 51, 51, 55, 50, 48, 51, 54, 56, 53, 52, 55, 55, 53, 56, 48, 56]) = false := by
  by_cases h : t.size = 19
  · have hl : t.data.toList.length = 19 := by simp [h]
    have := over_8 t.data.toList (areD_all HA) hl
    rw [show decide (9223372036854775808 < val t.data.toList) = true by simp; omega] at this
    have e : t.toList = t.data.toList := ByteArray.toList_eq t
    rw [e]
    have hs : ((t.size : Int) == 19) = true := by simp [h]
    change (!Op.bytesLess t.data.toList [57, 50, 50, 51, 51, 55, 50, 48, 51, 54, 56, 53, 52, 55, 55, 53, 56, 48, 56] && !(t.data.toList == [57, 50, 50, 51, 51, 55, 50, 48, 51, 54, 56, 53, 52, 55, 55, 53, 56, 48, 56])) = true at this
    simp only [Bool.and_eq_true] at this
    exact ⟨hs, by simpa using this.1, by simpa using this.2⟩
  · exfalso
    have := val_small t.data.toList (areD_all HA) (by simp; omega)
    omega

set_option maxHeartbeats 4000000 in
theorem rparse_minus (s t : ByteArray) (hs : s.size ≤ 8192) (h0 : 0 < s.size) (h45 : ((s[0].toNat : Int) == 45) = true) (ht : s.extract 1 s.size = t) (hts : t.size < s.size) (ht0 : 0 < t.size) (hne : (t.toList == s.toList) = false) (hz : ((t[0].toNat : Int) == 48) = false ∨ ((t[0].toNat : Int) == 48) = true ∧ (s.toList == [48]) = true) (w : World) :
    Calls Tryd.prog 69 #[.string s] w fun e w' => e = .returned (.tuple #[.int .i64 (parseOf true (s.toList == [48]) t.data.toList).1, .int .i64 (parseOf true (s.toList == [48]) t.data.toList).2]) ∧ ∃ n, w' = w.drewN n := by
  have HZ : Hid (t.data.toList.head? ≠ some 48 ∨ (s.toList == [48]) = true) := by
    rcases hz with h | ⟨_, h⟩
    · left; rw [Ne, head_48 t ht0]; simpa using h
    · right; exact h
  have hsz : ((t.size : Int) == 0) = false := by
    have : t.size ≠ 0 := by omega
    simp only [beq_eq_false_iff_ne, ne_eq]; omega
  have hl : t.data.toList.length = t.size := by simp
  obtain ⟨R, hR⟩ : ∃ R, R = parseOf true (s.toList == [48]) t.data.toList := ⟨_, rfl⟩
  rw [← hR]
  have HR : Hid _ := hR
  clear hR
  rcases hz with hz | ⟨hz, hz'⟩
  all_goals
    go_enter Tryd.func69, Tryd.ntmps69
    go_wp2
    go_loop [5] (fun i => ∃ k : Nat, k ≤ t.size ∧ i = .int .i64 k ∧ (t.data.toList.take k).all isD = true) (fun i => t.size - (intOf i).toNat)
    case atStart => exact ⟨0, Nat.zero_le _, rfl, rfl⟩
    case round =>
      obtain ⟨k, hk, rfl, ha⟩ := hrel
      have HA0 : Hid (_ = true) := ha
      clear ha
      by_cases hlt : k < t.size
      · by_cases c1 : (t[k].toNat : Int) < 48
        · have HN : Hid (_ = false) := not_all t k hlt (Or.inl c1)
          go_wp2
          go_ret2
          exact ⟨by rw [HR.out, parseOf_1 HN.out]; rfl, 0, rfl⟩
        · by_cases c2 : (57 : Int) < t[k].toNat
          · have HN : Hid (_ = false) := not_all t k hlt (Or.inr c2)
            go_wp2
            go_ret2
            exact ⟨by rw [HR.out, parseOf_1 HN.out]; rfl, 0, rfl⟩
          · have HN : Hid (_ = true) := all_snoc t k hlt HA0.out (by omega) (by omega)
            go_wp2
            go_round
            case rel => exact ⟨k + 1, by omega, by go_num, HN.out⟩
            case measure => simp [intOf]; omega
      · have hk' : k = t.size := by omega
        have HA : Hid (areD t.data.toList = true) := areD_of_all t ht0 (by rw [← hk']; exact HA0.out)
        have HAL : Hid _ := areD_all HA.out
        clear hk'
        by_cases h19 : 19 < t.size
        · go_wp2
          go_ret2
          exact ⟨by rw [HR.out, parseOf_3 HA.out HZ.out (by omega)]; rfl, 0, rfl⟩
        · by_cases hv : (val t.data.toList : Int) ≤ 9223372036854775808
          · rcases cases_minus t HA.out h19 hv with g | ⟨g, g1⟩ | ⟨g, g1, g2⟩
            all_goals
              go_wp2
              go_loopw [7, 8] (fun n i wr => ∃ k : Nat, k ≤ t.size ∧ n = .int .i64 (wrap64 (val (t.data.toList.take k))) ∧ i = .int .i64 k ∧ ∃ m, wr = w.drewN m) (fun _ i _ => t.size - (intOf i).toNat)
              case atStart => exact ⟨0, Nat.zero_le _, by rw [val_none], rfl, 0, rfl⟩
              case round =>
                obtain ⟨j, hj, rfl, rfl, hwr⟩ := hrel
                have HW : Hid (∃ m, _) := hwr
                clear hwr
                by_cases hjlt : j < t.size
                · obtain ⟨d1, d2⟩ := isD_at t j hjlt HA.out
                  have HV : Hid (_ = _) := val_take t j hjlt HA.out
                  go_wp2
                  go_quiet (first | (go_at_call 88; exact Calls.quiet_of_same (mul_any _ _ (wrap_bd _) (by omega) _)) | (go_at_call 87; exact Calls.quiet_of_same (add_any _ _ (wrap_bd _) (by omega) _)))
                  go_wp2
                  go_roundw
                  case rel => exact ⟨j + 1, by omega, by rw [vstep, HV.out], by go_num, drews HW.out _⟩
                  case measure => simp [intOf]; omega
                · 
                  go_wp2_with fail
                  refine (neg_any _ (wrap_bd _).1 (wrap_bd _).2 _).mono ?_
                  rintro e w2 ⟨rfl, rfl⟩
                  go_wp2
                  go_ret2
                  exact ⟨ret_22 (by rw [HR.out, parseOf_4 HA.out HZ.out (by omega), withS, if_pos rfl, if_pos (by omega), List.take_of_length_le (by simp; omega), wrap_neg]; exact wrap_in (by omega) (by omega)) (by rw [HR.out, parseOf_4 HA.out HZ.out (by omega), withS, if_pos rfl, if_pos (by omega)]), HW.out⟩

          · obtain ⟨g, g1, g2⟩ := overs_minus t HA.out h19 hv
            go_wp2
            go_ret2
            exact ⟨by rw [HR.out, parseOf_4 HA.out HZ.out (by omega), withS, if_pos rfl, if_neg (by omega)]; rfl, 0, rfl⟩
end Go.Proofs.YthcidcfaodjbjabDoor
namespace Go.Proofs.YthcidcfaodjbjabDoor
open Go.ChangeShapes Go.WideShapes Go.ChangeAt Go.RowKit
set_option maxRecDepth 100000
open Go.ChangeMaps (open_string shut_string)
set_option linter.unusedVariables false      -- a walk need not use every 'w<i>' (that an integer argument fits its kind)

set_option maxHeartbeats 400000 in
theorem rparse_empty (w : World) :
    Calls Tryd.prog 69 #[.string ByteArray.empty] w fun e w' => e = .returned (.tuple #[.int .i64 0, .int .i64 10]) ∧ ∃ n, w' = w.drewN n := by
  go_enter Tryd.func69, Tryd.ntmps69
  go_wp2
  go_ret2
  exact ⟨rfl, 0, rfl⟩

set_option maxHeartbeats 400000 in
theorem rparse_nought (s : ByteArray) (hs : s.size ≤ 8192) (h0 : 0 < s.size) (h45 : ((s[0].toNat : Int) == 45) = false) (hz : ((s[0].toNat : Int) == 48) = true) (ho : (s.toList == [48]) = false) (w : World) :
    Calls Tryd.prog 69 #[.string s] w fun e w' => e = .returned (.tuple #[.int .i64 0, .int .i64 10]) ∧ ∃ n, w' = w.drewN n := by
  have hsz : ((s.size : Int) == 0) = false := by
    have : s.size ≠ 0 := by omega
    simp only [beq_eq_false_iff_ne, ne_eq]; omega
  go_enter Tryd.func69, Tryd.ntmps69
  go_wp2
  go_ret2
  exact ⟨rfl, 0, rfl⟩

set_option maxHeartbeats 400000 in
theorem rparse_mnought (s t : ByteArray) (hs : s.size ≤ 8192) (h0 : 0 < s.size) (h45 : ((s[0].toNat : Int) == 45) = true) (ht : s.extract 1 s.size = t) (hts : t.size < s.size) (ht0 : 0 < t.size) (hz : ((t[0].toNat : Int) == 48) = true) (ho : (s.toList == [48]) = false) (w : World) :
    Calls Tryd.prog 69 #[.string s] w fun e w' => e = .returned (.tuple #[.int .i64 0, .int .i64 10]) ∧ ∃ n, w' = w.drewN n := by
  have hsz : ((t.size : Int) == 0) = false := by
    have : t.size ≠ 0 := by omega
    simp only [beq_eq_false_iff_ne, ne_eq]; omega
  go_enter Tryd.func69, Tryd.ntmps69
  go_wp2
  go_ret2
  exact ⟨rfl, 0, rfl⟩

set_option maxHeartbeats 400000 in
theorem rparse_bare (s t : ByteArray) (hs : s.size ≤ 8192) (h0 : 0 < s.size) (h45 : ((s[0].toNat : Int) == 45) = true) (ht : s.extract 1 s.size = t) (hts : t.size < s.size) (ht0 : ((t.size : Int) == 0) = true) (w : World) :
    Calls Tryd.prog 69 #[.string s] w fun e w' => e = .returned (.tuple #[.int .i64 0, .int .i64 10]) ∧ ∃ n, w' = w.drewN n := by
  go_enter Tryd.func69, Tryd.ntmps69
  go_wp2
  go_ret2
  exact ⟨rfl, 0, rfl⟩

theorem rparse_any (s : ByteArray) (hs : s.size ≤ 8192) (w : World) :
    Calls Tryd.prog 69 #[.string s] w fun e w' => e = .returned (.tuple #[.int .i64 (parse s.data.toList).1, .int .i64 (parse s.data.toList).2]) ∧ ∃ n, w' = w.drewN n := by
  by_cases h0 : s.size = 0
  · obtain rfl : s = ByteArray.empty := by apply ByteArray.ext; exact Array.eq_empty_of_size_eq_zero h0
    exact rparse_empty w
  · have h0' : 0 < s.size := by omega
    have hh := head_is s h0'
    have hl : s.data.toList.length = s.size := by simp
    have hsl := ByteArray.toList_eq s
    rcases e : s.data.toList with _ | ⟨c, r⟩
    · rw [e] at hl; simp at hl; omega
    · rw [e] at hh
      have hc : c = s[0] := by simpa using hh
      rw [parse_cons]
      by_cases h45 : c = 45
      · rw [if_pos h45]
        have et : (s.extract 1 s.size).data.toList = r := by
          have : (s.extract 1 s.size).data.toList = s.data.toList.tail := by
            rw [ByteArray.data_extract, Array.toList_extract, List.extract_eq_take_drop, List.take_of_length_le (by simp), List.drop_one]
          rw [this, e]; rfl
        have hts : (s.extract 1 s.size).size < s.size := by simp; omega
        have h45' : ((s[0].toNat : Int) == 45) = true := by rw [← hc, h45]; rfl
        have ho : (s.toList == [48]) = false := by rw [hsl, e, h45]; rfl
        by_cases ht0 : (s.extract 1 s.size).size = 0
        · have er : r = [] := by
            rw [← et]
            have : (s.extract 1 s.size).data.toList.length = 0 := by simpa using ht0
            exact List.eq_nil_of_length_eq_zero this
          rw [er]
          exact rparse_bare s _ hs h0' h45' rfl hts (by simp [ht0]) w
        · by_cases hz : (((s.extract 1 s.size)[0]'(by omega)).toNat : Int) = 48
          · have hd : r.head? = some 48 := by rw [← et]; exact (head_48 _ (by omega)).2 hz
            have hp : parseOf true false r = (0, 10) := by
              by_cases hA : areD r = true
              · exact parseOf_2 hA hd
              · exact parseOf_1 (by simpa using hA)
            rw [hp]
            exact rparse_mnought s _ hs h0' h45' rfl hts (by omega) (by simp [hz]) ho w
          · have h3 := rparse_minus s _ hs h0' h45' rfl hts (by omega) (by
              rw [hsl, ByteArray.toList_eq, et, e]
              simp) (Or.inl (by simp [hz])) w
            rw [et, ho] at h3
            exact h3
      · rw [if_neg h45]
        have h45' : ((s[0].toNat : Int) == 45) = false := by
          rw [← hc]
          have : c.toNat ≠ 45 := fun e => h45 (UInt8.toNat_inj.1 e)
          simp; omega
        by_cases hz : (s[0].toNat : Int) = 48
        · by_cases ho : (s.toList == [48]) = true
          · have h3 := rparse_plain s hs h0' h45' (Or.inr ⟨by simp [hz], ho⟩) w
            rw [hsl, e] at h3
            exact h3
          · have ho' : (s.toList == [48]) = false := by simpa using ho
            have hd : (c :: r).head? = some 48 := by rw [← e]; exact (head_48 s h0').2 hz
            have hp : parseOf false (c :: r == [48]) (c :: r) = (0, 10) := by
              rw [hsl, e] at ho'
              rw [ho']
              by_cases hA : areD (c :: r) = true
              · exact parseOf_2 hA hd
              · exact parseOf_1 (by simpa using hA)
            rw [hp]
            exact rparse_nought s hs h0' h45' (by simp [hz]) ho' w
        · have h3 := rparse_plain s hs h0' h45' (Or.inl (by simp [hz])) w
          rw [hsl, e] at h3
          exact h3
end Go.Proofs.YthcidcfaodjbjabDoor
