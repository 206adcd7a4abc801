/- What num.Parse, and the functions that it calls, answer, in whatever world. -/
import Derived.Test.YtnofibjchhcmeabDoorRows
import Derived.Test.YtnofibjchhcmeabDoorLCutP
import Derived.WalkKit
import Derived.WalkSpells
import Derived.WalkLawsBesides
import Derived.Handy
namespace Go.Proofs.YtnofibjchhcmeabDoor
open Go.RowKit

theorem ne_empty (s : ByteArray) (h : 0 < s.size) : s.toList.isEmpty = false := by
  have h2 : s.toList = s.data.toList := ByteArray.toList_eq s
  rw [h2]
  have h3 : s.data.toList.length = s.size := by simp
  rcases e : s.data.toList with _ | ⟨a, l⟩
  · rw [e] at h3; simp at h3; omega
  · rfl

set_option maxHeartbeats 400000 in
theorem digits_any (s : ByteArray) (hs : s.size ≤ maxLen) (w : World) :
    Calls Tryd.prog 96 #[.string s] w fun e w' => e = .returned (.bool (areD s.data.toList)) ∧ w' = w := by
  unfold maxLen at hs
  by_cases h0 : s.size = 0
  · obtain rfl : s = ByteArray.empty := by apply ByteArray.ext; exact Array.eq_empty_of_size_eq_zero h0
    go_enter Tryd.func96, Tryd.ntmps96
    go_wp2
    go_rounds 1
    go_ret
    exact ⟨rfl, rfl⟩
  have hne : s.toList.isEmpty = false := ne_empty s (by omega)
  go_enter Tryd.func96, Tryd.ntmps96
  go_wp2
  go_loop [6] (fun i => ∃ k : Nat, k ≤ s.size ∧ i = .int .i64 k ∧ (s.data.toList.take k).all isD = true) (fun i => s.size - (intOf i).toNat)
  case atStart => exact ⟨0, Nat.zero_le _, rfl, rfl⟩
  case round =>
    obtain ⟨k, hk, rfl, ha⟩ := hrel
    have HA : Hid (_ = true) := ha
    clear ha
    by_cases hlt : k < s.size
    · by_cases c1 : (s[k].toNat : Int) < 48
      · have HN : Hid (_ = false) := not_all s k hlt (Or.inl c1)
        go_wp2
        go_ret
        exact ⟨by rw [HN.out]; rfl, rfl⟩
      · by_cases c2 : (57 : Int) < s[k].toNat
        · have HN : Hid (_ = false) := not_all s k hlt (Or.inr c2)
          go_wp2
          go_ret
          exact ⟨by rw [HN.out]; rfl, rfl⟩
        · have HN : Hid (_ = true) := all_snoc s k hlt HA.out (by omega) (by omega)
          go_wp2
          go_round
          case rel => exact ⟨k + 1, by omega, by go_num, HN.out⟩
          case measure => simp [intOf]; omega
    · have hk' : k = s.size := by omega
      have HN : Hid (_ = true) := areD_of_all s (by omega) (by rw [← hk']; exact HA.out)
      clear hk'
      go_wp2
      go_ret
      exact ⟨by rw [HN.out]; exact congrArg (fun b => Ending.returned (Value.bool b)) rfl, rfl⟩

set_option maxHeartbeats 400000 in
theorem value_any (s : ByteArray) (hs : s.size ≤ 19) (ha : areD s.data.toList = true) (w : World) :
    Calls Tryd.prog 98 #[.string s] w fun e w' => e = .returned (.int .u64 (val s.data.toList)) ∧ w' = w := by
  have HA : Hid (_ = true) := ha
  clear ha
  go_enter Tryd.func98, Tryd.ntmps98
  go_wp2
  go_loop [3, 7] (fun n i => ∃ k : Nat, k ≤ s.size ∧ i = .int .i64 k ∧ n = .int .u64 (val (s.data.toList.take k))) (fun _ i => s.size - (intOf i).toNat)
  case atStart => exact ⟨0, Nat.zero_le _, rfl, rfl⟩
  case round =>
    obtain ⟨k, hk, rfl, rfl⟩ := hrel
    by_cases hlt : k < s.size
    · have hb := val_take_lt s k hlt hs HA.out
      have HV : Hid (_ = _) := val_take s k hlt HA.out
      obtain ⟨d1, d2⟩ := isD_at s k hlt HA.out
      go_wp2
      go_round
      case rel => exact ⟨k + 1, by omega, by go_num, by rw [HV.out]⟩
      case measure => simp [intOf]; omega
    · go_wp2
      go_ret
      exact ⟨by rw [List.take_of_length_le (by simp; omega)]; rfl, rfl⟩

set_option maxHeartbeats 400000 in
theorem sign_any (b : Bool) (n : Int) (h1 : 0 ≤ n) (h2 : n ≤ 18446744073709551615) (w : World) :
    Calls Tryd.prog 97 #[.bool b, .int .u64 n] w fun e w' => e = .returned (.tuple #[.int .i64 (withS b n).1, .int .i64 (withS b n).2]) ∧ w' = w := by
  rcases b with _ | _
  · by_cases h : n ≤ 9223372036854775807
    · go_enter Tryd.func97, Tryd.ntmps97
      go_wp2
      go_ret2
      exact ⟨by simp [withS, h], rfl⟩
    · go_enter Tryd.func97, Tryd.ntmps97
      go_wp2
      go_ret2
      exact ⟨by simp [withS, Int.not_le.2 h], rfl⟩
  · by_cases h : n ≤ 9223372036854775808
    · go_enter Tryd.func97, Tryd.ntmps97
      go_wp2
      go_ret2
      exact ⟨by simp [withS, h]; go_arith, rfl⟩
    · go_enter Tryd.func97, Tryd.ntmps97
      go_wp2
      go_ret2
      exact ⟨by simp [withS, Int.not_le.2 h], rfl⟩

theorem digits_is (b : Bool) (s : ByteArray) (hs : s.size ≤ maxLen) (hd : areD s.data.toList = b) (w : World) :
    Calls Tryd.prog 96 #[.string s] w fun e w' => e = .returned (.bool b) ∧ w' = w := by
  subst hd
  exact digits_any s hs w


/- the text without a sign ahead -/
set_option maxHeartbeats 1000000 in
theorem parse_plain (s : ByteArray) (hs : s.size ≤ maxLen) (h0 : 0 < s.size) (h45 : ((s[0].toNat : Int) == 45) = false) (w : World) :
    Calls Tryd.prog 87 #[.string s] w fun e w' => ∃ r, r = parseOf false (s.toList == [48]) s.data.toList ∧ e = .returned (.tuple #[.int .i64 r.1, .int .i64 r.2]) ∧ w' = w := by
  have hs' := hs
  unfold maxLen at hs
  have hne : s.toList.isEmpty = false := ne_empty s h0
  have hl : s.data.toList.length = s.size := by simp
  by_cases hd : areD s.data.toList = true
  · have hd : Hid (areD s.data.toList = true) := hd
    have h48 : Hid _ := head_48 s h0
    by_cases hz : (s[0].toNat : Int) = 48
    · by_cases ho : (s.toList == [48]) = true
      · by_cases h19 : 19 < s.size
        · go_enter Tryd.func87, Tryd.ntmps87
          go_wp2_with (go_at_call 96; refine (digits_is true s hs' hd.out _).mono ?_; rintro e w' ⟨rfl, rfl⟩)
          go_ret2
          exact ⟨_, rfl, by rw [parseOf_3 hd.out (Or.inr ho) (by omega)]; rfl, rfl⟩
        · have hv : Hid _ := val_bd s h19 hd.out
          go_enter Tryd.func87, Tryd.ntmps87
          go_wp2_with (first | (go_at_call 96; refine (digits_is true s hs' hd.out _).mono ?_; rintro e w' ⟨rfl, rfl⟩) | (go_at_call 98; refine (value_any s (by omega) hd.out _).mono ?_; rintro e w' ⟨rfl, rfl⟩) | (go_at_call 97; refine (sign_any false _ (by omega) hv.out _).mono ?_; rintro e w' ⟨rfl, rfl⟩))
          go_ret2
          exact ⟨_, rfl, by rw [parseOf_4 hd.out (Or.inr ho) (by omega)]; rfl, rfl⟩
      · have ho' : (s.toList == [48]) = false := by simpa using ho
        clear ho
        go_enter Tryd.func87, Tryd.ntmps87
        go_wp2_with (go_at_call 96; refine (digits_is true s hs' hd.out _).mono ?_; rintro e w' ⟨rfl, rfl⟩)
        go_ret2
        exact ⟨_, rfl, by rw [ho', parseOf_2 hd.out (h48.out.2 hz)]; rfl, rfl⟩
    · by_cases h19 : 19 < s.size
      · go_enter Tryd.func87, Tryd.ntmps87
        go_wp2_with (go_at_call 96; refine (digits_is true s hs' hd.out _).mono ?_; rintro e w' ⟨rfl, rfl⟩)
        go_ret2
        exact ⟨_, rfl, by rw [parseOf_3 hd.out (Or.inl (fun e => hz (h48.out.1 e))) (by omega)]; rfl, rfl⟩
      · have hv : Hid _ := val_bd s h19 hd.out
        go_enter Tryd.func87, Tryd.ntmps87
        go_wp2_with (first | (go_at_call 96; refine (digits_is true s hs' hd.out _).mono ?_; rintro e w' ⟨rfl, rfl⟩) | (go_at_call 98; refine (value_any s (by omega) hd.out _).mono ?_; rintro e w' ⟨rfl, rfl⟩) | (go_at_call 97; refine (sign_any false _ (by omega) hv.out _).mono ?_; rintro e w' ⟨rfl, rfl⟩))
        go_ret2
        exact ⟨_, rfl, by rw [parseOf_4 hd.out (Or.inl (fun e => hz (h48.out.1 e))) (by omega)]; rfl, rfl⟩
  · have hd : Hid (areD s.data.toList = false) := by show _ = false; simpa using hd
    go_enter Tryd.func87, Tryd.ntmps87
    go_wp2_with (go_at_call 96; refine (digits_is false s hs' hd.out _).mono ?_; rintro e w' ⟨rfl, rfl⟩)
    go_ret2
    exact ⟨_, rfl, by rw [parseOf_1 hd.out]; rfl, rfl⟩

/- the text with a sign ahead -/
set_option maxHeartbeats 1000000 in
theorem parse_minus (s t : ByteArray) (hs : s.size ≤ maxLen) (h0 : 0 < s.size) (h45 : ((s[0].toNat : Int) == 45) = true) (ht : s.extract 1 s.size = t) (hts : t.size + 1 = s.size) (ho' : (s.toList == [48]) = false) (w : World) :
    Calls Tryd.prog 87 #[.string s] w fun e w' => ∃ r, r = parseOf true false t.data.toList ∧ e = .returned (.tuple #[.int .i64 r.1, .int .i64 r.2]) ∧ w' = w := by
  have hs' : t.size ≤ maxLen := by omega
  unfold maxLen at hs
  have hne : s.toList.isEmpty = false := ne_empty s h0
  have hl : t.data.toList.length = t.size := by simp
  have HTS : Hid (t.size + 1 = s.size) := hts
  by_cases hd : areD t.data.toList = true
  · have ht0 : 0 < t.size := areD_size t hd
    have hd : Hid (areD t.data.toList = true) := hd
    have h48 : Hid _ := head_48 t ht0
    have hts1 : t.size < s.size := by omega
    clear hts
    by_cases hz : (t[0].toNat : Int) = 48
    · go_enter Tryd.func87, Tryd.ntmps87
      go_wp2_with (go_at_call 96; refine (digits_is true t hs' hd.out _).mono ?_; rintro e w' ⟨rfl, rfl⟩)
      go_ret2
      exact ⟨_, rfl, by rw [parseOf_2 hd.out (h48.out.2 hz)]; rfl, rfl⟩
    · by_cases h19 : 19 < t.size
      · go_enter Tryd.func87, Tryd.ntmps87
        go_wp2_with (go_at_call 96; refine (digits_is true t hs' hd.out _).mono ?_; rintro e w' ⟨rfl, rfl⟩)
        go_ret2
        exact ⟨_, rfl, by rw [parseOf_3 hd.out (Or.inl (fun e => hz (h48.out.1 e))) (by omega)]; rfl, rfl⟩
      · have hv : Hid _ := val_bd t h19 hd.out
        go_enter Tryd.func87, Tryd.ntmps87
        go_wp2_with (first | (go_at_call 96; refine (digits_is true t hs' hd.out _).mono ?_; rintro e w' ⟨rfl, rfl⟩) | (go_at_call 98; refine (value_any t (by omega) hd.out _).mono ?_; rintro e w' ⟨rfl, rfl⟩) | (go_at_call 97; refine (sign_any true _ (by omega) hv.out _).mono ?_; rintro e w' ⟨rfl, rfl⟩))
        go_ret2
        exact ⟨_, rfl, by rw [parseOf_4 hd.out (Or.inl (fun e => hz (h48.out.1 e))) (by omega)]; rfl, rfl⟩
  · have hd : Hid (areD t.data.toList = false) := by show _ = false; simpa using hd
    clear hts
    go_enter Tryd.func87, Tryd.ntmps87
    go_wp2_with (go_at_call 96; refine (digits_is false t hs' hd.out _).mono ?_; rintro e w' ⟨rfl, rfl⟩)
    go_ret2
    exact ⟨_, rfl, by rw [parseOf_1 hd.out]; rfl, rfl⟩

set_option maxHeartbeats 400000 in
theorem parse_empty (w : World) :
    Calls Tryd.prog 87 #[.string ByteArray.empty] w fun e w' => e = .returned (.tuple #[.int .i64 0, .int .i64 10]) ∧ w' = w := by
  have hd : areD ByteArray.empty.data.toList = false := by decide
  go_enter Tryd.func87, Tryd.ntmps87
  go_wp2_with (go_at_call 96; refine (digits_is false ByteArray.empty (by unfold maxLen; decide) hd _).mono ?_; rintro e w' ⟨rfl, rfl⟩)
  go_ret2
  exact ⟨rfl, rfl⟩


theorem parse_any (s : ByteArray) (hs : s.size ≤ maxLen) (w : World) :
    Calls Tryd.prog 87 #[.string s] w fun e w' => e = .returned (.tuple #[.int .i64 (parse s.data.toList).1, .int .i64 (parse s.data.toList).2]) ∧ w' = w := by
  by_cases h0 : s.size = 0
  · obtain rfl : s = ByteArray.empty := by apply ByteArray.ext; exact Array.eq_empty_of_size_eq_zero h0
    exact parse_empty w
  · have h0' : 0 < s.size := by omega
    have hh := head_is s h0'
    have hl : s.data.toList.length = s.size := by simp
    rcases e : s.data.toList with _ | ⟨c, r⟩
    · rw [e] at hl; simp at hl; omega
    · rw [e] at hh
      have hc : c = s[0] := by simpa using hh
      by_cases h45 : c = 45
      · have et : (s.extract 1 s.size).data.toList = r := by
          have : (s.extract 1 s.size).data.toList = s.data.toList.tail := by
            rw [ByteArray.data_extract, Array.toList_extract, List.extract_eq_take_drop, List.take_of_length_le (by simp), List.drop_one]
          rw [this, e]; rfl
        refine (parse_minus s (s.extract 1 s.size) hs h0' (by rw [← hc, h45]; rfl) rfl (by simp; omega) (by rw [ByteArray.toList_eq, e, h45]; rfl) w).mono ?_
        rintro e' w' ⟨r', hr, he, hw⟩
        subst hw
        refine ⟨?_, rfl⟩
        rw [he, hr, et]
        simp [parse, h45]
      · refine (parse_plain s hs h0' (by
          rw [← hc]
          have : c.toNat ≠ 45 := fun e => h45 (UInt8.toNat_inj.1 e)
          simp; omega) w).mono ?_
        rintro e' w' ⟨r', hr, he, hw⟩
        subst hw
        refine ⟨?_, rfl⟩
        rw [he, hr, ByteArray.toList_eq, e]
        simp [parse, h45]
end Go.Proofs.YtnofibjchhcmeabDoor
