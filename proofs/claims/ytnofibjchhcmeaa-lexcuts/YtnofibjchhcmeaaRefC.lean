/- The document's answers that its Cut leans on: digits, row, sign, gap. -/
import Derived.Test.YtnofibjchhcmeaaRefN
namespace Go.Proofs.Ytnofibjchhcmeaa
open Go.RowKit
set_option linter.unusedVariables false

/-- letters and digits alone, a letter ahead -/
def rowC (l : List UInt8) : Bool := !l.isEmpty && (!headD l && l.all isA)

set_option maxHeartbeats 2000000 in
theorem rrow_any (s : ByteArray) (hm : s.size ≤ maxLen) (w : World) :
    Calls Try.prog 25 #[.string s] w fun e w' => e = .returned (.bool (rowC s.data.toList)) ∧ w' = w := by
  unfold maxLen at hm
  have hl : s.data.toList.length = s.size := by simp
  by_cases h0 : s.size = 0
  · obtain rfl : s = ByteArray.empty := by apply ByteArray.ext; exact Array.eq_empty_of_size_eq_zero h0
    go_enter Try.func25, Try.ntmps25
    go_wp2
    go_rounds 1
    go_ret
    exact ⟨rfl, rfl⟩
  have hne' : s.data.toList.isEmpty = false := by
    rcases e : s.data.toList with _ | ⟨a, r⟩
    · rw [e] at hl; simp at hl; omega
    · rfl
  obtain ⟨r, hr⟩ : ∃ r, rowC s.data.toList = r := ⟨_, rfl⟩
  have hr2 : r = (!isD s[0] && s.data.toList.all isA) := by
    rw [← hr]; unfold rowC; rw [hne', head_at s (by omega)]; rfl
  have HR : Hid (r = (!isD s[0] && s.data.toList.all isA)) := hr2
  rw [hr]
  clear hr hr2 hne'
  go_enter Try.func25, Try.ntmps25
  go_wp2
  go_loop [3] (fun i => ∃ k : Nat, k ≤ s.size ∧ i = .int .i64 k ∧ Hid ((s.data.toList.take k).all isA = true) ∧ Hid (0 < k → isD s[0] = false)) (fun i => s.size - (intOf i).toNat)
  case atStart => exact ⟨0, Nat.zero_le _, rfl, rfl, fun h => absurd h (by omega)⟩
  case round =>
    obtain ⟨k, hk, rfl, HA, HH⟩ := hrel
    by_cases hlt : k < s.size
    · rcases hL : isL s[k] with _ | _
      · have HL : Hid (isL s[k] = false) := hL
        rcases hD : isD s[k] with _ | _
        · have HDk : Hid (isD s[k] = false) := hD
          have HF : Hid (r = false) := by
            show _ = _
            rw [HR.out, all_take_not s k hlt isA (by unfold isA; rw [hL, hD]; rfl)]; simp
          clear hL hD
          go_wp2_with (first | (go_at_call 24; refine (rletter_any s[k] _).mono ?_; rintro e w' ⟨rfl, rfl⟩; rw [HL.out]) | (go_at_call 33; refine (rdigit_any s[k] _).mono ?_; rintro e w' ⟨rfl, rfl⟩; rw [HDk.out]))
          go_ret
          exact ⟨by rw [HF.out]; rfl, rfl⟩
        · have HDk : Hid (isD s[k] = true) := hD
          by_cases hk0 : k = 0
          · subst hk0
            have HF : Hid (r = false) := by
              show _ = _
              rw [HR.out, hD]; rfl
            clear hL hD
            go_wp2_with (first | (go_at_call 24; refine (rletter_any s[0] _).mono ?_; rintro e w' ⟨rfl, rfl⟩; rw [HL.out]) | (go_at_call 33; refine (rdigit_any s[0] _).mono ?_; rintro e w' ⟨rfl, rfl⟩; rw [HDk.out]))
            go_ret
            exact ⟨by rw [HF.out]; rfl, rfl⟩
          · have HN : Hid ((s.data.toList.take (k + 1)).all isA = true) := all_take_snoc s k hlt isA HA.out (by unfold isA; rw [hD]; simp)
            have HH2 : Hid (0 < k + 1 → isD s[0] = false) := fun _ => HH.out (by omega)
            have hk1 : ((k : Int) == 0) = false := by simp; omega
            clear hL hD
            go_wp2_with (first | (go_at_call 24; refine (rletter_any s[k] _).mono ?_; rintro e w' ⟨rfl, rfl⟩; rw [HL.out]) | (go_at_call 33; refine (rdigit_any s[k] _).mono ?_; rintro e w' ⟨rfl, rfl⟩; rw [HDk.out]))
            go_round
            case rel => exact ⟨k + 1, by omega, by go_num, HN, HH2⟩
            case measure => simp [intOf]; omega
      · have HL : Hid (isL s[k] = true) := hL
        have HN : Hid ((s.data.toList.take (k + 1)).all isA = true) := all_take_snoc s k hlt isA HA.out (by unfold isA; rw [hL]; rfl)
        have HH2 : Hid (0 < k + 1 → isD s[0] = false) := by
          intro _
          by_cases hk0 : k = 0
          · subst hk0
            rw [Bool.eq_false_iff]
            intro hd
            simp [isL, isD] at hL hd
            omega
          · exact HH.out (by omega)
        clear hL
        go_wp2_with (first | (go_at_call 24; refine (rletter_any s[k] _).mono ?_; rintro e w' ⟨rfl, rfl⟩; rw [HL.out]))
        go_round
        case rel => exact ⟨k + 1, by omega, by go_num, HN, HH2⟩
        case measure => simp [intOf]; omega
    · have HF : Hid (r = true) := by
        show _ = _
        have := HA.out
        rw [List.take_of_length_le (by simp; omega)] at this
        rw [HR.out, this, HH.out (by omega)]; rfl
      have hpos : 0 < s.size := by omega
      go_wp2
      go_ret
      refine ⟨?_, rfl⟩
      rw [HF.out]
      first | rfl | (refine congrArg (fun x => Ending.returned (Value.bool x)) ?_; exact decide_eq_true (by omega))


set_option maxHeartbeats 1000000 in
theorem rdigits_any (s : ByteArray) (hm : s.size ≤ maxLen) (w : World) :
    Calls Try.prog 22 #[.string s] w fun e w' => e = .returned (.bool (areD s.data.toList)) ∧ w' = w := by
  unfold maxLen at hm
  by_cases h0 : s.size = 0
  · obtain rfl : s = ByteArray.empty := by apply ByteArray.ext; exact Array.eq_empty_of_size_eq_zero h0
    go_enter Try.func22, Try.ntmps22
    go_wp2
    go_rounds 1
    go_ret
    exact ⟨rfl, rfl⟩
  obtain ⟨r, hr⟩ : ∃ r, areD s.data.toList = r := ⟨_, rfl⟩
  have HR : Hid (areD s.data.toList = r) := hr
  rw [hr]
  clear hr
  go_enter Try.func22, Try.ntmps22
  go_wp2
  go_loop [3] (fun i => ∃ k : Nat, k ≤ s.size ∧ i = .int .i64 k ∧ Hid ((s.data.toList.take k).all isD = true)) (fun i => s.size - (intOf i).toNat)
  case atStart => exact ⟨0, Nat.zero_le _, rfl, rfl⟩
  case round =>
    obtain ⟨k, hk, rfl, HA⟩ := hrel
    by_cases hlt : k < s.size
    · rcases hD : isD s[k] with _ | _
      · have HDk : Hid (isD s[k] = false) := hD
        have HF : Hid (r = false) := by
          show _ = _
          rw [← HR.out]; unfold areD; rw [all_take_not s k hlt isD hD]; simp
        clear hD
        go_wp2_with (go_at_call 33; refine (rdigit_any s[k] _).mono ?_; rintro e w' ⟨rfl, rfl⟩; rw [HDk.out])
        go_ret
        exact ⟨by rw [HF.out]; rfl, rfl⟩
      · have HDk : Hid (isD s[k] = true) := hD
        have HN : Hid ((s.data.toList.take (k + 1)).all isD = true) := all_take_snoc s k hlt isD HA.out hD
        clear hD
        go_wp2_with (go_at_call 33; refine (rdigit_any s[k] _).mono ?_; rintro e w' ⟨rfl, rfl⟩; rw [HDk.out])
        go_round
        case rel => exact ⟨k + 1, by omega, by go_num, HN⟩
        case measure => simp [intOf]; omega
    · have hpos : 0 < s.size := by omega
      have HF : Hid (r = true) := by
        show _ = _
        have := HA.out
        rw [List.take_of_length_le (by simp; omega)] at this
        rw [← HR.out]; exact areD_of_all s hpos (by rw [List.take_of_length_le (by simp)]; exact this)
      go_wp2
      go_ret
      refine ⟨?_, rfl⟩
      rw [HF.out]
      first | rfl | (refine congrArg (fun x => Ending.returned (Value.bool x)) ?_; exact decide_eq_true (by omega))

set_option maxHeartbeats 2000000 in
theorem gap_any (s : ByteArray) (p : Nat) (hp : p ≤ s.size) (hs : s.size ≤ 1000000) (w : World) :
    Calls Try.prog 20 #[.string s, .int .i64 (p : Int)] w fun e w' => e = .returned (.int .i64 ((p + gapLen (s.data.toList.drop p) : Nat) : Int)) ∧ w' = w := by
  obtain ⟨n, hn⟩ : ∃ n, p + gapLen (s.data.toList.drop p) = n := ⟨_, rfl⟩
  have HN : Hid (p + ga skStep false (s.data.toList.drop p) = n) := hn
  rw [hn]
  clear hn
  go_enter Try.func20, Try.ntmps20
  go_wp2
  go_loop [1, 5] (fun i r => ∃ (q : Nat) (rm : Bool), q ≤ s.size ∧ i = .int .i64 (q : Int) ∧ r = .bool rm ∧ Hid (q + ga skStep rm (s.data.toList.drop q) = n)) (fun i _ => s.size - (intOf i).toNat)
  case atStart => exact ⟨p, false, hp, rfl, rfl, HN⟩
  case round =>
    obtain ⟨q, rm, hq, rfl, rfl, HQ⟩ := hrel
    by_cases hlt : q < s.size
    · have hdr : s.data.toList.drop q = s[q] :: s.data.toList.drop (q + 1) := List.drop_eq_getElem_cons (by simpa using hlt)
      have HQ' : Hid (q + (if (skStep rm s[q]).1 then ga skStep (skStep rm s[q]).2 (s.data.toList.drop (q + 1)) + 1 else 0) = n) := by
        have := HQ.out
        rw [hdr] at this
        exact this
      clear hdr HQ
      obtain ⟨c, hc⟩ : ∃ c : UInt8, s[q] = c := ⟨_, rfl⟩
      have HS : ∀ (r1 : Bool), (skStep rm c).1 = true → (skStep rm c).2 = r1 → Hid (q + 1 + ga skStep r1 (s.data.toList.drop (q + 1)) = n) := by
        intro r1 h1 h2
        have := HQ'.out
        rw [hc, h1, h2] at this
        show _ = _
        simp at this
        omega
      have HE : (skStep rm c).1 = false → Hid (q = n) := by
        intro h1
        have := HQ'.out
        rw [hc, h1] at this
        show _ = _
        simpa using this
      clear HQ'
      by_cases k35 : (c.toNat : Int) = 35
      · have HX := HS true (by simp [skStep]; omega) (by simp [skStep]; omega)
        clear HS HE
        go_wp2
        go_round
        case rel => exact ⟨q + 1, true, by omega, by go_num, rfl, HX⟩
        case measure => simp [intOf]; omega
      · by_cases k10 : (c.toNat : Int) = 10
        · have HX := HS false (by simp [skStep, isB]; omega) (by simp [skStep]; omega)
          clear HS HE
          go_wp2
          go_round
          case rel => exact ⟨q + 1, false, by omega, by go_num, rfl, HX⟩
          case measure => simp [intOf]; omega
        · rcases rm with _ | _
          · by_cases kb : isB c = true
            · have HX := HS false (by simp [skStep, kb]) (by simp [skStep]; omega)
              have kb' : (c.toNat : Int) = 32 ∨ (c.toNat : Int) = 9 ∨ (c.toNat : Int) = 13 := by simp [isB] at kb; omega
              clear HS HE kb
              rcases kb' with kb | kb | kb
              all_goals
                go_wp2
                go_round
                case rel => exact ⟨q + 1, false, by omega, by go_num, rfl, HX⟩
                case measure => simp [intOf]; omega
            · have HX := HE (by simp [skStep, kb]; omega)
              have m1 : ¬ (c.toNat : Int) = 32 := by simp [isB] at kb; omega
              have m2 : ¬ (c.toNat : Int) = 9 := by simp [isB] at kb; omega
              have m3 : ¬ (c.toNat : Int) = 13 := by simp [isB] at kb; omega
              have n0 : ((c.toNat : Int) != 10) = true := by simpa using k10
              have n1 : ((c.toNat : Int) != 32) = true := by simpa using m1
              have n2 : ((c.toNat : Int) != 9) = true := by simpa using m2
              have n3 : ((c.toNat : Int) != 13) = true := by simpa using m3
              clear HS HE kb
              go_wp2
              go_ret
              exact ⟨by rw [← HX.out]; rfl, rfl⟩
          · have HX := HS true (by simp [skStep]; omega) (by simp [skStep]; omega)
            clear HS HE
            go_wp2
            go_round
            case rel => exact ⟨q + 1, true, by omega, by go_num, rfl, HX⟩
            case measure => simp [intOf]; omega
    · have hq' : q = n := by
        have := HQ.out
        rw [List.drop_of_length_le (by simp; omega)] at this
        exact this
      go_wp2
      go_ret
      exact ⟨rfl, rfl⟩
end Go.Proofs.Ytnofibjchhcmeaa
