/- What the functions on single bytes and on labels answer, in whatever world. -/
import Derived.Test.YthcidcfaodjbjabGreatDoorRows
import Derived.WalkKit
import Derived.WalkSpells
import Derived.WalkLawsBesides
import Derived.Handy
import Derived.Lib.Bytealg
namespace Go.Proofs.YthcidcfaodjbjabGreatDoor
open Go.RowKit
set_option linter.unusedVariables false

def isS (b : UInt8) : Bool := decide (97 ≤ b.toNat ∧ b.toNat ≤ 122)
def isD (b : UInt8) : Bool := decide (48 ≤ b.toNat ∧ b.toNat ≤ 57)
def isA (b : UInt8) : Bool := isS b || isD b
def headS : List UInt8 → Bool
  | [] => false
  | b :: _ => isS b
/-- may it be a label? -/
def labB (l : List UInt8) : Bool := decide (l.length ≤ 12) && (headS l && l.all isA)

theorem isDigit_any (b : UInt8) (w : World) :
    Calls Tryz.prog 86 #[.int .u8 (b.toNat : Int)] w fun e w' => e = .returned (.bool (isD b)) ∧ w' = w := by
  by_cases h1 : 48 ≤ b.toNat
  · have h : isD b = decide ((b.toNat : Int) ≤ 57) := by
      by_cases h2 : b.toNat ≤ 57
      · rw [show isD b = true by simp [isD]; omega]; symm; exact decide_eq_true (by omega)
      · rw [show isD b = false by simp [isD]; omega]; symm; exact decide_eq_false (by omega)
    rw [h]
    clear h
    go_enter Tryz.func86, Tryz.ntmps86
    go_wp2
    go_ret
    exact ⟨rfl, rfl⟩
  · have h : isD b = false := by simp [isD]; omega
    rw [h]
    clear h
    go_enter Tryz.func86, Tryz.ntmps86
    go_wp2
    go_ret
    refine ⟨congrArg (fun x => Ending.returned (Value.bool x)) ?_, rfl⟩
    first | rfl | exact decide_eq_true (by omega) | exact decide_eq_false (by omega)
theorem isSmall_any (b : UInt8) (w : World) :
    Calls Tryz.prog 85 #[.int .u8 (b.toNat : Int)] w fun e w' => e = .returned (.bool (isS b)) ∧ w' = w := by
  by_cases h1 : 97 ≤ b.toNat
  · have h : isS b = decide ((b.toNat : Int) ≤ 122) := by
      by_cases h2 : b.toNat ≤ 122
      · rw [show isS b = true by simp [isS]; omega]; symm; exact decide_eq_true (by omega)
      · rw [show isS b = false by simp [isS]; omega]; symm; exact decide_eq_false (by omega)
    rw [h]
    clear h
    go_enter Tryz.func85, Tryz.ntmps85
    go_wp2
    go_ret
    exact ⟨rfl, rfl⟩
  · have h : isS b = false := by simp [isS]; omega
    rw [h]
    clear h
    go_enter Tryz.func85, Tryz.ntmps85
    go_wp2
    go_ret
    refine ⟨congrArg (fun x => Ending.returned (Value.bool x)) ?_, rfl⟩
    first | rfl | exact decide_eq_true (by omega) | exact decide_eq_false (by omega)

theorem take_snoc (s : ByteArray) (k : Nat) (h : k < s.size) : s.data.toList.take (k + 1) = s.data.toList.take k ++ [s[k]] := by
  rw [List.take_succ_eq_append_getElem (by simpa using h)]
  rfl
theorem all_take_snoc (s : ByteArray) (k : Nat) (h : k < s.size) (P : UInt8 → Bool) (ha : (s.data.toList.take k).all P = true) (h1 : P s[k] = true) : (s.data.toList.take (k + 1)).all P = true := by
  rw [take_snoc s k h, List.all_append, ha]
  simp [h1]
theorem all_take_not (s : ByteArray) (k : Nat) (h : k < s.size) (P : UInt8 → Bool) (h1 : P s[k] = false) : s.data.toList.all P = false := by
  have hm : s[k] ∈ s.data.toList := List.getElem_mem (l := s.data.toList) (n := k) (by simpa using h)
  rw [Bool.eq_false_iff]
  intro hall
  have := List.all_eq_true.1 hall _ hm
  rw [h1] at this; cases this
theorem headS_at (s : ByteArray) (h : 0 < s.size) : headS s.data.toList = isS s[0] := by
  have : s.data.toList = s[0] :: s.data.toList.drop 1 := List.drop_eq_getElem_cons (l := s.data.toList) (i := 0) (by simpa using h)
  rw [this]; rfl

set_option maxRecDepth 100000 in
set_option maxHeartbeats 1000000 in
theorem label_any (s : ByteArray) (hm : s.size ≤ maxLen) (w : World) :
    Calls Tryz.prog 72 #[.string s] w fun e w' => e = .returned (.bool (labB s.data.toList)) ∧ w' = w := by
  unfold maxLen at hm
  have hl : s.data.toList.length = s.size := by simp
  by_cases h0 : s.size = 0
  · obtain rfl : s = ByteArray.empty := by apply ByteArray.ext; exact Array.eq_empty_of_size_eq_zero h0
    go_enter Tryz.func72, Tryz.ntmps72
    go_wp2
    go_ret
    exact ⟨rfl, rfl⟩
  have hne : s.toList.isEmpty = false := by
    rw [ByteArray.toList_eq]
    rcases e : s.data.toList with _ | ⟨a, r⟩
    · rw [e] at hl; simp at hl; omega
    · rfl
  by_cases h12 : 12 < s.size
  · have h : labB s.data.toList = false := by
      unfold labB
      rw [hl, decide_eq_false (by omega)]; rfl
    rw [h]
    clear h
    go_enter Tryz.func72, Tryz.ntmps72
    go_wp2
    go_ret
    exact ⟨rfl, rfl⟩
  have h : labB s.data.toList = (isS s[0] && s.data.toList.all isA) := by
    unfold labB
    rw [hl, decide_eq_true (by omega), headS_at s (by omega)]; rfl
  rw [h]
  clear h
  rcases hd : isS s[0] with _ | _
  · have HD : Hid (isS s[0] = false) := hd
    show Calls Tryz.prog 72 #[.string s] w fun e w' => e = .returned (.bool false) ∧ w' = w
    clear hd
    go_enter Tryz.func72, Tryz.ntmps72
    go_wp2_with (go_at_call 85; refine (isSmall_any s[0] _).mono ?_; rintro e w' ⟨rfl, rfl⟩; rw [HD.out])
    go_ret
    exact ⟨rfl, rfl⟩
  · have HD : Hid (isS s[0] = true) := hd
    show Calls Tryz.prog 72 #[.string s] w fun e w' => e = .returned (.bool (s.data.toList.all isA)) ∧ w' = w
    obtain ⟨r, hr⟩ : ∃ r, s.data.toList.all isA = r := ⟨_, rfl⟩
    have HR : Hid (s.data.toList.all isA = r) := hr
    rw [hr]
    clear hr hd
    go_enter Tryz.func72, Tryz.ntmps72
    go_wp2_with (go_at_call 85; refine (isSmall_any s[0] _).mono ?_; rintro e w' ⟨rfl, rfl⟩; rw [HD.out])
    go_loop [19] (fun i => ∃ k : Nat, k ≤ s.size ∧ i = .int .i64 k ∧ Hid ((s.data.toList.take k).all isA = true)) (fun i => s.size - (intOf i).toNat)
    case atStart => exact ⟨0, Nat.zero_le _, rfl, rfl⟩
    case round =>
      obtain ⟨k, hk, rfl, HA⟩ := hrel
      by_cases hlt : k < s.size
      · rcases hL : isS s[k] with _ | _
        · have HL : Hid (isS s[k] = false) := hL
          rcases hD : isD s[k] with _ | _
          · have HDk : Hid (isD s[k] = false) := hD
            have HF : Hid (r = false) := by
              show _ = _
              rw [← HR.out, all_take_not s k hlt isA (by unfold isA; rw [hL, hD]; rfl)]
            clear hL hD
            go_wp2_with (first | (go_at_call 85; refine (isSmall_any s[k] _).mono ?_; rintro e w' ⟨rfl, rfl⟩; rw [HL.out]) | (go_at_call 86; refine (isDigit_any s[k] _).mono ?_; rintro e w' ⟨rfl, rfl⟩; rw [HDk.out]))
            go_ret
            exact ⟨by rw [HF.out]; rfl, rfl⟩
          · have HDk : Hid (isD s[k] = true) := hD
            have HN : Hid ((s.data.toList.take (k + 1)).all isA = true) := all_take_snoc s k hlt isA HA.out (by unfold isA; rw [hD]; simp)
            clear hL hD
            go_wp2_with (first | (go_at_call 85; refine (isSmall_any s[k] _).mono ?_; rintro e w' ⟨rfl, rfl⟩; rw [HL.out]) | (go_at_call 86; refine (isDigit_any s[k] _).mono ?_; rintro e w' ⟨rfl, rfl⟩; rw [HDk.out]))
            go_round
            case rel => exact ⟨k + 1, by omega, by go_num, HN⟩
            case measure => simp [intOf]; omega
        · have HL : Hid (isS s[k] = true) := hL
          have HN : Hid ((s.data.toList.take (k + 1)).all isA = true) := all_take_snoc s k hlt isA HA.out (by unfold isA; rw [hL]; rfl)
          clear hL
          go_wp2_with (go_at_call 85; refine (isSmall_any s[k] _).mono ?_; rintro e w' ⟨rfl, rfl⟩; rw [HL.out])
          go_round
          case rel => exact ⟨k + 1, by omega, by go_num, HN⟩
          case measure => simp [intOf]; omega
      · have HF : Hid (r = true) := by
          show _ = _
          have := HA.out
          rw [List.take_of_length_le (by simp; omega)] at this
          rw [← HR.out, this]
        go_wp2
        go_ret
        exact ⟨by rw [HF.out]; rfl, rfl⟩
end Go.Proofs.YthcidcfaodjbjabGreatDoor
