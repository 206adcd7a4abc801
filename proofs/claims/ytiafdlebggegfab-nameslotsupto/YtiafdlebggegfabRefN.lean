/- The document's answers on letters, digits, words and names (those of layer 3, over this program). -/
import Derived.Test.YtiafdlebggegfabMem
namespace Go.Proofs.Ytiafdlebggegfab
open Go.RowKit
set_option linter.unusedVariables false

def isD (c : UInt8) : Bool := decide (48 ≤ c.toNat ∧ c.toNat ≤ 57)
def isL (c : UInt8) : Bool := decide ((97 ≤ c.toNat ∧ c.toNat ≤ 122) ∨ (65 ≤ c.toNat ∧ c.toNat ≤ 90) ∨ c.toNat = 95)
def isA (c : UInt8) : Bool := isL c || isD c
def wordsL : List (List UInt8) := [[118, 97, 114], [105, 102], [101, 108, 115, 101], [119, 104, 105, 108, 101], [101, 109, 105, 116], [105, 110, 116, 111], [102, 97, 105, 108], [115, 116, 111, 112], [109], [109, 105, 110], [109, 97, 120]]
def isW (l : List UInt8) : Bool := wordsL.contains l
theorem ba_of (s : ByteArray) (l : List UInt8) (h : s.toList = l) : s = ⟨l.toArray⟩ := by
  apply ByteArray.ext
  apply Array.toList_inj.1
  rw [← ByteArray.toList_eq, h]

theorem take_snoc (s : ByteArray) (k : Nat) (h : k < s.size) : s.data.toList.take (k + 1) = s.data.toList.take k ++ [s[k]] := by
  rw [List.take_succ_eq_append_getElem (by simpa using h)]; rfl
def headD : List UInt8 → Bool
  | [] => false
  | b :: _ => isD b
def nmB (l : List UInt8) : Bool := !l.isEmpty && (decide (l.length ≤ 12) && (!headD l && (l.all isA && !isW l)))

theorem all_take_snoc (s : ByteArray) (k : Nat) (h : k < s.size) (P : UInt8 → Bool) (ha : (s.data.toList.take k).all P = true) (h1 : P s[k] = true) : (s.data.toList.take (k + 1)).all P = true := by
  rw [take_snoc s k h, List.all_append, ha]
  simp [h1]
theorem all_take_not (s : ByteArray) (k : Nat) (h : k < s.size) (P : UInt8 → Bool) (h1 : P s[k] = false) : s.data.toList.all P = false := by
  have hm : s[k] ∈ s.data.toList := List.getElem_mem (l := s.data.toList) (n := k) (by simpa using h)
  rw [Bool.eq_false_iff]
  intro hall
  have := List.all_eq_true.1 hall _ hm
  rw [h1] at this; cases this
theorem head_at (s : ByteArray) (h : 0 < s.size) : headD s.data.toList = isD s[0] := by
  have : s.data.toList = s[0] :: s.data.toList.drop 1 := List.drop_eq_getElem_cons (l := s.data.toList) (i := 0) (by simpa using h)
  rw [this]; rfl

theorem rdigit_any (b : UInt8) (w : World) :
    Calls Try.prog 32 #[.int .u8 (b.toNat : Int)] w fun e w' => e = .returned (.bool (isD b)) ∧ w' = w := by
  by_cases h1 : 48 ≤ b.toNat
  · have h : isD b = decide ((b.toNat : Int) ≤ 57) := by
      by_cases h2 : b.toNat ≤ 57
      · rw [show isD b = true by simp [isD]; omega]; symm; exact decide_eq_true (by omega)
      · rw [show isD b = false by simp [isD]; omega]; symm; exact decide_eq_false (by omega)
    rw [h]
    clear h
    go_enter Try.func32, Try.ntmps32
    go_wp2
    go_ret
    exact ⟨rfl, rfl⟩
  · have h : isD b = false := by simp [isD]; omega
    rw [h]
    clear h
    go_enter Try.func32, Try.ntmps32
    go_wp2
    go_ret
    refine ⟨congrArg (fun x => Ending.returned (Value.bool x)) ?_, rfl⟩
    first | rfl | exact decide_eq_true (by omega) | exact decide_eq_false (by omega)

theorem rletter_any (b : UInt8) (w : World) :
    Calls Try.prog 31 #[.int .u8 (b.toNat : Int)] w fun e w' => e = .returned (.bool (isL b)) ∧ w' = w := by
  have key : isL b = true ∨ isL b = false := by cases isL b <;> simp
  by_cases h1 : (97 : Int) ≤ b.toNat
  · by_cases h2 : (b.toNat : Int) ≤ 122
    · have h : isL b = true := by simp [isL]; omega
      rw [h]
      clear h
      go_enter Try.func31, Try.ntmps31
      go_wp2
      go_ret
      refine ⟨congrArg (fun x => Ending.returned (Value.bool x)) ?_, rfl⟩
      first | rfl | exact decide_eq_true (by omega) | exact decide_eq_false (by omega)
    · have h3 : (65 : Int) ≤ b.toNat := by omega
      have h4 : ¬ (b.toNat : Int) ≤ 90 := by omega
      have h5 : ((b.toNat : Int) == 95) = false := by simp; omega
      have h6 : decide ((b.toNat : Int) ≤ 122) = false := decide_eq_false h2
      have h7 : decide ((b.toNat : Int) ≤ 90) = false := decide_eq_false h4
      have h : isL b = false := by simp [isL]; omega
      rw [h]
      clear h
      go_enter Try.func31, Try.ntmps31
      go_wp2
      go_ret
      refine ⟨congrArg (fun x => Ending.returned (Value.bool x)) ?_, rfl⟩
      first | rfl | (simp only [h5, h6, h7]; rfl)
  · by_cases h3 : (65 : Int) ≤ b.toNat
    · by_cases h4 : (b.toNat : Int) ≤ 90
      · have h : isL b = true := by simp [isL]; omega
        rw [h]
        clear h
        go_enter Try.func31, Try.ntmps31
        go_wp2
        go_ret
        refine ⟨congrArg (fun x => Ending.returned (Value.bool x)) ?_, rfl⟩
        first | rfl | exact decide_eq_true (by omega) | exact decide_eq_false (by omega)
      · have h7 : decide ((b.toNat : Int) ≤ 90) = false := decide_eq_false h4
        have h : isL b = ((b.toNat : Int) == 95) := by
          by_cases h5 : b.toNat = 95
          · rw [h5, show isL b = true by simp [isL]; omega]; rfl
          · rw [show isL b = false by simp [isL]; omega]; symm; simp; omega
        rw [h]
        clear h
        go_enter Try.func31, Try.ntmps31
        go_wp2
        go_ret
        refine ⟨congrArg (fun x => Ending.returned (Value.bool x)) ?_, rfl⟩
        first | rfl | (simp only [h7]; rfl)
    · have h5 : ((b.toNat : Int) == 95) = false := by simp; omega
      have h : isL b = false := by simp [isL]; omega
      rw [h]
      clear h
      go_enter Try.func31, Try.ntmps31
      go_wp2
      go_ret
      refine ⟨congrArg (fun x => Ending.returned (Value.bool x)) ?_, rfl⟩
      first | rfl | exact h5


set_option maxHeartbeats 4000000 in
theorem rwords_yes (s : ByteArray) (w : World) (h : isW s.toList = true) :
    Calls Try.prog 26 #[.string s] w fun e w' => e = .returned (.bool true) ∧ Below w.heap.size w w' := by
  have hm : s.toList ∈ wordsL := List.contains_iff_mem.1 h
  unfold wordsL at hm
  simp only [List.mem_cons, List.not_mem_nil, or_false] at hm
  clear h
  rcases hm with e | e | e | e | e | e | e | e | e | e | e
  · have e2 := ba_of _ _ e
    clear e
    subst e2
    go_enter Try.func26, Try.ntmps26
    go_wp2
    go_rounds 3
    go_ret
    exact ⟨rfl, (Below.refl _ _).alloc (Nat.le_refl _) _⟩
  · have e2 := ba_of _ _ e
    clear e
    subst e2
    go_enter Try.func26, Try.ntmps26
    go_wp2
    go_rounds 2
    go_ret
    exact ⟨rfl, (Below.refl _ _).alloc (Nat.le_refl _) _⟩
  · have e2 := ba_of _ _ e
    clear e
    subst e2
    go_enter Try.func26, Try.ntmps26
    go_wp2
    go_rounds 6
    go_ret
    exact ⟨rfl, (Below.refl _ _).alloc (Nat.le_refl _) _⟩
  · have e2 := ba_of _ _ e
    clear e
    subst e2
    go_enter Try.func26, Try.ntmps26
    go_wp2
    go_rounds 11
    go_ret
    exact ⟨rfl, (Below.refl _ _).alloc (Nat.le_refl _) _⟩
  · have e2 := ba_of _ _ e
    clear e
    subst e2
    go_enter Try.func26, Try.ntmps26
    go_wp2
    go_rounds 7
    go_ret
    exact ⟨rfl, (Below.refl _ _).alloc (Nat.le_refl _) _⟩
  · have e2 := ba_of _ _ e
    clear e
    subst e2
    go_enter Try.func26, Try.ntmps26
    go_wp2
    go_rounds 8
    go_ret
    exact ⟨rfl, (Below.refl _ _).alloc (Nat.le_refl _) _⟩
  · have e2 := ba_of _ _ e
    clear e
    subst e2
    go_enter Try.func26, Try.ntmps26
    go_wp2
    go_rounds 9
    go_ret
    exact ⟨rfl, (Below.refl _ _).alloc (Nat.le_refl _) _⟩
  · have e2 := ba_of _ _ e
    clear e
    subst e2
    go_enter Try.func26, Try.ntmps26
    go_wp2
    go_rounds 10
    go_ret
    exact ⟨rfl, (Below.refl _ _).alloc (Nat.le_refl _) _⟩
  · have e2 := ba_of _ _ e
    clear e
    subst e2
    go_enter Try.func26, Try.ntmps26
    go_wp2
    go_rounds 1
    go_ret
    exact ⟨rfl, (Below.refl _ _).alloc (Nat.le_refl _) _⟩
  · have e2 := ba_of _ _ e
    clear e
    subst e2
    go_enter Try.func26, Try.ntmps26
    go_wp2
    go_rounds 4
    go_ret
    exact ⟨rfl, (Below.refl _ _).alloc (Nat.le_refl _) _⟩
  · have e2 := ba_of _ _ e
    clear e
    subst e2
    go_enter Try.func26, Try.ntmps26
    go_wp2
    go_rounds 5
    go_ret
    exact ⟨rfl, (Below.refl _ _).alloc (Nat.le_refl _) _⟩

set_option maxHeartbeats 4000000 in
theorem rwords_no (s : ByteArray) (w : World) (h : isW s.toList = false) :
    Calls Try.prog 26 #[.string s] w fun e w' => e = .returned (.bool false) ∧ Below w.heap.size w w' := by
  have hn : ∀ l, l ∈ wordsL → (l == s.toList) = false := by
    intro l hl
    rw [beq_eq_false_iff_ne]
    intro e
    have : isW s.toList = true := by rw [← e]; exact List.contains_iff_mem.2 hl
    rw [h] at this; cases this
  have t0 := hn [118, 97, 114] (by decide)
  have t1 := hn [105, 102] (by decide)
  have t2 := hn [101, 108, 115, 101] (by decide)
  have t3 := hn [119, 104, 105, 108, 101] (by decide)
  have t4 := hn [101, 109, 105, 116] (by decide)
  have t5 := hn [105, 110, 116, 111] (by decide)
  have t6 := hn [102, 97, 105, 108] (by decide)
  have t7 := hn [115, 116, 111, 112] (by decide)
  have t8 := hn [109] (by decide)
  have t9 := hn [109, 105, 110] (by decide)
  have t10 := hn [109, 97, 120] (by decide)
  clear hn h
  go_enter Try.func26, Try.ntmps26
  go_wp2
  go_rounds 12
  go_ret
  exact ⟨rfl, (Below.refl _ _).alloc (Nat.le_refl _) _⟩

theorem rwords_any (s : ByteArray) (w : World) :
    Calls Try.prog 26 #[.string s] w fun e w' => e = .returned (.bool (isW s.toList)) ∧ Below w.heap.size w w' := by
  rcases h : isW s.toList with _ | _
  · exact rwords_no s w h
  · exact rwords_yes s w h
/-- letters and digits alone, a letter ahead -/
def rowC (l : List UInt8) : Bool := !l.isEmpty && (!headD l && l.all isA)

set_option maxHeartbeats 2000000 in
theorem rrow_any (s : ByteArray) (hm : s.size ≤ maxLen) (w : World) :
    Calls Try.prog 25 #[.string s] w fun e w' => e = .returned (.bool (rowC s.data.toList)) ∧ w' = w := by
  unfold maxLen at hm
  have hl : s.data.toList.length = s.size := by simp
  by_cases h0 : s.size = 0
  · obtain rfl : s = ByteArray.empty := by apply ByteArray.ext; exact Array.eq_empty_of_size_eq_zero h0
    go_enter Try.func25, Try.ntmps25
    go_wp2
    go_rounds 1
    go_ret
    exact ⟨rfl, rfl⟩
  have hne' : s.data.toList.isEmpty = false := by
    rcases e : s.data.toList with _ | ⟨a, r⟩
    · rw [e] at hl; simp at hl; omega
    · rfl
  obtain ⟨r, hr⟩ : ∃ r, rowC s.data.toList = r := ⟨_, rfl⟩
  have hr2 : r = (!isD s[0] && s.data.toList.all isA) := by
    rw [← hr]; unfold rowC; rw [hne', head_at s (by omega)]; rfl
  have HR : Hid (r = (!isD s[0] && s.data.toList.all isA)) := hr2
  rw [hr]
  clear hr hr2 hne'
  go_enter Try.func25, Try.ntmps25
  go_wp2
  go_loop [3] (fun i => ∃ k : Nat, k ≤ s.size ∧ i = .int .i64 k ∧ Hid ((s.data.toList.take k).all isA = true) ∧ Hid (0 < k → isD s[0] = false)) (fun i => s.size - (intOf i).toNat)
  case atStart => exact ⟨0, Nat.zero_le _, rfl, rfl, fun h => absurd h (by omega)⟩
  case round =>
    obtain ⟨k, hk, rfl, HA, HH⟩ := hrel
    by_cases hlt : k < s.size
    · rcases hL : isL s[k] with _ | _
      · have HL : Hid (isL s[k] = false) := hL
        rcases hD : isD s[k] with _ | _
        · have HDk : Hid (isD s[k] = false) := hD
          have HF : Hid (r = false) := by
            show _ = _
            rw [HR.out, all_take_not s k hlt isA (by unfold isA; rw [hL, hD]; rfl)]; simp
          clear hL hD
          go_wp2_with (first | (go_at_call 31; refine (rletter_any s[k] _).mono ?_; rintro e w' ⟨rfl, rfl⟩; rw [HL.out]) | (go_at_call 32; refine (rdigit_any s[k] _).mono ?_; rintro e w' ⟨rfl, rfl⟩; rw [HDk.out]))
          go_ret
          exact ⟨by rw [HF.out]; rfl, rfl⟩
        · have HDk : Hid (isD s[k] = true) := hD
          by_cases hk0 : k = 0
          · subst hk0
            have HF : Hid (r = false) := by
              show _ = _
              rw [HR.out, hD]; rfl
            clear hL hD
            go_wp2_with (first | (go_at_call 31; refine (rletter_any s[0] _).mono ?_; rintro e w' ⟨rfl, rfl⟩; rw [HL.out]) | (go_at_call 32; refine (rdigit_any s[0] _).mono ?_; rintro e w' ⟨rfl, rfl⟩; rw [HDk.out]))
            go_ret
            exact ⟨by rw [HF.out]; rfl, rfl⟩
          · have HN : Hid ((s.data.toList.take (k + 1)).all isA = true) := all_take_snoc s k hlt isA HA.out (by unfold isA; rw [hD]; simp)
            have HH2 : Hid (0 < k + 1 → isD s[0] = false) := fun _ => HH.out (by omega)
            have hk1 : ((k : Int) == 0) = false := by simp; omega
            clear hL hD
            go_wp2_with (first | (go_at_call 31; refine (rletter_any s[k] _).mono ?_; rintro e w' ⟨rfl, rfl⟩; rw [HL.out]) | (go_at_call 32; refine (rdigit_any s[k] _).mono ?_; rintro e w' ⟨rfl, rfl⟩; rw [HDk.out]))
            go_round
            case rel => exact ⟨k + 1, by omega, by go_num, HN, HH2⟩
            case measure => simp [intOf]; omega
      · have HL : Hid (isL s[k] = true) := hL
        have HN : Hid ((s.data.toList.take (k + 1)).all isA = true) := all_take_snoc s k hlt isA HA.out (by unfold isA; rw [hL]; rfl)
        have HH2 : Hid (0 < k + 1 → isD s[0] = false) := by
          intro _
          by_cases hk0 : k = 0
          · subst hk0
            rw [Bool.eq_false_iff]
            intro hd
            simp [isL, isD] at hL hd
            omega
          · exact HH.out (by omega)
        clear hL
        go_wp2_with (first | (go_at_call 31; refine (rletter_any s[k] _).mono ?_; rintro e w' ⟨rfl, rfl⟩; rw [HL.out]))
        go_round
        case rel => exact ⟨k + 1, by omega, by go_num, HN, HH2⟩
        case measure => simp [intOf]; omega
    · have HF : Hid (r = true) := by
        show _ = _
        have := HA.out
        rw [List.take_of_length_le (by simp; omega)] at this
        rw [HR.out, this, HH.out (by omega)]; rfl
      have hpos : 0 < s.size := by omega
      go_wp2
      go_ret
      refine ⟨?_, rfl⟩
      rw [HF.out]
      first | rfl | (refine congrArg (fun x => Ending.returned (Value.bool x)) ?_; exact decide_eq_true (by omega))



end Go.Proofs.Ytiafdlebggegfab
