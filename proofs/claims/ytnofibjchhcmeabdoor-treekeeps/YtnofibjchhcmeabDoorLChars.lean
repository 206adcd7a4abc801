/- What the functions on single bytes and short texts answer, in whatever world: isDigit, isLetter, isBlank, Words, isSign, the closures that look at one byte. -/
import Derived.Test.YtnofibjchhcmeabDoorRows
import Derived.Test.YtnofibjchhcmeabDoorLCutP
import Derived.WalkKit
import Derived.WalkSpells
import Derived.WalkLawsBesides
import Derived.Handy
import Derived.Lib.Bytealg
namespace Go.Proofs.YtnofibjchhcmeabDoor
open Go.RowKit
set_option linter.unusedVariables false

theorem isDigit_any (b : UInt8) (w : World) :
    Calls Tryd.prog 70 #[.int .u8 (b.toNat : Int)] w fun e w' => e = .returned (.bool (isD b)) ∧ w' = w := by
  by_cases h1 : 48 ≤ b.toNat
  · have h : isD b = decide ((b.toNat : Int) ≤ 57) := by
      by_cases h2 : b.toNat ≤ 57
      · rw [show isD b = true by simp [isD]; omega]; symm; exact decide_eq_true (by omega)
      · rw [show isD b = false by simp [isD]; omega]; symm; exact decide_eq_false (by omega)
    rw [h]
    clear h
    go_enter Tryd.func70, Tryd.ntmps70
    go_wp2
    go_ret
    exact ⟨rfl, rfl⟩
  · have h : isD b = false := by simp [isD]; omega
    rw [h]
    clear h
    go_enter Tryd.func70, Tryd.ntmps70
    go_wp2
    go_ret
    refine ⟨congrArg (fun x => Ending.returned (Value.bool x)) ?_, rfl⟩
    first | rfl | exact decide_eq_true (by omega) | exact decide_eq_false (by omega)

theorem isLetter_any (b : UInt8) (w : World) :
    Calls Tryd.prog 72 #[.int .u8 (b.toNat : Int)] w fun e w' => e = .returned (.bool (isL b)) ∧ w' = w := by
  have key : isL b = true ∨ isL b = false := by cases isL b <;> simp
  by_cases h1 : (97 : Int) ≤ b.toNat
  · by_cases h2 : (b.toNat : Int) ≤ 122
    · have h : isL b = true := by simp [isL]; omega
      rw [h]
      clear h
      go_enter Tryd.func72, Tryd.ntmps72
      go_wp2
      go_ret
      refine ⟨congrArg (fun x => Ending.returned (Value.bool x)) ?_, rfl⟩
      first | rfl | exact decide_eq_true (by omega) | exact decide_eq_false (by omega)
    · have h3 : (65 : Int) ≤ b.toNat := by omega
      have h4 : ¬ (b.toNat : Int) ≤ 90 := by omega
      have h5 : ((b.toNat : Int) == 95) = false := by simp; omega
      have h6 : decide ((b.toNat : Int) ≤ 122) = false := decide_eq_false h2
      have h7 : decide ((b.toNat : Int) ≤ 90) = false := decide_eq_false h4
      have h : isL b = false := by simp [isL]; omega
      rw [h]
      clear h
      go_enter Tryd.func72, Tryd.ntmps72
      go_wp2
      go_ret
      refine ⟨congrArg (fun x => Ending.returned (Value.bool x)) ?_, rfl⟩
      first | rfl | (simp only [h5, h6, h7]; rfl)
  · by_cases h3 : (65 : Int) ≤ b.toNat
    · by_cases h4 : (b.toNat : Int) ≤ 90
      · have h : isL b = true := by simp [isL]; omega
        rw [h]
        clear h
        go_enter Tryd.func72, Tryd.ntmps72
        go_wp2
        go_ret
        refine ⟨congrArg (fun x => Ending.returned (Value.bool x)) ?_, rfl⟩
        first | rfl | exact decide_eq_true (by omega) | exact decide_eq_false (by omega)
      · have h7 : decide ((b.toNat : Int) ≤ 90) = false := decide_eq_false h4
        have h : isL b = ((b.toNat : Int) == 95) := by
          by_cases h5 : b.toNat = 95
          · rw [h5, show isL b = true by simp [isL]; omega]; rfl
          · rw [show isL b = false by simp [isL]; omega]; symm; simp; omega
        rw [h]
        clear h
        go_enter Tryd.func72, Tryd.ntmps72
        go_wp2
        go_ret
        refine ⟨congrArg (fun x => Ending.returned (Value.bool x)) ?_, rfl⟩
        first | rfl | (simp only [h7]; rfl)
    · have h5 : ((b.toNat : Int) == 95) = false := by simp; omega
      have h : isL b = false := by simp [isL]; omega
      rw [h]
      clear h
      go_enter Tryd.func72, Tryd.ntmps72
      go_wp2
      go_ret
      refine ⟨congrArg (fun x => Ending.returned (Value.bool x)) ?_, rfl⟩
      first | rfl | exact h5

theorem isBlank_any (b : UInt8) (w : World) :
    Calls Tryd.prog 69 #[.int .u8 (b.toNat : Int)] w fun e w' => e = .returned (.bool (isB b)) ∧ w' = w := by
  have h : isB b = ((((b.toNat : Int) == 32 || (b.toNat : Int) == 10) || (b.toNat : Int) == 9) || (b.toNat : Int) == 13) := by
    unfold isB
    by_cases h1 : b.toNat = 32 ∨ b.toNat = 10 ∨ b.toNat = 9 ∨ b.toNat = 13
    · rw [decide_eq_true h1]
      rcases h1 with h | h | h | h <;> rw [h] <;> rfl
    · rw [decide_eq_false h1]
      have e : ∀ n : Nat, b.toNat ≠ n → ((b.toNat : Int) == (n : Int)) = false := by intro n hn; simp; omega
      have e1 := e 32 (by omega)
      have e2 := e 10 (by omega)
      have e3 := e 9 (by omega)
      have e4 := e 13 (by omega)
      simp only [Int.cast_ofNat_Int] at e1 e2 e3 e4
      rw [e1, e2, e3, e4]; rfl
  rw [h]
  clear h
  go_enter Tryd.func69, Tryd.ntmps69
  rcases h1 : ((b.toNat : Int) == 32) with _ | _
  · rcases h2 : ((b.toNat : Int) == 10) with _ | _
    · rcases h3 : ((b.toNat : Int) == 9) with _ | _
      · rcases h4 : ((b.toNat : Int) == 13) with _ | _
        all_goals
          go_wp2
          go_ret
          exact ⟨rfl, rfl⟩
      · go_wp2
        go_ret
        exact ⟨rfl, rfl⟩
    · go_wp2
      go_ret
      exact ⟨rfl, rfl⟩
  · go_wp2
    go_ret
    exact ⟨rfl, rfl⟩

/-- the closure in word: a letter or a digit -/
theorem word1_any (b : UInt8) (w : World) :
    Calls Tryd.prog 88 #[.int .u8 (b.toNat : Int)] w fun e w' => e = .returned (.bool (isA b)) ∧ w' = w := by
  rcases h1 : isL b with _ | _
  · have HL : Hid (isL b = false) := h1
    have h : isA b = isD b := by unfold isA; rw [h1]; rfl
    rw [h]
    clear h h1
    go_enter Tryd.func88, Tryd.ntmps88
    go_wp2_with (first | (go_at_call 72; refine (isLetter_any b _).mono ?_; rintro e w' ⟨rfl, rfl⟩; rw [HL.out]) | (go_at_call 70; refine (isDigit_any b _).mono ?_; rintro e w' ⟨rfl, rfl⟩))
    go_ret
    exact ⟨rfl, rfl⟩
  · have HL : Hid (isL b = true) := h1
    have h : isA b = true := by unfold isA; rw [h1]; rfl
    rw [h]
    clear h h1
    go_enter Tryd.func88, Tryd.ntmps88
    go_wp2_with (first | (go_at_call 72; refine (isLetter_any b _).mono ?_; rintro e w' ⟨rfl, rfl⟩; rw [HL.out]) | (go_at_call 70; refine (isDigit_any b _).mono ?_; rintro e w' ⟨rfl, rfl⟩))
    go_ret
    exact ⟨rfl, rfl⟩

theorem ba_of (s : ByteArray) (l : List UInt8) (h : s.toList = l) : s = ⟨l.toArray⟩ := by
  apply ByteArray.ext
  apply Array.toList_inj.1
  rw [← ByteArray.toList_eq, h]

set_option maxHeartbeats 1000000 in
theorem words_yes (s : ByteArray) (w : World) (h : isW s.toList = true) :
    Calls Tryd.prog 86 #[.string s] w fun e w' => e = .returned (.bool true) ∧ w' = w := by
  have hm : s.toList ∈ wordsL := List.contains_iff_mem.1 h
  unfold wordsL at hm
  simp only [List.mem_cons, List.not_mem_nil, or_false] at hm
  clear h
  rcases hm with e | e | e | e | e | e | e | e | e | e | e
  all_goals
    have e2 := ba_of _ _ e
    clear e
    subst e2
    go_enter Tryd.func86, Tryd.ntmps86
    go_wp2
    go_ret
    exact ⟨rfl, rfl⟩

theorem words_no (s : ByteArray) (w : World) (h : isW s.toList = false) :
    Calls Tryd.prog 86 #[.string s] w fun e w' => e = .returned (.bool false) ∧ w' = w := by
  have hn : ∀ l, l ∈ wordsL → (s.toList == l) = false := by
    intro l hl
    rw [beq_eq_false_iff_ne]
    intro e
    have : isW s.toList = true := by rw [e]; exact List.contains_iff_mem.2 hl
    rw [h] at this; cases this
  have t0 := hn [118, 97, 114] (by decide)
  have t1 := hn [105, 102] (by decide)
  have t2 := hn [101, 108, 115, 101] (by decide)
  have t3 := hn [119, 104, 105, 108, 101] (by decide)
  have t4 := hn [101, 109, 105, 116] (by decide)
  have t5 := hn [105, 110, 116, 111] (by decide)
  have t6 := hn [102, 97, 105, 108] (by decide)
  have t7 := hn [115, 116, 111, 112] (by decide)
  have t8 := hn [109] (by decide)
  have t9 := hn [109, 105, 110] (by decide)
  have t10 := hn [109, 97, 120] (by decide)
  clear hn h
  go_enter Tryd.func86, Tryd.ntmps86
  go_wp2
  go_ret
  exact ⟨rfl, rfl⟩

theorem words_any (s : ByteArray) (w : World) :
    Calls Tryd.prog 86 #[.string s] w fun e w' => e = .returned (.bool (isW s.toList)) ∧ w' = w := by
  rcases h : isW s.toList with _ | _
  · exact words_no s w h
  · exact words_yes s w h

/-- strings.Contains of the signs of one byte, and a text of one byte -/
theorem extern68 (s : ByteArray) (c : Int) (w : World) : (callFunc 110 #[.string s, .int .u8 c]).run Tryd.prog w = .ok (.value (.int .i64 (Lib.indexByte s.data.toList c.toNat.toUInt8))) w := by
  rw [run_callFunc_extern Tryd.func110 (by kernel_rfl) (by kernel_rfl) (by kernel_rfl) (e := Extern.BytealgIndexByte.indexByte) (by kernel_rfl), Lib.run_indexByteString]
  rfl

set_option maxRecDepth 100000 in
theorem indexByte_any (s : ByteArray) (c : Int) (w : World) :
    Calls Tryd.prog 106 #[.string s, .int .u8 c] w fun e w' => e = .returned (.int .i64 (Lib.indexByte s.data.toList c.toNat.toUInt8)) ∧ w' = w := by
  go_enter Tryd.func106, Tryd.ntmps106
  go_wp2
  rw [extern68]
  rw [Oper.upon_value]
  go_wp2
  go_ret
  exact ⟨rfl, rfl⟩

set_option maxRecDepth 100000 in
set_option maxHeartbeats 1000000 in
theorem index63_any (s t : ByteArray) (ht : t.size = 1) (hne : (t.toList == s.toList) = false) (w : World) :
    Calls Tryd.prog 105 #[.string s, .string t] w fun e w' => e = .returned (.int .i64 (Lib.indexByte s.data.toList (t[0]'(by omega)))) ∧ w' = w := by
  go_enter Tryd.func105, Tryd.ntmps105
  go_wp2_with (go_at_call 106; refine (indexByte_any _ _ _).mono ?_; rintro e w' ⟨rfl, rfl⟩)
  go_ret
  exact ⟨rfl, rfl⟩

set_option maxRecDepth 100000 in
theorem contains_any (s t : ByteArray) (ht : t.size = 1) (hne : (t.toList == s.toList) = false) (w : World) :
    Calls Tryd.prog 99 #[.string s, .string t] w fun e w' => e = .returned (.bool (decide (0 ≤ Lib.indexByte s.data.toList (t[0]'(by omega))))) ∧ w' = w := by
  have H : Hid ((t.toList == s.toList) = false) := hne
  clear hne
  have i62 : ∀ w : World, Calls Tryd.prog 102 #[.string s, .string t] w fun e w' => e = .returned (.int .i64 (Lib.indexByte s.data.toList (t[0]'(by omega)))) ∧ w' = w := by
    intro w
    go_enter Tryd.func102, Tryd.ntmps102
    go_wp2_with (go_at_call 105; refine (index63_any _ _ ht H.out _).mono ?_; rintro e w' ⟨rfl, rfl⟩)
    go_ret
    exact ⟨rfl, rfl⟩
  go_enter Tryd.func99, Tryd.ntmps99
  go_wp2_with (go_at_call 102; refine (i62 _).mono ?_; rintro e w' ⟨rfl, rfl⟩)
  go_ret
  exact ⟨rfl, rfl⟩

theorem indexByte_contains (l : List UInt8) (c : UInt8) : decide (0 ≤ Lib.indexByte l c) = l.contains c := by
  induction l with
  | nil => rfl
  | cons b l ih =>
    unfold Lib.indexByte
    rw [List.contains_cons]
    by_cases h : (b == c) = true
    · have : b = c := by simpa using h
      subst this
      simp
    · have h' : (c == b) = false := by
        have : b ≠ c := by simpa using h
        simp; exact fun e => this e.symm
      rw [if_neg h, h', Bool.false_or, ← ih]
      have hg := Lib.indexByte_ge l c
      by_cases h2 : (Lib.indexByte l c == -1) = true
      · have : Lib.indexByte l c = -1 := by simpa using h2
        rw [if_pos h2, this]
      · have : Lib.indexByte l c ≠ -1 := by simpa using h2
        rw [if_neg h2]
        apply decide_eq_decide.2
        omega

theorem isS_one (t : ByteArray) (ht : t.size = 1) : isS t.toList = signs1.contains (t[0]'(by omega)) := by
  obtain ⟨⟨l⟩⟩ := t
  rw [ByteArray.toList_eq]
  have hl : l.length = 1 := ht
  rcases l with _ | ⟨c, _ | ⟨d, r⟩⟩
  · cases hl
  · show isS [c] = signs1.contains c
    have : signs2.contains [c] = false := by
      rw [Bool.eq_false_iff]
      intro h
      have := List.contains_iff_mem.1 h
      unfold signs2 at this
      simp at this
    unfold isS
    rw [this]
    rfl
  · cases hl

set_option maxHeartbeats 1000000 in
theorem isSign_two (s : ByteArray) (w : World) (h : signs2.contains s.toList = true) :
    Calls Tryd.prog 90 #[.string s] w fun e w' => e = .returned (.bool true) ∧ w' = w := by
  have hm : s.toList ∈ signs2 := List.contains_iff_mem.1 h
  unfold signs2 at hm
  simp only [List.mem_cons, List.not_mem_nil, or_false] at hm
  clear h
  rcases hm with e | e | e | e | e | e
  all_goals
    have e2 := ba_of _ _ e
    clear e
    subst e2
    go_enter Tryd.func90, Tryd.ntmps90
    go_wp2
    go_ret
    exact ⟨rfl, rfl⟩

set_option maxHeartbeats 1000000 in
theorem isSign_any (s : ByteArray) (hs : s.size ≤ 1000) (w : World) :
    Calls Tryd.prog 90 #[.string s] w fun e w' => e = .returned (.bool (isS s.toList)) ∧ w' = w := by
  rcases h : signs2.contains s.toList with _ | _
  · have hn : ∀ l, l ∈ signs2 → (s.toList == l) = false := by
      intro l hl
      rw [beq_eq_false_iff_ne]
      intro e
      have : signs2.contains s.toList = true := by rw [e]; exact List.contains_iff_mem.2 hl
      rw [h] at this; cases this
    have t0 := hn [61, 61] (by decide)
    have t1 := hn [33, 61] (by decide)
    have t2 := hn [60, 61] (by decide)
    have t3 := hn [62, 61] (by decide)
    have t4 := hn [60, 60] (by decide)
    have t5 := hn [62, 62] (by decide)
    clear hn
    by_cases h1 : s.size = 1
    · rw [isS_one s h1, ← indexByte_contains]
      have hne : (s.toList == (⟨#[61, 60, 62, 43, 45, 42, 47, 37, 38, 124, 94, 126, 33, 40, 41, 91, 93, 123, 125, 59, 44]⟩ : ByteArray).toList) = false := by
        rw [beq_eq_false_iff_ne]
        intro e
        have := congrArg List.length e
        rw [ByteArray.toList_eq, ByteArray.toList_eq] at this
        have h2 : s.data.toList.length = s.size := by simp
        rw [h2, h1] at this
        cases this
      have HNE : Hid ((s.toList == (⟨#[61, 60, 62, 43, 45, 42, 47, 37, 38, 124, 94, 126, 33, 40, 41, 91, 93, 123, 125, 59, 44]⟩ : ByteArray).toList) = false) := hne
      clear h hne
      go_enter Tryd.func90, Tryd.ntmps90
      go_wp2_with (go_at_call 99; refine (contains_any _ s h1 HNE.out _).mono ?_; rintro e w' ⟨rfl, rfl⟩)
      go_ret
      exact ⟨rfl, rfl⟩
    · have e : isS s.toList = false := by
        unfold isS
        rw [h, Bool.false_or]
        have h2 : s.toList.length = s.size := by rw [ByteArray.toList_eq]; simp
        rcases e2 : s.toList with _ | ⟨a, _ | ⟨b, r⟩⟩
        · rfl
        · rw [e2] at h2; exact absurd h2.symm h1
        · rfl
      rw [e]
      clear h e
      have h1' : ((s.size : Int) == 1) = false := by simp; omega
      go_enter Tryd.func90, Tryd.ntmps90
      go_wp2
      go_ret
      exact ⟨rfl, rfl⟩
  · have e : isS s.toList = true := by unfold isS; rw [h]; rfl
    rw [e]
    exact isSign_two s w h
end Go.Proofs.YtnofibjchhcmeabDoor
