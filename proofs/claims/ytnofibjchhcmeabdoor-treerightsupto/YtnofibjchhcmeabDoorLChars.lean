/- What the functions on single bytes and short texts answer, in whatever world: isDigit, isLetter, isBlank, Words, isSign, the closures that look at one byte. -/
import Derived.WalkKit
import Derived.Test.YtnofibjchhcmeabDoorRows
import Derived.WalkSpells
import Derived.WalkLawsBesides
import Derived.Handy
import Derived.Lib.Bytealg
namespace Go.Proofs.YtnofibjchhcmeabDoor
open Go.RowKit

def isD (c : UInt8) : Bool := decide (48 ≤ c.toNat ∧ c.toNat ≤ 57)
def areD (l : List UInt8) : Bool := !l.isEmpty && l.all isD
def val (l : List UInt8) : Nat := l.foldl (fun n c => n * 10 + (c.toNat - 48)) 0

theorem take_snoc (s : ByteArray) (k : Nat) (h : k < s.size) : s.data.toList.take (k + 1) = s.data.toList.take k ++ [s[k]] := by
  rw [List.take_succ_eq_append_getElem (by simpa using h)]; rfl

theorem all_snoc (s : ByteArray) (k : Nat) (h : k < s.size) (ha : (s.data.toList.take k).all isD = true) (h1 : (48 : Int) ≤ s[k].toNat) (h2 : (s[k].toNat : Int) ≤ 57) :
    (s.data.toList.take (k + 1)).all isD = true := by
  rw [take_snoc s k h, List.all_append, ha]
  simp [isD]
  omega

theorem not_all (s : ByteArray) (k : Nat) (h : k < s.size) (h1 : (s[k].toNat : Int) < 48 ∨ (57 : Int) < s[k].toNat) : areD s.data.toList = false := by
  unfold areD
  have hm : s[k] ∈ s.data.toList := by
    have := List.getElem_mem (l := s.data.toList) (n := k) (by simpa using h)
    exact this
  have : s.data.toList.all isD = false := by
    rw [Bool.eq_false_iff]
    intro hall
    have := List.all_eq_true.1 hall _ hm
    simp [isD] at this
    omega
  rw [this]; simp

theorem areD_size (s : ByteArray) (h : areD s.data.toList = true) : 0 < s.size := by
  unfold areD at h
  simp at h
  rcases Nat.eq_zero_or_pos s.size with h0 | h0
  · exact absurd (Array.eq_empty_of_size_eq_zero h0) h.1
  · exact h0

theorem areD_of_all (s : ByteArray) (h : 0 < s.size) (ha : (s.data.toList.take s.size).all isD = true) : areD s.data.toList = true := by
  rw [List.take_of_length_le (by simp)] at ha
  unfold areD
  rw [ha]
  simp
  intro e
  have h1 : s.data.size = 0 := by rw [e]; rfl
  have h2 : 0 < s.data.size := h
  omega

theorem isD_at (s : ByteArray) (k : Nat) (h : k < s.size) (ha : areD s.data.toList = true) : (48 : Int) ≤ s[k].toNat ∧ (s[k].toNat : Int) ≤ 57 := by
  have hm : s[k] ∈ s.data.toList := by
    have := List.getElem_mem (l := s.data.toList) (n := k) (by simpa using h)
    exact this
  unfold areD at ha
  simp only [Bool.and_eq_true] at ha
  have := List.all_eq_true.1 ha.2 _ hm
  simp [isD] at this
  omega

theorem val_snoc (l : List UInt8) (c : UInt8) : val (l ++ [c]) = val l * 10 + (c.toNat - 48) := by
  unfold val
  rw [List.foldl_append]
  rfl

theorem val_lt (l : List UInt8) (h : l.all isD = true) : val l < 10 ^ l.length := by
  have : ∀ (r : List UInt8), r.reverse.all isD = true → val r.reverse < 10 ^ r.length := by
    intro r
    induction r with
    | nil => intro _; simp [val]
    | cons c r ih =>
      intro ha
      simp only [List.reverse_cons, List.all_append, Bool.and_eq_true] at ha
      have h1 := ih ha.1
      have h2 : isD c = true := by simpa using ha.2
      simp [isD] at h2
      rw [List.reverse_cons, val_snoc, List.length_cons, Nat.pow_succ]
      omega
  have := this l.reverse (by simpa using h)
  simpa using this

theorem val_take_lt (s : ByteArray) (k : Nat) (hk : k < s.size) (hs : s.size ≤ 19) (ha : areD s.data.toList = true) : val (s.data.toList.take k) < 1000000000000000000 := by
  have h1 : (s.data.toList.take k).all isD = true := by
    unfold areD at ha
    simp only [Bool.and_eq_true] at ha
    rw [List.all_eq_true] at ha ⊢
    intro x hx
    exact ha.2 x (List.mem_of_mem_take hx)
  have h2 := val_lt _ h1
  have h3 : (s.data.toList.take k).length ≤ 18 := by
    have := List.length_take_le k s.data.toList
    omega
  have h4 : 10 ^ (s.data.toList.take k).length ≤ 10 ^ 18 := Nat.pow_le_pow_right (by omega) h3
  omega

theorem val_take (s : ByteArray) (k : Nat) (hk : k < s.size) (ha : areD s.data.toList = true) :
    (val (s.data.toList.take (k + 1)) : Int) = (val (s.data.toList.take k) : Int) * 10 + ((s[k].toNat : Int) - 48) := by
  rw [take_snoc s k hk, val_snoc]
  have := isD_at s k hk ha
  omega

/-- what num.Parse answers: the number, and the error's number -/
def withS (b : Bool) (n : Int) : Int × Int :=
  if b then (if n ≤ 9223372036854775808 then (-n, 0) else (0, 11)) else (if n ≤ 9223372036854775807 then (n, 0) else (0, 11))
def parseOf (b : Bool) (one : Bool) (d : List UInt8) : Int × Int :=
  if areD d = false then (0, 10)
  else if d.head? = some 48 ∧ one = false then (0, 10)
  else if 19 < d.length then (0, 11)
  else withS b (val d)

theorem parseOf_1 {b one : Bool} {d : List UInt8} (h : areD d = false) : parseOf b one d = (0, 10) := by unfold parseOf; rw [if_pos h]
theorem parseOf_2 {b : Bool} {d : List UInt8} (h : areD d = true) (h2 : d.head? = some 48) : parseOf b false d = (0, 10) := by
  unfold parseOf; rw [if_neg (by rw [h]; decide), if_pos ⟨h2, rfl⟩]
theorem parseOf_3 {b one : Bool} {d : List UInt8} (h : areD d = true) (h2 : d.head? ≠ some 48 ∨ one = true) (h3 : 19 < d.length) : parseOf b one d = (0, 11) := by
  unfold parseOf; rw [if_neg (by rw [h]; decide), if_neg (by rintro ⟨a, c⟩; rcases h2 with h2 | h2 <;> simp_all), if_pos h3]
theorem parseOf_4 {b one : Bool} {d : List UInt8} (h : areD d = true) (h2 : d.head? ≠ some 48 ∨ one = true) (h3 : ¬ 19 < d.length) : parseOf b one d = withS b (val d) := by
  unfold parseOf; rw [if_neg (by rw [h]; decide), if_neg (by rintro ⟨a, c⟩; rcases h2 with h2 | h2 <;> simp_all), if_neg h3]

theorem head_is (s : ByteArray) (h : 0 < s.size) : s.data.toList.head? = some s[0] := by
  have h1 : s.data.toList.head? = s.data.toList[0]? := by cases s.data.toList <;> rfl
  rw [h1, List.getElem?_eq_getElem (by simpa using h)]
  rfl
theorem head_48 (s : ByteArray) (h : 0 < s.size) : s.data.toList.head? = some 48 ↔ ((s[0].toNat : Int) = 48) := by
  rw [head_is s h]
  constructor
  · intro e; have : s[0] = 48 := by simpa using e
    rw [this]; rfl
  · intro e
    have : s[0] = 48 := by apply UInt8.toNat_inj.1; show s[0].toNat = 48; omega
    rw [this]
theorem val_bd (s : ByteArray) (hs : ¬ 19 < s.size) (ha : areD s.data.toList = true) : (val s.data.toList : Int) ≤ 18446744073709551615 := by
  have h1 : s.data.toList.all isD = true := by
    unfold areD at ha
    simp only [Bool.and_eq_true] at ha
    exact ha.2
  have h2 := val_lt _ h1
  have h3 : s.data.toList.length ≤ 19 := by simp; omega
  have h4 : 10 ^ s.data.toList.length ≤ 10 ^ 19 := Nat.pow_le_pow_right (by omega) h3
  omega
end Go.Proofs.YtnofibjchhcmeabDoor
namespace Go.Proofs.YtnofibjchhcmeabDoor
open Go.RowKit

def isL (c : UInt8) : Bool := decide ((97 ≤ c.toNat ∧ c.toNat ≤ 122) ∨ (65 ≤ c.toNat ∧ c.toNat ≤ 90) ∨ c.toNat = 95)
def isB (c : UInt8) : Bool := decide (c.toNat = 32 ∨ c.toNat = 10 ∨ c.toNat = 9 ∨ c.toNat = 13)
def isA (c : UInt8) : Bool := isL c || isD c

/-- how many bytes are gathered, with a state that each byte turns -/
def ga {σ : Type} (step : σ → UInt8 → Bool × σ) : σ → List UInt8 → Nat
  | _, [] => 0
  | st, b :: R => if (step st b).1 then ga step (step st b).2 R + 1 else 0

def dgStep : Unit → UInt8 → Bool × Unit := fun _ b => (isD b, ())
def alStep : Unit → UInt8 → Bool × Unit := fun _ b => (isA b, ())
def skStep : Bool → UInt8 → Bool × Bool := fun r b => (((b.toNat == 35) || (r && (b.toNat != 10))) || isB b, (b.toNat == 35) || (r && (b.toNat != 10)))
def signs1 : List UInt8 := [61, 60, 62, 43, 45, 42, 47, 37, 38, 124, 94, 126, 33, 40, 41, 91, 93, 123, 125, 59, 44]
def signs2 : List (List UInt8) := [[61, 61], [33, 61], [60, 61], [62, 61], [60, 60], [62, 62]]
def isS (l : List UInt8) : Bool := signs2.contains l || (match l with | [c] => signs1.contains c | _ => false)
def sgStep : List UInt8 → UInt8 → Bool × List UInt8 := fun row b => (isS (row ++ [b]), row ++ [b])
def wordsL : List (List UInt8) := [[118, 97, 114], [105, 102], [101, 108, 115, 101], [119, 104, 105, 108, 101], [101, 109, 105, 116], [105, 110, 116, 111], [102, 97, 105, 108], [115, 116, 111, 112], [109], [109, 105, 110], [109, 97, 120]]
def isW (l : List UInt8) : Bool := wordsL.contains l

/-- what num.Parse answers of any text -/
def parse : List UInt8 → Int × Int
  | [] => (0, 10)
  | c :: r => if c = 45 then parseOf true false r else parseOf false (c :: r == [48]) (c :: r)

structure Tok where
  kind : Int
  text : List UInt8
  num : Int
  pos : Nat

/-- the token at the head of what is left: its kind, its number, how many bytes; or the fault, so many bytes on -/
abbrev One := Sum (Int × Int × Nat) (Nat × Int)
abbrev One.tok (kind num : Int) (n : Nat) : One := .inl (kind, num, n)
abbrev One.bad (o : Nat) (e : Int) : One := .inr (o, e)

def headL : List UInt8 → Bool
  | [] => false
  | b :: _ => isL b
def numTok (R : List UInt8) : One :=
  let n := ga dgStep () R
  if (parse (R.take n)).2 ≠ 0 then .bad 0 33 else if headL (R.drop n) = true then .bad n 31 else .tok 1 (parse (R.take n)).1 n
def wordTok (R : List UInt8) : One :=
  let n := ga alStep () R
  if isW (R.take n) = true then .tok 3 0 n else if 12 < n then .bad 0 32 else .tok 2 0 n
def signTok (R : List UInt8) : One :=
  let n := ga sgStep [] R
  if n = 0 then .bad 0 31 else .tok 4 0 n
def tokOf : List UInt8 → One
  | [] => .bad 0 0
  | b :: T => if isD b = true then numTok (b :: T) else if isL b = true then wordTok (b :: T) else signTok (b :: T)

abbrev CutR := Sum (List Tok) (Nat × Int)
abbrev CutR.ok (l : List Tok) : CutR := .inl l
abbrev CutR.err (k : Nat) (e : Int) : CutR := .inr (k, e)
def CutR.cons (t : Tok) : CutR → CutR
  | .inl l => .ok (t :: l)
  | .inr (k, e) => .err k e
def CutR.pre (a : List Tok) : CutR → CutR
  | .inl l => .ok (a ++ l)
  | .inr (k, e) => .err k e
def gapLen (R : List UInt8) : Nat := ga skStep false R

def cutG : Nat → Nat → List UInt8 → CutR
  | 0, _, _ => .err 0 0
  | _ + 1, p, [] => .ok [⟨0, [], 0, p⟩]
  | f + 1, p, b :: T => match tokOf (b :: T) with
    | .inr (o, e) => .err (p + o) e
    | .inl (k, m, n) => (cutG f (p + n + gapLen ((b :: T).drop n)) (((b :: T).drop n).drop (gapLen ((b :: T).drop n)))).cons ⟨k, (b :: T).take n, m, p⟩
def cut (L : List UInt8) : CutR :=
  if 8192 < L.length then .err 0 30 else cutG (L.length + 1) (gapLen L) (L.drop (gapLen L))


theorem ga_le {σ : Type} (step : σ → UInt8 → Bool × σ) (st : σ) (R : List UInt8) : ga step st R ≤ R.length := by
  induction R generalizing st with
  | nil => simp [ga]
  | cons b R ih =>
    unfold ga
    split
    · have := ih (step st b).2; simp; omega
    · simp
theorem pre_cons (a : List Tok) (t : Tok) (r : CutR) : (r.cons t).pre a = r.pre (a ++ [t]) := by
  cases r <;> simp [CutR.cons, CutR.pre]
end Go.Proofs.YtnofibjchhcmeabDoor
namespace Go.Proofs.YtnofibjchhcmeabDoor
open Go.RowKit
set_option linter.unusedVariables false

theorem isDigit_any (b : UInt8) (w : World) :
    Calls Tryd.prog 70 #[.int .u8 (b.toNat : Int)] w fun e w' => e = .returned (.bool (isD b)) ∧ w' = w := by
  by_cases h1 : 48 ≤ b.toNat
  · have h : isD b = decide ((b.toNat : Int) ≤ 57) := by
      by_cases h2 : b.toNat ≤ 57
      · rw [show isD b = true by simp [isD]; omega]; symm; exact decide_eq_true (by omega)
      · rw [show isD b = false by simp [isD]; omega]; symm; exact decide_eq_false (by omega)
    rw [h]
    clear h
    go_enter Tryd.func70, Tryd.ntmps70
    go_wp2
    go_ret
    exact ⟨rfl, rfl⟩
  · have h : isD b = false := by simp [isD]; omega
    rw [h]
    clear h
    go_enter Tryd.func70, Tryd.ntmps70
    go_wp2
    go_ret
    refine ⟨congrArg (fun x => Ending.returned (Value.bool x)) ?_, rfl⟩
    first | rfl | exact decide_eq_true (by omega) | exact decide_eq_false (by omega)

theorem isLetter_any (b : UInt8) (w : World) :
    Calls Tryd.prog 72 #[.int .u8 (b.toNat : Int)] w fun e w' => e = .returned (.bool (isL b)) ∧ w' = w := by
  have key : isL b = true ∨ isL b = false := by cases isL b <;> simp
  by_cases h1 : (97 : Int) ≤ b.toNat
  · by_cases h2 : (b.toNat : Int) ≤ 122
    · have h : isL b = true := by simp [isL]; omega
      rw [h]
      clear h
      go_enter Tryd.func72, Tryd.ntmps72
      go_wp2
      go_ret
      refine ⟨congrArg (fun x => Ending.returned (Value.bool x)) ?_, rfl⟩
      first | rfl | exact decide_eq_true (by omega) | exact decide_eq_false (by omega)
    · have h3 : (65 : Int) ≤ b.toNat := by omega
      have h4 : ¬ (b.toNat : Int) ≤ 90 := by omega
      have h5 : ((b.toNat : Int) == 95) = false := by simp; omega
      have h6 : decide ((b.toNat : Int) ≤ 122) = false := decide_eq_false h2
      have h7 : decide ((b.toNat : Int) ≤ 90) = false := decide_eq_false h4
      have h : isL b = false := by simp [isL]; omega
      rw [h]
      clear h
      go_enter Tryd.func72, Tryd.ntmps72
      go_wp2
      go_ret
      refine ⟨congrArg (fun x => Ending.returned (Value.bool x)) ?_, rfl⟩
      first | rfl | (simp only [h5, h6, h7]; rfl)
  · by_cases h3 : (65 : Int) ≤ b.toNat
    · by_cases h4 : (b.toNat : Int) ≤ 90
      · have h : isL b = true := by simp [isL]; omega
        rw [h]
        clear h
        go_enter Tryd.func72, Tryd.ntmps72
        go_wp2
        go_ret
        refine ⟨congrArg (fun x => Ending.returned (Value.bool x)) ?_, rfl⟩
        first | rfl | exact decide_eq_true (by omega) | exact decide_eq_false (by omega)
      · have h7 : decide ((b.toNat : Int) ≤ 90) = false := decide_eq_false h4
        have h : isL b = ((b.toNat : Int) == 95) := by
          by_cases h5 : b.toNat = 95
          · rw [h5, show isL b = true by simp [isL]; omega]; rfl
          · rw [show isL b = false by simp [isL]; omega]; symm; simp; omega
        rw [h]
        clear h
        go_enter Tryd.func72, Tryd.ntmps72
        go_wp2
        go_ret
        refine ⟨congrArg (fun x => Ending.returned (Value.bool x)) ?_, rfl⟩
        first | rfl | (simp only [h7]; rfl)
    · have h5 : ((b.toNat : Int) == 95) = false := by simp; omega
      have h : isL b = false := by simp [isL]; omega
      rw [h]
      clear h
      go_enter Tryd.func72, Tryd.ntmps72
      go_wp2
      go_ret
      refine ⟨congrArg (fun x => Ending.returned (Value.bool x)) ?_, rfl⟩
      first | rfl | exact h5

theorem isBlank_any (b : UInt8) (w : World) :
    Calls Tryd.prog 69 #[.int .u8 (b.toNat : Int)] w fun e w' => e = .returned (.bool (isB b)) ∧ w' = w := by
  have h : isB b = ((((b.toNat : Int) == 32 || (b.toNat : Int) == 10) || (b.toNat : Int) == 9) || (b.toNat : Int) == 13) := by
    unfold isB
    by_cases h1 : b.toNat = 32 ∨ b.toNat = 10 ∨ b.toNat = 9 ∨ b.toNat = 13
    · rw [decide_eq_true h1]
      rcases h1 with h | h | h | h <;> rw [h] <;> rfl
    · rw [decide_eq_false h1]
      have e : ∀ n : Nat, b.toNat ≠ n → ((b.toNat : Int) == (n : Int)) = false := by intro n hn; simp; omega
      have e1 := e 32 (by omega)
      have e2 := e 10 (by omega)
      have e3 := e 9 (by omega)
      have e4 := e 13 (by omega)
      simp only [Int.cast_ofNat_Int] at e1 e2 e3 e4
      rw [e1, e2, e3, e4]; rfl
  rw [h]
  clear h
  go_enter Tryd.func69, Tryd.ntmps69
  rcases h1 : ((b.toNat : Int) == 32) with _ | _
  · rcases h2 : ((b.toNat : Int) == 10) with _ | _
    · rcases h3 : ((b.toNat : Int) == 9) with _ | _
      · rcases h4 : ((b.toNat : Int) == 13) with _ | _
        all_goals
          go_wp2
          go_ret
          exact ⟨rfl, rfl⟩
      · go_wp2
        go_ret
        exact ⟨rfl, rfl⟩
    · go_wp2
      go_ret
      exact ⟨rfl, rfl⟩
  · go_wp2
    go_ret
    exact ⟨rfl, rfl⟩

/-- the closure in word: a letter or a digit -/
theorem word1_any (b : UInt8) (w : World) :
    Calls Tryd.prog 88 #[.int .u8 (b.toNat : Int)] w fun e w' => e = .returned (.bool (isA b)) ∧ w' = w := by
  rcases h1 : isL b with _ | _
  · have HL : Hid (isL b = false) := h1
    have h : isA b = isD b := by unfold isA; rw [h1]; rfl
    rw [h]
    clear h h1
    go_enter Tryd.func88, Tryd.ntmps88
    go_wp2_with (first | (go_at_call 72; refine (isLetter_any b _).mono ?_; rintro e w' ⟨rfl, rfl⟩; rw [HL.out]) | (go_at_call 70; refine (isDigit_any b _).mono ?_; rintro e w' ⟨rfl, rfl⟩))
    go_ret
    exact ⟨rfl, rfl⟩
  · have HL : Hid (isL b = true) := h1
    have h : isA b = true := by unfold isA; rw [h1]; rfl
    rw [h]
    clear h h1
    go_enter Tryd.func88, Tryd.ntmps88
    go_wp2_with (first | (go_at_call 72; refine (isLetter_any b _).mono ?_; rintro e w' ⟨rfl, rfl⟩; rw [HL.out]) | (go_at_call 70; refine (isDigit_any b _).mono ?_; rintro e w' ⟨rfl, rfl⟩))
    go_ret
    exact ⟨rfl, rfl⟩

theorem ba_of (s : ByteArray) (l : List UInt8) (h : s.toList = l) : s = ⟨l.toArray⟩ := by
  apply ByteArray.ext
  apply Array.toList_inj.1
  rw [← ByteArray.toList_eq, h]

set_option maxHeartbeats 1000000 in
theorem words_yes (s : ByteArray) (w : World) (h : isW s.toList = true) :
    Calls Tryd.prog 86 #[.string s] w fun e w' => e = .returned (.bool true) ∧ w' = w := by
  have hm : s.toList ∈ wordsL := List.contains_iff_mem.1 h
  unfold wordsL at hm
  simp only [List.mem_cons, List.not_mem_nil, or_false] at hm
  clear h
  rcases hm with e | e | e | e | e | e | e | e | e | e | e
  all_goals
    have e2 := ba_of _ _ e
    clear e
    subst e2
    go_enter Tryd.func86, Tryd.ntmps86
    go_wp2
    go_ret
    exact ⟨rfl, rfl⟩

theorem words_no (s : ByteArray) (w : World) (h : isW s.toList = false) :
    Calls Tryd.prog 86 #[.string s] w fun e w' => e = .returned (.bool false) ∧ w' = w := by
  have hn : ∀ l, l ∈ wordsL → (s.toList == l) = false := by
    intro l hl
    rw [beq_eq_false_iff_ne]
    intro e
    have : isW s.toList = true := by rw [e]; exact List.contains_iff_mem.2 hl
    rw [h] at this; cases this
  have t0 := hn [118, 97, 114] (by decide)
  have t1 := hn [105, 102] (by decide)
  have t2 := hn [101, 108, 115, 101] (by decide)
  have t3 := hn [119, 104, 105, 108, 101] (by decide)
  have t4 := hn [101, 109, 105, 116] (by decide)
  have t5 := hn [105, 110, 116, 111] (by decide)
  have t6 := hn [102, 97, 105, 108] (by decide)
  have t7 := hn [115, 116, 111, 112] (by decide)
  have t8 := hn [109] (by decide)
  have t9 := hn [109, 105, 110] (by decide)
  have t10 := hn [109, 97, 120] (by decide)
  clear hn h
  go_enter Tryd.func86, Tryd.ntmps86
  go_wp2
  go_ret
  exact ⟨rfl, rfl⟩

theorem words_any (s : ByteArray) (w : World) :
    Calls Tryd.prog 86 #[.string s] w fun e w' => e = .returned (.bool (isW s.toList)) ∧ w' = w := by
  rcases h : isW s.toList with _ | _
  · exact words_no s w h
  · exact words_yes s w h

/-- strings.Contains of the signs of one byte, and a text of one byte -/
theorem extern68 (s : ByteArray) (c : Int) (w : World) : (callFunc 110 #[.string s, .int .u8 c]).run Tryd.prog w = .ok (.value (.int .i64 (Lib.indexByte s.data.toList c.toNat.toUInt8))) w := by
  rw [run_callFunc_extern Tryd.func110 (by kernel_rfl) (by kernel_rfl) (by kernel_rfl) (e := Extern.BytealgIndexByte.indexByte) (by kernel_rfl), Lib.run_indexByteString]
  rfl

set_option maxRecDepth 100000 in
theorem indexByte_any (s : ByteArray) (c : Int) (w : World) :
    Calls Tryd.prog 106 #[.string s, .int .u8 c] w fun e w' => e = .returned (.int .i64 (Lib.indexByte s.data.toList c.toNat.toUInt8)) ∧ w' = w := by
  go_enter Tryd.func106, Tryd.ntmps106
  go_wp2
  rw [extern68]
  rw [Oper.upon_value]
  go_wp2
  go_ret
  exact ⟨rfl, rfl⟩

set_option maxRecDepth 100000 in
set_option maxHeartbeats 1000000 in
theorem index63_any (s t : ByteArray) (ht : t.size = 1) (hne : (t.toList == s.toList) = false) (w : World) :
    Calls Tryd.prog 105 #[.string s, .string t] w fun e w' => e = .returned (.int .i64 (Lib.indexByte s.data.toList (t[0]'(by omega)))) ∧ w' = w := by
  go_enter Tryd.func105, Tryd.ntmps105
  go_wp2_with (go_at_call 106; refine (indexByte_any _ _ _).mono ?_; rintro e w' ⟨rfl, rfl⟩)
  go_ret
  exact ⟨rfl, rfl⟩

set_option maxRecDepth 100000 in
theorem contains_any (s t : ByteArray) (ht : t.size = 1) (hne : (t.toList == s.toList) = false) (w : World) :
    Calls Tryd.prog 99 #[.string s, .string t] w fun e w' => e = .returned (.bool (decide (0 ≤ Lib.indexByte s.data.toList (t[0]'(by omega))))) ∧ w' = w := by
  have H : Hid ((t.toList == s.toList) = false) := hne
  clear hne
  have i62 : ∀ w : World, Calls Tryd.prog 102 #[.string s, .string t] w fun e w' => e = .returned (.int .i64 (Lib.indexByte s.data.toList (t[0]'(by omega)))) ∧ w' = w := by
    intro w
    go_enter Tryd.func102, Tryd.ntmps102
    go_wp2_with (go_at_call 105; refine (index63_any _ _ ht H.out _).mono ?_; rintro e w' ⟨rfl, rfl⟩)
    go_ret
    exact ⟨rfl, rfl⟩
  go_enter Tryd.func99, Tryd.ntmps99
  go_wp2_with (go_at_call 102; refine (i62 _).mono ?_; rintro e w' ⟨rfl, rfl⟩)
  go_ret
  exact ⟨rfl, rfl⟩

theorem indexByte_contains (l : List UInt8) (c : UInt8) : decide (0 ≤ Lib.indexByte l c) = l.contains c := by
  induction l with
  | nil => rfl
  | cons b l ih =>
    unfold Lib.indexByte
    rw [List.contains_cons]
    by_cases h : (b == c) = true
    · have : b = c := by simpa using h
      subst this
      simp
    · have h' : (c == b) = false := by
        have : b ≠ c := by simpa using h
        simp; exact fun e => this e.symm
      rw [if_neg h, h', Bool.false_or, ← ih]
      have hg := Lib.indexByte_ge l c
      by_cases h2 : (Lib.indexByte l c == -1) = true
      · have : Lib.indexByte l c = -1 := by simpa using h2
        rw [if_pos h2, this]
      · have : Lib.indexByte l c ≠ -1 := by simpa using h2
        rw [if_neg h2]
        apply decide_eq_decide.2
        omega

theorem isS_one (t : ByteArray) (ht : t.size = 1) : isS t.toList = signs1.contains (t[0]'(by omega)) := by
  obtain ⟨⟨l⟩⟩ := t
  rw [ByteArray.toList_eq]
  have hl : l.length = 1 := ht
  rcases l with _ | ⟨c, _ | ⟨d, r⟩⟩
  · cases hl
  · show isS [c] = signs1.contains c
    have : signs2.contains [c] = false := by
      rw [Bool.eq_false_iff]
      intro h
      have := List.contains_iff_mem.1 h
      unfold signs2 at this
      simp at this
    unfold isS
    rw [this]
    rfl
  · cases hl

set_option maxHeartbeats 1000000 in
theorem isSign_two (s : ByteArray) (w : World) (h : signs2.contains s.toList = true) :
    Calls Tryd.prog 90 #[.string s] w fun e w' => e = .returned (.bool true) ∧ w' = w := by
  have hm : s.toList ∈ signs2 := List.contains_iff_mem.1 h
  unfold signs2 at hm
  simp only [List.mem_cons, List.not_mem_nil, or_false] at hm
  clear h
  rcases hm with e | e | e | e | e | e
  all_goals
    have e2 := ba_of _ _ e
    clear e
    subst e2
    go_enter Tryd.func90, Tryd.ntmps90
    go_wp2
    go_ret
    exact ⟨rfl, rfl⟩

set_option maxHeartbeats 1000000 in
theorem isSign_any (s : ByteArray) (hs : s.size ≤ 1000) (w : World) :
    Calls Tryd.prog 90 #[.string s] w fun e w' => e = .returned (.bool (isS s.toList)) ∧ w' = w := by
  rcases h : signs2.contains s.toList with _ | _
  · have hn : ∀ l, l ∈ signs2 → (s.toList == l) = false := by
      intro l hl
      rw [beq_eq_false_iff_ne]
      intro e
      have : signs2.contains s.toList = true := by rw [e]; exact List.contains_iff_mem.2 hl
      rw [h] at this; cases this
    have t0 := hn [61, 61] (by decide)
    have t1 := hn [33, 61] (by decide)
    have t2 := hn [60, 61] (by decide)
    have t3 := hn [62, 61] (by decide)
    have t4 := hn [60, 60] (by decide)
    have t5 := hn [62, 62] (by decide)
    clear hn
    by_cases h1 : s.size = 1
    · rw [isS_one s h1, ← indexByte_contains]
      have hne : (s.toList == (⟨#[61, 60, 62, 43, 45, 42, 47, 37, 38, 124, 94, 126, 33, 40, 41, 91, 93, 123, 125, 59, 44]⟩ : ByteArray).toList) = false := by
        rw [beq_eq_false_iff_ne]
        intro e
        have := congrArg List.length e
        rw [ByteArray.toList_eq, ByteArray.toList_eq] at this
        have h2 : s.data.toList.length = s.size := by simp
        rw [h2, h1] at this
        cases this
      have HNE : Hid ((s.toList == (⟨#[61, 60, 62, 43, 45, 42, 47, 37, 38, 124, 94, 126, 33, 40, 41, 91, 93, 123, 125, 59, 44]⟩ : ByteArray).toList) = false) := hne
      clear h hne
      go_enter Tryd.func90, Tryd.ntmps90
      go_wp2_with (go_at_call 99; refine (contains_any _ s h1 HNE.out _).mono ?_; rintro e w' ⟨rfl, rfl⟩)
      go_ret
      exact ⟨rfl, rfl⟩
    · have e : isS s.toList = false := by
        unfold isS
        rw [h, Bool.false_or]
        have h2 : s.toList.length = s.size := by rw [ByteArray.toList_eq]; simp
        rcases e2 : s.toList with _ | ⟨a, _ | ⟨b, r⟩⟩
        · rfl
        · rw [e2] at h2; exact absurd h2.symm h1
        · rfl
      rw [e]
      clear h e
      have h1' : ((s.size : Int) == 1) = false := by simp; omega
      go_enter Tryd.func90, Tryd.ntmps90
      go_wp2
      go_ret
      exact ⟨rfl, rfl⟩
  · have e : isS s.toList = true := by unfold isS; rw [h]; rfl
    rw [e]
    exact isSign_two s w h
end Go.Proofs.YtnofibjchhcmeabDoor
