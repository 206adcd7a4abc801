/- Source texts as tokens: what lex.Cut answers, on lists of bytes alone. -/
import Derived.Test.YtnofibjchhcmeabDoorLPlainB
namespace Go.Proofs.YtnofibjchhcmeabDoor
open Go.RowKit

def isL (c : UInt8) : Bool := decide ((97 ≤ c.toNat ∧ c.toNat ≤ 122) ∨ (65 ≤ c.toNat ∧ c.toNat ≤ 90) ∨ c.toNat = 95)
def isB (c : UInt8) : Bool := decide (c.toNat = 32 ∨ c.toNat = 10 ∨ c.toNat = 9 ∨ c.toNat = 13)
def isA (c : UInt8) : Bool := isL c || isD c

/-- how many bytes are gathered, with a state that each byte turns -/
def ga {σ : Type} (step : σ → UInt8 → Bool × σ) : σ → List UInt8 → Nat
  | _, [] => 0
  | st, b :: R => if (step st b).1 then ga step (step st b).2 R + 1 else 0

def dgStep : Unit → UInt8 → Bool × Unit := fun _ b => (isD b, ())
def alStep : Unit → UInt8 → Bool × Unit := fun _ b => (isA b, ())
def skStep : Bool → UInt8 → Bool × Bool := fun r b => (((b.toNat == 35) || (r && (b.toNat != 10))) || isB b, (b.toNat == 35) || (r && (b.toNat != 10)))
def signs1 : List UInt8 := [61, 60, 62, 43, 45, 42, 47, 37, 38, 124, 94, 126, 33, 40, 41, 91, 93, 123, 125, 59, 44]
def signs2 : List (List UInt8) := [[61, 61], [33, 61], [60, 61], [62, 61], [60, 60], [62, 62]]
def isS (l : List UInt8) : Bool := signs2.contains l || (match l with | [c] => signs1.contains c | _ => false)
def sgStep : List UInt8 → UInt8 → Bool × List UInt8 := fun row b => (isS (row ++ [b]), row ++ [b])
def wordsL : List (List UInt8) := [[118, 97, 114], [105, 102], [101, 108, 115, 101], [119, 104, 105, 108, 101], [101, 109, 105, 116], [105, 110, 116, 111], [102, 97, 105, 108], [115, 116, 111, 112], [109], [109, 105, 110], [109, 97, 120]]
def isW (l : List UInt8) : Bool := wordsL.contains l

/-- what num.Parse answers of any text -/
def parse : List UInt8 → Int × Int
  | [] => (0, 10)
  | c :: r => if c = 45 then parseOf true false r else parseOf false (c :: r == [48]) (c :: r)

structure Tok where
  kind : Int
  text : List UInt8
  num : Int
  pos : Nat

/-- the token at the head of what is left: its kind, its number, how many bytes; or the fault, so many bytes on -/
abbrev One := Sum (Int × Int × Nat) (Nat × Int)
abbrev One.tok (kind num : Int) (n : Nat) : One := .inl (kind, num, n)
abbrev One.bad (o : Nat) (e : Int) : One := .inr (o, e)

def headL : List UInt8 → Bool
  | [] => false
  | b :: _ => isL b
def numTok (R : List UInt8) : One :=
  let n := ga dgStep () R
  if (parse (R.take n)).2 ≠ 0 then .bad 0 33 else if headL (R.drop n) = true then .bad n 31 else .tok 1 (parse (R.take n)).1 n
def wordTok (R : List UInt8) : One :=
  let n := ga alStep () R
  if isW (R.take n) = true then .tok 3 0 n else if 12 < n then .bad 0 32 else .tok 2 0 n
def signTok (R : List UInt8) : One :=
  let n := ga sgStep [] R
  if n = 0 then .bad 0 31 else .tok 4 0 n
def tokOf : List UInt8 → One
  | [] => .bad 0 0
  | b :: T => if isD b = true then numTok (b :: T) else if isL b = true then wordTok (b :: T) else signTok (b :: T)

abbrev CutR := Sum (List Tok) (Nat × Int)
abbrev CutR.ok (l : List Tok) : CutR := .inl l
abbrev CutR.err (k : Nat) (e : Int) : CutR := .inr (k, e)
def CutR.cons (t : Tok) : CutR → CutR
  | .inl l => .ok (t :: l)
  | .inr (k, e) => .err k e
def CutR.pre (a : List Tok) : CutR → CutR
  | .inl l => .ok (a ++ l)
  | .inr (k, e) => .err k e
def gapLen (R : List UInt8) : Nat := ga skStep false R

def cutG : Nat → Nat → List UInt8 → CutR
  | 0, _, _ => .err 0 0
  | _ + 1, p, [] => .ok [⟨0, [], 0, p⟩]
  | f + 1, p, b :: T => match tokOf (b :: T) with
    | .inr (o, e) => .err (p + o) e
    | .inl (k, m, n) => (cutG f (p + n + gapLen ((b :: T).drop n)) (((b :: T).drop n).drop (gapLen ((b :: T).drop n)))).cons ⟨k, (b :: T).take n, m, p⟩
def cut (L : List UInt8) : CutR :=
  if 8192 < L.length then .err 0 30 else cutG (L.length + 1) (gapLen L) (L.drop (gapLen L))


theorem ga_le {σ : Type} (step : σ → UInt8 → Bool × σ) (st : σ) (R : List UInt8) : ga step st R ≤ R.length := by
  induction R generalizing st with
  | nil => simp [ga]
  | cons b R ih =>
    unfold ga
    split
    · have := ih (step st b).2; simp; omega
    · simp
theorem pre_cons (a : List Tok) (t : Tok) (r : CutR) : (r.cons t).pre a = r.pre (a ++ [t]) := by
  cases r <;> simp [CutR.cons, CutR.pre]
end Go.Proofs.YtnofibjchhcmeabDoor
