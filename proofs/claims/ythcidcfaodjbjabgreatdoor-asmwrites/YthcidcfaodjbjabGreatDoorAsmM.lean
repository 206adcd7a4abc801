/- What a listing says: the words of instructions, their parts, lines, labels. -/
import Derived.Test.YthcidcfaodjbjabGreatDoorIRow
import Derived.Test.YthcidcfaodjbjabGreatDoorNParse
import Derived.Test.YthcidcfaodjbjabGreatDoorPure
namespace Go.Proofs.YthcidcfaodjbjabGreatDoor
set_option linter.unusedVariables false

/-- how an instruction is said -/
structure Say where
  kind : Int
  op : Int
  word : List UInt8
  parts : List UInt8
def saysL : List Say := [⟨1, 0, [104, 97, 108, 116], []⟩, ⟨2, 0, [99, 111, 110, 115, 116], [97, 107]⟩, ⟨3, 0, [109, 111, 118, 101], [97, 98]⟩, ⟨4, 19, [110, 101, 103], [97, 98]⟩, ⟨4, 20, [99, 111, 109], [97, 98]⟩, ⟨4, 21, [110, 111, 116], [97, 98]⟩, ⟨5, 1, [97, 100, 100], [97, 98, 99]⟩, ⟨5, 2, [115, 117, 98], [97, 98, 99]⟩, ⟨5, 3, [109, 117, 108], [97, 98, 99]⟩, ⟨5, 4, [100, 105, 118], [97, 98, 99]⟩, ⟨5, 5, [114, 101, 109], [97, 98, 99]⟩, ⟨5, 6, [97, 110, 100], [97, 98, 99]⟩, ⟨5, 7, [111, 114], [97, 98, 99]⟩, ⟨5, 8, [120, 111, 114], [97, 98, 99]⟩, ⟨5, 9, [115, 104, 108], [97, 98, 99]⟩, ⟨5, 10, [115, 104, 114], [97, 98, 99]⟩, ⟨5, 11, [101, 113], [97, 98, 99]⟩, ⟨5, 12, [110, 101], [97, 98, 99]⟩, ⟨5, 13, [108, 116], [97, 98, 99]⟩, ⟨5, 14, [108, 101], [97, 98, 99]⟩, ⟨5, 15, [103, 116], [97, 98, 99]⟩, ⟨5, 16, [103, 101], [97, 98, 99]⟩, ⟨5, 17, [109, 105, 110], [97, 98, 99]⟩, ⟨5, 18, [109, 97, 120], [97, 98, 99]⟩, ⟨6, 0, [108, 111, 97, 100], [97, 98, 107]⟩, ⟨7, 0, [115, 116, 111, 114, 101], [97, 98, 107]⟩, ⟨8, 0, [105, 110, 116, 111], [97, 114]⟩, ⟨9, 0, [101, 109, 105, 116], [97]⟩, ⟨10, 0, [106, 117, 109, 112], [108]⟩, ⟨11, 0, [122, 101, 114, 111], [97, 108]⟩, ⟨12, 0, [111, 116, 104, 101, 114], [97, 108]⟩, ⟨13, 0, [102, 97, 105, 108], [97]⟩]
def say (k : Nat) : Say := saysL.getD k ⟨0, 0, [], []⟩
def sayC (s : Say) : List Value := [.int .i64 s.kind, .int .i64 s.op, .int .i64 0, .int .i64 0, .int .i64 0, .int .i64 0, .string ⟨s.word.toArray⟩, .string ⟨s.parts.toArray⟩]
/-- the instruction without what its word does not tell -/
def bareI (x : In) : In := if x.kind = 4 ∨ x.kind = 5 then ⟨x.kind, x.op, 0, 0, 0, 0⟩ else ⟨x.kind, 0, 0, 0, 0, 0⟩
def wordGo (k o : Int) : List Say → List UInt8 × List UInt8
  | [] => ([], [])
  | s :: r => if s.kind = k ∧ s.op = o then (s.word, s.parts) else wordGo k o r
/-- an instruction's word, and its parts' letters -/
def wordOf (x : In) : List UInt8 × List UInt8 := wordGo (bareI x).kind (bareI x).op saysL
def meanGo (w : List UInt8) : List Say → Option Say
  | [] => none
  | s :: r => if s.word = w then some s else meanGo w r
/-- the saying of a word -/
def meanL (w : List UInt8) : Option Say := meanGo w saysL
theorem saysL_drop (k : Nat) (hk : k < 32) : saysL.drop k = say k :: saysL.drop (k + 1) := by
  have h : k < saysL.length := hk
  rw [List.drop_eq_getElem_cons h]
  unfold say
  simp [List.getD, List.getElem?_eq_getElem h]
theorem wordGo_drop (a b : Int) (k : Nat) (hk : k < 32) : wordGo a b (saysL.drop k) = if (say k).kind = a ∧ (say k).op = b then ((say k).word, (say k).parts) else wordGo a b (saysL.drop (k + 1)) := by
  rw [saysL_drop k hk]; rfl
theorem meanGo_drop (w : List UInt8) (k : Nat) (hk : k < 32) : meanGo w (saysL.drop k) = if (say k).word = w then some (say k) else meanGo w (saysL.drop (k + 1)) := by
  rw [saysL_drop k hk]; rfl

/-- a number -/
def numL (s : List UInt8) : Option Int := if (parse s).2 = 0 then some (parse s).1 else none
/-- a number from 0 to 255 -/
def smallL (s : List UInt8) : Option Int := if (parse s).2 = 0 ∧ 0 ≤ (parse s).1 ∧ (parse s).1 ≤ 255 then some (parse s).1 else none
/-- a register -/
def regL : List UInt8 → Option Int
  | [] => none
  | b :: r => if b = 114 then smallL r else none
/-- one piece becomes one part -/
def readL (x : In × List UInt8) (p : UInt8) (s : List UInt8) : Option (In × List UInt8) :=
  if p = 97 then (regL s).map fun n => ({ x.1 with a := n }, x.2)
  else if p = 98 then (regL s).map fun n => ({ x.1 with b := n }, x.2)
  else if p = 99 then (regL s).map fun n => ({ x.1 with c := n }, x.2)
  else if p = 114 then (smallL s).map fun n => ({ x.1 with c := n }, x.2)
  else if p = 107 then (numL s).map fun n => ({ x.1 with k := n }, x.2)
  else if p = 108 then (if labB s then some (x.1, s) else none)
  else none
def readAll (x : In × List UInt8) : List UInt8 → List (List UInt8) → Option (In × List UInt8)
  | [], _ => some x
  | p :: ps, [] => none
  | p :: ps, s :: ss => (readL x p s).bind fun y => readAll y ps ss
/-- an instruction's line -/
def insL (w : List UInt8) (said : List (List UInt8)) : Option (In × List UInt8) :=
  (meanL w).bind fun s => if said.length = s.parts.length then readAll (⟨s.kind, s.op, 0, 0, 0, 0⟩, []) s.parts said else none
/-- what has been read: instructions; their lines and the labels that they name; the places of labels -/
structure Rs where
  code : List In
  frm : List (Int × List UInt8)
  tab : List (List UInt8 × Int)
def findT (T : List (List UInt8 × Int)) (s : List UInt8) : Option Int := (T.find? fun x => x.1 == s).map (·.2)
inductive Lr where
  | err (e : Int)
  | ok (s : Rs)
def labelL (s : Rs) (n : List UInt8) : Lr :=
  if labB n then (match findT s.tab n with
    | some _ => .err 91
    | none => .ok ⟨s.code, s.frm, s.tab ++ [(n, (s.code.length : Int))]⟩)
  else .err 90
def lineL (s : Rs) (n : Int) : List (List UInt8) → Lr
  | [] => .ok s
  | p :: r => if p.getLast? = some 58 ∧ r = [] then labelL s p.dropLast else
    match insL p r with
    | none => .err 90
    | some y => .ok ⟨s.code ++ [y.1], s.frm ++ [(n, y.2)], s.tab⟩
/-- all lines from one on -/
inductive Pr where
  | err (n e : Int)
  | ok (s : Rs)
def linesR : Rs → Int → List (List UInt8) → Pr
  | s, _, [] => .ok s
  | s, n, l :: r => match lineL s n (fieldsL (saidL l)) with
    | .err e => .err n e
    | .ok s' => linesR s' (n + 1) r
/-- labels become places -/
def aimL (T : List (List UInt8 × Int)) : List In → List (Int × List UInt8) → Int ⊕ List In
  | [], _ => .inr []
  | x :: l, [] => .inr (x :: l)
  | x :: l, o :: os => if o.2 = [] then (match aimL T l os with
      | .inl n => .inl n
      | .inr l' => .inr (x :: l'))
    else match findT T o.2 with
      | none => .inl o.1
      | some p => match aimL T l os with
        | .inl n => .inl n
        | .inr l' => .inr ({ x with k := p } :: l')
end Go.Proofs.YthcidcfaodjbjabGreatDoor
