/- Statements of a source text, and what the parser makes of tokens: plain mathematics. -/
import Derived.Test.YtnofibjchhcmeabDoorPlE
namespace Go.Proofs.YtnofibjchhcmeabDoor
open Go.RowKit
set_option linter.unusedVariables false

/-- rows of statements: kind, name, cell, expressions; a pair of what lies in its two blocks; the rest of the row -/
abbrev SL := Std.DTreeMap.Internal.Impl (Int × ByteArray × Int × EL) (fun _ => Unit)
abbrev SL.cons (k : Int) (s : ByteArray) (c : Int) (a : EL) (b e r : SL) : SL := .inner 0 (k, s, c, a) () (.inner 0 (0, ⟨#[]⟩, 0, .leaf) () b e) r
def slft : SL → SL
  | .leaf => .leaf
  | .inner _ _ _ l _ => l
def srgt : SL → SL
  | .leaf => .leaf
  | .inner _ _ _ _ r => r
theorem sl_ind {P : SL → Prop} (h0 : P .leaf) (h1 : ∀ i d v x r, P (slft x) → P (srgt x) → P r → P (.inner i d v x r)) (t : SL) : P t := by
  have H : ∀ t : SL, P t ∧ P (slft t) ∧ P (srgt t) := by
    intro t
    induction t with
    | leaf => exact ⟨h0, h0, h0⟩
    | inner i d v x r ihx ihr => exact ⟨h1 i d v x r ihx.2.1 ihx.2.2 ihr.1, ihx.1, ihr.1⟩
  exact (H t).1
def slen : SL → Nat
  | .leaf => 0
  | .inner _ _ _ _ r => slen r + 1
structure PT where
  kind : Int
  name : ByteArray
  cell : Int
  args : EL
  body : SL
  els : SL
def srow : List PT → SL
  | [] => .leaf
  | x :: l => SL.cons x.kind x.name x.cell x.args x.body x.els (srow l)
theorem slen_row (l : List PT) : slen (srow l) = l.length := by
  induction l with
  | nil => rfl
  | cons x l ih => show slen (srow l) + 1 = _; rw [ih]; rfl

abbrev TR := Except (Nat × Int) (List PT × Nat × Nat)
def mkS (t : Tok) (x : PT) (q n : Nat) : TR := if 600 < n + 1 then .error (t.pos, 42) else .ok ([x], q, n + 1)
def ex1 (L : List Tok) : Nat → Nat → Nat → PR := exprF L (3 * L.length + 2) (some (1, none))
def withinT (L : List Tok) (a b : List UInt8) (p n : Nat) : PR := withinP L (ex1 L) a b p 0 n
def lastP (L : List Tok) (p n : Nat) : PR := match ex1 L p 0 n with
  | .error e => .error e
  | .ok (x, q, m) => if ¬ (tk L q).text = [59] then .error ((tk L q).pos, 40) else .ok (x, q + 1, m)
def valueP (L : List Tok) (p n : Nat) : PR := if ¬ (tk L p).text = [61] then .error ((tk L p).pos, 40) else lastP L (p + 1) n
/-- a statement of the parts that a reading gives -/
def ofPart (t : Tok) (k : Int) (s : ByteArray) (c : Int) : PR → TR
  | .error e => .error e
  | .ok (x, q, m) => mkS t ⟨k, s, c, erow [x], .leaf, .leaf⟩ q m
def setP (L : List Tok) (p n : Nat) : TR := ofPart (tk L p) 2 ⟨(tk L p).text.toArray⟩ 0 (valueP L (p + 1) n)
def declareP (L : List Tok) (p n : Nat) : TR := if ¬ (tk L (p + 1)).kind = 2 then .error ((tk L (p + 1)).pos, 40) else ofPart (tk L p) 1 ⟨(tk L (p + 1)).text.toArray⟩ 0 (valueP L (p + 2) n)
def storeP (L : List Tok) (p n : Nat) : TR := match withinT L [91] [93] (p + 1) n with
  | .error e => .error e
  | .ok (x, q, m) => match valueP L q m with
    | .error e => .error e
    | .ok (y, r, i) => mkS (tk L p) ⟨3, ⟨#[]⟩, 0, erow [x, y], .leaf, .leaf⟩ r i
def tellP (L : List Tok) (k : Int) (p n : Nat) : TR := ofPart (tk L p) k ⟨#[]⟩ 0 (lastP L (p + 1) n)
def intoP (L : List Tok) (p n : Nat) : TR := if 255 < (tk L (p + 1)).num then .error ((tk L (p + 1)).pos, 40) else if ¬ (tk L (p + 1)).kind = 1 then .error ((tk L (p + 1)).pos, 40) else ofPart (tk L p) 5 ⟨#[]⟩ (tk L (p + 1)).num (lastP L (p + 2) n)
def stopP (L : List Tok) (p n : Nat) : TR := if ¬ (tk L (p + 1)).text = [59] then .error ((tk L (p + 1)).pos, 40) else mkS (tk L p) ⟨9, ⟨#[]⟩, 0, .leaf, .leaf, .leaf⟩ (p + 2) n
/-- a block; row reads the statements up to the bracket that shuts -/
def blockP (L : List Tok) (row : Nat → Nat → Nat → TR) (b p n : Nat) : TR :=
  if ¬ (tk L p).text = [123] then .error ((tk L p).pos, 40) else if 12 ≤ b then .error ((tk L p).pos, 41) else
  match row (b + 1) (p + 1) n with
  | .error e => .error e
  | .ok (l, q, m) => .ok (l, q + 1, m)
def otherP (L : List Tok) (row ch : Nat → Nat → Nat → TR) (b p n : Nat) : TR :=
  if ¬ (tk L p).text = [105, 102] then blockP L row b p n else if 12 ≤ b then .error ((tk L p).pos, 41) else ch (b + 1) p n
def chooseP (L : List Tok) (row ch : Nat → Nat → Nat → TR) (b p n : Nat) : TR := match withinT L [40] [41] (p + 1) n with
  | .error e => .error e
  | .ok (x, q, m) => match blockP L row b q m with
    | .error e => .error e
    | .ok (l, r, i) => if (tk L r).text = [101, 108, 115, 101] then
        (match otherP L row ch b (r + 1) i with
        | .error e => .error e
        | .ok (l2, r2, i2) => mkS (tk L p) ⟨6, ⟨#[]⟩, 0, erow [x], srow l, srow l2⟩ r2 i2)
      else mkS (tk L p) ⟨6, ⟨#[]⟩, 0, erow [x], srow l, .leaf⟩ r i
def repeatP (L : List Tok) (row : Nat → Nat → Nat → TR) (b p n : Nat) : TR := match withinT L [40] [41] (p + 1) n with
  | .error e => .error e
  | .ok (x, q, m) => match blockP L row b q m with
    | .error e => .error e
    | .ok (l, r, i) => mkS (tk L p) ⟨7, ⟨#[]⟩, 0, erow [x], srow l, .leaf⟩ r i
def stmtP (L : List Tok) (row ch : Nat → Nat → Nat → TR) (b p n : Nat) : TR :=
  if (tk L p).kind = 2 then setP L p n
  else if (tk L p).text = [118, 97, 114] then declareP L p n
  else if (tk L p).text = [109] then storeP L p n
  else if (tk L p).text = [101, 109, 105, 116] then tellP L 4 p n
  else if (tk L p).text = [102, 97, 105, 108] then tellP L 8 p n
  else if (tk L p).text = [105, 110, 116, 111] then intoP L p n
  else if (tk L p).text = [115, 116, 111, 112] then stopP L p n
  else if (tk L p).text = [105, 102] then chooseP L row ch b p n
  else if (tk L p).text = [119, 104, 105, 108, 101] then repeatP L row b p n
  else .error ((tk L p).pos, 40)
/-- 0: a statement; 1: those up to the bracket that shuts; 2: an if -/
def stmtF (L : List Tok) : Nat → Nat → Nat → Nat → Nat → TR
  | 0, _, _, _, _ => .error (0, -1)
  | f + 1, 0, b, p, n => stmtP L (stmtF L f 1) (stmtF L f 2) b p n
  | f + 1, 1, b, p, n => if (tk L p).text = [125] then .ok ([], p, n) else
    match stmtF L f 0 b p n with
    | .error e => .error e
    | .ok (x, q, m) => match stmtF L f 1 b q m with
      | .error e => .error e
      | .ok (l, r, i) => .ok (x ++ l, r, i)
  | f + 1, _, b, p, n => chooseP L (stmtF L f 1) (stmtF L f 2) b p n
theorem stmtF_row (L : List Tok) (f b p n : Nat) : stmtF L (f + 1) 1 b p n = if (tk L p).text = [125] then .ok ([], p, n) else
    match stmtF L f 0 b p n with
    | .error e => .error e
    | .ok (x, q, m) => match stmtF L f 1 b q m with
      | .error e => .error e
      | .ok (l, r, i) => .ok (x ++ l, r, i) := rfl
def stmtT (L : List Tok) (b p n : Nat) : TR := stmtF L (2 * L.length + 2) 0 b p n
def textF (L : List Tok) : Nat → Nat → Nat → TR
  | 0, _, _ => .error (0, -1)
  | f + 1, p, n => if (tk L p).kind = 0 then .ok ([], p, n) else
    match stmtT L 0 p n with
    | .error e => .error e
    | .ok (x, q, m) => match textF L f q m with
      | .error e => .error e
      | .ok (l, r, i) => .ok (x ++ l, r, i)
/-- what Parse answers -/
def parseT (s : List UInt8) : Except (Nat × Int) (List PT) := match cut s with
  | .inr e => .error e
  | .inl L => match textF L (L.length + 1) 0 0 with
    | .error e => .error e
    | .ok (l, _, _) => .ok l

theorem mkS_ok {t : Tok} {x : PT} {q n : Nat} {l : List PT} {r m : Nat} (h : mkS t x q n = .ok (l, r, m)) : l = [x] ∧ r = q ∧ m = n + 1 ∧ m ≤ 600 := by
  unfold mkS at h
  split at h
  · cases h
  · cases h; exact ⟨rfl, rfl, rfl, by omega⟩
def FwdT (least : Nat) (r : Nat → Nat → Nat → TR) : Prop := ∀ b p n x q m, r b p n = .ok (x, q, m) → p + least ≤ q ∧ (n ≤ 600 → m ≤ 600)
theorem ex1_fwd (L : List Tok) : Fwd 1 (ex1 L) := (exprF_fwd L _).2.1 1
theorem withinT_fwd {L : List Tok} {a b : List UInt8} {p n : Nat} {x : PE} {q m : Nat} (h : withinT L a b p n = .ok (x, q, m)) : p + 3 ≤ q ∧ (n ≤ 600 → m ≤ 600) := withinP_fwd (ex1_fwd L) _ _ _ _ _ _ _ _ h
theorem lastP_fwd {L : List Tok} {p n : Nat} {x : PE} {q m : Nat} (h : lastP L p n = .ok (x, q, m)) : p + 2 ≤ q ∧ (n ≤ 600 → m ≤ 600) := by
  unfold lastP at h
  rcases e : ex1 L p 0 n with e1 | ⟨y, r, i⟩
  · rw [e] at h; cases h
  · rw [e] at h; simp only at h
    obtain ⟨h1, h2⟩ := ex1_fwd L _ _ _ _ _ _ e
    split at h
    · cases h
    · cases h; exact ⟨by omega, h2⟩
theorem valueP_fwd {L : List Tok} {p n : Nat} {x : PE} {q m : Nat} (h : valueP L p n = .ok (x, q, m)) : p + 3 ≤ q ∧ (n ≤ 600 → m ≤ 600) := by
  unfold valueP at h
  split at h
  · cases h
  · obtain ⟨h1, h2⟩ := lastP_fwd h; exact ⟨by omega, h2⟩
theorem ofPart_fwd {t : Tok} {k : Int} {s : ByteArray} {c : Int} {r : PR} {l : List PT} {q m : Nat} (h : ofPart t k s c r = .ok (l, q, m)) : ∃ x i, r = .ok (x, q, i) ∧ m ≤ 600 := by
  unfold ofPart at h
  rcases r with e | ⟨x, r, i⟩
  · cases h
  · simp only at h
    obtain ⟨h1, h2, h3, h4⟩ := mkS_ok h
    subst h2
    exact ⟨x, i, rfl, h4⟩
theorem blockP_fwd {L : List Tok} {row : Nat → Nat → Nat → TR} (hr : FwdT 0 row) : FwdT 2 (blockP L row) := by
  intro b p n x q m h
  unfold blockP at h
  split at h
  · cases h
  · split at h
    · cases h
    · rcases e : row (b + 1) (p + 1) n with e1 | ⟨y, r, i⟩
      · rw [e] at h; cases h
      · rw [e] at h; simp only at h
        obtain ⟨h1, h2⟩ := hr _ _ _ _ _ _ e
        cases h; exact ⟨by omega, h2⟩
theorem otherP_fwd {L : List Tok} {row ch : Nat → Nat → Nat → TR} (hr : FwdT 0 row) (hc : FwdT 1 ch) : FwdT 1 (otherP L row ch) := by
  intro b p n x q m h
  unfold otherP at h
  split at h
  · obtain ⟨h1, h2⟩ := blockP_fwd hr _ _ _ _ _ _ h; exact ⟨by omega, h2⟩
  · split at h
    · cases h
    · exact hc _ _ _ _ _ _ h
theorem chooseP_fwd {L : List Tok} {row ch : Nat → Nat → Nat → TR} (hr : FwdT 0 row) (hc : FwdT 1 ch) : FwdT 1 (chooseP L row ch) := by
  intro b p n x q m h
  unfold chooseP at h
  rcases e : withinT L [40] [41] (p + 1) n with e1 | ⟨y, r, i⟩
  · rw [e] at h; cases h
  · rw [e] at h; simp only at h
    obtain ⟨h1, h2⟩ := withinT_fwd e
    rcases e2 : blockP L row b r i with e1 | ⟨z, r2, i2⟩
    · rw [e2] at h; cases h
    · rw [e2] at h; simp only at h
      obtain ⟨h3, h4⟩ := blockP_fwd hr _ _ _ _ _ _ e2
      split at h
      · rcases e3 : otherP L row ch b (r2 + 1) i2 with e1 | ⟨u, r3, i3⟩
        · rw [e3] at h; cases h
        · rw [e3] at h; simp only at h
          obtain ⟨h5, h6⟩ := otherP_fwd hr hc _ _ _ _ _ _ e3
          obtain ⟨g1, g2, g3, g4⟩ := mkS_ok h
          exact ⟨by omega, fun _ => g4⟩
      · obtain ⟨g1, g2, g3, g4⟩ := mkS_ok h
        exact ⟨by omega, fun _ => g4⟩
theorem repeatP_fwd {L : List Tok} {row : Nat → Nat → Nat → TR} (hr : FwdT 0 row) : FwdT 1 (repeatP L row) := by
  intro b p n x q m h
  unfold repeatP at h
  rcases e : withinT L [40] [41] (p + 1) n with e1 | ⟨y, r, i⟩
  · rw [e] at h; cases h
  · rw [e] at h; simp only at h
    obtain ⟨h1, h2⟩ := withinT_fwd e
    rcases e2 : blockP L row b r i with e1 | ⟨z, r2, i2⟩
    · rw [e2] at h; cases h
    · rw [e2] at h; simp only at h
      obtain ⟨h3, h4⟩ := blockP_fwd hr _ _ _ _ _ _ e2
      obtain ⟨g1, g2, g3, g4⟩ := mkS_ok h
      exact ⟨by omega, fun _ => g4⟩
theorem stmtP_fwd {L : List Tok} {row ch : Nat → Nat → Nat → TR} (hr : FwdT 0 row) (hc : FwdT 1 ch) : FwdT 1 (stmtP L row ch) := by
  intro b p n x q m h
  unfold stmtP at h
  split at h
  · obtain ⟨y, i, h1, h2⟩ := ofPart_fwd h
    obtain ⟨h3, h4⟩ := valueP_fwd h1
    exact ⟨by omega, fun _ => h2⟩
  split at h
  · unfold declareP at h
    split at h
    · cases h
    · obtain ⟨y, i, h1, h2⟩ := ofPart_fwd h
      obtain ⟨h3, h4⟩ := valueP_fwd h1
      exact ⟨by omega, fun _ => h2⟩
  split at h
  · unfold storeP at h
    rcases e : withinT L [91] [93] (p + 1) n with e1 | ⟨y, r, i⟩
    · rw [e] at h; cases h
    · rw [e] at h; simp only at h
      obtain ⟨h1, h2⟩ := withinT_fwd e
      rcases e2 : valueP L r i with e1 | ⟨z, r2, i2⟩
      · rw [e2] at h; cases h
      · rw [e2] at h; simp only at h
        obtain ⟨h3, h4⟩ := valueP_fwd e2
        obtain ⟨g1, g2, g3, g4⟩ := mkS_ok h
        exact ⟨by omega, fun _ => g4⟩
  split at h
  · obtain ⟨y, i, h1, h2⟩ := ofPart_fwd h
    obtain ⟨h3, h4⟩ := lastP_fwd h1
    exact ⟨by omega, fun _ => h2⟩
  split at h
  · obtain ⟨y, i, h1, h2⟩ := ofPart_fwd h
    obtain ⟨h3, h4⟩ := lastP_fwd h1
    exact ⟨by omega, fun _ => h2⟩
  split at h
  · unfold intoP at h
    split at h
    · cases h
    split at h
    · cases h
    · obtain ⟨y, i, h1, h2⟩ := ofPart_fwd h
      obtain ⟨h3, h4⟩ := lastP_fwd h1
      exact ⟨by omega, fun _ => h2⟩
  split at h
  · unfold stopP at h
    split at h
    · cases h
    · obtain ⟨g1, g2, g3, g4⟩ := mkS_ok h
      exact ⟨by omega, fun _ => g4⟩
  split at h
  · exact chooseP_fwd hr hc _ _ _ _ _ _ h
  split at h
  · exact repeatP_fwd hr _ _ _ _ _ _ h
  · cases h
theorem stmtF_fwd (L : List Tok) : ∀ f, FwdT 1 (stmtF L f 0) ∧ FwdT 0 (stmtF L f 1) ∧ FwdT 1 (stmtF L f 2) := by
  intro f
  induction f with
  | zero => exact ⟨fun _ _ _ _ _ _ h => (by cases h), fun _ _ _ _ _ _ h => (by cases h), fun _ _ _ _ _ _ h => (by cases h)⟩
  | succ f ih =>
    obtain ⟨i0, i1, i2⟩ := ih
    refine ⟨stmtP_fwd i1 i2, ?_, chooseP_fwd i1 i2⟩
    intro b p n x q m h
    rw [stmtF_row] at h
    split at h
    · cases h; exact ⟨by omega, id⟩
    · rcases e : stmtF L f 0 b p n with e1 | ⟨y, r, i⟩
      · rw [e] at h; cases h
      · rw [e] at h; simp only at h
        obtain ⟨h1, h2⟩ := i0 _ _ _ _ _ _ e
        rcases e2 : stmtF L f 1 b r i with e1 | ⟨z, r2, i2⟩
        · rw [e2] at h; cases h
        · rw [e2] at h; simp only at h
          obtain ⟨h3, h4⟩ := i1 _ _ _ _ _ _ e2
          cases h
          exact ⟨by omega, fun hn => h4 (h2 hn)⟩
end Go.Proofs.YtnofibjchhcmeabDoor
