/- Statements of a source text, and what the parser makes of tokens: plain mathematics. -/
import Derived.Test.YtnofibjchhcmeabDoorLChars
namespace Go.Proofs.YtnofibjchhcmeabDoor
open Go.RowKit
set_option linter.unusedVariables false

/-- rows of expressions: kind, number, name, operation; the parts; the rest of the row -/
abbrev EL := Std.DTreeMap.Internal.Impl (Int × Int × ByteArray × Int) (fun _ => Unit)
abbrev EL.nil : EL := .leaf
abbrev EL.cons (k n : Int) (s : ByteArray) (o : Int) (a r : EL) : EL := .inner 0 (k, n, s, o) () a r
def elen : EL → Nat
  | .leaf => 0
  | .inner _ _ _ _ r => elen r + 1
def ecnt : EL → Nat
  | .leaf => 0
  | .inner _ _ _ a r => ecnt a + ecnt r + 1
/-- an expression, and its depth -/
structure PE where
  kind : Int
  num : Int
  name : ByteArray
  op : Int
  args : EL
  deep : Nat
def erow : List PE → EL
  | [] => .leaf
  | x :: l => .inner 0 (x.kind, x.num, x.name, x.op) () x.args (erow l)
theorem elen_row (l : List PE) : elen (erow l) = l.length := by
  induction l with
  | nil => rfl
  | cons x l ih => simp [erow, elen, ih]
def deepOf (l : List PE) : Nat := l.foldl (fun d x => max d (x.deep + 1)) 1

/-- what comes of a reading: the fault's place and number; or what was read, where it ends, how many nodes were made -/
abbrev PR := Except (Nat × Int) (PE × Nat × Nat)

def noTok : Tok := ⟨0, [], 0, 0⟩
def tk (L : List Tok) (p : Nat) : Tok := L.getD p noTok
theorem tk_eq {L : List Tok} {p : Nat} (h : p < L.length) : L[p] = tk L p := by
  unfold tk; rw [List.getD, List.getElem?_eq_getElem h]; rfl

/-- an expression is made of its parts; t is its token -/
def mkE (t : Tok) (k m : Int) (s : ByteArray) (op : Int) (parts : List PE) (n : Nat) : Except (Nat × Int) (PE × Nat) :=
  if 48 < deepOf parts then .error (t.pos, 41) else if 600 < n + 1 then .error (t.pos, 42) else .ok (⟨k, m, s, op, erow parts, deepOf parts⟩, n + 1)
def mk' (p : Nat) : Except (Nat × Int) (PE × Nat) → PR
  | .error e => .error e
  | .ok (x, n) => .ok (x, p, n)

/-- within: the expression between two brackets, the first of which stands here -/
def withinP (L : List Tok) (ex : Nat → Nat → Nat → PR) (a b : List UInt8) (p o n : Nat) : PR :=
  if ¬ (tk L p).text = a then .error ((tk L p).pos, 40) else if 48 < o + 1 then .error ((tk L p).pos, 41) else
  match ex (p + 1) (o + 1) n with
  | .error e => .error e
  | .ok (x, q, m) => if ¬ (tk L q).text = b then .error ((tk L q).pos, 40) else .ok (x, q + 1, m)
def memP (L : List Tok) (ex : Nat → Nat → Nat → PR) (p o n : Nat) : PR :=
  match withinP L ex [91] [93] (p + 1) o n with
  | .error e => .error e
  | .ok (x, q, m) => mk' q (mkE (tk L p) 3 0 ⟨#[]⟩ 0 [x] m)
def pairP (L : List Tok) (ex : Nat → Nat → Nat → PR) (op : Int) (p o n : Nat) : PR :=
  if ¬ (tk L (p + 1)).text = [40] then .error ((tk L (p + 1)).pos, 40) else if 48 < o + 1 then .error ((tk L (p + 1)).pos, 41) else
  match ex (p + 2) (o + 1) n with
  | .error e => .error e
  | .ok (x, q, m) => if ¬ (tk L q).text = [44] then .error ((tk L q).pos, 40) else
    match ex (q + 1) (o + 1) m with
    | .error e => .error e
    | .ok (y, r, i) => if ¬ (tk L r).text = [41] then .error ((tk L r).pos, 40) else mk' (r + 1) (mkE (tk L p) 5 0 ⟨#[]⟩ op [x, y] i)
def signedP (L : List Tok) (on : Nat → Nat → Nat → PR) (op : Int) (p o n : Nat) : PR :=
  if 48 < o + 1 then .error ((tk L p).pos, 41) else
  match on (p + 1) (o + 1) n with
  | .error e => .error e
  | .ok (x, q, m) => mk' q (mkE (tk L p) 4 0 ⟨#[]⟩ op [x] m)
def oneP (L : List Tok) (ex on : Nat → Nat → Nat → PR) (p o n : Nat) : PR :=
  if (tk L p).kind = 1 then mk' (p + 1) (mkE (tk L p) 1 (tk L p).num ⟨#[]⟩ 0 [] n)
  else if (tk L p).kind = 2 then mk' (p + 1) (mkE (tk L p) 2 0 ⟨(tk L p).text.toArray⟩ 0 [] n)
  else if (tk L p).text = [40] then withinP L ex [40] [41] p o n
  else if (tk L p).text = [109] then memP L ex p o n
  else if (tk L p).text = [109, 105, 110] then pairP L ex 17 p o n
  else if (tk L p).text = [109, 97, 120] then pairP L ex 18 p o n
  else if (tk L p).text = [45] then signedP L on 19 p o n
  else if (tk L p).text = [126] then signedP L on 20 p o n
  else if (tk L p).text = [33] then signedP L on 21 p o n
  else .error ((tk L p).pos, 40)
/-- the signs with their ranks and operations -/
def signsL : List (List UInt8 × Int × Int) := [([124], 1, 7), ([94], 2, 8), ([38], 3, 6), ([61, 61], 4, 11), ([33, 61], 4, 12), ([60], 5, 13), ([60, 61], 5, 14), ([62], 5, 15), ([62, 61], 5, 16), ([60, 60], 6, 9), ([62, 62], 6, 10), ([43], 7, 1), ([45], 7, 2), ([42], 8, 3), ([47], 8, 4), ([37], 8, 5)]
/-- rank and operation of a sign -/
def rankGo (t : List UInt8) : List (List UInt8 × Int × Int) → Int × Int
  | [] => (0, 0)
  | x :: r => if x.1 = t then x.2 else rankGo t r
def rankOf (t : List UInt8) : Int × Int := rankGo t signsL

/-- none: one expression; a least rank: an expression; a least rank and what stands ahead: how it goes on -/
def exprF (L : List Tok) : Nat → Option (Int × Option PE) → Nat → Nat → Nat → PR
  | 0, _, _, _, _ => .error (0, -1)
  | f + 1, none, p, o, n => oneP L (exprF L f (some (1, none))) (exprF L f none) p o n
  | f + 1, some (least, none), p, o, n => match exprF L f none p o n with
    | .error e => .error e
    | .ok (x, q, m) => exprF L f (some (least, some x)) q o m
  | f + 1, some (least, some x), p, o, n =>
    if (rankOf (tk L p).text).1 < least then .ok (x, p, n) else
    match exprF L f (some ((rankOf (tk L p).text).1 + 1, none)) (p + 1) o n with
    | .error e => .error e
    | .ok (y, q, m) => match mkE (tk L p) 5 0 ⟨#[]⟩ (rankOf (tk L p).text).2 [x, y] m with
      | .error e => .error e
      | .ok (z, i) => exprF L f (some (least, some z)) q o i

/-- the last token is the end -/
def TEnd (L : List Tok) : Prop := ∀ p, p + 1 = L.length → (tk L p).kind = 0 ∧ (tk L p).text = []
theorem tk_out {L : List Tok} {p : Nat} (h : L.length ≤ p) : tk L p = noTok := by
  unfold tk; rw [List.getD, List.getElem?_eq_none h]; rfl
theorem TEnd.kind {L : List Tok} (h : TEnd L) {p : Nat} (hk : (tk L p).kind ≠ 0) : p + 1 < L.length := by
  rcases Nat.lt_or_ge p L.length with h1 | h1
  · rcases Nat.lt_or_ge (p + 1) L.length with h2 | h2
    · exact h2
    · exact absurd (h p (by omega)).1 hk
  · rw [tk_out h1] at hk; exact absurd rfl hk
theorem TEnd.text {L : List Tok} (h : TEnd L) {p : Nat} (hk : (tk L p).text ≠ []) : p + 1 < L.length := by
  rcases Nat.lt_or_ge p L.length with h1 | h1
  · rcases Nat.lt_or_ge (p + 1) L.length with h2 | h2
    · exact h2
    · exact absurd (h p (by omega)).2 hk
  · rw [tk_out h1] at hk; exact absurd rfl hk

theorem mk'_ok {p : Nat} {t : Tok} {k m : Int} {s : ByteArray} {op : Int} {l : List PE} {n : Nat} {x : PE} {q i : Nat} (h : mk' p (mkE t k m s op l n) = .ok (x, q, i)) : q = p ∧ i = n + 1 ∧ i ≤ 600 := by
  unfold mkE at h
  split at h
  · cases h
  · split at h
    · cases h
    · cases h; exact ⟨rfl, rfl, by omega⟩
/-- so far a reading goes on -/
def Fwd (least : Nat) (r : Nat → Nat → Nat → PR) : Prop := ∀ p o n x q m, r p o n = .ok (x, q, m) → p + least ≤ q ∧ (n ≤ 600 → m ≤ 600)
theorem withinP_fwd {L : List Tok} {ex : Nat → Nat → Nat → PR} (h : Fwd 1 ex) (a b : List UInt8) : Fwd 3 (withinP L ex a b) := by
  intro p o n x q m hr
  unfold withinP at hr
  split at hr
  · cases hr
  · split at hr
    · cases hr
    · rcases e : ex (p + 1) (o + 1) n with e1 | ⟨y, r, i⟩
      · rw [e] at hr; cases hr
      · rw [e] at hr
        obtain ⟨h1, h2⟩ := h _ _ _ _ _ _ e
        simp only at hr
        split at hr
        · cases hr
        · cases hr; exact ⟨by omega, h2⟩
theorem memP_fwd {L : List Tok} {ex : Nat → Nat → Nat → PR} (h : Fwd 1 ex) : Fwd 1 (memP L ex) := by
  intro p o n x q m hr
  unfold memP at hr
  rcases e : withinP L ex [91] [93] (p + 1) o n with e1 | ⟨y, r, i⟩
  · rw [e] at hr; cases hr
  · rw [e] at hr
    obtain ⟨h1, h2⟩ := withinP_fwd h _ _ _ _ _ _ _ _ e
    obtain ⟨h3, h4, h5⟩ := mk'_ok hr
    exact ⟨by omega, fun _ => h5⟩
theorem pairP_fwd {L : List Tok} {ex : Nat → Nat → Nat → PR} (h : Fwd 1 ex) (op : Int) : Fwd 1 (pairP L ex op) := by
  intro p o n x q m hr
  unfold pairP at hr
  split at hr
  · cases hr
  · split at hr
    · cases hr
    · rcases e : ex (p + 2) (o + 1) n with e1 | ⟨y, r, i⟩
      · rw [e] at hr; cases hr
      · rw [e] at hr
        obtain ⟨h1, h2⟩ := h _ _ _ _ _ _ e
        simp only at hr
        split at hr
        · cases hr
        · rcases e2 : ex (r + 1) (o + 1) i with e1 | ⟨z, r2, i2⟩
          · rw [e2] at hr; cases hr
          · rw [e2] at hr
            obtain ⟨h3, h4⟩ := h _ _ _ _ _ _ e2
            simp only at hr
            split at hr
            · cases hr
            · obtain ⟨h5, h6, h7⟩ := mk'_ok hr
              exact ⟨by omega, fun _ => h7⟩
theorem signedP_fwd {L : List Tok} {on : Nat → Nat → Nat → PR} (h : Fwd 1 on) (op : Int) : Fwd 1 (signedP L on op) := by
  intro p o n x q m hr
  unfold signedP at hr
  split at hr
  · cases hr
  · rcases e : on (p + 1) (o + 1) n with e1 | ⟨y, r, i⟩
    · rw [e] at hr; cases hr
    · rw [e] at hr
      obtain ⟨h1, h2⟩ := h _ _ _ _ _ _ e
      obtain ⟨h3, h4, h5⟩ := mk'_ok hr
      exact ⟨by omega, fun _ => h5⟩
theorem oneP_fwd {L : List Tok} {ex on : Nat → Nat → Nat → PR} (h : Fwd 1 ex) (h' : Fwd 1 on) : Fwd 1 (oneP L ex on) := by
  intro p o n x q m hr
  unfold oneP at hr
  split at hr
  · obtain ⟨h3, h4, h5⟩ := mk'_ok hr; exact ⟨by omega, fun _ => h5⟩
  · split at hr
    · obtain ⟨h3, h4, h5⟩ := mk'_ok hr; exact ⟨by omega, fun _ => h5⟩
    · split at hr
      · obtain ⟨h1, h2⟩ := withinP_fwd h _ _ _ _ _ _ _ _ hr; exact ⟨by omega, h2⟩
      · split at hr
        · exact memP_fwd h _ _ _ _ _ _ hr
        · split at hr
          · exact pairP_fwd h _ _ _ _ _ _ _ hr
          · split at hr
            · exact pairP_fwd h _ _ _ _ _ _ _ hr
            · split at hr
              · exact signedP_fwd h' _ _ _ _ _ _ _ hr
              · split at hr
                · exact signedP_fwd h' _ _ _ _ _ _ _ hr
                · split at hr
                  · exact signedP_fwd h' _ _ _ _ _ _ _ hr
                  · cases hr
theorem mkE_ok {t : Tok} {k m : Int} {s : ByteArray} {op : Int} {l : List PE} {n : Nat} {x : PE} {i : Nat} (h : mkE t k m s op l n = .ok (x, i)) : i = n + 1 ∧ i ≤ 600 := by
  unfold mkE at h
  split at h
  · cases h
  · split at h
    · cases h
    · cases h; exact ⟨rfl, by omega⟩
theorem exprF_fwd (L : List Tok) : ∀ f, Fwd 1 (exprF L f none) ∧ (∀ least, Fwd 1 (exprF L f (some (least, none)))) ∧ (∀ least x, Fwd 0 (exprF L f (some (least, some x)))) := by
  intro f
  induction f with
  | zero => exact ⟨fun p o n x q m h => (by cases h), fun _ p o n x q m h => (by cases h), fun _ _ p o n x q m h => (by cases h)⟩
  | succ f ih =>
    obtain ⟨i1, i2, i3⟩ := ih
    refine ⟨oneP_fwd (i2 1) i1, fun least p o n x q m hr => ?_, fun least y p o n x q m hr => ?_⟩
    · unfold exprF at hr
      rcases e : exprF L f none p o n with e1 | ⟨z, r, i⟩
      · rw [e] at hr; cases hr
      · rw [e] at hr
        obtain ⟨h1, h2⟩ := i1 _ _ _ _ _ _ e
        obtain ⟨h3, h4⟩ := i3 _ _ _ _ _ _ _ _ hr
        exact ⟨by omega, fun h => h4 (h2 h)⟩
    · unfold exprF at hr
      split at hr
      · cases hr; exact ⟨by omega, id⟩
      · rcases e : exprF L f (some ((rankOf (tk L p).text).1 + 1, none)) (p + 1) o n with e1 | ⟨z, r, i⟩
        · rw [e] at hr; cases hr
        · rw [e] at hr
          obtain ⟨h1, h2⟩ := i2 _ _ _ _ _ _ _ e
          simp only at hr
          rcases e2 : mkE (tk L p) 5 0 ⟨#[]⟩ (rankOf (tk L p).text).2 [y, z] i with e3 | ⟨u, j⟩
          · rw [e2] at hr; cases hr
          · rw [e2] at hr
            obtain ⟨h3, h4⟩ := i3 _ _ _ _ _ _ _ _ hr
            obtain ⟨h5, h6⟩ := mkE_ok e2
            exact ⟨by omega, fun _ => h4 h6⟩

/-- fuel enough: no reading ends for want of it -/
def Fed (r : PR) : Prop := ∀ k, r ≠ .error (k, -1)
theorem mk'_fed (p : Nat) (t : Tok) (k m : Int) (s : ByteArray) (op : Int) (l : List PE) (n : Nat) : Fed (mk' p (mkE t k m s op l n)) := by
  intro j h
  unfold mkE at h
  split at h
  · cases h
  · split at h
    · cases h
    · cases h
theorem withinP_fed {L : List Tok} {ex : Nat → Nat → Nat → PR} {a b : List UInt8} {p o n : Nat} (h : (tk L p).text = a → Fed (ex (p + 1) (o + 1) n)) : Fed (withinP L ex a b p o n) := by
  intro k hr
  unfold withinP at hr
  split at hr
  · cases hr
  · rename_i hc
    split at hr
    · cases hr
    · rcases e : ex (p + 1) (o + 1) n with e1 | ⟨y, r, i⟩
      · rw [e] at hr; exact h (by simpa using hc) k (e.trans hr)
      · rw [e] at hr; simp only at hr
        split at hr <;> cases hr
theorem rank_nil : rankOf [] = (0, 0) := by rfl
theorem tk_lt {L : List Tok} {p : Nat} {a : List UInt8} (h : (tk L p).text = a) (ha : a ≠ []) : p < L.length := by
  rcases Nat.lt_or_ge p L.length with h1 | h1
  · exact h1
  · rw [tk_out h1] at h; exact absurd h.symm ha
theorem memP_fed {L : List Tok} {ex : Nat → Nat → Nat → PR} {p o n : Nat} (h : (tk L (p + 1)).text = [91] → Fed (ex (p + 2) (o + 1) n)) : Fed (memP L ex p o n) := by
  intro k hr
  unfold memP at hr
  rcases e : withinP L ex [91] [93] (p + 1) o n with e1 | ⟨y, r, i⟩
  · rw [e] at hr; exact withinP_fed h k (e.trans hr)
  · rw [e] at hr; exact mk'_fed _ _ _ _ _ _ _ _ k hr
theorem pairP_fed {L : List Tok} {ex : Nat → Nat → Nat → PR} {op : Int} {p o n : Nat} (h : (tk L (p + 1)).text = [40] → ∀ q i, p + 2 ≤ q → Fed (ex q (o + 1) i)) (hf : Fwd 1 ex) : Fed (pairP L ex op p o n) := by
  intro k hr
  unfold pairP at hr
  split at hr
  · cases hr
  · rename_i hc
    have hx := h (by simpa using hc)
    split at hr
    · cases hr
    · rcases e : ex (p + 2) (o + 1) n with e1 | ⟨y, r, i⟩
      · rw [e] at hr; exact hx _ _ (Nat.le_refl _) k (e.trans hr)
      · rw [e] at hr; simp only at hr
        obtain ⟨h1, h2⟩ := hf _ _ _ _ _ _ e
        split at hr
        · cases hr
        · rcases e2 : ex (r + 1) (o + 1) i with e1 | ⟨z, r2, i2⟩
          · rw [e2] at hr; exact hx _ _ (by omega) k (e2.trans hr)
          · rw [e2] at hr; simp only at hr
            split at hr
            · cases hr
            · exact mk'_fed _ _ _ _ _ _ _ _ k hr
theorem signedP_fed {L : List Tok} {on : Nat → Nat → Nat → PR} {op : Int} {p o n : Nat} (h : Fed (on (p + 1) (o + 1) n)) : Fed (signedP L on op p o n) := by
  intro k hr
  unfold signedP at hr
  split at hr
  · cases hr
  · rcases e : on (p + 1) (o + 1) n with e1 | ⟨y, r, i⟩
    · rw [e] at hr; exact h k (e.trans hr)
    · rw [e] at hr; exact mk'_fed _ _ _ _ _ _ _ _ k hr
theorem exprF_fed (L : List Tok) : ∀ (N p : Nat), L.length - p ≤ N → (∀ f o n, 3 * N + 1 ≤ f → Fed (exprF L f none p o n)) ∧ (∀ f o n least x, 3 * N + 1 ≤ f → 1 ≤ least → Fed (exprF L f (some (least, some x)) p o n)) ∧ (∀ f o n least, 3 * N + 2 ≤ f → 1 ≤ least → Fed (exprF L f (some (least, none)) p o n)) := by
  intro N
  induction N using Nat.strongRecOn with
  | _ N ih =>
  intro p hp
  have hsub : ∀ q, p + 1 ≤ q → p < L.length → L.length - q ≤ N - 1 ∧ N - 1 < N := fun q h1 h2 => ⟨by omega, by omega⟩
  have H1 : ∀ q, L.length - q ≤ N → ∀ f o n, 3 * N + 1 ≤ f → Fed (exprF L f none q o n) := by
    intro q hq f o n hf
    obtain ⟨f', rfl⟩ : ∃ f', f = f' + 1 := ⟨f - 1, by omega⟩
    have hx : ∀ r i j, q < L.length → q + 1 ≤ r → Fed (exprF L f' (some (1, none)) r i j) := fun r i j h1 h2 => (ih (N - 1) (by omega) r (by omega)).2.2 f' i j 1 (by omega) (by omega)
    have hy : ∀ r i j, q < L.length → q + 1 ≤ r → Fed (exprF L f' none r i j) := fun r i j h1 h2 => (ih (N - 1) (by omega) r (by omega)).1 f' i j (by omega)
    intro k hr
    unfold exprF oneP at hr
    split at hr
    · exact mk'_fed _ _ _ _ _ _ _ _ k hr
    · split at hr
      · exact mk'_fed _ _ _ _ _ _ _ _ k hr
      · split at hr
        · rename_i ht
          exact withinP_fed (fun _ => hx _ _ _ (tk_lt ht (by simp)) (by omega)) k hr
        · split at hr
          · rename_i ht
            exact memP_fed (fun _ => hx _ _ _ (tk_lt ht (by simp)) (by omega)) k hr
          · split at hr
            · rename_i ht
              exact pairP_fed (fun _ r i h => hx _ _ _ (tk_lt ht (by simp)) (by omega)) ((exprF_fwd L f').2.1 1) k hr
            · split at hr
              · rename_i ht
                exact pairP_fed (fun _ r i h => hx _ _ _ (tk_lt ht (by simp)) (by omega)) ((exprF_fwd L f').2.1 1) k hr
              · split at hr
                · rename_i ht
                  exact signedP_fed (hy _ _ _ (tk_lt ht (by simp)) (by omega)) k hr
                · split at hr
                  · rename_i ht
                    exact signedP_fed (hy _ _ _ (tk_lt ht (by simp)) (by omega)) k hr
                  · split at hr
                    · rename_i ht
                      exact signedP_fed (hy _ _ _ (tk_lt ht (by simp)) (by omega)) k hr
                    · cases hr
  have H2 : ∀ q, L.length - q ≤ N → ∀ f o n least x, 3 * N + 1 ≤ f → 1 ≤ least → Fed (exprF L f (some (least, some x)) q o n) := by
    intro q hq f o n least x hf hl k hr
    obtain ⟨f', rfl⟩ : ∃ f', f = f' + 1 := ⟨f - 1, by omega⟩
    unfold exprF at hr
    split at hr
    · cases hr
    · rename_i hrk
      have hlt : q < L.length := by
        rcases Nat.lt_or_ge q L.length with h1 | h1
        · exact h1
        · rw [tk_out h1] at hrk
          have : (rankOf noTok.text).1 = 0 := rfl
          omega
      rcases e : exprF L f' (some ((rankOf (tk L q).text).1 + 1, none)) (q + 1) o n with e1 | ⟨z, r, i⟩
      · rw [e] at hr
        exact (ih (N - 1) (by omega) (q + 1) (by omega)).2.2 f' o n _ (by omega) (by omega) k (e.trans hr)
      · rw [e] at hr
        simp only at hr
        obtain ⟨h1, h2⟩ := (exprF_fwd L f').2.1 _ _ _ _ _ _ _ e
        rcases e2 : mkE (tk L q) 5 0 ⟨#[]⟩ (rankOf (tk L q).text).2 [x, z] i with e3 | ⟨u, j⟩
        · rw [e2] at hr
          have := mk'_fed 0 (tk L q) 5 0 ⟨#[]⟩ (rankOf (tk L q).text).2 [x, z] i k
          rw [e2] at this
          exact this hr
        · rw [e2] at hr
          exact (ih (N - 1) (by omega) r (by omega)).2.1 f' o j least u (by omega) hl k hr
  refine ⟨H1 p hp, H2 p hp, fun f o n least hf hl k hr => ?_⟩
  obtain ⟨f', rfl⟩ : ∃ f', f = f' + 1 := ⟨f - 1, by omega⟩
  unfold exprF at hr
  rcases e : exprF L f' none p o n with e1 | ⟨z, r, i⟩
  · rw [e] at hr
    exact H1 p hp f' o n (by omega) k (e.trans hr)
  · rw [e] at hr
    obtain ⟨h1, h2⟩ := (exprF_fwd L f').1 _ _ _ _ _ _ e
    exact H2 r (by omega) f' o i least z (by omega) hl k hr
end Go.Proofs.YtnofibjchhcmeabDoor
namespace Go.Proofs.YtnofibjchhcmeabDoor
open Go.RowKit
set_option linter.unusedVariables false

/-- rows of statements: kind, name, cell, expressions; a pair of what lies in its two blocks; the rest of the row -/
abbrev SL := Std.DTreeMap.Internal.Impl (Int × ByteArray × Int × EL) (fun _ => Unit)
abbrev SL.cons (k : Int) (s : ByteArray) (c : Int) (a : EL) (b e r : SL) : SL := .inner 0 (k, s, c, a) () (.inner 0 (0, ⟨#[]⟩, 0, .leaf) () b e) r
def slft : SL → SL
  | .leaf => .leaf
  | .inner _ _ _ l _ => l
def srgt : SL → SL
  | .leaf => .leaf
  | .inner _ _ _ _ r => r
theorem sl_ind {P : SL → Prop} (h0 : P .leaf) (h1 : ∀ i d v x r, P (slft x) → P (srgt x) → P r → P (.inner i d v x r)) (t : SL) : P t := by
  have H : ∀ t : SL, P t ∧ P (slft t) ∧ P (srgt t) := by
    intro t
    induction t with
    | leaf => exact ⟨h0, h0, h0⟩
    | inner i d v x r ihx ihr => exact ⟨h1 i d v x r ihx.2.1 ihx.2.2 ihr.1, ihx.1, ihr.1⟩
  exact (H t).1
def slen : SL → Nat
  | .leaf => 0
  | .inner _ _ _ _ r => slen r + 1
structure PT where
  kind : Int
  name : ByteArray
  cell : Int
  args : EL
  body : SL
  els : SL
def srow : List PT → SL
  | [] => .leaf
  | x :: l => SL.cons x.kind x.name x.cell x.args x.body x.els (srow l)
theorem slen_row (l : List PT) : slen (srow l) = l.length := by
  induction l with
  | nil => rfl
  | cons x l ih => show slen (srow l) + 1 = _; rw [ih]; rfl

abbrev TR := Except (Nat × Int) (List PT × Nat × Nat)
def mkS (t : Tok) (x : PT) (q n : Nat) : TR := if 600 < n + 1 then .error (t.pos, 42) else .ok ([x], q, n + 1)
def ex1 (L : List Tok) : Nat → Nat → Nat → PR := exprF L (3 * L.length + 2) (some (1, none))
def withinT (L : List Tok) (a b : List UInt8) (p n : Nat) : PR := withinP L (ex1 L) a b p 0 n
def lastP (L : List Tok) (p n : Nat) : PR := match ex1 L p 0 n with
  | .error e => .error e
  | .ok (x, q, m) => if ¬ (tk L q).text = [59] then .error ((tk L q).pos, 40) else .ok (x, q + 1, m)
def valueP (L : List Tok) (p n : Nat) : PR := if ¬ (tk L p).text = [61] then .error ((tk L p).pos, 40) else lastP L (p + 1) n
/-- a statement of the parts that a reading gives -/
def ofPart (t : Tok) (k : Int) (s : ByteArray) (c : Int) : PR → TR
  | .error e => .error e
  | .ok (x, q, m) => mkS t ⟨k, s, c, erow [x], .leaf, .leaf⟩ q m
def setP (L : List Tok) (p n : Nat) : TR := ofPart (tk L p) 2 ⟨(tk L p).text.toArray⟩ 0 (valueP L (p + 1) n)
def declareP (L : List Tok) (p n : Nat) : TR := if ¬ (tk L (p + 1)).kind = 2 then .error ((tk L (p + 1)).pos, 40) else ofPart (tk L p) 1 ⟨(tk L (p + 1)).text.toArray⟩ 0 (valueP L (p + 2) n)
def storeP (L : List Tok) (p n : Nat) : TR := match withinT L [91] [93] (p + 1) n with
  | .error e => .error e
  | .ok (x, q, m) => match valueP L q m with
    | .error e => .error e
    | .ok (y, r, i) => mkS (tk L p) ⟨3, ⟨#[]⟩, 0, erow [x, y], .leaf, .leaf⟩ r i
def tellP (L : List Tok) (k : Int) (p n : Nat) : TR := ofPart (tk L p) k ⟨#[]⟩ 0 (lastP L (p + 1) n)
def intoP (L : List Tok) (p n : Nat) : TR := if 255 < (tk L (p + 1)).num then .error ((tk L (p + 1)).pos, 40) else if ¬ (tk L (p + 1)).kind = 1 then .error ((tk L (p + 1)).pos, 40) else ofPart (tk L p) 5 ⟨#[]⟩ (tk L (p + 1)).num (lastP L (p + 2) n)
def stopP (L : List Tok) (p n : Nat) : TR := if ¬ (tk L (p + 1)).text = [59] then .error ((tk L (p + 1)).pos, 40) else mkS (tk L p) ⟨9, ⟨#[]⟩, 0, .leaf, .leaf, .leaf⟩ (p + 2) n
/-- a block; row reads the statements up to the bracket that shuts -/
def blockP (L : List Tok) (row : Nat → Nat → Nat → TR) (b p n : Nat) : TR :=
  if ¬ (tk L p).text = [123] then .error ((tk L p).pos, 40) else if 12 ≤ b then .error ((tk L p).pos, 41) else
  match row (b + 1) (p + 1) n with
  | .error e => .error e
  | .ok (l, q, m) => .ok (l, q + 1, m)
def otherP (L : List Tok) (row ch : Nat → Nat → Nat → TR) (b p n : Nat) : TR :=
  if ¬ (tk L p).text = [105, 102] then blockP L row b p n else if 12 ≤ b then .error ((tk L p).pos, 41) else ch (b + 1) p n
def chooseP (L : List Tok) (row ch : Nat → Nat → Nat → TR) (b p n : Nat) : TR := match withinT L [40] [41] (p + 1) n with
  | .error e => .error e
  | .ok (x, q, m) => match blockP L row b q m with
    | .error e => .error e
    | .ok (l, r, i) => if (tk L r).text = [101, 108, 115, 101] then
        (match otherP L row ch b (r + 1) i with
        | .error e => .error e
        | .ok (l2, r2, i2) => mkS (tk L p) ⟨6, ⟨#[]⟩, 0, erow [x], srow l, srow l2⟩ r2 i2)
      else mkS (tk L p) ⟨6, ⟨#[]⟩, 0, erow [x], srow l, .leaf⟩ r i
def repeatP (L : List Tok) (row : Nat → Nat → Nat → TR) (b p n : Nat) : TR := match withinT L [40] [41] (p + 1) n with
  | .error e => .error e
  | .ok (x, q, m) => match blockP L row b q m with
    | .error e => .error e
    | .ok (l, r, i) => mkS (tk L p) ⟨7, ⟨#[]⟩, 0, erow [x], srow l, .leaf⟩ r i
def stmtP (L : List Tok) (row ch : Nat → Nat → Nat → TR) (b p n : Nat) : TR :=
  if (tk L p).kind = 2 then setP L p n
  else if (tk L p).text = [118, 97, 114] then declareP L p n
  else if (tk L p).text = [109] then storeP L p n
  else if (tk L p).text = [101, 109, 105, 116] then tellP L 4 p n
  else if (tk L p).text = [102, 97, 105, 108] then tellP L 8 p n
  else if (tk L p).text = [105, 110, 116, 111] then intoP L p n
  else if (tk L p).text = [115, 116, 111, 112] then stopP L p n
  else if (tk L p).text = [105, 102] then chooseP L row ch b p n
  else if (tk L p).text = [119, 104, 105, 108, 101] then repeatP L row b p n
  else .error ((tk L p).pos, 40)
/-- 0: a statement; 1: those up to the bracket that shuts; 2: an if -/
def stmtF (L : List Tok) : Nat → Nat → Nat → Nat → Nat → TR
  | 0, _, _, _, _ => .error (0, -1)
  | f + 1, 0, b, p, n => stmtP L (stmtF L f 1) (stmtF L f 2) b p n
  | f + 1, 1, b, p, n => if (tk L p).text = [125] then .ok ([], p, n) else
    match stmtF L f 0 b p n with
    | .error e => .error e
    | .ok (x, q, m) => match stmtF L f 1 b q m with
      | .error e => .error e
      | .ok (l, r, i) => .ok (x ++ l, r, i)
  | f + 1, _, b, p, n => chooseP L (stmtF L f 1) (stmtF L f 2) b p n
theorem stmtF_row (L : List Tok) (f b p n : Nat) : stmtF L (f + 1) 1 b p n = if (tk L p).text = [125] then .ok ([], p, n) else
    match stmtF L f 0 b p n with
    | .error e => .error e
    | .ok (x, q, m) => match stmtF L f 1 b q m with
      | .error e => .error e
      | .ok (l, r, i) => .ok (x ++ l, r, i) := rfl
def stmtT (L : List Tok) (b p n : Nat) : TR := stmtF L (2 * L.length + 2) 0 b p n
def textF (L : List Tok) : Nat → Nat → Nat → TR
  | 0, _, _ => .error (0, -1)
  | f + 1, p, n => if (tk L p).kind = 0 then .ok ([], p, n) else
    match stmtT L 0 p n with
    | .error e => .error e
    | .ok (x, q, m) => match textF L f q m with
      | .error e => .error e
      | .ok (l, r, i) => .ok (x ++ l, r, i)
/-- what Parse answers -/
def parseT (s : List UInt8) : Except (Nat × Int) (List PT) := match cut s with
  | .inr e => .error e
  | .inl L => match textF L (L.length + 1) 0 0 with
    | .error e => .error e
    | .ok (l, _, _) => .ok l

theorem mkS_ok {t : Tok} {x : PT} {q n : Nat} {l : List PT} {r m : Nat} (h : mkS t x q n = .ok (l, r, m)) : l = [x] ∧ r = q ∧ m = n + 1 ∧ m ≤ 600 := by
  unfold mkS at h
  split at h
  · cases h
  · cases h; exact ⟨rfl, rfl, rfl, by omega⟩
def FwdT (least : Nat) (r : Nat → Nat → Nat → TR) : Prop := ∀ b p n x q m, r b p n = .ok (x, q, m) → p + least ≤ q ∧ (n ≤ 600 → m ≤ 600)
theorem ex1_fwd (L : List Tok) : Fwd 1 (ex1 L) := (exprF_fwd L _).2.1 1
theorem withinT_fwd {L : List Tok} {a b : List UInt8} {p n : Nat} {x : PE} {q m : Nat} (h : withinT L a b p n = .ok (x, q, m)) : p + 3 ≤ q ∧ (n ≤ 600 → m ≤ 600) := withinP_fwd (ex1_fwd L) _ _ _ _ _ _ _ _ h
theorem lastP_fwd {L : List Tok} {p n : Nat} {x : PE} {q m : Nat} (h : lastP L p n = .ok (x, q, m)) : p + 2 ≤ q ∧ (n ≤ 600 → m ≤ 600) := by
  unfold lastP at h
  rcases e : ex1 L p 0 n with e1 | ⟨y, r, i⟩
  · rw [e] at h; cases h
  · rw [e] at h; simp only at h
    obtain ⟨h1, h2⟩ := ex1_fwd L _ _ _ _ _ _ e
    split at h
    · cases h
    · cases h; exact ⟨by omega, h2⟩
theorem valueP_fwd {L : List Tok} {p n : Nat} {x : PE} {q m : Nat} (h : valueP L p n = .ok (x, q, m)) : p + 3 ≤ q ∧ (n ≤ 600 → m ≤ 600) := by
  unfold valueP at h
  split at h
  · cases h
  · obtain ⟨h1, h2⟩ := lastP_fwd h; exact ⟨by omega, h2⟩
theorem ofPart_fwd {t : Tok} {k : Int} {s : ByteArray} {c : Int} {r : PR} {l : List PT} {q m : Nat} (h : ofPart t k s c r = .ok (l, q, m)) : ∃ x i, r = .ok (x, q, i) ∧ m ≤ 600 := by
  unfold ofPart at h
  rcases r with e | ⟨x, r, i⟩
  · cases h
  · simp only at h
    obtain ⟨h1, h2, h3, h4⟩ := mkS_ok h
    subst h2
    exact ⟨x, i, rfl, h4⟩
theorem blockP_fwd {L : List Tok} {row : Nat → Nat → Nat → TR} (hr : FwdT 0 row) : FwdT 2 (blockP L row) := by
  intro b p n x q m h
  unfold blockP at h
  split at h
  · cases h
  · split at h
    · cases h
    · rcases e : row (b + 1) (p + 1) n with e1 | ⟨y, r, i⟩
      · rw [e] at h; cases h
      · rw [e] at h; simp only at h
        obtain ⟨h1, h2⟩ := hr _ _ _ _ _ _ e
        cases h; exact ⟨by omega, h2⟩
theorem otherP_fwd {L : List Tok} {row ch : Nat → Nat → Nat → TR} (hr : FwdT 0 row) (hc : FwdT 1 ch) : FwdT 1 (otherP L row ch) := by
  intro b p n x q m h
  unfold otherP at h
  split at h
  · obtain ⟨h1, h2⟩ := blockP_fwd hr _ _ _ _ _ _ h; exact ⟨by omega, h2⟩
  · split at h
    · cases h
    · exact hc _ _ _ _ _ _ h
theorem chooseP_fwd {L : List Tok} {row ch : Nat → Nat → Nat → TR} (hr : FwdT 0 row) (hc : FwdT 1 ch) : FwdT 1 (chooseP L row ch) := by
  intro b p n x q m h
  unfold chooseP at h
  rcases e : withinT L [40] [41] (p + 1) n with e1 | ⟨y, r, i⟩
  · rw [e] at h; cases h
  · rw [e] at h; simp only at h
    obtain ⟨h1, h2⟩ := withinT_fwd e
    rcases e2 : blockP L row b r i with e1 | ⟨z, r2, i2⟩
    · rw [e2] at h; cases h
    · rw [e2] at h; simp only at h
      obtain ⟨h3, h4⟩ := blockP_fwd hr _ _ _ _ _ _ e2
      split at h
      · rcases e3 : otherP L row ch b (r2 + 1) i2 with e1 | ⟨u, r3, i3⟩
        · rw [e3] at h; cases h
        · rw [e3] at h; simp only at h
          obtain ⟨h5, h6⟩ := otherP_fwd hr hc _ _ _ _ _ _ e3
          obtain ⟨g1, g2, g3, g4⟩ := mkS_ok h
          exact ⟨by omega, fun _ => g4⟩
      · obtain ⟨g1, g2, g3, g4⟩ := mkS_ok h
        exact ⟨by omega, fun _ => g4⟩
theorem repeatP_fwd {L : List Tok} {row : Nat → Nat → Nat → TR} (hr : FwdT 0 row) : FwdT 1 (repeatP L row) := by
  intro b p n x q m h
  unfold repeatP at h
  rcases e : withinT L [40] [41] (p + 1) n with e1 | ⟨y, r, i⟩
  · rw [e] at h; cases h
  · rw [e] at h; simp only at h
    obtain ⟨h1, h2⟩ := withinT_fwd e
    rcases e2 : blockP L row b r i with e1 | ⟨z, r2, i2⟩
    · rw [e2] at h; cases h
    · rw [e2] at h; simp only at h
      obtain ⟨h3, h4⟩ := blockP_fwd hr _ _ _ _ _ _ e2
      obtain ⟨g1, g2, g3, g4⟩ := mkS_ok h
      exact ⟨by omega, fun _ => g4⟩
theorem stmtP_fwd {L : List Tok} {row ch : Nat → Nat → Nat → TR} (hr : FwdT 0 row) (hc : FwdT 1 ch) : FwdT 1 (stmtP L row ch) := by
  intro b p n x q m h
  unfold stmtP at h
  split at h
  · obtain ⟨y, i, h1, h2⟩ := ofPart_fwd h
    obtain ⟨h3, h4⟩ := valueP_fwd h1
    exact ⟨by omega, fun _ => h2⟩
  split at h
  · unfold declareP at h
    split at h
    · cases h
    · obtain ⟨y, i, h1, h2⟩ := ofPart_fwd h
      obtain ⟨h3, h4⟩ := valueP_fwd h1
      exact ⟨by omega, fun _ => h2⟩
  split at h
  · unfold storeP at h
    rcases e : withinT L [91] [93] (p + 1) n with e1 | ⟨y, r, i⟩
    · rw [e] at h; cases h
    · rw [e] at h; simp only at h
      obtain ⟨h1, h2⟩ := withinT_fwd e
      rcases e2 : valueP L r i with e1 | ⟨z, r2, i2⟩
      · rw [e2] at h; cases h
      · rw [e2] at h; simp only at h
        obtain ⟨h3, h4⟩ := valueP_fwd e2
        obtain ⟨g1, g2, g3, g4⟩ := mkS_ok h
        exact ⟨by omega, fun _ => g4⟩
  split at h
  · obtain ⟨y, i, h1, h2⟩ := ofPart_fwd h
    obtain ⟨h3, h4⟩ := lastP_fwd h1
    exact ⟨by omega, fun _ => h2⟩
  split at h
  · obtain ⟨y, i, h1, h2⟩ := ofPart_fwd h
    obtain ⟨h3, h4⟩ := lastP_fwd h1
    exact ⟨by omega, fun _ => h2⟩
  split at h
  · unfold intoP at h
    split at h
    · cases h
    split at h
    · cases h
    · obtain ⟨y, i, h1, h2⟩ := ofPart_fwd h
      obtain ⟨h3, h4⟩ := lastP_fwd h1
      exact ⟨by omega, fun _ => h2⟩
  split at h
  · unfold stopP at h
    split at h
    · cases h
    · obtain ⟨g1, g2, g3, g4⟩ := mkS_ok h
      exact ⟨by omega, fun _ => g4⟩
  split at h
  · exact chooseP_fwd hr hc _ _ _ _ _ _ h
  split at h
  · exact repeatP_fwd hr _ _ _ _ _ _ h
  · cases h
theorem stmtF_fwd (L : List Tok) : ∀ f, FwdT 1 (stmtF L f 0) ∧ FwdT 0 (stmtF L f 1) ∧ FwdT 1 (stmtF L f 2) := by
  intro f
  induction f with
  | zero => exact ⟨fun _ _ _ _ _ _ h => (by cases h), fun _ _ _ _ _ _ h => (by cases h), fun _ _ _ _ _ _ h => (by cases h)⟩
  | succ f ih =>
    obtain ⟨i0, i1, i2⟩ := ih
    refine ⟨stmtP_fwd i1 i2, ?_, chooseP_fwd i1 i2⟩
    intro b p n x q m h
    rw [stmtF_row] at h
    split at h
    · cases h; exact ⟨by omega, id⟩
    · rcases e : stmtF L f 0 b p n with e1 | ⟨y, r, i⟩
      · rw [e] at h; cases h
      · rw [e] at h; simp only at h
        obtain ⟨h1, h2⟩ := i0 _ _ _ _ _ _ e
        rcases e2 : stmtF L f 1 b r i with e1 | ⟨z, r2, i2⟩
        · rw [e2] at h; cases h
        · rw [e2] at h; simp only at h
          obtain ⟨h3, h4⟩ := i1 _ _ _ _ _ _ e2
          cases h
          exact ⟨by omega, fun hn => h4 (h2 hn)⟩
end Go.Proofs.YtnofibjchhcmeabDoor
