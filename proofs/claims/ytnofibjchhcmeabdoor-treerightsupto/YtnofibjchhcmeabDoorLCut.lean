/- What lex.Cut answers of any text, in whatever world. -/
import Derived.Test.YtnofibjchhcmeabDoorLChars
import Derived.Test.YtnofibjchhcmeabDoorLSig
namespace Go.Proofs.YtnofibjchhcmeabDoor
open Go.RowKit

def cutS (f p : Nat) (R : List UInt8) : CutR := cutG f (p + gapLen R) (R.drop (gapLen R))
theorem cut_eq (L : List UInt8) (h : L.length ≤ 8192) : cut L = cutS (L.length + 1) 0 L := by
  unfold cut cutS
  rw [if_neg (by omega), Nat.zero_add]
theorem cutG_nil (f p : Nat) : cutG (f + 1) p [] = .ok [⟨0, [], 0, p⟩] := rfl
theorem cutG_cons (f p : Nat) (b : UInt8) (T : List UInt8) : cutG (f + 1) p (b :: T) = match tokOf (b :: T) with
    | .inr (o, e) => .err (p + o) e
    | .inl (k, m, n) => (cutS f (p + n) ((b :: T).drop n)).cons ⟨k, (b :: T).take n, m, p⟩ := rfl

theorem gapLen_le (R : List UInt8) : gapLen R ≤ R.length := ga_le _ _ _

theorem ga_pos {σ : Type} (step : σ → UInt8 → Bool × σ) (st : σ) (b : UInt8) (T : List UInt8) (h : (step st b).1 = true) : 1 ≤ ga step st (b :: T) := by
  unfold ga; rw [if_pos h]; omega

theorem tokOf_tok {R : List UInt8} {k m : Int} {n : Nat} (h : tokOf R = .tok k m n) : 1 ≤ n ∧ n ≤ R.length ∧ k ≠ 0 := by
  cases R with
  | nil => simp [tokOf] at h
  | cons b T =>
    replace h : (if isD b = true then numTok (b :: T) else if isL b = true then wordTok (b :: T) else signTok (b :: T)) = .tok k m n := h
    split at h
    · rename_i hd
      unfold numTok at h
      dsimp only at h
      split at h
      · cases h
      · split at h
        · cases h
        · injection h with h0
          obtain ⟨h1, h2, h3⟩ : _ ∧ _ ∧ _ := by simpa using h0
          subst h1 h3
          exact ⟨ga_pos dgStep () b T hd, ga_le _ _ _, by decide⟩
    · split at h
      · rename_i hl
        have hp : (alStep () b).1 = true := by show isA b = true; unfold isA; rw [hl]; rfl
        unfold wordTok at h
        dsimp only at h
        split at h
        · injection h with h0
          obtain ⟨h1, h2, h3⟩ : _ ∧ _ ∧ _ := by simpa using h0
          subst h1 h3
          exact ⟨ga_pos alStep () b T hp, ga_le _ _ _, by decide⟩
        · split at h
          · cases h
          · injection h with h0
            obtain ⟨h1, h2, h3⟩ : _ ∧ _ ∧ _ := by simpa using h0
            subst h1 h3
            exact ⟨ga_pos alStep () b T hp, ga_le _ _ _, by decide⟩
      · unfold signTok at h
        dsimp only at h
        split at h
        · cases h
        · injection h with h0
          obtain ⟨h1, h2, h3⟩ : _ ∧ _ ∧ _ := by simpa using h0
          subst h1 h3
          exact ⟨by omega, ga_le _ _ _, by decide⟩

/-- fuel enough is fuel enough -/
theorem cutG_fuel : ∀ (f g p : Nat) (R : List UInt8), R.length < f → R.length < g → cutG f p R = cutG g p R := by
  intro f
  induction f with
  | zero => intro g p R h; omega
  | succ f ih =>
    intro g p R hf hg
    cases g with
    | zero => omega
    | succ g =>
      cases R with
      | nil => rfl
      | cons b T =>
        rw [cutG_cons, cutG_cons]
        rcases e : tokOf (b :: T) with ⟨k, m, n⟩ | ⟨o, e'⟩
        · have h := tokOf_tok e
          dsimp only
          unfold cutS
          have hl : (((b :: T).drop n).drop (gapLen ((b :: T).drop n))).length ≤ T.length := by
            simp only [List.length_drop, List.length_cons]; omega
          rw [ih g _ _ (by simp at hf; omega) (by simp at hg; omega)]
        · rfl
theorem cutS_fuel (f g p : Nat) (R : List UInt8) (hf : R.length < f) (hg : R.length < g) : cutS f p R = cutS g p R := by
  unfold cutS
  have : (R.drop (gapLen R)).length ≤ R.length := by simp
  exact cutG_fuel f g _ _ (by omega) (by omega)

/-- tokens stand at their places, and rise -/
def placed (L : List UInt8) : Nat → List Tok → Prop
  | k, [] => k = L.length
  | k, t :: l => k ≤ t.pos ∧ t.pos + t.text.length ≤ L.length ∧ (L.drop t.pos).take t.text.length = t.text ∧ (t.kind = 0 ↔ l = []) ∧ placed L (t.pos + t.text.length) l

theorem cutG_placed (L : List UInt8) : ∀ (f p k : Nat) (l : List Tok), k ≤ p → p ≤ L.length → cutG f p (L.drop p) = .ok l → placed L k l ∧ l ≠ [] := by
  intro f
  induction f with
  | zero => intro p k l hk hp h; cases h
  | succ f ih =>
    intro p k l hk hp h
    rcases e : L.drop p with _ | ⟨b, T⟩
    · rw [e, cutG_nil] at h
      injection h with h
      subst h
      have h1 : (L.drop p).length = 0 := by rw [e]; rfl
      simp only [List.length_drop] at h1
      refine ⟨⟨hk, by simp; omega, by simp, by simp, ?_⟩, by simp⟩
      show p + 0 = L.length
      omega
    · rw [e, cutG_cons] at h
      rcases e1 : tokOf (b :: T) with ⟨kd, m, n⟩ | ⟨o, e'⟩
      · rw [e1] at h
        dsimp only at h
        have ht := tokOf_tok e1
        have hlen : (L.drop p).length = T.length + 1 := by rw [e]; rfl
        simp only [List.length_drop] at hlen
        have hn : n ≤ T.length + 1 := by simpa using ht.2.1
        rcases e2 : cutS f (p + n) ((b :: T).drop n) with l' | ⟨k', e'⟩
        · rw [e2] at h
          injection h with h
          subst h
          have hd : ((b :: T).drop n) = L.drop (p + n) := by rw [← e, List.drop_drop]
          unfold cutS at e2
          rw [hd, List.drop_drop] at e2
          have hg := gapLen_le (L.drop (p + n))
          simp only [List.length_drop] at hg
          have := ih (p + n + gapLen (L.drop (p + n))) (p + n) l' (by omega) (by omega) e2
          have htl : ((b :: T).take n).length = n := by rw [List.length_take]; exact Nat.min_eq_left ht.2.1
          refine ⟨⟨hk, ?_, ?_, ?_, ?_⟩, by simp⟩
          · show p + ((b :: T).take n).length ≤ _; rw [htl]; omega
          · show (L.drop p).take ((b :: T).take n).length = (b :: T).take n; rw [htl, e]
          · show kd = 0 ↔ l' = []
            exact ⟨fun h => absurd h ht.2.2, fun h => absurd h this.2⟩
          · show placed L (p + ((b :: T).take n).length) l'; rw [htl]; exact this.1
        · rw [e2] at h; cases h
      · rw [e1] at h; cases h

theorem cut_placed (L : List UInt8) (l : List Tok) (h : cut L = .ok l) : placed L 0 l ∧ l ≠ [] := by
  unfold cut at h
  split at h
  · cases h
  · exact cutG_placed L _ _ 0 l (Nat.zero_le _) (gapLen_le L) h

/-- all places moved -/
def shift (d : Nat) : CutR → CutR
  | .inl l => .ok (l.map fun t => { t with pos := t.pos + d })
  | .inr (k, e) => .err (k + d) e
theorem shift_cons (d : Nat) (t : Tok) (r : CutR) : shift d (r.cons t) = (shift d r).cons { t with pos := t.pos + d } := by
  cases r <;> rfl
theorem cutG_shift (d : Nat) : ∀ (f p : Nat) (R : List UInt8), R.length < f → cutG f (p + d) R = shift d (cutG f p R) := by
  intro f
  induction f with
  | zero => intro p R h; omega
  | succ f ih =>
    intro p R h
    cases R with
    | nil => rfl
    | cons b T =>
      rw [cutG_cons, cutG_cons]
      rcases e : tokOf (b :: T) with ⟨k, m, n⟩ | ⟨o, e'⟩
      · have ht := tokOf_tok e
        dsimp only
        rw [shift_cons]
        unfold cutS
        have hl : (((b :: T).drop n).drop (gapLen ((b :: T).drop n))).length ≤ T.length := by
          simp only [List.length_drop, List.length_cons]; omega
        rw [← ih _ _ (by simp at h; omega), show p + d + n + gapLen ((b :: T).drop n) = p + n + gapLen ((b :: T).drop n) + d by omega]
      · show CutR.err (p + d + o) e' = .err (p + o + d) e'
        rw [show p + d + o = p + o + d by omega]

theorem ga_app_stop {σ : Type} (step : σ → UInt8 → Bool × σ) (c : UInt8) (hs : ∀ st, (step st c).1 = false) (A B : List UInt8) : ∀ st, ga step st (A ++ c :: B) = ga step st A := by
  induction A with
  | nil => intro st; show ga step st (c :: B) = 0; unfold ga; rw [if_neg (by rw [hs]; decide)]
  | cons a A ih => intro st; show ga step st (a :: (A ++ c :: B)) = ga step st (a :: A); unfold ga; rw [ih]

/-- the state behind some bytes -/
def runs {σ : Type} (step : σ → UInt8 → Bool × σ) (st : σ) (A : List UInt8) : σ := A.foldl (fun s b => (step s b).2) st
theorem ga_app {σ : Type} (step : σ → UInt8 → Bool × σ) (A B : List UInt8) : ∀ st, ga step st (A ++ B) = if ga step st A < A.length then ga step st A else A.length + ga step (runs step st A) B := by
  induction A with
  | nil => intro st; simp [ga, runs]
  | cons a A ih =>
    intro st
    have e0 : ∀ X, ga step st (a :: X) = if (step st a).1 then ga step (step st a).2 X + 1 else 0 := fun _ => rfl
    have e9 : runs step st (a :: A) = runs step (step st a).2 A := rfl
    rw [List.cons_append, e0, e0, e9]
    by_cases h : (step st a).1 = true
    · rw [if_pos h, if_pos h, ih]
      by_cases h2 : ga step (step st a).2 A < A.length
      · rw [if_pos h2, if_pos (by simp; omega)]
      · rw [if_neg h2, if_neg (by simp; omega)]
        simp only [List.length_cons]
        omega
    · rw [if_neg h, if_neg h, if_pos (by simp)]

theorem isS_stop (c : UInt8) (h1 : signs1.contains c = false) (row : List UInt8) : isS (row ++ [c]) = false := by
  have hc : ∀ d ∈ signs1, d ≠ c := by
    intro d hd e
    subst e
    rw [List.contains_iff_mem.2 hd] at h1
    cases h1
  unfold isS
  have h2 : signs2.contains (row ++ [c]) = false := by
    rw [Bool.eq_false_iff]
    intro h
    have hm := List.contains_iff_mem.1 h
    have hlast : ∀ x ∈ signs2, x.getLast? ≠ some c := by
      intro x hx
      unfold signs2 at hx
      simp only [List.mem_cons, List.not_mem_nil, or_false] at hx
      have h61 := hc 61 (by decide)
      have h60 := hc 60 (by decide)
      have h62 := hc 62 (by decide)
      rcases hx with rfl | rfl | rfl | rfl | rfl | rfl <;> (intro e; simp at e) <;> first | exact h61 e | exact h60 e | exact h62 e
    exact hlast _ hm (by simp)
  rw [h2]
  rcases row with _ | ⟨a, _ | ⟨b, r⟩⟩
  · exact h1
  · rfl
  · rfl

theorem headL_app (A : List UInt8) (c : UInt8) (B : List UInt8) (n : Nat) (h : n ≤ A.length) (hc : isL c = false) : headL ((A ++ c :: B).drop n) = headL (A.drop n) := by
  rw [List.drop_append_of_le_length h]
  rcases e : A.drop n with _ | ⟨x, y⟩
  · exact hc
  · rfl

/-- the token at the head is the same where a byte that belongs to no token stands behind -/
theorem tokOf_app (b : UInt8) (T : List UInt8) (c : UInt8) (B : List UInt8) (hD : isD c = false) (hL : isL c = false) (hS : signs1.contains c = false) : tokOf ((b :: T) ++ c :: B) = tokOf (b :: T) := by
  have e1 : ga dgStep () ((b :: T) ++ c :: B) = ga dgStep () (b :: T) := ga_app_stop dgStep c (fun _ => hD) _ _ _
  have e2 : ga alStep () ((b :: T) ++ c :: B) = ga alStep () (b :: T) := ga_app_stop alStep c (fun _ => by show isA c = false; unfold isA; rw [hL, hD]; rfl) _ _ _
  have e3 : ga sgStep [] ((b :: T) ++ c :: B) = ga sgStep [] (b :: T) := ga_app_stop sgStep c (fun row => isS_stop c hS row) _ _ _
  show (if isD b = true then numTok ((b :: T) ++ c :: B) else if isL b = true then wordTok ((b :: T) ++ c :: B) else signTok ((b :: T) ++ c :: B)) = (if isD b = true then numTok (b :: T) else if isL b = true then wordTok (b :: T) else signTok (b :: T))
  have n1 : numTok ((b :: T) ++ c :: B) = numTok (b :: T) := by
    unfold numTok
    dsimp only
    rw [e1, List.take_append_of_le_length (ga_le _ _ _), headL_app _ _ _ _ (ga_le _ _ _) hL]
  have n2 : wordTok ((b :: T) ++ c :: B) = wordTok (b :: T) := by
    unfold wordTok
    dsimp only
    rw [e2, List.take_append_of_le_length (ga_le _ _ _)]
  have n3 : signTok ((b :: T) ++ c :: B) = signTok (b :: T) := by
    unfold signTok
    dsimp only
    rw [e3]
  rw [n1, n2, n3]

theorem gapLen_nl (r : Bool) (t : List UInt8) : ga skStep r (10 :: t) = 1 + gapLen t := by
  show (if (skStep r 10).1 then ga skStep (skStep r 10).2 t + 1 else 0) = _
  have h1 : (skStep r 10).1 = true := by cases r <;> decide
  have h2 : (skStep r 10).2 = false := by cases r <;> decide
  rw [if_pos h1, h2]
  unfold gapLen
  omega

def joinR : CutR → CutR → CutR
  | .inr (k, e), _ => .err k e
  | .inl a, r => r.pre a.dropLast
theorem joinR_cons (t : Tok) (x y : CutR) (h : ∀ a, x = .ok a → a ≠ []) : joinR (x.cons t) y = (joinR x y).cons t := by
  cases x with
  | inr x => rfl
  | inl a =>
    have := h a rfl
    cases a with
    | nil => exact absurd rfl this
    | cons u v =>
      show CutR.pre ((t :: u :: v).dropLast) y = _
      cases y <;> rfl
theorem cutG_ne : ∀ (f p : Nat) (R : List UInt8) (a : List Tok), cutG f p R = .ok a → a ≠ [] := by
  intro f p R a h
  cases f with
  | zero => cases h
  | succ f =>
    cases R with
    | nil => rw [cutG_nil] at h; injection h with h; subst h; simp
    | cons b T =>
      rw [cutG_cons] at h
      split at h
      · cases h
      · rename_i k m n _
        rcases e : cutS f (p + n) ((b :: T).drop n) with l | ⟨k', e'⟩
        · rw [e] at h; injection h with h; subst h; simp
        · rw [e] at h; cases h

/-- a text behind another one -/
theorem cutS_two (t : List UInt8) : ∀ (f p : Nat) (R : List UInt8), (R ++ 10 :: t).length < f → cutS f p (R ++ 10 :: t) = joinR (cutS f p R) (cutS f (p + R.length + 1) t) := by
  intro f
  induction f with
  | zero => intro p R h; omega
  | succ f ih =>
    intro p R h
    simp only [List.length_append, List.length_cons] at h
    have hg := ga_app skStep R (10 :: t) false
    rw [gapLen_nl] at hg
    change gapLen (R ++ 10 :: t) = if gapLen R < R.length then gapLen R else R.length + (1 + gapLen t) at hg
    by_cases hlt : gapLen R < R.length
    · have hg' : gapLen (R ++ 10 :: t) = gapLen R := by rw [hg, if_pos hlt]
      unfold cutS
      rw [hg', List.drop_append_of_le_length (by omega)]
      rcases e : R.drop (gapLen R) with _ | ⟨b, T⟩
      · have : (R.drop (gapLen R)).length = 0 := by rw [e]; rfl
        simp at this; omega
      · have hRl : (R.drop (gapLen R)).length = T.length + 1 := by rw [e]; rfl
        simp only [List.length_drop] at hRl
        show cutG (f + 1) (p + gapLen R) (b :: (T ++ 10 :: t)) = _
        rw [cutG_cons, cutG_cons]
        have et := tokOf_app b T 10 t (by decide) (by decide) (by decide)
        rw [List.cons_append] at et
        rw [et]
        rcases e1 : tokOf (b :: T) with ⟨k, m, n⟩ | ⟨o, e'⟩
        · have ht := tokOf_tok e1
          dsimp only
          rw [show b :: (T ++ 10 :: t) = (b :: T) ++ 10 :: t from rfl, List.drop_append_of_le_length ht.2.1, List.take_append_of_le_length ht.2.1]
          have hn : n ≤ T.length + 1 := by simpa using ht.2.1
          rw [ih _ _ (by simp; omega), joinR_cons]
          · have e5 : p + gapLen R + n + ((b :: T).drop n).length + 1 = p + R.length + 1 := by simp; omega
            rw [e5]
            have : cutS f (p + R.length + 1) t = cutS (f + 1) (p + R.length + 1) t := cutS_fuel _ _ _ _ (by omega) (by omega)
            rw [this]
            rfl
          · intro a ha
            unfold cutS at ha
            exact cutG_ne _ _ _ _ ha
        · rfl
    · have hle := gapLen_le R
      have hge : gapLen R = R.length := by omega
      have hg' : gapLen (R ++ 10 :: t) = R.length + (1 + gapLen t) := by
        rw [hg, if_neg hlt]
      have e1 : cutS (f + 1) p R = .ok [⟨0, [], 0, p + R.length⟩] := by
        unfold cutS
        rw [hge, List.drop_length]
        rfl
      rw [e1]
      show cutS (f + 1) p (R ++ 10 :: t) = CutR.pre [] _
      have e2 : ∀ r : CutR, CutR.pre [] r = r := by intro r; cases r <;> rfl
      rw [e2]
      unfold cutS
      rw [hg', show p + (R.length + (1 + gapLen t)) = p + R.length + 1 + gapLen t by omega]
      congr 1
      rw [← List.drop_drop, List.drop_left, ← List.drop_drop]
      rfl

theorem cut_two (s t : List UInt8) (h : s.length + 1 + t.length ≤ 8192) : cut (s ++ 10 :: t) = joinR (cut s) (shift (s.length + 1) (cut t)) := by
  rw [cut_eq _ (by simp; omega), cut_eq _ (by omega), cut_eq _ (by omega), cutS_two t _ _ _ (by simp)]
  have e1 : cutS ((s ++ 10 :: t).length + 1) 0 s = cutS (s.length + 1) 0 s := cutS_fuel _ _ _ _ (by simp; omega) (by omega)
  have e2 : cutS ((s ++ 10 :: t).length + 1) (0 + s.length + 1) t = cutS (t.length + 1) (0 + s.length + 1) t := cutS_fuel _ _ _ _ (by simp; omega) (by omega)
  rw [e1, e2]
  congr 1
  unfold cutS
  rw [show 0 + s.length + 1 + gapLen t = 0 + gapLen t + (s.length + 1) by omega]
  exact cutG_shift _ _ _ _ (by simp; omega)
end Go.Proofs.YtnofibjchhcmeabDoor
namespace Go.Proofs.YtnofibjchhcmeabDoor
open Go.RowKit
set_option linter.unusedVariables false

/-- a token's cells, and those of a row of tokens -/
def tc (t : Tok) : List Value := [.int .i64 t.kind, .string ⟨t.text.toArray⟩, .int .i64 t.num, .int .i64 (t.pos : Int)]
def tcs : List Tok → List Value
  | [] => []
  | t :: l => tc t ++ tcs l
set_option maxRecDepth 100000 in
theorem tcs_len (l : List Tok) : (tcs l).length = l.length * 4 := by
  induction l with
  | nil => rfl
  | cons t l ih => simp [tcs, tc, ih]; omega
set_option maxRecDepth 100000 in
theorem tcs_app (a b : List Tok) : tcs (a ++ b) = tcs a ++ tcs b := by
  induction a with
  | nil => rfl
  | cons t a ih => simp [tcs, ih]
set_option maxRecDepth 100000 in
theorem tc_one (t : Tok) : ∀ u ∈ tcs [t], u.oneCell' = true := by
  intro u hu
  simp [tcs, tc] at hu
  rcases hu with rfl | rfl | rfl | rfl <;> rfl

/-- a slice of tokens of the call's own, from block 'base' on -/
def TOwn (w : World) (base : Nat) (v : Value) (l : List Tok) : Prop := w.ownsRow base 84 4 v l.length (tcs l)
set_option maxRecDepth 100000 in
theorem TOwn.keep {w w' : World} {base : Nat} {v : Value} {l : List Tok} (h : TOwn w base v l) (hb : ∀ k, base ≤ k → k < w.heap.size → w'.heap[k]? = w.heap[k]?) : TOwn w' base v l := by
  obtain ⟨h1, h2⟩ := h
  refine ⟨h1, ?_⟩
  rcases h2 with h2 | ⟨g, cap, cur, e1, e2, e3, e4⟩
  · exact Or.inl h2
  · refine Or.inr ⟨g, cap, cur, e1, e2, ?_, e4⟩
    have hg : g < w.heap.size := by
      rcases Nat.lt_or_ge g w.heap.size with h | h
      · exact h
      · rw [Array.getElem?_eq_none h] at e3; cases e3
    rw [hb g e2 hg]; exact e3
set_option maxRecDepth 100000 in
theorem TOwn.gr {w w' : World} {base pb : Nat} {v : Value} {l : List Tok} (h : TOwn w base v l) (g : Gr w w' pb) (hp : pb < base) : TOwn w' base v l :=
  h.keep fun k hk hs => g.block k hs (by intro e; cases e; omega)
set_option maxRecDepth 100000 in
theorem TOwn.nil (w : World) (base : Nat) : TOwn w base (.slice none 0 0) [] := ⟨rfl, Or.inl ⟨rfl, rfl⟩⟩

set_option maxRecDepth 100000 in
theorem FB.gr' {B pb : Nat} {a b c : World} (h : FB B pb a b) (g : Gr b c pb) (hB : B ≤ b.heap.size) : FB B pb a c :=
  ⟨g.os.trans h.os, g.tape.trans h.tape, g.output.trans h.output, Nat.le_trans h.size g.size, fun k hk hne => (g.block k (by omega) (by intro e; cases e; exact hne rfl)).trans (h.block k hk hne)⟩
set_option maxRecDepth 100000 in
theorem FB.grown {B pb : Nat} {a b c : World} (h : FB B pb a b) {row : Option Nat} (g : b.grownBy c row) (hB : B ≤ b.heap.size) (hr : ∀ k, row = some k → B ≤ k) : FB B pb a c :=
  ⟨g.os.trans h.os, g.tape.trans h.tape, g.output.trans h.output, Nat.le_trans h.size g.size, fun k hk hne => (g.block k (by omega) (by intro e; have := hr k e.symm; omega)).trans (h.block k hk hne)⟩

/-- what comes of all tokens -/
def AllPost (w : World) (pb : Nat) : CutR → Ending → World → Prop
  | .inl l, e, w' => ∃ v, e = .returned v ∧ TOwn w' w.heap.size v l ∧ FB w.heap.size pb w w'
  | .inr (k, er), e, w' => e = gaveUp (k : Int) er ∧ FB w.heap.size pb w w'

set_option maxRecDepth 100000 in
theorem info33 : (Tryd.prog.info? 84).map (fun i => (i.zero, i.size, i.bytes)) = some (some (.agg #[.int .i64 0, .string ⟨#[]⟩, .int .i64 0, .int .i64 0]), 4, 40) := by kernel_rfl

set_option maxRecDepth 100000 in
theorem extract_arr (s : ByteArray) (p n : Nat) : s.extract p (p + n) = ⟨((s.data.toList.drop p).take n).toArray⟩ := by
  apply ByteArray.ext
  apply Array.toList_inj.1
  rw [extract_list]

set_option maxRecDepth 100000 in
set_option maxHeartbeats 4000000 in
theorem all_any (pb : Nat) (s : ByteArray) (w : World) (h : CS w pb s 0) (hs : s.size ≤ 1000000) :
    Calls Tryd.prog 45 #[.pointer (some ⟨pb, 0, none⟩)] w fun e w' => AllPost w pb (cutS (s.size + 1) 0 s.data.toList) e w' := by
  obtain ⟨res, hres⟩ : ∃ r, cutS (s.size + 1) 0 s.data.toList = r := ⟨_, rfl⟩
  rw [hres]
  have HR : Hid (cutS (s.size + 1) 0 s.data.toList = res) := hres
  have HC : Hid (CS w pb s 0) := h
  have hpb : pb < w.heap.size := h.2.2.2
  clear hres h
  obtain ⟨i0, hi, hz0, hz1, hz2⟩ := info_parts info33
  go_enter Tryd.func45, Tryd.ntmps45
  go_wp2_with fail
  refine (skip_any pb 0 s w HC.out (Nat.zero_le _) hs).mono ?_
  rintro e w1 ⟨rfl, hcs, hgr⟩
  have HC1 : Hid (CS w1 pb s (0 + gapLen (s.data.toList.drop 0))) := hcs
  have HG1 : Hid (Gr w w1 pb) := hgr
  clear hcs hgr
  go_wp2
  go_loopw [3] (fun t wr => ∃ (p f : Nat) (acc : List Tok), p ≤ s.size ∧ acc.length ≤ p ∧ Hid (s.size - p < f) ∧ Hid ((cutG f p (s.data.toList.drop p)).pre acc = res) ∧ Hid (CS wr pb s p) ∧ Hid (TOwn wr w.heap.size t acc) ∧ Hid (FB w.heap.size pb w wr)) (fun _ wr => match wr.cell? ⟨pb, 1, none⟩ with | some (.int _ k) => s.size - k.toNat | _ => 0)
  case atStart =>
    refine ⟨0 + gapLen (s.data.toList.drop 0), s.size + 1, [], ?_, by simp, ?_, ?_, HC1, TOwn.nil _ _, (FB.refl _ _ _).gr' HG1.out (Nat.le_refl _)⟩
    · have := gapLen_le (s.data.toList.drop 0); simp at this ⊢; omega
    · show _ < _; omega
    · show _ = _
      rw [← HR.out]
      unfold cutS
      rw [List.drop_zero, Nat.zero_add]
      cases cutG (s.size + 1) (gapLen s.data.toList) (List.drop (gapLen s.data.toList) s.data.toList) <;> rfl
  case round =>
    obtain ⟨p, f, acc, hp, hacc, HF, HX, HCr, HT, HFB⟩ := hrel
    have hfb1 := HFB.out.size
    by_cases he : p = s.size
    · subst he
      have HRES : Hid (res = .ok (acc ++ [⟨0, [], 0, s.size⟩])) := by
        show _ = _
        rw [← HX.out, List.drop_of_length_le (by simp)]
        obtain ⟨f', rfl⟩ : ∃ f', f = f' + 1 := ⟨f - 1, by have := HF.out; omega⟩
        rfl
      obtain ⟨y0, y1, y2, y3⟩ := HCr.out
      have HTD : Hid (wr.drew.ownsRow w.heap.size 84 4 u3 acc.length (tcs acc)) := HT.out.keep fun _ _ _ => rfl
      go_wp2_with (first | (go_at_call 53; refine (ended_yes pb s _ HCr.out hs).mono ?_; rintro e w' ⟨rfl, rfl⟩) | (at_builtin; refine wpList_append_own _ rfl _ _ 62 rfl w.heap.size 84 i0 (.agg #[.int .i64 0, .string ⟨#[]⟩, .int .i64 0, .int .i64 0]) 4 40 Tryd.underlying62 hi hz0 hz1 hz2 rfl (by decide) _ _ _ rfl (World.ownsRow.alloc HTD.out _) ⟨wr.heap.size, 0, none⟩ 1 1 (tcs [⟨0, [], 0, s.size⟩]) rfl rfl ?d1 ?d2 ?d3 ?d4 ?d5 ?_))
      case d1 =>
        intro j u hj
        match j, hj with
        | 0, hj => simp [tcs, tc] at hj; subst hj; simp [Addr.add]
        | 1, hj => simp [tcs, tc] at hj; subst hj; simp [Addr.add]
        | 2, hj => simp [tcs, tc] at hj; subst hj; simp [Addr.add]
        | 3, hj => simp [tcs, tc] at hj; subst hj; simp [Addr.add]
      case d2 => exact tc_one _
      case d3 => unfold maxLen; omega
      case d4 => omega
      case d5 => simp; omega
      · intro v' w4 hown' hgrow _
        have hsz := hgrow.size
        have HF4 : Hid (FB w.heap.size pb w w4) := (HFB.out.gr' (((Gr.refl wr pb).alloc _).drew) hfb1).grown hgrow (by show _ ≤ (wr.alloc _).heap.size; simp; omega) (fun k hk => (World.ownsRow.lt HT.out k hk).1)
        have HT4 : Hid (TOwn w4 w.heap.size v' (acc ++ [⟨0, [], 0, s.size⟩])) := by
          show w4.ownsRow _ _ _ _ _ _
          rw [List.length_append, tcs_app]
          exact hown'
        clear hown' hgrow hsz
        go_wp2
        go_ret
        rw [HRES.out]
        exact ⟨_, rfl, HT4.out, HF4.out⟩
    · have hlt : p < s.size := by omega
      go_wp2_with (go_at_call 53; refine (ended_no pb p s _ HCr.out hs he).mono ?_; rintro e w' ⟨rfl, rfl⟩)
      refine (token_any pb p s _ HCr.out.drew hlt hs).mono ?_
      obtain ⟨f', rfl⟩ : ∃ f', f = f' + 1 := ⟨f - 1, by have := HF.out; omega⟩
      have hdr : s.data.toList.drop p = s[p] :: s.data.toList.drop (p + 1) := List.drop_eq_getElem_cons (by simpa using hlt)
      rcases e1 : tokOf (s.data.toList.drop p) with ⟨k, m, n⟩ | ⟨o, er⟩
      · rintro e w2 ⟨rfl, hcs, hgr⟩
        have ht := tokOf_tok e1
        have hn1 := ht.1
        have hn2 : p + n ≤ s.size := by have := ht.2.1; simp at this; omega
        obtain ⟨t, htk⟩ : ∃ t : Tok, (⟨k, (s.data.toList.drop p).take n, m, p⟩ : Tok) = t := ⟨_, rfl⟩
        have HTV : Hid (tokV k (s.extract p (p + n)) m p = .agg #[.int .i64 t.kind, .string ⟨t.text.toArray⟩, .int .i64 t.num, .int .i64 (t.pos : Int)]) := by
          show _ = _
          rw [← htk, extract_arr]; rfl
        have HX2 : Hid ((cutS f' (p + n) ((s.data.toList.drop p).drop n)).pre (acc ++ [t]) = res) := by
          show _ = _
          rw [← HX.out, hdr, cutG_cons, ← hdr, e1]
          dsimp only
          rw [pre_cons, htk]
        have HC2 : Hid (CS w2 pb s (p + n)) := hcs
        have hg2 : Gr wr w2 pb := ((Gr.refl wr pb).drew).trans hgr
        have HT2 : Hid (w2.ownsRow w.heap.size 84 4 u3 acc.length (tcs acc)) := HT.out.gr hg2 hpb
        have HF2 : Hid (FB w.heap.size pb w w2) := HFB.out.gr' hg2 hfb1
        have hsz2 := hg2.size
        have ho2 : ∀ k, u3.ownBlock = some k → w.heap.size ≤ k := fun k hk => (World.ownsRow.lt HT2.out k hk).1
        have HO2 : Hid (∀ k, u3.ownBlock = some k → w.heap.size ≤ k) := ho2
        rw [HTV.out]
        clear hcs hgr hg2 ho2 e1 ht hdr
        go_wp2_with (at_builtin; refine wpList_append_own _ rfl _ _ 62 rfl w.heap.size 84 i0 (.agg #[.int .i64 0, .string ⟨#[]⟩, .int .i64 0, .int .i64 0]) 4 40 Tryd.underlying62 hi hz0 hz1 hz2 rfl (by decide) _ _ _ rfl (World.ownsRow.alloc HT2.out _) ⟨w2.heap.size, 0, none⟩ 1 1 (tcs [t]) rfl rfl ?c1 ?c2 ?c3 ?c4 ?c5 ?_)
        case c1 =>
          intro j u hj
          match j, hj with
          | 0, hj => simp [tcs, tc] at hj; subst hj; simp [Addr.add]
          | 1, hj => simp [tcs, tc] at hj; subst hj; simp [Addr.add]
          | 2, hj => simp [tcs, tc] at hj; subst hj; simp [Addr.add]
          | 3, hj => simp [tcs, tc] at hj; subst hj; simp [Addr.add]
        case c2 => exact tc_one t
        case c3 => unfold maxLen; omega
        case c4 => omega
        case c5 => simp; omega
        · intro v' w4 hown' hgrow _
          have hpb2 : pb < w2.heap.size := HC2.out.2.2.2
          have HC4 : Hid (CS w4 pb s (p + n)) := HC2.out.block ((hgrow.block pb (by simp; omega) (by intro e; have := HO2.out pb e.symm; omega)).trans (Below.heap_alloc _ _ _ hpb2)) (by have := hgrow.size; simp at this; omega)
          have HF4 : Hid (FB w.heap.size pb w w4) := (HF2.out.gr' ((Gr.refl w2 pb).alloc _) (by omega)).grown hgrow (by simp; omega) HO2.out
          have HT4 : Hid (TOwn w4 w.heap.size v' (acc ++ [t])) := by
            show w4.ownsRow _ _ _ _ _ _
            rw [List.length_append, tcs_app]
            exact hown'
          have hsz4 := hgrow.size
          have hsz4' : w2.heap.size ≤ w4.heap.size := by simp at hsz4; omega
          clear hown' hgrow hsz4
          go_wp2_with fail
          refine (skip_any pb (p + n) s w4 HC4.out hn2 hs).mono ?_
          rintro e w5 ⟨rfl, hc5, hg5⟩
          have HC5 : Hid (CS w5 pb s (p + n + gapLen (s.data.toList.drop (p + n)))) := hc5
          have HG5 : Hid (Gr w4 w5 pb) := hg5
          have hgl := gapLen_le (s.data.toList.drop (p + n))
          simp at hgl
          clear hc5 hg5
          go_wp2
          go_roundw
          case rel =>
            refine ⟨p + n + gapLen (s.data.toList.drop (p + n)), f', acc ++ [t], by omega, by simp; omega, ?_, ?_, HC5, HT4.out.gr HG5.out hpb, HF4.out.gr' HG5.out (by omega)⟩
            · show _ < _
              have := HF.out
              omega
            · show _ = _
              rw [← HX2.out]
              unfold cutS
              rw [List.drop_drop, List.drop_drop]
          case measure =>
            rw [HC5.out.2.1, HCr.out.2.1]
            simp
            omega
      · rintro e w2 ⟨rfl, hgr⟩
        have HRES : Hid (res = .err (p + o) er) := by
          show _ = _
          rw [← HX.out, hdr, cutG_cons, ← hdr, e1]
          rfl
        refine ⟨rfl, ?_⟩
        rw [HRES.out]
        exact ⟨rfl, HFB.out.gr' (((Gr.refl wr pb).drew).trans hgr) hfb1⟩
end Go.Proofs.YtnofibjchhcmeabDoor
namespace Go.Proofs.YtnofibjchhcmeabDoor
open Go.RowKit
set_option linter.unusedVariables false

set_option maxRecDepth 100000 in
theorem info40 : (Tryd.prog.info? 76).map (fun i => i.zero) = some (some (.agg #[.int .i64 0, .int .i64 0])) := by kernel_rfl
set_option maxRecDepth 100000 in
theorem assert_is (k er : Int) (w : World) : (Instr.typeAssert (.iface 76 (.agg #[.int .i64 k, .int .i64 er])) 20 76 true).run Tryd.prog w = .ok (.tuple #[.agg #[.int .i64 k, .int .i64 er], .bool true]) w := by
  simp [Instr.typeAssert, run_underlying Tryd.underlying76]
set_option maxRecDepth 100000 in
theorem assert_nil (w : World) : (Instr.typeAssert .nilIface 20 76 true).run Tryd.prog w = .ok (.tuple #[.agg #[.int .i64 0, .int .i64 0], .bool false]) w := by
  have h := info40
  rcases e : Tryd.prog.info? 76 with _ | i
  · rw [e] at h; simp at h
  · rw [e] at h
    have hz : i.zero = some (.agg #[.int .i64 0, .int .i64 0]) := by simpa using h
    simp [Instr.typeAssert, run_underlying Tryd.underlying76, zeroValue, typeInfo, e, hz]

set_option maxRecDepth 100000 in
set_option maxHeartbeats 1000000 in
theorem catch_idle (p1 p2 p3 : Addr) (w : World) :
    CallsD Tryd.prog 43 #[.pointer (some p1), .pointer (some p2), .pointer (some p3)] .returning w fun e u' w' => e = .returned (.tuple #[]) ∧ u' = .returning ∧ w' = w.alloc (.cells #[.int .i64 0, .int .i64 0] 76) := by
  refine callsD_of_wpS Tryd.func43 rfl fun c₀ cs hu => ?_
  apply wpS_seq
  apply wpS_region
  simp [wpOpsS, go_sem, recoverD, hu, Tryd.ntmps43, Exit.thenS, assert_nil]
  apply wpS_seq
  apply wpS_region
  simp [wpOpsS, go_sem, Exit.thenS]
  refine wpS_cond (t := false) (by simp [Act.eval, Array.replicate]) ?_
  simp only [Bool.false_eq_true, if_false]
  refine wpS_of_wp (wp_skip ?_)
  cases c₀
  simp_all [bodyPostS, results, Tryd.results43]

set_option maxRecDepth 100000 in
set_option maxHeartbeats 2000000 in
theorem catch_panicking (b : Nat) (v0 v1 v2 : Value) (k er : Int) (older : List PanicEntry) (w : World) (h0 : w.cell? ⟨b, 0, none⟩ = some v0) (h1 : w.cell? ⟨b + 1, 0, none⟩ = some v1) (h2 : w.cell? ⟨b + 2, 0, none⟩ = some v2) (f0 : w.frozen? ⟨b, 0, none⟩ = false) (f1 : w.frozen? ⟨b + 1, 0, none⟩ = false) (f2 : w.frozen? ⟨b + 2, 0, none⟩ = false) (hb : b + 2 < w.heap.size) :
    CallsD Tryd.prog 43 #[.pointer (some ⟨b, 0, none⟩), .pointer (some ⟨b + 1, 0, none⟩), .pointer (some ⟨b + 2, 0, none⟩)] (.panicking ({ v := .iface 76 (.agg #[.int .i64 k, .int .i64 er]), recovered := false } :: older)) w fun e u' w' =>
      e = .returned (.tuple #[]) ∧ u' = .panicking ({ v := .iface 76 (.agg #[.int .i64 k, .int .i64 er]), recovered := true } :: older) ∧ w'.cell? ⟨b, 0, none⟩ = some (.slice none 0 0) ∧ w'.cell? ⟨b + 1, 0, none⟩ = some (.int .i64 k) ∧ w'.cell? ⟨b + 2, 0, none⟩ = some (.int .i64 er) ∧ Below b w w' := by
  refine callsD_of_wpS Tryd.func43 rfl fun c₀ cs hu => ?_
  apply wpS_seq
  apply wpS_region
  simp [wpOpsS, go_sem, recoverD, hu, Tryd.ntmps43, Exit.thenS, assert_is]
  apply wpS_seq
  apply wpS_region
  simp [wpOpsS, go_sem, Exit.thenS]
  refine wpS_cond (t := true) (by simp [Act.eval, Array.replicate]) ?_
  simp only [if_true]
  refine wpS_of_wp ?_
  have l0 : ∀ o : Obj, (w.alloc o).cell? ⟨b, 0, none⟩ = some v0 := by
    intro o
    rw [World.cell?_alloc_lt]
    · exact h0
    · show b < w.heap.size; omega
  have l1 : ∀ o : Obj, (w.alloc o).cell? ⟨b + 1, 0, none⟩ = some v1 := by
    intro o
    rw [World.cell?_alloc_lt]
    · exact h1
    · show b + 1 < w.heap.size; omega
  have l2 : ∀ o : Obj, (w.alloc o).cell? ⟨b + 2, 0, none⟩ = some v2 := by
    intro o
    rw [World.cell?_alloc_lt]
    · exact h2
    · show b + 2 < w.heap.size; omega
  generalize hact : Act.mk _ _ = act
  have ha : act = { tmps := #[.pointer (some ⟨b, 0, none⟩), .pointer (some ⟨b + 1, 0, none⟩), .pointer (some ⟨b + 2, 0, none⟩), .pointer (some ⟨w.heap.size, 0, none⟩), .bool true, .tuple #[.agg #[.int .i64 k, .int .i64 er], .bool true], .iface 76 (.agg #[.int .i64 k, .int .i64 er]), .tuple #[.agg #[.int .i64 k, .int .i64 er], .bool true], .agg #[.int .i64 k, .int .i64 er], .bool true, .bool true, undef, undef, undef, undef], defers := [] } := by
    rw [← hact]
    simp [Array.replicate, List.replicate]
  clear hact
  subst ha
  obtain ⟨W, hW⟩ : ∃ W, w.alloc (.cells #[.int .i64 k, .int .i64 er] 76) = W := ⟨_, rfl⟩
  have m0 := l0 (.cells #[.int .i64 k, .int .i64 er] 76)
  have m1 := l1 (.cells #[.int .i64 k, .int .i64 er] 76)
  have m2 := l2 (.cells #[.int .i64 k, .int .i64 er] 76)
  have m3 : (w.alloc (.cells #[.int .i64 k, .int .i64 er] 76)).cell? ⟨w.heap.size, 0, none⟩ = some (.int .i64 k) := by simp
  have m4 : (w.alloc (.cells #[.int .i64 k, .int .i64 er] 76)).cell? ⟨w.heap.size, 1, none⟩ = some (.int .i64 er) := by simp
  have g0 : (w.alloc (.cells #[.int .i64 k, .int .i64 er] 76)).frozen? ⟨b, 0, none⟩ = false := (World.frozen?_of_block (w := w) (a := ⟨b, 0, none⟩) (Below.heap_alloc _ _ _ (by show b < w.heap.size; omega))).trans f0
  have g1 : (w.alloc (.cells #[.int .i64 k, .int .i64 er] 76)).frozen? ⟨b + 1, 0, none⟩ = false := (World.frozen?_of_block (w := w) (a := ⟨b + 1, 0, none⟩) (Below.heap_alloc _ _ _ (by show b + 1 < w.heap.size; omega))).trans f1
  have g2 : (w.alloc (.cells #[.int .i64 k, .int .i64 er] 76)).frozen? ⟨b + 2, 0, none⟩ = false := (World.frozen?_of_block (w := w) (a := ⟨b + 2, 0, none⟩) (Below.heap_alloc _ _ _ (by show b + 2 < w.heap.size; omega))).trans f2
  have HBW : Hid (Below b w (w.alloc (.cells #[.int .i64 k, .int .i64 er] 76))) := ((Below.refl _ _).alloc (Nat.le_refl _) _).mono (by omega)
  rw [hW] at m0 m1 m2 m3 m4 g0 g1 g2 HBW
  rw [hW]
  clear l0 l1 l2 hW f0 f1 f2 h0 h1 h2
  obtain ⟨M, hM⟩ : ∃ M, w.heap.size = M := ⟨_, rfl⟩
  rw [hM] at m3 m4 hb
  rw [hM]
  have nb0 : ¬ M = b := by omega
  have nb1 : ¬ M = b + 1 := by omega
  have nb2 : ¬ M = b + 2 := by omega
  have nb0' : ¬ b = M := by omega
  have nb1' : ¬ b + 1 = M := by omega
  have nb2' : ¬ b + 2 = M := by omega
  clear hM
  have q1 : ∀ (u : World) (x y : Nat) (v : Value), x ≠ y → (u.setCell ⟨x, 0, none⟩ v).cell? ⟨y, 0, none⟩ = u.cell? ⟨y, 0, none⟩ := fun u x y v hne => World.cell?_setCell_other u _ _ _ (by intro e; cases e; exact hne rfl)
  have HF : Hid (((((W.setCell ⟨b, 0, none⟩ (.slice none 0 0)).setCell ⟨b + 1, 0, none⟩ (.int .i64 k)).setCell ⟨b + 2, 0, none⟩ (.int .i64 er)).drew).cell? ⟨b, 0, none⟩ = some (.slice none 0 0) ∧ ((((W.setCell ⟨b, 0, none⟩ (.slice none 0 0)).setCell ⟨b + 1, 0, none⟩ (.int .i64 k)).setCell ⟨b + 2, 0, none⟩ (.int .i64 er)).drew).cell? ⟨b + 1, 0, none⟩ = some (.int .i64 k) ∧ ((((W.setCell ⟨b, 0, none⟩ (.slice none 0 0)).setCell ⟨b + 1, 0, none⟩ (.int .i64 k)).setCell ⟨b + 2, 0, none⟩ (.int .i64 er)).drew).cell? ⟨b + 2, 0, none⟩ = some (.int .i64 er) ∧ Below b w ((((W.setCell ⟨b, 0, none⟩ (.slice none 0 0)).setCell ⟨b + 1, 0, none⟩ (.int .i64 k)).setCell ⟨b + 2, 0, none⟩ (.int .i64 er)).drew)) := by
    refine ⟨?_, ?_, ?_, ?_⟩
    · show (((W.setCell _ _).setCell _ _).setCell _ _).cell? _ = _
      rw [q1 _ (b + 2) b _ (by omega), q1 _ (b + 1) b _ (by omega)]
      exact World.cell?_setCell_same _ _ _ m0
    · show (((W.setCell _ _).setCell _ _).setCell _ _).cell? _ = _
      rw [q1 _ (b + 2) (b + 1) _ (by omega)]
      exact World.cell?_setCell_same _ _ _ ((q1 _ b (b + 1) _ (by omega)).trans m1)
    · show (((W.setCell _ _).setCell _ _).setCell _ _).cell? _ = _
      exact World.cell?_setCell_same _ _ _ ((q1 _ (b + 1) (b + 2) _ (by omega)).trans ((q1 _ b (b + 2) _ (by omega)).trans m2))
    · exact ((((HBW.out.setCell (p := ⟨b, 0, none⟩) (Nat.le_refl _) _).setCell (p := ⟨b + 1, 0, none⟩) (by show b ≤ b + 1; omega) _).setCell (p := ⟨b + 2, 0, none⟩) (by show b ≤ b + 2; omega) _)).drew
  clear q1
  go_region
  simp only [bodyPostS, results, Tryd.results43]
  have := HF.out
  simp
  exact this

/-- what comes of a text -/
def CutPost (w : World) : CutR → Ending → World → Prop
  | .inl l, e, w' => ∃ v, e = .returned (.tuple #[v, .int .i64 0, .int .i64 0]) ∧ TOwn w' w.heap.size v l ∧ Below w.heap.size w w'
  | .inr (k, er), e, w' => e = .returned (.tuple #[.slice none 0 0, .int .i64 (k : Int), .int .i64 er]) ∧ Below w.heap.size w w'

/-- the cells of the three results -/
structure Res3 (w : World) (b : Nat) (v0 v1 v2 : Value) : Prop where
  c0 : w.cell? ⟨b, 0, none⟩ = some v0
  c1 : w.cell? ⟨b + 1, 0, none⟩ = some v1
  c2 : w.cell? ⟨b + 2, 0, none⟩ = some v2
  f0 : w.frozen? ⟨b, 0, none⟩ = false
  f1 : w.frozen? ⟨b + 1, 0, none⟩ = false
  f2 : w.frozen? ⟨b + 2, 0, none⟩ = false
  lt : b + 2 < w.heap.size
set_option maxRecDepth 100000 in
theorem Res3.keep {w w' : World} {b : Nat} {v0 v1 v2 : Value} (h : Res3 w b v0 v1 v2) (hb : ∀ k, b ≤ k → k ≤ b + 2 → w'.heap[k]? = w.heap[k]?) (hs : w.heap.size ≤ w'.heap.size) : Res3 w' b v0 v1 v2 :=
  ⟨(World.cell?_of_block (w := w) (a := ⟨b, 0, none⟩) (hb b (by omega) (by omega))).trans h.c0, (World.cell?_of_block (w := w) (a := ⟨b + 1, 0, none⟩) (hb (b + 1) (by omega) (by omega))).trans h.c1, (World.cell?_of_block (w := w) (a := ⟨b + 2, 0, none⟩) (hb (b + 2) (by omega) (by omega))).trans h.c2,
   (World.frozen?_of_block (w := w) (a := ⟨b, 0, none⟩) (hb b (by omega) (by omega))).trans h.f0, (World.frozen?_of_block (w := w) (a := ⟨b + 1, 0, none⟩) (hb (b + 1) (by omega) (by omega))).trans h.f1, (World.frozen?_of_block (w := w) (a := ⟨b + 2, 0, none⟩) (hb (b + 2) (by omega) (by omega))).trans h.f2, Nat.lt_of_lt_of_le h.lt hs⟩
set_option maxRecDepth 100000 in
theorem new_cell (w : World) (v : Value) (t : TypeId) : (w.alloc (.cells #[v] t)).cell? ⟨w.heap.size, 0, none⟩ = some v ∧ (w.alloc (.cells #[v] t)).frozen? ⟨w.heap.size, 0, none⟩ = false := ⟨by simp, by simp⟩
set_option maxRecDepth 100000 in
theorem Res3.new (w : World) (v0 v1 v2 : Value) (t0 t1 t2 : TypeId) : Res3 (((w.alloc (.cells #[v0] t0)).alloc (.cells #[v1] t1)).alloc (.cells #[v2] t2)) w.heap.size v0 v1 v2 := by
  have a0 := new_cell w v0 t0
  have a1 := new_cell (w.alloc (.cells #[v0] t0)) v1 t1
  have a2 := new_cell ((w.alloc (.cells #[v0] t0)).alloc (.cells #[v1] t1)) v2 t2
  have s1 : (w.alloc (.cells #[v0] t0)).heap.size = w.heap.size + 1 := by simp
  have s2 : ((w.alloc (.cells #[v0] t0)).alloc (.cells #[v1] t1)).heap.size = w.heap.size + 2 := by simp
  rw [s1] at a1
  rw [s2] at a2
  have b0 : ((w.alloc (.cells #[v0] t0)).alloc (.cells #[v1] t1)).heap[w.heap.size]? = (w.alloc (.cells #[v0] t0)).heap[w.heap.size]? := Below.heap_alloc _ _ _ (by simp)
  have b0' : (((w.alloc (.cells #[v0] t0)).alloc (.cells #[v1] t1)).alloc (.cells #[v2] t2)).heap[w.heap.size]? = (w.alloc (.cells #[v0] t0)).heap[w.heap.size]? := (Below.heap_alloc _ _ _ (by simp; omega)).trans b0
  have b1 : (((w.alloc (.cells #[v0] t0)).alloc (.cells #[v1] t1)).alloc (.cells #[v2] t2)).heap[w.heap.size + 1]? = ((w.alloc (.cells #[v0] t0)).alloc (.cells #[v1] t1)).heap[w.heap.size + 1]? := Below.heap_alloc _ _ _ (by simp)
  exact ⟨(World.cell?_of_block (a := ⟨w.heap.size, 0, none⟩) b0').trans a0.1, (World.cell?_of_block (a := ⟨w.heap.size + 1, 0, none⟩) b1).trans a1.1, a2.1, (World.frozen?_of_block (a := ⟨w.heap.size, 0, none⟩) b0').trans a0.2, (World.frozen?_of_block (a := ⟨w.heap.size + 1, 0, none⟩) b1).trans a1.2, a2.2, by simp⟩

set_option maxRecDepth 100000 in
theorem below3 (w : World) (v0 v1 v2 : Value) (t0 t1 t2 : TypeId) : Below w.heap.size w (((w.alloc (.cells #[v0] t0)).alloc (.cells #[v1] t1)).alloc (.cells #[v2] t2)) :=
  (((Below.refl _ _).alloc (Nat.le_refl _) _).alloc (by simp) _).alloc (by simp; omega) _

set_option maxRecDepth 100000 in
set_option maxHeartbeats 2000000 in
theorem cut_long (s : ByteArray) (w : World) (hs : 8192 < s.size) (hm : s.size ≤ maxLen) :
    Calls Tryd.prog 30 #[.string s] w fun e w' => CutPost w (.err 0 30) e w' := by
  unfold maxLen at hm
  have hmf : ∀ (fn : Fn) (first cap : Array Value) (w : World), (Instr.makeFunc fn first cap).run Tryd.prog w = .ok (.func fn first cap) w := fun _ _ _ _ => rfl
  have R := Res3.new w (.slice none 0 0) (.int .i64 0) (.int .i64 0) 62 3 31
  have HRR : Hid (Res3 (((w.alloc (.cells #[.slice none 0 0] 62)).alloc (.cells #[.int .i64 0] 3)).alloc (.cells #[.int .i64 0] 31)) w.heap.size (.slice none 0 0) (.int .i64 0) (.int .i64 0)) := R
  clear R
  go_enter_defers Tryd.func30, Tryd.ntmps30
  go_wp2_with fail
  refine (giveUp_any _ _ _).mono ?_
  rintro e w2 ⟨rfl, rfl⟩
  unfold gaveUp
  refine leaves_cons (f := 43) (args := #[.pointer (some ⟨w.heap.size, 0, none⟩), .pointer (some ⟨w.heap.size + 1, 0, none⟩), .pointer (some ⟨w.heap.size + 2, 0, none⟩)]) (by simp) (by simp [go_sem]) ?_
  refine (catch_panicking w.heap.size _ _ _ 0 30 [] _ HRR.out.c0 HRR.out.c1 HRR.out.c2 HRR.out.f0 HRR.out.f1 HRR.out.f2 HRR.out.lt).mono ?_
  rintro e u' w3 ⟨rfl, rfl, x0, x1, x2, hbl⟩
  have HF : Hid (CutPost w (.err 0 30) (.returned (.tuple #[.slice none 0 0, .int .i64 0, .int .i64 30])) w3) := ⟨rfl, (below3 w _ _ _ _ _ _).trans hbl⟩
  clear hbl
  simp [Leaves, settle, results, Tryd.results30, go_sem, x0, x1, x2]
  exact HF.out

set_option maxRecDepth 100000 in
set_option maxHeartbeats 4000000 in
theorem cut_short (s : ByteArray) (w : World) (hs : s.size ≤ 8192) :
    Calls Tryd.prog 30 #[.string s] w fun e w' => CutPost w (cutS (s.size + 1) 0 s.data.toList) e w' := by
  have hmf : ∀ (fn : Fn) (first cap : Array Value) (w : World), (Instr.makeFunc fn first cap).run Tryd.prog w = .ok (.func fn first cap) w := fun _ _ _ _ => rfl
  have R := Res3.new w (.slice none 0 0) (.int .i64 0) (.int .i64 0) 62 3 31
  have HRR : Hid (Res3 (((w.alloc (.cells #[.slice none 0 0] 62)).alloc (.cells #[.int .i64 0] 3)).alloc (.cells #[.int .i64 0] 31)) w.heap.size (.slice none 0 0) (.int .i64 0) (.int .i64 0)) := R
  clear R
  obtain ⟨res, hres⟩ : ∃ r, cutS (s.size + 1) 0 s.data.toList = r := ⟨_, rfl⟩
  rw [hres]
  have HRES : Hid (cutS (s.size + 1) 0 s.data.toList = res) := hres
  clear hres
  have hcs : CS ((((w.alloc (.cells #[.slice none 0 0] 62)).alloc (.cells #[.int .i64 0] 3)).alloc (.cells #[.int .i64 0] 31)).alloc (.cells #[.string s, .int .i64 0] 80)) (w.heap.size + 3) s 0 := by
    have hsz : (((w.alloc (.cells #[.slice none 0 0] 62)).alloc (.cells #[.int .i64 0] 3)).alloc (.cells #[.int .i64 0] 31)).heap.size = w.heap.size + 3 := by simp
    rw [← hsz]
    generalize (((w.alloc (.cells #[.slice none 0 0] 62)).alloc (.cells #[.int .i64 0] 3)).alloc (.cells #[.int .i64 0] 31)) = W
    exact ⟨by simp, by simp, by simp, by simp⟩
  have HCS : Hid (CS ((((w.alloc (.cells #[.slice none 0 0] 62)).alloc (.cells #[.int .i64 0] 3)).alloc (.cells #[.int .i64 0] 31)).alloc (.cells #[.string s, .int .i64 0] 80)) (w.heap.size + 3) s 0) := hcs
  clear hcs
  go_enter_defers Tryd.func30, Tryd.ntmps30
  go_wp2_with fail
  refine (all_any (w.heap.size + 3) s _ HCS.out (by omega)).mono ?_
  rw [HRES.out]
  cases res with
  | inl l =>
    rintro e w5 ⟨v, rfl, hto, hfb⟩
    have hsz : ((((w.alloc (.cells #[.slice none 0 0] 62)).alloc (.cells #[.int .i64 0] 3)).alloc (.cells #[.int .i64 0] 31)).alloc (.cells #[.string s, .int .i64 0] 80)).heap.size = w.heap.size + 4 := by simp
    rw [hsz] at hfb
    have R4 : Res3 ((((w.alloc (.cells #[.slice none 0 0] 62)).alloc (.cells #[.int .i64 0] 3)).alloc (.cells #[.int .i64 0] 31)).alloc (.cells #[.string s, .int .i64 0] 80)) w.heap.size (.slice none 0 0) (.int .i64 0) (.int .i64 0) := HRR.out.keep (fun k _ hk => Below.heap_alloc _ _ _ (by simp; omega)) (by simp)
    have R5 : Res3 w5 w.heap.size (.slice none 0 0) (.int .i64 0) (.int .i64 0) := R4.keep (fun k _ hk => hfb.block k (by omega) (by omega)) hfb.size
    have HB5 : Hid (Below w.heap.size w w5) := ((below3 w (.slice none 0 0) (.int .i64 0) (.int .i64 0) 62 3 31).alloc (by simp; omega) (.cells #[.string s, .int .i64 0] 80)).trans ⟨hfb.os, hfb.tape, hfb.output, hfb.size, fun k hk => hfb.block k (by omega) (by omega)⟩
    rw [hsz] at hto
    obtain ⟨a, n, c, rfl⟩ : ∃ a n c, v = .slice a n c := by
      rcases hto.2 with ⟨h, _⟩ | ⟨g, cap, cur, h, _⟩
      · exact ⟨_, _, _, h⟩
      · exact ⟨_, _, _, h⟩
    have hlt5 := R5.lt
    have HTO : Hid (TOwn w5 (w.heap.size + 4) (.slice a n c) l) := hto
    obtain ⟨c0, c1, c2, f0, f1, f2, _⟩ := R5
    have c2' : w5.cell? ⟨w.heap.size + 1 + 1, 0, none⟩ = some (.int .i64 0) := c2
    have f2' : w5.frozen? ⟨w.heap.size + 1 + 1, 0, none⟩ = false := f2
    clear R4 hfb hto hsz
    go_wp2
    refine leaves_cons (f := 43) (args := #[.pointer (some ⟨w.heap.size, 0, none⟩), .pointer (some ⟨w.heap.size + 1, 0, none⟩), .pointer (some ⟨w.heap.size + 2, 0, none⟩)]) (by simp) (by simp [go_sem]) ?_
    refine (catch_idle _ _ _ _).mono ?_
    rintro e u' w7 ⟨rfl, rfl, rfl⟩
    have q1 : ∀ (u : World) (x y : Nat) (v : Value), x ≠ y → (u.setCell ⟨x, 0, none⟩ v).cell? ⟨y, 0, none⟩ = u.cell? ⟨y, 0, none⟩ := fun u x y v hne => World.cell?_setCell_other u _ _ _ (by intro e; cases e; exact hne rfl)
    have hs6 : (((w5.setCell ⟨w.heap.size, 0, none⟩ (.slice a n c)).setCell ⟨w.heap.size + 1, 0, none⟩ (.int .i64 0)).setCell ⟨w.heap.size + 1 + 1, 0, none⟩ (.int .i64 0)).heap.size = w5.heap.size := by simp [World.setCell]
    have x0 : ((((w5.setCell ⟨w.heap.size, 0, none⟩ (.slice a n c)).setCell ⟨w.heap.size + 1, 0, none⟩ (.int .i64 0)).setCell ⟨w.heap.size + 1 + 1, 0, none⟩ (.int .i64 0)).alloc (.cells #[.int .i64 0, .int .i64 0] 76)).cell? ⟨w.heap.size, 0, none⟩ = some (.slice a n c) := by
      rw [World.cell?_of_block (a := ⟨w.heap.size, 0, none⟩) (Below.heap_alloc _ _ _ (by show w.heap.size < _; omega)), q1 _ _ _ _ (by omega), q1 _ _ _ _ (by omega)]
      exact World.cell?_setCell_same _ _ _ c0
    have x1 : ((((w5.setCell ⟨w.heap.size, 0, none⟩ (.slice a n c)).setCell ⟨w.heap.size + 1, 0, none⟩ (.int .i64 0)).setCell ⟨w.heap.size + 1 + 1, 0, none⟩ (.int .i64 0)).alloc (.cells #[.int .i64 0, .int .i64 0] 76)).cell? ⟨w.heap.size + 1, 0, none⟩ = some (.int .i64 0) := by
      rw [World.cell?_of_block (a := ⟨w.heap.size + 1, 0, none⟩) (Below.heap_alloc _ _ _ (by show w.heap.size + 1 < _; omega)), q1 _ _ _ _ (by omega)]
      exact World.cell?_setCell_same _ _ _ ((q1 _ _ _ _ (by omega)).trans c1)
    have x2 : ((((w5.setCell ⟨w.heap.size, 0, none⟩ (.slice a n c)).setCell ⟨w.heap.size + 1, 0, none⟩ (.int .i64 0)).setCell ⟨w.heap.size + 1 + 1, 0, none⟩ (.int .i64 0)).alloc (.cells #[.int .i64 0, .int .i64 0] 76)).cell? ⟨w.heap.size + 1 + 1, 0, none⟩ = some (.int .i64 0) := by
      rw [World.cell?_of_block (a := ⟨w.heap.size + 1 + 1, 0, none⟩) (Below.heap_alloc _ _ _ (by show w.heap.size + 1 + 1 < _; omega))]
      exact World.cell?_setCell_same _ _ _ ((q1 _ _ _ _ (by omega)).trans ((q1 _ _ _ _ (by omega)).trans c2'))
    have HF : Hid (CutPost w (.ok l) (.returned (.tuple #[.slice a n c, .int .i64 0, .int .i64 0])) ((((w5.setCell ⟨w.heap.size, 0, none⟩ (.slice a n c)).setCell ⟨w.heap.size + 1, 0, none⟩ (.int .i64 0)).setCell ⟨w.heap.size + 1 + 1, 0, none⟩ (.int .i64 0)).alloc (.cells #[.int .i64 0, .int .i64 0] 76))) := by
      refine ⟨_, rfl, ?_, ?_⟩
      · have h1 : TOwn ((((w5.setCell ⟨w.heap.size, 0, none⟩ (.slice a n c)).setCell ⟨w.heap.size + 1, 0, none⟩ (.int .i64 0)).setCell ⟨w.heap.size + 1 + 1, 0, none⟩ (.int .i64 0)).alloc (.cells #[.int .i64 0, .int .i64 0] 76)) (w.heap.size + 4) (.slice a n c) l := HTO.out.keep fun k hk hk2 => by
          rw [Below.heap_alloc _ _ _ (by omega), Below.heap_setCell _ _ _ _ (by show k ≠ w.heap.size + 1 + 1; omega), Below.heap_setCell _ _ _ _ (by show k ≠ w.heap.size + 1; omega), Below.heap_setCell _ _ _ _ (by show k ≠ w.heap.size; omega)]
        obtain ⟨g1, g2⟩ := h1
        refine ⟨g1, ?_⟩
        rcases g2 with g2 | ⟨g, cap, cur, y1, y2, y3⟩
        · exact Or.inl g2
        · exact Or.inr ⟨g, cap, cur, y1, by omega, y3⟩
      · exact (((HB5.out.setCell (p := ⟨w.heap.size, 0, none⟩) (Nat.le_refl _) _).setCell (p := ⟨w.heap.size + 1, 0, none⟩) (by show w.heap.size ≤ w.heap.size + 1; omega) _).setCell (p := ⟨w.heap.size + 1 + 1, 0, none⟩) (by show w.heap.size ≤ w.heap.size + 1 + 1; omega) _).alloc (by omega) _
    clear q1 hs6
    generalize ((((w5.setCell ⟨w.heap.size, 0, none⟩ (.slice a n c)).setCell ⟨w.heap.size + 1, 0, none⟩ (.int .i64 0)).setCell ⟨w.heap.size + 1 + 1, 0, none⟩ (.int .i64 0)).alloc (.cells #[.int .i64 0, .int .i64 0] 76)) = w7 at x0 x1 x2 HF
    simp [Leaves, settle, results, Tryd.results30, go_sem, x0, x1, x2]
    exact HF.out
  | inr x =>
    obtain ⟨k, er⟩ := x
    rintro e w5 ⟨rfl, hfb⟩
    have hsz : ((((w.alloc (.cells #[.slice none 0 0] 62)).alloc (.cells #[.int .i64 0] 3)).alloc (.cells #[.int .i64 0] 31)).alloc (.cells #[.string s, .int .i64 0] 80)).heap.size = w.heap.size + 4 := by simp
    rw [hsz] at hfb
    have R4 : Res3 ((((w.alloc (.cells #[.slice none 0 0] 62)).alloc (.cells #[.int .i64 0] 3)).alloc (.cells #[.int .i64 0] 31)).alloc (.cells #[.string s, .int .i64 0] 80)) w.heap.size (.slice none 0 0) (.int .i64 0) (.int .i64 0) := HRR.out.keep (fun k _ hk => Below.heap_alloc _ _ _ (by simp; omega)) (by simp)
    have R5 : Res3 w5 w.heap.size (.slice none 0 0) (.int .i64 0) (.int .i64 0) := R4.keep (fun k _ hk => hfb.block k (by omega) (by omega)) hfb.size
    have HB5 : Hid (Below w.heap.size w w5) := ((below3 w (.slice none 0 0) (.int .i64 0) (.int .i64 0) 62 3 31).alloc (by simp; omega) (.cells #[.string s, .int .i64 0] 80)).trans ⟨hfb.os, hfb.tape, hfb.output, hfb.size, fun k hk => hfb.block k (by omega) (by omega)⟩
    clear R4 hfb hsz
    unfold gaveUp
    refine leaves_cons (f := 43) (args := #[.pointer (some ⟨w.heap.size, 0, none⟩), .pointer (some ⟨w.heap.size + 1, 0, none⟩), .pointer (some ⟨w.heap.size + 2, 0, none⟩)]) (by simp) (by simp [go_sem]) ?_
    refine (catch_panicking w.heap.size _ _ _ (k : Int) er [] _ R5.c0 R5.c1 R5.c2 R5.f0 R5.f1 R5.f2 R5.lt).mono ?_
    rintro e u' w6 ⟨rfl, rfl, x0, x1, x2, hbl⟩
    have HF : Hid (CutPost w (.err k er) (.returned (.tuple #[.slice none 0 0, .int .i64 (k : Int), .int .i64 er])) w6) := ⟨rfl, HB5.out.trans hbl⟩
    clear hbl
    simp [Leaves, settle, results, Tryd.results30, go_sem, x0, x1, x2]
    exact HF.out

set_option maxRecDepth 100000 in
/-- what lex.Cut answers, whatever the text -/
theorem cut_any (s : ByteArray) (w : World) (hm : s.size ≤ maxLen) :
    Calls Tryd.prog 30 #[.string s] w fun e w' => CutPost w (cut s.data.toList) e w' := by
  have hl : s.data.toList.length = s.size := by simp
  by_cases h : 8192 < s.size
  · have : cut s.data.toList = .err 0 30 := by unfold cut; rw [if_pos (by omega)]
    rw [this]
    exact cut_long s w h hm
  · rw [cut_eq _ (by omega), hl]
    exact cut_short s w (by omega)
end Go.Proofs.YtnofibjchhcmeabDoor
