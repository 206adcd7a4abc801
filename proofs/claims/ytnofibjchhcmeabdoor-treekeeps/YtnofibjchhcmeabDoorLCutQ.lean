/- Source texts as tokens: the plain facts: where tokens stand, and a text behind another one. -/
import Derived.Test.YtnofibjchhcmeabDoorLCutP
namespace Go.Proofs.YtnofibjchhcmeabDoor
open Go.RowKit

def cutS (f p : Nat) (R : List UInt8) : CutR := cutG f (p + gapLen R) (R.drop (gapLen R))
theorem cut_eq (L : List UInt8) (h : L.length ≤ 8192) : cut L = cutS (L.length + 1) 0 L := by
  unfold cut cutS
  rw [if_neg (by omega), Nat.zero_add]
theorem cutG_nil (f p : Nat) : cutG (f + 1) p [] = .ok [⟨0, [], 0, p⟩] := rfl
theorem cutG_cons (f p : Nat) (b : UInt8) (T : List UInt8) : cutG (f + 1) p (b :: T) = match tokOf (b :: T) with
    | .inr (o, e) => .err (p + o) e
    | .inl (k, m, n) => (cutS f (p + n) ((b :: T).drop n)).cons ⟨k, (b :: T).take n, m, p⟩ := rfl

theorem gapLen_le (R : List UInt8) : gapLen R ≤ R.length := ga_le _ _ _

theorem ga_pos {σ : Type} (step : σ → UInt8 → Bool × σ) (st : σ) (b : UInt8) (T : List UInt8) (h : (step st b).1 = true) : 1 ≤ ga step st (b :: T) := by
  unfold ga; rw [if_pos h]; omega

theorem tokOf_tok {R : List UInt8} {k m : Int} {n : Nat} (h : tokOf R = .tok k m n) : 1 ≤ n ∧ n ≤ R.length ∧ k ≠ 0 := by
  cases R with
  | nil => simp [tokOf] at h
  | cons b T =>
    replace h : (if isD b = true then numTok (b :: T) else if isL b = true then wordTok (b :: T) else signTok (b :: T)) = .tok k m n := h
    split at h
    · rename_i hd
      unfold numTok at h
      dsimp only at h
      split at h
      · cases h
      · split at h
        · cases h
        · injection h with h0
          obtain ⟨h1, h2, h3⟩ : _ ∧ _ ∧ _ := by simpa using h0
          subst h1 h3
          exact ⟨ga_pos dgStep () b T hd, ga_le _ _ _, by decide⟩
    · split at h
      · rename_i hl
        have hp : (alStep () b).1 = true := by show isA b = true; unfold isA; rw [hl]; rfl
        unfold wordTok at h
        dsimp only at h
        split at h
        · injection h with h0
          obtain ⟨h1, h2, h3⟩ : _ ∧ _ ∧ _ := by simpa using h0
          subst h1 h3
          exact ⟨ga_pos alStep () b T hp, ga_le _ _ _, by decide⟩
        · split at h
          · cases h
          · injection h with h0
            obtain ⟨h1, h2, h3⟩ : _ ∧ _ ∧ _ := by simpa using h0
            subst h1 h3
            exact ⟨ga_pos alStep () b T hp, ga_le _ _ _, by decide⟩
      · unfold signTok at h
        dsimp only at h
        split at h
        · cases h
        · injection h with h0
          obtain ⟨h1, h2, h3⟩ : _ ∧ _ ∧ _ := by simpa using h0
          subst h1 h3
          exact ⟨by omega, ga_le _ _ _, by decide⟩

/-- fuel enough is fuel enough -/
theorem cutG_fuel : ∀ (f g p : Nat) (R : List UInt8), R.length < f → R.length < g → cutG f p R = cutG g p R := by
  intro f
  induction f with
  | zero => intro g p R h; omega
  | succ f ih =>
    intro g p R hf hg
    cases g with
    | zero => omega
    | succ g =>
      cases R with
      | nil => rfl
      | cons b T =>
        rw [cutG_cons, cutG_cons]
        rcases e : tokOf (b :: T) with ⟨k, m, n⟩ | ⟨o, e'⟩
        · have h := tokOf_tok e
          dsimp only
          unfold cutS
          have hl : (((b :: T).drop n).drop (gapLen ((b :: T).drop n))).length ≤ T.length := by
            simp only [List.length_drop, List.length_cons]; omega
          rw [ih g _ _ (by simp at hf; omega) (by simp at hg; omega)]
        · rfl
theorem cutS_fuel (f g p : Nat) (R : List UInt8) (hf : R.length < f) (hg : R.length < g) : cutS f p R = cutS g p R := by
  unfold cutS
  have : (R.drop (gapLen R)).length ≤ R.length := by simp
  exact cutG_fuel f g _ _ (by omega) (by omega)

/-- tokens stand at their places, and rise -/
def placed (L : List UInt8) : Nat → List Tok → Prop
  | k, [] => k = L.length
  | k, t :: l => k ≤ t.pos ∧ t.pos + t.text.length ≤ L.length ∧ (L.drop t.pos).take t.text.length = t.text ∧ (t.kind = 0 ↔ l = []) ∧ placed L (t.pos + t.text.length) l

theorem cutG_placed (L : List UInt8) : ∀ (f p k : Nat) (l : List Tok), k ≤ p → p ≤ L.length → cutG f p (L.drop p) = .ok l → placed L k l ∧ l ≠ [] := by
  intro f
  induction f with
  | zero => intro p k l hk hp h; cases h
  | succ f ih =>
    intro p k l hk hp h
    rcases e : L.drop p with _ | ⟨b, T⟩
    · rw [e, cutG_nil] at h
      injection h with h
      subst h
      have h1 : (L.drop p).length = 0 := by rw [e]; rfl
      simp only [List.length_drop] at h1
      refine ⟨⟨hk, by simp; omega, by simp, by simp, ?_⟩, by simp⟩
      show p + 0 = L.length
      omega
    · rw [e, cutG_cons] at h
      rcases e1 : tokOf (b :: T) with ⟨kd, m, n⟩ | ⟨o, e'⟩
      · rw [e1] at h
        dsimp only at h
        have ht := tokOf_tok e1
        have hlen : (L.drop p).length = T.length + 1 := by rw [e]; rfl
        simp only [List.length_drop] at hlen
        have hn : n ≤ T.length + 1 := by simpa using ht.2.1
        rcases e2 : cutS f (p + n) ((b :: T).drop n) with l' | ⟨k', e'⟩
        · rw [e2] at h
          injection h with h
          subst h
          have hd : ((b :: T).drop n) = L.drop (p + n) := by rw [← e, List.drop_drop]
          unfold cutS at e2
          rw [hd, List.drop_drop] at e2
          have hg := gapLen_le (L.drop (p + n))
          simp only [List.length_drop] at hg
          have := ih (p + n + gapLen (L.drop (p + n))) (p + n) l' (by omega) (by omega) e2
          have htl : ((b :: T).take n).length = n := by rw [List.length_take]; exact Nat.min_eq_left ht.2.1
          refine ⟨⟨hk, ?_, ?_, ?_, ?_⟩, by simp⟩
          · show p + ((b :: T).take n).length ≤ _; rw [htl]; omega
          · show (L.drop p).take ((b :: T).take n).length = (b :: T).take n; rw [htl, e]
          · show kd = 0 ↔ l' = []
            exact ⟨fun h => absurd h ht.2.2, fun h => absurd h this.2⟩
          · show placed L (p + ((b :: T).take n).length) l'; rw [htl]; exact this.1
        · rw [e2] at h; cases h
      · rw [e1] at h; cases h

theorem cut_placed (L : List UInt8) (l : List Tok) (h : cut L = .ok l) : placed L 0 l ∧ l ≠ [] := by
  unfold cut at h
  split at h
  · cases h
  · exact cutG_placed L _ _ 0 l (Nat.zero_le _) (gapLen_le L) h

/-- all places moved -/
def shift (d : Nat) : CutR → CutR
  | .inl l => .ok (l.map fun t => { t with pos := t.pos + d })
  | .inr (k, e) => .err (k + d) e
theorem shift_cons (d : Nat) (t : Tok) (r : CutR) : shift d (r.cons t) = (shift d r).cons { t with pos := t.pos + d } := by
  cases r <;> rfl
theorem cutG_shift (d : Nat) : ∀ (f p : Nat) (R : List UInt8), R.length < f → cutG f (p + d) R = shift d (cutG f p R) := by
  intro f
  induction f with
  | zero => intro p R h; omega
  | succ f ih =>
    intro p R h
    cases R with
    | nil => rfl
    | cons b T =>
      rw [cutG_cons, cutG_cons]
      rcases e : tokOf (b :: T) with ⟨k, m, n⟩ | ⟨o, e'⟩
      · have ht := tokOf_tok e
        dsimp only
        rw [shift_cons]
        unfold cutS
        have hl : (((b :: T).drop n).drop (gapLen ((b :: T).drop n))).length ≤ T.length := by
          simp only [List.length_drop, List.length_cons]; omega
        rw [← ih _ _ (by simp at h; omega), show p + d + n + gapLen ((b :: T).drop n) = p + n + gapLen ((b :: T).drop n) + d by omega]
      · show CutR.err (p + d + o) e' = .err (p + o + d) e'
        rw [show p + d + o = p + o + d by omega]

theorem ga_app_stop {σ : Type} (step : σ → UInt8 → Bool × σ) (c : UInt8) (hs : ∀ st, (step st c).1 = false) (A B : List UInt8) : ∀ st, ga step st (A ++ c :: B) = ga step st A := by
  induction A with
  | nil => intro st; show ga step st (c :: B) = 0; unfold ga; rw [if_neg (by rw [hs]; decide)]
  | cons a A ih => intro st; show ga step st (a :: (A ++ c :: B)) = ga step st (a :: A); unfold ga; rw [ih]

/-- the state behind some bytes -/
def runs {σ : Type} (step : σ → UInt8 → Bool × σ) (st : σ) (A : List UInt8) : σ := A.foldl (fun s b => (step s b).2) st
theorem ga_app {σ : Type} (step : σ → UInt8 → Bool × σ) (A B : List UInt8) : ∀ st, ga step st (A ++ B) = if ga step st A < A.length then ga step st A else A.length + ga step (runs step st A) B := by
  induction A with
  | nil => intro st; simp [ga, runs]
  | cons a A ih =>
    intro st
    have e0 : ∀ X, ga step st (a :: X) = if (step st a).1 then ga step (step st a).2 X + 1 else 0 := fun _ => rfl
    have e9 : runs step st (a :: A) = runs step (step st a).2 A := rfl
    rw [List.cons_append, e0, e0, e9]
    by_cases h : (step st a).1 = true
    · rw [if_pos h, if_pos h, ih]
      by_cases h2 : ga step (step st a).2 A < A.length
      · rw [if_pos h2, if_pos (by simp; omega)]
      · rw [if_neg h2, if_neg (by simp; omega)]
        simp only [List.length_cons]
        omega
    · rw [if_neg h, if_neg h, if_pos (by simp)]

theorem isS_stop (c : UInt8) (h1 : signs1.contains c = false) (row : List UInt8) : isS (row ++ [c]) = false := by
  have hc : ∀ d ∈ signs1, d ≠ c := by
    intro d hd e
    subst e
    rw [List.contains_iff_mem.2 hd] at h1
    cases h1
  unfold isS
  have h2 : signs2.contains (row ++ [c]) = false := by
    rw [Bool.eq_false_iff]
    intro h
    have hm := List.contains_iff_mem.1 h
    have hlast : ∀ x ∈ signs2, x.getLast? ≠ some c := by
      intro x hx
      unfold signs2 at hx
      simp only [List.mem_cons, List.not_mem_nil, or_false] at hx
      have h61 := hc 61 (by decide)
      have h60 := hc 60 (by decide)
      have h62 := hc 62 (by decide)
      rcases hx with rfl | rfl | rfl | rfl | rfl | rfl <;> (intro e; simp at e) <;> first | exact h61 e | exact h60 e | exact h62 e
    exact hlast _ hm (by simp)
  rw [h2]
  rcases row with _ | ⟨a, _ | ⟨b, r⟩⟩
  · exact h1
  · rfl
  · rfl

theorem headL_app (A : List UInt8) (c : UInt8) (B : List UInt8) (n : Nat) (h : n ≤ A.length) (hc : isL c = false) : headL ((A ++ c :: B).drop n) = headL (A.drop n) := by
  rw [List.drop_append_of_le_length h]
  rcases e : A.drop n with _ | ⟨x, y⟩
  · exact hc
  · rfl

/-- the token at the head is the same where a byte that belongs to no token stands behind -/
theorem tokOf_app (b : UInt8) (T : List UInt8) (c : UInt8) (B : List UInt8) (hD : isD c = false) (hL : isL c = false) (hS : signs1.contains c = false) : tokOf ((b :: T) ++ c :: B) = tokOf (b :: T) := by
  have e1 : ga dgStep () ((b :: T) ++ c :: B) = ga dgStep () (b :: T) := ga_app_stop dgStep c (fun _ => hD) _ _ _
  have e2 : ga alStep () ((b :: T) ++ c :: B) = ga alStep () (b :: T) := ga_app_stop alStep c (fun _ => by show isA c = false; unfold isA; rw [hL, hD]; rfl) _ _ _
  have e3 : ga sgStep [] ((b :: T) ++ c :: B) = ga sgStep [] (b :: T) := ga_app_stop sgStep c (fun row => isS_stop c hS row) _ _ _
  show (if isD b = true then numTok ((b :: T) ++ c :: B) else if isL b = true then wordTok ((b :: T) ++ c :: B) else signTok ((b :: T) ++ c :: B)) = (if isD b = true then numTok (b :: T) else if isL b = true then wordTok (b :: T) else signTok (b :: T))
  have n1 : numTok ((b :: T) ++ c :: B) = numTok (b :: T) := by
    unfold numTok
    dsimp only
    rw [e1, List.take_append_of_le_length (ga_le _ _ _), headL_app _ _ _ _ (ga_le _ _ _) hL]
  have n2 : wordTok ((b :: T) ++ c :: B) = wordTok (b :: T) := by
    unfold wordTok
    dsimp only
    rw [e2, List.take_append_of_le_length (ga_le _ _ _)]
  have n3 : signTok ((b :: T) ++ c :: B) = signTok (b :: T) := by
    unfold signTok
    dsimp only
    rw [e3]
  rw [n1, n2, n3]

theorem gapLen_nl (r : Bool) (t : List UInt8) : ga skStep r (10 :: t) = 1 + gapLen t := by
  show (if (skStep r 10).1 then ga skStep (skStep r 10).2 t + 1 else 0) = _
  have h1 : (skStep r 10).1 = true := by cases r <;> decide
  have h2 : (skStep r 10).2 = false := by cases r <;> decide
  rw [if_pos h1, h2]
  unfold gapLen
  omega

def joinR : CutR → CutR → CutR
  | .inr (k, e), _ => .err k e
  | .inl a, r => r.pre a.dropLast
theorem joinR_cons (t : Tok) (x y : CutR) (h : ∀ a, x = .ok a → a ≠ []) : joinR (x.cons t) y = (joinR x y).cons t := by
  cases x with
  | inr x => rfl
  | inl a =>
    have := h a rfl
    cases a with
    | nil => exact absurd rfl this
    | cons u v =>
      show CutR.pre ((t :: u :: v).dropLast) y = _
      cases y <;> rfl
theorem cutG_ne : ∀ (f p : Nat) (R : List UInt8) (a : List Tok), cutG f p R = .ok a → a ≠ [] := by
  intro f p R a h
  cases f with
  | zero => cases h
  | succ f =>
    cases R with
    | nil => rw [cutG_nil] at h; injection h with h; subst h; simp
    | cons b T =>
      rw [cutG_cons] at h
      split at h
      · cases h
      · rename_i k m n _
        rcases e : cutS f (p + n) ((b :: T).drop n) with l | ⟨k', e'⟩
        · rw [e] at h; injection h with h; subst h; simp
        · rw [e] at h; cases h

/-- a text behind another one -/
theorem cutS_two (t : List UInt8) : ∀ (f p : Nat) (R : List UInt8), (R ++ 10 :: t).length < f → cutS f p (R ++ 10 :: t) = joinR (cutS f p R) (cutS f (p + R.length + 1) t) := by
  intro f
  induction f with
  | zero => intro p R h; omega
  | succ f ih =>
    intro p R h
    simp only [List.length_append, List.length_cons] at h
    have hg := ga_app skStep R (10 :: t) false
    rw [gapLen_nl] at hg
    change gapLen (R ++ 10 :: t) = if gapLen R < R.length then gapLen R else R.length + (1 + gapLen t) at hg
    by_cases hlt : gapLen R < R.length
    · have hg' : gapLen (R ++ 10 :: t) = gapLen R := by rw [hg, if_pos hlt]
      unfold cutS
      rw [hg', List.drop_append_of_le_length (by omega)]
      rcases e : R.drop (gapLen R) with _ | ⟨b, T⟩
      · have : (R.drop (gapLen R)).length = 0 := by rw [e]; rfl
        simp at this; omega
      · have hRl : (R.drop (gapLen R)).length = T.length + 1 := by rw [e]; rfl
        simp only [List.length_drop] at hRl
        show cutG (f + 1) (p + gapLen R) (b :: (T ++ 10 :: t)) = _
        rw [cutG_cons, cutG_cons]
        have et := tokOf_app b T 10 t (by decide) (by decide) (by decide)
        rw [List.cons_append] at et
        rw [et]
        rcases e1 : tokOf (b :: T) with ⟨k, m, n⟩ | ⟨o, e'⟩
        · have ht := tokOf_tok e1
          dsimp only
          rw [show b :: (T ++ 10 :: t) = (b :: T) ++ 10 :: t from rfl, List.drop_append_of_le_length ht.2.1, List.take_append_of_le_length ht.2.1]
          have hn : n ≤ T.length + 1 := by simpa using ht.2.1
          rw [ih _ _ (by simp; omega), joinR_cons]
          · have e5 : p + gapLen R + n + ((b :: T).drop n).length + 1 = p + R.length + 1 := by simp; omega
            rw [e5]
            have : cutS f (p + R.length + 1) t = cutS (f + 1) (p + R.length + 1) t := cutS_fuel _ _ _ _ (by omega) (by omega)
            rw [this]
            rfl
          · intro a ha
            unfold cutS at ha
            exact cutG_ne _ _ _ _ ha
        · rfl
    · have hle := gapLen_le R
      have hge : gapLen R = R.length := by omega
      have hg' : gapLen (R ++ 10 :: t) = R.length + (1 + gapLen t) := by
        rw [hg, if_neg hlt]
      have e1 : cutS (f + 1) p R = .ok [⟨0, [], 0, p + R.length⟩] := by
        unfold cutS
        rw [hge, List.drop_length]
        rfl
      rw [e1]
      show cutS (f + 1) p (R ++ 10 :: t) = CutR.pre [] _
      have e2 : ∀ r : CutR, CutR.pre [] r = r := by intro r; cases r <;> rfl
      rw [e2]
      unfold cutS
      rw [hg', show p + (R.length + (1 + gapLen t)) = p + R.length + 1 + gapLen t by omega]
      congr 1
      rw [← List.drop_drop, List.drop_left, ← List.drop_drop]
      rfl

theorem cut_two (s t : List UInt8) (h : s.length + 1 + t.length ≤ 8192) : cut (s ++ 10 :: t) = joinR (cut s) (shift (s.length + 1) (cut t)) := by
  rw [cut_eq _ (by simp; omega), cut_eq _ (by omega), cut_eq _ (by omega), cutS_two t _ _ _ (by simp)]
  have e1 : cutS ((s ++ 10 :: t).length + 1) 0 s = cutS (s.length + 1) 0 s := cutS_fuel _ _ _ _ (by simp; omega) (by omega)
  have e2 : cutS ((s ++ 10 :: t).length + 1) (0 + s.length + 1) t = cutS (t.length + 1) (0 + s.length + 1) t := cutS_fuel _ _ _ _ (by simp; omega) (by omega)
  rw [e1, e2]
  congr 1
  unfold cutS
  rw [show 0 + s.length + 1 + gapLen t = 0 + gapLen t + (s.length + 1) by omega]
  exact cutG_shift _ _ _ _ (by simp; omega)
end Go.Proofs.YtnofibjchhcmeabDoor
