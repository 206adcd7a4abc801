/- Tokens put together anew, with blanks and remarks between: plain facts. -/
import Derived.Test.YtnofibjchhcmeaaCutQ
namespace Go.Proofs.Ytnofibjchhcmeaa
open Go.RowKit
set_option linter.unusedVariables false

theorem ga_take {σ : Type} (step : σ → UInt8 → Bool × σ) (R : List UInt8) : ∀ st, ga step st (R.take (ga step st R)) = ga step st R := by
  induction R with
  | nil => intro st; rfl
  | cons b R ih =>
    intro st
    have e0 : ∀ X, ga step st (b :: X) = if (step st b).1 then ga step (step st b).2 X + 1 else 0 := fun _ => rfl
    rw [e0]
    by_cases h : (step st b).1 = true
    · rw [if_pos h, List.take_succ_cons, e0, if_pos h, ih]
    · rw [if_neg h]; rfl

/-- a token's own text is that token -/
theorem tok_take {R : List UInt8} {k m : Int} {n : Nat} (h : tokOf R = .tok k m n) : tokOf (R.take n) = .tok k m n := by
  have hn := tokOf_tok h
  cases R with
  | nil => simp [tokOf] at h
  | cons b T =>
    obtain ⟨n', rfl⟩ : ∃ n', n = n' + 1 := ⟨n - 1, by omega⟩
    replace h : (if isD b = true then numTok (b :: T) else if isL b = true then wordTok (b :: T) else signTok (b :: T)) = .tok k m (n' + 1) := h
    rw [List.take_succ_cons]
    show (if isD b = true then numTok (b :: T.take n') else if isL b = true then wordTok (b :: T.take n') else signTok (b :: T.take n')) = .tok k m (n' + 1)
    rw [← List.take_succ_cons]
    split at h
    · rename_i hd
      rw [if_pos hd]
      unfold numTok at h ⊢
      dsimp only at h ⊢
      split at h
      · cases h
      · rename_i h1
        split at h
        · cases h
        · rename_i h2
          injection h with g1 g2 g3
          have e : ga dgStep () ((b :: T).take (n' + 1)) = n' + 1 := by rw [← g3, ga_take]
          rw [e, List.take_take, Nat.min_self]
          rw [g3] at h1 g2
          rw [if_neg h1, List.drop_of_length_le (by simp; omega), if_neg (by simp [headL]), g1, g2]
    · rename_i hd
      rw [if_neg hd]
      split at h
      · rename_i hl
        rw [if_pos hl]
        unfold wordTok at h ⊢
        dsimp only at h ⊢
        split at h
        · rename_i h1
          injection h with g1 g2 g3
          have e : ga alStep () ((b :: T).take (n' + 1)) = n' + 1 := by rw [← g3, ga_take]
          rw [e, List.take_take, Nat.min_self]
          rw [g3] at h1
          rw [if_pos h1, g1, g2]
        · rename_i h1
          split at h
          · cases h
          · rename_i h2
            injection h with g1 g2 g3
            have e : ga alStep () ((b :: T).take (n' + 1)) = n' + 1 := by rw [← g3, ga_take]
            rw [e, List.take_take, Nat.min_self]
            rw [g3] at h1 h2
            rw [if_neg h1, if_neg h2, g1, g2]
      · rename_i hl
        rw [if_neg hl]
        unfold signTok at h ⊢
        dsimp only at h ⊢
        split at h
        · cases h
        · injection h with g1 g2 g3
          have e : ga sgStep [] ((b :: T).take (n' + 1)) = n' + 1 := by rw [← g3, ga_take]
          rw [e, if_neg (by omega), g1, g2]

/-- a byte that begins no blank and no remark -/
def nb (b : UInt8) : Bool := !((b.toNat == 35) || isB b)
theorem tok_nb {b : UInt8} {T : List UInt8} {k m : Int} {n : Nat} (h : tokOf (b :: T) = .tok k m n) : nb b = true := by
  have hc : isD b = true ∨ isL b = true ∨ signs1.contains b = true := by
    rcases hd : isD b with _ | _
    · rcases hl : isL b with _ | _
      · right; right
        replace h : (if isD b = true then numTok (b :: T) else if isL b = true then wordTok (b :: T) else signTok (b :: T)) = .tok k m n := h
        rw [hd, hl] at h
        simp only [Bool.false_eq_true, if_false] at h
        unfold signTok at h
        dsimp only at h
        split at h
        · cases h
        · rename_i h0
          rw [← Bool.not_eq_false]
          intro hs
          apply h0
          show (if (sgStep [] b).1 then _ else 0) = 0
          rw [if_neg]
          show ¬ isS ([] ++ [b]) = true
          rw [isS_stop b hs]; decide
      · right; left; rfl
    · left; rfl
  unfold nb isB
  rcases hc with h | h | h
  · unfold isD at h; simp at h ⊢; omega
  · unfold isL at h; simp at h ⊢; omega
  · have := List.contains_iff_mem.1 h
    unfold signs1 at this
    simp only [List.mem_cons, List.not_mem_nil, or_false] at this
    rcases this with rfl | rfl | rfl | rfl | rfl | rfl | rfl | rfl | rfl | rfl | rfl | rfl | rfl | rfl | rfl | rfl | rfl | rfl | rfl | rfl | rfl <;> decide

/-- nothing, or what begins with a byte that begins no blank and no remark -/
def nbs : List UInt8 → Bool
  | [] => true
  | b :: _ => nb b
theorem gap_nbs (R : List UInt8) (h : nbs R = true) : gapLen R = 0 := by
  cases R with
  | nil => rfl
  | cons b T =>
    have h' : nb b = true := h
    unfold nb at h'
    show (if (skStep false b).1 then ga skStep (skStep false b).2 T + 1 else 0) = 0
    rw [if_neg]
    unfold skStep
    dsimp only
    revert h'
    rcases (b.toNat == 35) with _ | _ <;> rcases isB b with _ | _ <;> simp

/-- the gaps that are put between -/
def gapsL : List (List UInt8) := [[32], [10], [35, 32, 97, 32, 39, 32, 36, 32, 55, 97, 10], [9, 13, 10], [32, 32]]
theorem gap_cons (b : UInt8) (T : List UInt8) (r : Bool) : ga skStep r (b :: T) = if (skStep r b).1 then ga skStep (skStep r b).2 T + 1 else 0 := rfl
theorem gap_of (g : List UInt8) (hg : g = [] ∨ g ∈ gapsL) (R : List UInt8) (h : nbs R = true) : gapLen (g ++ R) = g.length := by
  have h0 : ga skStep false R = 0 := gap_nbs R h
  rcases hg with rfl | hg
  · exact h0
  · unfold gapsL at hg
    simp only [List.mem_cons, List.not_mem_nil, or_false] at hg
    unfold gapLen
    rcases hg with rfl | rfl | rfl | rfl | rfl <;> simp [gap_cons, skStep, isB, h0]
theorem gap_head (g : List UInt8) (hg : g ∈ gapsL) : ∃ c r, g = c :: r ∧ isD c = false ∧ isL c = false ∧ signs1.contains c = false := by
  unfold gapsL at hg
  simp only [List.mem_cons, List.not_mem_nil, or_false] at hg
  rcases hg with rfl | rfl | rfl | rfl | rfl <;> exact ⟨_, _, rfl, by decide, by decide, by decide⟩

/-- a token that is told by its text -/
def Fine (t : Tok) : Prop := tokOf t.text = .tok t.kind t.num t.text.length
theorem Fine.cons {t : Tok} (h : Fine t) : ∃ b T, t.text = b :: T ∧ nb b = true := by
  rcases e : t.text with _ | ⟨b, T⟩
  · unfold Fine at h; rw [e] at h; simp [tokOf] at h
  · refine ⟨b, T, rfl, ?_⟩
    unfold Fine at h
    rw [e] at h
    exact tok_nb h

/-- gaps and tokens, one behind the other, and a gap behind all -/
def weave : List (List UInt8 × Tok) → List UInt8 → List UInt8
  | [], z => z
  | (g, t) :: r, z => g ++ (t.text ++ weave r z)
def toks0 (l : List (List UInt8 × Tok)) : List Tok := l.map (fun x => x.2)

def key (t : Tok) : Int × List UInt8 × Int := (t.kind, t.text, t.num)

theorem weave_head (z : List UInt8) (hz : z = [] ∨ z ∈ gapsL) (l : List (List UInt8 × Tok)) (h : ∀ x ∈ l, x.1 ∈ gapsL) : weave l z = [] ∨ ∃ c B, weave l z = c :: B ∧ isD c = false ∧ isL c = false ∧ signs1.contains c = false := by
  cases l with
  | nil =>
    rcases hz with rfl | hz
    · exact Or.inl rfl
    · obtain ⟨c, r, rfl, h1⟩ := gap_head z hz
      exact Or.inr ⟨c, r, rfl, h1⟩
  | cons x r =>
    obtain ⟨g, t⟩ := x
    obtain ⟨c, r', e, h1⟩ := gap_head g (h (g, t) (by simp))
    exact Or.inr ⟨c, r' ++ (t.text ++ weave r z), by show g ++ _ = _; rw [e]; rfl, h1⟩

theorem cut_weave (z : List UInt8) (hz : z = [] ∨ z ∈ gapsL) : ∀ (l : List (List UInt8 × Tok)) (f p : Nat), (∀ x ∈ l, Fine x.2) → (∀ x ∈ l.tail, x.1 ∈ gapsL) → (∀ x ∈ l, x.1 = [] ∨ x.1 ∈ gapsL) → (weave l z).length < f →
    ∃ l' q, cutS f p (weave l z) = .ok (l' ++ [⟨0, [], 0, q⟩]) ∧ l'.map key = (toks0 l).map key := by
  intro l
  induction l with
  | nil =>
    intro f p _ _ _ hf
    obtain ⟨f', rfl⟩ : ∃ f', f = f' + 1 := ⟨f - 1, by omega⟩
    have hg := gap_of z hz [] rfl
    rw [List.append_nil] at hg
    refine ⟨[], p + z.length, ?_, rfl⟩
    show cutG (f' + 1) (p + gapLen z) (z.drop (gapLen z)) = _
    rw [hg, List.drop_length]
    rfl
  | cons x r ih =>
    intro f p hfine htail hall hf
    obtain ⟨g, t⟩ := x
    obtain ⟨f', rfl⟩ : ∃ f', f = f' + 1 := ⟨f - 1, by omega⟩
    have ht : Fine t := hfine (g, t) (by simp)
    obtain ⟨b, T, e, hb⟩ := ht.cons
    have hw : weave ((g, t) :: r) z = g ++ (t.text ++ weave r z) := rfl
    have hlen : (weave r z).length < f' := by
      rw [hw, e] at hf
      simp only [List.length_append, List.length_cons] at hf
      omega
    have hg : gapLen (g ++ (t.text ++ weave r z)) = g.length := gap_of g (hall (g, t) (by simp)) _ (by rw [e]; exact hb)
    have hr : ∀ x ∈ r, x.1 ∈ gapsL := fun x hx => htail x hx
    obtain ⟨l', q, h1, h2⟩ := ih f' (p + g.length + t.text.length) (fun x hx => hfine x (by simp [hx])) (fun x hx => hr x (List.mem_of_mem_tail hx)) (fun x hx => Or.inr (hr x hx)) hlen
    have htok : tokOf (t.text ++ weave r z) = .tok t.kind t.num t.text.length := by
      rcases weave_head z hz r hr with h0 | ⟨c, B, h0, c1, c2, c3⟩
      · rw [h0, List.append_nil]; exact ht
      · rw [h0, e, tokOf_app b T c B c1 c2 c3, ← e]; exact ht
    refine ⟨⟨t.kind, t.text, t.num, p + g.length⟩ :: l', q, ?_, ?_⟩
    · rw [hw]
      show cutG (f' + 1) (p + gapLen (g ++ (t.text ++ weave r z))) ((g ++ (t.text ++ weave r z)).drop (gapLen (g ++ (t.text ++ weave r z)))) = _
      rw [hg, List.drop_left]
      have e1 : t.text ++ weave r z = b :: (T ++ weave r z) := by rw [e]; rfl
      have htok' := htok
      rw [e1] at htok'
      rw [e1, cutG_cons, htok']
      dsimp only
      rw [← e1, List.drop_left, List.take_left, h1]
      rfl
    · show key _ :: l'.map key = key t :: (toks0 r).map key
      rw [h2]
      rfl

/-- each token that was cut is told by its text -/
theorem cutG_fine : ∀ (f p : Nat) (R : List UInt8) (l : List Tok), cutG f p R = .ok l → ∃ ts q, l = ts ++ [⟨0, [], 0, q⟩] ∧ (∀ t ∈ ts, Fine t) ∧ ∀ t ∈ ts, t.kind ≠ 0 := by
  intro f
  induction f with
  | zero => intro p R l h; cases h
  | succ f ih =>
    intro p R l h
    cases R with
    | nil => rw [cutG_nil] at h; cases h; exact ⟨[], p, rfl, by simp, by simp⟩
    | cons b T =>
      rw [cutG_cons] at h
      rcases e1 : tokOf (b :: T) with ⟨kd, m, n⟩ | ⟨o, e'⟩
      · rw [e1] at h
        dsimp only at h
        have ht := tokOf_tok e1
        rcases e2 : cutS f (p + n) ((b :: T).drop n) with l' | ⟨k', e'⟩
        · rw [e2] at h
          cases h
          obtain ⟨ts, q, rfl, h3, h4⟩ := ih _ _ _ e2
          refine ⟨⟨kd, (b :: T).take n, m, p⟩ :: ts, q, rfl, ?_, ?_⟩
          · intro t hm
            rcases List.mem_cons.1 hm with rfl | hm
            · show tokOf ((b :: T).take n) = .tok kd m ((b :: T).take n).length
              rw [tok_take e1, List.length_take, Nat.min_eq_left ht.2.1]
            · exact h3 t hm
          · intro t hm
            rcases List.mem_cons.1 hm with rfl | hm
            · exact ht.2.2
            · exact h4 t hm
        · rw [e2] at h; cases h
      · rw [e1] at h; cases h
theorem cut_fine (L : List UInt8) (l : List Tok) (h : cut L = .ok l) : ∃ ts q, l = ts ++ [⟨0, [], 0, q⟩] ∧ (∀ t ∈ ts, Fine t) ∧ ∀ t ∈ ts, t.kind ≠ 0 := by
  unfold cut at h
  split at h
  · cases h
  · exact cutG_fine _ _ _ _ h
end Go.Proofs.Ytnofibjchhcmeaa
