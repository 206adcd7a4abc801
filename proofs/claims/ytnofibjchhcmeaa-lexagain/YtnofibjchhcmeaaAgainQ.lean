/- Plain: tokens that are joined, or stand with gaps ahead of each, are cut into the same tokens. -/
import Derived.Test.YtnofibjchhcmeaaAgainP
import Derived.Test.YtnofibjchhcmeaaJoin
namespace Go.Proofs.Ytnofibjchhcmeaa
set_option linter.unusedVariables false

/-- which gap stands ahead of token i -/
def gi (zs : List Int) (n i : Nat) : Nat := if n = 0 then 0 else ((zs.getD (i % n) 0) % 5).toNat
def gp (zs : List Int) (n i : Nat) : List UInt8 := gapsL.getD (gi zs n i) [32]
theorem gi_lt (zs : List Int) (n i : Nat) : gi zs n i < 5 := by
  unfold gi
  split
  · omega
  · omega
theorem gaps_mem (j : Nat) (h : j < 5) : gapsL.getD j [32] ∈ gapsL := by
  match j, h with
  | 0, _ => decide
  | 1, _ => decide
  | 2, _ => decide
  | 3, _ => decide
  | 4, _ => decide
theorem gp_mem (zs : List Int) (n i : Nat) : gp zs n i ∈ gapsL := gaps_mem _ (gi_lt zs n i)
theorem gaps_len (g : List UInt8) (h : g ∈ gapsL) : g.length ≤ 11 := by
  unfold gapsL at h
  simp only [List.mem_cons, List.not_mem_nil, or_false] at h
  rcases h with rfl | rfl | rfl | rfl | rfl <;> decide

def wv (G : Nat → List UInt8) : Nat → List Tok → List UInt8
  | _, [] => []
  | i, t :: r => G i ++ (t.text ++ wv G (i + 1) r)
theorem wv_snoc (G : Nat → List UInt8) (x : Tok) : ∀ (a : List Tok) (i : Nat), wv G i (a ++ [x]) = wv G i a ++ (G (i + a.length) ++ x.text) := by
  intro a
  induction a with
  | nil => intro i; simp [wv]
  | cons t a ih =>
    intro i
    show G i ++ (t.text ++ wv G (i + 1) (a ++ [x])) = G i ++ (t.text ++ wv G (i + 1) a) ++ _
    rw [ih (i + 1)]
    simp only [List.append_assoc, List.length_cons]
    have : i + 1 + a.length = i + (a.length + 1) := by omega
    rw [this]
def zg (G : Nat → List UInt8) : Nat → List Tok → List (List UInt8 × Tok)
  | _, [] => []
  | i, t :: r => (G i, t) :: zg G (i + 1) r
theorem wv_weave (G : Nat → List UInt8) (q : Nat) : ∀ (ts : List Tok) (i : Nat), wv G i (ts ++ [⟨0, [], 0, q⟩]) = weave (zg G i ts) (G (i + ts.length)) := by
  intro ts
  induction ts with
  | nil => intro i; simp [wv, zg, weave]
  | cons t ts ih =>
    intro i
    show G i ++ (t.text ++ wv G (i + 1) (ts ++ _)) = G i ++ (t.text ++ weave (zg G (i + 1) ts) _)
    rw [ih (i + 1)]
    have : i + 1 + ts.length = i + (t :: ts).length := by simp; omega
    rw [this]
theorem zg_toks (G : Nat → List UInt8) : ∀ (ts : List Tok) (i : Nat), toks0 (zg G i ts) = ts := by
  intro ts
  induction ts with
  | nil => intro i; rfl
  | cons t ts ih => intro i; show t :: toks0 (zg G (i + 1) ts) = _; rw [ih]
theorem zg_mem (G : Nat → List UInt8) : ∀ (ts : List Tok) (i : Nat) (x : List UInt8 × Tok), x ∈ zg G i ts → (∃ j, x.1 = G j) ∧ x.2 ∈ ts := by
  intro ts
  induction ts with
  | nil => intro i x h; cases h
  | cons t ts ih =>
    intro i x h
    rcases List.mem_cons.1 h with rfl | h
    · exact ⟨⟨i, rfl⟩, by simp⟩
    · obtain ⟨h1, h2⟩ := ih _ _ h
      exact ⟨h1, by simp [h2]⟩

def js : List Tok → List (List UInt8 × Tok)
  | [] => []
  | t :: r => ([], t) :: r.map (fun t => ([32], t))
theorem js_tail (r : List Tok) : weave (r.map (fun t => (([32] : List UInt8), t))) [] = Lib.joinTail [32] (r.map (fun t => t.text)) := by
  induction r with
  | nil => rfl
  | cons t r ih =>
    show [32] ++ (t.text ++ weave (r.map (fun t => (([32] : List UInt8), t))) []) = _
    rw [ih]
    simp [Lib.joinTail]
theorem js_weave (ts : List Tok) : weave (js ts) [] = Lib.join (ts.map (fun t => t.text)) [32] := by
  cases ts with
  | nil => rfl
  | cons t r =>
    show [] ++ (t.text ++ weave (r.map (fun t => (([32] : List UInt8), t))) []) = Lib.join (t.text :: r.map (fun t => t.text)) [32]
    rw [js_tail, Lib.join_cons]
    rfl
theorem js_toks (ts : List Tok) : toks0 (js ts) = ts := by
  cases ts with
  | nil => rfl
  | cons t r =>
    show t :: (r.map (fun t => (([32] : List UInt8), t))).map (fun x => x.2) = _
    rw [List.map_map]
    exact congrArg (List.cons t) (List.map_id r)

theorem cut_of (z : List UInt8) (hz : z = [] ∨ z ∈ gapsL) (l : List (List UInt8 × Tok)) (h1 : ∀ x ∈ l, Fine x.2) (h2 : ∀ x ∈ l.tail, x.1 ∈ gapsL) (h3 : ∀ x ∈ l, x.1 = [] ∨ x.1 ∈ gapsL) (h : (weave l z).length ≤ 8192) :
    ∃ l' q, cut (weave l z) = .ok (l' ++ [⟨0, [], 0, q⟩]) ∧ l'.map key = (toks0 l).map key := by
  obtain ⟨l', q, e, hk⟩ := cut_weave z hz l ((weave l z).length + 1) 0 h1 h2 h3 (by omega)
  refine ⟨l', q, ?_, hk⟩
  unfold cut
  rw [if_neg (by omega), ← e]
  unfold cutS
  rw [Nat.zero_add]

theorem alikes_key (a b : List Tok) (q p : Nat) (h : a.map key = b.map key) : alikes false (a ++ [⟨0, [], 0, q⟩]) (b ++ [⟨0, [], 0, p⟩]) := by
  have hl : a.length = b.length := by have := congrArg List.length h; simpa using this
  refine ⟨by simp [hl], fun i h1 h2 => ?_⟩
  by_cases hi : i < a.length
  · rw [List.getElem_append_left hi, List.getElem_append_left (by omega)]
    have e : (a.map key)[i]'(by simpa using hi) = (b.map key)[i]'(by simp; omega) := by
      have e2 : ∀ (X Y : List (Int × List UInt8 × Int)) (e : X = Y) (h1 : i < X.length) (h2 : i < Y.length), X[i] = Y[i] := by intro X Y e h1 h2; subst e; rfl
      exact e2 _ _ h _ _
    rw [List.getElem_map, List.getElem_map] at e
    unfold key at e
    injection e with e1 e2
    injection e2 with e2 e3
    exact ⟨e1, e2, e3, fun h => by cases h⟩
  · rw [List.getElem_append_right (by omega), List.getElem_append_right (by omega)]
    simp only [List.getElem_singleton]
    exact ⟨rfl, rfl, rfl, fun h => by cases h⟩

theorem textsOf_cut (ts : List Tok) (q : Nat) (h : ∀ t ∈ ts, t.kind ≠ 0) : textsOf (ts ++ [⟨0, [], 0, q⟩]) = ts.map (fun t => t.text) := by
  unfold textsOf
  rw [List.filter_append, List.filter_eq_self.2 (by intro t ht; simpa using h t ht)]
  simp

theorem again_join (L : List UInt8) (l : List Tok) (h : cut L = .ok l) (hJ : (Lib.join (textsOf l) [32]).length ≤ 8192) : ∃ a, cut (Lib.join (textsOf l) [32]) = .ok a ∧ alikes false a l := by
  obtain ⟨ts, q, rfl, hf, hk⟩ := cut_fine L l h
  rw [textsOf_cut ts q hk, ← js_weave] at hJ ⊢
  have c1 : ∀ x ∈ js ts, Fine x.2 := by
    intro x hx
    apply hf
    have : x.2 ∈ toks0 (js ts) := List.mem_map.2 ⟨x, hx, rfl⟩
    rwa [js_toks] at this
  have c2 : ∀ x ∈ (js ts).tail, x.1 ∈ gapsL := by
    intro x hx
    cases ts with
    | nil => cases hx
    | cons t r =>
      have hx' : x ∈ r.map (fun t => (([32] : List UInt8), t)) := hx
      obtain ⟨t', _, rfl⟩ := List.mem_map.1 hx'
      show ([32] : List UInt8) ∈ gapsL
      decide
  have c3 : ∀ x ∈ js ts, x.1 = [] ∨ x.1 ∈ gapsL := by
    intro x hx
    cases ts with
    | nil => cases hx
    | cons t r =>
      have hx' : x ∈ ([], t) :: r.map (fun t => (([32] : List UInt8), t)) := hx
      rcases List.mem_cons.1 hx' with rfl | hx'
      · exact Or.inl rfl
      · obtain ⟨t', _, rfl⟩ := List.mem_map.1 hx'
        right
        show ([32] : List UInt8) ∈ gapsL
        decide
  obtain ⟨l', q', e, hkk⟩ := cut_of [] (Or.inl rfl) (js ts) c1 c2 c3 hJ
  exact ⟨_, e, alikes_key l' ts q' q (by rw [hkk, js_toks])⟩

theorem again_weave (L : List UInt8) (l : List Tok) (h : cut L = .ok l) (G : Nat → List UInt8) (hG : ∀ i, G i ∈ gapsL) (hJ : (wv G 0 l).length ≤ 8192) : ∃ a, cut (wv G 0 l) = .ok a ∧ alikes false a l := by
  obtain ⟨ts, q, rfl, hf, hk⟩ := cut_fine L l h
  rw [wv_weave] at hJ ⊢
  have c1 : ∀ x ∈ zg G 0 ts, Fine x.2 := fun x hx => hf _ (zg_mem G ts 0 x hx).2
  have c2 : ∀ x ∈ (zg G 0 ts).tail, x.1 ∈ gapsL := by
    intro x hx
    obtain ⟨⟨j, e⟩, _⟩ := zg_mem G ts 0 x (List.mem_of_mem_tail hx)
    rw [e]; exact hG j
  have c3 : ∀ x ∈ zg G 0 ts, x.1 = [] ∨ x.1 ∈ gapsL := by
    intro x hx
    obtain ⟨⟨j, e⟩, _⟩ := zg_mem G ts 0 x hx
    right
    rw [e]; exact hG j
  obtain ⟨l', q', e, hkk⟩ := cut_of (G (0 + ts.length)) (Or.inr (hG _)) (zg G 0 ts) c1 c2 c3 hJ
  exact ⟨_, e, alikes_key l' ts q' q (by rw [hkk, zg_toks])⟩

theorem placed_text (L : List UInt8) : ∀ (l : List Tok) (k : Nat), placed L k l → ∀ t ∈ l, t.text.length ≤ L.length := by
  intro l
  induction l with
  | nil => intro k _ t h; cases h
  | cons x l ih =>
    intro k h t ht
    obtain ⟨h1, h2, h3, h4, h5⟩ := h
    rcases List.mem_cons.1 ht with rfl | ht
    · omega
    · exact ih _ h5 t ht
theorem cut_le92 (L : List UInt8) (l : List Tok) (h : cut L = .ok l) : L.length ≤ 8192 := by
  unfold cut at h
  split at h
  · cases h
  · omega
theorem cut_text (L : List UInt8) (l : List Tok) (h : cut L = .ok l) : ∀ t ∈ l, t.text.length ≤ 8192 := fun t ht => by
  have := placed_text L l 0 (cut_placed L l h).1 t ht
  have := cut_le92 L l h
  omega
theorem wv_len (G : Nat → List UInt8) (hG : ∀ i, G i ∈ gapsL) : ∀ (l : List Tok) (i : Nat), (∀ t ∈ l, t.text.length ≤ 8192) → (wv G i l).length ≤ l.length * 8203 := by
  intro l
  induction l with
  | nil => intro i _; simp [wv]
  | cons t l ih =>
    intro i h
    have h1 := ih (i + 1) (fun x hx => h x (by simp [hx]))
    have h2 := h t (by simp)
    have h3 := gaps_len _ (hG i)
    show (G i ++ (t.text ++ wv G (i + 1) l)).length ≤ _
    simp only [List.length_append, List.length_cons]
    omega
theorem joinTail_len (r : List (List UInt8)) (h : ∀ x ∈ r, x.length ≤ 8192) : (Lib.joinTail [32] r).length ≤ r.length * 8193 := by
  induction r with
  | nil => simp [Lib.joinTail]
  | cons x r ih =>
    have h1 := ih (fun y hy => h y (by simp [hy]))
    have h2 := h x (by simp)
    unfold Lib.joinTail at h1 ⊢
    simp only [List.map_cons, List.flatten_cons, List.length_append, List.length_cons, List.length_nil] at h1 ⊢
    omega
theorem join_len (r : List (List UInt8)) (h : ∀ x ∈ r, x.length ≤ 8192) : (Lib.join r [32]).length ≤ r.length * 8193 := by
  cases r with
  | nil => simp [Lib.join_nil]
  | cons x r =>
    rw [Lib.join_cons]
    have h1 := joinTail_len r (fun y hy => h y (by simp [hy]))
    have h2 := h x (by simp)
    simp only [List.length_append, List.length_cons]
    omega
theorem texts_len (l : List Tok) (h : ∀ t ∈ l, t.text.length ≤ 8192) : (Lib.join (textsOf l) [32]).length ≤ l.length * 8193 := by
  have h1 := join_len (textsOf l) (fun x hx => by
    unfold textsOf at hx
    obtain ⟨t, ht, rfl⟩ := List.mem_map.1 hx
    exact h t (List.mem_filter.1 ht).1)
  have h2 : (textsOf l).length ≤ l.length := by
    unfold textsOf
    rw [List.length_map]
    exact List.length_filter_le _ _
  exact Nat.le_trans h1 (Nat.mul_le_mul_right _ h2)
theorem tmod5 (x : Int) (h : ¬ x.tmod 5 < 0) : x.tmod 5 = ((x % 5).toNat : Int) := by
  have h1 := Int.tmod_eq_emod (a := x) (b := 5)
  have h2 : (5 : Int).natAbs = 5 := rfl
  rw [h2] at h1
  split at h1 <;> omega
theorem tmod5n (x : Int) (h : x.tmod 5 < 0) : x.tmod 5 + 5 = ((x % 5).toNat : Int) := by
  have h1 := Int.tmod_eq_emod (a := x) (b := 5)
  have h2 : (5 : Int).natAbs = 5 := rfl
  rw [h2] at h1
  split at h1 <;> omega
theorem one_ne2 {R : List UInt8} {o : Nat} {e : Int} (h : tokOf R = .bad o e) (hR : R ≠ []) : e ≠ 0 := by
  cases R with
  | nil => exact absurd rfl hR
  | cons b T =>
    replace h : (if isD b = true then numTok (b :: T) else if isL b = true then wordTok (b :: T) else signTok (b :: T)) = .bad o e := h
    unfold numTok wordTok signTok at h
    dsimp only at h
    repeat' split at h
    all_goals first | (cases h; done) | (injection h with h1 h2; subst h2; decide)
theorem cutG_err2 : ∀ (f p : Nat) (R : List UInt8) (k : Nat) (e : Int), R.length < f → cutG f p R = .err k e → e ≠ 0 ∧ k ≤ p + R.length := by
  intro f
  induction f with
  | zero => intro p R k e h; omega
  | succ f ih =>
    intro p R k e h he
    cases R with
    | nil => cases he
    | cons b T =>
      rw [cutG_cons] at he
      rcases e1 : tokOf (b :: T) with ⟨kd, m, n⟩ | ⟨o, e'⟩
      · rw [e1] at he
        dsimp only at he
        rcases e2 : cutS f (p + n) ((b :: T).drop n) with l | ⟨k', e'⟩
        · rw [e2] at he; cases he
        · rw [e2] at he
          cases he
          have ht := tokOf_tok e1
          have := ih _ _ _ _ (by simp at h ⊢; omega) e2
          refine ⟨this.1, Nat.le_trans this.2 ?_⟩
          have hg := gapLen_le ((b :: T).drop n)
          simp only [List.length_drop] at hg ⊢
          have := ht.2.1
          omega
      · rw [e1] at he
        cases he
        refine ⟨one_ne2 e1 (by simp), ?_⟩
        have ho : o ≤ (b :: T).length := by
          replace e1 : (if isD b = true then numTok (b :: T) else if isL b = true then wordTok (b :: T) else signTok (b :: T)) = .bad o e := e1
          unfold numTok wordTok signTok at e1
          dsimp only at e1
          repeat' split at e1
          all_goals first | (cases e1; done) | (injection e1 with h1 h2; subst h1; first | exact Nat.zero_le _ | exact ga_le _ _ _)
        omega
theorem cut_err2 (L : List UInt8) (k : Nat) (e : Int) (h : cut L = .err k e) : e ≠ 0 ∧ k ≤ L.length := by
  unfold cut at h
  split at h
  · cases h; exact ⟨by decide, Nat.zero_le _⟩
  · have hg := gapLen_le L
    have := cutG_err2 _ _ _ _ _ (by simp; omega) h
    simp only [List.length_drop] at this
    exact ⟨this.1, by omega⟩

theorem cutG_len2 : ∀ (f p : Nat) (R : List UInt8) (l : List Tok), cutG f p R = .ok l → l.length ≤ R.length + 1 := by
  intro f
  induction f with
  | zero => intro p R l h; cases h
  | succ f ih =>
    intro p R l h
    cases R with
    | nil => rw [cutG_nil] at h; cases h; simp
    | cons b T =>
      rw [cutG_cons] at h
      rcases e1 : tokOf (b :: T) with ⟨kd, m, n⟩ | ⟨o, e'⟩
      · rw [e1] at h
        dsimp only at h
        have ht := tokOf_tok e1
        rcases e2 : cutS f (p + n) ((b :: T).drop n) with l' | ⟨k', e'⟩
        · rw [e2] at h
          cases h
          have := ih _ _ _ e2
          simp only [List.length_drop, List.length_cons] at this ⊢
          omega
        · rw [e2] at h; cases h
      · rw [e1] at h; cases h
theorem cut_len2 (L : List UInt8) (l : List Tok) (h : cut L = .ok l) : l.length ≤ 8193 := by
  unfold cut at h
  split at h
  · cases h
  · have := cutG_len2 _ _ _ _ h
    simp only [List.length_drop] at this
    omega

end Go.Proofs.Ytnofibjchhcmeaa
