/- What is encoded is decoded as it was, and what is decoded is encoded as those bytes: plain. -/
import Derived.Test.YthcidcfaodjbjaaDec
namespace Go.Proofs.Ythcidcfaodjbjaa
open Go.RowKit
set_option linter.unusedVariables false
set_option linter.unusedSimpArgs false

theorem tk_uintF : ∀ (f i acc m : Nat) (R : List UInt8), i + f = 9 → m < 2 ^ (64 - 7 * i) → (0 < i → 0 < m) → tk i acc (uintF f m ++ R) = .ok (acc + m * 128 ^ i) R := by
  intro f
  induction f with
  | zero =>
    intro i acc m R hi hm h0
    have : i = 9 := by omega
    subst this
    have hm2 : m < 2 := by simpa using hm
    have hc : (UInt8.ofNat m).toNat = m := by simp [UInt8.toNat_ofNat']; omega
    show tk 9 acc (UInt8.ofNat m :: R) = _
    unfold tk
    rw [hc, if_neg (by have := h0 (by omega); omega), if_pos (by omega), Nat.mod_eq_of_lt (by omega)]
  | succ f ih =>
    intro i acc m R hi hm h0
    by_cases hl : m < 128
    · have hc : (UInt8.ofNat m).toNat = m := by simp [UInt8.toNat_ofNat']; omega
      rw [uintF_low _ _ hl]
      show tk i acc (UInt8.ofNat m :: R) = _
      unfold tk
      rw [hc, if_neg (by omega), if_pos hl, Nat.mod_eq_of_lt hl]
    · have hc : (UInt8.ofNat (m % 128 + 128)).toNat = m % 128 + 128 := by simp [UInt8.toNat_ofNat']; omega
      rw [uintF_high _ _ hl]
      show tk i acc (UInt8.ofNat (m % 128 + 128) :: (uintF f (m / 128) ++ R)) = _
      unfold tk
      rw [hc, if_neg (by omega), if_neg (by omega)]
      rw [ih (i + 1) _ (m / 128) R (by omega) ?_ (by omega)]
      · congr 1
        have e : (m % 128 + 128) % 128 = m % 128 := by omega
        rw [e, Nat.pow_succ, Nat.add_assoc]
        congr 1
        have h1 : m / 128 * (128 ^ i * 128) = (128 * (m / 128)) * 128 ^ i := by rw [Nat.mul_comm (128 ^ i) 128, ← Nat.mul_assoc, Nat.mul_comm (m / 128) 128]
        rw [h1, ← Nat.add_mul]
        congr 1
        omega
      · have h2 : 64 - 7 * i = (64 - 7 * (i + 1)) + 7 := by omega
        rw [h2, Nat.pow_add] at hm
        have : (2 : Nat) ^ 7 = 128 := by decide
        rw [this] at hm
        exact Nat.div_lt_of_lt_mul (by rw [Nat.mul_comm]; exact hm)
theorem tk_uintB (n : Nat) (R : List UInt8) (h : n ≤ 18446744073709551615) : tk 0 0 (uintB n ++ R) = .ok n R := by
  have := tk_uintF 9 0 0 n R rfl (by omega) (by omega)
  simpa [uintB] using this
theorem tkC_of (n : Nat) (R : List UInt8) (h : n ≤ 18446744073709551615) (hn : n ≤ R.length) : tkC 1 (uintB n ++ R) = .ok n R := by
  unfold tkC
  rw [tk_uintB n R h]
  dsimp only
  rw [Nat.div_one, if_neg (by omega)]

theorem rU_of (n : Nat) (R : List UInt8) (h : n ≤ 18446744073709551615) : rU (uintB n ++ R) 0 = (n, R, 0) := by
  unfold rU; rw [if_pos rfl, tk_uintB n R h]
theorem rI_of (k : Int) (R : List UInt8) (h : r64 k) : rI (uintB (zig k) ++ R) 0 = (k, R, 0) := by
  unfold rI; rw [if_pos rfl, tk_uintB _ R (zig_le k h.1 h.2)]; simp only [zag_zig]
theorem sm_of (n : Int) (h0 : 0 ≤ n) (h1 : n ≤ 1000) : sm n.toNat = n := by unfold sm; rw [if_pos (by omega)]; omega
theorem step_of (x y : In) (hx : Pos x) (c : UInt8) (R : List UInt8) : stepT (y, partB x c ++ R, 0) c = (keep1 x y c, R, 0) := by
  obtain ⟨hk, ho, ha, hb, hc, hkk⟩ := hx
  unfold stepT partB keep1
  by_cases h1 : c = 111
  · simp only [if_pos h1]; rw [rU_of _ R (by omega), sm_of _ ho.1 ho.2]
  · by_cases h2 : c = 107 ∨ c = 108
    · simp only [if_neg h1, if_pos h2]; rw [rI_of _ R hkk]
    · by_cases h3 : c = 97
      · simp only [if_neg h1, if_neg h2, if_pos h3]; rw [rU_of _ R (by omega), sm_of _ ha.1 ha.2]
      · by_cases h4 : c = 98
        · simp only [if_neg h1, if_neg h2, if_neg h3, if_pos h4]; rw [rU_of _ R (by omega), sm_of _ hb.1 hb.2]
        · simp only [if_neg h1, if_neg h2, if_neg h3, if_neg h4]; rw [rU_of _ R (by omega), sm_of _ hc.1 hc.2]
theorem fold_of (x : In) (hx : Pos x) (R : List UInt8) : ∀ (P : List UInt8) (y : In), foldT (y, partsB x P ++ R, 0) P = (P.foldl (keep1 x) y, R, 0) := by
  intro P
  induction P with
  | nil => intro y; rfl
  | cons c P ih =>
    intro y
    have : foldT (y, partsB x (c :: P) ++ R, 0) (c :: P) = foldT (stepT (y, partB x c ++ (partsB x P ++ R), 0) c) P := by
      unfold foldT partsB; rw [List.flatMap_cons, List.append_assoc]; rfl
    rw [this, step_of x y hx c, ih]; rfl
theorem inEq_eq {x y : In} (h : inEq x y = true) : x = y := by
  unfold inEq at h
  simp only [Bool.and_eq_true, beq_iff_eq] at h
  obtain ⟨n, op, a, b, c, k⟩ := x
  obtain ⟨n', op', a', b', c', k'⟩ := y
  obtain ⟨h1, h2, h3, h4, h5, h6⟩ := h
  simp only at h1 h2 h3 h4 h5 h6
  rw [h1, h2, h3, h4, h5, h6]
theorem one_parts {x : In} {cells long : Int} (h : oneC x cells long = 0) : (lets x.kind).isSome = true ∧ keepL x ((lets x.kind).getD ⟨#[]⟩).data.toList = x := by
  unfold oneC oneS at h
  split at h
  · simp at h
  · rename_i h1
    split at h
    · simp at h
    · split at h
      · simp at h
      · rename_i h2
        refine ⟨?_, inEq_eq (by simpa using h2)⟩
        have : ¬ ((lets x.kind).isSome = false) := fun e => h1 (Or.inl e)
        rw [Bool.not_eq_false] at this
        exact this
theorem takeX_of (x : In) (cells long : Int) (R : List UInt8) (h : oneC x cells long = 0) (hr : r64 x.k) : takeX (insB x ++ R) = (x, 0, R, 0) := by
  have hp := pos_of_one x cells long h hr
  obtain ⟨h1, h2⟩ := one_parts h
  have e : rU (insB x ++ R) 0 = (x.kind.toNat, partsB x ((lets x.kind).getD ⟨#[]⟩).data.toList ++ R, 0) := by
    unfold insB
    rw [List.append_assoc, rU_of _ _ (by have := hp.kind; omega)]
  unfold takeX
  rw [e]
  simp only [sm_of _ hp.kind.1 hp.kind.2]
  rw [if_neg (by simp), if_neg (by rw [h1]; simp), fold_of x hp]
  simp only
  have : List.foldl (keep1 x) ⟨x.kind, 0, 0, 0, 0, 0⟩ ((lets x.kind).getD ⟨#[]⟩).data.toList = x := h2
  rw [this]
theorem decN_of (cells long : Int) (R : List UInt8) : ∀ (l : List In), (∀ x ∈ l, oneC x cells long = 0) → (∀ x ∈ l, r64 x.k) → decN l.length (rowB l ++ R) = .ok l R := by
  intro l
  induction l with
  | nil => intro _ _; rfl
  | cons x l ih =>
    intro h1 h2
    have e : rowB (x :: l) ++ R = insB x ++ (rowB l ++ R) := by unfold rowB; rw [List.flatMap_cons, List.append_assoc]
    rw [e]
    show (if _ = 0 then _ else _) = _
    rw [takeX_of x cells long _ (h1 x (by simp)) (h2 x (by simp))]
    simp only [if_true]
    rw [ih (fun y hy => h1 y (by simp [hy])) (fun y hy => h2 y (by simp [hy]))]
    rfl
theorem insB_pos (x : In) : 1 ≤ (insB x).length := by
  have : 0 < (uintB x.kind.toNat).length := by unfold uintB uintF; split <;> simp
  unfold insB; rw [List.length_append]; omega
theorem rowB_ge (l : List In) : l.length ≤ (rowB l).length := by
  induction l with
  | nil => simp
  | cons x l ih => have := insB_pos x; unfold rowB at ih ⊢; simp only [List.flatMap_cons, List.length_append, List.length_cons]; omega
theorem decode_enc (l : List In) (cells : Int) (h : (checkL l cells).2 = 0) (hr : ∀ x ∈ l, r64 x.k) : decodeR (encB l) cells = (l, 0) := by
  obtain ⟨h1, h6, hone⟩ := checkL_ok l cells h
  unfold decodeR encB
  rw [tkC_of l.length (rowB l) (by omega) (rowB_ge l)]
  simp only
  have := decN_of cells (l.length : Int) [] l hone hr
  rw [List.append_nil] at this
  rw [this]
  simp only [List.length_nil, Nat.lt_irrefl, if_false]
  rw [if_pos h]

/-! ### the way back -/
theorem rU_back {M M1 : List UInt8} {n : Nat} (h : rU M 0 = (n, M1, 0)) : n ≤ 18446744073709551615 ∧ M = uintB n ++ M1 := by
  unfold rU at h
  rw [if_pos rfl] at h
  rcases ht : tk 0 0 M with ⟨m, R⟩ | k
  · rw [ht] at h
    injection h with h1 h2
    injection h2 with h2 h3
    subst h1 h2
    exact tk_back M m R ht
  · rw [ht] at h
    injection h with h1 h2
    injection h2 with h2 h3
    have := tk_err M 0 0 k ht
    omega
theorem zig_zag (n : Nat) : zig (zag n) = n := by
  unfold zig zag
  split <;> split <;> omega
theorem rI_back {M M1 : List UInt8} {k : Int} (h : rI M 0 = (k, M1, 0)) : M = uintB (zig k) ++ M1 := by
  unfold rI at h
  rw [if_pos rfl] at h
  rcases ht : tk 0 0 M with ⟨m, R⟩ | e
  · rw [ht] at h
    injection h with h1 h2
    injection h2 with h2 h3
    subst h1 h2
    rw [zig_zag]
    exact (tk_back M m R ht).2
  · rw [ht] at h
    injection h with h1 h2
    injection h2 with h2 h3
    have := tk_err M 0 0 e ht
    omega
theorem step_err (t : In × List UInt8 × Int) (c : UInt8) (h : t.2.2 ≠ 0) : (stepT t c).2.2 = t.2.2 := by
  have e1 : (rU t.2.1 t.2.2).2.2 = t.2.2 := by unfold rU; rw [if_neg h]
  have e2 : (rI t.2.1 t.2.2).2.2 = t.2.2 := by unfold rI; rw [if_neg h]
  unfold stepT
  (repeat' split) <;> first | exact e1 | exact e2
theorem fold_err (P : List UInt8) : ∀ t : In × List UInt8 × Int, t.2.2 ≠ 0 → (foldT t P).2.2 = t.2.2 := by
  induction P with
  | nil => intro t _; rfl
  | cons c P ih =>
    intro t h
    have e := step_err t c h
    show (foldT (stepT t c) P).2.2 = _
    rw [ih _ (by rw [e]; exact h), e]
/-- which part a letter names -/
def cls (c : UInt8) : Nat := if c = 111 then 0 else if c = 107 ∨ c = 108 then 1 else if c = 97 then 2 else if c = 98 then 3 else 4
def getF (x : In) (c : UInt8) : Int := if c = 111 then x.op else if c = 107 ∨ c = 108 then x.k else if c = 97 then x.a else if c = 98 then x.b else x.c
theorem step_get (t : In × List UInt8 × Int) (c d : UInt8) (h : cls c ≠ cls d) : getF (stepT t d).1 c = getF t.1 c := by
  unfold cls at h
  unfold stepT getF
  by_cases h1 : d = 111
  · rw [if_pos h1] at h ⊢
    by_cases g1 : c = 111
    · rw [if_pos g1] at h; exact absurd rfl h
    · rw [if_neg g1, if_neg g1]
  · rw [if_neg h1] at h ⊢
    by_cases h2 : d = 107 ∨ d = 108
    · rw [if_pos h2] at h ⊢
      by_cases g1 : c = 111
      · rw [if_pos g1, if_pos g1]
      · rw [if_neg g1] at h
        by_cases g2 : c = 107 ∨ c = 108
        · rw [if_pos g2] at h; exact absurd rfl h
        · rw [if_neg g1, if_neg g1, if_neg g2, if_neg g2]
    · rw [if_neg h2] at h ⊢
      by_cases h3 : d = 97
      · rw [if_pos h3] at h ⊢
        by_cases g3 : c = 97
        · subst g3; exact absurd (by decide) h
        · (repeat' split) <;> rfl
      · rw [if_neg h3] at h ⊢
        by_cases h4 : d = 98
        · rw [if_pos h4] at h ⊢
          by_cases g4 : c = 98
          · subst g4; exact absurd (by decide) h
          · (repeat' split) <;> rfl
        · rw [if_neg h4] at h ⊢
          (repeat' split) <;> first | rfl | (exfalso; apply h; simp_all)
theorem fold_get (c : UInt8) (P : List UInt8) : ∀ t : In × List UInt8 × Int, (∀ d ∈ P, cls c ≠ cls d) → getF (foldT t P).1 c = getF t.1 c := by
  induction P with
  | nil => intro t _; rfl
  | cons d P ih =>
    intro t h
    show getF (foldT (stepT t d) P).1 c = _
    rw [ih _ (fun e he => h e (by simp [he])), step_get t c d (h d (by simp))]
theorem sm_back {n : Nat} (h : sm n ≤ 1000) : (sm n).toNat = n := by
  unfold sm at h ⊢
  split at h
  · rename_i hh; rw [if_pos hh]; simp
  · omega
theorem step_back (y x : In) (hx : Pos x) (M M1 : List UInt8) (y1 : In) (c : UInt8) (h : stepT (y, M, 0) c = (y1, M1, 0)) (hg : getF y1 c = getF x c) : M = partB x c ++ M1 := by
  obtain ⟨hk, ho, ha, hb, hc, hkk⟩ := hx
  unfold stepT at h
  unfold getF at hg
  unfold partB
  have key : ∀ n : Nat, ∀ f : Int, f ≤ 1000 → sm n = f → rU M 0 = (n, M1, 0) → M = uintB f.toNat ++ M1 := by
    intro n f hf hn hr
    have := (rU_back hr).2
    rw [← hn, sm_back (by omega)]
    exact this
  by_cases h1 : c = 111
  · simp only [if_pos h1] at h hg ⊢
    injection h with e1 e2
    rw [← e1] at hg
    exact key (rU M 0).1 x.op ho.2 hg (Prod.ext rfl e2)
  · simp only [if_neg h1] at h hg ⊢
    by_cases h2 : c = 107 ∨ c = 108
    · simp only [if_pos h2] at h hg ⊢
      injection h with e1 e2
      rw [← e1] at hg
      rw [← show (rI M 0).1 = x.k from hg]
      exact rI_back (Prod.ext rfl e2)
    · simp only [if_neg h2] at h hg ⊢
      by_cases h3 : c = 97
      · simp only [if_pos h3] at h hg ⊢
        injection h with e1 e2
        rw [← e1] at hg
        exact key (rU M 0).1 x.a ha.2 hg (Prod.ext rfl e2)
      · simp only [if_neg h3] at h hg ⊢
        by_cases h4 : c = 98
        · simp only [if_pos h4] at h hg ⊢
          injection h with e1 e2
          rw [← e1] at hg
          exact key (rU M 0).1 x.b hb.2 hg (Prod.ext rfl e2)
        · simp only [if_neg h4] at h hg ⊢
          injection h with e1 e2
          rw [← e1] at hg
          exact key (rU M 0).1 x.c hc.2 hg (Prod.ext rfl e2)
theorem fold_back (x : In) (hx : Pos x) (M' : List UInt8) : ∀ (P : List UInt8) (y : In) (M : List UInt8), P.Pairwise (fun c d => cls c ≠ cls d) → foldT (y, M, 0) P = (x, M', 0) → M = partsB x P ++ M' := by
  intro P
  induction P with
  | nil =>
    intro y M _ h
    exact congrArg (fun t : In × List UInt8 × Int => t.2.1) h
  | cons c P ih =>
    intro y M hp h
    rw [List.pairwise_cons] at hp
    have h' : foldT (stepT (y, M, 0) c) P = (x, M', 0) := h
    rcases hs : stepT (y, M, 0) c with ⟨y1, M1, g1⟩
    rw [hs] at h'
    by_cases hg : g1 = 0
    · subst hg
      have e1 := ih y1 M1 hp.2 h'
      have e2 : getF y1 c = getF x c := by
        have := fold_get c P (y1, M1, 0) hp.1
        rw [h'] at this
        exact this.symm
      have e3 := step_back y x hx M M1 y1 c hs e2
      rw [e3, e1]
      unfold partsB
      rw [List.flatMap_cons, List.append_assoc]
    · have := fold_err P (y1, M1, g1) hg
      rw [h'] at this
      exact absurd this.symm hg
theorem lets_pair (n : Int) : ((lets n).getD ⟨#[]⟩).data.toList.Pairwise (fun c d => cls c ≠ cls d) := by
  unfold lets
  (repeat' split) <;> decide
theorem lets_le {n : Int} (h : (lets n).isSome = true) : 1 ≤ n ∧ n ≤ 13 := by
  unfold lets at h
  (repeat' split at h) <;> first | omega | simp at h
theorem fold_kind (P : List UInt8) : ∀ t : In × List UInt8 × Int, (foldT t P).1.kind = t.1.kind := by
  induction P with
  | nil => intro t; rfl
  | cons c P ih =>
    intro t
    show (foldT (stepT t c) P).1.kind = _
    rw [ih]
    unfold stepT
    (repeat' split) <;> rfl
theorem fold_k (P : List UInt8) : ∀ t : In × List UInt8 × Int, r64 t.1.k → r64 (foldT t P).1.k := by
  induction P with
  | nil => intro t h; exact h
  | cons c P ih =>
    intro t h
    apply ih
    unfold stepT
    (repeat' split) <;> first | exact h | exact rI_in _ _
theorem takeX_k (L : List UInt8) : r64 (takeX L).1.k := by
  unfold takeX
  split
  · unfold r64 In0; simp
  · split
    · unfold r64 In0; simp
    · apply fold_k; unfold r64; simp
theorem takeX_back (M : List UInt8) (x : In) (M' : List UInt8) (fr : Int) (cells long : Int) (h : takeX M = (x, 0, M', fr)) (ho : oneC x cells long = 0) : M = insB x ++ M' := by
  have hr : r64 x.k := by have := takeX_k M; rw [h] at this; exact this
  have hp := pos_of_one x cells long ho hr
  unfold takeX at h
  rcases hu : rU M 0 with ⟨n, M1, f1⟩
  rw [hu] at h
  simp only at h
  by_cases hf : f1 = 0
  · subst hf
    rw [if_neg (by simp)] at h
    by_cases hs : (lets (sm n)).isSome = false
    · rw [if_pos hs] at h
      injection h with _ h
      injection h with h _
      simp at h
    · rw [if_neg hs] at h
      have hs' : (lets (sm n)).isSome = true := by rw [Bool.not_eq_false] at hs; exact hs
      have hle := lets_le hs'
      have hkn := sm_back (n := n) (by omega)
      obtain ⟨st, hst⟩ : ∃ st, foldT (⟨sm n, 0, 0, 0, 0, 0⟩, M1, 0) ((lets (sm n)).getD ⟨#[]⟩).data.toList = st := ⟨_, rfl⟩
      rw [hst] at h
      injection h with e1 h
      injection h with e2 h
      injection h with e3 e4
      have hst2 : st = (x, M', 0) := Prod.ext e1 (Prod.ext e3 e2)
      rw [hst2] at hst
      have hkd : x.kind = sm n := by
        have := fold_kind ((lets (sm n)).getD ⟨#[]⟩).data.toList (⟨sm n, 0, 0, 0, 0, 0⟩, M1, 0)
        rw [hst] at this
        exact this
      have hb := fold_back x hp M' _ _ _ (lets_pair (sm n)) hst
      have hu2 := (rU_back hu).2
      unfold insB
      rw [hkd, hkn, List.append_assoc, ← hb]
      exact hu2
  · rw [if_pos hf] at h
    injection h with _ h
    injection h with h _
    exact absurd h hf
theorem decN_back : ∀ (n : Nat) (R : List UInt8) (l : List In) (R' : List UInt8), decN n R = .ok l R' → l.length = n ∧ (∀ x ∈ l, r64 x.k) ∧ ∀ cells long, (∀ x ∈ l, oneC x cells long = 0) → R = rowB l ++ R'
  | 0, R, l, R', h => by
    injection h with h1 h2
    subst h1 h2
    exact ⟨rfl, fun x hx => absurd hx (by simp), fun _ _ _ => rfl⟩
  | n + 1, R, l, R', h => by
    unfold decN at h
    by_cases h0 : (takeX R).2.1 = 0
    · rw [if_pos h0] at h
      rcases hd : decN n (takeX R).2.2.1 with ⟨l1, R1⟩ | e
      · rw [hd] at h
        injection h with h1 h2
        subst h1 h2
        obtain ⟨i1, i2, i3⟩ := decN_back n _ l1 R1 hd
        refine ⟨by simp [i1], ?_, ?_⟩
        · intro x hx
          rcases List.mem_append.1 hx with hx | hx
          · rw [List.mem_singleton.1 hx]; exact takeX_k R
          · exact i2 x hx
        · intro cells long ho
          have e1 := i3 cells long (fun x hx => ho x (by simp [hx]))
          have e2 := takeX_back R (takeX R).1 (takeX R).2.2.1 (takeX R).2.2.2 cells long (Prod.ext rfl (Prod.ext h0 rfl)) (ho _ (by simp))
          rw [e1] at e2
          conv => lhs; rw [e2]
          unfold rowB
          rw [List.flatMap_append, List.append_assoc]
          simp
      · rw [hd] at h; cases h
    · rw [if_neg h0] at h; cases h
theorem decN_err : ∀ (n : Nat) (R : List UInt8), decN n R ≠ .err 0
  | 0, R, h => by cases h
  | n + 1, R, h => by
    unfold decN at h
    by_cases h0 : (takeX R).2.1 = 0
    · rw [if_pos h0] at h
      rcases hd : decN n (takeX R).2.2.1 with ⟨l1, R1⟩ | e
      · rw [hd] at h; cases h
      · rw [hd] at h
        injection h with h
        subst h
        exact decN_err n _ hd
    · rw [if_neg h0] at h
      injection h with h
      exact h0 h
theorem decode_back (L : List UInt8) (cells : Int) (l : List In) (h : decodeR L cells = (l, 0)) : (checkL l cells).2 = 0 ∧ (∀ x ∈ l, r64 x.k) ∧ encB l = L := by
  unfold decodeR at h
  rcases hk : tkC 1 L with ⟨n, R⟩ | k
  · rw [hk] at h
    simp only at h
    rcases hd : decN n R with ⟨l1, R1⟩ | e
    · rw [hd] at h
      simp only at h
      by_cases hR : 0 < R1.length
      · rw [if_pos hR] at h; injection h with _ h; simp at h
      · rw [if_neg hR] at h
        by_cases hc : (checkL l1 cells).2 = 0
        · rw [if_pos hc] at h
          injection h with h _
          subst h
          obtain ⟨i1, i2, i3⟩ := decN_back n R l1 R1 hd
          refine ⟨hc, i2, ?_⟩
          have e1 := i3 cells (l1.length : Int) (checkL_ok l1 cells hc).2.2
          have e0 : R1 = [] := List.eq_nil_of_length_eq_zero (by omega)
          rw [e0, List.append_nil] at e1
          unfold encB
          rw [← e1, i1]
          unfold tkC at hk
          rcases ht : tk 0 0 L with ⟨n', R'⟩ | k'
          · rw [ht] at hk
            simp only at hk
            split at hk
            · cases hk
            · injection hk with a1 a2
              subst a1 a2
              exact (tk_back L n' R' ht).2.symm
          · rw [ht] at hk; cases hk
        · rw [if_neg hc] at h; injection h with _ h; exact absurd h hc
    · rw [hd] at h
      simp only at h
      injection h with _ h
      exfalso
      subst h
      exact decN_err n R hd
  · rw [hk] at h
    injection h with _ h
    exact absurd h (tkC_err hk)
end Go.Proofs.Ythcidcfaodjbjaa
