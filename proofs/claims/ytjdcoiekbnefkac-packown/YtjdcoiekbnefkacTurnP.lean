/- Plain mathematics of seals: a seal is opened to its body; with one byte turned it isn't opened. -/
import Derived.Test.YtjdcoiekbnefkacOpen
namespace Go.Proofs.Ytjdcoiekbnefkac
open Go.RowKit
set_option linter.unusedVariables false

theorem lowN_cons (c : UInt8) (L : List UInt8) : lowN (c :: L) = c.toNat + 256 * lowN L := by
  unfold lowN
  rw [List.reverse_cons, foldl_snoc]
  rw [Nat.mul_comm, Nat.add_comm]
theorem lowN_lowB : ∀ (k n : Nat), n < 256 ^ k → lowN (lowB n k) = n
  | 0, n, h => by rw [Nat.pow_zero] at h; show lowN [] = n; rw [lowN_nil]; omega
  | k + 1, n, h => by
    rw [lowB_succ, lowN_cons, lowN_lowB k (n / 256) (by rw [Nat.pow_succ] at h; omega)]
    have : (UInt8.ofNat (n % 256)).toNat = n % 256 := by simp [UInt8.toNat_ofNat']
    rw [this]; omega
theorem lowN_inj : ∀ (A B : List UInt8), A.length = B.length → lowN A = lowN B → A = B
  | [], [], _, _ => rfl
  | [], _ :: _, h, _ => by simp at h
  | _ :: _, [], h, _ => by simp at h
  | a :: A, b :: B, h, e => by
    rw [lowN_cons, lowN_cons] at e
    have h1 := a.toNat_lt
    have h2 := b.toNat_lt
    have e1 : a.toNat = b.toNat := by omega
    have e2 : lowN A = lowN B := by omega
    rw [UInt8.toNat_inj.1 e1, lowN_inj A B (by simpa using h) e2]

def Inv64 : Nat := 14886173955864302971
theorem inv_ok : P64 * Inv64 % M64 = 1 := by unfold P64 Inv64 M64; rfl
theorem times_inj (x y : Nat) (hx : x < M64) (hy : y < M64) (h : x * P64 % M64 = y * P64 % M64) : x = y := by
  have key : ∀ z, z < M64 → (z * P64 % M64) * Inv64 % M64 = z := by
    intro z hz
    rw [Nat.mul_mod, Nat.mod_mod, ← Nat.mul_mod, Nat.mul_assoc, Nat.mul_mod, inv_ok, Nat.mul_one, Nat.mod_mod, Nat.mod_eq_of_lt hz]
  rw [← key x hx, ← key y hy, h]
theorem xor_lt (h : Nat) (c : UInt8) (hh : h < M64) : h ^^^ c.toNat < M64 := by
  have hc := c.toNat_lt
  rw [M64_eq] at hh ⊢
  exact Nat.xor_lt_two_pow (n := 64) hh (by omega)
theorem xor_cancel (a b c : Nat) (h : a ^^^ c = b ^^^ c) : a = b := by
  have := congrArg (fun z => z ^^^ c) h
  simp only [Nat.xor_assoc, Nat.xor_self, Nat.xor_zero] at this
  exact this
theorem step_left (h h' : Nat) (c : UInt8) (hh : h < M64) (hh' : h' < M64) (e : sumStep h c = sumStep h' c) : h = h' := by
  unfold sumStep at e
  exact xor_cancel _ _ _ (times_inj _ _ (xor_lt h c hh) (xor_lt h' c hh') e)
theorem step_right (h : Nat) (c c' : UInt8) (hh : h < M64) (e : sumStep h c = sumStep h c') : c = c' := by
  unfold sumStep at e
  have := times_inj _ _ (xor_lt h c hh) (xor_lt h c' hh) e
  rw [Nat.xor_comm h, Nat.xor_comm h] at this
  exact UInt8.toNat_inj.1 (xor_cancel _ _ _ this)
theorem fold_inj (L : List UInt8) : ∀ h h', h < M64 → h' < M64 → L.foldl sumStep h = L.foldl sumStep h' → h = h' := by
  induction L with
  | nil => intro h h' _ _ e; rw [List.foldl_nil, List.foldl_nil] at e; exact e
  | cons c L ih =>
    intro h h' hh hh' e
    rw [List.foldl_cons, List.foldl_cons] at e
    exact step_left h h' c hh hh' (ih _ _ (sumStep_lt _ _) (sumStep_lt _ _) e)
/-- one byte turned turns the sum -/
theorem sum_set (L : List UInt8) (k : Nat) (c : UInt8) (hk : k < L.length) (hc : c ≠ L[k]) : sumB (L.set k c) ≠ sumB L := by
  intro e
  have e1 : L = L.take k ++ L[k] :: L.drop (k + 1) := by simp
  have e2 : L.set k c = L.take k ++ c :: L.drop (k + 1) := by rw [List.set_eq_take_append_cons_drop, if_pos hk]
  unfold sumB at e
  rw [e2] at e
  conv at e => rhs; rw [e1]
  rw [List.foldl_append, List.foldl_append, List.foldl_cons, List.foldl_cons] at e
  have h0 := fold_lt (L.take k) F64 F64_lt
  exact hc (step_right _ _ _ h0 (fold_inj _ _ _ (sumStep_lt _ _) (sumStep_lt _ _) e))

theorem seal_len (L : List UInt8) : (sealB L).length = 16 + L.length := by simp [sealB, lowB_len, outr]; omega
theorem seal_parts (L : List UInt8) : (sealB L).take 4 = outr ∧ ((sealB L).drop 4).take 4 = lowB L.length 4 ∧ ((sealB L).drop 8).take 8 = lowB (sumB L) 8 ∧ (sealB L).drop 16 = L := by
  have e : sealB L = outr ++ (lowB L.length 4 ++ (lowB (sumB L) 8 ++ L)) := by simp [sealB]
  have l1 : outr.length = 4 := rfl
  have l2 := lowB_len 4 L.length
  have l3 := lowB_len 8 (sumB L)
  rw [e]
  refine ⟨?_, ?_, ?_, ?_⟩
  · exact List.take_left' l1
  · rw [List.drop_left' l1]; exact List.take_left' l2
  · rw [← List.append_assoc outr, List.drop_left' (by rw [List.length_append]; omega)]; exact List.take_left' l3
  · rw [← List.append_assoc outr, ← List.append_assoc (outr ++ lowB L.length 4)]; exact List.drop_left' (by rw [List.length_append, List.length_append]; omega)

theorem open_seal (L : List UInt8) (hL : L.length ≤ 1048576) : openE (sealB L) = 0 ∧ openB (sealB L) = L := by
  obtain ⟨p1, p2, p3, p4⟩ := seal_parts L
  have hl := seal_len L
  have hs := sumB_lt L
  have e0 : openE (sealB L) = 0 := by
    unfold openE
    rw [if_neg (by omega), if_neg, if_neg]
    · rw [p3, p4, lowN_lowB 8 (sumB L) (by rw [M64_eq] at hs; omega)]; exact fun h => h rfl
    · rw [p1, p2, lowN_lowB 4 L.length (by omega)]
      rintro (h | h | h)
      · exact h rfl
      · omega
      · omega
  refine ⟨e0, ?_⟩
  unfold openB
  rw [if_pos e0, p4]

theorem take_set_low (A : List UInt8) (k : Nat) (c : UInt8) (n : Nat) (h : n ≤ k) : (A.set k c).take n = A.take n := by rw [List.take_set, List.set_eq_of_length_le (by simp; omega)]
theorem drop_take_set (A : List UInt8) (k : Nat) (c : UInt8) (o n : Nat) (h : k < o ∨ o + n ≤ k) : ((A.set k c).drop o).take n = (A.drop o).take n := by
  rcases h with h | h
  · rw [List.drop_set_of_lt h]
  · rw [List.drop_set, if_neg (by omega), List.take_set, List.set_eq_of_length_le (by simp; omega)]
theorem set_ne (A : List UInt8) (k : Nat) (c : UInt8) (hk : k < A.length) (hc : c ≠ A[k]) : A.set k c ≠ A := by
  intro e
  have : (A.set k c)[k]'(by simpa using hk) = A[k] := by simp [e]
  rw [List.getElem_set_self] at this
  exact hc this

/-- a seal of which one byte is turned is not opened -/
theorem open_turned (L : List UInt8) (hL : L.length ≤ 1048576) (k : Nat) (c : UInt8) (hk : k < (sealB L).length) (hc : c ≠ (sealB L)[k]) : openE ((sealB L).set k c) ≠ 0 := by
  intro e
  obtain ⟨p1, p2, p3, p4⟩ := seal_parts L
  have hl := seal_len L
  have hs := sumB_lt L
  rw [M64_eq] at hs
  have hl' : ((sealB L).set k c).length = 16 + L.length := by rw [List.length_set]; exact hl
  unfold openE at e
  rw [if_neg (by omega)] at e
  by_cases h1 : ((sealB L).set k c).take 4 ≠ outr ∨ lowN ((((sealB L).set k c).drop 4).take 4) ≠ ((sealB L).set k c).length - 16 ∨ 1048576 < ((sealB L).set k c).length - 16
  · rw [if_pos h1] at e; omega
  · rw [if_neg h1] at e
    by_cases h2 : lowN ((((sealB L).set k c).drop 8).take 8) ≠ sumB (((sealB L).set k c).drop 16)
    · rw [if_pos h2] at e; omega
    · have h2' : lowN ((((sealB L).set k c).drop 8).take 8) = sumB (((sealB L).set k c).drop 16) := Classical.byContradiction h2
      have a1 : ((sealB L).set k c).take 4 = outr := Classical.byContradiction fun h => h1 (Or.inl h)
      have a2 : lowN ((((sealB L).set k c).drop 4).take 4) = ((sealB L).set k c).length - 16 := Classical.byContradiction fun h => h1 (Or.inr (Or.inl h))
      have e2 : ((sealB L).set k c).length - 16 = L.length := by omega
      have key : ∀ T : List UInt8, T = (sealB L).set k c → T.take 4 = (sealB L).take 4 → (T.drop 4).take 4 = ((sealB L).drop 4).take 4 → (T.drop 8).take 8 = ((sealB L).drop 8).take 8 → T.drop 16 = (sealB L).drop 16 → False := by
        intro T hT t1 t2 t3 t4
        apply set_ne (sealB L) k c hk hc
        rw [← hT]
        have s16 : ∀ A : List UInt8, A = A.take 4 ++ ((A.drop 4).take 4 ++ ((A.drop 8).take 8 ++ A.drop 16)) := by
          intro A
          conv => lhs; rw [← List.take_append_drop 4 A, ← List.take_append_drop 4 (A.drop 4), ← List.take_append_drop 8 ((A.drop 4).drop 4), List.drop_drop, List.drop_drop]
        rw [s16 T, s16 (sealB L), t1, t2, t3, t4]
      rcases Nat.lt_or_ge k 4 with h | h
      · have b3 := drop_take_set (sealB L) k c 8 8 (Or.inl (by omega))
        have b2 := drop_take_set (sealB L) k c 4 4 (Or.inl (by omega))
        exact key _ rfl (by rw [a1, p1]) b2 b3 (List.drop_set_of_lt (by omega))
      · have b1 := take_set_low (sealB L) k c 4 (by omega)
        rcases Nat.lt_or_ge k 8 with h' | h'
        · have b3 := drop_take_set (sealB L) k c 8 8 (Or.inl (by omega))
          have b2 : (((sealB L).set k c).drop 4).take 4 = ((sealB L).drop 4).take 4 := by
            apply lowN_inj
            · simp
            · rw [a2, e2, p2, lowN_lowB 4 L.length (by omega)]
          exact key _ rfl b1 b2 b3 (List.drop_set_of_lt (by omega))
        · have b2 := drop_take_set (sealB L) k c 4 4 (Or.inr (by omega))
          rcases Nat.lt_or_ge k 16 with h'' | h''
          · have b4 : ((sealB L).set k c).drop 16 = (sealB L).drop 16 := List.drop_set_of_lt (by omega)
            have b3 : (((sealB L).set k c).drop 8).take 8 = ((sealB L).drop 8).take 8 := by
              apply lowN_inj
              · simp
              · rw [h2', b4, p3, p4, lowN_lowB 8 (sumB L) (by omega)]
            exact key _ rfl b1 b2 b3 b4
          · have b3 := drop_take_set (sealB L) k c 8 8 (Or.inr (by omega))
            have b4 : ((sealB L).set k c).drop 16 = L.set (k - 16) c := by rw [List.drop_set, if_neg (by omega), p4]
            rw [b3, b4, p3, lowN_lowB 8 (sumB L) (by omega)] at h2'
            have hcl : c ≠ L[k - 16]'(by omega) := by
              have : (sealB L)[k] = L[k - 16]'(by omega) := by
                have h9 : ((sealB L).drop 16)[k - 16]? = L[k - 16]? := by rw [p4]
                rw [List.getElem?_drop, show 16 + (k - 16) = k by omega, List.getElem?_eq_getElem hk, List.getElem?_eq_getElem (by omega)] at h9
                simpa using h9
              rw [← this]; exact hc
            exact sum_set L (k - 16) c (by omega) hcl h2'.symm
end Go.Proofs.Ytjdcoiekbnefkac
