/- Lines that say nothing ahead of a listing, plain. -/
import Derived.Test.YthcidcfaodjbjacDoorParP
namespace Go.Proofs.YthcidcfaodjbjacDoor
open Go.RowKit
set_option linter.unusedVariables false

/-- all lines' numbers moved -/
def shF (d : Int) (frm : List (Int × List UInt8)) : List (Int × List UInt8) := frm.map fun o => (o.1 + d, o.2)
def shS (d : Int) (s : Rs) : Rs := ⟨s.code, shF d s.frm, s.tab⟩
theorem labelL_shift (d : Int) (s : Rs) (p : List UInt8) : labelL (shS d s) p = match labelL s p with
    | .err e => .err e
    | .ok s' => .ok (shS d s') := by
  unfold labelL
  cases labB p with
  | false => rfl
  | true =>
    show (match findT s.tab p with | some _ => _ | none => _) = _
    simp only [if_true]
    cases findT s.tab p <;> rfl
theorem lineL_shift (d : Int) (s : Rs) (n : Int) (ps : List (List UInt8)) : lineL (shS d s) (n + d) ps = match lineL s n ps with
    | .err e => .err e
    | .ok s' => .ok (shS d s') := by
  cases ps with
  | nil => rfl
  | cons p r =>
    unfold lineL
    dsimp only
    by_cases h : p.getLast? = some 58 ∧ r = []
    · rw [if_pos h, if_pos h]; exact labelL_shift d s _
    · rw [if_neg h, if_neg h]
      cases insL p r with
      | none => rfl
      | some y => simp [shS, shF]
theorem linesR_shift (d : Int) : ∀ (L : List (List UInt8)) (s : Rs) (n : Int), linesR (shS d s) (n + d) L = match linesR s n L with
    | .err m e => .err (m + d) e
    | .ok s' => .ok (shS d s')
  | [], s, n => rfl
  | l :: L, s, n => by
    unfold linesR
    rw [lineL_shift]
    cases lineL s n (fieldsL (saidL l)) with
    | err e => rfl
    | ok s' =>
      show linesR (shS d s') (n + d + 1) L = _
      rw [show n + d + 1 = (n + 1) + d by omega]
      exact linesR_shift d L s' (n + 1)
theorem aimL_shift (d : Int) (T : List (List UInt8 × Int)) : ∀ (l : List In) (os : List (Int × List UInt8)), aimL T l (shF d os) = match aimL T l os with
    | .inl n => .inl (n + d)
    | .inr l' => .inr l'
  | [], os => by cases os <;> rfl
  | x :: l, [] => rfl
  | x :: l, o :: os => by
    have ih := aimL_shift d T l os
    show aimL T (x :: l) ((o.1 + d, o.2) :: shF d os) = _
    unfold aimL
    by_cases h : o.2 = []
    · rw [if_pos h, if_pos h, ih]
      cases aimL T l os <;> rfl
    · rw [if_neg h, if_neg h]
      cases findT T o.2 with
      | none => rfl
      | some p =>
        show (match aimL T l (shF d os) with | .inl n => _ | .inr l' => _) = _
        rw [ih]
        cases aimL T l os <;> rfl
/-- each line's number is at least 1 -/
def Pos (frm : List (Int × List UInt8)) : Prop := ∀ o ∈ frm, 1 ≤ o.1
theorem lineL_pos {s s' : Rs} {n : Int} {ps : List (List UInt8)} (h : lineL s n ps = .ok s') (hp : Pos s.frm) (hn : 1 ≤ n) (hl : s.code.length = s.frm.length) : Pos s'.frm ∧ s'.code.length = s'.frm.length := by
  cases ps with
  | nil => cases h; exact ⟨hp, hl⟩
  | cons p r =>
    unfold lineL at h
    dsimp only at h
    by_cases hc : p.getLast? = some 58 ∧ r = []
    · rw [if_pos hc] at h
      unfold labelL at h
      split at h
      · split at h
        · cases h
        · cases h; exact ⟨hp, hl⟩
      · cases h
    · rw [if_neg hc] at h
      cases hi : insL p r with
      | none => rw [hi] at h; cases h
      | some y =>
        rw [hi] at h
        cases h
        refine ⟨fun o ho => ?_, by simp [hl]⟩
        rcases List.mem_append.1 ho with h | h
        · exact hp o h
        · rw [List.mem_singleton.1 h]; exact hn
theorem linesR_pos : ∀ (L : List (List UInt8)) {s s' : Rs} {n : Int}, linesR s n L = .ok s' → Pos s.frm → 1 ≤ n → s.code.length = s.frm.length → Pos s'.frm ∧ s'.code.length = s'.frm.length
  | [], s, s', n, h, hp, hn, hl => by cases h; exact ⟨hp, hl⟩
  | l :: L, s, s', n, h, hp, hn, hl => by
    unfold linesR at h
    cases hi : lineL s n (fieldsL (saidL l)) with
    | err e => rw [hi] at h; cases h
    | ok s2 =>
      rw [hi] at h
      obtain ⟨a, b⟩ := lineL_pos hi hp hn hl
      exact linesR_pos L h a (by omega) b
theorem linesR_err : ∀ (L : List (List UInt8)) {s : Rs} {n m e : Int}, linesR s n L = .err m e → 1 ≤ n → 1 ≤ m
  | [], s, n, m, e, h, hn => by cases h
  | l :: L, s, n, m, e, h, hn => by
    unfold linesR at h
    cases hi : lineL s n (fieldsL (saidL l)) with
    | err e2 => rw [hi] at h; cases h; exact hn
    | ok s2 => rw [hi] at h; exact linesR_err L h (by omega)
theorem aimL_pos (T : List (List UInt8 × Int)) : ∀ (l : List In) (os : List (Int × List UInt8)) (n : Int), aimL T l os = .inl n → Pos os → 1 ≤ n
  | [], os, n, h, hp => by cases os <;> cases h
  | x :: l, [], n, h, hp => by cases h
  | x :: l, o :: os, n, h, hp => by
    have ih := fun m hm => aimL_pos T l os m hm (fun q hq => hp q (List.mem_cons_of_mem _ hq))
    unfold aimL at h
    by_cases hc : o.2 = []
    · rw [if_pos hc] at h
      cases hi : aimL T l os with
      | inl m => rw [hi] at h; cases h; exact ih _ hi
      | inr l' => rw [hi] at h; cases h
    · rw [if_neg hc] at h
      cases hf : findT T o.2 with
      | none => rw [hf] at h; cases h; exact hp o (List.mem_cons_self ..)
      | some p =>
        rw [hf] at h
        cases hi : aimL T l os with
        | inl m => rw [hi] at h; cases h; exact ih _ hi
        | inr l' => rw [hi] at h; cases h
theorem lineAt_shift (d : Int) (frm : List (Int × List UInt8)) (i : Nat) (hi : i < frm.length) : lineAt (shF d frm) (i : Int) = lineAt frm (i : Int) + d := by
  unfold lineAt shF
  simp [List.getD, hi]
theorem lineAt_pos (frm : List (Int × List UInt8)) (i : Nat) (hi : i < frm.length) (hp : Pos frm) : 1 ≤ lineAt frm (i : Int) := by
  unfold lineAt
  have : frm.getD (i : Int).toNat (0, []) = frm[i] := by simp [List.getD, hi]
  rw [this]
  exact hp _ (List.getElem_mem _)
/-- an answer whose line is moved -/
def movA (d : Int) (r : List In × Int × Int) : List In × Int × Int := (r.1, if 0 < r.2.1 then r.2.1 + d else r.2.1, r.2.2)
theorem after_shift (d cells : Int) (L : List (List UInt8)) : afterLines cells (linesR ⟨[], [], []⟩ (1 + d) L) = movA d (afterLines cells (linesR ⟨[], [], []⟩ 1 L)) := by
  have hs := linesR_shift d L ⟨[], [], []⟩ 1
  have h0 : shS d ⟨[], [], []⟩ = ⟨[], [], []⟩ := rfl
  rw [h0] at hs
  rw [hs]
  cases hr : linesR ⟨[], [], []⟩ 1 L with
  | err m e =>
    have := linesR_err L hr (by omega)
    show (([] : List In), m + d, e) = movA d ([], m, e)
    unfold movA
    dsimp only
    rw [if_pos (by omega)]
  | ok s =>
    obtain ⟨hp, hl⟩ := linesR_pos L hr (fun o ho => by cases ho) (by omega) rfl
    show afterAim (shF d s.frm) cells (aimL s.tab s.code (shF d s.frm)) = movA d (afterAim s.frm cells (aimL s.tab s.code s.frm))
    rw [aimL_shift]
    cases ha : aimL s.tab s.code s.frm with
    | inl m =>
      have := aimL_pos _ _ _ _ ha hp
      show (([] : List In), m + d, (91 : Int)) = movA d ([], m, 91)
      unfold movA
      dsimp only
      rw [if_pos (by omega)]
    | inr l =>
      have hlen := aimL_len _ _ _ _ ha
      show afterAim (shF d s.frm) cells (.inr l) = movA d (afterAim s.frm cells (.inr l))
      unfold afterAim
      by_cases c0 : (checkL l cells).2 = 0
      · dsimp only
        rw [if_pos c0, if_pos c0]; rfl
      · dsimp only
        rw [if_neg c0, if_neg c0]
        by_cases c8 : (checkL l cells).2 = 80
        · rw [if_pos c8, if_pos c8]; rfl
        · rw [if_neg c8, if_neg c8]
          obtain ⟨i, hi, hil⟩ := checkL_at l cells c0 c8
          have hif : i < s.frm.length := by omega
          rw [hi, lineAt_shift d _ i hif]
          have := lineAt_pos s.frm i hif hp
          unfold movA
          dsimp only
          rw [if_pos (by omega)]
/-- a line that says nothing -/
def cmt : List UInt8 := [32, 32, 35, 32, 106, 117, 109, 112, 32, 120]
def cmts : Nat → List UInt8
  | 0 => []
  | k + 1 => cmts k ++ (cmt ++ [10])
theorem cmts_left : ∀ k, cmts (k + 1) = cmt ++ 10 :: cmts k
  | 0 => rfl
  | k + 1 => by
    show cmts (k + 1) ++ (cmt ++ [10]) = cmt ++ 10 :: (cmts k ++ (cmt ++ [10]))
    rw [cmts_left k]
    simp
theorem cmts_len : ∀ k, (cmts k).length = 11 * k
  | 0 => rfl
  | k + 1 => by
    show (cmts k ++ (cmt ++ [10])).length = _
    rw [List.length_append, cmts_len k]
    simp [cmt]
    omega
theorem linesR_cmts : ∀ (k : Nat) (s : Rs) (n : Int) (r : List UInt8), linesR s n (linesL (cmts k ++ r)) = linesR s (n + k) (linesL r)
  | 0, s, n, r => by simp [cmts]
  | k + 1, s, n, r => by
    rw [cmts_left, List.append_assoc, List.cons_append, linesL_at cmt _ (by decide)]
    show (match lineL s n (fieldsL (saidL cmt)) with | .err e => Pr.err n e | .ok s' => linesR s' (n + 1) _) = _
    have hb : fieldsL (saidL cmt) = [] := by decide
    rw [hb]
    show linesR s (n + 1) (linesL (cmts k ++ r)) = _
    rw [linesR_cmts k s (n + 1) r]
    congr 1
    push_cast
    omega
theorem parse_cmts (k : Nat) (s : List UInt8) (cells : Int) (h : (cmts k).length + s.length ≤ 8192) : parseA (cmts k ++ s) cells = movA k (parseA s cells) := by
  unfold parseA
  rw [if_neg (by simp; omega), if_neg (by omega), linesR_cmts]
  exact after_shift k cells _
/-- no line's number is above H -/
def Hi (H : Int) (frm : List (Int × List UInt8)) : Prop := ∀ o ∈ frm, o.1 ≤ H
theorem lineL_hi {H : Int} {s s' : Rs} {n : Int} {ps : List (List UInt8)} (h : lineL s n ps = .ok s') (hp : Hi H s.frm) (hn : n ≤ H) : Hi H s'.frm := by
  cases ps with
  | nil => cases h; exact hp
  | cons p r =>
    unfold lineL at h
    dsimp only at h
    by_cases hc : p.getLast? = some 58 ∧ r = []
    · rw [if_pos hc] at h
      unfold labelL at h
      split at h
      · split at h
        · cases h
        · cases h; exact hp
      · cases h
    · rw [if_neg hc] at h
      cases hi : insL p r with
      | none => rw [hi] at h; cases h
      | some y =>
        rw [hi] at h
        cases h
        intro o ho
        rcases List.mem_append.1 ho with h | h
        · exact hp o h
        · rw [List.mem_singleton.1 h]; exact hn
theorem linesR_hi {H : Int} : ∀ (L : List (List UInt8)) {s s' : Rs} {n : Int}, linesR s n L = .ok s' → Hi H s.frm → n + L.length ≤ H + 1 → Hi H s'.frm
  | [], s, s', n, h, hp, hn => by cases h; exact hp
  | l :: L, s, s', n, h, hp, hn => by
    unfold linesR at h
    simp at hn
    cases hi : lineL s n (fieldsL (saidL l)) with
    | err e => rw [hi] at h; cases h
    | ok s2 =>
      rw [hi] at h
      exact linesR_hi L h (lineL_hi hi hp (by omega)) (by omega)
theorem linesR_ehi {H : Int} : ∀ (L : List (List UInt8)) {s : Rs} {n m e : Int}, linesR s n L = .err m e → n + L.length ≤ H + 1 → m ≤ H
  | [], s, n, m, e, h, hn => by cases h
  | l :: L, s, n, m, e, h, hn => by
    unfold linesR at h
    simp at hn
    cases hi : lineL s n (fieldsL (saidL l)) with
    | err e2 => rw [hi] at h; cases h; omega
    | ok s2 => rw [hi] at h; exact linesR_ehi L h (by omega)
theorem aimL_hi {H : Int} (T : List (List UInt8 × Int)) : ∀ (l : List In) (os : List (Int × List UInt8)) (n : Int), aimL T l os = .inl n → Hi H os → n ≤ H
  | [], os, n, h, hp => by cases os <;> cases h
  | x :: l, [], n, h, hp => by cases h
  | x :: l, o :: os, n, h, hp => by
    have ih := fun m hm => aimL_hi T l os m hm (fun q hq => hp q (List.mem_cons_of_mem _ hq))
    unfold aimL at h
    by_cases hc : o.2 = []
    · rw [if_pos hc] at h
      cases hi : aimL T l os with
      | inl m => rw [hi] at h; cases h; exact ih _ hi
      | inr l' => rw [hi] at h; cases h
    · rw [if_neg hc] at h
      cases hf : findT T o.2 with
      | none => rw [hf] at h; cases h; exact hp o (List.mem_cons_self ..)
      | some p =>
        rw [hf] at h
        cases hi : aimL T l os with
        | inl m => rw [hi] at h; cases h; exact ih _ hi
        | inr l' => rw [hi] at h; cases h
theorem parse_hi (s : List UInt8) (cells : Int) : (parseA s cells).2.1 ≤ 8193 := by
  unfold parseA
  by_cases h8 : 8192 < s.length
  · rw [if_pos h8]; decide
  rw [if_neg h8]
  have hl := (linesL_len s).1
  cases hr : linesR ⟨[], [], []⟩ 1 (linesL s) with
  | err m e =>
    show m ≤ 8193
    exact linesR_ehi _ hr (by omega)
  | ok st =>
    obtain ⟨_, hlen⟩ := linesR_pos _ hr (fun o ho => by cases ho) (by omega) rfl
    have hh : Hi 8193 st.frm := linesR_hi _ hr (fun o ho => by cases ho) (by omega)
    show (afterAim st.frm cells (aimL st.tab st.code st.frm)).2.1 ≤ 8193
    cases ha : aimL st.tab st.code st.frm with
    | inl m => exact aimL_hi _ _ _ _ ha hh
    | inr l =>
      have hll := aimL_len _ _ _ _ ha
      unfold afterAim
      dsimp only
      by_cases c0 : (checkL l cells).2 = 0
      · rw [if_pos c0]; show (0 : Int) ≤ 8193; decide
      rw [if_neg c0]
      by_cases c8 : (checkL l cells).2 = 80
      · rw [if_pos c8]; show (0 : Int) ≤ 8193; decide
      rw [if_neg c8]
      obtain ⟨i, hi, hil⟩ := checkL_at l cells c0 c8
      show lineAt st.frm (checkL l cells).1 ≤ 8193
      rw [hi]
      have hif : i < st.frm.length := by omega
      unfold lineAt
      have : st.frm.getD (i : Int).toNat (0, []) = st.frm[i] := by simp [List.getD, hif]
      rw [this]
      exact hh _ (List.getElem_mem _)
end Go.Proofs.YthcidcfaodjbjacDoor
