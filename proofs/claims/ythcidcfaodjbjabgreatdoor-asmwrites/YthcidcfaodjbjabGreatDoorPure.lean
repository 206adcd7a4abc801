/- Plain mathematics of listings: lines, remarks, pieces. -/
import Derived.Lib.FieldsP
import Derived.Lib.SpaceUEq
import Derived.Lib.SplitLaws
import Derived.Lib.CutLaws
namespace Go.Proofs.YthcidcfaodjbjabGreatDoor
set_option linter.unusedVariables false

/-- a text's lines -/
def linesL : List UInt8 → List (List UInt8)
  | [] => [[]]
  | b :: r => if b = 10 then [] :: linesL r else match linesL r with
    | [] => [[b]]
    | l :: t => (b :: l) :: t
theorem linesL_none : ∀ l : List UInt8, l.count 10 = 0 → linesL l = [l]
  | [], _ => rfl
  | b :: r, h => by
    have hb : b ≠ 10 := by intro e; subst e; simp at h
    have hr : r.count 10 = 0 := by rw [List.count_cons_of_ne (by simpa using hb)] at h; exact h
    unfold linesL
    rw [if_neg hb, linesL_none r hr]
theorem linesL_at : ∀ (a r : List UInt8), a.count 10 = 0 → linesL (a ++ 10 :: r) = a :: linesL r
  | [], r, _ => by simp [linesL]
  | b :: a, r, h => by
    have hb : b ≠ 10 := by intro e; subst e; simp at h
    have hr : a.count 10 = 0 := by rw [List.count_cons_of_ne (by simpa using hb)] at h; exact h
    rw [List.cons_append, linesL, if_neg hb, linesL_at a r hr]
theorem index_at (c : UInt8) : ∀ (a r : List UInt8), a.count c = 0 → Lib.index (a ++ c :: r) [c] = a.length
  | [], r, _ => by simp [Lib.index]
  | b :: a, r, h => by
    have hb : b ≠ c := by intro e; subst e; simp at h
    have hr : a.count c = 0 := by rw [List.count_cons_of_ne (by simpa using hb)] at h; exact h
    rw [List.cons_append, Lib.index]
    have : ([c] : List UInt8).isPrefixOf (b :: (a ++ c :: r)) = false := by simp [List.isPrefixOf]; exact fun e => hb e.symm
    rw [this, index_at c a r hr]
    have h1 : ((a.length : Int) == -1) = false := by simp
    simp [h1]
theorem index_none (c : UInt8) : ∀ (l : List UInt8), l.count c = 0 → Lib.index l [c] = -1
  | [], _ => by simp [Lib.index]
  | b :: a, h => by
    have hb : b ≠ c := by intro e; subst e; simp at h
    have hr : a.count c = 0 := by rw [List.count_cons_of_ne (by simpa using hb)] at h; exact h
    rw [Lib.index]
    have : ([c] : List UInt8).isPrefixOf (b :: a) = false := by simp [List.isPrefixOf]; exact fun e => hb e.symm
    rw [this, index_none c a hr]
    simp
theorem first_at (c : UInt8) : ∀ (l : List UInt8), l.count c ≠ 0 → ∃ a r, l = a ++ c :: r ∧ a.count c = 0
  | [], h => by simp at h
  | b :: l, h => by
    by_cases hb : b = c
    · subst hb; exact ⟨[], l, rfl, rfl⟩
    · rw [List.count_cons_of_ne (by simpa using hb)] at h
      obtain ⟨a, r, e, h0⟩ := first_at c l h
      exact ⟨b :: a, r, by rw [e]; rfl, by rw [List.count_cons_of_ne (by simpa using hb)]; exact h0⟩
theorem splitK_lines : ∀ (k : Nat) (l : List UInt8), l.count 10 = k → Lib.splitK [10] 0 k l = linesL l
  | 0, l, h => by rw [linesL_none l h]; rfl
  | k + 1, l, h => by
    obtain ⟨a, r, rfl, h0⟩ := first_at 10 l (by omega)
    rw [Lib.splitK, index_at 10 a r h0, linesL_at a r h0]
    have h1 : ((a.length : Int) == -1) = false := by simp
    have hr : r.count 10 = k := by
      rw [List.count_append, h0, List.count_cons_self] at h; omega
    rw [h1]
    simp only [Bool.false_eq_true, if_false, Int.toNat_natCast, Nat.add_zero, List.take_left', List.length_cons, List.length_nil]
    rw [show List.drop (a.length + (0 + 1)) (a ++ 10 :: r) = r by
      rw [Nat.zero_add, ← List.drop_drop]; simp, splitK_lines k r hr]
theorem split_lines (s : ByteArray) : (Lib.splitB ⟨#[10]⟩ 0 (Lib.countB s ⟨#[10]⟩) s).map (·.data.toList) = linesL s.data.toList := by
  rw [Lib.splitB_data]
  refine splitK_lines _ _ ?_
  show _ = Lib.count s.data.toList [10]
  rw [Lib.count_one]

/-- a line ahead of its remark -/
def saidL : List UInt8 → List UInt8
  | [] => []
  | b :: r => if b = 35 then [] else b :: saidL r
theorem saidL_none : ∀ l : List UInt8, l.count 35 = 0 → saidL l = l
  | [], _ => rfl
  | b :: r, h => by
    have hb : b ≠ 35 := by intro e; subst e; simp at h
    have hr : r.count 35 = 0 := by rw [List.count_cons_of_ne (by simpa using hb)] at h; exact h
    rw [saidL, if_neg hb, saidL_none r hr]
theorem saidL_at : ∀ (a r : List UInt8), a.count 35 = 0 → saidL (a ++ 35 :: r) = a
  | [], r, _ => by simp [saidL]
  | b :: a, r, h => by
    have hb : b ≠ 35 := by intro e; subst e; simp at h
    have hr : a.count 35 = 0 := by rw [List.count_cons_of_ne (by simpa using hb)] at h; exact h
    rw [List.cons_append, saidL, if_neg hb, saidL_at a r hr]
theorem cut_said (l : List UInt8) : (Lib.cut l [35]).1 = saidL l := by
  unfold Lib.cut
  by_cases h : l.count 35 = 0
  · rw [index_none 35 l h, saidL_none l h]; simp
  · obtain ⟨a, r, rfl, h0⟩ := first_at 35 l h
    rw [index_at 35 a r h0, saidL_at a r h0]; simp

/-- a blank -/
def sepB (b : UInt8) : Bool := b == 32 || b == 9 || b == 13
def sepR (n : Nat) : Bool := n == 32 || n == 9 || n == 13
theorem sepR_byte (b : UInt8) : sepR b.toNat = sepB b := by
  have h : ∀ c : UInt8, c.toNat < 256 → (b.toNat == c.toNat) = (b == c) := fun c _ => by
    by_cases e : b = c
    · subst e; simp
    · rw [beq_eq_false_iff_ne.2 e, beq_eq_false_iff_ne.2 (fun h => e (UInt8.toNat_inj.1 h))]
  unfold sepR sepB
  rw [show (b.toNat == 32) = (b == 32) from h 32 (by decide), show (b.toNat == 9) = (b == 9) from h 9 (by decide), show (b.toNat == 13) = (b == 13) from h 13 (by decide)]
/-- what stands between blanks, behind what a piece has so far -/
def fieldsG : List UInt8 → List UInt8 → List (List UInt8)
  | [], cur => if cur = [] then [] else [cur]
  | b :: r, cur => if sepB b then (if cur = [] then fieldsG r [] else cur :: fieldsG r []) else fieldsG r (cur ++ [b])
def fieldsL (l : List UInt8) : List (List UInt8) := fieldsG l []
theorem fieldsG_skip : ∀ (a r cur : List UInt8), a.all (fun b => !sepB b) = true → fieldsG (a ++ r) cur = fieldsG r (cur ++ a)
  | [], r, cur, _ => by simp
  | b :: a, r, cur, h => by
    simp only [List.all_cons, Bool.and_eq_true, Bool.not_eq_true'] at h
    rw [List.cons_append, fieldsG, h.1]
    simp only [Bool.false_eq_true, if_false]
    rw [fieldsG_skip a r (cur ++ [b]) (by simpa using h.2)]
    simp
/-- the bytes of one rune that is no blank are no blanks; a blank is one byte -/
theorem rune_no (l : List UInt8) (hne : l ≠ []) : (sepR (Lib.decodeL l).1 = true → ∃ b r, l = b :: r ∧ sepB b = true ∧ (Lib.decodeL l).2 = 1) ∧
    (sepR (Lib.decodeL l).1 = false → 1 ≤ (Lib.decodeL l).2 ∧ (Lib.decodeL l).2 ≤ l.length ∧ (l.take (Lib.decodeL l).2).all (fun b => !sepB b) = true) := by
  obtain ⟨b, r, rfl⟩ : ∃ b r, l = b :: r := by cases l with | nil => exact absurd rfl hne | cons b r => exact ⟨b, r, rfl⟩
  have hw := Lib.decodeN_ge1 (b :: r).length ((b :: r).getD 0 0).toNat ((b :: r).getD 1 0).toNat ((b :: r).getD 2 0).toNat ((b :: r).getD 3 0).toNat
  have hc := Lib.decodeN_conts (b :: r).length ((b :: r).getD 0 0).toNat ((b :: r).getD 1 0).toNat ((b :: r).getD 2 0).toNat ((b :: r).getD 3 0).toNat
  have hk := Lib.decodeN_cases (b :: r).length ((b :: r).getD 0 0).toNat ((b :: r).getD 1 0).toNat ((b :: r).getD 2 0).toNat ((b :: r).getD 3 0).toNat
  rw [← Lib.decodeL_N] at hw hc hk
  have h0 : ((b :: r).getD 0 0) = b := rfl
  rw [h0] at hk
  by_cases hb : b.toNat < 128
  · have hd : Lib.decodeL (b :: r) = (b.toNat, 1) := by rw [Lib.decodeL_N, h0]; exact Lib.decodeN_ascii _ _ _ _ _ hb
    rw [hd]
    dsimp only
    rw [sepR_byte]
    refine ⟨fun h => ⟨b, r, rfl, h, rfl⟩, fun h => ⟨Nat.le_refl _, by simp, by simp [h]⟩⟩
  · have big : ∀ x : UInt8, 128 ≤ x.toNat → sepB x = false := by
      intro x hx
      rw [← sepR_byte]
      unfold sepR
      rw [beq_eq_false_iff_ne.2 (by omega), beq_eq_false_iff_ne.2 (by omega), beq_eq_false_iff_ne.2 (by omega)]; rfl
    have hR : sepR (Lib.decodeL (b :: r)).1 = false := by
      have hge : 128 ≤ (Lib.decodeL (b :: r)).1 := by
        rcases hk with ⟨h, _⟩ | ⟨_, _, _, h, e⟩ | ⟨_, _, _, _, h, e⟩ | ⟨h, _⟩ | e
        · omega
        · rw [e]; exact h
        · rw [e]; exact Nat.le_trans (by decide) h
        · omega
        · rw [e]; decide
      unfold sepR
      rw [beq_eq_false_iff_ne.2 (by omega), beq_eq_false_iff_ne.2 (by omega), beq_eq_false_iff_ne.2 (by omega)]; rfl
    refine ⟨fun h => (by rw [hR] at h; cases h), fun _ => ?_⟩
    obtain ⟨c2, c3, c4, c5⟩ := hc
    have hlen : (Lib.decodeL (b :: r)).2 ≤ (b :: r).length := by
      have : 1 ≤ (b :: r).length := by simp
      omega
    refine ⟨hw, hlen, ?_⟩
    rw [List.all_eq_true]
    intro x hx
    obtain ⟨j, hj, rfl⟩ := List.getElem_of_mem hx
    rw [List.length_take] at hj
    rw [List.getElem_take]
    have hjl : j < (b :: r).length := by omega
    have hg : (b :: r)[j] = (b :: r).getD j 0 := by simp [List.getD, List.getElem?_eq_getElem hjl]
    rw [hg]
    have hnb : sepB ((b :: r).getD j 0) = false := by
      apply big
      match j, hj with
      | 0, _ => rw [h0]; omega
      | 1, h => have := c2 (by omega); omega
      | 2, h => have := c3 (by omega); omega
      | 3, h => have := c4 (by omega); omega
      | j + 4, h => omega
    rw [hnb]; rfl

def curOf (l : List UInt8) (st : Option Nat) (pos : Nat) : List UInt8 := match st with
  | none => []
  | some a => (l.take pos).drop a
theorem curOf_ne (l : List UInt8) (a pos : Nat) (h : a < pos) (hp : pos ≤ l.length) : curOf l (some a) pos ≠ [] := by
  intro e
  have := congrArg List.length e
  simp [curOf] at this
  omega
theorem take_more (l : List UInt8) (pos k : Nat) : l.take (pos + k) = l.take pos ++ (l.drop pos).take k := List.take_add
theorem curOf_more (l : List UInt8) (a pos k : Nat) (h : a ≤ pos) (hp : pos ≤ l.length) : curOf l (some a) (pos + k) = curOf l (some a) pos ++ (l.drop pos).take k := by
  unfold curOf
  dsimp only
  rw [take_more, List.drop_append_of_le_length (by simp; omega)]
theorem extract_piece (s : ByteArray) (a b : Nat) : (s.extract a b).data.toList = (s.data.toList.take b).drop a := by
  rw [ByteArray.data_extract, Array.toList_extract, List.extract_eq_take_drop]
  rw [List.drop_take]
def pieceL (s : ByteArray) (p : Nat × Nat) : List UInt8 := (s.extract p.1 p.2).data.toList
theorem pieceL_eq (s : ByteArray) (a b : Nat) : pieceL s (a, b) = (s.data.toList.take b).drop a := extract_piece s a b
theorem spans_fields (s : ByteArray) : ∀ (f pos : Nat) (st : Option Nat) (acc : List (Nat × Nat)), s.size ≤ pos + f → pos ≤ s.size → (∀ a, st = some a → a < pos) →
    (Lib.closeSpans s (Lib.spansFromP sepR s f pos st acc)).map (pieceL s) = acc.map (pieceL s) ++ fieldsG (s.data.toList.drop pos) (curOf s.data.toList st pos)
  | 0, pos, st, acc, h, hp, hst => by
    obtain rfl : pos = s.size := by omega
    have hl : s.data.toList.length = s.size := by simp
    have hd : s.data.toList.drop s.size = [] := List.drop_eq_nil_of_le (by omega)
    rw [hd]
    cases st with
    | none => simp [Lib.spansFromP, Lib.closeSpans, curOf, fieldsG]
    | some a =>
      have hn := curOf_ne s.data.toList a s.size (hst a rfl) (by omega)
      rw [fieldsG, if_neg hn]
      simp [Lib.spansFromP, Lib.closeSpans, curOf, pieceL_eq]
  | f + 1, pos, st, acc, h, hp, hst => by
    have hl : s.data.toList.length = s.size := by simp
    by_cases hlt : pos < s.size
    · have hne : s.data.toList.drop pos ≠ [] := by
        intro h0
        have := congrArg List.length h0
        simp at this; omega
      obtain ⟨r1, r2⟩ := rune_no _ hne
      rw [Lib.decodeL_drop] at r1 r2
      rw [Lib.spansFromP.eq_def]
      dsimp only
      rw [if_pos hlt]
      by_cases hs : sepR (Utf8.decode s pos).1 = true
      · rw [if_pos hs]
        obtain ⟨b, r, e, hb, hw⟩ := r1 hs
        rw [hw]
        have hdr : s.data.toList.drop (pos + 1) = r := by rw [← List.drop_drop, e]; rfl
        rw [e, fieldsG, if_pos hb]
        cases st with
        | none =>
          dsimp only
          rw [spans_fields s f (pos + 1) none acc (by omega) (by omega) (fun a h => by cases h), hdr]
          simp [curOf]
        | some a =>
          dsimp only
          rw [spans_fields s f (pos + 1) none _ (by omega) (by omega) (fun a h => by cases h), hdr, if_neg (curOf_ne _ a pos (hst a rfl) (by omega))]
          simp [curOf, pieceL_eq]
      · have hs' : sepR (Utf8.decode s pos).1 = false := by simpa using hs
        rw [if_neg hs]
        obtain ⟨w1, w2, w3⟩ := r2 hs'
        simp only [List.length_drop] at w2
        have hdr : s.data.toList.drop pos = (s.data.toList.drop pos).take (Utf8.decode s pos).2 ++ s.data.toList.drop (pos + (Utf8.decode s pos).2) := by
          rw [← List.drop_drop, List.take_append_drop]
        cases st with
        | none =>
          dsimp only
          rw [spans_fields s f _ (some pos) acc (by omega) (by omega) (fun a h => by cases h; omega), curOf_more _ _ _ _ (Nat.le_refl _) (by omega)]
          conv => rhs; rw [hdr]
          rw [fieldsG_skip _ _ _ w3]
          congr 2
          simp [curOf]
        | some a =>
          dsimp only
          rw [spans_fields s f _ (some a) acc (by omega) (by omega) (fun a' h => by cases h; have := hst a rfl; omega), curOf_more _ _ _ _ (by have := hst a rfl; omega) (by omega)]
          conv => rhs; rw [hdr]
          rw [fieldsG_skip _ _ _ w3]
    · obtain rfl : pos = s.size := by omega
      rw [Lib.spansFromP_end _ _ _ _ _ _ hlt]
      have := spans_fields s 0 s.size st acc (by omega) hp hst
      exact this
theorem fields_eq (s : ByteArray) : (Lib.goFieldsP sepR s).map (·.data.toList) = fieldsL s.data.toList := by
  unfold Lib.goFieldsP Lib.spansOfP
  rw [List.map_map]
  have := spans_fields s s.size 0 none [] (by omega) (by omega) (fun a h => by cases h)
  rw [List.map_nil, List.nil_append, List.drop_zero] at this
  exact this
end Go.Proofs.YthcidcfaodjbjabGreatDoor
