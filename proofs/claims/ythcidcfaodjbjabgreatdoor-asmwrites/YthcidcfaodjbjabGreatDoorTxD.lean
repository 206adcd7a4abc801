/- asm.Text, plain: what it answers. -/
import Derived.Test.YthcidcfaodjbjabGreatDoorTxC
import Derived.Test.YthcidcfaodjbjabGreatDoorIExp
namespace Go.Proofs.YthcidcfaodjbjabGreatDoor
open Go.RowKit Go.Maps
set_option linter.unusedVariables false
/-- place k's lines -/
def lineT (l : List In) (k : Nat) (x : In) : List UInt8 := (if aimT l k = true then labelT k ++ [58, 10] else []) ++ (listT x ++ [10])
/-- the lines of the first k -/
def textN (l : List In) : Nat → List UInt8
  | 0 => []
  | k + 1 => textN l k ++ lineT l k (l.getD k ⟨1, 0, 0, 0, 0, 0⟩)
/-- what Text answers -/
def textA (l : List In) (cells : Int) : List UInt8 × Int :=
  if (checkL l cells).2 = 0 then (if 8192 < (textN l l.length).length then ([], 30) else (textN l l.length, 0)) else ([], (checkL l cells).2)
theorem textN_succ (l : List In) (k : Nat) (h : k < l.length) : textN l (k + 1) = textN l k ++ lineT l k l[k] := by
  rw [textN, List.getD_eq_getElem?_getD, List.getElem?_eq_getElem h]
  rfl
theorem list_len2 (x : In) : (listT x).length ≤ 96 := by
  obtain ⟨h1, h2, _⟩ := words_ok x
  have := join_len [32] ((wordOf x).1 :: (wordOf x).2.map (pieceT x)) (fun y hy => by
    rcases List.mem_cons.1 hy with rfl | hy
    · omega
    · obtain ⟨c, _, rfl⟩ := List.mem_map.1 hy
      exact piece_len x c)
  unfold listT
  simp at this ⊢
  omega
theorem label_len (k : Int) : (labelT k).length ≤ 23 := by
  have := text_len k
  unfold labelT
  simp
  omega
theorem line_len (l : List In) (k : Nat) (x : In) : (lineT l k x).length ≤ 122 := by
  have h1 := list_len2 x
  have h2 := label_len k
  unfold lineT
  split <;> simp <;> omega
theorem textN_len (l : List In) : ∀ k, (textN l k).length ≤ k * 122
  | 0 => by simp [textN]
  | k + 1 => by
    have h1 := textN_len l k
    have h2 := line_len l k (l.getD k ⟨1, 0, 0, 0, 0, 0⟩)
    rw [textN, List.length_append]
    omega
theorem wordGo_lab (k o : Int) : ∀ L : List Say, (L.all fun s => decide (s.kind = 10 ∨ s.kind = 11 ∨ s.kind = 12) || decide (Lib.indexByte s.parts 108 < 0)) = true → 0 ≤ Lib.indexByte (wordGo k o L).2 108 → k = 10 ∨ k = 11 ∨ k = 12
  | [], _, h => absurd h (by unfold wordGo; decide)
  | s :: L, h, h0 => by
    rw [List.all_cons, Bool.and_eq_true] at h
    unfold wordGo at h0
    by_cases hs : s.kind = k ∧ s.op = o
    · rw [if_pos hs] at h0
      have h1 := h.1
      simp only [Bool.or_eq_true, decide_eq_true_eq] at h1
      rcases h1 with h1 | h1
      · rw [hs.1] at h1; exact h1
      · exact absurd h0 (Int.not_le.2 h1)
    · rw [if_neg hs] at h0
      exact wordGo_lab k o L h.2 h0
theorem lab_kind {x : In} (h : labI x = true) : x.kind = 10 ∨ x.kind = 11 ∨ x.kind = 12 := by
  unfold labI at h
  have := wordGo_lab (bareI x).kind (bareI x).op saysL (by decide) (of_decide_eq_true h)
  unfold bareI at this
  split at this <;> exact this
theorem oneC_tgt {x : In} {cells long : Int} (h : oneC x cells long = 0) (hk : x.kind = 10 ∨ x.kind = 11 ∨ x.kind = 12) : 0 ≤ x.k ∧ x.k < long := by
  obtain ⟨kd, op, xa, xb, xc, xk⟩ := x
  dsimp only at hk ⊢
  rcases hk with rfl | rfl | rfl
  · rw [oneC_10] at h; (repeat' split at h) <;> first | (cases h; done) | omega
  · rw [oneC_11] at h; (repeat' split at h) <;> first | (cases h; done) | omega
  · rw [oneC_12] at h; (repeat' split at h) <;> first | (cases h; done) | omega
theorem firstBad_none (cells long : Int) : ∀ (l : List In) (i : Nat), firstBad cells long i l = none → ∀ x ∈ l, oneC x cells long = 0
  | [], i, h, x, hx => by cases hx
  | y :: l, i, h, x, hx => by
    unfold firstBad at h
    split at h
    · rcases List.mem_cons.1 hx with rfl | hx
      · assumption
      · exact firstBad_none cells long l (i + 1) h x hx
    · cases h
theorem firstBad_some (cells long : Int) : ∀ (l : List In) (j i : Nat) (e : Int), firstBad cells long j l = some (i, e) → e ≠ 0
  | [], j, i, e, h => by cases h
  | x :: l, j, i, e, h => by
    unfold firstBad at h
    split at h
    · exact firstBad_some cells long l _ _ _ h
    · rename_i hne; cases h; exact hne
theorem chk_tgt {l : List In} {cells : Int} (h : (checkL l cells).2 = 0) : (0 < l.length ∧ l.length ≤ 600) ∧ (∀ x ∈ l, oneC x cells l.length = 0) ∧ ∀ x ∈ l, labI x = true → 0 ≤ x.k ∧ x.k < l.length := by
  have hl : ¬ (l.length = 0 ∨ 600 < l.length) := fun e => by rw [checkL_len l cells e] at h; cases h
  unfold checkL at h
  rw [if_neg hl] at h
  cases hb : firstBad cells (l.length : Int) 0 l with
  | some p =>
    obtain ⟨i, e⟩ := p
    rw [hb] at h
    exact absurd h (firstBad_some cells _ l 0 i e hb)
  | none =>
    have h1 := firstBad_none cells _ l 0 hb
    exact ⟨by omega, h1, fun x hx hlb => oneC_tgt (h1 x hx) (lab_kind hlb)⟩
theorem BuilderAtF_below {T e : TypeId} {B b : Nat} {p : Value} {bs : List Value} {W W' : World} (h : Lib.BuilderAtF T e B b p bs W) (hb : Below W.heap.size W W') : Lib.BuilderAtF T e B b p bs W' := by
  have hlt := h.lt
  obtain ⟨hB, v, hv, hown, hne⟩ := h
  exact ⟨hB, v, (hb.block b hlt).trans hv, hown.kept (row := none) ⟨hb.os, hb.tape, hb.output, hb.size, fun k hk _ => hb.block k hk⟩ (Classical.em _), hne⟩
theorem IsBuilderF_below {T e : TypeId} {B b : Nat} {bs : List Value} {W W' : World} (h : Lib.IsBuilderF T e B b bs W) (hb : Below W.heap.size W W') : Lib.IsBuilderF T e B b bs W' :=
  h.elim (fun x => .inl (BuilderAtF_below x hb)) (fun x => .inr (BuilderAtF_below x hb))
/-- the first write of a round: a label's line, or none -/
theorem strCells_two (a b : List UInt8) : Lib.byteCells a ++ Lib.strCells ⟨b.toArray⟩ = Lib.byteCells (a ++ b) := by
  rw [Lib.byteCells_append]
  rfl
theorem str_snoc (l : List UInt8) (b : UInt8) : (⟨l.toArray⟩ ++ ⟨#[b]⟩ : ByteArray) = ⟨(l ++ [b]).toArray⟩ := by
  apply ByteArray.ext
  simp
end Go.Proofs.YthcidcfaodjbjabGreatDoor
