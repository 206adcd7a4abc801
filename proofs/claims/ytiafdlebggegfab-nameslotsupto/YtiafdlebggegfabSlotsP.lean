/- The names that are there as one list, and the names of an expression as one list: plain mathematics. -/
import Derived.Test.YtiafdlebggegfabStmt
namespace Go.Proofs.Ytiafdlebggegfab
open Go.RowKit Go.Maps Go.WideMaps
set_option linter.unusedVariables false

def tabFrom : Int → List ByteArray → Tab
  | _, [] => []
  | i, t :: r => (t.data.toList, i) :: tabFrom (i + 1) r
def tabOf (th : List ByteArray) : Tab := ([110], 0) :: ([105], 1) :: ([107], 2) :: tabFrom 3 th
theorem tabFrom_len : ∀ (th : List ByteArray) (i : Int), (tabFrom i th).length = th.length := by
  intro th
  induction th with
  | nil => intro i; rfl
  | cons t r ih => intro i; simp [tabFrom, ih]
theorem tabOf_len (th : List ByteArray) : (tabOf th).length = th.length + 3 := by simp [tabOf, tabFrom_len]
theorem tabFrom_snoc (s : ByteArray) : ∀ (th : List ByteArray) (i : Int), tabFrom i (th ++ [s]) = tabFrom i th ++ [(s.data.toList, i + th.length)] := by
  intro th
  induction th with
  | nil => intro i; simp [tabFrom]
  | cons t r ih =>
    intro i
    simp only [List.cons_append, tabFrom, ih, List.length_cons]
    rw [show i + 1 + (r.length : Int) = i + ((r.length + 1 : Nat) : Int) by omega]
theorem tabOf_snoc (th : List ByteArray) (s : ByteArray) : tabOf (th ++ [s]) = tabOf th ++ [(s.data.toList, ((tabOf th).length : Int))] := by
  rw [tabOf_len]
  simp only [tabOf, tabFrom_snoc, List.cons_append]
  rw [show (3 : Int) + (th.length : Int) = ((th.length + 3 : Nat) : Int) by omega]

def idxOf (s : ByteArray) : List ByteArray → Int → Int
  | [], _ => -1
  | t :: r, i => if (t.toList == s.toList) = true then i else idxOf s r (i + 1)
def findI (th : List ByteArray) (s : ByteArray) : Int := if (s.toList == [110]) = true then 0 else if (s.toList == [105]) = true then 1 else if (s.toList == [107]) = true then 2 else idxOf s th 3
theorem find_cons (k : List UInt8) (r : Int) (T : Tab) (t : List UInt8) : find ((k, r) :: T) t = if (k == t) = true then some r else find T t := by
  unfold find
  rw [List.find?_cons]
  cases h : (k == t) <;> simp
theorem idxOf_find (s : ByteArray) : ∀ (th : List ByteArray) (i : Int), 0 ≤ i → find (tabFrom i th) s.data.toList = (if idxOf s th i < 0 then none else some (idxOf s th i)) ∧ (idxOf s th i < 0 → idxOf s th i = -1) := by
  intro th
  induction th with
  | nil => intro i _; exact ⟨rfl, fun _ => rfl⟩
  | cons t r ih =>
    intro i hi
    simp only [tabFrom, find_cons, idxOf, ByteArray.toList_eq]
    split
    · rw [if_neg (by omega)]; exact ⟨rfl, fun h => by omega⟩
    · exact ih (i + 1) (by omega)
theorem findI_find (th : List ByteArray) (s : ByteArray) : find (tabOf th) s.data.toList = (if findI th s < 0 then none else some (findI th s)) ∧ (findI th s < 0 → findI th s = -1) := by
  unfold tabOf findI
  simp only [find_cons, ByteArray.toList_eq]
  rw [Bool.beq_comm (a := s.data.toList) (b := [110]), Bool.beq_comm (a := s.data.toList) (b := [105]), Bool.beq_comm (a := s.data.toList) (b := [107])]
  split
  · exact ⟨rfl, fun h => by omega⟩
  · split
    · exact ⟨rfl, fun h => by omega⟩
    · split
      · exact ⟨rfl, fun h => by omega⟩
      · exact idxOf_find s th 3 (by decide)

/-- the names of a row of expressions -/
def namesL : EL → List ByteArray
  | .nil => []
  | .cons k _ s _ a r => (if k = 2 then [s] else namesL a) ++ namesL r
def namesE (k : Int) (s : ByteArray) (a : EL) : List ByteArray := if k = 2 then [s] else namesL a
theorem namesL_cons (k n : Int) (s : ByteArray) (p : Int) (a r : EL) : namesL (.cons k n s p a r) = namesE k s a ++ namesL r := rfl
theorem namesL_len : ∀ a : EL, (namesL a).length ≤ a.cnt := by
  intro a
  induction a with
  | nil => exact Nat.le_refl _
  | cons k n s p a r iha ihr =>
    simp only [namesL, List.length_append, EL.cnt]
    split
    · simp; omega
    · omega
theorem namesE_len (k : Int) (s : ByteArray) (a : EL) : (namesE k s a).length ≤ a.cnt + 1 := by
  unfold namesE
  have := namesL_len a
  split
  · simp
  · omega
/-- their registers -/
def useN (T : Tab) : List ByteArray → List Int → Option (List Int)
  | [], o => some o
  | s :: r, o => match find T s.data.toList with
    | none => none
    | some g => useN T r (o ++ [g])
theorem useN_app (T : Tab) : ∀ (x y : List ByteArray) (o : List Int), useN T (x ++ y) o = (match useN T x o with
    | none => none
    | some p => useN T y p) := by
  intro x
  induction x with
  | nil => intro y o; rfl
  | cons s r ih =>
    intro y o
    simp only [List.cons_append, useN]
    cases find T s.data.toList with
    | none => rfl
    | some g => exact ih y _
theorem useL_names (T : Tab) : ∀ (a : EL) (o : List Int), useL T a o = useN T (namesL a) o := by
  intro a
  induction a with
  | nil => intro o; rfl
  | cons k n s p a r iha ihr =>
    intro o
    rw [useL_cons, namesL_cons, useN_app]
    unfold useE namesE
    by_cases h : k = 2
    · rw [if_pos h, if_pos h]
      simp only [useN]
      cases find T s.data.toList with
      | none => rfl
      | some g => exact ihr _
    · rw [if_neg h, if_neg h, iha]
      cases useN T (namesL a) o with
      | none => rfl
      | some p => exact ihr p
/-- a statement's names, the one that is set behind the others -/
def namesS (k : Int) (s : ByteArray) (a : EL) : List ByteArray := if k = 2 then namesL a ++ [s] else namesL a
theorem namesS_len (k : Int) (s : ByteArray) (a : EL) : (namesS k s a).length ≤ a.cnt + 1 := by
  unfold namesS
  have := namesL_len a
  split
  · simp; omega
  · omega
/-- what is left of a statement's own when its names are told -/
def ownR (cells k : Int) (s : ByteArray) (c : Int) (st : Sta) : Res :=
  if k = 5 ∧ cells ≤ c then .err 63 else if k = 1 then
    (match find st.T s.data.toList with
    | some _ => .err 61
    | none => if 11 ≤ st.T.length then .err 62 else .ok ⟨st.T ++ [(s.data.toList, (st.T.length : Int))], st.out ++ [(st.T.length : Int)], max st.most ((st.T.length : Int) - 3 + 1)⟩)
  else .ok st
def namesR (st : Sta) (L : List ByteArray) : Res := match useN st.T L st.out with
  | none => .err 60
  | some o => .ok ⟨st.T, o, st.most⟩
theorem own_names (cells k : Int) (s : ByteArray) (c : Int) (a : EL) (st : Sta) : (useS st a).andThen (ownS cells k s c) = (namesR st (namesS k s a)).andThen (ownR cells k s c) := by
  unfold useS namesR namesS
  rw [useL_names]
  by_cases h : k = 2
  · subst h
    rw [if_pos rfl, useN_app]
    cases useN st.T (namesL a) st.out with
    | none => rfl
    | some o =>
      show ownS cells 2 s c ⟨st.T, o, st.most⟩ = Res.andThen (match useN st.T [s] o with | none => Res.err 60 | some o => Res.ok ⟨st.T, o, st.most⟩) _
      unfold ownS
      rw [if_neg (show ¬ (2 : Int) = 1 by decide), if_pos (show (2 : Int) = 2 from rfl)]
      show (match find st.T s.data.toList with | some r => Res.ok ⟨st.T, o ++ [r], st.most⟩ | none => Res.err 60) = Res.andThen (match (match find st.T s.data.toList with | none => none | some g => some (o ++ [g])) with | none => Res.err 60 | some o => Res.ok ⟨st.T, o, st.most⟩) _
      cases find st.T s.data.toList with
      | none => rfl
      | some g =>
        show _ = ownR cells 2 s c ⟨st.T, o ++ [g], st.most⟩
        unfold ownR
        rw [if_neg (fun h => absurd h.1 (by decide)), if_neg (by decide)]
  · rw [if_neg h]
    cases useN st.T (namesL a) st.out with
    | none => rfl
    | some o =>
      show ownS cells k s c ⟨st.T, o, st.most⟩ = ownR cells k s c ⟨st.T, o, st.most⟩
      unfold ownS ownR
      by_cases h1 : k = 1
      · subst h1
        rw [if_pos rfl, if_neg (show ¬ ((1 : Int) = 5 ∧ cells ≤ c) from fun h => absurd h.1 (by decide)), if_pos rfl]
        cases find st.T s.data.toList <;> rfl
      · rw [if_neg h1, if_neg h1, if_neg h]
        by_cases h5 : k = 5
        · subst h5
          by_cases hc : cells ≤ c
          · rw [if_pos rfl, if_pos hc, if_pos ⟨rfl, hc⟩]
          · rw [if_pos rfl, if_neg hc, if_neg (fun h => hc h.2)]
        · rw [if_neg h5, if_neg (fun h => h5 h.1)]
end Go.Proofs.Ytiafdlebggegfab
