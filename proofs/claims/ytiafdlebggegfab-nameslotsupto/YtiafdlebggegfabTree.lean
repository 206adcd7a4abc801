/- Trees, and which register each name of one is: plain mathematics. A row of expressions (of statements) is nothing, or a first one with its parts and the row behind it. -/
import Derived.WalkKit
namespace Go.Proofs.Ytiafdlebggegfab
open Go.RowKit
set_option linter.unusedVariables false

inductive EL where
  | nil
  | cons (kind num : Int) (name : ByteArray) (op : Int) (args rest : EL)
inductive SL where
  | nil
  | cons (kind : Int) (name : ByteArray) (cell : Int) (args : EL) (body els rest : SL)

def EL.len : EL → Nat
  | .nil => 0
  | .cons _ _ _ _ _ r => r.len + 1
def SL.len : SL → Nat
  | .nil => 0
  | .cons _ _ _ _ _ _ r => r.len + 1
/-- how many nodes there are -/
def EL.cnt : EL → Nat
  | .nil => 0
  | .cons _ _ _ _ a r => a.cnt + r.cnt + 1
def SL.cnt : SL → Nat
  | .nil => 0
  | .cons _ _ _ a b e r => a.cnt + b.cnt + e.cnt + r.cnt + 1
theorem EL.len_le (l : EL) : l.len ≤ l.cnt := by
  induction l with
  | nil => exact Nat.le_refl _
  | cons k n s o a r _ ih => simp only [EL.len, EL.cnt]; omega
theorem SL.len_le (l : SL) : l.len ≤ l.cnt := by
  induction l with
  | nil => exact Nat.le_refl _
  | cons k s c a b e r _ _ ih => simp only [SL.len, SL.cnt]; omega
def SL.app : SL → SL → SL
  | .nil, z => z
  | .cons k s c a b e r, z => .cons k s c a b e (r.app z)
def SL.take : Nat → SL → SL
  | 0, _ => .nil
  | _ + 1, .nil => .nil
  | n + 1, .cons k s c a b e r => .cons k s c a b e (r.take n)
def SL.drop : Nat → SL → SL
  | 0, l => l
  | _ + 1, .nil => .nil
  | n + 1, .cons _ _ _ _ _ _ r => r.drop n
theorem SL.take_drop (n : Nat) : ∀ l : SL, (l.take n).app (l.drop n) = l := by
  induction n with
  | zero => intro l; cases l <;> rfl
  | succ n ih => intro l; cases l with
    | nil => rfl
    | cons k s c a b e r => show SL.cons k s c a b e ((r.take n).app (r.drop n)) = _; rw [ih]

/-- the names that are there, with their registers -/
abbrev Tab := List (List UInt8 × Int)
def find (T : Tab) (s : List UInt8) : Option Int := (T.find? (fun x => x.1 == s)).map (fun x => x.2)

def useL (T : Tab) : EL → List Int → Option (List Int)
  | .nil, o => some o
  | .cons k _ s _ a r, o => match (if k = 2 then (find T s.data.toList).map (fun g => o ++ [g]) else useL T a o) with
    | none => none
    | some p => useL T r p
/-- what one expression gives -/
def useE (T : Tab) (k : Int) (s : ByteArray) (a : EL) (o : List Int) : Option (List Int) := if k = 2 then (find T s.data.toList).map (fun g => o ++ [g]) else useL T a o
theorem useL_cons (T : Tab) (k n : Int) (s : ByteArray) (p : Int) (a r : EL) (o : List Int) : useL T (.cons k n s p a r) o = match useE T k s a o with
    | none => none
    | some q => useL T r q := rfl

structure Sta where
  T : Tab
  out : List Int
  most : Int
inductive Res where
  | err (e : Int)
  | ok (st : Sta)

def ownS (cells k : Int) (s : ByteArray) (c : Int) (st : Sta) : Res :=
  if k = 1 then
    (match find st.T s.data.toList with
    | some _ => .err 61
    | none => if 11 ≤ st.T.length then .err 62 else .ok ⟨st.T ++ [(s.data.toList, (st.T.length : Int))], st.out ++ [(st.T.length : Int)], max st.most ((st.T.length : Int) - 3 + 1)⟩)
  else if k = 2 then
    (match find st.T s.data.toList with
    | some r => .ok ⟨st.T, st.out ++ [r], st.most⟩
    | none => .err 60)
  else if k = 5 then (if cells ≤ c then .err 63 else .ok st)
  else .ok st

/-- behind a block the names are those ahead of it -/
def Res.shut (T : Tab) : Res → Res
  | .err e => .err e
  | .ok st => .ok ⟨T, st.out, st.most⟩
def Res.andThen : Res → (Sta → Res) → Res
  | .err e, _ => .err e
  | .ok st, f => f st
def useS (st : Sta) (a : EL) : Res := match useL st.T a st.out with
  | none => .err 60
  | some o => .ok ⟨st.T, o, st.most⟩
def runL (cells : Int) : SL → Sta → Res
  | .nil, st => .ok st
  | .cons k s c a b e r, st => ((((useS st a).andThen (ownS cells k s c)).andThen (fun s1 => (runL cells b s1).shut s1.T)).andThen (fun s2 => (runL cells e s2).shut s2.T)).andThen (runL cells r)
/-- what one statement gives -/
def runS (cells k : Int) (s : ByteArray) (c : Int) (a : EL) (b e : SL) (st : Sta) : Res :=
  ((((useS st a).andThen (ownS cells k s c)).andThen (fun s1 => (runL cells b s1).shut s1.T)).andThen (fun s2 => (runL cells e s2).shut s2.T))
theorem runL_cons (cells k : Int) (s : ByteArray) (c : Int) (a : EL) (b e r : SL) (st : Sta) : runL cells (.cons k s c a b e r) st = (runS cells k s c a b e st).andThen (runL cells r) := rfl
def st0 : Sta := ⟨[([110], 0), ([105], 1), ([107], 2)], [], 0⟩
def slots (l : SL) (cells : Int) : Res := (runL cells l st0).shut st0.T

theorem andThen_ok {r : Res} {f : Sta → Res} {st : Sta} (h : r.andThen f = .ok st) : ∃ s1, r = .ok s1 ∧ f s1 = .ok st := by
  cases r with
  | err e => cases h
  | ok s1 => exact ⟨s1, rfl, h⟩
theorem andThen_assoc (r : Res) (f g : Sta → Res) : (r.andThen f).andThen g = r.andThen (fun s => (f s).andThen g) := by
  cases r <;> rfl
theorem shut_ok {T : Tab} {r : Res} {st : Sta} (h : r.shut T = .ok st) : ∃ s1, r = .ok s1 ∧ st = ⟨T, s1.out, s1.most⟩ := by
  cases r with
  | err e => cases h
  | ok s1 => cases h; exact ⟨s1, rfl, rfl⟩
theorem runL_app (cells : Int) (z : SL) : ∀ (l : SL) (st : Sta), runL cells (l.app z) st = (runL cells l st).andThen (runL cells z) := by
  intro l
  induction l with
  | nil => intro st; rfl
  | cons k s c a b e r _ _ ih =>
    intro st
    show runL cells (.cons k s c a b e (r.app z)) st = _
    rw [runL_cons, runL_cons, andThen_assoc]
    congr 1
    funext s1
    exact ih s1

/-- registers only come behind -/
theorem useL_pre (T : Tab) : ∀ (l : EL) (o p : List Int), useL T l o = some p → ∃ x, p = o ++ x ∧ x.length ≤ l.cnt := by
  intro l
  induction l with
  | nil => intro o p h; cases h; exact ⟨[], by simp, by simp⟩
  | cons k n s op a r iha ihr =>
    intro o p h
    rw [useL_cons] at h
    rcases h1 : useE T k s a o with _ | q
    · rw [h1] at h; cases h
    · rw [h1] at h
      obtain ⟨y, rfl, hy⟩ := ihr _ _ h
      have hq : ∃ x, q = o ++ x ∧ x.length ≤ a.cnt + 1 := by
        unfold useE at h1
        split at h1
        · rcases hf : find T s.data.toList with _ | g
          · rw [hf] at h1; cases h1
          · rw [hf] at h1
            simp at h1
            exact ⟨[g], h1.symm, by simp⟩
        · obtain ⟨x, h2, h3⟩ := iha _ _ h1
          exact ⟨x, h2, by omega⟩
      obtain ⟨x, rfl, hx⟩ := hq
      exact ⟨x ++ y, by simp, by simp only [EL.cnt, List.length_append]; omega⟩
theorem useS_pre {st st1 : Sta} {a : EL} (h : useS st a = .ok st1) : st1.T = st.T ∧ st1.most = st.most ∧ ∃ x, st1.out = st.out ++ x ∧ x.length ≤ a.cnt := by
  unfold useS at h
  rcases h1 : useL st.T a st.out with _ | o
  · rw [h1] at h; cases h
  · rw [h1] at h; cases h
    exact ⟨rfl, rfl, useL_pre _ _ _ _ h1⟩
theorem ownS_pre {cells k : Int} {s : ByteArray} {c : Int} {st st1 : Sta} (h : ownS cells k s c st = .ok st1) : ∃ x y, st1.out = st.out ++ x ∧ x.length ≤ 1 ∧ st1.T = st.T ++ y ∧ y.length ≤ 1 := by
  unfold ownS at h
  split at h
  · split at h
    · cases h
    · split at h
      · cases h
      · cases h; exact ⟨_, _, rfl, by simp, rfl, by simp⟩
  · split at h
    · split at h
      · cases h; exact ⟨_, [], rfl, by simp, by simp, by simp⟩
      · cases h
    · split at h
      · split at h
        · cases h
        · cases h; exact ⟨[], [], by simp, by simp, by simp, by simp⟩
      · cases h; exact ⟨[], [], by simp, by simp, by simp, by simp⟩
theorem runL_pre (cells : Int) : ∀ (l : SL) (st st1 : Sta), runL cells l st = .ok st1 → ∃ x y, st1.out = st.out ++ x ∧ x.length ≤ l.cnt ∧ st1.T = st.T ++ y ∧ y.length ≤ l.len := by
  intro l
  induction l with
  | nil => intro st st1 h; cases h; exact ⟨[], [], by simp, by simp, by simp, by simp⟩
  | cons k s c a b e r ihb ihe ihr =>
    intro st st1 h
    rw [runL_cons] at h
    obtain ⟨s4, h4, h5⟩ := andThen_ok h
    unfold runS at h4
    obtain ⟨s3, h3, h4⟩ := andThen_ok h4
    obtain ⟨s2, h2, h3⟩ := andThen_ok h3
    obtain ⟨s1, h1, h2⟩ := andThen_ok h2
    obtain ⟨t1, _, x1, o1, l1⟩ := useS_pre h1
    obtain ⟨x2, y2, o2, l2, t2, m2⟩ := ownS_pre h2
    obtain ⟨s3', h3', rfl⟩ := shut_ok h3
    obtain ⟨x3, y3, o3, l3, _, _⟩ := ihb _ _ h3'
    obtain ⟨s4', h4', rfl⟩ := shut_ok h4
    obtain ⟨x4, y4, o4, l4, _, _⟩ := ihe _ _ h4'
    obtain ⟨x5, y5, o5, l5, t5, m5⟩ := ihr _ _ h5
    refine ⟨x1 ++ x2 ++ x3 ++ x4 ++ x5, y2 ++ y5, ?_, ?_, ?_, ?_⟩
    · rw [o5]; show s4'.out ++ x5 = _; rw [o4]; show s3'.out ++ x4 ++ x5 = _; rw [o3, o2, o1]; simp
    · simp only [SL.cnt, List.length_append]; omega
    · rw [t5]; show s2.T ++ y5 = _; rw [t2, t1]; simp
    · simp only [SL.len, List.length_append]; omega

/-- the first statements, and the whole -/
theorem slots_take (l : SL) (cells : Int) (n : Nat) : (∀ e, slots (l.take n) cells = .err e → slots l cells = .err e) ∧
    (∀ s1 s2, slots (l.take n) cells = .ok s1 → slots l cells = .ok s2 → ∃ x, s2.out = s1.out ++ x) := by
  have e0 : runL cells l st0 = (runL cells (l.take n) st0).andThen (runL cells (l.drop n)) := by rw [← runL_app, SL.take_drop]
  unfold slots
  rw [e0]
  rcases h : runL cells (l.take n) st0 with x | s1
  · exact ⟨fun e he => he, fun s1 s2 h1 _ => (by cases h1)⟩
  · refine ⟨fun e he => (by cases he), fun a b h1 h2 => ?_⟩
    cases h1
    obtain ⟨s3, e3, rfl⟩ := shut_ok h2
    obtain ⟨x, _, hx, _⟩ := runL_pre cells _ _ _ e3
    exact ⟨x, hx⟩

/-- all within an if or a while -/
theorem slots_within (l : SL) (cells k n : Int) (hk : k = 6 ∨ k = 7) : slots (.cons k ByteArray.empty 0 (.cons 1 n ByteArray.empty 0 .nil .nil) l .nil .nil) cells = slots l cells := by
  unfold slots
  rw [runL_cons]
  unfold runS
  have e1 : useS st0 (.cons 1 n ByteArray.empty 0 .nil .nil) = .ok st0 := rfl
  have e2 : ownS cells k ByteArray.empty 0 st0 = .ok st0 := by
    unfold ownS
    rw [if_neg (by omega), if_neg (by omega), if_neg (by omega)]
  rw [e1]
  show Res.shut _ (((((ownS cells k ByteArray.empty 0 st0).andThen _).andThen _)).andThen _) = _
  rw [e2]
  show Res.shut _ (((((runL cells l st0).shut st0.T).andThen _)).andThen _) = _
  rcases runL cells l st0 with x | s1
  · rfl
  · rfl
end Go.Proofs.Ytiafdlebggegfab
