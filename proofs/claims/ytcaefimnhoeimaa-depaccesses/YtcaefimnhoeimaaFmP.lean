/- Plain: forms, numbers as far as they are known. -/
import Derived.Test.YtcaefimnhoeimaaMtP
import Derived.Test.YtcaefimnhoeimaaOps
import Derived.Test.YtcaefimnhoeimaaIChk
namespace Go.Proofs.Ytcaefimnhoeimaa
open Go.RowKit
set_option linter.unusedVariables false

structure Fm where
  k : Bool
  a : Int
  c : Int
def fz : Fm := ⟨false, 0, 0⟩
def keptF (a c : Int) : Fm := if farB a 1073741824 = true then fz else if farB c 1152921504606846976 = true then fz else ⟨true, a, c⟩
def numF (n : Int) : Fm := keptF 0 n
def isNumB (f : Fm) : Bool := f.k && (f.a == 0)
def oneF (op : Int) (f : Fm) : Fm := if isNumB f = true then numF (oneR op f.c).1 else if f.k = true ∧ op = 19 then keptF (-f.a) (-f.c) else fz
/-- g is one number -/
def prodF (f g : Fm) : Fm := if ¬ g.a = 0 then fz else if farB g.c 1073741824 = true then fz else if farB f.c 1073741824 = true then fz else keptF (f.a * g.c) (f.c * g.c)
def productF (f g : Fm) : Fm := if f.a = 0 then prodF g f else prodF f g
def twoF (op : Int) (f g : Fm) : Fm :=
  if isNumB f = true ∧ isNumB g = true then numF (twoR op f.c g.c).1 else if f.k = false then fz else if g.k = false then fz
  else if op = 1 then keptF (f.a + g.a) (f.c + g.c) else if op = 2 then keptF (f.a - g.a) (f.c - g.c) else if op = 3 then productF f g else fz
/-- where an access goes -/
def movedF (f : Fm) (n : Int) : Fm := twoF 1 f (numF n)
/-- a form's numbers are near enough to 0 -/
def OkF (f : Fm) : Prop := (-1073741824 ≤ f.a ∧ f.a ≤ 1073741824) ∧ (-1152921504606846976 ≤ f.c ∧ f.c ≤ 1152921504606846976)
theorem okF_fz : OkF fz := by unfold OkF fz; simp
theorem okF_kept (a c : Int) : OkF (keptF a c) := by
  unfold keptF farB
  split
  · exact okF_fz
  · split
    · exact okF_fz
    · unfold OkF; simp_all
theorem okF_one (op : Int) (f : Fm) : OkF (oneF op f) := by
  unfold oneF numF
  split
  · exact okF_kept _ _
  · split
    · exact okF_kept _ _
    · exact okF_fz
theorem okF_prod (f g : Fm) : OkF (prodF f g) := by
  unfold prodF
  split
  · exact okF_fz
  split
  · exact okF_fz
  split
  · exact okF_fz
  · exact okF_kept _ _
theorem okF_two (op : Int) (f g : Fm) : OkF (twoF op f g) := by
  unfold twoF numF productF
  repeat' split
  all_goals first | exact okF_kept _ _ | exact okF_fz | exact okF_prod _ _
theorem okF_moved (f : Fm) (n : Int) : OkF (movedF f n) := okF_two _ _ _
theorem mul_bd {x y B C : Int} (hx : -B ≤ x ∧ x ≤ B) (hy : -C ≤ y ∧ y ≤ C) (hB : 0 ≤ B) (hC : 0 ≤ C) : -(B * C) ≤ x * y ∧ x * y ≤ B * C := by
  have h : (x * y).natAbs ≤ (B * C).natAbs := by
    rw [Int.natAbs_mul, Int.natAbs_mul]
    exact Nat.mul_le_mul (by omega) (by omega)
  have : 0 ≤ B * C := Int.mul_nonneg hB hC
  omega

/-- what the registers are at one place -/
def rgF (R : List Fm) (i : Int) : Fm := R.getD i.toNat fz
def goB (R : List Fm) (x : In) : Bool :=
  if x.kind = 10 ∨ x.kind = 11 ∨ x.kind = 12 ∨ x.kind = 13 then false else if x.kind = 5 then (if x.op = 4 ∨ x.op = 5 then isNumB (rgF R x.c) && !((rgF R x.c).c == 0) else true) else true
def passF (R : List Fm) (x : In) : List Fm :=
  if x.kind = 2 then R.set x.a.toNat (numF x.k) else if x.kind = 3 then R.set x.a.toNat (rgF R x.b) else if x.kind = 4 then R.set x.a.toNat (oneF x.op (rgF R x.b))
  else if x.kind = 5 then R.set x.a.toNat (twoF x.op (rgF R x.b) (rgF R x.c)) else if x.kind = 6 then R.set x.a.toNat fz else R
def accF (R : List Fm) (x : In) : List (Bool × Fm) := if x.kind = 6 then [(false, movedF (rgF R x.b) x.k)] else if x.kind = 7 then [(true, movedF (rgF R x.b) x.k)] else []
def toldF : List Fm → List In → Option (List (Bool × Fm))
  | _, [] => some []
  | R, x :: l => if goB R x = true then (match toldF (passF R x) l with | some t => some (accF R x ++ t) | none => none) else none
def startF : List Fm := fz :: ⟨true, 1, 0⟩ :: List.replicate 14 ⟨true, 0, 0⟩
def OkR (R : List Fm) : Prop := R.length = 16 ∧ ∀ f ∈ R, OkF f
theorem OkR.rg {R : List Fm} (h : OkR R) (i : Int) : OkF (rgF R i) := by
  unfold rgF
  rw [List.getD]
  rcases e : R[i.toNat]? with _ | f
  · exact okF_fz
  · exact h.2 f (List.mem_of_getElem? e)
theorem OkR.set {R : List Fm} (h : OkR R) (i : Nat) {f : Fm} (hf : OkF f) : OkR (R.set i f) := ⟨by simpa using h.1, fun g hg => by
  rcases List.mem_or_eq_of_mem_set hg with q | q
  · exact h.2 g q
  · rw [q]; exact hf⟩
theorem OkR.pass {R : List Fm} (h : OkR R) (x : In) : OkR (passF R x) := by
  unfold passF
  repeat' split
  all_goals first | exact h | exact h.set _ (okF_kept _ _) | exact h.set _ (h.rg _) | exact h.set _ (okF_one _ _) | exact h.set _ (okF_two _ _ _) | exact h.set _ okF_fz
theorem okR_start : OkR startF := ⟨rfl, fun f hf => by
  unfold startF at hf
  simp at hf
  rcases hf with rfl | rfl | ⟨_, rfl⟩ <;> (unfold OkF; simp [fz])⟩
/-- the place of the first halt -/
def haltAt (l : List In) : Option Nat := l.findIdx? fun x => x.kind == 1
/-- what Accesses answers -/
def accessesF (l : List In) (cells : Int) : Option (List (Bool × Fm)) :=
  if (checkL l cells).2 = 0 then (match haltAt l with | some i => toldF startF (l.take i) | none => none) else none
end Go.Proofs.Ytcaefimnhoeimaa
