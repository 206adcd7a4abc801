/- Copies of expressions and statements: how a row lies that was put together anew. -/
import Derived.Test.YtnofibjchhcmeabDoorNd
namespace Go.Proofs.YtnofibjchhcmeabDoor
open Go.RowKit Go.Maps
set_option linter.unusedVariables false

def toPE : EL → List PE
  | .leaf => []
  | .inner _ (k, n, s, p) _ a r => ⟨k, n, s, p, a, 0⟩ :: toPE r
theorem toPE_len (l : EL) : (toPE l).length = elen l := by
  induction l with
  | leaf => rfl
  | inner i d v a r _ ih => obtain ⟨k, n, s, p⟩ := d; simp only [toPE, elen, List.length_cons, ih]
theorem EAt.of_row {w : World} {ok : Nat → Prop} (l : EL) : ∀ {b o : Nat}, EAt w ok (erow (toPE l)) b o → EAt w ok l b o := by
  induction l with
  | leaf => intro b o _; trivial
  | inner i d v a r _ ih =>
    obtain ⟨k, n, s, p⟩ := d
    intro b o ⟨h1, h2, h3, h4, h5, h6⟩
    exact ⟨h1, h2, h3, h4, h5, ih h6⟩
theorem ESlP.of_row {w : World} {ok : Nat → Prop} {v : Value} {l : EL} (h : ESlP w ok v (erow (toPE l))) : ESlP w ok v l := by
  obtain ⟨ad, cap, b, o, h1, h2, h3, h4, h5⟩ := h
  rw [elen_row, toPE_len] at h1 h2 h4
  exact ⟨ad, cap, b, o, h1, h2, h3, h4, h5.of_row⟩
def toPT : SL → List PT
  | .leaf => []
  | .inner _ (k, s, c, a) _ x r => ⟨k, s, c, a, slft x, srgt x⟩ :: toPT r
theorem toPT_len (l : SL) : (toPT l).length = slen l := by
  induction l with
  | leaf => rfl
  | inner i d v x r _ ih => obtain ⟨k, s, c, a⟩ := d; simp only [toPT, slen, List.length_cons, ih]
theorem SAt.of_row {w : World} {ok : Nat → Prop} (l : SL) : ∀ {b o : Nat}, SAt w ok (srow (toPT l)) b o → SAt w ok l b o := by
  induction l with
  | leaf => intro b o _; trivial
  | inner i d v x r _ ih =>
    obtain ⟨k, s, c, a⟩ := d
    intro b o h
    cases x with
    | leaf =>
      obtain ⟨h1, h2, h3, h4, ⟨ad, cap, b', o', f1, f2, f3, f4, f5⟩, ⟨ad', cap', b'', o'', g1, g2, g3, g4, g5⟩, hr⟩ := h
      exact ⟨h1, h2, h3, h4, ⟨ad, cap, f1, f3⟩, ⟨ad', cap', g1, g3⟩, ih hr⟩
    | inner j d' v' p q =>
      obtain ⟨h1, h2, h3, h4, h5, h6, hr⟩ := h
      exact ⟨h1, h2, h3, h4, h5, h6, ih hr⟩
theorem SSlP.of_row {w : World} {ok : Nat → Prop} {v : Value} {l : SL} (h : SSlP w ok v (srow (toPT l))) : SSlP w ok v l := by
  obtain ⟨ad, cap, b, o, h1, h2, h3, h4, h5⟩ := h
  rw [slen_row, toPT_len] at h1 h2 h4
  exact ⟨ad, cap, b, o, h1, h2, h3, h4, h5.of_row⟩

/-- expressions copied: a row of its own -/
def CEv (w' : World) (base : Nat) (l : EL) (v : Value) : Prop :=
  ∃ ys : List (PE × Value), ys.map (·.1) = toPE l ∧ XOwn w' base v (rxs ys) ∧ ∀ y ∈ ys, ESlP w' (fun j => base ≤ j ∧ some j ≠ v.ownBlock) y.2 y.1.args
theorem CEv.esl {w' : World} {base : Nat} {l : EL} {v : Value} (h : CEv w' base l v) : ESlP w' (fun j => base ≤ j) v l := by
  obtain ⟨ys, h1, h2, h3⟩ := h
  have := h2.esl (ok := fun j => base ≤ j) (fun k hk => hk) (fun y hy => (h3 y hy).mono fun j hj => hj.1)
  rw [h1] at this
  exact this.of_row
def CEP (w : World) (l : EL) (e : Ending) (w' : World) : Prop := ∃ v1 v2 v3, e = .returned (.slice v1 v2 v3) ∧ CEv w' w.heap.size l (.slice v1 v2 v3) ∧ Below w.heap.size w w'
/-- statements copied: rows of their own -/
def CSv (w' : World) (base : Nat) (l : SL) (v : Value) : Prop :=
  ∃ ys : List RT, ys.map (·.x) = toPT l ∧ SOwn w' base v ys ∧ ∀ y ∈ ys, TM w' (fun j => base ≤ j ∧ some j ≠ v.ownBlock) y
theorem CSv.ssl {w' : World} {base : Nat} {l : SL} {v : Value} (h : CSv w' base l v) : SSlP w' (fun j => base ≤ j) v l := by
  obtain ⟨ys, h1, h2, h3⟩ := h
  have := h2.ssl (ok := fun j => base ≤ j) (fun k hk => hk) (fun y hy => (h3 y hy).mono fun j hj => hj.1)
  rw [h1] at this
  exact this.of_row
end Go.Proofs.YtnofibjchhcmeabDoor
