/- A name declared behind all, and asked for at once: plain facts; rows of statements copied. -/
import Derived.Test.YtiafdlebggegfabStmt
namespace Go.Proofs.Ytiafdlebggegfab
open Go.RowKit Go.Maps Go.WideMaps
set_option linter.unusedVariables false

/-- registers lie where they may -/
def InT (T : Tab) : Prop := ∀ x ∈ T, 0 ≤ x.2 ∧ x.2 < 11
def InO (o : List Int) : Prop := ∀ r ∈ o, 0 ≤ r ∧ r < 11
theorem InT.find {T : Tab} (h : InT T) {s : List UInt8} {r : Int} (hf : find T s = some r) : 0 ≤ r ∧ r < 11 := by
  unfold Go.Proofs.Ytiafdlebggegfab.find at hf
  rcases e : T.find? (fun x => x.1 == s) with _ | x
  · rw [e] at hf; cases hf
  · rw [e] at hf
    cases hf
    exact h x (List.mem_of_find?_eq_some e)
theorem InO.snoc {o : List Int} (h : InO o) {r : Int} (hr : 0 ≤ r ∧ r < 11) : InO (o ++ [r]) := by
  intro x hx
  rcases List.mem_append.1 hx with hx | hx
  · exact h x hx
  · simp at hx; subst hx; exact hr
theorem useL_in {T : Tab} (hT : InT T) : ∀ (l : EL) (o p : List Int), InO o → useL T l o = some p → InO p := by
  intro l
  induction l with
  | nil => intro o p ho h; cases h; exact ho
  | cons k n s op a r iha ihr =>
    intro o p ho h
    rw [useL_cons] at h
    rcases h1 : useE T k s a o with _ | q
    · rw [h1] at h; cases h
    · rw [h1] at h
      refine ihr q p ?_ h
      unfold useE at h1
      split at h1
      · rcases hf : find T s.data.toList with _ | g
        · rw [hf] at h1; cases h1
        · rw [hf] at h1
          simp at h1
          subst h1
          exact ho.snoc (hT.find hf)
      · exact iha o q ho h1
theorem useS_in {st st1 : Sta} {a : EL} (hT : InT st.T) (ho : InO st.out) (h : useS st a = .ok st1) : InT st1.T ∧ InO st1.out := by
  unfold useS at h
  rcases h1 : useL st.T a st.out with _ | o
  · rw [h1] at h; cases h
  · rw [h1] at h; cases h
    exact ⟨hT, useL_in hT _ _ _ ho h1⟩
theorem ownS_in {cells k : Int} {s : ByteArray} {c : Int} {st st1 : Sta} (hT : InT st.T) (ho : InO st.out) (h : ownS cells k s c st = .ok st1) : InT st1.T ∧ InO st1.out := by
  unfold ownS at h
  split at h
  · split at h
    · cases h
    · split at h
      · cases h
      · rename_i hl
        cases h
        have hr : 0 ≤ (st.T.length : Int) ∧ (st.T.length : Int) < 11 := by omega
        refine ⟨?_, ho.snoc hr⟩
        intro x hx
        rcases List.mem_append.1 hx with hx | hx
        · exact hT x hx
        · simp at hx; subst hx; exact hr
  · split at h
    · split at h
      · rename_i r hf
        cases h; exact ⟨hT, ho.snoc (hT.find hf)⟩
      · cases h
    · split at h
      · split at h
        · cases h
        · cases h; exact ⟨hT, ho⟩
      · cases h; exact ⟨hT, ho⟩
theorem runL_in (cells : Int) : ∀ (l : SL) (st st1 : Sta), InT st.T → InO st.out → runL cells l st = .ok st1 → InT st1.T ∧ InO st1.out := by
  intro l
  induction l with
  | nil => intro st st1 hT ho h; cases h; exact ⟨hT, ho⟩
  | cons k s c a b e r ihb ihe ihr =>
    intro st st1 hT ho h
    rw [runL_cons] at h
    obtain ⟨s4, h4, h5⟩ := andThen_ok h
    unfold runS at h4
    obtain ⟨s3, h3, h4⟩ := andThen_ok h4
    obtain ⟨s2, h2, h3⟩ := andThen_ok h3
    obtain ⟨s1, h1, h2⟩ := andThen_ok h2
    obtain ⟨t1, o1⟩ := useS_in hT ho h1
    obtain ⟨t2, o2⟩ := ownS_in t1 o1 h2
    obtain ⟨s3', h3', rfl⟩ := shut_ok h3
    have o3 := (ihb _ _ t2 o2 h3').2
    obtain ⟨s4', h4', rfl⟩ := shut_ok h4
    have o4 := (ihe ⟨s2.T, s3'.out, s3'.most⟩ _ t2 o3 h4').2
    exact ihr ⟨s2.T, s4'.out, s4'.most⟩ _ t2 o4 h5
theorem slots_in {l : SL} {cells : Int} {st : Sta} (h : slots l cells = .ok st) : InO st.out := by
  obtain ⟨s1, e1, rfl⟩ := shut_ok h
  exact (runL_in cells l _ _ (by intro x hx; simp [st0] at hx; rcases hx with rfl | rfl | rfl <;> decide) (by intro r hr; cases hr) e1).2

/-- the two statements behind -/
def twoS (s : ByteArray) : SL := .cons 1 s 0 (.cons 1 0 ⟨#[]⟩ 0 .nil .nil) .nil .nil (.cons 4 ⟨#[]⟩ 0 (.cons 2 0 s 0 .nil .nil) .nil .nil .nil)
theorem find_snoc' (T : Tab) (s : List UInt8) (r : Int) (h : find T s = none) : find (T ++ [(s, r)]) s = some r := by
  unfold find at h ⊢
  rw [List.find?_append]
  rw [Option.map_eq_none_iff] at h
  rw [h]
  simp
theorem two_run (cells : Int) (s : ByteArray) (st : Sta) : runL cells (twoS s) st = match find st.T s.data.toList with
    | some _ => .err 61
    | none => if 11 ≤ st.T.length then .err 62 else .ok ⟨st.T ++ [(s.data.toList, (st.T.length : Int))], st.out ++ [(st.T.length : Int)] ++ [(st.T.length : Int)], max st.most ((st.T.length : Int) - 3 + 1)⟩ := by
  unfold twoS
  rw [runL_cons]
  unfold runS
  have e1 : useS st (.cons 1 0 ⟨#[]⟩ 0 .nil .nil) = .ok st := rfl
  rw [e1]
  show (((((ownS cells 1 s 0 st).andThen _)).andThen _).andThen _) = _
  unfold ownS
  rw [if_pos rfl]
  rcases hf : find st.T s.data.toList with _ | r
  · dsimp only
    by_cases h : 11 ≤ st.T.length
    · rw [if_pos h, if_pos h]; rfl
    · rw [if_neg h, if_neg h]
      show runL cells (.cons 4 ⟨#[]⟩ 0 (.cons 2 0 s 0 .nil .nil) .nil .nil .nil) ⟨st.T ++ [(s.data.toList, (st.T.length : Int))], st.out ++ [(st.T.length : Int)], max st.most ((st.T.length : Int) - 3 + 1)⟩ = _
      rw [runL_cons]
      unfold runS
      have e2 : useS ⟨st.T ++ [(s.data.toList, (st.T.length : Int))], st.out ++ [(st.T.length : Int)], max st.most ((st.T.length : Int) - 3 + 1)⟩ (.cons 2 0 s 0 .nil .nil) = .ok ⟨st.T ++ [(s.data.toList, (st.T.length : Int))], st.out ++ [(st.T.length : Int)] ++ [(st.T.length : Int)], max st.most ((st.T.length : Int) - 3 + 1)⟩ := by
        unfold useS
        rw [useL_cons]
        unfold useE
        rw [if_pos rfl, find_snoc' _ _ _ hf]
        rfl
      rw [e2]
      rfl
  · rfl
theorem slots_two {l : SL} {cells : Int} {s : ByteArray} {st : Sta} (h : slots l cells = .ok st) : slots (l.app (twoS s)) cells = .err 61 ∨ slots (l.app (twoS s)) cells = .err 62 ∨ ∃ (r m : Int), 3 ≤ r ∧ slots (l.app (twoS s)) cells = .ok ⟨st0.T, st.out ++ [r, r], m⟩ := by
  obtain ⟨s1, e1, rfl⟩ := shut_ok h
  have g := runL_good cells l _ _ good0 e1
  have e2 : slots (l.app (twoS s)) cells = (runL cells (twoS s) s1).shut st0.T := by
    unfold slots
    rw [runL_app, e1]
    rfl
  rw [e2, two_run]
  rcases hf : find s1.T s.data.toList with _ | r
  · dsimp only
    by_cases h : 11 ≤ s1.T.length
    · rw [if_pos h]; right; left; rfl
    · rw [if_neg h]
      right; right
      exact ⟨(s1.T.length : Int), max s1.most ((s1.T.length : Int) - 3 + 1), by have := g.lo; omega, by show Res.ok ⟨st0.T, s1.out ++ [(s1.T.length : Int)] ++ [(s1.T.length : Int)], _⟩ = _; rw [List.append_assoc]; rfl⟩
  · left; rfl

/-- statements copied with all that they hold -/
theorem SAt.cells {w : World} : ∀ {l : SL} {b o : Nat}, SAt w l b o → ∃ vs : List Value, vs.length = l.len * 6 ∧ (∀ j u, vs[j]? = some u → w.cell? ⟨b, o + j, none⟩ = some u) ∧ (∀ u ∈ vs, u.oneCell' = true) ∧
    ∀ (w' : World) (b' o' : Nat) (z : SL), Below w.heap.size w w' → (∀ j u, vs[j]? = some u → w'.cell? ⟨b', o' + j, none⟩ = some u) → SAt w' z b' (o' + l.len * 6) → SAt w' (l.app z) b' o' := by
  intro l
  induction l with
  | nil =>
    intro b o _
    exact ⟨[], rfl, fun j u h => by simp at h, fun u h => by simp at h, fun w' b' o' z _ _ hz => by simpa [SL.len, SL.app] using hz⟩
  | cons k s c a d e r ihd ihe ihr =>
    intro b o ⟨h1, h2, h3, h4, ⟨v, h5, h5'⟩, ⟨ad, cap, b1, o1, g1, g2, g3, g4, g5⟩, ⟨ad', cap', b2, o2, f1, f2, f3, f4, f5⟩, h7⟩
    obtain ⟨vs, l1, c1, n1, k1⟩ := ihr h7
    have hv : v.oneCell' = true := by obtain ⟨_, _, _, _, rfl, _⟩ := h5'; rfl
    refine ⟨.int .i64 k :: .string s :: .int .i64 c :: v :: .slice ad d.len cap :: .slice ad' e.len cap' :: vs, by simp only [List.length_cons, SL.len, l1]; omega, ?_, ?_, ?_⟩
    · intro j u hj
      match j, hj with
      | 0, hj => cases hj; exact h1
      | 1, hj => cases hj; exact h2
      | 2, hj => cases hj; exact h3
      | 3, hj => cases hj; exact h5
      | 4, hj => cases hj; exact g1
      | 5, hj => cases hj; exact f1
      | j + 6, hj => have := c1 j u hj; rw [show o + (j + 6) = o + 6 + j by omega]; exact this
    · intro u hu
      simp only [List.mem_cons] at hu
      rcases hu with rfl | rfl | rfl | rfl | rfl | rfl | hu
      · rfl
      · rfl
      · rfl
      · exact hv
      · rfl
      · rfl
      · exact n1 u hu
    · intro w' b' o' z hb hc hz
      have q := fun j u h => hc j u h
      refine ⟨by simpa using hc 0 _ rfl, hc 1 _ rfl, hc 2 _ rfl, h4, ⟨v, hc 3 _ rfl, h5'.below hb⟩, ⟨ad, cap, b1, o1, hc 4 _ rfl, g2, g3, g4, g5.below hb⟩, ⟨ad', cap', b2, o2, hc 5 _ rfl, f2, f3, f4, f5.below hb⟩, ?_⟩
      refine k1 w' b' (o' + 6) z hb (fun j u hj => ?_) ?_
      · have := hc (j + 6) u hj
        rw [show o' + 6 + j = o' + (j + 6) by omega]; exact this
      · rw [show o' + 6 + r.len * 6 = o' + (SL.cons k s c a d e r).len * 6 by simp only [SL.len]; omega]; exact hz
end Go.Proofs.Ytiafdlebggegfab
