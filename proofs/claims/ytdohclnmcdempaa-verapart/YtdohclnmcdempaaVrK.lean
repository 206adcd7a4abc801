/- How many words an age has versions of, and how many versions there are. -/
import Derived.Test.YtdohclnmcdempaaVrH
namespace Go.Proofs.Ytdohclnmcdempaa
open Go.RowKit Go.Maps
set_option linter.unusedVariables false

theorem hasK_putK {k : Ch2} (hs : srt k) (a v b : Int) : hasK (putK k a v) b = (decide (b = a) || hasK k b) := by
  apply Bool.eq_iff_iff.2
  rw [hasK_iff (srt_putK hs a v), Bool.or_eq_true, decide_eq_true_iff, hasK_iff hs]
  constructor
  · rintro ⟨u, hu⟩
    rcases (mem_putK hs a v _).1 hu with q | q
    · injection q with q1 q2; exact .inl q1
    · exact .inr ⟨u, q.2⟩
  · rintro (rfl | ⟨u, hu⟩)
    · exact ⟨v, (mem_putK hs b v _).2 (.inl rfl)⟩
    · by_cases e : b = a
      · subst e; exact ⟨v, (mem_putK hs b v _).2 (.inl rfl)⟩
      · exact ⟨u, (mem_putK hs a v _).2 (.inr ⟨e, hu⟩)⟩
theorem hasK_dropK {k : Ch2} (hs : srt k) (a b : Int) : hasK (dropK k a) b = (!decide (b = a) && hasK k b) := by
  apply Bool.eq_iff_iff.2
  rw [hasK_iff (srt_dropK hs a), Bool.and_eq_true, hasK_iff hs]
  constructor
  · rintro ⟨u, hu⟩
    have := (mem_dropK hs a _).1 hu
    exact ⟨by simpa using this.1, u, this.2⟩
  · rintro ⟨h1, u, hu⟩
    exact ⟨u, (mem_dropK hs a _).2 ⟨by simpa using h1, hu⟩⟩
/-- a count over a row in which one thing is turned -/
theorem cnt_upd (f g : Nat → Bool) (i : Nat) : ∀ (l : List Nat), l.Nodup → i ∈ l → (∀ j, j ≠ i → f j = g j) → (l.filter f).length + (if g i then 1 else 0) = (l.filter g).length + (if f i then 1 else 0)
  | [], _, h, _ => absurd h (by simp)
  | x :: l, nd, h, hfg => by
    have hn := List.nodup_cons.1 nd
    by_cases e : x = i
    · subst e
      have hl : l.filter f = l.filter g := List.filter_congr (fun j hj => hfg j (fun q => hn.1 (q ▸ hj)))
      rw [List.filter_cons, List.filter_cons, hl]
      cases f x <;> cases g x <;> simp
    · have hi : i ∈ l := by
        rcases List.mem_cons.1 h with q | q
        · exact absurd q.symm e
        · exact q
      have ih := cnt_upd f g i l hn.2 hi hfg
      rw [List.filter_cons, List.filter_cons, hfg x e]
      cases g x <;> simp <;> omega
theorem manyK_set (W : Nat) (K : Nat → Ch2) (i : Nat) (hi : i < W) (k : Ch2) (a : Int) : manyK W (setF K i k) a + (if hasK (K i) a then 1 else 0) = manyK W K a + (if hasK k a then 1 else 0) := by
  have := cnt_upd (fun j => hasK (setF K i k j) a) (fun j => hasK (K j) a) i (List.range W) List.nodup_range (List.mem_range.2 hi) (fun j hj => by simp [setF, hj])
  simp only [setF, if_true] at this
  exact this
theorem manyK_le (W : Nat) (K : Nat → Ch2) (a : Int) : manyK W K a ≤ W := by
  unfold manyK
  have := List.length_filter_le (fun i => hasK (K i) a) (List.range W)
  simpa using this
def totK (W : Nat) (K : Nat → Ch2) : Nat := ((List.range W).map fun i => (K i).length).sum
theorem tot_kf : ∀ (C : List (List Nat)) (H : Ch2), tot C = totK C.length (kf H C)
  | [], _ => rfl
  | x :: C, H => by
    have ih := tot_kf C H
    unfold totK at *
    rw [List.length_cons, List.range_succ_eq_map, List.map_cons, List.map_map, List.sum_cons]
    have e : (fun i => ((kf H (x :: C)) i).length) ∘ Nat.succ = fun i => ((kf H C) i).length := by
      funext i
      simp [kf, kc, cc]
    rw [e]
    simp only [tot, List.map_cons, List.sum_cons] at *
    rw [ih]
    simp [kf, kc, cc]
theorem keyLit (a : Int) : WideAt.IsKeyLit (klit a) := by
  first
    | exact WideAt.isKeyLit_int _ _
    | (unfold WideAt.IsKeyLit klit; simp)
    | trivial
theorem klit_ne {a b : Int} (h : a ≠ b) : klit a ≠ klit b := fun e => h (by unfold klit at e; injection e)
/-- the map behind one more -/
theorem MD.put {D : M1} {f : Int → Nat} (h : MD D f) (hD : IsMap D) (a : Int) (g : Int → Nat) (c : Nat) (hc : g a = c) (h0 : c ≠ 0) (hg : ∀ b, b ≠ a → g b = f b) : MD (D.put (klit a) (i64d c)) g := by
  intro b hb
  by_cases e : b = a
  · subst e
    rw [atKey_put_same hD (keyLit b), has_put_same hD (keyLit b), hc]
    exact ⟨rfl, by simp [h0]⟩
  · rw [atKey_put_other (klit_ne e), has_put_other (klit_ne e), hg b e]
    exact h b hb
theorem MD.del {D : M1} {f : Int → Nat} (h : MD D f) (a : Int) (g : Int → Nat) (h0 : g a = 0) (hg : ∀ b, b ≠ a → g b = f b) : MD (D.del (klit a)) g := by
  intro b hb
  by_cases e : b = a
  · subst e
    rw [atKey_del_same, has_del_same, h0]
    exact ⟨rfl, rfl⟩
  · rw [atKey_del_other (klit_ne e), has_del_other (klit_ne e), hg b e]
    exact h b hb
theorem manyK_zero {W : Nat} {K : Nat → Ch2} {a : Int} (h : ∀ i, i < W → hasK (K i) a = false) : manyK W K a = 0 := by
  unfold manyK
  rw [List.filter_eq_nil_iff.2 (fun i hi => by rw [h i (List.mem_range.1 hi)]; simp)]
  rfl
end Go.Proofs.Ytdohclnmcdempaa
