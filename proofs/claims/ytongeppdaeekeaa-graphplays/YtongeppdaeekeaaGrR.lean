/- Plain: edges in their order. -/
import Derived.Test.YtongeppdaeekeaaGrQ
namespace Go.Proofs.Ytongeppdaeekeaa
set_option linter.unusedVariables false

def cmpI (a b : Int) : Int := if a < b then -1 else if b < a then 1 else 0
theorem cmp_lt {x a : Int} (h : x < a) : cmpI x a = -1 := by unfold cmpI; rw [if_pos h]
theorem cmp_eq {a : Int} : cmpI a a = 0 := by unfold cmpI; rw [if_neg (Int.lt_irrefl a), if_neg (Int.lt_irrefl a)]
theorem cmp_gt {x a : Int} (h : a < x) : cmpI x a = 1 := by unfold cmpI; rw [if_neg (by omega), if_pos h]
/-- by writers, then by readers -/
def eLt (a b : Int × Int) : Prop := a.2 < b.2 ∨ (a.2 = b.2 ∧ a.1 < b.1)
instance (a b : Int × Int) : Decidable (eLt a b) := by unfold eLt; infer_instance
def ordI (a b : Int × Int) : Int := if cmpI a.2 b.2 ≠ 0 then cmpI a.2 b.2 else cmpI a.1 b.1
theorem ord_lt {a b : Int × Int} (h : eLt a b) : ordI a b = -1 := by
  unfold ordI
  rcases h with h | ⟨h, h2⟩
  · rw [cmp_lt h, if_pos (by decide)]
  · rw [h, cmp_eq, if_neg (by decide), cmp_lt h2]
theorem ord_eq {a : Int × Int} : ordI a a = 0 := by unfold ordI; rw [cmp_eq, if_neg (by decide), cmp_eq]
theorem ord_gt {a b : Int × Int} (h : eLt b a) : ordI a b = 1 := by
  unfold ordI
  rcases h with h | ⟨h, h2⟩
  · rw [cmp_gt h, if_pos (by decide)]
  · rw [h, cmp_eq, if_neg (by decide), cmp_gt h2]
theorem eLt_trans {a b c : Int × Int} (h : eLt a b) (k : eLt b c) : eLt a c := by unfold eLt at *; omega
theorem eLt_irrefl (a : Int × Int) : ¬ eLt a a := by unfold eLt; omega
theorem eLt_or (a b : Int × Int) : eLt a b ∨ a = b ∨ eLt b a := by
  obtain ⟨a1, a2⟩ := a
  obtain ⟨b1, b2⟩ := b
  unfold eLt
  simp only [Prod.mk.injEq]
  omega
def srtE (E : Ed) : Prop := E.Pairwise eLt
/-- where one stands, or would stand -/
def plE (E : Ed) (x : Int × Int) : Nat := E.findIdx (fun z => decide (¬ eLt z x))
def hasE (E : Ed) (x : Int × Int) : Bool := decide (x ∈ E)
theorem pl_is (E : Ed) (x : Int × Int) (p : Nat) (hp : p ≤ E.length) (h1 : ∀ i (h : i < E.length), i < p → eLt E[i] x) (h2 : ∀ i (h : i < E.length), p ≤ i → ¬ eLt E[i] x) : plE E x = p := by
  unfold plE
  rcases Nat.lt_or_ge p E.length with r | r
  · rw [List.findIdx_eq r]
    exact ⟨by simp [h2 p r (Nat.le_refl _)], fun j hj => by simp [h1 j (by omega) hj]⟩
  · have : p = E.length := by omega
    subst this
    rw [List.findIdx_eq_length]
    intro z hz
    obtain ⟨i, hi, rfl⟩ := List.getElem_of_mem hz
    simp [h1 i hi hi]
theorem plE_le (E : Ed) (x : Int × Int) : plE E x ≤ E.length := List.findIdx_le_length
theorem plE_lt (E : Ed) (x : Int × Int) (i : Nat) (h : i < E.length) (hi : i < plE E x) : eLt E[i] x := by
  have := List.not_of_lt_findIdx hi
  simpa using this
theorem plE_ge {E : Ed} (hs : srtE E) (x : Int × Int) (i : Nat) (h : i < E.length) (hi : plE E x ≤ i) : ¬ eLt E[i] x := by
  have hl : plE E x < E.length := by omega
  have h0 := List.findIdx_getElem (w := hl)
  have h1 : ¬ eLt (E[plE E x]'hl) x := of_decide_eq_true h0
  rcases Nat.lt_or_ge (plE E x) i with r | r
  · have := (List.pairwise_iff_getElem.1 hs) _ _ hl h r
    exact fun q => h1 (eLt_trans this q)
  · have : plE E x = i := by omega
    subst this
    exact h1
theorem has_at {E : Ed} (hs : srtE E) (x : Int × Int) (p : Nat) (hp : p < E.length) (h : plE E x = p) : hasE E x = decide (E[p] = x) := by
  unfold hasE
  by_cases e : E[p] = x
  · rw [decide_eq_true e, decide_eq_true (by rw [← e]; exact List.getElem_mem _)]
  · rw [decide_eq_false e, decide_eq_false]
    intro hm
    obtain ⟨i, hi, hx⟩ := List.getElem_of_mem hm
    rcases Nat.lt_trichotomy i p with r | r | r
    · have := plE_lt E x i hi (by omega)
      rw [hx] at this
      exact eLt_irrefl _ this
    · subst r; exact e hx
    · have h1 := (List.pairwise_iff_getElem.1 hs) p i hp hi r
      rw [hx] at h1
      exact plE_ge hs x p hp (by omega) h1
theorem has_no {E : Ed} (x : Int × Int) (h : plE E x = E.length) : hasE E x = false := by
  unfold hasE
  rw [decide_eq_false]
  intro hm
  obtain ⟨i, hi, hx⟩ := List.getElem_of_mem hm
  have := plE_lt E x i hi (by omega)
  rw [hx] at this
  exact eLt_irrefl _ this
/-- one more -/
def insE (E : Ed) (x : Int × Int) : Ed := E.take (plE E x) ++ x :: E.drop (plE E x)
theorem insE_len (E : Ed) (x : Int × Int) : (insE E x).length = E.length + 1 := by
  have := plE_le E x
  unfold insE
  simp only [List.length_append, List.length_take, List.length_cons, List.length_drop]
  omega
theorem mem_insE {E : Ed} {x z : Int × Int} : z ∈ insE E x ↔ z = x ∨ z ∈ E := by
  unfold insE
  rw [List.mem_append, List.mem_cons]
  have h : z ∈ E ↔ z ∈ E.take (plE E x) ∨ z ∈ E.drop (plE E x) := by rw [← List.mem_append, List.take_append_drop]
  rw [h]
  constructor
  · rintro (q | q | q)
    · exact .inr (.inl q)
    · exact .inl q
    · exact .inr (.inr q)
  · rintro (q | q | q)
    · exact .inr (.inl q)
    · exact .inl q
    · exact .inr (.inr q)
theorem insE_srt {E : Ed} (hs : srtE E) (x : Int × Int) (hx : x ∉ E) : srtE (insE E x) := by
  unfold insE srtE
  rw [List.pairwise_append]
  refine ⟨hs.take, ?_, fun a ha b hb => ?_⟩
  · rw [List.pairwise_cons]
    refine ⟨fun b hb => ?_, hs.drop⟩
    obtain ⟨i, hi, rfl⟩ := List.getElem_of_mem hb
    rw [List.getElem_drop]
    have hi' : plE E x + i < E.length := by rw [List.length_drop] at hi; omega
    have h1 := plE_ge hs x (plE E x + i) hi' (by omega)
    rcases eLt_or E[plE E x + i] x with r | r | r
    · exact absurd r h1
    · exact absurd (by rw [← r]; exact List.getElem_mem _) hx
    · exact r
  · obtain ⟨i, hi, rfl⟩ := List.getElem_of_mem ha
    rw [List.length_take] at hi
    rw [List.getElem_take]
    have h1 := plE_lt E x i (by omega) (by omega)
    rcases List.mem_cons.1 hb with rfl | hb
    · exact h1
    · obtain ⟨k, hk, rfl⟩ := List.getElem_of_mem hb
      rw [List.length_drop] at hk
      rw [List.getElem_drop]
      exact (List.pairwise_iff_getElem.1 hs) i (plE E x + k) (by omega) (by omega) (by omega)
end Go.Proofs.Ytongeppdaeekeaa
