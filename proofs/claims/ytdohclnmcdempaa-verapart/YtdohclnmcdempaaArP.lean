/- An arena, without memory: which slots are free, in the order in which they go. -/
import Derived.WalkKit
namespace Go.Proofs.Ytdohclnmcdempaa
set_option linter.unusedVariables false

def useL (n F : Nat) (B : List Nat) : List Bool := (List.range n).map fun i => decide (i < F) && !decide (i ∈ B)
def freeL (n F : Nat) (B : List Nat) : List Nat := B.reverse ++ List.range' F (n - F)
structure OkA (n F : Nat) (B : List Nat) : Prop where
  n1 : 1 ≤ n
  n2 : n ≤ 512
  hF : F ≤ n
  nd : B.Nodup
  lt : ∀ b ∈ B, b < F
theorem nodup_len : ∀ (F : Nat) (B : List Nat), B.Nodup → (∀ b ∈ B, b < F) → B.length ≤ F
  | 0, B, _, h => by
    cases B with
    | nil => exact Nat.le_refl _
    | cons x l => exact absurd (h x (List.mem_cons_self ..)) (Nat.not_lt_zero _)
  | F + 1, B, nd, h => by
    by_cases hm : F ∈ B
    · have e := List.length_erase_of_mem hm
      have := nodup_len F (B.erase F) (nd.erase F) (fun b hb => by
        have h1 := (nd.mem_erase_iff).1 hb
        have h2 := h b h1.2
        have h3 := h1.1
        omega)
      omega
    · have := nodup_len F B nd (fun b hb => by
        have h2 := h b hb
        have h3 : b ≠ F := fun e => hm (e ▸ hb)
        omega)
      omega
theorem useL_len (n F : Nat) (B : List Nat) : (useL n F B).length = n := by simp [useL]
theorem useL_at (n F : Nat) (B : List Nat) (i : Nat) (h : i < n) (h2 : i < (useL n F B).length) : (useL n F B)[i] = (decide (i < F) && !decide (i ∈ B)) := by simp [useL]
theorem freeL_len {n F : Nat} {B : List Nat} (h : F ≤ n) : (freeL n F B).length = B.length + (n - F) := by simp [freeL]
theorem freeL_mem {n F : Nat} {B : List Nat} (h : OkA n F B) (i : Nat) : i ∈ freeL n F B ↔ i < n ∧ (F ≤ i ∨ i ∈ B) := by
  unfold freeL
  rw [List.mem_append, List.mem_reverse, List.mem_range'_1]
  have h1 := h.hF
  constructor
  · rintro (q | q)
    · have := h.lt i q; exact ⟨by omega, .inr q⟩
    · exact ⟨by omega, .inl q.1⟩
  · rintro ⟨q, r | r⟩
    · exact .inr ⟨r, by omega⟩
    · exact .inl r
theorem useL_free {n F : Nat} {B : List Nat} (h : OkA n F B) (i : Nat) (hi : i < n) (h2 : i < (useL n F B).length) : (useL n F B)[i] = !decide (i ∈ freeL n F B) := by
  rw [useL_at n F B i hi h2]
  have := freeL_mem h i
  by_cases q : i ∈ freeL n F B
  · have r := this.1 q
    rw [decide_eq_true q]
    rcases r.2 with r | r
    · rw [decide_eq_false (by omega)]; rfl
    · rw [decide_eq_true r]; simp
  · have r1 : ¬ F ≤ i := fun x => q (this.2 ⟨hi, .inl x⟩)
    have r2 : ¬ i ∈ B := fun x => q (this.2 ⟨hi, .inr x⟩)
    rw [decide_eq_false q, decide_eq_false r2, decide_eq_true (by omega : i < F)]; rfl
theorem useL_ext {n F F' : Nat} {B B' : List Nat} (s : Nat) (z : Bool) (h : ∀ i, i < n → i ≠ s → (decide (i < F) && !decide (i ∈ B)) = (decide (i < F') && !decide (i ∈ B'))) (hs : s < n → (decide (s < F') && !decide (s ∈ B')) = z) : (useL n F B).set s z = useL n F' B' := by
  apply List.ext_getElem (by simp [useL])
  intro i h1 h2
  have hi : i < n := by rw [useL_len] at h2; exact h2
  rw [useL_at n F' B' i hi h2, List.getElem_set]
  split
  · rename_i e; subst e; exact (hs hi).symm
  · rename_i e
    rw [useL_at n F B i hi (by rw [useL_len]; exact hi)]
    exact h i hi (fun q => e q.symm)
/-- the one that was taken back last goes -/
theorem OkA.pop {n F : Nat} {B : List Nat} {x : Nat} (h : OkA n F (B ++ [x])) : OkA n F B ∧ x < n ∧ (useL n F (B ++ [x])).set x true = useL n F B ∧ freeL n F (B ++ [x]) = x :: freeL n F B := by
  have hx : x < F := h.lt x (by simp)
  have hn : x ∉ B := fun q => by
    have := (List.nodup_append.1 h.nd).2.2 x q x (by simp)
    exact this rfl
  have h1 := h.hF
  refine ⟨⟨h.n1, h.n2, h.hF, (List.nodup_append.1 h.nd).1, fun b hb => h.lt b (by simp [hb])⟩, by omega, ?_, by simp [freeL]⟩
  refine useL_ext x true (fun i hi hne => ?_) (fun _ => ?_)
  · simp [hne]
  · simp [hn, hx]
/-- the least one that never was given out goes -/
theorem OkA.fresh {n F : Nat} (h : OkA n F []) (hf : F < n) : OkA n (F + 1) [] ∧ (useL n F []).set F true = useL n (F + 1) [] ∧ freeL n F [] = F :: freeL n (F + 1) [] := by
  refine ⟨⟨h.n1, h.n2, hf, List.nodup_nil, fun b hb => absurd hb (by simp)⟩, ?_, ?_⟩
  · refine useL_ext F true (fun i hi hne => ?_) (fun _ => ?_)
    · have : (i < F) = (i < F + 1) := by apply propext; omega
      simp [this]
    · simp
  · unfold freeL
    have : n - F = (n - (F + 1)) + 1 := by omega
    rw [this, List.range'_succ]
    simp
/-- one comes back -/
theorem OkA.back {n F : Nat} {B : List Nat} (h : OkA n F B) {s : Nat} (hs : s < n) (hn : s ∉ freeL n F B) : OkA n F (B ++ [s]) ∧ (useL n F B).set s false = useL n F (B ++ [s]) ∧ freeL n F (B ++ [s]) = s :: freeL n F B := by
  have hm := freeL_mem h s
  have r1 : ¬ F ≤ s := fun x => hn (hm.2 ⟨hs, .inl x⟩)
  have r2 : ¬ s ∈ B := fun x => hn (hm.2 ⟨hs, .inr x⟩)
  refine ⟨⟨h.n1, h.n2, h.hF, ?_, fun b hb => ?_⟩, ?_, by simp [freeL]⟩
  · rw [List.nodup_append]
    refine ⟨h.nd, by simp, fun a ha b hb => ?_⟩
    rw [List.mem_singleton.1 hb]
    exact fun e => r2 (e ▸ ha)
  · rcases List.mem_append.1 hb with q | q
    · exact h.lt b q
    · rw [List.mem_singleton.1 q]; omega
  · refine useL_ext s false (fun i hi hne => ?_) (fun _ => ?_)
    · simp [hne]
    · simp
theorem OkA.first {n : Nat} (h1 : 1 ≤ n) (h2 : n ≤ 512) : OkA n 0 [] ∧ useL n 0 [] = List.replicate n false ∧ freeL n 0 [] = List.range n := by
  refine ⟨⟨h1, h2, Nat.zero_le _, List.nodup_nil, fun b hb => absurd hb (by simp)⟩, ?_, ?_⟩
  · apply List.ext_getElem (by simp [useL])
    intro i h3 h4
    simp [useL]
  · simp [freeL, List.range_eq_range']
theorem OkA.free_nodup {n F : Nat} {B : List Nat} (h : OkA n F B) : (freeL n F B).Nodup := by
  unfold freeL
  rw [List.nodup_append]
  refine ⟨List.pairwise_reverse.2 (List.Pairwise.imp (fun q => Ne.symm q) h.nd), List.nodup_range', fun a ha b hb e => ?_⟩
  have := h.lt a (List.mem_reverse.1 ha)
  have := (List.mem_range'_1.1 hb).1
  omega
/-- free slots as they are told, one list -/
structure OkL (n : Nat) (L : List Nat) : Prop where
  n1 : 1 ≤ n
  n2 : n ≤ 512
  nd : L.Nodup
  lt : ∀ x ∈ L, x < n
theorem OkL.len {n : Nat} {L : List Nat} (h : OkL n L) : L.length ≤ n := nodup_len n L h.nd h.lt
theorem OkA.okL {n F : Nat} {B : List Nat} (h : OkA n F B) : OkL n (freeL n F B) := ⟨h.n1, h.n2, h.free_nodup, fun x hx => ((freeL_mem h x).1 hx).1⟩
def usedB (n : Nat) (L : List Nat) (s : Int) : Bool := decide (0 ≤ s ∧ s < n ∧ s.toNat ∉ L)
def backL (n : Nat) (L : List Nat) (s : Int) : List Nat := if usedB n L s then s.toNat :: L else L
theorem OkL.tail {n : Nat} {L : List Nat} (h : OkL n L) : OkL n L.tail := ⟨h.n1, h.n2, h.nd.sublist (List.tail_sublist L), fun x hx => h.lt x (List.mem_of_mem_tail hx)⟩
theorem usedB_nat {n : Nat} {L : List Nat} (s : Nat) : usedB n L (s : Int) = decide (s < n ∧ s ∉ L) := by
  unfold usedB
  apply decide_eq_decide.2
  simp
theorem OkL.back {n : Nat} {L : List Nat} (h : OkL n L) (s : Int) : OkL n (backL n L s) := by
  unfold backL
  split
  · rename_i q
    have q := of_decide_eq_true q
    exact ⟨h.n1, h.n2, List.nodup_cons.2 ⟨q.2.2, h.nd⟩, fun x hx => by
      rcases List.mem_cons.1 hx with e | e
      · subst e; have := q.1; have := q.2.1; omega
      · exact h.lt x e⟩
  · exact h
end Go.Proofs.Ytdohclnmcdempaa
