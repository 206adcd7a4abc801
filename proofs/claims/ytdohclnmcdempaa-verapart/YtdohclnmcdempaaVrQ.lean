/- A store's slots, without memory: which versions lie where, and what becomes of them. -/
import Derived.Test.YtdohclnmcdempaaVrP
namespace Go.Proofs.Ytdohclnmcdempaa
set_option linter.unusedVariables false

def kc (H : Ch2) (c : List Nat) : Ch2 := c.map fun s => H.getD s (0, 0)
def cc (C : List (List Nat)) (i : Nat) : List Nat := C.getD i []
theorem kc_len (H : Ch2) (c : List Nat) : (kc H c).length = c.length := by simp [kc]
theorem kc_at (H : Ch2) (c : List Nat) (i : Nat) (h : i < (kc H c).length) (h2 : i < c.length) : (kc H c)[i] = H.getD c[i] (0, 0) := by simp [kc]
theorem kc_other {H : Ch2} {c : List Nat} {s : Nat} (h : s ∉ c) (x : Int × Int) : kc (H.set s x) c = kc H c := by
  unfold kc
  apply List.map_congr_left
  intro y hy
  have : s ≠ y := fun e => h (e ▸ hy)
  simp only [List.getD, List.getElem?_set_ne this]
theorem kc_same {H : Ch2} {s : Nat} (h : s < H.length) (x : Int × Int) : (H.set s x).getD s (0, 0) = x := by
  simp only [List.getD, List.getElem?_set_self h, Option.getD_some]
theorem kc_set {H : Ch2} {c : List Nat} (hn : c.Nodup) {p : Nat} (hp : p < c.length) (hs : c[p] < H.length) (x : Int × Int) : kc (H.set c[p] x) c = (kc H c).set p x := by
  apply List.ext_getElem (by simp [kc])
  intro i h1 h2
  have hi : i < c.length := by rw [kc_len] at h1; exact h1
  rw [kc_at _ _ _ _ hi, List.getElem_set]
  split
  · rename_i e; subst e; exact kc_same hs x
  · rename_i e
    have : c[p] ≠ c[i] := fun q => e ((List.getElem_inj hn).1 q)
    simp only [List.getD, List.getElem?_set_ne this]
    rw [kc_at _ _ _ _ hi]
    rfl
theorem kc_ins {H : Ch2} {c : List Nat} {s : Nat} (hn : s ∉ c) (hs : s < H.length) (p : Nat) (x : Int × Int) : kc (H.set s x) (c.take p ++ s :: c.drop p) = (kc H c).take p ++ x :: (kc H c).drop p := by
  have e := kc_other (H := H) hn x
  unfold kc at *
  rw [List.map_append, List.map_cons, List.map_take, List.map_drop, e, kc_same hs]
theorem kc_del (H : Ch2) (c : List Nat) (p : Nat) : kc H (c.take p ++ c.drop (p + 1)) = (kc H c).take p ++ (kc H c).drop (p + 1) := by
  unfold kc
  rw [List.map_append, List.map_take, List.map_drop]
theorem cc_set (C : List (List Nat)) (i : Nat) (c : List Nat) (h : i < C.length) (j : Nat) : cc (C.set i c) j = if j = i then c else cc C j := by
  unfold cc
  simp only [List.getD]
  split
  · rename_i e; subst e; rw [List.getElem?_set_self h]; rfl
  · rename_i e; rw [List.getElem?_set_ne (fun q => e q.symm)]
theorem cc_out {C : List (List Nat)} {i : Nat} (h : C.length ≤ i) : cc C i = [] := by
  unfold cc; simp only [List.getD]; rw [List.getElem?_eq_none h]; rfl
def tot (C : List (List Nat)) : Nat := (C.map List.length).sum
theorem tot_set : ∀ (C : List (List Nat)) (i : Nat) (c : List Nat), i < C.length → tot (C.set i c) + (cc C i).length = tot C + c.length
  | [], i, c, h => absurd h (Nat.not_lt_zero _)
  | x :: C, 0, c, h => by simp [tot, cc]; omega
  | x :: C, i + 1, c, h => by
    have := tot_set C i c (by simpa using h)
    simp [tot, cc] at *
    omega
structure OkS (R W : Nat) (L : List Nat) (H : Ch2) (C : List (List Nat)) : Prop where
  hH : H.length = R
  hC : C.length = W
  nd : ∀ i j, i ≠ j → ∀ s ∈ cc C i, s ∉ cc C j
  ndi : ∀ i, (cc C i).Nodup
  lt : ∀ i, ∀ s ∈ cc C i, s < R
  fr : ∀ i, ∀ s ∈ cc C i, s ∉ L
  st : ∀ i, srt (kc H (cc C i))
  ag : ∀ i, ∀ x ∈ kc H (cc C i), 0 ≤ x.1 ∧ x.1 ≤ 9223372036854775807
  cnt : tot C + L.length = R
theorem tot_nil (W : Nat) : tot (List.replicate W []) = 0 := by induction W with
  | zero => rfl
  | succ W ih => simp [tot, List.replicate_succ] at *
theorem cc_nil (W i : Nat) : cc (List.replicate W []) i = [] := by
  unfold cc; simp only [List.getD, List.getElem?_replicate]; split <;> rfl
theorem OkS.first (R W : Nat) : OkS R W (List.range R) (List.replicate R (0, 0)) (List.replicate W []) := by
  refine ⟨by simp, by simp, ?_, ?_, ?_, ?_, ?_, ?_, by rw [tot_nil]; simp⟩
  all_goals intros
  all_goals simp_all [cc_nil, kc, srt]
section
variable {R W : Nat} {L : List Nat} {H : Ch2} {C : List (List Nat)}
/-- the chains with one put in another one's place -/
def setF (K : Nat → Ch2) (i : Nat) (k : Ch2) : Nat → Ch2 := fun j => if j = i then k else K j
def kf (H : Ch2) (C : List (List Nat)) : Nat → Ch2 := fun i => kc H (cc C i)
theorem OkS.upd (h : OkS R W L H C) {i : Nat} (hi : i < W) {p : Nat} (hp : p < (cc C i).length) (a v : Int) (hpl : p = pl (kc H (cc C i)) a) (hha : hasK (kc H (cc C i)) a = true) (ha : 0 ≤ a ∧ a ≤ 9223372036854775807) :
    OkS R W L (H.set (cc C i)[p] (a, v)) C ∧ kf (H.set (cc C i)[p] (a, v)) C = setF (kf H C) i (putK (kf H C i) a v) := by
  have hs : (cc C i)[p] < H.length := by rw [h.hH]; exact h.lt i _ (List.getElem_mem _)
  have hk : kf (H.set (cc C i)[p] (a, v)) C = setF (kf H C) i (putK (kf H C i) a v) := by
    funext j
    unfold kf setF
    split
    · rename_i e; subst e
      rw [kc_set (h.ndi j) hp hs]
      unfold putK
      rw [hha, if_pos rfl, hpl]
    · rename_i e
      exact kc_other (h.nd i j (fun q => e q.symm) _ (List.getElem_mem _)) _
  have hkj : ∀ j, kc (H.set (cc C i)[p] (a, v)) (cc C j) = setF (kf H C) i (putK (kf H C i) a v) j := fun j => congrFun hk j
  refine ⟨⟨by rw [List.length_set]; exact h.hH, h.hC, h.nd, h.ndi, h.lt, h.fr, fun j => ?_, fun j x hx => ?_, h.cnt⟩, hk⟩
  · rw [hkj]
    unfold setF
    split
    · exact srt_putK (h.st i) a v
    · exact h.st j
  · rw [hkj] at hx
    unfold setF at hx
    split at hx
    · rcases (mem_putK (h.st i) a v x).1 hx with q | q
      · rw [q]; exact ha
      · exact h.ag i x q.2
    · exact h.ag j x hx
theorem OkS.ins {s : Nat} (h : OkS R W (s :: L) H C) (hok : OkL R (s :: L)) {i : Nat} (hi : i < W) (a v : Int) (hha : hasK (kc H (cc C i)) a = false) (ha : 0 ≤ a ∧ a ≤ 9223372036854775807) :
    OkS R W L (H.set s (a, v)) (C.set i ((cc C i).take (pl (kc H (cc C i)) a) ++ s :: (cc C i).drop (pl (kc H (cc C i)) a))) ∧ kf (H.set s (a, v)) (C.set i ((cc C i).take (pl (kc H (cc C i)) a) ++ s :: (cc C i).drop (pl (kc H (cc C i)) a))) = setF (kf H C) i (putK (kf H C i) a v) := by
  have hsR : s < R := hok.lt s (by simp)
  have hs : s < H.length := by rw [h.hH]; exact hsR
  have hni : ∀ j, s ∉ cc C j := fun j q => h.fr j s q (by simp)
  have hiC : i < C.length := by rw [h.hC]; exact hi
  have hsL := (List.nodup_cons.1 hok.nd).1
  obtain ⟨c', hc'⟩ : ∃ c', (cc C i).take (pl (kc H (cc C i)) a) ++ s :: (cc C i).drop (pl (kc H (cc C i)) a) = c' := ⟨_, rfl⟩
  have hmem : ∀ y, y ∈ c' ↔ y = s ∨ y ∈ cc C i := by
    intro y
    rw [← hc']
    constructor
    · intro q
      rcases List.mem_append.1 q with q | q
      · exact .inr (List.mem_of_mem_take q)
      · rcases List.mem_cons.1 q with q | q
        · exact .inl q
        · exact .inr (List.mem_of_mem_drop q)
    · rintro (rfl | q)
      · simp
      · rw [← List.take_append_drop (pl (kc H (cc C i)) a) (cc C i)] at q
        rcases List.mem_append.1 q with q | q
        · exact List.mem_append.2 (.inl q)
        · exact List.mem_append.2 (.inr (List.mem_cons_of_mem _ q))
  have hlen : c'.length = (cc C i).length + 1 := by
    rw [← hc']
    have := pl_le (kc H (cc C i)) a
    rw [kc_len] at this
    simp
    omega
  have hnd : c'.Nodup := by
    have h0 : ((cc C i).take (pl (kc H (cc C i)) a) ++ (cc C i).drop (pl (kc H (cc C i)) a)).Nodup := by rw [List.take_append_drop]; exact h.ndi i
    have h1 := List.nodup_append.1 h0
    rw [← hc', List.nodup_append]
    refine ⟨h1.1, List.nodup_cons.2 ⟨fun q => hni i (List.mem_of_mem_drop q), h1.2.1⟩, fun x hx y hy => ?_⟩
    rcases List.mem_cons.1 hy with q | q
    · intro e; rw [e, q] at hx; exact hni i (List.mem_of_mem_take hx)
    · exact h1.2.2 x hx y q
  have hkc : kc (H.set s (a, v)) c' = putK (kf H C i) a v := by
    rw [← hc', kc_ins (hni i) hs]
    unfold putK kf
    rw [hha]; rfl
  have hk : kf (H.set s (a, v)) (C.set i c') = setF (kf H C) i (putK (kf H C i) a v) := by
    funext j
    unfold setF
    show kc _ (cc _ _) = _
    rw [cc_set _ _ _ hiC]
    split
    · exact hkc
    · exact kc_other (hni j) _
  rw [hc']
  have hkj : ∀ j, kc (H.set s (a, v)) (cc (C.set i c') j) = setF (kf H C) i (putK (kf H C i) a v) j := fun j => congrFun hk j
  refine ⟨⟨by rw [List.length_set]; exact h.hH, by rw [List.length_set]; exact h.hC, fun x y hxy z hz => ?_, fun j => ?_, fun j z hz => ?_, fun j z hz => ?_, fun j => ?_, fun j x hx => ?_, ?_⟩, hk⟩
  · rw [cc_set _ _ _ hiC] at hz ⊢
    split at hz
    · rename_i e1
      rw [if_neg (fun e2 => hxy (e1.trans e2.symm))]
      rcases (hmem z).1 hz with q | q
      · rw [q]; exact hni y
      · exact h.nd i y (fun e => hxy (e1.trans e)) z q
    · rename_i e1
      split
      · rename_i e2
        intro q
        rcases (hmem z).1 q with q | q
        · rw [q] at hz; exact hni x hz
        · exact h.nd x i e1 z hz q
      · exact h.nd x y hxy z hz
  · rw [cc_set _ _ _ hiC]
    split
    · exact hnd
    · exact h.ndi j
  · rw [cc_set _ _ _ hiC] at hz
    split at hz
    · rcases (hmem z).1 hz with q | q
      · rw [q]; exact hsR
      · exact h.lt i z q
    · exact h.lt j z hz
  · rw [cc_set _ _ _ hiC] at hz
    split at hz
    · rcases (hmem z).1 hz with q | q
      · rw [q]; exact hsL
      · exact fun r => h.fr i z q (List.mem_cons_of_mem _ r)
    · exact fun r => h.fr j z hz (List.mem_cons_of_mem _ r)
  · rw [hkj]
    unfold setF
    split
    · exact srt_putK (h.st i) a v
    · exact h.st j
  · rw [hkj] at hx
    unfold setF at hx
    split at hx
    · rcases (mem_putK (h.st i) a v x).1 hx with q | q
      · rw [q]; exact ha
      · exact h.ag i x q.2
    · exact h.ag j x hx
  · have := tot_set C i c' hiC
    have hc := h.cnt
    rw [List.length_cons] at hc
    omega
theorem OkS.del (h : OkS R W L H C) {i : Nat} (hi : i < W) (a : Int) (hha : hasK (kc H (cc C i)) a = true) {p : Nat} (hpl : p = pl (kc H (cc C i)) a) (hp : p < (cc C i).length) :
    OkS R W ((cc C i)[p] :: L) H (C.set i ((cc C i).take p ++ (cc C i).drop (p + 1))) ∧ kf H (C.set i ((cc C i).take p ++ (cc C i).drop (p + 1))) = setF (kf H C) i (dropK (kf H C i) a) := by
  have hiC : i < C.length := by rw [h.hC]; exact hi
  obtain ⟨c', hc'⟩ : ∃ c', (cc C i).take p ++ (cc C i).drop (p + 1) = c' := ⟨_, rfl⟩
  have hsp : cc C i = (cc C i).take p ++ (cc C i)[p] :: (cc C i).drop (p + 1) := by rw [List.getElem_cons_drop, List.take_append_drop]
  have hsub : List.Sublist c' (cc C i) := by
    rw [← hc']
    have : List.Sublist ((cc C i).take p ++ (cc C i).drop (p + 1)) ((cc C i).take p ++ (cc C i).drop p) := List.Sublist.append (List.Sublist.refl _) (by rw [← List.drop_drop]; exact List.drop_sublist _ _)
    rw [List.take_append_drop] at this
    exact this
  have hnot : (cc C i)[p] ∉ c' := by
    have h0 := h.ndi i
    rw [hsp] at h0
    have h1 := List.nodup_append.1 h0
    rw [← hc']
    intro q
    rcases List.mem_append.1 q with q | q
    · exact h1.2.2 _ q _ (List.mem_cons_self ..) rfl
    · exact (List.nodup_cons.1 h1.2.1).1 q
  have hlen : c'.length + 1 = (cc C i).length := by rw [← hc']; simp; omega
  have hk : kf H (C.set i c') = setF (kf H C) i (dropK (kf H C i) a) := by
    funext j
    unfold setF
    show kc _ (cc _ _) = _
    rw [cc_set _ _ _ hiC]
    split
    · rw [← hc', kc_del]
      unfold dropK kf
      rw [hha, if_pos rfl, hpl]
    · rfl
  rw [hc']
  have hkj : ∀ j, kc H (cc (C.set i c') j) = setF (kf H C) i (dropK (kf H C i) a) j := fun j => congrFun hk j
  refine ⟨⟨h.hH, by rw [List.length_set]; exact h.hC, fun x y hxy z hz => ?_, fun j => ?_, fun j z hz => ?_, fun j z hz => ?_, fun j => ?_, fun j x hx => ?_, ?_⟩, hk⟩
  · rw [cc_set _ _ _ hiC] at hz ⊢
    split at hz
    · rename_i e1
      rw [if_neg (fun e2 => hxy (e1.trans e2.symm))]
      exact h.nd i y (fun e => hxy (e1.trans e)) z (hsub.mem hz)
    · rename_i e1
      split
      · exact fun q => h.nd x i e1 z hz (hsub.mem q)
      · exact h.nd x y hxy z hz
  · rw [cc_set _ _ _ hiC]
    split
    · exact List.Pairwise.sublist hsub (h.ndi i)
    · exact h.ndi j
  · rw [cc_set _ _ _ hiC] at hz
    split at hz
    · exact h.lt i z (hsub.mem hz)
    · exact h.lt j z hz
  · rw [cc_set _ _ _ hiC] at hz
    split at hz
    · intro q
      rcases List.mem_cons.1 q with q | q
      · rw [q] at hz; exact hnot hz
      · exact h.fr i z (hsub.mem hz) q
    · rename_i e
      intro q
      rcases List.mem_cons.1 q with q | q
      · rw [q] at hz; exact h.nd i j (fun r => e r.symm) _ (List.getElem_mem _) hz
      · exact h.fr j z hz q
  · rw [hkj]
    unfold setF
    split
    · exact srt_dropK (h.st i) a
    · exact h.st j
  · rw [hkj] at hx
    unfold setF at hx
    split at hx
    · exact h.ag i x ((mem_dropK (h.st i) a x).1 hx).2
    · exact h.ag j x hx
  · have := tot_set C i c' hiC
    have hc := h.cnt
    rw [List.length_cons]
    omega
end
end Go.Proofs.Ytdohclnmcdempaa
