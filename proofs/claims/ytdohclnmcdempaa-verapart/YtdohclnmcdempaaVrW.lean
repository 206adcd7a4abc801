/- VerReads, without memory: what a row of calls leaves, and what an age then reads. -/
import Derived.Test.YtdohclnmcdempaaVrV
namespace Go.Proofs.Ytdohclnmcdempaa
set_option linter.unusedVariables false

structure O4 where
  kd : Int
  at_ : Int
  ag : Int
  vl : Int
def kk (x : O4) : Int := kindI x.kd
def stepK (R W : Nat) (K : Nat → Ch2) (x : O4) : Nat → Ch2 := if kk x < 3 then putF R W K x.at_ x.ag x.vl else if kk x = 5 then dropF W K x.at_ x.ag else if kk x = 6 then allF K x.ag else K
def Kf (R W : Nat) (l : List O4) (j : Nat) : Nat → Ch2 := (l.take j).foldl (stepK R W) noK
theorem Kf_zero (R W : Nat) (l : List O4) : Kf R W l 0 = noK := by simp [Kf]
theorem Kf_next (R W : Nat) (l : List O4) (j : Nat) (h : j < l.length) : Kf R W l (j + 1) = stepK R W (Kf R W l j) l[j] := by
  unfold Kf
  rw [List.take_succ_eq_append_getElem h, List.foldl_append]
  rfl
theorem totK_set (W : Nat) (K : Nat → Ch2) (i : Nat) (hi : i < W) (k : Ch2) : totK W (setF K i k) + (K i).length = totK W K + k.length := by
  have gen : ∀ (l : List Nat), l.Nodup → i ∈ l → (l.map fun j => (setF K i k j).length).sum + (K i).length = (l.map fun j => (K j).length).sum + k.length := by
    intro l
    induction l with
    | nil => intro _ h; cases h
    | cons x l ih =>
      intro nd h
      have hn := List.nodup_cons.1 nd
      by_cases e : x = i
      · subst e
        have : (l.map fun j => (setF K x k j).length) = l.map fun j => (K j).length := by
          apply List.map_congr_left
          intro j hj
          have : j ≠ x := fun q => hn.1 (q ▸ hj)
          simp [setF, this]
        rw [List.map_cons, List.map_cons, List.sum_cons, List.sum_cons, this]
        simp only [setF, if_true]
        omega
      · have hi : i ∈ l := by
          rcases List.mem_cons.1 h with q | q
          · exact absurd q.symm e
          · exact q
        have := ih hn.2 hi
        rw [List.map_cons, List.map_cons, List.sum_cons, List.sum_cons]
        have e2 : (setF K i k x) = K x := by simp [setF, e]
        rw [e2]
        omega
  exact gen (List.range W) List.nodup_range (List.mem_range.2 hi)
theorem putK_len (k : Ch2) (a v : Int) : (putK k a v).length ≤ k.length + 1 := by
  unfold putK
  split
  · simp
  · have := pl_le k a; simp; omega
theorem dropK_len (k : Ch2) (a : Int) : (dropK k a).length ≤ k.length := by
  unfold dropK
  split
  · simp; omega
  · exact Nat.le_refl _
theorem sum_le_sum (f g : Nat → Nat) (h : ∀ i, f i ≤ g i) : ∀ (l : List Nat), (l.map f).sum ≤ (l.map g).sum
  | [] => Nat.le_refl _
  | x :: l => by
    have := sum_le_sum f g h l
    have := h x
    rw [List.map_cons, List.map_cons, List.sum_cons, List.sum_cons]
    omega
/-- what is so behind j calls -/
structure GK (R W : Nat) (K : Nat → Ch2) (j : Nat) : Prop where
  st : ∀ i, srt (K i)
  tt : totK W K ≤ j
theorem wi_le {W : Nat} {z : Int} : wi W z ≤ W := by unfold wi; split <;> omega
theorem GK.step {R W : Nat} {K : Nat → Ch2} {j : Nat} (h : GK R W K j) (x : O4) : GK R W (stepK R W K x) (j + 1) := by
  have hd : ∀ i, dropK (K i) x.ag = dropK (K i) x.ag := fun _ => rfl
  unfold stepK
  split
  · unfold putF
    split
    · rename_i _ he
      have hz : 0 ≤ x.at_ ∧ x.at_ < W := by
        unfold putE at he
        split at he
        · cases he
        · rename_i q; exact Decidable.not_not.1 q
      have hi : x.at_.toNat < W := by omega
      refine ⟨fun i => ?_, ?_⟩
      · unfold setF; split
        · exact srt_putK (h.st _) _ _
        · exact h.st i
      · have h1 := totK_set W K _ hi (putK (K x.at_.toNat) x.ag x.vl)
        have h2 := putK_len (K x.at_.toNat) x.ag x.vl
        have := h.tt
        omega
    · exact ⟨h.st, Nat.le_succ_of_le h.tt⟩
  · split
    · unfold dropF
      refine ⟨fun i => ?_, ?_⟩
      · unfold setF; split
        · exact srt_dropK (h.st _) _
        · exact h.st i
      · have ht := h.tt
        refine Nat.le_trans (sum_le_sum _ (fun i => (K i).length) (fun i => ?_) _) (Nat.le_succ_of_le ht)
        unfold setF
        split
        · rename_i e; rw [e]; exact dropK_len _ _
        · exact Nat.le_refl _
    · split
      · refine ⟨fun i => srt_dropK (h.st i) _, ?_⟩
        exact Nat.le_trans (sum_le_sum _ (fun i => (K i).length) (fun i => dropK_len _ _) _) (Nat.le_succ_of_le h.tt)
      · exact ⟨h.st, Nat.le_succ_of_le h.tt⟩
theorem GK.zero (R W : Nat) : GK R W noK 0 := by
  refine ⟨fun i => List.Pairwise.nil, ?_⟩
  have h0 : ∀ l : List Nat, (l.map fun i => (noK i).length).sum = 0 := by
    intro l
    induction l with
    | nil => rfl
    | cons x l ih => rw [List.map_cons, List.sum_cons, ih]; rfl
  exact Nat.le_of_eq (h0 _)
theorem GK.all (R W : Nat) (l : List O4) : ∀ j, j ≤ l.length → GK R W (Kf R W l j) j
  | 0, _ => by rw [Kf_zero]; exact GK.zero R W
  | j + 1, h => by rw [Kf_next R W l j (by omega)]; exact (GK.all R W l j (by omega)).step _
def isPut (at_ : Nat) (x : O4) : Prop := kk x < 3 ∧ x.at_ = (at_ : Int) ∧ 0 ≤ x.ag
def isDrop (at_ : Nat) (a : Int) (x : O4) : Prop := x.ag = a ∧ (kk x = 6 ∨ kk x = 5 ∧ x.at_ = (at_ : Int))
theorem mem_step {R W : Nat} {K : Nat → Ch2} {j : Nat} (h : GK R W K j) (hj : j < R) (at_ : Nat) (ha : at_ < W) (x : O4) (a v : Int) :
    (a, v) ∈ stepK R W K x at_ ↔ (isPut at_ x ∧ x.ag = a ∧ x.vl = v) ∨ (¬ isDrop at_ a x ∧ ¬ (isPut at_ x ∧ x.ag = a) ∧ (a, v) ∈ K at_) := by
  unfold stepK isPut isDrop
  by_cases h3 : kk x < 3
  · rw [if_pos h3]
    by_cases hp : x.at_ = (at_ : Int) ∧ 0 ≤ x.ag
    · have he : putE R W K x.at_ x.ag = 0 := by
        unfold putE
        rw [if_neg (by rw [hp.1]; omega), if_neg (by omega)]
        split
        · rfl
        · rw [if_neg (by have := h.tt; omega)]
      have hs : putF R W K x.at_ x.ag x.vl at_ = putK (K at_) x.ag x.vl := by
        unfold putF
        rw [if_pos he, hp.1, Int.toNat_natCast]
        simp [setF]
      rw [hs, mem_putK (h.st at_)]
      constructor
      · rintro (q | q)
        · injection q with q1 q2
          exact .inl ⟨⟨h3, hp.1, hp.2⟩, q1.symm, q2.symm⟩
        · exact .inr ⟨fun r => by rcases r.2 with s | s <;> omega, fun r => q.1 r.2.symm, q.2⟩
      · rintro (⟨_, rfl, rfl⟩ | ⟨_, q, r⟩)
        · exact .inl rfl
        · exact .inr ⟨fun e => q ⟨⟨h3, hp.1, hp.2⟩, e.symm⟩, r⟩
    · have hs : putF R W K x.at_ x.ag x.vl at_ = K at_ := by
        unfold putF
        split
        · rename_i he
          have hz : (0 ≤ x.at_ ∧ x.at_ < W) ∧ ¬ x.ag < 0 := by
            unfold putE at he
            split at he
            · cases he
            · rename_i q
              split at he
              · cases he
              · rename_i q2
                exact ⟨Decidable.not_not.1 q, q2⟩
          have hne : ¬ at_ = x.at_.toNat := fun e => hp ⟨by omega, by omega⟩
          simp [setF, hne]
        · rfl
      rw [hs]
      constructor
      · exact fun q => .inr ⟨fun r => by rcases r.2 with s | s <;> omega, fun r => hp ⟨r.1.2.1, r.1.2.2⟩, q⟩
      · rintro (q | q)
        · exact absurd ⟨q.1.2.1, q.1.2.2⟩ hp
        · exact q.2.2
  · rw [if_neg h3]
    by_cases h5 : kk x = 5
    · rw [if_pos h5]
      have hm : (a, v) ∈ dropF W K x.at_ x.ag at_ ↔ ¬ (x.ag = a ∧ x.at_ = (at_ : Int)) ∧ (a, v) ∈ K at_ := by
        unfold dropF setF
        by_cases hw : at_ = wi W x.at_
        · rw [if_pos hw, ← hw, mem_dropK (h.st at_)]
          have hat : x.at_ = (at_ : Int) := by unfold wi at hw; split at hw <;> omega
          constructor
          · exact fun q => ⟨fun r => q.1 r.1.symm, q.2⟩
          · exact fun q => ⟨fun e => q.1 ⟨e.symm, hat⟩, q.2⟩
        · rw [if_neg hw]
          have hat : ¬ x.at_ = (at_ : Int) := fun e => hw (by rw [e, wi_in ha])
          exact ⟨fun q => ⟨fun r => hat r.2, q⟩, fun q => q.2⟩
      rw [hm]
      constructor
      · rintro ⟨q, r⟩
        refine .inr ⟨fun s => ?_, fun s => h3 s.1.1, r⟩
        rcases s.2 with t | t
        · omega
        · exact q ⟨s.1, t.2⟩
      · rintro (q | q)
        · exact absurd q.1.1 h3
        · exact ⟨fun r => q.1 ⟨r.1, .inr ⟨h5, r.2⟩⟩, q.2.2⟩
    · rw [if_neg h5]
      by_cases h6 : kk x = 6
      · rw [if_pos h6]
        show (a, v) ∈ dropK (K at_) x.ag ↔ _
        rw [mem_dropK (h.st at_)]
        constructor
        · exact fun q => .inr ⟨fun r => q.1 r.1.symm, fun s => h3 s.1.1, q.2⟩
        · rintro (q | q)
          · exact absurd q.1.1 h3
          · exact ⟨fun e => q.1 ⟨e.symm, .inl h6⟩, q.2.2⟩
      · rw [if_neg h6]
        constructor
        · exact fun q => .inr ⟨fun r => by rcases r.2 with s | s; exact h6 s; exact h5 s.1, fun s => h3 s.1.1, q⟩
        · rintro (q | q)
          · exact absurd q.1.1 h3
          · exact q.2.2
/-- behind j calls an age has this version of a word -/
def Has (l : List O4) (at_ : Nat) (j : Nat) (a v : Int) : Prop := ∃ p, ∃ h : p < l.length, p < j ∧ isPut at_ l[p] ∧ l[p].ag = a ∧ l[p].vl = v ∧ ∀ k (hk : k < l.length), p < k → k < j → ¬ isDrop at_ a l[k] ∧ ¬ (isPut at_ l[k] ∧ l[k].ag = a)
theorem has_step (l : List O4) (at_ j : Nat) (hj : j < l.length) (a v : Int) : Has l at_ (j + 1) a v ↔ (isPut at_ l[j] ∧ l[j].ag = a ∧ l[j].vl = v) ∨ (¬ isDrop at_ a l[j] ∧ ¬ (isPut at_ l[j] ∧ l[j].ag = a) ∧ Has l at_ j a v) := by
  constructor
  · rintro ⟨p, h, h1, h2, h3, h4, h5⟩
    by_cases e : p = j
    · subst e; exact .inl ⟨h2, h3, h4⟩
    · have h6 := h5 j hj (by omega) (by omega)
      exact .inr ⟨h6.1, h6.2, p, h, by omega, h2, h3, h4, fun k hk q1 q2 => h5 k hk q1 (by omega)⟩
  · rintro (⟨h2, h3, h4⟩ | ⟨g1, g2, p, h, h1, h2, h3, h4, h5⟩)
    · exact ⟨j, hj, by omega, h2, h3, h4, fun k hk q1 q2 => absurd q2 (by omega)⟩
    · refine ⟨p, h, by omega, h2, h3, h4, fun k hk q1 q2 => ?_⟩
      by_cases e : k = j
      · subst e; exact ⟨g1, g2⟩
      · exact h5 k hk q1 (by omega)
theorem mem_all (R W : Nat) (l : List O4) (hR : l.length ≤ R) (at_ : Nat) (ha : at_ < W) (a v : Int) : ∀ j, j ≤ l.length → ((a, v) ∈ Kf R W l j at_ ↔ Has l at_ j a v)
  | 0, _ => by
    rw [Kf_zero]
    constructor
    · intro h; cases h
    · rintro ⟨p, h, h1, _⟩; exact absurd h1 (Nat.not_lt_zero _)
  | j + 1, h => by
    rw [Kf_next R W l j (by omega), mem_step (GK.all R W l j (by omega)) (by omega) at_ ha, mem_all R W l hR at_ ha a v j (by omega), has_step l at_ j (by omega)]
/-- a version that is there in the end, of an age below this one -/
def Ql (l : List O4) (at_ : Nat) (age : Int) (p : Nat) : Prop := ∃ h : p < l.length, isPut at_ l[p] ∧ l[p].ag < age ∧ ∀ k (hk : k < l.length), p < k → ¬ isDrop at_ l[p].ag l[k]
/-- what has been found behind i calls -/
structure I2 (l : List O4) (at_ : Nat) (age : Int) (i : Nat) (best value : Int) (found : Bool) : Prop where
  no : found = false → value = 0 ∧ ∀ p, p < i → ¬ Ql l at_ age p
  yes : found = true → ∃ p, ∃ h : p < l.length, p < i ∧ Ql l at_ age p ∧ l[p].ag = best ∧ l[p].vl = value ∧ ∀ q (hq : q < l.length), q < i → Ql l at_ age q → l[q].ag ≤ best ∧ (l[q].ag = best → q ≤ p)
section
variable {l : List O4} {at_ : Nat} {age : Int} {i : Nat} {best value : Int} {found : Bool}
theorem I2.first : I2 l at_ age 0 0 0 false := ⟨fun _ => ⟨rfl, fun p h => absurd h (Nat.not_lt_zero _)⟩, fun h => by cases h⟩
theorem I2.skip (h : I2 l at_ age i best value found) (hi : i < l.length) (hn : Ql l at_ age i → found = true ∧ l[i].ag < best) : I2 l at_ age (i + 1) best value found := by
  refine ⟨fun hf => ⟨(h.no hf).1, fun p hp hq => ?_⟩, fun hf => ?_⟩
  · by_cases e : p = i
    · subst e; have := (hn hq).1; rw [hf] at this; cases this
    · exact (h.no hf).2 p (by omega) hq
  · obtain ⟨p, hp, h1, h2, h3, h4, h5⟩ := h.yes hf
    refine ⟨p, hp, by omega, h2, h3, h4, fun q hq h6 h7 => ?_⟩
    by_cases e : q = i
    · subst e
      have := (hn h7).2
      exact ⟨by omega, fun e => by omega⟩
    · exact h5 q hq (by omega) h7
theorem I2.take (h : I2 l at_ age i best value found) (hi : i < l.length) (hq : Ql l at_ age i) (hb : found = true → best ≤ l[i].ag) : I2 l at_ age (i + 1) l[i].ag l[i].vl true := by
  refine ⟨(fun h => by cases h), fun _ => ⟨i, hi, by omega, hq, rfl, rfl, fun q hq' h6 h7 => ?_⟩⟩
  by_cases e : q = i
  · subst e; exact ⟨Int.le_refl _, fun _ => Nat.le_refl _⟩
  · cases found with
    | false => exact absurd h7 ((h.no rfl).2 q (by omega))
    | true =>
      obtain ⟨p, hp, h1, h2, h3, h4, h5⟩ := h.yes rfl
      have h8 := (h5 q hq' (by omega) h7).1
      have h9 := hb rfl
      exact ⟨by omega, fun _ => by omega⟩
theorem I2.last {R W : Nat} (h : I2 l at_ age l.length best value found) (hR : l.length ≤ R) (ha : at_ < W) :
    (found = true → oldK (Kf R W l l.length at_) age = some (best, value)) ∧ (found = false → value = 0 ∧ oldK (Kf R W l l.length at_) age = none) := by
  have hst := (GK.all R W l l.length (Nat.le_refl _)).st at_
  have hql : ∀ a v, (a, v) ∈ Kf R W l l.length at_ → a < age → ∃ p, ∃ h : p < l.length, Ql l at_ age p ∧ l[p].ag = a := by
    intro a v hm hlt
    obtain ⟨p, hp, h1, h2, h3, h4, h5⟩ := (mem_all R W l hR at_ ha a v l.length (Nat.le_refl _)).1 hm
    exact ⟨p, hp, ⟨hp, h2, by omega, fun k hk q => by rw [h3]; exact (h5 k hk q hk).1⟩, h3⟩
  refine ⟨fun hf => ?_, fun hf => ⟨(h.no hf).1, ?_⟩⟩
  · obtain ⟨p, hp, h1, h2, h3, h4, h5⟩ := h.yes hf
    have hmem : (best, value) ∈ Kf R W l l.length at_ := by
      refine (mem_all R W l hR at_ ha best value l.length (Nat.le_refl _)).2 ⟨p, hp, hp, h2.choose_spec.1, h3, h4, fun k hk q1 q2 => ⟨?_, fun q => ?_⟩⟩
      · have := h2.choose_spec.2.2 k hk q1
        rw [h3] at this; exact this
      · have hqk : Ql l at_ age k := ⟨hk, q.1, by rw [q.2]; have := h2.choose_spec.2.1; rw [h3] at this; exact this, fun k2 hk2 q3 => by
          have := h2.choose_spec.2.2 k2 hk2 (by omega)
          rw [h3] at this
          rw [q.2]; exact this⟩
        have := (h5 k hk hk hqk).2 q.2
        omega
    have hblt : best < age := by have := h2.choose_spec.2.1; rw [h3] at this; exact this
    cases ho : oldK (Kf R W l l.length at_) age with
    | none => have := oldK_none hst ho (best, value) hmem; simp only at this; omega
    | some x =>
      obtain ⟨m1, m2, m3⟩ := oldK_some hst ho
      have g1 := m3 (best, value) hmem hblt
      obtain ⟨q, hq, hqq, hqa⟩ := hql x.1 x.2 m1 m2
      have g2 := (h5 q hq hq hqq).1
      have e1 : x.1 = best := by simp only at g1; omega
      obtain ⟨i1, hi1, ei⟩ := List.getElem_of_mem m1
      obtain ⟨i2, hi2, ej⟩ := List.getElem_of_mem hmem
      congr 1
      rcases Nat.lt_trichotomy i1 i2 with r | r | r
      · have := (List.pairwise_iff_getElem.1 hst) i1 i2 hi1 hi2 r
        rw [ei, ej] at this; simp only at this; omega
      · subst r; rw [← ei, ← ej]
      · have := (List.pairwise_iff_getElem.1 hst) i2 i1 hi2 hi1 r
        rw [ei, ej] at this; simp only at this; omega
  · cases ho : oldK (Kf R W l l.length at_) age with
    | none => rfl
    | some x =>
      obtain ⟨m1, m2, m3⟩ := oldK_some hst ho
      obtain ⟨q, hq, hqq, hqa⟩ := hql x.1 x.2 m1 m2
      exact absurd hqq ((h.no hf).2 q hq)
end
end Go.Proofs.Ytdohclnmcdempaa
