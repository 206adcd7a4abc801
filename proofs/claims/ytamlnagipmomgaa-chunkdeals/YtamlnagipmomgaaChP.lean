/- Which ages are dealt out. -/
import Derived.Test.YtamlnagipmomgaaC6
namespace Go.Proofs.Ytamlnagipmomgaa
open Go.RowKit Go.Maps
set_option linter.unusedVariables false

/-- what a dealer may be -/
structure OkD (p size many next : Int) (turns : List Int) (s n : Nat) : Prop where
  hp : p = 1 ∨ p = 2 ∨ p = 3
  hs : size = (s : Int)
  s1 : 1 ≤ s
  hm : many = (n : Int)
  hn : 0 ≤ next ∧ next ≤ many
  hl : 1 ≤ turns.length
  ht : ∀ t ∈ turns, 0 ≤ t
theorem DL.ok {w : World} {db tb : Nat} {p size many next : Int} {turns : List Int} (h : DL w db tb p size many next turns) : OkD p size many next turns size.toNat many.toNat :=
  ⟨h.hp, by have := h.hs; omega, by have := h.hs; omega, by have := h.hm; omega, h.hn, h.hl.1, fun t q => (h.ht t q).1⟩
def dl (p : Int) (s : Nat) (next : Int) (turns : List Int) (a : Nat) : Bool := if p = 1 then decide (((a / s / turns.length : Nat) : Int) < turns.getD (a / s % turns.length) 0) else decide ((a : Int) < next)
section
variable {p size many next : Int} {turns : List Int} {s n : Nat}
theorem guide_pos (h : OkD p size many next turns s n) : 1 ≤ guideI size many next turns.length := by
  have := h.hs; have := h.s1
  unfold guideI; split <;> omega
theorem from_in {many first sz : Int} (h : first < many) : fromP many first sz = (first, if first + sz ≤ many then first + sz else many) := by unfold fromP; rw [if_neg (by omega)]
theorem from_lt {many first sz : Int} (h : first < many) (hz : 1 ≤ sz) : (fromP many first sz).1 < (fromP many first sz).2 := by
  rw [from_in h]
  show first < if first + sz ≤ many then first + sz else many
  split <;> omega
theorem from_out {many first sz : Int} (h : ¬ first < many) : fromP many first sz = (0, 0) := by unfold fromP; rw [if_pos (by omega)]
theorem own_cast (k T W : Nat) (hs : size = (s : Int)) : ownI size W k (T : Int) = (((k + T * W) * s : Nat) : Int) := by
  unfold ownI; rw [hs]; simp
/-- the two ways to deal, at a worker that there is -/
theorem ask_own (h : OkD p size many next turns s n) (hp : p = 1) (k : Nat) (hk : k < turns.length) : ∃ T : Nat, turns[k] = (T : Int) ∧ turns.getD k 0 = (T : Int) ∧
    askX p size many next turns (k : Int) = fromP many (((k + T * turns.length) * s : Nat) : Int) size ∧ askN p size many next turns (k : Int) = next ∧
    askT p size many next turns (k : Int) = if (((k + T * turns.length) * s : Nat) : Int) < many then turns.set k ((T : Int) + 1) else turns := by
  have ht := h.ht turns[k] (List.getElem_mem _)
  obtain ⟨T, hT⟩ : ∃ T : Nat, turns[k] = (T : Int) := ⟨turns[k].toNat, by omega⟩
  have hg : turns[k]?.getD 0 = (T : Int) := by simp [hk, hT]
  have hin : (0 : Int) ≤ (k : Int) ∧ (k : Int) < turns.length := by omega
  have e0 : ((k : Int)).toNat = k := by omega
  have hX : spanD p size many next turns k = fromP many (((k + T * turns.length) * s : Nat) : Int) size := by unfold spanD; rw [if_pos hp, hg, own_cast k T turns.length h.hs]
  refine ⟨T, hT, by simp [List.getD, hk, hT], ?_, ?_, ?_⟩
  · unfold askX; rw [if_pos hin, e0]; exact hX
  · unfold askN; rw [if_pos hin]; unfold nextD; rw [if_pos hp]
  · unfold askT; rw [if_pos hin, e0]; unfold turnsD; rw [if_pos hp, hX, hg]
    have hs1 := h.s1
    have hsz := h.hs
    by_cases q : (((k + T * turns.length) * s : Nat) : Int) < many
    · rw [if_pos q, if_pos (from_lt q (by omega))]
    · rw [if_neg q, from_out q, if_neg (by simp)]
theorem ask_rest (h : OkD p size many next turns s n) (hp : p ≠ 1) (k : Nat) (hk : k < turns.length) : ∃ sz : Int, 1 ≤ sz ∧ askX p size many next turns (k : Int) = fromP many next sz ∧
    askN p size many next turns (k : Int) = next + ((fromP many next sz).2 - (fromP many next sz).1) ∧ askT p size many next turns (k : Int) = turns := by
  have hin : (0 : Int) ≤ (k : Int) ∧ (k : Int) < turns.length := by omega
  have e0 : ((k : Int)).toNat = k := by omega
  obtain ⟨sz, h1, hX⟩ : ∃ sz : Int, 1 ≤ sz ∧ spanD p size many next turns k = fromP many next sz := by
    unfold spanD
    rw [if_neg hp]
    by_cases q : p = 2
    · rw [if_pos q]; exact ⟨size, by have := h.hs; have := h.s1; omega, rfl⟩
    · rw [if_neg q]; exact ⟨_, guide_pos h, rfl⟩
  refine ⟨sz, h1, ?_, ?_, ?_⟩
  · unfold askX; rw [if_pos hin, e0]; exact hX
  · unfold askN; rw [if_pos hin, e0]; unfold nextD; rw [if_neg hp, hX]
  · unfold askT; rw [if_pos hin]; unfold turnsD; rw [if_neg hp]
theorem ask_none {wk : Int} (hk : ¬ (0 ≤ wk ∧ wk < turns.length)) : askX p size many next turns wk = (0, 0) ∧ askN p size many next turns wk = next ∧ askT p size many next turns wk = turns := by
  unfold askX askN askT; rw [if_neg hk, if_neg hk, if_neg hk]; exact ⟨rfl, rfl, rfl⟩
theorem chunk_iff (a k T W s : Nat) (hs : 1 ≤ s) (hk : k < W) : ((k + T * W) * s ≤ a ∧ a < (k + T * W) * s + s) ↔ (a / s % W = k ∧ a / s / W = T) := by
  have e : ((k + T * W) * s ≤ a ∧ a < (k + T * W) * s + s) ↔ a / s = k + T * W := by
    rw [Nat.div_eq_iff (by omega)]
    constructor <;> intro h <;> omega
  rw [e]
  constructor
  · intro h
    rw [h, Nat.add_mul_mod_self_right, Nat.add_mul_div_right _ _ (by omega), Nat.mod_eq_of_lt hk, Nat.div_eq_of_lt hk]
    omega
  · rintro ⟨h1, h2⟩
    have := Nat.mod_add_div (a / s) W
    rw [h1, h2, Nat.mul_comm] at this
    omega
/-- what an ask deals out -/
theorem ask_dl (h : OkD p size many next turns s n) (wk : Int) : 0 ≤ (askX p size many next turns wk).1 ∧ (askX p size many next turns wk).2 ≤ many ∧ (askX p size many next turns wk).1 ≤ (askX p size many next turns wk).2 ∧
    ((askX p size many next turns wk).1 < (askX p size many next turns wk).2 → 0 ≤ wk ∧ wk < turns.length) ∧ (askT p size many next turns wk).length = turns.length ∧
    ∀ a : Nat, a < n → (dl p s (askN p size many next turns wk) (askT p size many next turns wk) a = (dl p s next turns a || decide ((askX p size many next turns wk).1 ≤ (a : Int) ∧ (a : Int) < (askX p size many next turns wk).2))) ∧
      ((askX p size many next turns wk).1 ≤ (a : Int) ∧ (a : Int) < (askX p size many next turns wk).2 → dl p s next turns a = false) := by
  have hm := h.hm
  have hs1 := h.s1
  have hsz := h.hs
  have hn := h.hn
  by_cases hin : 0 ≤ wk ∧ wk < turns.length
  · obtain ⟨k, rfl⟩ : ∃ k : Nat, wk = (k : Int) := ⟨wk.toNat, by omega⟩
    have hk : k < turns.length := by omega
    by_cases hp : p = 1
    · obtain ⟨T, t1, t2, t3, t4, t5⟩ := ask_own h hp k hk
      rw [t3, t4, t5]
      by_cases q : (((k + T * turns.length) * s : Nat) : Int) < many
      · rw [if_pos q, from_in q]
        have hlen : (turns.set k ((T : Int) + 1)).length = turns.length := List.length_set
        refine ⟨by omega, by simp only []; split <;> omega, by simp only []; split <;> omega, fun _ => hin, hlen, fun a ha => ?_⟩
        have hci := chunk_iff a k T turns.length s hs1 hk
        have hiff : ((((k + T * turns.length) * s : Nat) : Int) ≤ (a : Int) ∧ (a : Int) < if (((k + T * turns.length) * s : Nat) : Int) + size ≤ many then (((k + T * turns.length) * s : Nat) : Int) + size else many) ↔ (a / s % turns.length = k ∧ a / s / turns.length = T) := by
          rw [← hci]
          split <;> constructor <;> intro q <;> omega
        simp only []
        have hdec : decide ((((k + T * turns.length) * s : Nat) : Int) ≤ (a : Int) ∧ (a : Int) < if (((k + T * turns.length) * s : Nat) : Int) + size ≤ many then (((k + T * turns.length) * s : Nat) : Int) + size else many) = decide (a / s % turns.length = k ∧ a / s / turns.length = T) := decide_eq_decide.2 hiff
        rw [hdec]
        unfold dl
        rw [if_pos hp, if_pos hp, hlen]
        constructor
        · by_cases hr : a / s % turns.length = k
          · have e1 : (turns.set k ((T : Int) + 1)).getD (a / s % turns.length) 0 = (T : Int) + 1 := by rw [hr]; simp [List.getD, hk]
            have e2 : turns.getD (a / s % turns.length) 0 = (T : Int) := by rw [hr]; exact t2
            rw [e1, e2, ← Bool.decide_or]
            refine decide_eq_decide.2 ?_
            generalize a / s / turns.length = J at *
            omega
          · have e1 : (turns.set k ((T : Int) + 1)).getD (a / s % turns.length) 0 = turns.getD (a / s % turns.length) 0 := by
              simp only [List.getD]; rw [List.getElem?_set_ne (by omega)]
            rw [e1]; simp [hr]
        · intro hx
          obtain ⟨h1, h2⟩ := hiff.1 hx
          rw [h1, h2, t2]; simp
      · rw [if_neg q, from_out q]
        refine ⟨Int.le_refl _, by simp only []; omega, Int.le_refl _, fun q => absurd q (by simp), rfl, fun a ha => ⟨?_, fun q => by simp only [] at q; omega⟩⟩
        rw [show decide (((0, 0) : Int × Int).1 ≤ (a : Int) ∧ (a : Int) < ((0, 0) : Int × Int).2) = false by simp, Bool.or_false]
    · obtain ⟨sz, z1, z2, z3, z4⟩ := ask_rest h hp k hk
      rw [z2, z3, z4]
      by_cases q : next < many
      · rw [from_in q]
        refine ⟨by simp only []; omega, by simp only []; split <;> omega, by simp only []; split <;> omega, fun _ => hin, rfl, fun a ha => ?_⟩
        simp only []
        unfold dl
        rw [if_neg hp, if_neg hp, ← Bool.decide_or]
        constructor
        · refine decide_eq_decide.2 ?_
          split <;> omega
        · intro hx; simp; omega
      · rw [from_out q]
        refine ⟨Int.le_refl _, by simp only []; omega, Int.le_refl _, fun q => absurd q (by simp), rfl, fun a ha => ⟨?_, fun q => by simp only [] at q; omega⟩⟩
        rw [show decide (((0, 0) : Int × Int).1 ≤ (a : Int) ∧ (a : Int) < ((0, 0) : Int × Int).2) = false by simp, Bool.or_false]
        simp
  · obtain ⟨e1, e2, e3⟩ := ask_none (p := p) (size := size) (many := many) (next := next) hin
    rw [e1, e2, e3]
    refine ⟨Int.le_refl _, by simp only []; omega, Int.le_refl _, fun q => absurd q (by simp), rfl, fun a ha => ⟨?_, fun q => by simp only [] at q; omega⟩⟩
    rw [show decide (((0, 0) : Int × Int).1 ≤ (a : Int) ∧ (a : Int) < ((0, 0) : Int × Int).2) = false by simp, Bool.or_false]
/-- the least age that nobody got -/
theorem ask_least (h : OkD p size many next turns s n) (k : Nat) (hk : k < turns.length) (a : Nat) (ha : a < n) (h0 : dl p s next turns a = false) (hb : ∀ b, b < a → dl p s next turns b = true) (hmine : p = 1 → a / s % turns.length = k) :
    (askX p size many next turns (k : Int)).1 = (a : Int) ∧ (askX p size many next turns (k : Int)).1 < (askX p size many next turns (k : Int)).2 := by
  have hm := h.hm
  have hs1 := h.s1
  have hsz := h.hs
  by_cases hp : p = 1
  · obtain ⟨T, t1, t2, t3, t4, t5⟩ := ask_own h hp k hk
    have hr := hmine hp
    have hci := fun b => chunk_iff b k T turns.length s hs1 hk
    have hJ : dl p s next turns ((k + T * turns.length) * s) = false := by
      obtain ⟨q1, q2⟩ := (hci ((k + T * turns.length) * s)).1 ⟨Nat.le_refl _, by omega⟩
      unfold dl; rw [if_pos hp, q1, q2, t2]; simp
    have hge : a ≤ (k + T * turns.length) * s := by
      refine Nat.not_lt.1 fun q => ?_
      rw [hb _ q] at hJ; cases hJ
    have hTj : T ≤ a / s / turns.length := by
      unfold dl at h0; rw [if_pos hp, hr, t2] at h0
      have h1 := of_decide_eq_false h0
      exact Nat.not_lt.1 fun q => h1 (Int.ofNat_lt.2 q)
    have hle : (k + T * turns.length) * s ≤ a := by
      have e1 := Nat.mod_add_div (a / s) turns.length
      rw [hr] at e1
      have e2 : T * turns.length ≤ turns.length * (a / s / turns.length) := by rw [Nat.mul_comm]; exact Nat.mul_le_mul_left _ hTj
      have e3 := Nat.mul_le_mul_right s (show k + T * turns.length ≤ a / s by omega)
      have e4 := Nat.div_mul_le_self a s
      omega
    have e : (k + T * turns.length) * s = a := by omega
    rw [t3, e]
    have hlt : (a : Int) < many := by omega
    exact ⟨by rw [from_in hlt], from_lt hlt (by omega)⟩
  · obtain ⟨sz, z1, z2, z3, z4⟩ := ask_rest h hp k hk
    have e : next = (a : Int) := by
      unfold dl at h0; rw [if_neg hp] at h0
      simp at h0
      refine Int.le_antisymm h0 (Int.not_lt.1 fun q => ?_)
      have := hb next.toNat (by have := h.hn; omega)
      unfold dl at this; rw [if_neg hp] at this
      simp at this
      have := h.hn; omega
    rw [z2, e]
    have hlt : (a : Int) < many := by omega
    exact ⟨by rw [from_in hlt], from_lt hlt z1⟩
end
end Go.Proofs.Ytamlnagipmomgaa
