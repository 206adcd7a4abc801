/- The document's Next, plain: which ages it puts into its row. -/
import Derived.Test.YtamlnagipmomgaaChP
namespace Go.Proofs.Ytamlnagipmomgaa
open Go.RowKit Go.Maps
set_option linter.unusedVariables false

/-- the ages from a on below b -/
def agesL (a b : Nat) : List Int := (List.range (b - a)).map fun i => ((a + i : Nat) : Int)
theorem agesL_len (a b : Nat) : (agesL a b).length = b - a := by simp [agesL]
theorem agesL_none (a b : Nat) (h : b ≤ a) : agesL a b = [] := by unfold agesL; rw [show b - a = 0 by omega]; rfl
theorem agesL_snoc (a b : Nat) (h : a ≤ b) : agesL a b ++ [(b : Int)] = agesL a (b + 1) := by
  unfold agesL
  rw [show b + 1 - a = (b - a) + 1 by omega, List.range_succ, List.map_append]
  simp only [List.map_cons, List.map_nil]
  rw [show a + (b - a) = b by omega]
theorem agesL_at (a b i : Nat) (h : i < (agesL a b).length) : (agesL a b)[i] = ((a + i : Nat) : Int) := by simp [agesL]
/-- of the ages below q, those from lo on below hi -/
def midL (lo hi q : Nat) : List Int := agesL lo (if q ≤ hi then q else hi)
theorem midL_in (lo hi q : Nat) (h1 : lo ≤ q) (h2 : q < hi) : midL lo hi q ++ [(q : Int)] = midL lo hi (q + 1) := by
  unfold midL
  rw [if_pos (by omega), if_pos (by omega)]
  exact agesL_snoc lo q h1
theorem midL_out (lo hi q : Nat) (h : ¬ (lo ≤ q ∧ q < hi)) : midL lo hi q = midL lo hi (q + 1) := by
  unfold midL
  by_cases h1 : q < lo
  · rw [agesL_none _ _ (by split <;> omega), agesL_none _ _ (by split <;> omega)]
  · by_cases h2 : q = hi
    · rw [if_pos (by omega), if_neg (by omega), h2]
    · rw [if_neg (by omega), if_neg (by omega)]
theorem midL_zero (lo hi : Nat) : midL lo hi 0 = [] := by unfold midL; exact agesL_none _ _ (by split <;> omega)
theorem midL_len (lo hi q : Nat) : (midL lo hi q).length ≤ hi - lo ∧ (midL lo hi q).length ≤ q := by unfold midL; rw [agesL_len]; split <;> omega
/-- how many chunks of a worker begin below q -/
def cntN (S W r q : Nat) : Nat := ((q + S - 1) / S + (W - 1 - r)) / W
theorem up_div (S q : Nat) (hS : 1 ≤ S) : (q + S - 1) / S = if q % S = 0 then q / S else q / S + 1 := by
  have e := Nat.mod_add_div q S
  have hlt := Nat.mod_lt q (show 0 < S by omega)
  split
  · rename_i h
    have : q + S - 1 = (S - 1) + S * (q / S) := by omega
    rw [this, Nat.add_mul_div_left _ _ (by omega), Nat.div_eq_of_lt (by omega)]; omega
  · rename_i h
    have : q + S - 1 = (q % S - 1) + S * (q / S + 1) := by rw [Nat.mul_add]; omega
    rw [this, Nat.add_mul_div_left _ _ (by omega), Nat.div_eq_of_lt (by omega)]; omega
theorem up_next (S q : Nat) (hS : 1 ≤ S) : (q + 1 + S - 1) / S = q / S + 1 := by
  rw [show q + 1 + S - 1 = q + S by omega, Nat.add_div_right _ (by omega)]
theorem cnt_zero (S W r : Nat) (hS : 1 ≤ S) (hr : r < W) : cntN S W r 0 = 0 := by
  unfold cntN
  rw [up_div S 0 hS, if_pos (Nat.zero_mod _), Nat.zero_div]
  exact Nat.div_eq_of_lt (by omega)
/-- behind an age of the worker: how many of its chunks have begun -/
theorem cnt_mine (S W r q : Nat) (hS : 1 ≤ S) (hr : r < W) (ho : q / S % W = r) : cntN S W r (q + 1) = q / S / W + 1 := by
  unfold cntN
  rw [up_next S q hS]
  have e := Nat.mod_add_div (q / S) W
  rw [ho] at e
  have : q / S + 1 + (W - 1 - r) = 0 + W * (q / S / W + 1) := by rw [Nat.mul_add]; omega
  rw [this, Nat.add_mul_div_left _ _ (by omega), Nat.zero_div]; omega
theorem cnt_begin (S W r q : Nat) (hS : 1 ≤ S) (hr : r < W) (ho : q / S % W = r) (hz : q % S = 0) : cntN S W r (q + 1) = cntN S W r q + 1 := by
  rw [cnt_mine S W r q hS hr ho]
  unfold cntN
  rw [up_div S q hS, if_pos hz]
  have e := Nat.mod_add_div (q / S) W
  rw [ho] at e
  have : q / S + (W - 1 - r) = (W - 1) + W * (q / S / W) := by omega
  rw [this, Nat.add_mul_div_left _ _ (by omega), Nat.div_eq_of_lt (show W - 1 < W by omega)]; omega
theorem cnt_within (S W r q : Nat) (hS : 1 ≤ S) (hz : ¬ q % S = 0) : cntN S W r (q + 1) = cntN S W r q := by
  unfold cntN
  rw [up_next S q hS, up_div S q hS, if_neg hz]
theorem cnt_other (S W r q : Nat) (hS : 1 ≤ S) (hr : r < W) (ho : ¬ q / S % W = r) : cntN S W r (q + 1) = cntN S W r q := by
  by_cases hz : q % S = 0
  · unfold cntN
    rw [up_next S q hS, up_div S q hS, if_pos hz]
    have e := Nat.mod_add_div (q / S) W
    have hlt := Nat.mod_lt (q / S) (show 0 < W by omega)
    generalize q / S % W = m at *
    have e1 : q / S + 1 + (W - 1 - r) = (m + W - r) + W * (q / S / W) := by omega
    have e2 : q / S + (W - 1 - r) = (m + W - 1 - r) + W * (q / S / W) := by omega
    rw [e1, e2, Nat.add_mul_div_left _ _ (by omega), Nat.add_mul_div_left _ _ (by omega)]
    congr 1
    rcases Nat.lt_or_ge m r with h | h
    · rw [Nat.div_eq_of_lt (by omega), Nat.div_eq_of_lt (by omega)]
    · have a1 : m + W - r = (m - r) + W * 1 := by omega
      have a2 : m + W - 1 - r = (m - r - 1) + W * 1 := by omega
      rw [a1, a2, Nat.add_mul_div_left _ _ (by omega), Nat.add_mul_div_left _ _ (by omega), Nat.div_eq_of_lt (by omega), Nat.div_eq_of_lt (by omega)]
  · exact cnt_within S W r q hS hz
theorem cnt_le (S W r q : Nat) (hS : 1 ≤ S) (hW : 1 ≤ W) : cntN S W r q ≤ q + W := by
  unfold cntN
  have h1 := Nat.div_le_self (((q + S - 1) / S + (W - 1 - r))) W
  have h2 : (q + S - 1) / S ≤ q := by
    rw [up_div S q hS]
    split
    · exact Nat.div_le_self _ _
    · rename_i h
      have e := Nat.mod_add_div q S
      have := Nat.le_mul_of_pos_left (q / S) (show 0 < S by omega)
      omega
  omega
/-- the whole, as from says -/
theorem mid_from (n first s : Nat) (hs : 1 ≤ s) : ∃ a b : Nat, fromP (n : Int) (first : Int) (s : Int) = ((a : Int), (b : Int)) ∧ midL first (first + s) n = agesL a b ∧ ((midL first (first + s) n).length = 0 ↔ ¬ (first : Int) < (n : Int)) := by
  by_cases q : (first : Int) < (n : Int)
  · rw [from_in q]
    by_cases q2 : (first : Int) + (s : Int) ≤ (n : Int)
    · rw [if_pos q2]
      refine ⟨first, first + s, by simp, ?_, ?_⟩
      · unfold midL
        by_cases q3 : n ≤ first + s
        · rw [if_pos q3, show n = first + s by omega]
        · rw [if_neg q3]
      · unfold midL; rw [agesL_len]; split <;> omega
    · rw [if_neg q2]
      refine ⟨first, n, rfl, ?_, ?_⟩
      · unfold midL; rw [if_pos (by omega)]
      · unfold midL; rw [agesL_len]; split <;> omega
  · rw [from_out q]
    refine ⟨0, 0, rfl, ?_, ?_⟩
    · unfold midL; rw [agesL_none _ _ (by split <;> omega), agesL_none _ _ (by omega)]
    · unfold midL; rw [agesL_len]; split <;> omega
/-- the share, counted up -/
theorem share_is (m W q : Nat) (hW : 1 ≤ W) (h1 : ¬ q * 2 * W < m) (h2 : q = 0 ∨ (q - 1) * 2 * W < m) : (m + 2 * W - 1) / (2 * W) = q := by
  rcases Nat.eq_zero_or_pos q with h0 | h0
  · subst h0
    exact Nat.div_eq_of_lt (by omega)
  · have h2 : (q - 1) * 2 * W < m := by omega
    obtain ⟨q', rfl⟩ : ∃ q', q = q' + 1 := ⟨q - 1, by omega⟩
    have e1 : (q' + 1) * 2 * W = 2 * W * q' + 2 * W := by rw [Nat.mul_assoc, Nat.mul_comm, Nat.mul_add]; omega
    have e2 : (q' + 1 - 1) * 2 * W = 2 * W * q' := by rw [Nat.add_sub_cancel, Nat.mul_assoc, Nat.mul_comm]
    rw [e1] at h1
    rw [e2] at h2
    rw [Nat.div_eq_iff (by omega)]
    have e3 : (q' + 1) * (2 * W) = 2 * W * q' + 2 * W := by rw [Nat.mul_comm, Nat.mul_add]; omega
    rw [e3]
    omega
end Go.Proofs.Ytamlnagipmomgaa
