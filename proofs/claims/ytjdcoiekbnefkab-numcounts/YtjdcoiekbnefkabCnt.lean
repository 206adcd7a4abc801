/- What num.Plus and num.Times answer. -/
import Derived.Test.YtjdcoiekbnefkabRows
import Derived.WalkKit
import Derived.WalkSpells
import Derived.WalkLawsBesides
import Derived.Handy
namespace Go.Proofs.Ytjdcoiekbnefkab
open Go.RowKit

def cnt (a : Int) : Int := if a < 0 then 0 else a
def plusV (a b : Int) : Int := if cnt a + cnt b ≤ 9223372036854775807 then cnt a + cnt b else 9223372036854775807
def timesV (a b : Int) : Int := if cnt a * cnt b ≤ 9223372036854775807 then cnt a * cnt b else 9223372036854775807

theorem cnt_neg {a : Int} (h : a < 0) : cnt a = 0 := by unfold cnt; rw [if_pos h]
theorem cnt_pos {a : Int} (h : ¬ a < 0) : cnt a = a := by unfold cnt; rw [if_neg h]

theorem ret_int {k : IntKind} {a b : Int} (h : a = b) : Ending.returned (.int k a) = .returned (.int k b) := by rw [h]
theorem wrap0 : wrap64 0 = 0 := by unfold wrap64; omega
theorem wrapIn {x : Int} (h1 : 0 ≤ x) (h2 : x ≤ 9223372036854775807) : wrap64 x = x := by unfold wrap64; omega

set_option maxHeartbeats 1000000 in
theorem plus_any (a b : Int) (ha : -9223372036854775808 ≤ a ∧ a ≤ 9223372036854775807) (hb : -9223372036854775808 ≤ b ∧ b ≤ 9223372036854775807) (w : World) :
    Calls Try.prog 15 #[.int .i64 a, .int .i64 b] w fun e w' => e = .returned (.int .i64 (plusV a b)) ∧ w' = w := by
  obtain ⟨ha1, ha2⟩ := ha
  obtain ⟨hb1, hb2⟩ := hb
  by_cases h1 : a < 0
  · by_cases h2 : b < 0
    · go_enter Try.func15, Try.ntmps15
      go_wp2
      go_ret
      exact ⟨ret_int (by unfold plusV; rw [cnt_neg h1, cnt_neg h2]; try simp), rfl⟩
    · go_enter Try.func15, Try.ntmps15
      go_wp2
      go_ret
      exact ⟨ret_int (by unfold plusV; rw [cnt_neg h1, cnt_pos (by omega), if_pos (by omega)]; try simp), rfl⟩
  · by_cases h2 : b < 0
    · go_enter Try.func15, Try.ntmps15
      go_wp2
      go_ret
      exact ⟨ret_int (by unfold plusV; rw [cnt_neg h2, cnt_pos (by omega), if_pos (by omega)]; try simp), rfl⟩
    · by_cases h3 : a + b ≤ 9223372036854775807
      · go_enter Try.func15, Try.ntmps15
        go_wp2
        go_ret
        exact ⟨ret_int (by unfold plusV; rw [cnt_pos (by omega), cnt_pos (by omega), if_pos (by omega)]; try simp), rfl⟩
      · go_enter Try.func15, Try.ntmps15
        go_wp2
        go_ret
        exact ⟨ret_int (by unfold plusV; rw [cnt_pos (by omega), cnt_pos (by omega), if_neg (by omega)]; try simp), rfl⟩

theorem mul_div_iff (a b : Int) (hb : 0 < b) : 9223372036854775807 / b < a ↔ ¬ a * b ≤ 9223372036854775807 := by
  constructor
  · intro h h2
    have := Int.le_ediv_of_mul_le hb h2
    omega
  · intro h
    apply Int.ediv_lt_of_lt_mul hb
    omega

set_option maxHeartbeats 1000000 in
theorem times_any (a b : Int) (ha : -9223372036854775808 ≤ a ∧ a ≤ 9223372036854775807) (hb : -9223372036854775808 ≤ b ∧ b ≤ 9223372036854775807) (w : World) :
    Calls Try.prog 16 #[.int .i64 a, .int .i64 b] w fun e w' => e = .returned (.int .i64 (timesV a b)) ∧ w' = w := by
  obtain ⟨ha1, ha2⟩ := ha
  obtain ⟨hb1, hb2⟩ := hb
  by_cases h2 : b ≤ 0
  · have e2 : cnt b = 0 := by unfold cnt; split <;> omega
    have et : timesV a b = 0 := by unfold timesV; rw [e2, Int.mul_zero, if_pos (by omega)]
    have ET : Hid (timesV a b = 0) := et
    clear et e2
    by_cases h0 : b = 0
    · subst h0
      by_cases h1 : a < 0
      · go_enter Try.func16, Try.ntmps16
        go_wp2
        go_ret
        exact ⟨ret_int (by rw [ET.out]), rfl⟩
      · go_enter Try.func16, Try.ntmps16
        go_wp2
        go_ret
        exact ⟨ret_int (by rw [ET.out]), rfl⟩
    · have h3 : b < 0 := by omega
      by_cases h1 : a < 0
      · go_enter Try.func16, Try.ntmps16
        go_wp2
        go_ret
        exact ⟨ret_int (by rw [ET.out]), rfl⟩
      · go_enter Try.func16, Try.ntmps16
        go_wp2
        go_ret
        exact ⟨ret_int (by rw [ET.out]), rfl⟩
  · have h2' : ¬ b < 0 := by omega
    have hbp : 0 < b := by omega
    by_cases h1 : a < 0
    · have hd : 0 ≤ 9223372036854775807 / b := Int.ediv_nonneg (by omega) (by omega)
      go_enter Try.func16, Try.ntmps16
      go_wp2
      go_ret
      exact ⟨ret_int (by unfold timesV; rw [cnt_neg h1, Int.zero_mul, if_pos (by omega)]), rfl⟩
    · have hm := mul_div_iff a b hbp
      by_cases h3 : a * b ≤ 9223372036854775807
      · have h4 : ¬ 9223372036854775807 / b < a := by rw [hm]; omega
        have h5 : 0 ≤ a * b := Int.mul_nonneg (by omega) (by omega)
        clear hm
        go_enter Try.func16, Try.ntmps16
        go_wp2
        go_ret
        exact ⟨ret_int (by unfold timesV; rw [cnt_pos (show ¬ a < 0 by omega), cnt_pos (show ¬ b < 0 by omega), if_pos h3]), rfl⟩
      · have h4 : 9223372036854775807 / b < a := by rw [hm]; exact h3
        clear hm
        go_enter Try.func16, Try.ntmps16
        go_wp2
        go_ret
        exact ⟨ret_int (by unfold timesV; rw [cnt_pos (show ¬ a < 0 by omega), cnt_pos (show ¬ b < 0 by omega), if_neg (by omega)]), rfl⟩
end Go.Proofs.Ytjdcoiekbnefkab
