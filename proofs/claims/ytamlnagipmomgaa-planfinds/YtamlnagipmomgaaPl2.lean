/- Plans: how many tasks a shape has. -/
import Derived.Test.YtamlnagipmomgaaPl1
namespace Go.Proofs.Ytamlnagipmomgaa
open Go.RowKit
set_option linter.unusedVariables false

/-- how many a loop has -/
def forN (lo hi st : Int) : Int := if leadsB lo hi st = true then wayI lo hi st / wideI st + (if 0 < wayI lo hi st % wideI st then 1 else 0) else 0
def farI (lo hi st : Int) : Int := if st < 0 then lo - hi else hi - lo
theorem leads_far (lo hi st : Int) : leadsB lo hi st = true ↔ 0 < farI lo hi st := by unfold leadsB farI; split <;> simp <;> omega
theorem way_far (lo hi st : Int) (h0 : R64 lo) (h1 : R64 hi) (h : 0 ≤ farI lo hi st) : wayI lo hi st = farI lo hi st := by
  unfold wayI farI at *; unfold R64 at h0 h1; split <;> simp_all <;> omega
theorem for_spec (lo hi st : Int) (h0 : R64 lo) (h1 : R64 hi) (h2 : R64 st) (h3 : st ≠ 0) : 0 ≤ forN lo hi st ∧ farI lo hi st ≤ forN lo hi st * wideI st ∧ ∀ a, 0 ≤ a → a < forN lo hi st → a * wideI st < farI lo hi st := by
  have hw := (wide_bd st h2 h3).1
  by_cases hl : leadsB lo hi st = true
  · have hf := (leads_far lo hi st).1 hl
    have e := way_far lo hi st h0 h1 (by omega)
    unfold forN
    rw [if_pos hl, e]
    generalize farI lo hi st = D at *
    generalize wideI st = W at *
    have e1 := Int.emod_add_mul_ediv D W
    have e2 := Int.emod_nonneg D (show W ≠ 0 by omega)
    have e3 := Int.emod_lt_of_pos D hw
    have e4 := Int.ediv_nonneg (Int.le_of_lt hf) (Int.le_of_lt hw)
    generalize D / W = q at *
    generalize D % W = r at *
    rw [Int.mul_comm] at e1
    split
    · refine ⟨by omega, by rw [Int.add_mul]; omega, fun a ha hb => ?_⟩
      have := Int.mul_le_mul_of_nonneg_right (show a ≤ q by omega) (Int.le_of_lt hw)
      omega
    · refine ⟨by omega, by rw [Int.add_mul]; omega, fun a ha hb => ?_⟩
      have := Int.mul_lt_mul_of_pos_right (show a < q by omega) hw
      omega
  · have hf : ¬ 0 < farI lo hi st := fun h => hl ((leads_far lo hi st).2 h)
    unfold forN
    rw [if_neg hl]
    exact ⟨by omega, by omega, fun a _ _ => by omega⟩
theorem step_wide (a st : Int) : a * st = if st < 0 then -(a * wideI st) else a * wideI st := by
  unfold wideI; split
  · rw [Int.mul_neg]; omega
  · rfl
theorem at_bd (lo hi st a : Int) (h0 : R64 lo) (h1 : R64 hi) (h2 : R64 st) (h3 : st ≠ 0) (ha : 0 ≤ a) (hb : a < forN lo hi st) : R64 (lo + a * st) := by
  have h := (for_spec lo hi st h0 h1 h2 h3).2.2 a ha hb
  have hw := (wide_bd st h2 h3).1
  have hn := Int.mul_nonneg ha (Int.le_of_lt hw)
  rw [step_wide]
  generalize a * wideI st = X at *
  unfold farI at h
  unfold R64 at *
  split <;> simp_all <;> omega

def countF (lo hi st it sg : Int) : Int × Int := if it ≠ 0 ∨ sg ≠ 0 then (0, 152) else if st = 0 then (0, 150) else if 200 < forN lo hi st then (0, 151) else (forN lo hi st, 0)
def countP (lo hi st it sg : Int) : Int × Int := if lo ≠ 0 ∨ hi ≠ 0 ∨ st ≠ 0 then (0, 152) else if it < 0 ∨ sg < 1 ∨ 6 < sg then (0, 152) else if 200 / sg < it then (0, 151) else (it * sg, 0)
def countI (k lo hi st it sg : Int) : Int × Int := if k = 1 then countF lo hi st it sg else if k = 2 then countP lo hi st it sg else (0, 152)
def two (x : Int × Int) : Value := .tuple #[.int .i64 x.1, .int .i64 x.2]

theorem mul_bd {a b : Int} (ha : 0 ≤ a ∧ a ≤ 200) (hb : 0 ≤ b ∧ b ≤ 6) : 0 ≤ a * b ∧ a * b ≤ 1200 := by
  have h1 := Int.mul_nonneg ha.1 hb.1
  have h2 := Int.mul_le_mul ha.2 hb.2 hb.1 (by omega : (0 : Int) ≤ 200)
  omega
theorem w64in (n : Int) (h : -9223372036854775808 ≤ n ∧ n ≤ 9223372036854775807) : wrap64 n = n := by unfold wrap64; omega
theorem two_eq {x : Int × Int} {a b : Int} (h : x = (a, b)) : two x = .tuple #[.int .i64 a, .int .i64 b] := by rw [h]; rfl
set_option maxRecDepth 100000 in
set_option maxHeartbeats 2000000 in
theorem countPipe_any (k lo hi st it sg : Int) (w : World) : Calls Try.prog 24 #[shV k lo hi st it sg] w fun e w' => e = .returned (two (countP lo hi st it sg)) ∧ Below w.heap.size w w' := by
  unfold shV
  by_cases h1 : lo = 0
  · by_cases h2 : hi = 0
    · by_cases h3 : st = 0
      · by_cases h4 : it < 0
        · rw [two_eq (show countP lo hi st it sg = (0, 152) by simp [countP, h1, h2, h3, h4])]
          go_enter Try.func24, Try.ntmps24
          go_wp2
          go_ret2
          exact ⟨rfl, bl1 _ _⟩
        by_cases h5 : sg < 1
        · rw [two_eq (show countP lo hi st it sg = (0, 152) by simp [countP, h1, h2, h3, h5])]
          go_enter Try.func24, Try.ntmps24
          go_wp2
          go_ret2
          exact ⟨rfl, bl1 _ _⟩
        by_cases h6 : 6 < sg
        · rw [two_eq (show countP lo hi st it sg = (0, 152) by simp [countP, h1, h2, h3, h6])]
          go_enter Try.func24, Try.ntmps24
          go_wp2
          go_ret2
          exact ⟨rfl, bl1 _ _⟩
        have hs : sg ≠ 0 := by omega
        have hq : Int.tdiv 200 sg = 200 / sg := Int.tdiv_eq_ediv_of_nonneg (by omega)
        have hd : 200 / sg ≤ 200 := Int.ediv_le_self _ (by omega)
        have hd0 : 0 ≤ 200 / sg := Int.ediv_nonneg (by omega) (by omega)
        have hw7 : wrap64 (200 / sg) = 200 / sg := w64in _ ⟨by omega, by omega⟩
        by_cases h7 : 200 / sg < it
        · rw [two_eq (show countP lo hi st it sg = (0, 151) by simp only [countP]; rw [if_neg (by omega), if_neg (by omega), if_pos h7])]
          go_enter Try.func24, Try.ntmps24
          go_wp2_with fail
          go_quiet (fail)
          go_wp2
          go_ret2
          exact ⟨rfl, bl2 _ _ _⟩
        · rw [two_eq (show countP lo hi st it sg = (it * sg, 0) by simp only [countP]; rw [if_neg (by omega), if_neg (by omega), if_neg h7])]
          have HM : Hid (wrap64 (it * sg) = it * sg) := w64in _ (by have := mul_bd (a := it) (b := sg) ⟨by omega, by omega⟩ ⟨by omega, by omega⟩; omega)
          go_enter Try.func24, Try.ntmps24
          go_wp2_with fail
          go_quiet (fail)
          go_wp2
          go_ret2
          exact ⟨by show Ending.returned (.tuple #[.int .i64 (wrap64 (it * sg)), .int .i64 0]) = _; rw [HM.out], bl2 _ _ _⟩
      · rw [two_eq (show countP lo hi st it sg = (0, 152) by simp [countP, h3])]
        go_enter Try.func24, Try.ntmps24
        go_wp2
        go_ret2
        exact ⟨rfl, bl1 _ _⟩
    · rw [two_eq (show countP lo hi st it sg = (0, 152) by simp [countP, h2])]
      go_enter Try.func24, Try.ntmps24
      go_wp2
      go_ret2
      exact ⟨rfl, bl1 _ _⟩
  · rw [two_eq (show countP lo hi st it sg = (0, 152) by simp [countP, h1])]
    go_enter Try.func24, Try.ntmps24
    go_wp2
    go_ret2
    exact ⟨rfl, bl1 _ _⟩
end Go.Proofs.Ytamlnagipmomgaa
