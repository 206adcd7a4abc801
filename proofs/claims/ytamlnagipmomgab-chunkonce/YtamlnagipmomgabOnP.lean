/- In the end all ages are dealt out. -/
import Derived.Test.YtamlnagipmomgabLsA
namespace Go.Proofs.Ytamlnagipmomgab
open Go.RowKit Go.Maps
set_option linter.unusedVariables false

/-- there is nothing more for a worker -/
def doneB (p : Int) (s n : Nat) (next : Int) (turns : List Int) (r : Nat) : Prop := if p = 1 then (n : Int) ≤ ownI (s : Int) turns.length r (turns.getD r 0) else (n : Int) ≤ next
def progI (p next : Int) (turns : List Int) (r : Nat) : Int := if p = 1 then turns.getD r 0 else next
/-- where a worker's next chunk begins at least -/
def lowI (p : Int) (s : Nat) (next : Int) (turns : List Int) (r : Nat) : Int := if p = 1 then ownI (s : Int) turns.length r (turns.getD r 0) else next
section
variable {p size many next : Int} {turns : List Int} {s n : Nat}
theorem own_next (s W r : Nat) (T : Int) : ownI (s : Int) W r (T + 1) = ownI (s : Int) W r T + (W : Int) * (s : Int) := by
  unfold ownI
  rw [show (T + 1) * (W : Int) = T * (W : Int) + (W : Int) by rw [Int.add_mul, Int.one_mul], ← Int.add_assoc, Int.add_mul ((r : Int) + T * (W : Int))]
theorem getD_set_same (turns : List Int) (k : Nat) (hk : k < turns.length) (z : Int) : (turns.set k z).getD k 0 = z := by simp [List.getD, hk]
theorem getD_set_other (turns : List Int) (k r : Nat) (h : r ≠ k) (z : Int) : (turns.set k z).getD r 0 = turns.getD r 0 := by
  simp only [List.getD]; rw [List.getElem?_set_ne (by omega)]
/-- an ask, as the workers see it -/
theorem ask_prog (h : OkD p size many next turns s n) (wk : Int) (r : Nat) (hr : r < turns.length) :
    lowI p s next turns r ≤ lowI p s (askN p size many next turns wk) (askT p size many next turns wk) r ∧
    progI p next turns r ≤ progI p (askN p size many next turns wk) (askT p size many next turns wk) r ∧
    (wk = (r : Int) → (askX p size many next turns wk).1 < (askX p size many next turns wk).2 → lowI p s next turns r ≤ (askX p size many next turns wk).1 ∧ (askX p size many next turns wk).2 ≤ lowI p s (askN p size many next turns wk) (askT p size many next turns wk) r) ∧
    (wk = (r : Int) → (n : Int) ≤ lowI p s next turns r ∨ progI p next turns r + 1 ≤ progI p (askN p size many next turns wk) (askT p size many next turns wk) r) := by
  have hm := h.hm
  have hs1 := h.s1
  have hsz := h.hs
  have hn := h.hn
  by_cases hin : 0 ≤ wk ∧ wk < turns.length
  · obtain ⟨k, rfl⟩ : ∃ k : Nat, wk = (k : Int) := ⟨wk.toNat, by omega⟩
    have hk : k < turns.length := by omega
    by_cases hp : p = 1
    · obtain ⟨T, t1, t2, t3, t4, t5⟩ := ask_own h hp k hk
      rw [t3, t4, t5]
      have eo : ownI (s : Int) turns.length k (T : Int) = (((k + T * turns.length) * s : Nat) : Int) := own_cast k T turns.length rfl
      unfold lowI progI
      simp only [if_pos hp]
      by_cases q : (((k + T * turns.length) * s : Nat) : Int) < many
      · rw [if_pos q, List.length_set]
        by_cases hrk : r = k
        · subst hrk
          rw [getD_set_same _ _ hk, t2, own_next, eo]
          have hWs : (s : Int) ≤ (turns.length : Int) * (s : Int) := by
            have := Int.mul_le_mul_of_nonneg_right (show (1 : Int) ≤ (turns.length : Int) by omega) (show (0 : Int) ≤ (s : Int) by omega)
            omega
          refine ⟨by omega, by omega, fun _ _ => ?_, fun _ => .inr (by omega)⟩
          rw [from_in q]
          refine ⟨Int.le_refl _, ?_⟩
          show (if (((r + T * turns.length) * s : Nat) : Int) + size ≤ many then (((r + T * turns.length) * s : Nat) : Int) + size else many) ≤ (((r + T * turns.length) * s : Nat) : Int) + (turns.length : Int) * (s : Int)
          split <;> omega
        · rw [getD_set_other _ _ _ hrk]
          exact ⟨Int.le_refl _, Int.le_refl _, fun e => absurd e (by omega), fun e => absurd e (by omega)⟩
      · rw [if_neg q, from_out q]
        refine ⟨Int.le_refl _, Int.le_refl _, fun _ e => absurd e (by simp), fun e => .inl ?_⟩
        have : r = k := by omega
        subst this
        rw [t2, eo]; omega
    · obtain ⟨sz, z1, z2, z3, z4⟩ := ask_rest h hp k hk
      rw [z2, z3, z4]
      unfold lowI progI
      simp only [if_neg hp]
      by_cases q : next < many
      · rw [from_in q]
        simp only []
        refine ⟨?_, ?_, fun _ _ => ⟨Int.le_refl _, ?_⟩, fun _ => .inr ?_⟩ <;> split <;> omega
      · rw [from_out q]
        exact ⟨by simp only []; omega, by simp only []; omega, fun _ e => absurd e (by simp), fun _ => .inl (by omega)⟩
  · obtain ⟨e1, e2, e3⟩ := ask_none (p := p) (size := size) (many := many) (next := next) hin
    rw [e1, e2, e3]
    exact ⟨Int.le_refl _, Int.le_refl _, fun _ e => absurd e (by simp), fun e => absurd e (by omega)⟩
/-- once there is nothing more for anyone, all are dealt out -/
theorem all_dl (h : OkD p size many next turns s n) (hd : ∀ r, r < turns.length → (n : Int) ≤ lowI p s next turns r) (a : Nat) (ha : a < n) : dl p s next turns a = true := by
  have hs1 := h.s1
  have hl := h.hl
  unfold dl
  by_cases hp : p = 1
  · rw [if_pos hp]
    have hr : a / s % turns.length < turns.length := Nat.mod_lt _ (by omega)
    have hd := hd _ hr
    unfold lowI at hd
    rw [if_pos hp] at hd
    have ht : 0 ≤ turns.getD (a / s % turns.length) 0 := by
      simp only [List.getD]
      rw [List.getElem?_eq_getElem hr]
      exact h.ht _ (List.getElem_mem _)
    obtain ⟨T, hT⟩ : ∃ T : Nat, turns.getD (a / s % turns.length) 0 = (T : Int) := ⟨(turns.getD (a / s % turns.length) 0).toNat, by omega⟩
    rw [hT] at hd ⊢
    rw [own_cast _ _ _ rfl] at hd
    refine decide_eq_true (Int.ofNat_lt.2 ?_)
    refine Nat.lt_of_not_le fun hle => ?_
    have e1 := Nat.mod_add_div (a / s) turns.length
    have e2 : T * turns.length ≤ turns.length * (a / s / turns.length) := by rw [Nat.mul_comm]; exact Nat.mul_le_mul_left _ hle
    have e3 := Nat.mul_le_mul_right s (show a / s % turns.length + T * turns.length ≤ a / s by omega)
    have e4 := Nat.div_mul_le_self a s
    have := Int.ofNat_le.1 hd
    omega
  · rw [if_neg hp]
    have hd := hd 0 (by omega)
    unfold lowI at hd
    rw [if_neg hp] at hd
    exact decide_eq_true (by omega)
/-- so much progress that nothing can be left -/
theorem prog_done (h : OkD p size many next turns s n) (r : Nat) (hr : r < turns.length) (hq : (n : Int) + 1 ≤ progI p next turns r) : (n : Int) ≤ lowI p s next turns r := by
  have hs1 := h.s1
  unfold progI at hq
  unfold lowI
  by_cases hp : p = 1
  · rw [if_pos hp] at hq ⊢
    obtain ⟨T, hT⟩ : ∃ T : Nat, turns.getD r 0 = (T : Int) := ⟨(turns.getD r 0).toNat, by omega⟩
    rw [hT] at hq ⊢
    rw [own_cast _ _ _ rfl]
    have e1 := Nat.le_mul_of_pos_right T (show 0 < turns.length by omega)
    have e2 := Nat.le_mul_of_pos_right (r + T * turns.length) (show 0 < s by omega)
    omega
  · have := h.hn; have := h.hm
    rw [if_neg hp] at hq
    omega
end
/-- the asks that are put behind: each worker in turn -/
def rr (W m : Nat) : List Int := (List.range m).map fun i => ((i % W : Nat) : Int)
theorem rr_len (W m : Nat) : (rr W m).length = m := by simp [rr]
theorem rr_snoc (W m : Nat) : rr W m ++ [((m % W : Nat) : Int)] = rr W (m + 1) := by simp [rr, List.range_succ]
theorem rr_count (W : Nat) (r : Nat) (hr : r < W) : ∀ m, m ≤ (rr W (m * W)).count (r : Int)
  | 0 => Nat.zero_le _
  | m + 1 => by
    have ih := rr_count W r hr m
    have e : rr W ((m + 1) * W) = rr W (m * W) ++ (List.range W).map fun i => (((m * W + i) % W : Nat) : Int) := by
      unfold rr
      rw [Nat.add_mul, Nat.one_mul, List.range_add, List.map_append, List.map_map]
      rfl
    rw [e, List.count_append]
    have : 0 < ((List.range W).map fun i => (((m * W + i) % W : Nat) : Int)).count (r : Int) := by
      rw [List.count_pos_iff]
      refine List.mem_map.2 ⟨r, List.mem_range.2 hr, ?_⟩
      rw [Nat.add_comm, Nat.add_mul_mod_self_right, Nat.mod_eq_of_lt hr]
    omega
end Go.Proofs.Ytamlnagipmomgab
