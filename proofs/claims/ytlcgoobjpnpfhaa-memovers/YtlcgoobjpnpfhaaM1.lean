/- Cells: the last one of a place; rows of cells of the call's own. -/
import Derived.Test.YtlcgoobjpnpfhaaHp4
import Derived.Test.YtlcgoobjpnpfhaaApp
namespace Go.Proofs.Ytlcgoobjpnpfhaa
open Go.RowKit Go.Maps
set_option linter.unusedVariables false

theorem GSl.blk {w : World} {g : Nat} {l : List Int} (h : w.heap[g]? = some (.cells (ints l) 2)) (hl : l.length ≤ 1000) : GSl w (.slice (some ⟨g, 0, none⟩) l.length l.length) l :=
  ⟨_, _, g, 0, rfl, Nat.le_refl _, by unfold maxLen; omega, fun _ => rfl, fun i hi => by rw [Nat.zero_add, cell_of_row w g i _ _ _ h, ints_at _ _ hi]⟩
set_option maxRecDepth 100000 in
set_option maxHeartbeats 2000000 in
theorem row_same (G : List Int) (u v : Value) (hl : G.length ≤ 4000) (w : World) (hu : GSl w u G) (hv : GSl w v G) : Calls Try.prog 11 #[u, v] w fun e w' => e = .returned (.bool true) ∧ Below w.heap.size w w' := by
  obtain ⟨a1, c1, b1, o1, rfl, h2, h3, h4, h5⟩ := hu
  obtain ⟨a2, c2, b2, o2, rfl, k2, k3, k4, k5⟩ := hv
  obtain ⟨N, hN⟩ : ∃ N, G.length = N := ⟨_, rfl⟩
  have HN : Hid (G.length = N) := hN
  have H5 : Hid (∀ i (h : i < G.length), w.cell? ⟨b1, o1 + i, none⟩ = some (.int .i64 G[i])) := h5
  have K5 : Hid (∀ i (h : i < G.length), w.cell? ⟨b2, o2 + i, none⟩ = some (.int .i64 G[i])) := k5
  rw [hN] at h2 h4 k2 k4 hl ⊢
  have H4 : Hid (0 < N → a1 = some ⟨b1, o1, none⟩) := h4
  have K4 : Hid (0 < N → a2 = some ⟨b2, o2, none⟩) := k4
  unfold maxLen at h3 k3
  clear hN h5 k5 h4 k4
  go_enter Try.func11, Try.ntmps11
  go_wp2_with fail
  go_loopw [5] (fun i wr => ∃ q : Nat, i = .int .i64 (q : Int) ∧ q ≤ N ∧ Below w.heap.size w wr) (fun i _ => N - (intOf i).toNat)
  case atStart => exact ⟨0, rfl, Nat.zero_le _, Below.refl _ _⟩
  case round =>
    obtain ⟨q, rfl, hq, hb⟩ := hrel
    have HB : Hid (Below w.heap.size w wr) := hb
    by_cases hlt : q < N
    · obtain rfl := H4.out (by omega)
      obtain rfl := K4.out (by omega)
      obtain ⟨z, hz⟩ : ∃ z, G[q]'(by rw [HN.out]; exact hlt) = z := ⟨_, rfl⟩
      have d1 : wr.cell? ⟨b1, o1 + q, none⟩ = some (.int .i64 z) := by
        have := H5.out q (by rw [HN.out]; exact hlt)
        rw [hz] at this
        exact (hb.cell (p := ⟨b1, o1 + q, none⟩) (World.block_lt_of_cell? w _ this)).trans this
      have d2 : wr.cell? ⟨b2, o2 + q, none⟩ = some (.int .i64 z) := by
        have := K5.out q (by rw [HN.out]; exact hlt)
        rw [hz] at this
        exact (hb.cell (p := ⟨b2, o2 + q, none⟩) (World.block_lt_of_cell? w _ this)).trans this
      have e1 : decide ((q : Int) < (N : Int)) = true := by simp; omega
      clear hz hb
      have hzz : (z != z) = false := by simp
      go_wp2_with fail
      go_region_held3 (fun w' => w'.cell? ⟨b1, o1 + q, none⟩ = some (.int .i64 z) ∧ w'.cell? ⟨b2, o2 + q, none⟩ = some (.int .i64 z)) (go_keep) (fail)
      go_wp2_with fail
      go_roundw
      case rel => exact ⟨q + 1, by go_num, by omega, HB.out.drew⟩
      case measure => simp [intOf]; omega
    · have e1 : decide ((q : Int) < (N : Int)) = false := by simp; omega
      clear hb
      go_wp2
      go_ret
      exact ⟨rfl, HB.out⟩

def withinB (n m : Int) : Bool := decide (0 ≤ n ∧ n < m)
set_option maxRecDepth 100000 in
set_option maxHeartbeats 1000000 in
theorem within_any (n m : Int) (w : World) : Calls Try.prog 34 #[.int .i64 n, .int .i64 m] w fun e w' => e = .returned (.bool (withinB n m)) ∧ w' = w := by
  go_enter Try.func34, Try.ntmps34
  go_wp2
  all_goals (go_ret; exact ⟨ret_b (by unfold withinB; simp_all; try omega), rfl⟩)

/-- the last cell of a place -/
def lastC : List (Int × Int) → Int → Option Int
  | [], _ => none
  | c :: r, k => match lastC r k with
    | some v => some v
    | none => if c.1 = k then some c.2 else none
theorem lastC_snoc (C : List (Int × Int)) (c : Int × Int) (k : Int) : lastC (C ++ [c]) k = if c.1 = k then some c.2 else lastC C k := by
  induction C with
  | nil => simp [lastC]
  | cons x C ih =>
    by_cases h : c.1 = k
    · rw [if_pos h] at ih ⊢; simp [lastC, ih]
    · rw [if_neg h] at ih ⊢; simp [lastC, ih]

set_option maxRecDepth 100000 in
set_option maxHeartbeats 2000000 in
theorem last_any (C : List (Int × Int)) (v : Value) (k : Int) (hl : C.length ≤ 100000) (w : World) (hv : PSl w v C) : Calls Try.prog 35 #[v, .int .i64 k] w fun e w' => e = .returned (.tuple #[.int .i64 ((lastC C k).getD 0), .bool (lastC C k).isSome]) ∧ w' = w := by
  obtain ⟨a1, c1, b1, o1, rfl, h2, h3, h4, h5⟩ := hv
  obtain ⟨N, hN⟩ : ∃ N, C.length = N := ⟨_, rfl⟩
  have HN : Hid (C.length = N) := hN
  have H5 : Hid (∀ i (h : i < C.length), w.cell? ⟨b1, o1 + i * 2, none⟩ = some (.int .i64 C[i].1) ∧ w.cell? ⟨b1, o1 + (i * 2 + 1), none⟩ = some (.int .i64 C[i].2)) := h5
  have H4 : Hid (0 < C.length → a1 = some ⟨b1, o1, none⟩) := h4
  obtain ⟨r, hr⟩ : ∃ r, lastC C k = r := ⟨_, rfl⟩
  have HR : Hid (lastC C k = r) := hr
  rw [hr, hN]
  rw [hN] at h2 hl
  unfold maxLen at h3
  clear hN h5 h4 hr
  go_enter Try.func35, Try.ntmps35
  go_wp2_with fail
  go_loopw [6] (fun i wr => ∃ p : Nat, i = .int .i64 ((p : Int) - 1) ∧ p ≤ N ∧ Hid (lastC (C.take p) k = r) ∧ Hid (wr = w)) (fun i _ => (intOf i + 1).toNat)
  case atStart => exact ⟨N, rfl, Nat.le_refl _, by show _ = _; rw [List.take_of_length_le (by rw [HN.out]; exact Nat.le_refl _)]; exact HR.out, rfl⟩
  case round =>
    obtain ⟨p, rfl, hp, HL, HW⟩ := hrel
    rw [HW.out]
    cases p with
    | zero =>
      have hr0 : r = none := by have := HL.out; simp [lastC] at this; exact this.symm
      subst hr0
      go_wp2
      go_ret2
      exact ⟨rfl, rfl⟩
    | succ q =>
      have q1 : q < C.length := by rw [HN.out]; omega
      obtain rfl := H4.out (by omega)
      obtain ⟨z, hz⟩ : ∃ z, C[q] = z := ⟨_, rfl⟩
      obtain ⟨x, y⟩ := z
      have d1 : w.cell? ⟨b1, o1 + q * 2, none⟩ = some (.int .i64 x) := by rw [(H5.out q q1).1, hz]
      have d2 : w.cell? ⟨b1, o1 + q * 2 + 1, none⟩ = some (.int .i64 y) := by have := (H5.out q q1).2; rw [hz] at this; exact this
      have d3 : w.cell? ⟨b1, o1 + (q * 2 + 1), none⟩ = some (.int .i64 y) := d2
      have HS : Hid ((if x = k then some y else lastC (C.take q) k) = r) := by
        have := HL.out
        rw [List.take_succ_eq_append_getElem q1, lastC_snoc, hz] at this
        exact this
      have eq : ((q + 1 : Nat) : Int) - 1 = (q : Int) := by omega
      rw [eq]
      clear hz eq
      by_cases hx : x = k
      · have hr1 : r = some y := by have := HS.out; rw [if_pos hx] at this; exact this.symm
        subst hr1 hx
        have e1 : (x == x) = true := by simp
        go_wp2
        go_ret2
        exact ⟨rfl, rfl⟩
      · have e1 : (x == k) = false := by simpa using hx
        have HL2 : Hid (lastC (C.take q) k = r) := by have := HS.out; rw [if_neg hx] at this; exact this
        go_wp2_with fail
        go_roundw
        case rel => exact ⟨q, rfl, by omega, HL2, trivial⟩
        case measure => first | (simp [intOf]; done) | (simp [intOf]; omega)
end Go.Proofs.Ytlcgoobjpnpfhaa
