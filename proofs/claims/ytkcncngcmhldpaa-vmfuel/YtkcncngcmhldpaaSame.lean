/- Two runs that came to the same are found the same. -/
import Derived.Test.YtkcncngcmhldpaaRunX
import Derived.Test.YtkcncngcmhldpaaEq
namespace Go.Proofs.Ytkcncngcmhldpaa
open Go.RowKit Go.Maps
set_option linter.unusedVariables false

set_option maxRecDepth 100000 in
set_option maxHeartbeats 2000000 in
theorem row_same (G : List Int) (u v : Value) (hl : G.length ≤ 4000) (w : World) (hu : GSl w u G) (hv : GSl w v G) : Calls Try.prog 20 #[u, v] w fun e w' => e = .returned (.bool true) ∧ Below w.heap.size w w' := by
  obtain ⟨a1, c1, b1, o1, rfl, h2, h3, h4, h5⟩ := hu
  obtain ⟨a2, c2, b2, o2, rfl, k2, k3, k4, k5⟩ := hv
  obtain ⟨N, hN⟩ : ∃ N, G.length = N := ⟨_, rfl⟩
  have HN : Hid (G.length = N) := hN
  have H5 : Hid (∀ i (h : i < G.length), w.cell? ⟨b1, o1 + i, none⟩ = some (.int .i64 G[i])) := h5
  have K5 : Hid (∀ i (h : i < G.length), w.cell? ⟨b2, o2 + i, none⟩ = some (.int .i64 G[i])) := k5
  rw [hN] at h2 h4 k2 k4 hl ⊢
  have H4 : Hid (0 < N → a1 = some ⟨b1, o1, none⟩) := h4
  have K4 : Hid (0 < N → a2 = some ⟨b2, o2, none⟩) := k4
  unfold maxLen at h3 k3
  clear hN h5 k5 h4 k4
  go_enter Try.func20, Try.ntmps20
  go_wp2_with fail
  go_loopw [5] (fun i wr => ∃ q : Nat, i = .int .i64 (q : Int) ∧ q ≤ N ∧ Below w.heap.size w wr) (fun i _ => N - (intOf i).toNat)
  case atStart => exact ⟨0, rfl, Nat.zero_le _, Below.refl _ _⟩
  case round =>
    obtain ⟨q, rfl, hq, hb⟩ := hrel
    have HB : Hid (Below w.heap.size w wr) := hb
    by_cases hlt : q < N
    · obtain rfl := H4.out (by omega)
      obtain rfl := K4.out (by omega)
      obtain ⟨z, hz⟩ : ∃ z, G[q]'(by rw [HN.out]; exact hlt) = z := ⟨_, rfl⟩
      have d1 : wr.cell? ⟨b1, o1 + q, none⟩ = some (.int .i64 z) := by
        have := H5.out q (by rw [HN.out]; exact hlt)
        rw [hz] at this
        exact (hb.cell (p := ⟨b1, o1 + q, none⟩) (World.block_lt_of_cell? w _ this)).trans this
      have d2 : wr.cell? ⟨b2, o2 + q, none⟩ = some (.int .i64 z) := by
        have := K5.out q (by rw [HN.out]; exact hlt)
        rw [hz] at this
        exact (hb.cell (p := ⟨b2, o2 + q, none⟩) (World.block_lt_of_cell? w _ this)).trans this
      have e1 : decide ((q : Int) < (N : Int)) = true := by simp; omega
      clear hz hb
      have hzz : (z != z) = false := by simp
      go_wp2_with fail
      go_region_held3 (fun w' => w'.cell? ⟨b1, o1 + q, none⟩ = some (.int .i64 z) ∧ w'.cell? ⟨b2, o2 + q, none⟩ = some (.int .i64 z)) (go_keep) (fail)
      go_wp2_with fail
      go_roundw
      case rel => exact ⟨q + 1, by go_num, by omega, HB.out.drew⟩
      case measure => simp [intOf]; omega
    · have e1 : decide ((q : Int) < (N : Int)) = false := by simp; omega
      clear hb
      go_wp2
      go_ret
      exact ⟨rfl, HB.out⟩

/-- a load of a pair that no step looks into -/
def ld97 (x : Value) : Sem Value := Instr.loadAt 97 x
@[local go_sem ↓] theorem ld97_hold (x : Value) : Instr.loadAt 97 x = ld97 x := rfl
def prV (x y : Int) : Value := .agg #[.int .i64 x, .int .i64 y]
theorem stood97 : Try.prog.stoodInHeld 97 = false := by kernel_rfl
theorem und97 : Try.prog.underlying 97 = some (.struct (Try.prog.fieldsOf 97)) := by kernel_rfl
theorem size97 : (Try.prog.info? 97).map (·.size) = some 2 := by kernel_rfl
set_option maxRecDepth 100000 in
theorem neq_pr (x y : Int) (w : World) : (binOp .neq 97 (prV x y) (prV x y)).run Try.prog w = .ok (.bool false) w := by
  unfold prV
  rw [run_neq_struct, run_equalIn_agg w 9999 97 _ _ und97 stood97]
  simp only [Program.fieldsOf, Try.underlying97]
  simp [go_sem]
theorem eqg97 (a b : Int) (x y : Operand) (w : World) : (eqGuard .neq 97 x y (prV a b) (prV a b)).run Try.prog w = .ok () w := by
  unfold prV
  simp [eqGuard]
theorem load97 {W : World} {b o : Nat} {x y : Int} (h : W.cell? ⟨b, o, none⟩ = some (.int .i64 x) ∧ W.cell? ⟨b, o + 1, none⟩ = some (.int .i64 y)) : (ld97 (.pointer (some ⟨b, o, none⟩))).run Try.prog W = .ok (prV x y) W := by
  unfold ld97 prV
  refine run_loadAt_mid W b o 97 [.int .i64 x, .int .i64 y] _ (fun j u hu => ?_) Try.underlying97 rfl size97
  match j, hu with
  | 0, hu => simp at hu; subst hu; exact h.1
  | 1, hu => simp at hu; subst hu; exact h.2

set_option maxRecDepth 100000 in
set_option maxHeartbeats 2000000 in
theorem intos_same (G : List (Int × Int)) (u v : Value) (hl : G.length ≤ 4000) (w : World) (hu : PSl w u G) (hv : PSl w v G) : Calls Try.prog 40 #[u, v] w fun e w' => e = .returned (.bool true) ∧ Below w.heap.size w w' := by
  obtain ⟨a1, c1, b1, o1, rfl, h2, h3, h4, h5⟩ := hu
  obtain ⟨a2, c2, b2, o2, rfl, k2, k3, k4, k5⟩ := hv
  obtain ⟨N, hN⟩ : ∃ N, G.length = N := ⟨_, rfl⟩
  have HN : Hid (G.length = N) := hN
  have H5 : Hid (∀ i (h : i < G.length), w.cell? ⟨b1, o1 + i * 2, none⟩ = some (.int .i64 G[i].1) ∧ w.cell? ⟨b1, o1 + (i * 2 + 1), none⟩ = some (.int .i64 G[i].2)) := h5
  have K5 : Hid (∀ i (h : i < G.length), w.cell? ⟨b2, o2 + i * 2, none⟩ = some (.int .i64 G[i].1) ∧ w.cell? ⟨b2, o2 + (i * 2 + 1), none⟩ = some (.int .i64 G[i].2)) := k5
  rw [hN] at h2 h4 k2 k4 hl ⊢
  have H4 : Hid (0 < N → a1 = some ⟨b1, o1, none⟩) := h4
  have K4 : Hid (0 < N → a2 = some ⟨b2, o2, none⟩) := k4
  unfold maxLen at h3 k3
  clear hN h5 k5 h4 k4
  go_enter Try.func40, Try.ntmps40
  go_wp2_with fail
  go_loopw [5] (fun i wr => ∃ q : Nat, i = .int .i64 (q : Int) ∧ q ≤ N ∧ Below w.heap.size w wr) (fun i _ => N - (intOf i).toNat)
  case atStart => exact ⟨0, rfl, Nat.zero_le _, Below.refl _ _⟩
  case round =>
    obtain ⟨q, rfl, hq, hb⟩ := hrel
    have HB : Hid (Below w.heap.size w wr) := hb
    by_cases hlt : q < N
    · obtain rfl := H4.out (by omega)
      obtain rfl := K4.out (by omega)
      obtain ⟨z, hz⟩ : ∃ z, G[q]'(by rw [HN.out]; exact hlt) = z := ⟨_, rfl⟩
      obtain ⟨x, y⟩ := z
      have d1 : wr.cell? ⟨b1, o1 + q * 2, none⟩ = some (.int .i64 x) ∧ wr.cell? ⟨b1, o1 + (q * 2 + 1), none⟩ = some (.int .i64 y) := by
        have := H5.out q (by rw [HN.out]; exact hlt)
        rw [hz] at this
        exact ⟨(hb.cell (p := ⟨b1, o1 + q * 2, none⟩) (World.block_lt_of_cell? w _ this.1)).trans this.1, (hb.cell (p := ⟨b1, o1 + (q * 2 + 1), none⟩) (World.block_lt_of_cell? w _ this.2)).trans this.2⟩
      have d2 : wr.cell? ⟨b2, o2 + q * 2, none⟩ = some (.int .i64 x) ∧ wr.cell? ⟨b2, o2 + (q * 2 + 1), none⟩ = some (.int .i64 y) := by
        have := K5.out q (by rw [HN.out]; exact hlt)
        rw [hz] at this
        exact ⟨(hb.cell (p := ⟨b2, o2 + q * 2, none⟩) (World.block_lt_of_cell? w _ this.1)).trans this.1, (hb.cell (p := ⟨b2, o2 + (q * 2 + 1), none⟩) (World.block_lt_of_cell? w _ this.2)).trans this.2⟩
      have e1 : decide ((q : Int) < (N : Int)) = true := by simp; omega
      have HL1 : ∀ w' : World, w'.cell? ⟨b1, o1 + q * 2, none⟩ = some (.int .i64 x) ∧ w'.cell? ⟨b1, o1 + (q * 2 + 1), none⟩ = some (.int .i64 y) → (ld97 (.pointer (some ⟨b1, o1 + q * 2, none⟩))).run Try.prog w' = .ok (prV x y) w' := fun w' h => load97 h
      have HL2 : ∀ w' : World, w'.cell? ⟨b2, o2 + q * 2, none⟩ = some (.int .i64 x) ∧ w'.cell? ⟨b2, o2 + (q * 2 + 1), none⟩ = some (.int .i64 y) → (ld97 (.pointer (some ⟨b2, o2 + q * 2, none⟩))).run Try.prog w' = .ok (prV x y) w' := fun w' h => load97 h
      have hneq : ∀ w' : World, (binOp .neq 97 (prV x y) (prV x y)).run Try.prog w' = .ok (.bool false) w' := neq_pr x y
      have hgd : ∀ (s t : Operand) (w' : World), (eqGuard .neq 97 s t (prV x y) (prV x y)).run Try.prog w' = .ok () w' := eqg97 x y
      clear hz hb
      go_wp2_with fail
      go_region_held3 (fun w' => (w'.cell? ⟨b1, o1 + q * 2, none⟩ = some (.int .i64 x) ∧ w'.cell? ⟨b1, o1 + (q * 2 + 1), none⟩ = some (.int .i64 y)) ∧ (w'.cell? ⟨b2, o2 + q * 2, none⟩ = some (.int .i64 x) ∧ w'.cell? ⟨b2, o2 + (q * 2 + 1), none⟩ = some (.int .i64 y))) (first | assumption | (exact ⟨d1, d2⟩) | go_keep) (fail)
      go_wp2_with fail
      go_roundw
      case rel => exact ⟨q + 1, by go_num, by omega, HB.out.drew⟩
      case measure => simp [intOf]; omega
    · have e1 : decide ((q : Int) < (N : Int)) = false := by simp; omega
      clear hb
      go_wp2
      go_ret
      exact ⟨rfl, HB.out⟩
end Go.Proofs.Ytkcncngcmhldpaa
