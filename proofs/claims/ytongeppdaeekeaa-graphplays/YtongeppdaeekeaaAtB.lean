/- What is asked of each read and write of a log. -/
import Derived.Test.YtongeppdaeekeaaAtA
import Derived.Deep.CutRange
namespace Go.Proofs.Ytongeppdaeekeaa
open Go.RowKit Go.Maps
set_option linter.unusedVariables false

theorem AN.mk {w w' : World} {v : Value} (h : Below w.heap.size w w') : AN w v (.returned v) w' := ⟨rfl, h⟩
set_option maxRecDepth 100000 in
set_option maxHeartbeats 2000000 in
theorem cloR_any (bx : Nat) (z0 z1 z2 at' : Int) (w : World) (hb : w.cell? ⟨bx, 0, none⟩ = some (.int .i64 at')) : Calls Try.prog 92 #[.agg #[.int .i64 z0, .int .i64 z1, .int .i64 z2], .pointer (some ⟨bx, 0, none⟩)] w (AN w (.bool (z0 == at'))) := by
  have HF : Hid (∀ A : Obj, AN w (.bool (z0 == at')) (.returned (.bool (z0 == at'))) (w.alloc A)) := fun A => ⟨rfl, bl1 w A⟩
  have hb' := fun A : Obj => ((bl1 w A).cell (p := ⟨bx, 0, none⟩) (World.block_lt_of_cell? w _ hb)).trans hb
  generalize AN w (.bool (z0 == at')) = P at *
  go_enter Try.func92, Try.ntmps92
  go_wp2
  first | exact HF.out _ | (go_ret; exact HF.out _)
set_option maxRecDepth 100000 in
set_option maxHeartbeats 2000000 in
theorem cloC_any (bx : Nat) (z0 z1 at' : Int) (w : World) (hb : w.cell? ⟨bx, 0, none⟩ = some (.int .i64 at')) : Calls Try.prog 101 #[.agg #[.int .i64 z0, .int .i64 z1], .pointer (some ⟨bx, 0, none⟩)] w (AN w (.bool (z0 == at'))) := by
  have HF : Hid (∀ A : Obj, AN w (.bool (z0 == at')) (.returned (.bool (z0 == at'))) (w.alloc A)) := fun A => ⟨rfl, bl1 w A⟩
  have hb' := fun A : Obj => ((bl1 w A).cell (p := ⟨bx, 0, none⟩) (World.block_lt_of_cell? w _ hb)).trans hb
  generalize AN w (.bool (z0 == at')) = P at *
  go_enter Try.func101, Try.ntmps101
  go_wp2
  first | exact HF.out _ | (go_ret; exact HF.out _)
/-- is a read's word so in a memory? -/
def hlds (G : List Int) (z : Int × Int × Int) : Bool := decide (0 ≤ z.1) && decide (z.1 < G.length) && (G.getD z.1.toNat 0 == z.2.1)
set_option maxRecDepth 100000 in
set_option maxHeartbeats 4000000 in
theorem cloH_any (bx : Nat) (z0 z1 z2 : Int) (G : List Int) (v : Value) (w : World) (hb : w.cell? ⟨bx, 0, none⟩ = some v) (hv : GSl w v G) : Calls Try.prog 69 #[.agg #[.int .i64 z0, .int .i64 z1, .int .i64 z2], .pointer (some ⟨bx, 0, none⟩)] w (AN w (.bool (!hlds G (z0, z1, z2)))) := by
  obtain ⟨V, hV⟩ : ∃ V, w.alloc (.cells #[.int .i64 z0, .int .i64 z1, .int .i64 z2] 57) = V := ⟨_, rfl⟩
  have HVV : Hid (w.alloc (.cells #[.int .i64 z0, .int .i64 z1, .int .i64 z2] 57) = V) := hV
  have HB : Below w.heap.size w V := by rw [← hV]; exact bl1 _ _
  have HF : Hid (∀ k, AN w (.bool (!hlds G (z0, z1, z2))) (.returned (.bool (!hlds G (z0, z1, z2)))) (V.drewN k)) := fun k => ⟨rfl, Below.dN HB k⟩
  have hbx : V.cell? ⟨bx, 0, none⟩ = some v := (HB.cell (p := ⟨bx, 0, none⟩) (World.block_lt_of_cell? w _ hb)).trans hb
  have v0 : V.cell? ⟨w.heap.size, 0, none⟩ = some (.int .i64 z0) := by rw [← hV]; simp
  have v1 : V.cell? ⟨w.heap.size, 1, none⟩ = some (.int .i64 z1) := by rw [← hV]; simp
  have hv2 := hv.below HB
  clear hv HB hb hV
  obtain ⟨a, c, b, o, rfl, h2, h3, h4, h5⟩ := hv2
  obtain ⟨m, hm⟩ : ∃ m, G.length = m := ⟨_, rfl⟩
  have hml : m ≤ maxLen := by omega
  unfold maxLen at hml h3
  by_cases h0 : z0 < 0
  · have e : hlds G (z0, z1, z2) = false := by unfold hlds; simp; intro h; omega
    rw [e] at HF ⊢
    rw [hm] at hbx
    generalize AN w (.bool (!false)) = P at *
    have e1 : decide (z0 < 0) = true := by simp [h0]
    clear h5 h4 e hm
    go_enter Try.func69, Try.ntmps69
    go_upto_region 1 with fail
    rw [HVV.out]
    go_quiet (fail)
    go_wp2
    first | exact HF.out _ | (go_ret; exact HF.out _)
  have e1 : decide (z0 < 0) = false := by simp; omega
  by_cases h1 : z0 < (m : Int)
  · obtain ⟨q, rfl⟩ : ∃ q : Nat, z0 = (q : Int) := ⟨z0.toNat, by omega⟩
    have hq : q < m := by omega
    have ha := h4 (by omega)
    subst ha
    have hqG : q < G.length := by omega
    have cq := h5 q hqG
    obtain ⟨y, hy⟩ : ∃ y, G[q] = y := ⟨_, rfl⟩
    rw [hy] at cq
    have e : hlds G ((q : Int), z1, z2) = (y == z1) := by
      have k1 : decide (0 ≤ (q : Int)) = true := by simp
      have k2 : decide ((q : Int) < (G.length : Int)) = true := by simp; exact hqG
      have k3 : G.getD ((q : Int)).toNat 0 = y := by simp [List.getD, hqG, hy]
      unfold hlds
      simp only [k1, k2, k3, Bool.true_and]
    have e' : (!(y == z1)) = (y != z1) := rfl
    rw [e, e'] at HF ⊢
    rw [hm] at hbx
    have e2 : decide ((m : Int) ≤ (q : Int)) = false := by simp; omega
    have e3 : decide (m ≤ q) = false := by simp; omega
    have i1 : (0 : Int) ≤ (q : Int) := by omega
    have i2 : (q : Int) < (m : Int) := by omega
    generalize AN w (.bool (y != z1)) = P at *
    clear h5 h4 e hm hy e' h0 h1
    go_enter Try.func69, Try.ntmps69
    go_upto_region 1 with fail
    rw [HVV.out]
    go_quiet (fail)
    go_wp2
    first | exact HF.out _ | (go_ret; exact HF.out _)
  · have e : hlds G (z0, z1, z2) = false := by
      have k2 : decide (z0 < (G.length : Int)) = false := by simp; omega
      unfold hlds
      simp only [k2, Bool.and_false, Bool.false_and]
    rw [e] at HF ⊢
    rw [hm] at hbx
    generalize AN w (.bool (!false)) = P at *
    have e2 : decide ((m : Int) ≤ z0) = true := by simp; omega
    clear h5 h4 e hm
    go_enter Try.func69, Try.ntmps69
    go_upto_region 1 with fail
    rw [HVV.out]
    go_quiet (fail)
    go_wp2
    first | exact HF.out _ | (go_ret; exact HF.out _)
end Go.Proofs.Ytongeppdaeekeaa
