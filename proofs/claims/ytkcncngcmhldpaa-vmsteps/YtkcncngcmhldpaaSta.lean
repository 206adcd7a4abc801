/- The law's look at both states. -/
import Derived.Test.YtkcncngcmhldpaaRStp
import Derived.Test.YtkcncngcmhldpaaMk
namespace Go.Proofs.Ytkcncngcmhldpaa
open Go.RowKit Go.Maps
set_option linter.unusedVariables false

theorem stC_rg (s : St) (hl : s.regs.length = 16) (r : Nat) (hr : r < 16) : (stC s)[r]? = some (.int .i64 (rg s r)) := by
  have : r < s.regs.length := by omega
  unfold stC rg
  rw [List.getElem?_append_left (by simpa using this)]
  simp [List.getD, this]
/-- both states in memory -/
structure SM (w wr : World) (cs : List Value) (MM : Array Value) (rb : Nat) (s : St) : Prop where
  a : wr.heap[w.heap.size]? = some (.cells cs.toArray 45)
  b : wr.heap[w.heap.size + 1]? = some (.cells MM 29)
  r : ∀ r, r < 16 → wr.cell? ⟨rb, r, none⟩ = some (.int .i64 (rg s r))
  be : Below w.heap.size w wr
theorem SM.drew {w wr : World} {cs : List Value} {MM : Array Value} {rb : Nat} {s : St} (h : SM w wr cs MM rb s) : SM w wr.drew cs MM rb s := ⟨h.a, h.b, h.r, h.be.drew⟩
theorem SM.drewN {w wr : World} {cs : List Value} {MM : Array Value} {rb : Nat} {s : St} (h : SM w wr cs MM rb s) (n : Nat) : SM w (wr.drewN n) cs MM rb s := ⟨h.a, h.b, h.r, below_drewN h.be n⟩
def StI (w : World) (cs : List Value) (MM : Array Value) (rb : Nat) (s : St) (i : Value) (wr : World) : Prop := ∃ k : Nat, i = .int .i64 (k : Int) ∧ k ≤ 16 ∧ SM w wr cs MM rb s

set_option maxRecDepth 100000 in
set_option maxHeartbeats 2000000 in
theorem state_any (ad : Option Addr) (cl cp : Nat) (rv : Value) (words fuel : Int) (s : St) (hl : s.regs.length = 16) (w : World) (hrv : RRg w rv s) : Calls Try.prog 15 #[stV s, mV (.slice ad cl cp) rv words fuel s] w fun e w' => e = .returned (.bool true) ∧ Below w.heap.size w w' := by
  obtain ⟨rb, rc, rfl, h16, hrm, hcells⟩ := hrv
  have hrl : rb < w.heap.size := World.block_lt_of_cell? w ⟨rb, 0, none⟩ (hcells 0 (by omega))
  unfold mV
  obtain ⟨MM, hMM⟩ : ∃ MM, mC (.slice ad cl cp) (.slice (some ⟨rb, 0, none⟩) 16 rc) words fuel s = MM := ⟨_, rfl⟩
  have HM : Hid (∀ V : World, V.heap[w.heap.size + 1]? = some (.cells MM 29) → V.cell? ⟨w.heap.size + 1, 3, none⟩ = some (.slice (some ⟨rb, 0, none⟩) 16 rc) ∧ V.cell? ⟨w.heap.size + 1, 4, none⟩ = some (.int .i64 s.pc) ∧ V.cell? ⟨w.heap.size + 1, 5, none⟩ = some (.int .i64 s.steps) ∧ V.cell? ⟨w.heap.size + 1, 6, none⟩ = some (.int .i64 s.over) ∧ V.cell? ⟨w.heap.size + 1, 7, none⟩ = some (.int .i64 s.value)) := fun V h => by
    rw [← hMM] at h
    exact ⟨(cell_of_row V _ 3 _ _ _ h).trans rfl, (cell_of_row V _ 4 _ _ _ h).trans rfl, (cell_of_row V _ 5 _ _ _ h).trans rfl, (cell_of_row V _ 6 _ _ _ h).trans rfl, (cell_of_row V _ 7 _ _ _ h).trans rfl⟩
  have HS : Hid (∀ V : World, V.heap[w.heap.size]? = some (.cells (stC s).toArray 45) → (∀ r, r < 16 → V.cell? ⟨w.heap.size, r, none⟩ = some (.int .i64 (rg s r))) ∧ V.cell? ⟨w.heap.size, 16, none⟩ = some (.int .i64 s.pc) ∧ V.cell? ⟨w.heap.size, 17, none⟩ = some (.int .i64 s.steps) ∧ V.cell? ⟨w.heap.size, 18, none⟩ = some (.int .i64 s.over) ∧ V.cell? ⟨w.heap.size, 19, none⟩ = some (.int .i64 s.value)) := fun V h => by
    have gc : ∀ j, V.cell? ⟨w.heap.size, j, none⟩ = (stC s)[j]? := fun j => by rw [cell_of_row _ _ j _ _ _ h]; simp
    exact ⟨fun r hr => (gc r).trans (stC_rg s hl r hr), (gc 16).trans ((stC_pc s hl 16 (by omega)).trans rfl), (gc 17).trans ((stC_pc s hl 17 (by omega)).trans rfl), (gc 18).trans ((stC_pc s hl 18 (by omega)).trans rfl), (gc 19).trans ((stC_pc s hl 19 (by omega)).trans rfl)⟩
  unfold stV
  obtain ⟨cs, hcs⟩ : ∃ cs, stC s = cs := ⟨_, rfl⟩
  rw [hcs] at HS ⊢
  rw [hMM]
  have HI : Hid (StI w cs MM rb s (.int .i64 0) ((w.alloc (.cells cs.toArray 45)).alloc (.cells MM 29))) := ⟨0, rfl, by omega, (Below.heap_alloc _ _ _ (by simp)).trans (heap_alloc_new w _), two_new w _ _, fun r hr => (Below.cell (p := ⟨rb, r, none⟩) (((Below.refl _ _).alloc (Nat.le_refl _) _).alloc (by simp) _) hrl).trans (hcells r hr), ((Below.refl _ _).alloc (Nat.le_refl _) _).alloc (by simp) _⟩
  generalize s.pc = p at HM HS
  generalize s.steps = q at HM HS
  generalize s.over = o at HM HS
  generalize s.value = vl at HM HS
  unfold maxLen at hrm
  clear hcells hMM hcs hl
  go_enter Try.func15, Try.ntmps15
  go_wp2
  go_loopw [5] (fun i wr => StI w cs MM rb s i wr) (fun i _ => 16 - (intOf i).toNat)
  case atStart => exact HI.out
  case round =>
    obtain ⟨k, rfl, hk, hs⟩ := hrel
    have HSM : Hid (SM w wr cs MM rb s) := hs
    obtain ⟨m3, m4, m5, m6, m7⟩ := HM.out wr hs.b
    obtain ⟨s0, s4, s5, s6, s7⟩ := HS.out wr hs.a
    have HRR := hs.r
    clear hs
    by_cases hlt : k < 16
    · have h13 : decide ((k : Int) < 16) = true := by simp; omega
      have r1 := HRR k hlt
      have r2 := s0 k hlt
      generalize rg s k = z at r1 r2
      clear HRR s0
      go_wp2_with fail
      go_quiet (fail)
      go_wp2_with fail
      go_roundw
      case rel => exact ⟨k + 1, by go_num, by omega, HSM.out.drewN _⟩
      case measure => simp [intOf]; omega
    · have h13 : decide ((k : Int) < 16) = false := by simp; omega
      clear HRR s0
      go_wp2_with fail
      go_ret
      exact ⟨rfl, HSM.out.be⟩
end Go.Proofs.Ytkcncngcmhldpaa
