/- A machine's state as it lies in memory, and its smallest steps. -/
import Derived.Test.YtkcncngcmhldpaaIIns
import Derived.Laws.StructEq
import Derived.Deep.RegionHeld3
import Derived.Deep.QuietTactic
import Derived.BigQuiet
namespace Go.Proofs.Ytkcncngcmhldpaa
open Go.RowKit
set_option linter.unusedVariables false

/-- all that changes in a machine -/
structure St where
  regs : List Int
  pc : Int
  steps : Int
  over : Int
  value : Int
/-- all that stays -/
structure Fx where
  cv : Value
  words : Int
  fuel : Int
  n : Int
  i : Int
  k : Int
/-- a register -/
def rg (s : St) (r : Nat) : Int := s.regs.getD r 0
def stC (s : St) : List Value := s.regs.map (Value.int .i64) ++ [.int .i64 s.pc, .int .i64 s.steps, .int .i64 s.over, .int .i64 s.value]
def vmC (m : Fx) (s : St) : List Value := [m.cv, .int .i64 m.words, .int .i64 m.fuel, .int .i64 m.n, .int .i64 m.i, .int .i64 m.k] ++ stC s
/-- the machine lies in block vb -/
structure VM (w : World) (vb : Nat) (m : Fx) (s : St) : Prop where
  len : s.regs.length = 16
  blk : w.heap[vb]? = some (.cells (vmC m s).toArray 80)

/-- of the blocks that were, only vb is written -/
structure Ch (vb : Nat) (w w' : World) : Prop where
  os : w'.os = w.os
  tape : w'.tape = w.tape
  output : w'.output = w.output
  size : w.heap.size ≤ w'.heap.size
  block : ∀ k, k < w.heap.size → k ≠ vb → w'.heap[k]? = w.heap[k]?
theorem Ch.refl (vb : Nat) (w : World) : Ch vb w w := ⟨rfl, rfl, rfl, Nat.le_refl _, fun _ _ _ => rfl⟩
theorem Ch.trans {vb : Nat} {a b c : World} (h : Ch vb a b) (k : Ch vb b c) : Ch vb a c :=
  ⟨k.os.trans h.os, k.tape.trans h.tape, k.output.trans h.output, Nat.le_trans h.size k.size, fun i hi hn => (k.block i (Nat.lt_of_lt_of_le hi h.size) hn).trans (h.block i hi hn)⟩
theorem Ch.of {vb : Nat} {a b : World} (h : Below a.heap.size a b) : Ch vb a b := ⟨h.os, h.tape, h.output, h.size, fun k hk _ => h.block k hk⟩
theorem Ch.set {vb : Nat} {a b : World} (h : Ch vb a b) (i : Nat) (v : Value) : Ch vb a (b.setCell ⟨vb, i, none⟩ v) :=
  ⟨h.os, h.tape, h.output, by simpa [World.setCell] using h.size, fun k hk hn => (Below.heap_setCell _ _ _ _ hn).trans (h.block k hk hn)⟩
theorem Ch.alloc {vb : Nat} {a b : World} (h : Ch vb a b) (o : Obj) : Ch vb a (b.alloc o) :=
  ⟨h.os, h.tape, h.output, by simp; have := h.size; omega, fun k hk hn => (Below.heap_alloc _ _ _ (Nat.lt_of_lt_of_le hk h.size)).trans (h.block k hk hn)⟩
theorem Ch.drew {vb : Nat} {a b : World} (h : Ch vb a b) : Ch vb a b.drew := ⟨h.os, h.tape, h.output, h.size, h.block⟩
theorem Ch.drewN {vb : Nat} {a b : World} (h : Ch vb a b) (n : Nat) : Ch vb a (b.drewN n) := ⟨h.os, h.tape, h.output, h.size, h.block⟩
/-- a block behind all that were may be written, too -/
theorem Ch.setNew {vb g : Nat} {a b : World} (h : Ch vb a b) (hg : a.heap.size ≤ g) (i : Nat) (v : Value) : Ch vb a (b.setCell ⟨g, i, none⟩ v) :=
  ⟨h.os, h.tape, h.output, by simpa [World.setCell] using h.size, fun k hk hn => (Below.heap_setCell _ _ _ _ (by show k ≠ g; omega)).trans (h.block k hk hn)⟩

theorem VM.lt {w : World} {vb : Nat} {m : Fx} {s : St} (h : VM w vb m s) : vb < w.heap.size := (Array.getElem?_eq_some_iff.1 h.blk).1
theorem VM.below {w w' : World} {vb : Nat} {m : Fx} {s : St} (h : VM w vb m s) (hb : Below w.heap.size w w') : VM w' vb m s := ⟨h.len, (hb.block vb h.lt).trans h.blk⟩
theorem VM.keep {w w' : World} {vb : Nat} {m : Fx} {s : St} (h : VM w vb m s) (hb : w'.heap[vb]? = w.heap[vb]?) : VM w' vb m s := ⟨h.len, hb.trans h.blk⟩
theorem VM.alloc {w : World} {vb : Nat} {m : Fx} {s : St} (h : VM w vb m s) (o : Obj) : VM (w.alloc o) vb m s := h.keep (Below.heap_alloc _ _ _ h.lt)
theorem VM.drew {w : World} {vb : Nat} {m : Fx} {s : St} (h : VM w vb m s) : VM w.drew vb m s := ⟨h.len, h.blk⟩
theorem VM.drewN {w : World} {vb : Nat} {m : Fx} {s : St} (h : VM w vb m s) (n : Nat) : VM (w.drewN n) vb m s := ⟨h.len, h.blk⟩
theorem VM.cell {w : World} {vb : Nat} {m : Fx} {s : St} (h : VM w vb m s) (j : Nat) : w.cell? ⟨vb, j, none⟩ = (vmC m s)[j]? := by
  rw [cell_of_row w vb j _ _ _ h.blk]; simp
theorem VM.fz {w : World} {vb : Nat} {m : Fx} {s : St} (h : VM w vb m s) (j : Nat) : w.frozen? ⟨vb, j, none⟩ = false := frozen_of_row w vb j _ _ h.blk
theorem vmC_reg (m : Fx) (s : St) (h : s.regs.length = 16) (r : Nat) (hr : r < 16) : (vmC m s)[6 + r]? = some (.int .i64 (rg s r)) := by
  unfold vmC stC
  rw [List.getElem?_append_right (by simp), List.getElem?_append_left (by simp; omega)]
  simp [rg, List.getD, show r < s.regs.length by omega]
theorem vmC_tail (m : Fx) (s : St) (h : s.regs.length = 16) (j : Nat) (hj : 22 ≤ j) : (vmC m s)[j]? = [Value.int .i64 s.pc, .int .i64 s.steps, .int .i64 s.over, .int .i64 s.value][j - 22]? := by
  unfold vmC stC
  rw [List.getElem?_append_right (by simp; omega), List.getElem?_append_right (by simp; omega)]
  congr 1; simp; omega
theorem VM.c0 {w : World} {vb : Nat} {m : Fx} {s : St} (h : VM w vb m s) : w.cell? ⟨vb, 0, none⟩ = some m.cv := (h.cell 0).trans rfl
theorem VM.c1 {w : World} {vb : Nat} {m : Fx} {s : St} (h : VM w vb m s) : w.cell? ⟨vb, 1, none⟩ = some (.int .i64 m.words) := (h.cell 1).trans rfl
theorem VM.c2 {w : World} {vb : Nat} {m : Fx} {s : St} (h : VM w vb m s) : w.cell? ⟨vb, 2, none⟩ = some (.int .i64 m.fuel) := (h.cell 2).trans rfl
theorem VM.cr {w : World} {vb : Nat} {m : Fx} {s : St} (h : VM w vb m s) (r : Nat) (hr : r < 16) : w.cell? ⟨vb, 6 + r, none⟩ = some (.int .i64 (rg s r)) := (h.cell (6 + r)).trans (vmC_reg m s h.len r hr)
theorem VM.c22 {w : World} {vb : Nat} {m : Fx} {s : St} (h : VM w vb m s) : w.cell? ⟨vb, 22, none⟩ = some (.int .i64 s.pc) := (h.cell 22).trans ((vmC_tail m s h.len 22 (by omega)).trans rfl)
theorem VM.c23 {w : World} {vb : Nat} {m : Fx} {s : St} (h : VM w vb m s) : w.cell? ⟨vb, 23, none⟩ = some (.int .i64 s.steps) := (h.cell 23).trans ((vmC_tail m s h.len 23 (by omega)).trans rfl)
theorem VM.c24 {w : World} {vb : Nat} {m : Fx} {s : St} (h : VM w vb m s) : w.cell? ⟨vb, 24, none⟩ = some (.int .i64 s.over) := (h.cell 24).trans ((vmC_tail m s h.len 24 (by omega)).trans rfl)
theorem VM.c25 {w : World} {vb : Nat} {m : Fx} {s : St} (h : VM w vb m s) : w.cell? ⟨vb, 25, none⟩ = some (.int .i64 s.value) := (h.cell 25).trans ((vmC_tail m s h.len 25 (by omega)).trans rfl)

theorem VM.put {w : World} {vb : Nat} {m : Fx} {s s' : St} (h : VM w vb m s) (j : Nat) (v : Value) (hl : s'.regs.length = 16) (he : (vmC m s).set j v = vmC m s') : VM (w.setCell ⟨vb, j, none⟩ v) vb m s' := by
  refine ⟨hl, ?_⟩
  rw [heap_setCell_same w vb _ _ 80 _ h.blk, ← he]
  simp
theorem vmC_set_reg (m : Fx) (s : St) (h : s.regs.length = 16) (r : Nat) (hr : r < 16) (v : Int) : (vmC m s).set (6 + r) (.int .i64 v) = vmC m { s with regs := s.regs.set r v } := by
  unfold vmC stC
  rw [List.set_append_right _ _ (by simp), List.set_append_left _ _ (by simp; omega)]
  simp [List.map_set]
theorem vmC_set_tail (m : Fx) (s : St) (h : s.regs.length = 16) (j : Nat) (hj : 22 ≤ j) (v : Value) : (vmC m s).set j v = [m.cv, .int .i64 m.words, .int .i64 m.fuel, .int .i64 m.n, .int .i64 m.i, .int .i64 m.k] ++ (s.regs.map (Value.int .i64) ++ [Value.int .i64 s.pc, .int .i64 s.steps, .int .i64 s.over, .int .i64 s.value].set (j - 22) v) := by
  unfold vmC stC
  rw [List.set_append_right _ _ (by simp; omega), List.set_append_right _ _ (by simp; omega)]
  congr 3; simp; omega
theorem VM.setReg {w : World} {vb : Nat} {m : Fx} {s : St} (h : VM w vb m s) (r : Nat) (hr : r < 16) (v : Int) : VM (w.setCell ⟨vb, 6 + r, none⟩ (.int .i64 v)) vb m { s with regs := s.regs.set r v } :=
  h.put _ _ (by simpa using h.len) (vmC_set_reg m s h.len r hr v)
theorem VM.setPc {w : World} {vb : Nat} {m : Fx} {s : St} (h : VM w vb m s) (v : Int) : VM (w.setCell ⟨vb, 22, none⟩ (.int .i64 v)) vb m { s with pc := v } := h.put _ _ h.len (vmC_set_tail m s h.len 22 (by omega) _)
theorem VM.setSteps {w : World} {vb : Nat} {m : Fx} {s : St} (h : VM w vb m s) (v : Int) : VM (w.setCell ⟨vb, 23, none⟩ (.int .i64 v)) vb m { s with steps := v } := h.put _ _ h.len (vmC_set_tail m s h.len 23 (by omega) _)
theorem VM.setOver {w : World} {vb : Nat} {m : Fx} {s : St} (h : VM w vb m s) (v : Int) : VM (w.setCell ⟨vb, 24, none⟩ (.int .i64 v)) vb m { s with over := v } := h.put _ _ h.len (vmC_set_tail m s h.len 24 (by omega) _)
theorem VM.setValue {w : World} {vb : Nat} {m : Fx} {s : St} (h : VM w vb m s) (v : Int) : VM (w.setCell ⟨vb, 25, none⟩ (.int .i64 v)) vb m { s with value := v } := h.put _ _ h.len (vmC_set_tail m s h.len 25 (by omega) _)

set_option maxRecDepth 100000 in
set_option maxHeartbeats 1000000 in
theorem reg_any (vb : Nat) (m : Fx) (s : St) (r : Nat) (hr : r < 16) (x : Int) (hx : x = r) (w : World) (h : VM w vb m s) : Calls Try.prog 30 #[.pointer (some ⟨vb, 0, none⟩), .int .i64 x] w fun e w' => e = .returned (.int .i64 (rg s r)) ∧ w' = w := by
  subst hx
  have c := h.cr r hr
  clear h
  go_enter Try.func30, Try.ntmps30
  go_wp2
  go_ret
  exact ⟨rfl, rfl⟩

set_option maxRecDepth 100000 in
set_option maxHeartbeats 1000000 in
theorem ended_any (vb : Nat) (m : Fx) (s : St) (w : World) (h : VM w vb m s) : Calls Try.prog 27 #[.pointer (some ⟨vb, 0, none⟩)] w fun e w' => e = .returned (.bool (s.over != 0)) ∧ w' = w := by
  have c := h.c24
  clear h
  go_enter Try.func27, Try.ntmps27
  go_wp2
  go_ret
  exact ⟨rfl, rfl⟩

set_option maxRecDepth 100000 in
set_option maxHeartbeats 1000000 in
theorem spent_any (vb : Nat) (m : Fx) (s : St) (w : World) (h : VM w vb m s) : Calls Try.prog 28 #[.pointer (some ⟨vb, 0, none⟩)] w fun e w' => e = .returned (.bool (decide (m.fuel ≤ s.steps))) ∧ ∃ n, w' = w.drewN n := by
  have c := h.c23
  have c2 := h.c2
  clear h
  go_enter Try.func28, Try.ntmps28
  go_wp2
  go_quiet (fail)
  go_wp2
  go_ret
  exact ⟨rfl, _, rfl⟩

set_option maxRecDepth 100000 in
set_option maxHeartbeats 1000000 in
theorem end_any (vb : Nat) (m : Fx) (s : St) (o v : Int) (w : World) (h : VM w vb m s) : Calls Try.prog 31 #[.pointer (some ⟨vb, 0, none⟩), .int .i64 o, .int .i64 v] w fun e w' => e = .returned (.tuple #[]) ∧ VM w' vb m { s with over := o, value := v } ∧ Ch vb w w' := by
  have H : Hid (VM w vb m s) := h
  have c := h.c24
  have c2 := h.c25
  have f := h.fz 24
  have f2 := h.fz 25
  clear h
  go_enter Try.func31, Try.ntmps31
  go_wp2
  go_end0
  exact ⟨rfl, (H.out.setOver o).setValue v, ((Ch.refl _ _).set _ _).set _ _⟩

set_option maxRecDepth 100000 in
set_option maxHeartbeats 1000000 in
theorem on_any (vb : Nat) (m : Fx) (s : St) (hp : 0 ≤ s.pc ∧ s.pc < 1000) (w : World) (h : VM w vb m s) : Calls Try.prog 48 #[.pointer (some ⟨vb, 0, none⟩)] w fun e w' => e = .returned (.tuple #[]) ∧ VM w' vb m { s with pc := s.pc + 1 } ∧ Ch vb w w' := by
  have H : Hid (VM w vb m s) := h
  have c := h.c22
  have f := h.fz 22
  obtain ⟨p, hpc⟩ : ∃ p, s.pc = p := ⟨_, rfl⟩
  rw [hpc] at hp c ⊢
  clear h
  go_enter Try.func48, Try.ntmps48
  go_wp2
  go_end0
  exact ⟨rfl, H.out.setPc _, (Ch.refl _ _).set _ _⟩
end Go.Proofs.Ytkcncngcmhldpaa
