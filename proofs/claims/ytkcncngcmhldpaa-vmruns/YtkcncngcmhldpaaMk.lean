/- A machine's state, told and set. -/
import Derived.Test.YtkcncngcmhldpaaStp
import Derived.Deep.MidRow
namespace Go.Proofs.Ytkcncngcmhldpaa
open Go.RowKit
set_option linter.unusedVariables false

/-- a state as a value -/
def stV (s : St) : Value := .agg (stC s).toArray
theorem stC_len (s : St) (h : s.regs.length = 16) : (stC s).length = 20 := by unfold stC; simp [h]
theorem size45 : (Try.prog.info? 45).map (·.size) = some 20 := by kernel_rfl
theorem stC_one (s : St) : ∀ u ∈ stC s, u.oneCell' = true := by
  intro u hu
  unfold stC at hu
  rcases List.mem_append.1 hu with h | h
  · obtain ⟨x, _, rfl⟩ := List.mem_map.1 h; rfl
  · simp at h; rcases h with rfl | rfl | rfl | rfl <;> rfl
theorem VM.rng {w : World} {vb : Nat} {m : Fx} {s : St} (h : VM w vb m s) : w.rangeAt vb 6 (stC s) := fun j v hv => by
  rw [h.cell]
  unfold vmC
  rw [List.getElem?_append_right (by simp)]
  simpa using hv
theorem setCells_other (b : Nat) : ∀ (vs : List Value) (o : Nat) (w : World) (k : Nat), k ≠ b → (w.setCells b o vs).heap[k]? = w.heap[k]?
  | [], _, _, _, _ => rfl
  | v :: r, o, w, k, h => by rw [World.setCells, setCells_other b r _ _ k h]; exact Below.heap_setCell _ _ _ _ h
theorem setCells_row (b t : Nat) : ∀ (vs p q : List Value) (w : World), w.heap[b]? = some (.cells (p ++ q).toArray t) → q.length = vs.length → (w.setCells b p.length vs).heap[b]? = some (.cells (p ++ vs).toArray t)
  | [], p, q, w, h, hl => by cases q with | nil => exact h | cons a r => cases hl
  | v :: r, p, q, w, h, hl => by
    cases q with
    | nil => cases hl
    | cons a q =>
      rw [World.setCells]
      have h1 := heap_setCell_same w b p.length _ t v h
      have e : ((p ++ a :: q).toArray).setIfInBounds p.length v = ((p ++ [v]) ++ q).toArray := by simp
      rw [e] at h1
      have h2 := setCells_row b t r (p ++ [v]) q _ h1 (by simpa using hl)
      simpa using h2
theorem setCells_os (b : Nat) : ∀ (vs : List Value) (o : Nat) (w : World), (w.setCells b o vs).os = w.os ∧ (w.setCells b o vs).tape = w.tape ∧ (w.setCells b o vs).output = w.output ∧ (w.setCells b o vs).heap.size = w.heap.size
  | [], _, _ => ⟨rfl, rfl, rfl, rfl⟩
  | v :: r, o, w => by
    obtain ⟨h1, h2, h3, h4⟩ := setCells_os b r (o + 1) (w.setCell ⟨b, o, none⟩ v)
    refine ⟨h1.trans rfl, h2.trans rfl, h3.trans rfl, h4.trans (by simp [World.setCell])⟩
/-- the whole state is set -/
theorem VM.setAll {w : World} {vb : Nat} {m : Fx} {s : St} (h : VM w vb m s) (s' : St) (hl : s'.regs.length = 16) : VM (w.setCells vb 6 (stC s')) vb m s' := by
  refine ⟨hl, ?_⟩
  have := setCells_row vb 80 (stC s') [m.cv, .int .i64 m.words, .int .i64 m.fuel, .int .i64 m.n, .int .i64 m.i, .int .i64 m.k] (stC s) w h.blk (by rw [stC_len s h.len, stC_len s' hl])
  exact this
theorem Ch.setAll {vb : Nat} {a b : World} (h : Ch vb a b) (o : Nat) (vs : List Value) : Ch vb a (b.setCells vb o vs) := by
  obtain ⟨h1, h2, h3, h4⟩ := setCells_os vb vs o b
  exact ⟨h1.trans h.os, h2.trans h.tape, h3.trans h.output, by rw [h4]; exact h.size, fun k hk hn => (setCells_other vb vs o b k hn).trans (h.block k hk hn)⟩
theorem VM.there {w : World} {vb : Nat} {m : Fx} {s : St} (h : VM w vb m s) : w.there vb 6 20 := fun j hj => by
  refine ⟨?_, h.fz _⟩
  rw [h.cell]
  unfold vmC
  rw [List.getElem?_append_right (by simp), List.getElem?_eq_getElem (by simp; have := stC_len s h.len; omega)]
  rfl

theorem below_setRow {B : Nat} {a b : World} (h : Below B a b) {g : Nat} (hg : B ≤ g) (cs : Array Value) : Below B a (b.setRow g cs) :=
  ⟨h.os, h.tape, h.output, by simpa [World.setRow] using h.size, fun k hk => (setRow_other b g k cs (by omega)).trans (h.block k hk)⟩

set_option maxRecDepth 100000 in
set_option maxHeartbeats 1000000 in
theorem now_any (vb : Nat) (m : Fx) (s : St) (w : World) (h : VM w vb m s) : Calls Try.prog 16 #[.pointer (some ⟨vb, 0, none⟩)] w fun e w' => e = .returned (stV s) ∧ Below w.heap.size w w' := by
  have H : Hid (∀ o, (w.alloc o).rangeAt vb 6 (stC s)) := fun o => (h.alloc o).rng
  have HI : Hid ((Try.prog.info? 45).map (·.size) = some (stC s).length) := by show _ = _; rw [stC_len s h.len]; exact size45
  have HL : Hid ((stC s).toArray.size = 20) := by show _ = _; have := stC_len s h.len; simpa using this
  have HO : Hid ((stC s).toArray.all (·.oneCell') = true) := all_oneCell_toArray (stC_one s)
  unfold stV
  clear h
  generalize stC s = cs at H HI HL HO ⊢
  go_enter Try.func16, Try.ntmps16
  go_wp2_with (first | (refine wpList_load_mid rfl 45 _ rfl vb 6 rfl cs _ (H.out _) Try.underlying45 rfl HI.out ?_) | (refine wpList_store_row rfl 45 _ _ rfl w.heap.size cs.toArray rfl rfl 45 _ (heap_alloc_new w _) ?c1 ?c2 HO.out ?_))
  case c1 => rw [HI.out]; simp
  case c2 => rw [HL.out]; rfl
  refine bodyPost_ret (results_cell_row Try.results16 _ _ w.heap.size 45 cs.toArray _ _ rfl (setRow_heap _ _ _ _ _ _ (heap_alloc_new w _)) Try.underlying45 rfl (by rw [HI.out]; simp)) rfl ?_
  exact ⟨rfl, below_setRow ((Below.refl _ _).alloc (Nat.le_refl _) _) (Nat.le_refl _) _⟩

set_option maxRecDepth 100000 in
set_option maxHeartbeats 1000000 in
theorem endv_any (vb : Nat) (m : Fx) (s : St) (w : World) (h : VM w vb m s) : Calls Try.prog 14 #[.pointer (some ⟨vb, 0, none⟩)] w fun e w' => e = .returned (.tuple #[.int .i64 s.over, .int .i64 s.value]) ∧ ∃ n, w' = w.drewN n := by
  have c := h.c24
  have c2 := h.c25
  clear h
  go_enter Try.func14, Try.ntmps14
  go_wp2
  go_quiet (fail)
  go_wp2
  go_ret2
  exact ⟨rfl, _, rfl⟩

theorem stC_pc (s : St) (h : s.regs.length = 16) (j : Nat) (hj : 16 ≤ j) : (stC s)[j]? = [Value.int .i64 s.pc, .int .i64 s.steps, .int .i64 s.over, .int .i64 s.value][j - 16]? := by
  unfold stC
  rw [List.getElem?_append_right (by simp; omega)]
  simp [h]
/-- may this state be set? -/
def mayS (m : Fx) (len : Nat) (s : St) : Bool := decide (0 ≤ s.pc ∧ s.pc < len ∧ 0 ≤ s.steps ∧ s.steps ≤ m.fuel ∧ 0 ≤ s.over ∧ s.over ≤ 5)
def SetP (vb : Nat) (m : Fx) (s s' : St) (b : Bool) (w : World) (e : Ending) (w' : World) : Prop := e = .returned (.bool b) ∧ VM w' vb m (if b then s' else s) ∧ Ch vb w w'

set_option maxRecDepth 100000 in
set_option maxHeartbeats 2000000 in
theorem set_any (vb len : Nat) (m : Fx) (s s' : St) (ca : Option Addr) (cc : Nat) (hcv : m.cv = .slice ca len cc) (hl : s'.regs.length = 16) (w : World) (h : VM w vb m s) : Calls Try.prog 23 #[.pointer (some ⟨vb, 0, none⟩), stV s'] w (SetP vb m s s' (mayS m len s') w) := by
  have H : Hid (VM w vb m s) := h
  obtain ⟨O, hO⟩ : ∃ O : Obj, .cells (stC s').toArray 45 = O := ⟨_, rfl⟩
  have HA : Hid (VM (w.alloc O) vb m s) := h.alloc O
  have g0 : (w.alloc O).heap[w.heap.size]? = some (.cells (stC s').toArray 45) := by rw [hO]; exact heap_alloc_new w O
  have gc : ∀ j, (w.alloc O).cell? ⟨w.heap.size, j, none⟩ = (stC s')[j]? := fun j => by rw [cell_of_row _ _ j _ _ _ g0]; simp
  have d16 : (w.alloc O).cell? ⟨w.heap.size, 16, none⟩ = some (.int .i64 s'.pc) := (gc 16).trans ((stC_pc s' hl 16 (by omega)).trans rfl)
  have d17 : (w.alloc O).cell? ⟨w.heap.size, 17, none⟩ = some (.int .i64 s'.steps) := (gc 17).trans ((stC_pc s' hl 17 (by omega)).trans rfl)
  have d18 : (w.alloc O).cell? ⟨w.heap.size, 18, none⟩ = some (.int .i64 s'.over) := (gc 18).trans ((stC_pc s' hl 18 (by omega)).trans rfl)
  have HR : Hid ((w.alloc O).rangeAt w.heap.size 0 (stC s')) := fun j v hv => by rw [Nat.zero_add, gc]; exact hv
  have HI : Hid ((Try.prog.info? 45).map (·.size) = some (stC s').length) := by show _ = _; rw [stC_len s' hl]; exact size45
  have HO : Hid ((stC s').toArray.all (·.oneCell') = true) := all_oneCell_toArray (stC_one s')
  have HT : Hid ((w.alloc O).there vb 6 (stC s').toArray.size) := by have := (h.alloc O).there; rw [show (stC s').toArray.size = 20 by have := stC_len s' hl; simpa using this]; exact this
  have HS : Hid (∀ n, VM (((w.alloc O).drewN n).setCells vb 6 (stC s')) vb m s') := fun n => ((h.alloc O).drewN n).setAll s' hl
  have HC : Hid (Ch vb w (w.alloc O)) := (Ch.refl vb w).alloc O
  have c0 := HA.out.c0
  have c2 := HA.out.c2
  rw [hcv] at c0
  unfold stV
  obtain ⟨b, hb⟩ : ∃ b, mayS m len s' = b := ⟨_, rfl⟩
  rw [hb]
  unfold mayS at hb
  generalize stC s' = cs at *
  generalize s'.pc = p at *
  generalize s'.steps = q at *
  generalize s'.over = o at *
  generalize m.fuel = F at *
  subst hO
  clear h gc g0 hl hcv
  by_cases h1 : p < 0
  · have hb0 : b = false := by rw [← hb]; simp; omega
    subst hb0
    have e1 : decide (p < 0) = true := by simp [h1]
    clear hb
    go_enter Try.func23, Try.ntmps23
    go_wp2_with fail
    go_quiet (fail)
    go_wp2
    go_ret
    exact ⟨rfl, (HA.out.drewN _), (HC.out.drewN _)⟩
  have e1 : decide (p < 0) = false := by simp; omega
  have h1' : 0 ≤ p := by omega
  by_cases h2 : (len : Int) ≤ p
  · have hb0 : b = false := by rw [← hb]; simp; omega
    subst hb0
    have e2 : decide ((len : Int) ≤ p) = true := by simp [h2]
    clear hb
    go_enter Try.func23, Try.ntmps23
    go_wp2_with fail
    go_quiet (fail)
    go_wp2
    go_ret
    exact ⟨rfl, (HA.out.drewN _), (HC.out.drewN _)⟩
  have e2 : decide ((len : Int) ≤ p) = false := by simp; omega
  have h2' : p < (len : Int) := by omega
  by_cases h3 : q < 0
  · have hb0 : b = false := by rw [← hb]; simp; omega
    subst hb0
    have e3 : decide (q < 0) = true := by simp [h3]
    clear hb
    go_enter Try.func23, Try.ntmps23
    go_wp2_with fail
    go_quiet (fail)
    go_wp2_with fail
    go_quiet (fail)
    go_wp2
    go_ret
    first | exact ⟨rfl, ((HA.out.drewN _).drewN _), ((HC.out.drewN _).drewN _)⟩ | exact ⟨rfl, HA.out.drewN _, HC.out.drewN _⟩
  have e3 : decide (q < 0) = false := by simp; omega
  have h3' : 0 ≤ q := by omega
  by_cases h4 : F < q
  · have hb0 : b = false := by rw [← hb]; simp; omega
    subst hb0
    have e4 : decide (F < q) = true := by simp [h4]
    clear hb
    go_enter Try.func23, Try.ntmps23
    go_wp2_with fail
    go_quiet (fail)
    go_wp2_with fail
    go_quiet (fail)
    go_wp2
    go_ret
    first | exact ⟨rfl, ((HA.out.drewN _).drewN _), ((HC.out.drewN _).drewN _)⟩ | exact ⟨rfl, HA.out.drewN _, HC.out.drewN _⟩
  have e4 : decide (F < q) = false := by simp; omega
  have h4' : q ≤ F := by omega
  by_cases h5 : o < 0
  · have hb0 : b = false := by rw [← hb]; simp; omega
    subst hb0
    have e5 : decide (o < 0) = true := by simp [h5]
    clear hb
    go_enter Try.func23, Try.ntmps23
    go_wp2_with fail
    go_quiet (fail)
    go_wp2_with fail
    go_quiet (fail)
    go_wp2
    go_ret
    first | exact ⟨rfl, ((HA.out.drewN _).drewN _), ((HC.out.drewN _).drewN _)⟩ | exact ⟨rfl, HA.out.drewN _, HC.out.drewN _⟩
  have e5 : decide (o < 0) = false := by simp; omega
  have h5' : 0 ≤ o := by omega
  by_cases h6 : 5 < o
  · have hb0 : b = false := by rw [← hb]; simp; omega
    subst hb0
    have e6 : decide (5 < o) = true := by simp [h6]
    clear hb
    go_enter Try.func23, Try.ntmps23
    go_wp2_with fail
    go_quiet (fail)
    go_wp2_with fail
    go_quiet (fail)
    go_wp2
    go_ret
    first | exact ⟨rfl, ((HA.out.drewN _).drewN _), ((HC.out.drewN _).drewN _)⟩ | exact ⟨rfl, HA.out.drewN _, HC.out.drewN _⟩
  have e6 : decide (5 < o) = false := by simp; omega
  have h6' : o ≤ 5 := by omega
  have hb0 : b = true := by rw [← hb]; simp; omega
  subst hb0
  clear hb
  go_enter Try.func23, Try.ntmps23
  go_wp2_with fail
  go_quiet (fail)
  go_wp2_with fail
  go_quiet (fail)
  go_wp2_with (first | (refine wpList_load_mid rfl 45 _ rfl w.heap.size 0 rfl cs _ HR.out Try.underlying45 rfl HI.out ?_) | (refine wpList_store_mid rfl 45 _ _ rfl vb 6 cs.toArray rfl rfl HT.out ?c1 HO.out ?_))
  case c1 => rw [HI.out]; simp
  go_ret
  exact ⟨rfl, HS.out _, (HC.out.drewN _).setAll _ _⟩

theorem size80 : (Try.prog.info? 80).map (·.size) = some 26 := by kernel_rfl
def St0 (n i k : Int) : St := ⟨[n, i, k, 0, 0, 0, 0, 0, 0, 0, 0, 0, 0, 0, 0, 0], 0, 0, 0, 0⟩
def StZ : St := ⟨[0, 0, 0, 0, 0, 0, 0, 0, 0, 0, 0, 0, 0, 0, 0, 0], 0, 0, 0, 0⟩

set_option maxRecDepth 100000 in
set_option maxHeartbeats 2000000 in
theorem reset_any (vb : Nat) (m : Fx) (s : St) (w : World) (h : VM w vb m s) : Calls Try.prog 24 #[.pointer (some ⟨vb, 0, none⟩)] w fun e w' => e = .returned (.tuple #[]) ∧ VM w' vb m (St0 m.n m.i m.k) ∧ Ch vb w w' := by
  have HT : Hid (w.there vb 6 (stC StZ).toArray.size) := h.there
  have HI : Hid ((Try.prog.info? 45).map (·.size) = some (stC StZ).toArray.size) := size45
  have HO : Hid ((stC StZ).toArray.all (·.oneCell') = true) := all_oneCell_toArray (stC_one StZ)
  have HS : Hid (VM (w.setCells vb 6 (stC StZ)) vb m StZ) := h.setAll StZ rfl
  clear h
  go_enter Try.func24, Try.ntmps24
  go_wp2_with (first | (refine wpList_store_mid rfl 45 _ _ rfl vb 6 (stC StZ).toArray rfl rfl HT.out HI.out HO.out ?_))
  obtain ⟨W, hW⟩ : ∃ W, w.setCells vb 6 (stC StZ) = W := ⟨_, rfl⟩
  rw [hW]
  have HV : Hid (VM W vb m StZ) := by rw [← hW]; exact HS.out
  have HC : Hid (Ch vb w W) := by rw [← hW]; exact (Ch.refl vb w).setAll _ _
  have hcp : (Builtin.copy_ #[25, 25] 3 #[.slice (some ⟨vb, 6, none⟩) 16 16, .slice (some ⟨vb, 3, none⟩) 3 3]).run Try.prog W.drew = .ok (goInt 3) (W.drew.setCells vb 6 [.int .i64 m.n, .int .i64 m.i, .int .i64 m.k]) := by
    refine run_copy_cells W.drew 25 25 3 2 vb 6 16 16 ⟨vb, 3, none⟩ 3 3 [.int .i64 m.n, .int .i64 m.i, .int .i64 m.k] Try.underlying25 (by kernel_rfl) rfl ?_ ?_ ?_ ?_
    · intro j v hj
      rw [addn, HV.out.drew.cell]
      match j, hj with
      | 0, hj => exact hj
      | 1, hj => exact hj
      | 2, hj => exact hj
    · intro j hj; exact (HV.out.drew.there j (by simp at hj; omega)).1
    · intro j hj; exact (HV.out.drew.there j (by simp at hj; omega)).2
    · intro v hv; simp at hv; rcases hv with rfl | rfl | rfl <;> rfl
  have HF : Hid (VM (W.drew.setCells vb 6 [.int .i64 m.n, .int .i64 m.i, .int .i64 m.k]) vb m (St0 m.n m.i m.k)) := ((HV.out.drew.setReg 0 (by decide) m.n).setReg 1 (by decide) m.i).setReg 2 (by decide) m.k
  clear hW HS HT HI HO
  go_region
  go_wp2
  go_end0
  exact ⟨rfl, HF.out, HC.out.drew.setAll _ _⟩
end Go.Proofs.Ytkcncngcmhldpaa
