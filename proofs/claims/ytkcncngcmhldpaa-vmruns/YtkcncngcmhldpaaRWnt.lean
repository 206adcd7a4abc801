/- What the document says that the next instruction wants. -/
import Derived.Test.YtkcncngcmhldpaaRSt5
namespace Go.Proofs.Ytkcncngcmhldpaa
open Go.RowKit Go.Maps
set_option linter.unusedVariables false

theorem ret_wt2 {fn : Func} {q : Nat} (h : fn.results = #[.cell q 35]) (tmps : Array Value) (g : Nat) (hb : tmps.getD q undef = .pointer (some ⟨g, 0, none⟩)) (W : World) (a b c : Value) (hg : W.heap[g]? = some (.cells #[a, b, c] 35)) :
    (results fn tmps).run Try.prog W = .ok (.agg #[a, b, c]) W := results_cell_row h tmps W g 35 #[a, b, c] _ _ hb hg Try.underlying35 rfl size35

set_option maxRecDepth 100000 in
set_option maxHeartbeats 2000000 in
theorem rwn_6 (cb co cl cp p : Nat) (op xa xb xc xk words fuel : Int) (ha : 0 ≤ xa ∧ xa < 16) (hb : 0 ≤ xb ∧ xb < 16) (hxk : R64 xk) (rv : Value) (s : St) (hl : s.regs.length = 16) (hreg : ∀ r < 16, R64 (rg s r)) (hp : s.pc = p) (h0 : s.over = 0) (hf : ¬ fuel ≤ s.steps) (hs : 0 ≤ s.steps ∧ s.steps < 4000) (hc : cl ≤ 1000) (w : World) (hx : At1 w cb co cl cp p ⟨6, op, xa, xb, xc, xk⟩) (hrv : RRg w rv s) : Calls Try.prog 10 #[mV (.slice (some ⟨cb, co, none⟩) cl cp) rv words fuel s] w (WantP (wantI words ⟨6, op, xa, xb, xc, xk⟩ s) w) := by
  obtain ⟨rb, rc, rfl, h16, hrm, hcells⟩ := hrv
  obtain ⟨⟨i0, i1, i2, i3, i4, i5⟩, hlt, hcap, hmx⟩ := hx
  have HCE : Hid (∀ r, r < 16 → w.cell? ⟨rb, r, none⟩ = some (.int .i64 (rg s r))) := hcells
  have hcl : cb < w.heap.size := World.block_lt_of_cell? w ⟨cb, co + p * 6, none⟩ i0
  have hrl : rb < w.heap.size := World.block_lt_of_cell? w ⟨rb, 0, none⟩ (hcells 0 (by omega))
  dsimp only at i0 i1 i2 i3 i4 i5
  have HRM : Hid (rc ≤ maxLen) := hrm
  unfold maxLen at hrm hmx
  obtain ⟨q, hq⟩ : ∃ q, s.steps = q := ⟨_, rfl⟩
  unfold mV mC
  rw [hp, h0, hq]
  rw [hq] at hf hs
  have hf2 : decide (fuel ≤ q) = false := by simp; omega
  obtain ⟨vl, hvl⟩ : ∃ v, s.value = v := ⟨_, rfl⟩
  rw [hvl]
  have HL : Hid (s.regs.length = 16) := hl
  obtain ⟨n, hn0⟩ : ∃ n : Nat, xb = n := ⟨xb.toNat, by omega⟩
  subst hn0
  have hn : n < 16 := by omega
  have cn := hcells n hn
  have cn3 : ∀ A B C, (((w.alloc A).alloc B).alloc C).cell? ⟨rb, n, none⟩ = w.cell? ⟨rb, n, none⟩ := fun A B C => (three_b w A B C).cell (p := ⟨rb, n, none⟩) hrl
  rw [cn] at cn3
  obtain ⟨na, hna0⟩ : ∃ n : Nat, xa = n := ⟨xa.toNat, by omega⟩
  subst hna0
  have hna : na < 16 := by omega
  have cna := hcells na hna
  have cna3 : ∀ A B C, (((w.alloc A).alloc B).alloc C).cell? ⟨rb, na, none⟩ = w.cell? ⟨rb, na, none⟩ := fun A B C => (three_b w A B C).cell (p := ⟨rb, na, none⟩) hrl
  rw [cna] at cna3
  have HO : Hid (∀ w, Calls Try.prog 26 #[.int .i64 (rg s n), .int .i64 xk] w fun e w' => e = .returned (.int .i64 (addrS s ⟨6, op, (na : Int), (n : Int), xc, xk⟩)) ∧ w' = w) := fun w => by unfold addrS; rw [Int.toNat_natCast]; exact plus_any (rg s n) xk (hreg n hn) hxk w
  have hWI : ∀ t : St, t.regs = s.regs → wantI words ⟨6, op, (na : Int), (n : Int), xc, xk⟩ t = if insideB words (addrS s ⟨6, op, (na : Int), (n : Int), xc, xk⟩) then ⟨1, (addrS s ⟨6, op, (na : Int), (n : Int), xc, xk⟩), 0⟩ else ⟨0, 0, 0⟩ := fun t ht => by
    have e1 : addrS t ⟨6, op, (na : Int), (n : Int), xc, xk⟩ = addrS s ⟨6, op, (na : Int), (n : Int), xc, xk⟩ := by unfold addrS rg; rw [ht]
    have e2 : rg t na = rg s na := by unfold rg; rw [ht]
    unfold wantI
    rw [e1]
    simp
  have HWI : Hid (wantI words ⟨6, op, (na : Int), (n : Int), xc, xk⟩ s = if insideB words (addrS s ⟨6, op, (na : Int), (n : Int), xc, xk⟩) then ⟨1, (addrS s ⟨6, op, (na : Int), (n : Int), xc, xk⟩), 0⟩ else ⟨0, 0, 0⟩) := hWI s rfl
  clear hWI
  generalize wantI words ⟨6, op, (na : Int), (n : Int), xc, xk⟩ s = wt at HWI ⊢
  generalize addrS s ⟨6, op, (na : Int), (n : Int), xc, xk⟩ = z at HO HWI
  generalize rg s na = ga at cna cna3 HWI
  generalize rg s n = gn at cn cn3 HO
  clear hcells hp h0 hq hvl hl hf hreg
  by_cases z0 : 0 ≤ z
  · by_cases z1 : z < words
    · have d1 : decide (0 ≤ z) = true := by simp; omega
      have d2 : decide (z < words) = true := by simp; omega
      have HI : Hid (insideB words z = true) := by show insideB words z = true; unfold insideB; rw [d1, d2]; rfl
      clear z0 z1
      go_enter Try.func10, Try.ntmps10
      go_wp2_with fail
      go_quiet (first | (go_at_call 26; exact Calls.quiet_of_same (HO.out _)))
      obtain ⟨W, hW⟩ : ∃ W, (((w.alloc (.cells #[Value.slice (some ⟨cb, co, none⟩) cl cp, .int .i64 words, .int .i64 fuel, .slice (some ⟨rb, 0, none⟩) 16 rc, .int .i64 (p : Int), .int .i64 q, .int .i64 0, .int .i64 vl] 29)).alloc (.cells #[Value.int .i64 0, Value.int .i64 0, Value.int .i64 0] 35)).alloc (.cells #[Value.int .i64 6, .int .i64 op, .int .i64 (na : Int), .int .i64 (n : Int), .int .i64 xc, .int .i64 xk] 76)).drewN nq = W := ⟨_, rfl⟩
      have HBW : Hid (Below w.heap.size w W) := by show Below _ _ _; rw [← hW]; exact below_drewN (three_b w _ _ _) _
      have hM : W.heap[w.heap.size]? = some (.cells #[Value.slice (some ⟨cb, co, none⟩) cl cp, .int .i64 words, .int .i64 fuel, .slice (some ⟨rb, 0, none⟩) 16 rc, .int .i64 (p : Int), .int .i64 q, .int .i64 0, .int .i64 vl] 29) := by rw [← hW]; exact three_m w _ _ _
      have hY : W.heap[w.heap.size + 1]? = some (.cells #[Value.int .i64 0, Value.int .i64 0, Value.int .i64 0] 35) := by rw [← hW]; exact three_z w _ _ _
      have hXW : W.heap[w.heap.size + 1 + 1]? = some (.cells #[Value.int .i64 6, .int .i64 op, .int .i64 (na : Int), .int .i64 (n : Int), .int .i64 xc, .int .i64 xk] 76) := by rw [← hW]; exact three_x w _ _ _
      have HY : Hid (W.heap[w.heap.size + 1]? = some (.cells #[Value.int .i64 0, Value.int .i64 0, Value.int .i64 0] 35)) := hY
      have x0 : W.cell? ⟨w.heap.size + 1 + 1, 0, none⟩ = some (.int .i64 6) := (cell_of_row W _ 0 _ _ _ hXW).trans rfl
      have x2 : W.cell? ⟨w.heap.size + 1 + 1, 2, none⟩ = some (.int .i64 (na : Int)) := (cell_of_row W _ 2 _ _ _ hXW).trans rfl
      have x4 : W.cell? ⟨w.heap.size + 1 + 1, 4, none⟩ = some (.int .i64 xc) := (cell_of_row W _ 4 _ _ _ hXW).trans rfl
      have m1 : W.cell? ⟨w.heap.size, 1, none⟩ = some (.int .i64 words) := (cell_of_row W _ 1 _ _ _ hM).trans rfl
      have m3 : W.cell? ⟨w.heap.size, 3, none⟩ = some (.slice (some ⟨rb, 0, none⟩) 16 rc) := (cell_of_row W _ 3 _ _ _ hM).trans rfl
      have z0 : W.cell? ⟨w.heap.size + 1, 0, none⟩ = some (.int .i64 0) := (cell_of_row W _ 0 _ _ _ hY).trans rfl
      have y0 : W.frozen? ⟨w.heap.size + 1, 0, none⟩ = false := frozen_of_row W _ 0 _ _ hY
      have z1 : W.cell? ⟨w.heap.size + 1, 1, none⟩ = some (.int .i64 0) := (cell_of_row W _ 1 _ _ _ hY).trans rfl
      have y1 : W.frozen? ⟨w.heap.size + 1, 1, none⟩ = false := frozen_of_row W _ 1 _ _ hY
      have z2 : W.cell? ⟨w.heap.size + 1, 2, none⟩ = some (.int .i64 0) := (cell_of_row W _ 2 _ _ _ hY).trans rfl
      have y2 : W.frozen? ⟨w.heap.size + 1, 2, none⟩ = false := frozen_of_row W _ 2 _ _ hY
      have r1 : W.cell? ⟨rb, na, none⟩ = some (.int .i64 ga) := (HBW.out.cell (p := ⟨rb, na, none⟩) hrl).trans cna
      have hne1 : w.heap.size ≠ w.heap.size + 1 := by omega
      have hne2 : w.heap.size + 1 + 1 ≠ w.heap.size + 1 := by omega
      have hne3 : rb ≠ w.heap.size + 1 := by omega
      have hne4 : w.heap.size + 1 ≠ rb := by omega
      rw [hW]
      clear hW hM hY hXW cn cn3 cna cna3 i0 i1 i2 i3 i4 i5
      go_wp2
      refine bodyPost_ret (ret_wt2 Try.results10 _ (w.heap.size + 1) rfl _ _ _ _ (put3 HY.out)) rfl ?_
      rw [HWI.out]
      rw [HI.out]
      exact ⟨rfl, put3_below HBW.out (by omega)⟩
    · have d1 : decide (0 ≤ z) = true := by simp; omega
      have d2 : decide (z < words) = false := by simp; omega
      have HI : Hid (insideB words z = false) := by show insideB words z = false; unfold insideB; rw [d1, d2]; rfl
      clear z0 z1
      go_enter Try.func10, Try.ntmps10
      go_wp2_with fail
      go_quiet (first | (go_at_call 26; exact Calls.quiet_of_same (HO.out _)))
      obtain ⟨W, hW⟩ : ∃ W, (((w.alloc (.cells #[Value.slice (some ⟨cb, co, none⟩) cl cp, .int .i64 words, .int .i64 fuel, .slice (some ⟨rb, 0, none⟩) 16 rc, .int .i64 (p : Int), .int .i64 q, .int .i64 0, .int .i64 vl] 29)).alloc (.cells #[Value.int .i64 0, Value.int .i64 0, Value.int .i64 0] 35)).alloc (.cells #[Value.int .i64 6, .int .i64 op, .int .i64 (na : Int), .int .i64 (n : Int), .int .i64 xc, .int .i64 xk] 76)).drewN nq = W := ⟨_, rfl⟩
      have HBW : Hid (Below w.heap.size w W) := by show Below _ _ _; rw [← hW]; exact below_drewN (three_b w _ _ _) _
      have hM : W.heap[w.heap.size]? = some (.cells #[Value.slice (some ⟨cb, co, none⟩) cl cp, .int .i64 words, .int .i64 fuel, .slice (some ⟨rb, 0, none⟩) 16 rc, .int .i64 (p : Int), .int .i64 q, .int .i64 0, .int .i64 vl] 29) := by rw [← hW]; exact three_m w _ _ _
      have hY : W.heap[w.heap.size + 1]? = some (.cells #[Value.int .i64 0, Value.int .i64 0, Value.int .i64 0] 35) := by rw [← hW]; exact three_z w _ _ _
      have hXW : W.heap[w.heap.size + 1 + 1]? = some (.cells #[Value.int .i64 6, .int .i64 op, .int .i64 (na : Int), .int .i64 (n : Int), .int .i64 xc, .int .i64 xk] 76) := by rw [← hW]; exact three_x w _ _ _
      have HY : Hid (W.heap[w.heap.size + 1]? = some (.cells #[Value.int .i64 0, Value.int .i64 0, Value.int .i64 0] 35)) := hY
      have x0 : W.cell? ⟨w.heap.size + 1 + 1, 0, none⟩ = some (.int .i64 6) := (cell_of_row W _ 0 _ _ _ hXW).trans rfl
      have x2 : W.cell? ⟨w.heap.size + 1 + 1, 2, none⟩ = some (.int .i64 (na : Int)) := (cell_of_row W _ 2 _ _ _ hXW).trans rfl
      have x4 : W.cell? ⟨w.heap.size + 1 + 1, 4, none⟩ = some (.int .i64 xc) := (cell_of_row W _ 4 _ _ _ hXW).trans rfl
      have m1 : W.cell? ⟨w.heap.size, 1, none⟩ = some (.int .i64 words) := (cell_of_row W _ 1 _ _ _ hM).trans rfl
      have m3 : W.cell? ⟨w.heap.size, 3, none⟩ = some (.slice (some ⟨rb, 0, none⟩) 16 rc) := (cell_of_row W _ 3 _ _ _ hM).trans rfl
      have z0 : W.cell? ⟨w.heap.size + 1, 0, none⟩ = some (.int .i64 0) := (cell_of_row W _ 0 _ _ _ hY).trans rfl
      have y0 : W.frozen? ⟨w.heap.size + 1, 0, none⟩ = false := frozen_of_row W _ 0 _ _ hY
      have z1 : W.cell? ⟨w.heap.size + 1, 1, none⟩ = some (.int .i64 0) := (cell_of_row W _ 1 _ _ _ hY).trans rfl
      have y1 : W.frozen? ⟨w.heap.size + 1, 1, none⟩ = false := frozen_of_row W _ 1 _ _ hY
      have z2 : W.cell? ⟨w.heap.size + 1, 2, none⟩ = some (.int .i64 0) := (cell_of_row W _ 2 _ _ _ hY).trans rfl
      have y2 : W.frozen? ⟨w.heap.size + 1, 2, none⟩ = false := frozen_of_row W _ 2 _ _ hY
      have r1 : W.cell? ⟨rb, na, none⟩ = some (.int .i64 ga) := (HBW.out.cell (p := ⟨rb, na, none⟩) hrl).trans cna
      have hne1 : w.heap.size ≠ w.heap.size + 1 := by omega
      have hne2 : w.heap.size + 1 + 1 ≠ w.heap.size + 1 := by omega
      have hne3 : rb ≠ w.heap.size + 1 := by omega
      have hne4 : w.heap.size + 1 ≠ rb := by omega
      rw [hW]
      clear hW hM hY hXW cn cn3 cna cna3 i0 i1 i2 i3 i4 i5
      go_wp2
      refine bodyPost_ret (ret_wt2 Try.results10 _ (w.heap.size + 1) rfl _ _ _ _ (put3 HY.out)) rfl ?_
      rw [HWI.out]
      rw [HI.out]
      exact ⟨rfl, put3_below HBW.out (by omega)⟩
  · have d1 : decide (0 ≤ z) = false := by simp; omega
    have HI : Hid (insideB words z = false) := by show insideB words z = false; unfold insideB; rw [d1]; rfl
    clear z0
    go_enter Try.func10, Try.ntmps10
    go_wp2_with fail
    go_quiet (first | (go_at_call 26; exact Calls.quiet_of_same (HO.out _)))
    obtain ⟨W, hW⟩ : ∃ W, (((w.alloc (.cells #[Value.slice (some ⟨cb, co, none⟩) cl cp, .int .i64 words, .int .i64 fuel, .slice (some ⟨rb, 0, none⟩) 16 rc, .int .i64 (p : Int), .int .i64 q, .int .i64 0, .int .i64 vl] 29)).alloc (.cells #[Value.int .i64 0, Value.int .i64 0, Value.int .i64 0] 35)).alloc (.cells #[Value.int .i64 6, .int .i64 op, .int .i64 (na : Int), .int .i64 (n : Int), .int .i64 xc, .int .i64 xk] 76)).drewN nq = W := ⟨_, rfl⟩
    have HBW : Hid (Below w.heap.size w W) := by show Below _ _ _; rw [← hW]; exact below_drewN (three_b w _ _ _) _
    have hM : W.heap[w.heap.size]? = some (.cells #[Value.slice (some ⟨cb, co, none⟩) cl cp, .int .i64 words, .int .i64 fuel, .slice (some ⟨rb, 0, none⟩) 16 rc, .int .i64 (p : Int), .int .i64 q, .int .i64 0, .int .i64 vl] 29) := by rw [← hW]; exact three_m w _ _ _
    have hY : W.heap[w.heap.size + 1]? = some (.cells #[Value.int .i64 0, Value.int .i64 0, Value.int .i64 0] 35) := by rw [← hW]; exact three_z w _ _ _
    have hXW : W.heap[w.heap.size + 1 + 1]? = some (.cells #[Value.int .i64 6, .int .i64 op, .int .i64 (na : Int), .int .i64 (n : Int), .int .i64 xc, .int .i64 xk] 76) := by rw [← hW]; exact three_x w _ _ _
    have HY : Hid (W.heap[w.heap.size + 1]? = some (.cells #[Value.int .i64 0, Value.int .i64 0, Value.int .i64 0] 35)) := hY
    have x0 : W.cell? ⟨w.heap.size + 1 + 1, 0, none⟩ = some (.int .i64 6) := (cell_of_row W _ 0 _ _ _ hXW).trans rfl
    have x2 : W.cell? ⟨w.heap.size + 1 + 1, 2, none⟩ = some (.int .i64 (na : Int)) := (cell_of_row W _ 2 _ _ _ hXW).trans rfl
    have x4 : W.cell? ⟨w.heap.size + 1 + 1, 4, none⟩ = some (.int .i64 xc) := (cell_of_row W _ 4 _ _ _ hXW).trans rfl
    have m1 : W.cell? ⟨w.heap.size, 1, none⟩ = some (.int .i64 words) := (cell_of_row W _ 1 _ _ _ hM).trans rfl
    have m3 : W.cell? ⟨w.heap.size, 3, none⟩ = some (.slice (some ⟨rb, 0, none⟩) 16 rc) := (cell_of_row W _ 3 _ _ _ hM).trans rfl
    have z0 : W.cell? ⟨w.heap.size + 1, 0, none⟩ = some (.int .i64 0) := (cell_of_row W _ 0 _ _ _ hY).trans rfl
    have y0 : W.frozen? ⟨w.heap.size + 1, 0, none⟩ = false := frozen_of_row W _ 0 _ _ hY
    have z1 : W.cell? ⟨w.heap.size + 1, 1, none⟩ = some (.int .i64 0) := (cell_of_row W _ 1 _ _ _ hY).trans rfl
    have y1 : W.frozen? ⟨w.heap.size + 1, 1, none⟩ = false := frozen_of_row W _ 1 _ _ hY
    have z2 : W.cell? ⟨w.heap.size + 1, 2, none⟩ = some (.int .i64 0) := (cell_of_row W _ 2 _ _ _ hY).trans rfl
    have y2 : W.frozen? ⟨w.heap.size + 1, 2, none⟩ = false := frozen_of_row W _ 2 _ _ hY
    have r1 : W.cell? ⟨rb, na, none⟩ = some (.int .i64 ga) := (HBW.out.cell (p := ⟨rb, na, none⟩) hrl).trans cna
    have hne1 : w.heap.size ≠ w.heap.size + 1 := by omega
    have hne2 : w.heap.size + 1 + 1 ≠ w.heap.size + 1 := by omega
    have hne3 : rb ≠ w.heap.size + 1 := by omega
    have hne4 : w.heap.size + 1 ≠ rb := by omega
    rw [hW]
    clear hW hM hY hXW cn cn3 cna cna3 i0 i1 i2 i3 i4 i5
    go_wp2
    refine bodyPost_ret (ret_wt2 Try.results10 _ (w.heap.size + 1) rfl _ _ _ _ (put3 HY.out)) rfl ?_
    rw [HWI.out]
    rw [HI.out]
    exact ⟨rfl, put3_below HBW.out (by omega)⟩

set_option maxRecDepth 100000 in
set_option maxHeartbeats 2000000 in
theorem rwn_7 (cb co cl cp p : Nat) (op xa xb xc xk words fuel : Int) (ha : 0 ≤ xa ∧ xa < 16) (hb : 0 ≤ xb ∧ xb < 16) (hxk : R64 xk) (rv : Value) (s : St) (hl : s.regs.length = 16) (hreg : ∀ r < 16, R64 (rg s r)) (hp : s.pc = p) (h0 : s.over = 0) (hf : ¬ fuel ≤ s.steps) (hs : 0 ≤ s.steps ∧ s.steps < 4000) (hc : cl ≤ 1000) (w : World) (hx : At1 w cb co cl cp p ⟨7, op, xa, xb, xc, xk⟩) (hrv : RRg w rv s) : Calls Try.prog 10 #[mV (.slice (some ⟨cb, co, none⟩) cl cp) rv words fuel s] w (WantP (wantI words ⟨7, op, xa, xb, xc, xk⟩ s) w) := by
  obtain ⟨rb, rc, rfl, h16, hrm, hcells⟩ := hrv
  obtain ⟨⟨i0, i1, i2, i3, i4, i5⟩, hlt, hcap, hmx⟩ := hx
  have HCE : Hid (∀ r, r < 16 → w.cell? ⟨rb, r, none⟩ = some (.int .i64 (rg s r))) := hcells
  have hcl : cb < w.heap.size := World.block_lt_of_cell? w ⟨cb, co + p * 6, none⟩ i0
  have hrl : rb < w.heap.size := World.block_lt_of_cell? w ⟨rb, 0, none⟩ (hcells 0 (by omega))
  dsimp only at i0 i1 i2 i3 i4 i5
  have HRM : Hid (rc ≤ maxLen) := hrm
  unfold maxLen at hrm hmx
  obtain ⟨q, hq⟩ : ∃ q, s.steps = q := ⟨_, rfl⟩
  unfold mV mC
  rw [hp, h0, hq]
  rw [hq] at hf hs
  have hf2 : decide (fuel ≤ q) = false := by simp; omega
  obtain ⟨vl, hvl⟩ : ∃ v, s.value = v := ⟨_, rfl⟩
  rw [hvl]
  have HL : Hid (s.regs.length = 16) := hl
  obtain ⟨n, hn0⟩ : ∃ n : Nat, xb = n := ⟨xb.toNat, by omega⟩
  subst hn0
  have hn : n < 16 := by omega
  have cn := hcells n hn
  have cn3 : ∀ A B C, (((w.alloc A).alloc B).alloc C).cell? ⟨rb, n, none⟩ = w.cell? ⟨rb, n, none⟩ := fun A B C => (three_b w A B C).cell (p := ⟨rb, n, none⟩) hrl
  rw [cn] at cn3
  obtain ⟨na, hna0⟩ : ∃ n : Nat, xa = n := ⟨xa.toNat, by omega⟩
  subst hna0
  have hna : na < 16 := by omega
  have cna := hcells na hna
  have cna3 : ∀ A B C, (((w.alloc A).alloc B).alloc C).cell? ⟨rb, na, none⟩ = w.cell? ⟨rb, na, none⟩ := fun A B C => (three_b w A B C).cell (p := ⟨rb, na, none⟩) hrl
  rw [cna] at cna3
  have HO : Hid (∀ w, Calls Try.prog 26 #[.int .i64 (rg s n), .int .i64 xk] w fun e w' => e = .returned (.int .i64 (addrS s ⟨7, op, (na : Int), (n : Int), xc, xk⟩)) ∧ w' = w) := fun w => by unfold addrS; rw [Int.toNat_natCast]; exact plus_any (rg s n) xk (hreg n hn) hxk w
  have hWI : ∀ t : St, t.regs = s.regs → wantI words ⟨7, op, (na : Int), (n : Int), xc, xk⟩ t = if insideB words (addrS s ⟨7, op, (na : Int), (n : Int), xc, xk⟩) then ⟨2, (addrS s ⟨7, op, (na : Int), (n : Int), xc, xk⟩), (rg s na)⟩ else ⟨0, 0, 0⟩ := fun t ht => by
    have e1 : addrS t ⟨7, op, (na : Int), (n : Int), xc, xk⟩ = addrS s ⟨7, op, (na : Int), (n : Int), xc, xk⟩ := by unfold addrS rg; rw [ht]
    have e2 : rg t na = rg s na := by unfold rg; rw [ht]
    unfold wantI
    rw [e1]
    simp [e2]
  have HWI : Hid (wantI words ⟨7, op, (na : Int), (n : Int), xc, xk⟩ s = if insideB words (addrS s ⟨7, op, (na : Int), (n : Int), xc, xk⟩) then ⟨2, (addrS s ⟨7, op, (na : Int), (n : Int), xc, xk⟩), (rg s na)⟩ else ⟨0, 0, 0⟩) := hWI s rfl
  clear hWI
  generalize wantI words ⟨7, op, (na : Int), (n : Int), xc, xk⟩ s = wt at HWI ⊢
  generalize addrS s ⟨7, op, (na : Int), (n : Int), xc, xk⟩ = z at HO HWI
  generalize rg s na = ga at cna cna3 HWI
  generalize rg s n = gn at cn cn3 HO
  clear hcells hp h0 hq hvl hl hf hreg
  by_cases z0 : 0 ≤ z
  · by_cases z1 : z < words
    · have d1 : decide (0 ≤ z) = true := by simp; omega
      have d2 : decide (z < words) = true := by simp; omega
      have HI : Hid (insideB words z = true) := by show insideB words z = true; unfold insideB; rw [d1, d2]; rfl
      clear z0 z1
      go_enter Try.func10, Try.ntmps10
      go_wp2_with fail
      go_quiet (first | (go_at_call 26; exact Calls.quiet_of_same (HO.out _)))
      obtain ⟨W, hW⟩ : ∃ W, (((w.alloc (.cells #[Value.slice (some ⟨cb, co, none⟩) cl cp, .int .i64 words, .int .i64 fuel, .slice (some ⟨rb, 0, none⟩) 16 rc, .int .i64 (p : Int), .int .i64 q, .int .i64 0, .int .i64 vl] 29)).alloc (.cells #[Value.int .i64 0, Value.int .i64 0, Value.int .i64 0] 35)).alloc (.cells #[Value.int .i64 7, .int .i64 op, .int .i64 (na : Int), .int .i64 (n : Int), .int .i64 xc, .int .i64 xk] 76)).drewN nq = W := ⟨_, rfl⟩
      have HBW : Hid (Below w.heap.size w W) := by show Below _ _ _; rw [← hW]; exact below_drewN (three_b w _ _ _) _
      have hM : W.heap[w.heap.size]? = some (.cells #[Value.slice (some ⟨cb, co, none⟩) cl cp, .int .i64 words, .int .i64 fuel, .slice (some ⟨rb, 0, none⟩) 16 rc, .int .i64 (p : Int), .int .i64 q, .int .i64 0, .int .i64 vl] 29) := by rw [← hW]; exact three_m w _ _ _
      have hY : W.heap[w.heap.size + 1]? = some (.cells #[Value.int .i64 0, Value.int .i64 0, Value.int .i64 0] 35) := by rw [← hW]; exact three_z w _ _ _
      have hXW : W.heap[w.heap.size + 1 + 1]? = some (.cells #[Value.int .i64 7, .int .i64 op, .int .i64 (na : Int), .int .i64 (n : Int), .int .i64 xc, .int .i64 xk] 76) := by rw [← hW]; exact three_x w _ _ _
      have HY : Hid (W.heap[w.heap.size + 1]? = some (.cells #[Value.int .i64 0, Value.int .i64 0, Value.int .i64 0] 35)) := hY
      have x0 : W.cell? ⟨w.heap.size + 1 + 1, 0, none⟩ = some (.int .i64 7) := (cell_of_row W _ 0 _ _ _ hXW).trans rfl
      have x2 : W.cell? ⟨w.heap.size + 1 + 1, 2, none⟩ = some (.int .i64 (na : Int)) := (cell_of_row W _ 2 _ _ _ hXW).trans rfl
      have x4 : W.cell? ⟨w.heap.size + 1 + 1, 4, none⟩ = some (.int .i64 xc) := (cell_of_row W _ 4 _ _ _ hXW).trans rfl
      have m1 : W.cell? ⟨w.heap.size, 1, none⟩ = some (.int .i64 words) := (cell_of_row W _ 1 _ _ _ hM).trans rfl
      have m3 : W.cell? ⟨w.heap.size, 3, none⟩ = some (.slice (some ⟨rb, 0, none⟩) 16 rc) := (cell_of_row W _ 3 _ _ _ hM).trans rfl
      have z0 : W.cell? ⟨w.heap.size + 1, 0, none⟩ = some (.int .i64 0) := (cell_of_row W _ 0 _ _ _ hY).trans rfl
      have y0 : W.frozen? ⟨w.heap.size + 1, 0, none⟩ = false := frozen_of_row W _ 0 _ _ hY
      have z1 : W.cell? ⟨w.heap.size + 1, 1, none⟩ = some (.int .i64 0) := (cell_of_row W _ 1 _ _ _ hY).trans rfl
      have y1 : W.frozen? ⟨w.heap.size + 1, 1, none⟩ = false := frozen_of_row W _ 1 _ _ hY
      have z2 : W.cell? ⟨w.heap.size + 1, 2, none⟩ = some (.int .i64 0) := (cell_of_row W _ 2 _ _ _ hY).trans rfl
      have y2 : W.frozen? ⟨w.heap.size + 1, 2, none⟩ = false := frozen_of_row W _ 2 _ _ hY
      have r1 : W.cell? ⟨rb, na, none⟩ = some (.int .i64 ga) := (HBW.out.cell (p := ⟨rb, na, none⟩) hrl).trans cna
      have hne1 : w.heap.size ≠ w.heap.size + 1 := by omega
      have hne2 : w.heap.size + 1 + 1 ≠ w.heap.size + 1 := by omega
      have hne3 : rb ≠ w.heap.size + 1 := by omega
      have hne4 : w.heap.size + 1 ≠ rb := by omega
      rw [hW]
      clear hW hM hY hXW cn cn3 cna cna3 i0 i1 i2 i3 i4 i5
      go_wp2
      refine bodyPost_ret (ret_wt2 Try.results10 _ (w.heap.size + 1) rfl _ _ _ _ (put3 HY.out)) rfl ?_
      rw [HWI.out]
      rw [HI.out]
      exact ⟨rfl, put3_below HBW.out (by omega)⟩
    · have d1 : decide (0 ≤ z) = true := by simp; omega
      have d2 : decide (z < words) = false := by simp; omega
      have HI : Hid (insideB words z = false) := by show insideB words z = false; unfold insideB; rw [d1, d2]; rfl
      clear z0 z1
      go_enter Try.func10, Try.ntmps10
      go_wp2_with fail
      go_quiet (first | (go_at_call 26; exact Calls.quiet_of_same (HO.out _)))
      obtain ⟨W, hW⟩ : ∃ W, (((w.alloc (.cells #[Value.slice (some ⟨cb, co, none⟩) cl cp, .int .i64 words, .int .i64 fuel, .slice (some ⟨rb, 0, none⟩) 16 rc, .int .i64 (p : Int), .int .i64 q, .int .i64 0, .int .i64 vl] 29)).alloc (.cells #[Value.int .i64 0, Value.int .i64 0, Value.int .i64 0] 35)).alloc (.cells #[Value.int .i64 7, .int .i64 op, .int .i64 (na : Int), .int .i64 (n : Int), .int .i64 xc, .int .i64 xk] 76)).drewN nq = W := ⟨_, rfl⟩
      have HBW : Hid (Below w.heap.size w W) := by show Below _ _ _; rw [← hW]; exact below_drewN (three_b w _ _ _) _
      have hM : W.heap[w.heap.size]? = some (.cells #[Value.slice (some ⟨cb, co, none⟩) cl cp, .int .i64 words, .int .i64 fuel, .slice (some ⟨rb, 0, none⟩) 16 rc, .int .i64 (p : Int), .int .i64 q, .int .i64 0, .int .i64 vl] 29) := by rw [← hW]; exact three_m w _ _ _
      have hY : W.heap[w.heap.size + 1]? = some (.cells #[Value.int .i64 0, Value.int .i64 0, Value.int .i64 0] 35) := by rw [← hW]; exact three_z w _ _ _
      have hXW : W.heap[w.heap.size + 1 + 1]? = some (.cells #[Value.int .i64 7, .int .i64 op, .int .i64 (na : Int), .int .i64 (n : Int), .int .i64 xc, .int .i64 xk] 76) := by rw [← hW]; exact three_x w _ _ _
      have HY : Hid (W.heap[w.heap.size + 1]? = some (.cells #[Value.int .i64 0, Value.int .i64 0, Value.int .i64 0] 35)) := hY
      have x0 : W.cell? ⟨w.heap.size + 1 + 1, 0, none⟩ = some (.int .i64 7) := (cell_of_row W _ 0 _ _ _ hXW).trans rfl
      have x2 : W.cell? ⟨w.heap.size + 1 + 1, 2, none⟩ = some (.int .i64 (na : Int)) := (cell_of_row W _ 2 _ _ _ hXW).trans rfl
      have x4 : W.cell? ⟨w.heap.size + 1 + 1, 4, none⟩ = some (.int .i64 xc) := (cell_of_row W _ 4 _ _ _ hXW).trans rfl
      have m1 : W.cell? ⟨w.heap.size, 1, none⟩ = some (.int .i64 words) := (cell_of_row W _ 1 _ _ _ hM).trans rfl
      have m3 : W.cell? ⟨w.heap.size, 3, none⟩ = some (.slice (some ⟨rb, 0, none⟩) 16 rc) := (cell_of_row W _ 3 _ _ _ hM).trans rfl
      have z0 : W.cell? ⟨w.heap.size + 1, 0, none⟩ = some (.int .i64 0) := (cell_of_row W _ 0 _ _ _ hY).trans rfl
      have y0 : W.frozen? ⟨w.heap.size + 1, 0, none⟩ = false := frozen_of_row W _ 0 _ _ hY
      have z1 : W.cell? ⟨w.heap.size + 1, 1, none⟩ = some (.int .i64 0) := (cell_of_row W _ 1 _ _ _ hY).trans rfl
      have y1 : W.frozen? ⟨w.heap.size + 1, 1, none⟩ = false := frozen_of_row W _ 1 _ _ hY
      have z2 : W.cell? ⟨w.heap.size + 1, 2, none⟩ = some (.int .i64 0) := (cell_of_row W _ 2 _ _ _ hY).trans rfl
      have y2 : W.frozen? ⟨w.heap.size + 1, 2, none⟩ = false := frozen_of_row W _ 2 _ _ hY
      have r1 : W.cell? ⟨rb, na, none⟩ = some (.int .i64 ga) := (HBW.out.cell (p := ⟨rb, na, none⟩) hrl).trans cna
      have hne1 : w.heap.size ≠ w.heap.size + 1 := by omega
      have hne2 : w.heap.size + 1 + 1 ≠ w.heap.size + 1 := by omega
      have hne3 : rb ≠ w.heap.size + 1 := by omega
      have hne4 : w.heap.size + 1 ≠ rb := by omega
      rw [hW]
      clear hW hM hY hXW cn cn3 cna cna3 i0 i1 i2 i3 i4 i5
      go_wp2
      refine bodyPost_ret (ret_wt2 Try.results10 _ (w.heap.size + 1) rfl _ _ _ _ (put3 HY.out)) rfl ?_
      rw [HWI.out]
      rw [HI.out]
      exact ⟨rfl, put3_below HBW.out (by omega)⟩
  · have d1 : decide (0 ≤ z) = false := by simp; omega
    have HI : Hid (insideB words z = false) := by show insideB words z = false; unfold insideB; rw [d1]; rfl
    clear z0
    go_enter Try.func10, Try.ntmps10
    go_wp2_with fail
    go_quiet (first | (go_at_call 26; exact Calls.quiet_of_same (HO.out _)))
    obtain ⟨W, hW⟩ : ∃ W, (((w.alloc (.cells #[Value.slice (some ⟨cb, co, none⟩) cl cp, .int .i64 words, .int .i64 fuel, .slice (some ⟨rb, 0, none⟩) 16 rc, .int .i64 (p : Int), .int .i64 q, .int .i64 0, .int .i64 vl] 29)).alloc (.cells #[Value.int .i64 0, Value.int .i64 0, Value.int .i64 0] 35)).alloc (.cells #[Value.int .i64 7, .int .i64 op, .int .i64 (na : Int), .int .i64 (n : Int), .int .i64 xc, .int .i64 xk] 76)).drewN nq = W := ⟨_, rfl⟩
    have HBW : Hid (Below w.heap.size w W) := by show Below _ _ _; rw [← hW]; exact below_drewN (three_b w _ _ _) _
    have hM : W.heap[w.heap.size]? = some (.cells #[Value.slice (some ⟨cb, co, none⟩) cl cp, .int .i64 words, .int .i64 fuel, .slice (some ⟨rb, 0, none⟩) 16 rc, .int .i64 (p : Int), .int .i64 q, .int .i64 0, .int .i64 vl] 29) := by rw [← hW]; exact three_m w _ _ _
    have hY : W.heap[w.heap.size + 1]? = some (.cells #[Value.int .i64 0, Value.int .i64 0, Value.int .i64 0] 35) := by rw [← hW]; exact three_z w _ _ _
    have hXW : W.heap[w.heap.size + 1 + 1]? = some (.cells #[Value.int .i64 7, .int .i64 op, .int .i64 (na : Int), .int .i64 (n : Int), .int .i64 xc, .int .i64 xk] 76) := by rw [← hW]; exact three_x w _ _ _
    have HY : Hid (W.heap[w.heap.size + 1]? = some (.cells #[Value.int .i64 0, Value.int .i64 0, Value.int .i64 0] 35)) := hY
    have x0 : W.cell? ⟨w.heap.size + 1 + 1, 0, none⟩ = some (.int .i64 7) := (cell_of_row W _ 0 _ _ _ hXW).trans rfl
    have x2 : W.cell? ⟨w.heap.size + 1 + 1, 2, none⟩ = some (.int .i64 (na : Int)) := (cell_of_row W _ 2 _ _ _ hXW).trans rfl
    have x4 : W.cell? ⟨w.heap.size + 1 + 1, 4, none⟩ = some (.int .i64 xc) := (cell_of_row W _ 4 _ _ _ hXW).trans rfl
    have m1 : W.cell? ⟨w.heap.size, 1, none⟩ = some (.int .i64 words) := (cell_of_row W _ 1 _ _ _ hM).trans rfl
    have m3 : W.cell? ⟨w.heap.size, 3, none⟩ = some (.slice (some ⟨rb, 0, none⟩) 16 rc) := (cell_of_row W _ 3 _ _ _ hM).trans rfl
    have z0 : W.cell? ⟨w.heap.size + 1, 0, none⟩ = some (.int .i64 0) := (cell_of_row W _ 0 _ _ _ hY).trans rfl
    have y0 : W.frozen? ⟨w.heap.size + 1, 0, none⟩ = false := frozen_of_row W _ 0 _ _ hY
    have z1 : W.cell? ⟨w.heap.size + 1, 1, none⟩ = some (.int .i64 0) := (cell_of_row W _ 1 _ _ _ hY).trans rfl
    have y1 : W.frozen? ⟨w.heap.size + 1, 1, none⟩ = false := frozen_of_row W _ 1 _ _ hY
    have z2 : W.cell? ⟨w.heap.size + 1, 2, none⟩ = some (.int .i64 0) := (cell_of_row W _ 2 _ _ _ hY).trans rfl
    have y2 : W.frozen? ⟨w.heap.size + 1, 2, none⟩ = false := frozen_of_row W _ 2 _ _ hY
    have r1 : W.cell? ⟨rb, na, none⟩ = some (.int .i64 ga) := (HBW.out.cell (p := ⟨rb, na, none⟩) hrl).trans cna
    have hne1 : w.heap.size ≠ w.heap.size + 1 := by omega
    have hne2 : w.heap.size + 1 + 1 ≠ w.heap.size + 1 := by omega
    have hne3 : rb ≠ w.heap.size + 1 := by omega
    have hne4 : w.heap.size + 1 ≠ rb := by omega
    rw [hW]
    clear hW hM hY hXW cn cn3 cna cna3 i0 i1 i2 i3 i4 i5
    go_wp2
    refine bodyPost_ret (ret_wt2 Try.results10 _ (w.heap.size + 1) rfl _ _ _ _ (put3 HY.out)) rfl ?_
    rw [HWI.out]
    rw [HI.out]
    exact ⟨rfl, put3_below HBW.out (by omega)⟩

set_option maxRecDepth 100000 in
set_option maxHeartbeats 2000000 in
theorem rwn_8 (cb co cl cp p : Nat) (op xa xb xc xk words fuel : Int) (ha : 0 ≤ xa ∧ xa < 16) (hb : 0 ≤ xb ∧ xb < 16) (hxk : R64 xk) (rv : Value) (s : St) (hl : s.regs.length = 16) (hreg : ∀ r < 16, R64 (rg s r)) (hp : s.pc = p) (h0 : s.over = 0) (hf : ¬ fuel ≤ s.steps) (hs : 0 ≤ s.steps ∧ s.steps < 4000) (hc : cl ≤ 1000) (w : World) (hx : At1 w cb co cl cp p ⟨8, op, xa, xb, xc, xk⟩) (hrv : RRg w rv s) : Calls Try.prog 10 #[mV (.slice (some ⟨cb, co, none⟩) cl cp) rv words fuel s] w (WantP (wantI words ⟨8, op, xa, xb, xc, xk⟩ s) w) := by
  obtain ⟨rb, rc, rfl, h16, hrm, hcells⟩ := hrv
  obtain ⟨⟨i0, i1, i2, i3, i4, i5⟩, hlt, hcap, hmx⟩ := hx
  have HCE : Hid (∀ r, r < 16 → w.cell? ⟨rb, r, none⟩ = some (.int .i64 (rg s r))) := hcells
  have hcl : cb < w.heap.size := World.block_lt_of_cell? w ⟨cb, co + p * 6, none⟩ i0
  have hrl : rb < w.heap.size := World.block_lt_of_cell? w ⟨rb, 0, none⟩ (hcells 0 (by omega))
  dsimp only at i0 i1 i2 i3 i4 i5
  have HRM : Hid (rc ≤ maxLen) := hrm
  unfold maxLen at hrm hmx
  obtain ⟨q, hq⟩ : ∃ q, s.steps = q := ⟨_, rfl⟩
  unfold mV mC
  rw [hp, h0, hq]
  rw [hq] at hf hs
  have hf2 : decide (fuel ≤ q) = false := by simp; omega
  obtain ⟨vl, hvl⟩ : ∃ v, s.value = v := ⟨_, rfl⟩
  rw [hvl]
  have HL : Hid (s.regs.length = 16) := hl
  obtain ⟨n, hn0⟩ : ∃ n : Nat, xb = n := ⟨xb.toNat, by omega⟩
  subst hn0
  have hn : n < 16 := by omega
  have cn := hcells n hn
  have cn3 : ∀ A B C, (((w.alloc A).alloc B).alloc C).cell? ⟨rb, n, none⟩ = w.cell? ⟨rb, n, none⟩ := fun A B C => (three_b w A B C).cell (p := ⟨rb, n, none⟩) hrl
  rw [cn] at cn3
  obtain ⟨na, hna0⟩ : ∃ n : Nat, xa = n := ⟨xa.toNat, by omega⟩
  subst hna0
  have hna : na < 16 := by omega
  have cna := hcells na hna
  have cna3 : ∀ A B C, (((w.alloc A).alloc B).alloc C).cell? ⟨rb, na, none⟩ = w.cell? ⟨rb, na, none⟩ := fun A B C => (three_b w A B C).cell (p := ⟨rb, na, none⟩) hrl
  rw [cna] at cna3
  have HO : Hid (∀ w, Calls Try.prog 26 #[.int .i64 (rg s n), .int .i64 xk] w fun e w' => e = .returned (.int .i64 (addrS s ⟨8, op, (na : Int), (n : Int), xc, xk⟩)) ∧ w' = w) := fun w => by unfold addrS; rw [Int.toNat_natCast]; exact plus_any (rg s n) xk (hreg n hn) hxk w
  have hWI : ∀ t : St, t.regs = s.regs → wantI words ⟨8, op, (na : Int), (n : Int), xc, xk⟩ t = ⟨3, xc, (rg s na)⟩ := fun t ht => by
    have e1 : addrS t ⟨8, op, (na : Int), (n : Int), xc, xk⟩ = addrS s ⟨8, op, (na : Int), (n : Int), xc, xk⟩ := by unfold addrS rg; rw [ht]
    have e2 : rg t na = rg s na := by unfold rg; rw [ht]
    unfold wantI
    rw [e1]
    simp [e2]
  have HWI : Hid (wantI words ⟨8, op, (na : Int), (n : Int), xc, xk⟩ s = ⟨3, xc, (rg s na)⟩) := hWI s rfl
  clear hWI
  generalize wantI words ⟨8, op, (na : Int), (n : Int), xc, xk⟩ s = wt at HWI ⊢
  generalize addrS s ⟨8, op, (na : Int), (n : Int), xc, xk⟩ = z at HO HWI
  generalize rg s na = ga at cna cna3 HWI
  generalize rg s n = gn at cn cn3 HO
  clear hcells hp h0 hq hvl hl hf hreg
  by_cases z0 : 0 ≤ z
  · by_cases z1 : z < words
    · have d1 : decide (0 ≤ z) = true := by simp; omega
      have d2 : decide (z < words) = true := by simp; omega
      have HI : Hid (insideB words z = true) := by show insideB words z = true; unfold insideB; rw [d1, d2]; rfl
      clear z0 z1
      go_enter Try.func10, Try.ntmps10
      go_wp2_with fail
      go_quiet (first | (go_at_call 26; exact Calls.quiet_of_same (HO.out _)))
      obtain ⟨W, hW⟩ : ∃ W, (((w.alloc (.cells #[Value.slice (some ⟨cb, co, none⟩) cl cp, .int .i64 words, .int .i64 fuel, .slice (some ⟨rb, 0, none⟩) 16 rc, .int .i64 (p : Int), .int .i64 q, .int .i64 0, .int .i64 vl] 29)).alloc (.cells #[Value.int .i64 0, Value.int .i64 0, Value.int .i64 0] 35)).alloc (.cells #[Value.int .i64 8, .int .i64 op, .int .i64 (na : Int), .int .i64 (n : Int), .int .i64 xc, .int .i64 xk] 76)).drewN nq = W := ⟨_, rfl⟩
      have HBW : Hid (Below w.heap.size w W) := by show Below _ _ _; rw [← hW]; exact below_drewN (three_b w _ _ _) _
      have hM : W.heap[w.heap.size]? = some (.cells #[Value.slice (some ⟨cb, co, none⟩) cl cp, .int .i64 words, .int .i64 fuel, .slice (some ⟨rb, 0, none⟩) 16 rc, .int .i64 (p : Int), .int .i64 q, .int .i64 0, .int .i64 vl] 29) := by rw [← hW]; exact three_m w _ _ _
      have hY : W.heap[w.heap.size + 1]? = some (.cells #[Value.int .i64 0, Value.int .i64 0, Value.int .i64 0] 35) := by rw [← hW]; exact three_z w _ _ _
      have hXW : W.heap[w.heap.size + 1 + 1]? = some (.cells #[Value.int .i64 8, .int .i64 op, .int .i64 (na : Int), .int .i64 (n : Int), .int .i64 xc, .int .i64 xk] 76) := by rw [← hW]; exact three_x w _ _ _
      have HY : Hid (W.heap[w.heap.size + 1]? = some (.cells #[Value.int .i64 0, Value.int .i64 0, Value.int .i64 0] 35)) := hY
      have x0 : W.cell? ⟨w.heap.size + 1 + 1, 0, none⟩ = some (.int .i64 8) := (cell_of_row W _ 0 _ _ _ hXW).trans rfl
      have x2 : W.cell? ⟨w.heap.size + 1 + 1, 2, none⟩ = some (.int .i64 (na : Int)) := (cell_of_row W _ 2 _ _ _ hXW).trans rfl
      have x4 : W.cell? ⟨w.heap.size + 1 + 1, 4, none⟩ = some (.int .i64 xc) := (cell_of_row W _ 4 _ _ _ hXW).trans rfl
      have m1 : W.cell? ⟨w.heap.size, 1, none⟩ = some (.int .i64 words) := (cell_of_row W _ 1 _ _ _ hM).trans rfl
      have m3 : W.cell? ⟨w.heap.size, 3, none⟩ = some (.slice (some ⟨rb, 0, none⟩) 16 rc) := (cell_of_row W _ 3 _ _ _ hM).trans rfl
      have z0 : W.cell? ⟨w.heap.size + 1, 0, none⟩ = some (.int .i64 0) := (cell_of_row W _ 0 _ _ _ hY).trans rfl
      have y0 : W.frozen? ⟨w.heap.size + 1, 0, none⟩ = false := frozen_of_row W _ 0 _ _ hY
      have z1 : W.cell? ⟨w.heap.size + 1, 1, none⟩ = some (.int .i64 0) := (cell_of_row W _ 1 _ _ _ hY).trans rfl
      have y1 : W.frozen? ⟨w.heap.size + 1, 1, none⟩ = false := frozen_of_row W _ 1 _ _ hY
      have z2 : W.cell? ⟨w.heap.size + 1, 2, none⟩ = some (.int .i64 0) := (cell_of_row W _ 2 _ _ _ hY).trans rfl
      have y2 : W.frozen? ⟨w.heap.size + 1, 2, none⟩ = false := frozen_of_row W _ 2 _ _ hY
      have r1 : W.cell? ⟨rb, na, none⟩ = some (.int .i64 ga) := (HBW.out.cell (p := ⟨rb, na, none⟩) hrl).trans cna
      have hne1 : w.heap.size ≠ w.heap.size + 1 := by omega
      have hne2 : w.heap.size + 1 + 1 ≠ w.heap.size + 1 := by omega
      have hne3 : rb ≠ w.heap.size + 1 := by omega
      have hne4 : w.heap.size + 1 ≠ rb := by omega
      rw [hW]
      clear hW hM hY hXW cn cn3 cna cna3 i0 i1 i2 i3 i4 i5
      have z0' : W.drew.cell? ⟨w.heap.size + 1, 0, none⟩ = some (.int .i64 0) := z0
      have y0' : W.drew.frozen? ⟨w.heap.size + 1, 0, none⟩ = false := y0
      have z1' : W.drew.cell? ⟨w.heap.size + 1, 1, none⟩ = some (.int .i64 0) := z1
      have y1' : W.drew.frozen? ⟨w.heap.size + 1, 1, none⟩ = false := y1
      have z2' : W.drew.cell? ⟨w.heap.size + 1, 2, none⟩ = some (.int .i64 0) := z2
      have y2' : W.drew.frozen? ⟨w.heap.size + 1, 2, none⟩ = false := y2
      go_wp2_with fail
      go_region_held3 (fun w' => w'.cell? ⟨w.heap.size + 1 + 1, 2, none⟩ = some (.int .i64 (na : Int)) ∧ w'.cell? ⟨w.heap.size + 1 + 1, 4, none⟩ = some (.int .i64 xc) ∧ w'.cell? ⟨w.heap.size, 3, none⟩ = some (.slice (some ⟨rb, 0, none⟩) 16 rc) ∧ w'.cell? ⟨rb, na, none⟩ = some (.int .i64 ga)) (go_keep) (fail)
      go_wp2
      refine bodyPost_ret (ret_wt2 Try.results10 _ (w.heap.size + 1) rfl _ _ _ _ (put3 (W := W.drew) HY.out)) rfl ?_
      rw [HWI.out]
      exact ⟨rfl, put3_below HBW.out.drew (by omega)⟩
    · have d1 : decide (0 ≤ z) = true := by simp; omega
      have d2 : decide (z < words) = false := by simp; omega
      have HI : Hid (insideB words z = false) := by show insideB words z = false; unfold insideB; rw [d1, d2]; rfl
      clear z0 z1
      go_enter Try.func10, Try.ntmps10
      go_wp2_with fail
      go_quiet (first | (go_at_call 26; exact Calls.quiet_of_same (HO.out _)))
      obtain ⟨W, hW⟩ : ∃ W, (((w.alloc (.cells #[Value.slice (some ⟨cb, co, none⟩) cl cp, .int .i64 words, .int .i64 fuel, .slice (some ⟨rb, 0, none⟩) 16 rc, .int .i64 (p : Int), .int .i64 q, .int .i64 0, .int .i64 vl] 29)).alloc (.cells #[Value.int .i64 0, Value.int .i64 0, Value.int .i64 0] 35)).alloc (.cells #[Value.int .i64 8, .int .i64 op, .int .i64 (na : Int), .int .i64 (n : Int), .int .i64 xc, .int .i64 xk] 76)).drewN nq = W := ⟨_, rfl⟩
      have HBW : Hid (Below w.heap.size w W) := by show Below _ _ _; rw [← hW]; exact below_drewN (three_b w _ _ _) _
      have hM : W.heap[w.heap.size]? = some (.cells #[Value.slice (some ⟨cb, co, none⟩) cl cp, .int .i64 words, .int .i64 fuel, .slice (some ⟨rb, 0, none⟩) 16 rc, .int .i64 (p : Int), .int .i64 q, .int .i64 0, .int .i64 vl] 29) := by rw [← hW]; exact three_m w _ _ _
      have hY : W.heap[w.heap.size + 1]? = some (.cells #[Value.int .i64 0, Value.int .i64 0, Value.int .i64 0] 35) := by rw [← hW]; exact three_z w _ _ _
      have hXW : W.heap[w.heap.size + 1 + 1]? = some (.cells #[Value.int .i64 8, .int .i64 op, .int .i64 (na : Int), .int .i64 (n : Int), .int .i64 xc, .int .i64 xk] 76) := by rw [← hW]; exact three_x w _ _ _
      have HY : Hid (W.heap[w.heap.size + 1]? = some (.cells #[Value.int .i64 0, Value.int .i64 0, Value.int .i64 0] 35)) := hY
      have x0 : W.cell? ⟨w.heap.size + 1 + 1, 0, none⟩ = some (.int .i64 8) := (cell_of_row W _ 0 _ _ _ hXW).trans rfl
      have x2 : W.cell? ⟨w.heap.size + 1 + 1, 2, none⟩ = some (.int .i64 (na : Int)) := (cell_of_row W _ 2 _ _ _ hXW).trans rfl
      have x4 : W.cell? ⟨w.heap.size + 1 + 1, 4, none⟩ = some (.int .i64 xc) := (cell_of_row W _ 4 _ _ _ hXW).trans rfl
      have m1 : W.cell? ⟨w.heap.size, 1, none⟩ = some (.int .i64 words) := (cell_of_row W _ 1 _ _ _ hM).trans rfl
      have m3 : W.cell? ⟨w.heap.size, 3, none⟩ = some (.slice (some ⟨rb, 0, none⟩) 16 rc) := (cell_of_row W _ 3 _ _ _ hM).trans rfl
      have z0 : W.cell? ⟨w.heap.size + 1, 0, none⟩ = some (.int .i64 0) := (cell_of_row W _ 0 _ _ _ hY).trans rfl
      have y0 : W.frozen? ⟨w.heap.size + 1, 0, none⟩ = false := frozen_of_row W _ 0 _ _ hY
      have z1 : W.cell? ⟨w.heap.size + 1, 1, none⟩ = some (.int .i64 0) := (cell_of_row W _ 1 _ _ _ hY).trans rfl
      have y1 : W.frozen? ⟨w.heap.size + 1, 1, none⟩ = false := frozen_of_row W _ 1 _ _ hY
      have z2 : W.cell? ⟨w.heap.size + 1, 2, none⟩ = some (.int .i64 0) := (cell_of_row W _ 2 _ _ _ hY).trans rfl
      have y2 : W.frozen? ⟨w.heap.size + 1, 2, none⟩ = false := frozen_of_row W _ 2 _ _ hY
      have r1 : W.cell? ⟨rb, na, none⟩ = some (.int .i64 ga) := (HBW.out.cell (p := ⟨rb, na, none⟩) hrl).trans cna
      have hne1 : w.heap.size ≠ w.heap.size + 1 := by omega
      have hne2 : w.heap.size + 1 + 1 ≠ w.heap.size + 1 := by omega
      have hne3 : rb ≠ w.heap.size + 1 := by omega
      have hne4 : w.heap.size + 1 ≠ rb := by omega
      rw [hW]
      clear hW hM hY hXW cn cn3 cna cna3 i0 i1 i2 i3 i4 i5
      have z0' : W.drew.cell? ⟨w.heap.size + 1, 0, none⟩ = some (.int .i64 0) := z0
      have y0' : W.drew.frozen? ⟨w.heap.size + 1, 0, none⟩ = false := y0
      have z1' : W.drew.cell? ⟨w.heap.size + 1, 1, none⟩ = some (.int .i64 0) := z1
      have y1' : W.drew.frozen? ⟨w.heap.size + 1, 1, none⟩ = false := y1
      have z2' : W.drew.cell? ⟨w.heap.size + 1, 2, none⟩ = some (.int .i64 0) := z2
      have y2' : W.drew.frozen? ⟨w.heap.size + 1, 2, none⟩ = false := y2
      go_wp2_with fail
      go_region_held3 (fun w' => w'.cell? ⟨w.heap.size + 1 + 1, 2, none⟩ = some (.int .i64 (na : Int)) ∧ w'.cell? ⟨w.heap.size + 1 + 1, 4, none⟩ = some (.int .i64 xc) ∧ w'.cell? ⟨w.heap.size, 3, none⟩ = some (.slice (some ⟨rb, 0, none⟩) 16 rc) ∧ w'.cell? ⟨rb, na, none⟩ = some (.int .i64 ga)) (go_keep) (fail)
      go_wp2
      refine bodyPost_ret (ret_wt2 Try.results10 _ (w.heap.size + 1) rfl _ _ _ _ (put3 (W := W.drew) HY.out)) rfl ?_
      rw [HWI.out]
      exact ⟨rfl, put3_below HBW.out.drew (by omega)⟩
  · have d1 : decide (0 ≤ z) = false := by simp; omega
    have HI : Hid (insideB words z = false) := by show insideB words z = false; unfold insideB; rw [d1]; rfl
    clear z0
    go_enter Try.func10, Try.ntmps10
    go_wp2_with fail
    go_quiet (first | (go_at_call 26; exact Calls.quiet_of_same (HO.out _)))
    obtain ⟨W, hW⟩ : ∃ W, (((w.alloc (.cells #[Value.slice (some ⟨cb, co, none⟩) cl cp, .int .i64 words, .int .i64 fuel, .slice (some ⟨rb, 0, none⟩) 16 rc, .int .i64 (p : Int), .int .i64 q, .int .i64 0, .int .i64 vl] 29)).alloc (.cells #[Value.int .i64 0, Value.int .i64 0, Value.int .i64 0] 35)).alloc (.cells #[Value.int .i64 8, .int .i64 op, .int .i64 (na : Int), .int .i64 (n : Int), .int .i64 xc, .int .i64 xk] 76)).drewN nq = W := ⟨_, rfl⟩
    have HBW : Hid (Below w.heap.size w W) := by show Below _ _ _; rw [← hW]; exact below_drewN (three_b w _ _ _) _
    have hM : W.heap[w.heap.size]? = some (.cells #[Value.slice (some ⟨cb, co, none⟩) cl cp, .int .i64 words, .int .i64 fuel, .slice (some ⟨rb, 0, none⟩) 16 rc, .int .i64 (p : Int), .int .i64 q, .int .i64 0, .int .i64 vl] 29) := by rw [← hW]; exact three_m w _ _ _
    have hY : W.heap[w.heap.size + 1]? = some (.cells #[Value.int .i64 0, Value.int .i64 0, Value.int .i64 0] 35) := by rw [← hW]; exact three_z w _ _ _
    have hXW : W.heap[w.heap.size + 1 + 1]? = some (.cells #[Value.int .i64 8, .int .i64 op, .int .i64 (na : Int), .int .i64 (n : Int), .int .i64 xc, .int .i64 xk] 76) := by rw [← hW]; exact three_x w _ _ _
    have HY : Hid (W.heap[w.heap.size + 1]? = some (.cells #[Value.int .i64 0, Value.int .i64 0, Value.int .i64 0] 35)) := hY
    have x0 : W.cell? ⟨w.heap.size + 1 + 1, 0, none⟩ = some (.int .i64 8) := (cell_of_row W _ 0 _ _ _ hXW).trans rfl
    have x2 : W.cell? ⟨w.heap.size + 1 + 1, 2, none⟩ = some (.int .i64 (na : Int)) := (cell_of_row W _ 2 _ _ _ hXW).trans rfl
    have x4 : W.cell? ⟨w.heap.size + 1 + 1, 4, none⟩ = some (.int .i64 xc) := (cell_of_row W _ 4 _ _ _ hXW).trans rfl
    have m1 : W.cell? ⟨w.heap.size, 1, none⟩ = some (.int .i64 words) := (cell_of_row W _ 1 _ _ _ hM).trans rfl
    have m3 : W.cell? ⟨w.heap.size, 3, none⟩ = some (.slice (some ⟨rb, 0, none⟩) 16 rc) := (cell_of_row W _ 3 _ _ _ hM).trans rfl
    have z0 : W.cell? ⟨w.heap.size + 1, 0, none⟩ = some (.int .i64 0) := (cell_of_row W _ 0 _ _ _ hY).trans rfl
    have y0 : W.frozen? ⟨w.heap.size + 1, 0, none⟩ = false := frozen_of_row W _ 0 _ _ hY
    have z1 : W.cell? ⟨w.heap.size + 1, 1, none⟩ = some (.int .i64 0) := (cell_of_row W _ 1 _ _ _ hY).trans rfl
    have y1 : W.frozen? ⟨w.heap.size + 1, 1, none⟩ = false := frozen_of_row W _ 1 _ _ hY
    have z2 : W.cell? ⟨w.heap.size + 1, 2, none⟩ = some (.int .i64 0) := (cell_of_row W _ 2 _ _ _ hY).trans rfl
    have y2 : W.frozen? ⟨w.heap.size + 1, 2, none⟩ = false := frozen_of_row W _ 2 _ _ hY
    have r1 : W.cell? ⟨rb, na, none⟩ = some (.int .i64 ga) := (HBW.out.cell (p := ⟨rb, na, none⟩) hrl).trans cna
    have hne1 : w.heap.size ≠ w.heap.size + 1 := by omega
    have hne2 : w.heap.size + 1 + 1 ≠ w.heap.size + 1 := by omega
    have hne3 : rb ≠ w.heap.size + 1 := by omega
    have hne4 : w.heap.size + 1 ≠ rb := by omega
    rw [hW]
    clear hW hM hY hXW cn cn3 cna cna3 i0 i1 i2 i3 i4 i5
    have z0' : W.drew.cell? ⟨w.heap.size + 1, 0, none⟩ = some (.int .i64 0) := z0
    have y0' : W.drew.frozen? ⟨w.heap.size + 1, 0, none⟩ = false := y0
    have z1' : W.drew.cell? ⟨w.heap.size + 1, 1, none⟩ = some (.int .i64 0) := z1
    have y1' : W.drew.frozen? ⟨w.heap.size + 1, 1, none⟩ = false := y1
    have z2' : W.drew.cell? ⟨w.heap.size + 1, 2, none⟩ = some (.int .i64 0) := z2
    have y2' : W.drew.frozen? ⟨w.heap.size + 1, 2, none⟩ = false := y2
    go_wp2_with fail
    go_region_held3 (fun w' => w'.cell? ⟨w.heap.size + 1 + 1, 2, none⟩ = some (.int .i64 (na : Int)) ∧ w'.cell? ⟨w.heap.size + 1 + 1, 4, none⟩ = some (.int .i64 xc) ∧ w'.cell? ⟨w.heap.size, 3, none⟩ = some (.slice (some ⟨rb, 0, none⟩) 16 rc) ∧ w'.cell? ⟨rb, na, none⟩ = some (.int .i64 ga)) (go_keep) (fail)
    go_wp2
    refine bodyPost_ret (ret_wt2 Try.results10 _ (w.heap.size + 1) rfl _ _ _ _ (put3 (W := W.drew) HY.out)) rfl ?_
    rw [HWI.out]
    exact ⟨rfl, put3_below HBW.out.drew (by omega)⟩

set_option maxRecDepth 100000 in
set_option maxHeartbeats 2000000 in
theorem rwn_9 (cb co cl cp p : Nat) (op xa xb xc xk words fuel : Int) (ha : 0 ≤ xa ∧ xa < 16) (hb : 0 ≤ xb ∧ xb < 16) (hxk : R64 xk) (rv : Value) (s : St) (hl : s.regs.length = 16) (hreg : ∀ r < 16, R64 (rg s r)) (hp : s.pc = p) (h0 : s.over = 0) (hf : ¬ fuel ≤ s.steps) (hs : 0 ≤ s.steps ∧ s.steps < 4000) (hc : cl ≤ 1000) (w : World) (hx : At1 w cb co cl cp p ⟨9, op, xa, xb, xc, xk⟩) (hrv : RRg w rv s) : Calls Try.prog 10 #[mV (.slice (some ⟨cb, co, none⟩) cl cp) rv words fuel s] w (WantP (wantI words ⟨9, op, xa, xb, xc, xk⟩ s) w) := by
  obtain ⟨rb, rc, rfl, h16, hrm, hcells⟩ := hrv
  obtain ⟨⟨i0, i1, i2, i3, i4, i5⟩, hlt, hcap, hmx⟩ := hx
  have HCE : Hid (∀ r, r < 16 → w.cell? ⟨rb, r, none⟩ = some (.int .i64 (rg s r))) := hcells
  have hcl : cb < w.heap.size := World.block_lt_of_cell? w ⟨cb, co + p * 6, none⟩ i0
  have hrl : rb < w.heap.size := World.block_lt_of_cell? w ⟨rb, 0, none⟩ (hcells 0 (by omega))
  dsimp only at i0 i1 i2 i3 i4 i5
  have HRM : Hid (rc ≤ maxLen) := hrm
  unfold maxLen at hrm hmx
  obtain ⟨q, hq⟩ : ∃ q, s.steps = q := ⟨_, rfl⟩
  unfold mV mC
  rw [hp, h0, hq]
  rw [hq] at hf hs
  have hf2 : decide (fuel ≤ q) = false := by simp; omega
  obtain ⟨vl, hvl⟩ : ∃ v, s.value = v := ⟨_, rfl⟩
  rw [hvl]
  have HL : Hid (s.regs.length = 16) := hl
  obtain ⟨n, hn0⟩ : ∃ n : Nat, xb = n := ⟨xb.toNat, by omega⟩
  subst hn0
  have hn : n < 16 := by omega
  have cn := hcells n hn
  have cn3 : ∀ A B C, (((w.alloc A).alloc B).alloc C).cell? ⟨rb, n, none⟩ = w.cell? ⟨rb, n, none⟩ := fun A B C => (three_b w A B C).cell (p := ⟨rb, n, none⟩) hrl
  rw [cn] at cn3
  obtain ⟨na, hna0⟩ : ∃ n : Nat, xa = n := ⟨xa.toNat, by omega⟩
  subst hna0
  have hna : na < 16 := by omega
  have cna := hcells na hna
  have cna3 : ∀ A B C, (((w.alloc A).alloc B).alloc C).cell? ⟨rb, na, none⟩ = w.cell? ⟨rb, na, none⟩ := fun A B C => (three_b w A B C).cell (p := ⟨rb, na, none⟩) hrl
  rw [cna] at cna3
  have HO : Hid (∀ w, Calls Try.prog 26 #[.int .i64 (rg s n), .int .i64 xk] w fun e w' => e = .returned (.int .i64 (addrS s ⟨9, op, (na : Int), (n : Int), xc, xk⟩)) ∧ w' = w) := fun w => by unfold addrS; rw [Int.toNat_natCast]; exact plus_any (rg s n) xk (hreg n hn) hxk w
  have hWI : ∀ t : St, t.regs = s.regs → wantI words ⟨9, op, (na : Int), (n : Int), xc, xk⟩ t = ⟨4, 0, (rg s na)⟩ := fun t ht => by
    have e1 : addrS t ⟨9, op, (na : Int), (n : Int), xc, xk⟩ = addrS s ⟨9, op, (na : Int), (n : Int), xc, xk⟩ := by unfold addrS rg; rw [ht]
    have e2 : rg t na = rg s na := by unfold rg; rw [ht]
    unfold wantI
    rw [e1]
    simp [e2]
  have HWI : Hid (wantI words ⟨9, op, (na : Int), (n : Int), xc, xk⟩ s = ⟨4, 0, (rg s na)⟩) := hWI s rfl
  clear hWI
  generalize wantI words ⟨9, op, (na : Int), (n : Int), xc, xk⟩ s = wt at HWI ⊢
  generalize addrS s ⟨9, op, (na : Int), (n : Int), xc, xk⟩ = z at HO HWI
  generalize rg s na = ga at cna cna3 HWI
  generalize rg s n = gn at cn cn3 HO
  clear hcells hp h0 hq hvl hl hf hreg
  by_cases z0 : 0 ≤ z
  · by_cases z1 : z < words
    · have d1 : decide (0 ≤ z) = true := by simp; omega
      have d2 : decide (z < words) = true := by simp; omega
      have HI : Hid (insideB words z = true) := by show insideB words z = true; unfold insideB; rw [d1, d2]; rfl
      clear z0 z1
      go_enter Try.func10, Try.ntmps10
      go_wp2_with fail
      go_quiet (first | (go_at_call 26; exact Calls.quiet_of_same (HO.out _)))
      obtain ⟨W, hW⟩ : ∃ W, (((w.alloc (.cells #[Value.slice (some ⟨cb, co, none⟩) cl cp, .int .i64 words, .int .i64 fuel, .slice (some ⟨rb, 0, none⟩) 16 rc, .int .i64 (p : Int), .int .i64 q, .int .i64 0, .int .i64 vl] 29)).alloc (.cells #[Value.int .i64 0, Value.int .i64 0, Value.int .i64 0] 35)).alloc (.cells #[Value.int .i64 9, .int .i64 op, .int .i64 (na : Int), .int .i64 (n : Int), .int .i64 xc, .int .i64 xk] 76)).drewN nq = W := ⟨_, rfl⟩
      have HBW : Hid (Below w.heap.size w W) := by show Below _ _ _; rw [← hW]; exact below_drewN (three_b w _ _ _) _
      have hM : W.heap[w.heap.size]? = some (.cells #[Value.slice (some ⟨cb, co, none⟩) cl cp, .int .i64 words, .int .i64 fuel, .slice (some ⟨rb, 0, none⟩) 16 rc, .int .i64 (p : Int), .int .i64 q, .int .i64 0, .int .i64 vl] 29) := by rw [← hW]; exact three_m w _ _ _
      have hY : W.heap[w.heap.size + 1]? = some (.cells #[Value.int .i64 0, Value.int .i64 0, Value.int .i64 0] 35) := by rw [← hW]; exact three_z w _ _ _
      have hXW : W.heap[w.heap.size + 1 + 1]? = some (.cells #[Value.int .i64 9, .int .i64 op, .int .i64 (na : Int), .int .i64 (n : Int), .int .i64 xc, .int .i64 xk] 76) := by rw [← hW]; exact three_x w _ _ _
      have HY : Hid (W.heap[w.heap.size + 1]? = some (.cells #[Value.int .i64 0, Value.int .i64 0, Value.int .i64 0] 35)) := hY
      have x0 : W.cell? ⟨w.heap.size + 1 + 1, 0, none⟩ = some (.int .i64 9) := (cell_of_row W _ 0 _ _ _ hXW).trans rfl
      have x2 : W.cell? ⟨w.heap.size + 1 + 1, 2, none⟩ = some (.int .i64 (na : Int)) := (cell_of_row W _ 2 _ _ _ hXW).trans rfl
      have x4 : W.cell? ⟨w.heap.size + 1 + 1, 4, none⟩ = some (.int .i64 xc) := (cell_of_row W _ 4 _ _ _ hXW).trans rfl
      have m1 : W.cell? ⟨w.heap.size, 1, none⟩ = some (.int .i64 words) := (cell_of_row W _ 1 _ _ _ hM).trans rfl
      have m3 : W.cell? ⟨w.heap.size, 3, none⟩ = some (.slice (some ⟨rb, 0, none⟩) 16 rc) := (cell_of_row W _ 3 _ _ _ hM).trans rfl
      have z0 : W.cell? ⟨w.heap.size + 1, 0, none⟩ = some (.int .i64 0) := (cell_of_row W _ 0 _ _ _ hY).trans rfl
      have y0 : W.frozen? ⟨w.heap.size + 1, 0, none⟩ = false := frozen_of_row W _ 0 _ _ hY
      have z1 : W.cell? ⟨w.heap.size + 1, 1, none⟩ = some (.int .i64 0) := (cell_of_row W _ 1 _ _ _ hY).trans rfl
      have y1 : W.frozen? ⟨w.heap.size + 1, 1, none⟩ = false := frozen_of_row W _ 1 _ _ hY
      have z2 : W.cell? ⟨w.heap.size + 1, 2, none⟩ = some (.int .i64 0) := (cell_of_row W _ 2 _ _ _ hY).trans rfl
      have y2 : W.frozen? ⟨w.heap.size + 1, 2, none⟩ = false := frozen_of_row W _ 2 _ _ hY
      have r1 : W.cell? ⟨rb, na, none⟩ = some (.int .i64 ga) := (HBW.out.cell (p := ⟨rb, na, none⟩) hrl).trans cna
      have hne1 : w.heap.size ≠ w.heap.size + 1 := by omega
      have hne2 : w.heap.size + 1 + 1 ≠ w.heap.size + 1 := by omega
      have hne3 : rb ≠ w.heap.size + 1 := by omega
      have hne4 : w.heap.size + 1 ≠ rb := by omega
      rw [hW]
      clear hW hM hY hXW cn cn3 cna cna3 i0 i1 i2 i3 i4 i5
      go_wp2
      refine bodyPost_ret (ret_wt2 Try.results10 _ (w.heap.size + 1) rfl _ _ _ _ (put3 HY.out)) rfl ?_
      rw [HWI.out]
      exact ⟨rfl, put3_below HBW.out (by omega)⟩
    · have d1 : decide (0 ≤ z) = true := by simp; omega
      have d2 : decide (z < words) = false := by simp; omega
      have HI : Hid (insideB words z = false) := by show insideB words z = false; unfold insideB; rw [d1, d2]; rfl
      clear z0 z1
      go_enter Try.func10, Try.ntmps10
      go_wp2_with fail
      go_quiet (first | (go_at_call 26; exact Calls.quiet_of_same (HO.out _)))
      obtain ⟨W, hW⟩ : ∃ W, (((w.alloc (.cells #[Value.slice (some ⟨cb, co, none⟩) cl cp, .int .i64 words, .int .i64 fuel, .slice (some ⟨rb, 0, none⟩) 16 rc, .int .i64 (p : Int), .int .i64 q, .int .i64 0, .int .i64 vl] 29)).alloc (.cells #[Value.int .i64 0, Value.int .i64 0, Value.int .i64 0] 35)).alloc (.cells #[Value.int .i64 9, .int .i64 op, .int .i64 (na : Int), .int .i64 (n : Int), .int .i64 xc, .int .i64 xk] 76)).drewN nq = W := ⟨_, rfl⟩
      have HBW : Hid (Below w.heap.size w W) := by show Below _ _ _; rw [← hW]; exact below_drewN (three_b w _ _ _) _
      have hM : W.heap[w.heap.size]? = some (.cells #[Value.slice (some ⟨cb, co, none⟩) cl cp, .int .i64 words, .int .i64 fuel, .slice (some ⟨rb, 0, none⟩) 16 rc, .int .i64 (p : Int), .int .i64 q, .int .i64 0, .int .i64 vl] 29) := by rw [← hW]; exact three_m w _ _ _
      have hY : W.heap[w.heap.size + 1]? = some (.cells #[Value.int .i64 0, Value.int .i64 0, Value.int .i64 0] 35) := by rw [← hW]; exact three_z w _ _ _
      have hXW : W.heap[w.heap.size + 1 + 1]? = some (.cells #[Value.int .i64 9, .int .i64 op, .int .i64 (na : Int), .int .i64 (n : Int), .int .i64 xc, .int .i64 xk] 76) := by rw [← hW]; exact three_x w _ _ _
      have HY : Hid (W.heap[w.heap.size + 1]? = some (.cells #[Value.int .i64 0, Value.int .i64 0, Value.int .i64 0] 35)) := hY
      have x0 : W.cell? ⟨w.heap.size + 1 + 1, 0, none⟩ = some (.int .i64 9) := (cell_of_row W _ 0 _ _ _ hXW).trans rfl
      have x2 : W.cell? ⟨w.heap.size + 1 + 1, 2, none⟩ = some (.int .i64 (na : Int)) := (cell_of_row W _ 2 _ _ _ hXW).trans rfl
      have x4 : W.cell? ⟨w.heap.size + 1 + 1, 4, none⟩ = some (.int .i64 xc) := (cell_of_row W _ 4 _ _ _ hXW).trans rfl
      have m1 : W.cell? ⟨w.heap.size, 1, none⟩ = some (.int .i64 words) := (cell_of_row W _ 1 _ _ _ hM).trans rfl
      have m3 : W.cell? ⟨w.heap.size, 3, none⟩ = some (.slice (some ⟨rb, 0, none⟩) 16 rc) := (cell_of_row W _ 3 _ _ _ hM).trans rfl
      have z0 : W.cell? ⟨w.heap.size + 1, 0, none⟩ = some (.int .i64 0) := (cell_of_row W _ 0 _ _ _ hY).trans rfl
      have y0 : W.frozen? ⟨w.heap.size + 1, 0, none⟩ = false := frozen_of_row W _ 0 _ _ hY
      have z1 : W.cell? ⟨w.heap.size + 1, 1, none⟩ = some (.int .i64 0) := (cell_of_row W _ 1 _ _ _ hY).trans rfl
      have y1 : W.frozen? ⟨w.heap.size + 1, 1, none⟩ = false := frozen_of_row W _ 1 _ _ hY
      have z2 : W.cell? ⟨w.heap.size + 1, 2, none⟩ = some (.int .i64 0) := (cell_of_row W _ 2 _ _ _ hY).trans rfl
      have y2 : W.frozen? ⟨w.heap.size + 1, 2, none⟩ = false := frozen_of_row W _ 2 _ _ hY
      have r1 : W.cell? ⟨rb, na, none⟩ = some (.int .i64 ga) := (HBW.out.cell (p := ⟨rb, na, none⟩) hrl).trans cna
      have hne1 : w.heap.size ≠ w.heap.size + 1 := by omega
      have hne2 : w.heap.size + 1 + 1 ≠ w.heap.size + 1 := by omega
      have hne3 : rb ≠ w.heap.size + 1 := by omega
      have hne4 : w.heap.size + 1 ≠ rb := by omega
      rw [hW]
      clear hW hM hY hXW cn cn3 cna cna3 i0 i1 i2 i3 i4 i5
      go_wp2
      refine bodyPost_ret (ret_wt2 Try.results10 _ (w.heap.size + 1) rfl _ _ _ _ (put3 HY.out)) rfl ?_
      rw [HWI.out]
      exact ⟨rfl, put3_below HBW.out (by omega)⟩
  · have d1 : decide (0 ≤ z) = false := by simp; omega
    have HI : Hid (insideB words z = false) := by show insideB words z = false; unfold insideB; rw [d1]; rfl
    clear z0
    go_enter Try.func10, Try.ntmps10
    go_wp2_with fail
    go_quiet (first | (go_at_call 26; exact Calls.quiet_of_same (HO.out _)))
    obtain ⟨W, hW⟩ : ∃ W, (((w.alloc (.cells #[Value.slice (some ⟨cb, co, none⟩) cl cp, .int .i64 words, .int .i64 fuel, .slice (some ⟨rb, 0, none⟩) 16 rc, .int .i64 (p : Int), .int .i64 q, .int .i64 0, .int .i64 vl] 29)).alloc (.cells #[Value.int .i64 0, Value.int .i64 0, Value.int .i64 0] 35)).alloc (.cells #[Value.int .i64 9, .int .i64 op, .int .i64 (na : Int), .int .i64 (n : Int), .int .i64 xc, .int .i64 xk] 76)).drewN nq = W := ⟨_, rfl⟩
    have HBW : Hid (Below w.heap.size w W) := by show Below _ _ _; rw [← hW]; exact below_drewN (three_b w _ _ _) _
    have hM : W.heap[w.heap.size]? = some (.cells #[Value.slice (some ⟨cb, co, none⟩) cl cp, .int .i64 words, .int .i64 fuel, .slice (some ⟨rb, 0, none⟩) 16 rc, .int .i64 (p : Int), .int .i64 q, .int .i64 0, .int .i64 vl] 29) := by rw [← hW]; exact three_m w _ _ _
    have hY : W.heap[w.heap.size + 1]? = some (.cells #[Value.int .i64 0, Value.int .i64 0, Value.int .i64 0] 35) := by rw [← hW]; exact three_z w _ _ _
    have hXW : W.heap[w.heap.size + 1 + 1]? = some (.cells #[Value.int .i64 9, .int .i64 op, .int .i64 (na : Int), .int .i64 (n : Int), .int .i64 xc, .int .i64 xk] 76) := by rw [← hW]; exact three_x w _ _ _
    have HY : Hid (W.heap[w.heap.size + 1]? = some (.cells #[Value.int .i64 0, Value.int .i64 0, Value.int .i64 0] 35)) := hY
    have x0 : W.cell? ⟨w.heap.size + 1 + 1, 0, none⟩ = some (.int .i64 9) := (cell_of_row W _ 0 _ _ _ hXW).trans rfl
    have x2 : W.cell? ⟨w.heap.size + 1 + 1, 2, none⟩ = some (.int .i64 (na : Int)) := (cell_of_row W _ 2 _ _ _ hXW).trans rfl
    have x4 : W.cell? ⟨w.heap.size + 1 + 1, 4, none⟩ = some (.int .i64 xc) := (cell_of_row W _ 4 _ _ _ hXW).trans rfl
    have m1 : W.cell? ⟨w.heap.size, 1, none⟩ = some (.int .i64 words) := (cell_of_row W _ 1 _ _ _ hM).trans rfl
    have m3 : W.cell? ⟨w.heap.size, 3, none⟩ = some (.slice (some ⟨rb, 0, none⟩) 16 rc) := (cell_of_row W _ 3 _ _ _ hM).trans rfl
    have z0 : W.cell? ⟨w.heap.size + 1, 0, none⟩ = some (.int .i64 0) := (cell_of_row W _ 0 _ _ _ hY).trans rfl
    have y0 : W.frozen? ⟨w.heap.size + 1, 0, none⟩ = false := frozen_of_row W _ 0 _ _ hY
    have z1 : W.cell? ⟨w.heap.size + 1, 1, none⟩ = some (.int .i64 0) := (cell_of_row W _ 1 _ _ _ hY).trans rfl
    have y1 : W.frozen? ⟨w.heap.size + 1, 1, none⟩ = false := frozen_of_row W _ 1 _ _ hY
    have z2 : W.cell? ⟨w.heap.size + 1, 2, none⟩ = some (.int .i64 0) := (cell_of_row W _ 2 _ _ _ hY).trans rfl
    have y2 : W.frozen? ⟨w.heap.size + 1, 2, none⟩ = false := frozen_of_row W _ 2 _ _ hY
    have r1 : W.cell? ⟨rb, na, none⟩ = some (.int .i64 ga) := (HBW.out.cell (p := ⟨rb, na, none⟩) hrl).trans cna
    have hne1 : w.heap.size ≠ w.heap.size + 1 := by omega
    have hne2 : w.heap.size + 1 + 1 ≠ w.heap.size + 1 := by omega
    have hne3 : rb ≠ w.heap.size + 1 := by omega
    have hne4 : w.heap.size + 1 ≠ rb := by omega
    rw [hW]
    clear hW hM hY hXW cn cn3 cna cna3 i0 i1 i2 i3 i4 i5
    go_wp2
    refine bodyPost_ret (ret_wt2 Try.results10 _ (w.heap.size + 1) rfl _ _ _ _ (put3 HY.out)) rfl ?_
    rw [HWI.out]
    exact ⟨rfl, put3_below HBW.out (by omega)⟩

set_option maxRecDepth 100000 in
set_option maxHeartbeats 2000000 in
theorem rwn_no (cb co cl cp p : Nat) (op xa xb xc xk words fuel : Int) (kd : Int) (k6 : kd ≠ 6) (k7 : kd ≠ 7) (k8 : kd ≠ 8) (k9 : kd ≠ 9) (ha : 0 ≤ xa ∧ xa < 16) (hb : 0 ≤ xb ∧ xb < 16) (hxk : R64 xk) (rv : Value) (s : St) (hl : s.regs.length = 16) (hreg : ∀ r < 16, R64 (rg s r)) (hp : s.pc = p) (h0 : s.over = 0) (hf : ¬ fuel ≤ s.steps) (hs : 0 ≤ s.steps ∧ s.steps < 4000) (hc : cl ≤ 1000) (w : World) (hx : At1 w cb co cl cp p ⟨kd, op, xa, xb, xc, xk⟩) (hrv : RRg w rv s) : Calls Try.prog 10 #[mV (.slice (some ⟨cb, co, none⟩) cl cp) rv words fuel s] w (WantP (wantI words ⟨kd, op, xa, xb, xc, xk⟩ s) w) := by
  obtain ⟨rb, rc, rfl, h16, hrm, hcells⟩ := hrv
  obtain ⟨⟨i0, i1, i2, i3, i4, i5⟩, hlt, hcap, hmx⟩ := hx
  have HCE : Hid (∀ r, r < 16 → w.cell? ⟨rb, r, none⟩ = some (.int .i64 (rg s r))) := hcells
  have hcl : cb < w.heap.size := World.block_lt_of_cell? w ⟨cb, co + p * 6, none⟩ i0
  have hrl : rb < w.heap.size := World.block_lt_of_cell? w ⟨rb, 0, none⟩ (hcells 0 (by omega))
  dsimp only at i0 i1 i2 i3 i4 i5
  have HRM : Hid (rc ≤ maxLen) := hrm
  unfold maxLen at hrm hmx
  obtain ⟨q, hq⟩ : ∃ q, s.steps = q := ⟨_, rfl⟩
  unfold mV mC
  rw [hp, h0, hq]
  rw [hq] at hf hs
  have hf2 : decide (fuel ≤ q) = false := by simp; omega
  obtain ⟨vl, hvl⟩ : ∃ v, s.value = v := ⟨_, rfl⟩
  rw [hvl]
  have HL : Hid (s.regs.length = 16) := hl
  obtain ⟨n, hn0⟩ : ∃ n : Nat, xb = n := ⟨xb.toNat, by omega⟩
  subst hn0
  have hn : n < 16 := by omega
  have cn := hcells n hn
  have cn3 : ∀ A B C, (((w.alloc A).alloc B).alloc C).cell? ⟨rb, n, none⟩ = w.cell? ⟨rb, n, none⟩ := fun A B C => (three_b w A B C).cell (p := ⟨rb, n, none⟩) hrl
  rw [cn] at cn3
  obtain ⟨na, hna0⟩ : ∃ n : Nat, xa = n := ⟨xa.toNat, by omega⟩
  subst hna0
  have hna : na < 16 := by omega
  have cna := hcells na hna
  have cna3 : ∀ A B C, (((w.alloc A).alloc B).alloc C).cell? ⟨rb, na, none⟩ = w.cell? ⟨rb, na, none⟩ := fun A B C => (three_b w A B C).cell (p := ⟨rb, na, none⟩) hrl
  rw [cna] at cna3
  have HO : Hid (∀ w, Calls Try.prog 26 #[.int .i64 (rg s n), .int .i64 xk] w fun e w' => e = .returned (.int .i64 (addrS s ⟨kd, op, (na : Int), (n : Int), xc, xk⟩)) ∧ w' = w) := fun w => by unfold addrS; rw [Int.toNat_natCast]; exact plus_any (rg s n) xk (hreg n hn) hxk w
  have hWI : ∀ t : St, t.regs = s.regs → wantI words ⟨kd, op, (na : Int), (n : Int), xc, xk⟩ t = ⟨0, 0, 0⟩ := fun t ht => by
    have e1 : addrS t ⟨kd, op, (na : Int), (n : Int), xc, xk⟩ = addrS s ⟨kd, op, (na : Int), (n : Int), xc, xk⟩ := by unfold addrS rg; rw [ht]
    have e2 : rg t na = rg s na := by unfold rg; rw [ht]
    unfold wantI
    rw [e1]
    simp [k6, k7, k8, k9]
  have HWI : Hid (wantI words ⟨kd, op, (na : Int), (n : Int), xc, xk⟩ s = ⟨0, 0, 0⟩) := hWI s rfl
  clear hWI
  generalize wantI words ⟨kd, op, (na : Int), (n : Int), xc, xk⟩ s = wt at HWI ⊢
  generalize addrS s ⟨kd, op, (na : Int), (n : Int), xc, xk⟩ = z at HO HWI
  generalize rg s na = ga at cna cna3 HWI
  generalize rg s n = gn at cn cn3 HO
  have e6 : (kd == 6) = false := by simp [k6]
  have e7 : (kd == 7) = false := by simp [k7]
  have e8 : (kd == 8) = false := by simp [k8]
  have e9 : (kd == 9) = false := by simp [k9]
  clear hcells hp h0 hq hvl hl hf hreg
  by_cases z0 : 0 ≤ z
  · by_cases z1 : z < words
    · have d1 : decide (0 ≤ z) = true := by simp; omega
      have d2 : decide (z < words) = true := by simp; omega
      have HI : Hid (insideB words z = true) := by show insideB words z = true; unfold insideB; rw [d1, d2]; rfl
      clear z0 z1
      go_enter Try.func10, Try.ntmps10
      go_wp2_with fail
      go_quiet (first | (go_at_call 26; exact Calls.quiet_of_same (HO.out _)))
      obtain ⟨W, hW⟩ : ∃ W, (((w.alloc (.cells #[Value.slice (some ⟨cb, co, none⟩) cl cp, .int .i64 words, .int .i64 fuel, .slice (some ⟨rb, 0, none⟩) 16 rc, .int .i64 (p : Int), .int .i64 q, .int .i64 0, .int .i64 vl] 29)).alloc (.cells #[Value.int .i64 0, Value.int .i64 0, Value.int .i64 0] 35)).alloc (.cells #[Value.int .i64 kd, .int .i64 op, .int .i64 (na : Int), .int .i64 (n : Int), .int .i64 xc, .int .i64 xk] 76)).drewN nq = W := ⟨_, rfl⟩
      have HBW : Hid (Below w.heap.size w W) := by show Below _ _ _; rw [← hW]; exact below_drewN (three_b w _ _ _) _
      have hM : W.heap[w.heap.size]? = some (.cells #[Value.slice (some ⟨cb, co, none⟩) cl cp, .int .i64 words, .int .i64 fuel, .slice (some ⟨rb, 0, none⟩) 16 rc, .int .i64 (p : Int), .int .i64 q, .int .i64 0, .int .i64 vl] 29) := by rw [← hW]; exact three_m w _ _ _
      have hY : W.heap[w.heap.size + 1]? = some (.cells #[Value.int .i64 0, Value.int .i64 0, Value.int .i64 0] 35) := by rw [← hW]; exact three_z w _ _ _
      have hXW : W.heap[w.heap.size + 1 + 1]? = some (.cells #[Value.int .i64 kd, .int .i64 op, .int .i64 (na : Int), .int .i64 (n : Int), .int .i64 xc, .int .i64 xk] 76) := by rw [← hW]; exact three_x w _ _ _
      have HY : Hid (W.heap[w.heap.size + 1]? = some (.cells #[Value.int .i64 0, Value.int .i64 0, Value.int .i64 0] 35)) := hY
      have x0 : W.cell? ⟨w.heap.size + 1 + 1, 0, none⟩ = some (.int .i64 kd) := (cell_of_row W _ 0 _ _ _ hXW).trans rfl
      have x2 : W.cell? ⟨w.heap.size + 1 + 1, 2, none⟩ = some (.int .i64 (na : Int)) := (cell_of_row W _ 2 _ _ _ hXW).trans rfl
      have x4 : W.cell? ⟨w.heap.size + 1 + 1, 4, none⟩ = some (.int .i64 xc) := (cell_of_row W _ 4 _ _ _ hXW).trans rfl
      have m1 : W.cell? ⟨w.heap.size, 1, none⟩ = some (.int .i64 words) := (cell_of_row W _ 1 _ _ _ hM).trans rfl
      have m3 : W.cell? ⟨w.heap.size, 3, none⟩ = some (.slice (some ⟨rb, 0, none⟩) 16 rc) := (cell_of_row W _ 3 _ _ _ hM).trans rfl
      have z0 : W.cell? ⟨w.heap.size + 1, 0, none⟩ = some (.int .i64 0) := (cell_of_row W _ 0 _ _ _ hY).trans rfl
      have y0 : W.frozen? ⟨w.heap.size + 1, 0, none⟩ = false := frozen_of_row W _ 0 _ _ hY
      have z1 : W.cell? ⟨w.heap.size + 1, 1, none⟩ = some (.int .i64 0) := (cell_of_row W _ 1 _ _ _ hY).trans rfl
      have y1 : W.frozen? ⟨w.heap.size + 1, 1, none⟩ = false := frozen_of_row W _ 1 _ _ hY
      have z2 : W.cell? ⟨w.heap.size + 1, 2, none⟩ = some (.int .i64 0) := (cell_of_row W _ 2 _ _ _ hY).trans rfl
      have y2 : W.frozen? ⟨w.heap.size + 1, 2, none⟩ = false := frozen_of_row W _ 2 _ _ hY
      have r1 : W.cell? ⟨rb, na, none⟩ = some (.int .i64 ga) := (HBW.out.cell (p := ⟨rb, na, none⟩) hrl).trans cna
      have hne1 : w.heap.size ≠ w.heap.size + 1 := by omega
      have hne2 : w.heap.size + 1 + 1 ≠ w.heap.size + 1 := by omega
      have hne3 : rb ≠ w.heap.size + 1 := by omega
      have hne4 : w.heap.size + 1 ≠ rb := by omega
      rw [hW]
      clear hW hM hY hXW cn cn3 cna cna3 i0 i1 i2 i3 i4 i5
      go_wp2
      refine bodyPost_ret (ret_wt2 Try.results10 _ (w.heap.size + 1) rfl _ _ _ _ (put3 HY.out)) rfl ?_
      rw [HWI.out]
      exact ⟨rfl, put3_below HBW.out (by omega)⟩
    · have d1 : decide (0 ≤ z) = true := by simp; omega
      have d2 : decide (z < words) = false := by simp; omega
      have HI : Hid (insideB words z = false) := by show insideB words z = false; unfold insideB; rw [d1, d2]; rfl
      clear z0 z1
      go_enter Try.func10, Try.ntmps10
      go_wp2_with fail
      go_quiet (first | (go_at_call 26; exact Calls.quiet_of_same (HO.out _)))
      obtain ⟨W, hW⟩ : ∃ W, (((w.alloc (.cells #[Value.slice (some ⟨cb, co, none⟩) cl cp, .int .i64 words, .int .i64 fuel, .slice (some ⟨rb, 0, none⟩) 16 rc, .int .i64 (p : Int), .int .i64 q, .int .i64 0, .int .i64 vl] 29)).alloc (.cells #[Value.int .i64 0, Value.int .i64 0, Value.int .i64 0] 35)).alloc (.cells #[Value.int .i64 kd, .int .i64 op, .int .i64 (na : Int), .int .i64 (n : Int), .int .i64 xc, .int .i64 xk] 76)).drewN nq = W := ⟨_, rfl⟩
      have HBW : Hid (Below w.heap.size w W) := by show Below _ _ _; rw [← hW]; exact below_drewN (three_b w _ _ _) _
      have hM : W.heap[w.heap.size]? = some (.cells #[Value.slice (some ⟨cb, co, none⟩) cl cp, .int .i64 words, .int .i64 fuel, .slice (some ⟨rb, 0, none⟩) 16 rc, .int .i64 (p : Int), .int .i64 q, .int .i64 0, .int .i64 vl] 29) := by rw [← hW]; exact three_m w _ _ _
      have hY : W.heap[w.heap.size + 1]? = some (.cells #[Value.int .i64 0, Value.int .i64 0, Value.int .i64 0] 35) := by rw [← hW]; exact three_z w _ _ _
      have hXW : W.heap[w.heap.size + 1 + 1]? = some (.cells #[Value.int .i64 kd, .int .i64 op, .int .i64 (na : Int), .int .i64 (n : Int), .int .i64 xc, .int .i64 xk] 76) := by rw [← hW]; exact three_x w _ _ _
      have HY : Hid (W.heap[w.heap.size + 1]? = some (.cells #[Value.int .i64 0, Value.int .i64 0, Value.int .i64 0] 35)) := hY
      have x0 : W.cell? ⟨w.heap.size + 1 + 1, 0, none⟩ = some (.int .i64 kd) := (cell_of_row W _ 0 _ _ _ hXW).trans rfl
      have x2 : W.cell? ⟨w.heap.size + 1 + 1, 2, none⟩ = some (.int .i64 (na : Int)) := (cell_of_row W _ 2 _ _ _ hXW).trans rfl
      have x4 : W.cell? ⟨w.heap.size + 1 + 1, 4, none⟩ = some (.int .i64 xc) := (cell_of_row W _ 4 _ _ _ hXW).trans rfl
      have m1 : W.cell? ⟨w.heap.size, 1, none⟩ = some (.int .i64 words) := (cell_of_row W _ 1 _ _ _ hM).trans rfl
      have m3 : W.cell? ⟨w.heap.size, 3, none⟩ = some (.slice (some ⟨rb, 0, none⟩) 16 rc) := (cell_of_row W _ 3 _ _ _ hM).trans rfl
      have z0 : W.cell? ⟨w.heap.size + 1, 0, none⟩ = some (.int .i64 0) := (cell_of_row W _ 0 _ _ _ hY).trans rfl
      have y0 : W.frozen? ⟨w.heap.size + 1, 0, none⟩ = false := frozen_of_row W _ 0 _ _ hY
      have z1 : W.cell? ⟨w.heap.size + 1, 1, none⟩ = some (.int .i64 0) := (cell_of_row W _ 1 _ _ _ hY).trans rfl
      have y1 : W.frozen? ⟨w.heap.size + 1, 1, none⟩ = false := frozen_of_row W _ 1 _ _ hY
      have z2 : W.cell? ⟨w.heap.size + 1, 2, none⟩ = some (.int .i64 0) := (cell_of_row W _ 2 _ _ _ hY).trans rfl
      have y2 : W.frozen? ⟨w.heap.size + 1, 2, none⟩ = false := frozen_of_row W _ 2 _ _ hY
      have r1 : W.cell? ⟨rb, na, none⟩ = some (.int .i64 ga) := (HBW.out.cell (p := ⟨rb, na, none⟩) hrl).trans cna
      have hne1 : w.heap.size ≠ w.heap.size + 1 := by omega
      have hne2 : w.heap.size + 1 + 1 ≠ w.heap.size + 1 := by omega
      have hne3 : rb ≠ w.heap.size + 1 := by omega
      have hne4 : w.heap.size + 1 ≠ rb := by omega
      rw [hW]
      clear hW hM hY hXW cn cn3 cna cna3 i0 i1 i2 i3 i4 i5
      go_wp2
      refine bodyPost_ret (ret_wt2 Try.results10 _ (w.heap.size + 1) rfl _ _ _ _ (put3 HY.out)) rfl ?_
      rw [HWI.out]
      exact ⟨rfl, put3_below HBW.out (by omega)⟩
  · have d1 : decide (0 ≤ z) = false := by simp; omega
    have HI : Hid (insideB words z = false) := by show insideB words z = false; unfold insideB; rw [d1]; rfl
    clear z0
    go_enter Try.func10, Try.ntmps10
    go_wp2_with fail
    go_quiet (first | (go_at_call 26; exact Calls.quiet_of_same (HO.out _)))
    obtain ⟨W, hW⟩ : ∃ W, (((w.alloc (.cells #[Value.slice (some ⟨cb, co, none⟩) cl cp, .int .i64 words, .int .i64 fuel, .slice (some ⟨rb, 0, none⟩) 16 rc, .int .i64 (p : Int), .int .i64 q, .int .i64 0, .int .i64 vl] 29)).alloc (.cells #[Value.int .i64 0, Value.int .i64 0, Value.int .i64 0] 35)).alloc (.cells #[Value.int .i64 kd, .int .i64 op, .int .i64 (na : Int), .int .i64 (n : Int), .int .i64 xc, .int .i64 xk] 76)).drewN nq = W := ⟨_, rfl⟩
    have HBW : Hid (Below w.heap.size w W) := by show Below _ _ _; rw [← hW]; exact below_drewN (three_b w _ _ _) _
    have hM : W.heap[w.heap.size]? = some (.cells #[Value.slice (some ⟨cb, co, none⟩) cl cp, .int .i64 words, .int .i64 fuel, .slice (some ⟨rb, 0, none⟩) 16 rc, .int .i64 (p : Int), .int .i64 q, .int .i64 0, .int .i64 vl] 29) := by rw [← hW]; exact three_m w _ _ _
    have hY : W.heap[w.heap.size + 1]? = some (.cells #[Value.int .i64 0, Value.int .i64 0, Value.int .i64 0] 35) := by rw [← hW]; exact three_z w _ _ _
    have hXW : W.heap[w.heap.size + 1 + 1]? = some (.cells #[Value.int .i64 kd, .int .i64 op, .int .i64 (na : Int), .int .i64 (n : Int), .int .i64 xc, .int .i64 xk] 76) := by rw [← hW]; exact three_x w _ _ _
    have HY : Hid (W.heap[w.heap.size + 1]? = some (.cells #[Value.int .i64 0, Value.int .i64 0, Value.int .i64 0] 35)) := hY
    have x0 : W.cell? ⟨w.heap.size + 1 + 1, 0, none⟩ = some (.int .i64 kd) := (cell_of_row W _ 0 _ _ _ hXW).trans rfl
    have x2 : W.cell? ⟨w.heap.size + 1 + 1, 2, none⟩ = some (.int .i64 (na : Int)) := (cell_of_row W _ 2 _ _ _ hXW).trans rfl
    have x4 : W.cell? ⟨w.heap.size + 1 + 1, 4, none⟩ = some (.int .i64 xc) := (cell_of_row W _ 4 _ _ _ hXW).trans rfl
    have m1 : W.cell? ⟨w.heap.size, 1, none⟩ = some (.int .i64 words) := (cell_of_row W _ 1 _ _ _ hM).trans rfl
    have m3 : W.cell? ⟨w.heap.size, 3, none⟩ = some (.slice (some ⟨rb, 0, none⟩) 16 rc) := (cell_of_row W _ 3 _ _ _ hM).trans rfl
    have z0 : W.cell? ⟨w.heap.size + 1, 0, none⟩ = some (.int .i64 0) := (cell_of_row W _ 0 _ _ _ hY).trans rfl
    have y0 : W.frozen? ⟨w.heap.size + 1, 0, none⟩ = false := frozen_of_row W _ 0 _ _ hY
    have z1 : W.cell? ⟨w.heap.size + 1, 1, none⟩ = some (.int .i64 0) := (cell_of_row W _ 1 _ _ _ hY).trans rfl
    have y1 : W.frozen? ⟨w.heap.size + 1, 1, none⟩ = false := frozen_of_row W _ 1 _ _ hY
    have z2 : W.cell? ⟨w.heap.size + 1, 2, none⟩ = some (.int .i64 0) := (cell_of_row W _ 2 _ _ _ hY).trans rfl
    have y2 : W.frozen? ⟨w.heap.size + 1, 2, none⟩ = false := frozen_of_row W _ 2 _ _ hY
    have r1 : W.cell? ⟨rb, na, none⟩ = some (.int .i64 ga) := (HBW.out.cell (p := ⟨rb, na, none⟩) hrl).trans cna
    have hne1 : w.heap.size ≠ w.heap.size + 1 := by omega
    have hne2 : w.heap.size + 1 + 1 ≠ w.heap.size + 1 := by omega
    have hne3 : rb ≠ w.heap.size + 1 := by omega
    have hne4 : w.heap.size + 1 ≠ rb := by omega
    rw [hW]
    clear hW hM hY hXW cn cn3 cna cna3 i0 i1 i2 i3 i4 i5
    go_wp2
    refine bodyPost_ret (ret_wt2 Try.results10 _ (w.heap.size + 1) rfl _ _ _ _ (put3 HY.out)) rfl ?_
    rw [HWI.out]
    exact ⟨rfl, put3_below HBW.out (by omega)⟩

set_option maxRecDepth 100000 in
set_option maxHeartbeats 2000000 in
theorem rwn_over (ad : Option Addr) (cl cp : Nat) (words fuel : Int) (rv : Value) (s : St) (h0 : s.over ≠ 0) (w : World) (hrv : RRg w rv s) : Calls Try.prog 10 #[mV (.slice ad cl cp) rv words fuel s] w (WantP ⟨0, 0, 0⟩ w) := by
  obtain ⟨rb, rc, rfl, h16, hrm, hcells⟩ := hrv
  unfold mV mC
  have e1 : (s.over != 0) = true := by simp [h0]
  have e2 : (s.over == 0) = false := by simp [h0]
  clear hcells hrm
  go_enter Try.func10, Try.ntmps10
  go_wp2
  refine bodyPost_ret (ret_wt2 Try.results10 _ (w.heap.size + 1) rfl _ _ _ _ (two_new w _ _)) rfl ?_
  exact ⟨rfl, ((Below.refl _ _).alloc (Nat.le_refl _) _).alloc (by simp) _⟩

set_option maxRecDepth 100000 in
set_option maxHeartbeats 2000000 in
theorem rwn_spent (ad : Option Addr) (cl cp : Nat) (words fuel : Int) (rv : Value) (s : St) (h0 : s.over = 0) (hf : fuel ≤ s.steps) (w : World) (hrv : RRg w rv s) : Calls Try.prog 10 #[mV (.slice ad cl cp) rv words fuel s] w (WantP ⟨0, 0, 0⟩ w) := by
  obtain ⟨rb, rc, rfl, h16, hrm, hcells⟩ := hrv
  unfold mV mC
  rw [h0]
  have hf2 : decide (fuel ≤ s.steps) = true := by simp [hf]
  clear hcells hrm
  go_enter Try.func10, Try.ntmps10
  go_wp2
  refine bodyPost_ret (ret_wt2 Try.results10 _ (w.heap.size + 1) rfl _ _ _ _ (two_new w _ _)) rfl ?_
  exact ⟨rfl, ((Below.refl _ _).alloc (Nat.le_refl _) _).alloc (by simp) _⟩

theorem rwant_any (C : List In) (v : Value) (cb co cp : Nat) (words fuel : Int) (rv : Value) (s : St) (ho : ROk C fuel s) (w : World) (hv : RCd w v C cb co cp) (hrv : RRg w rv s) : Calls Try.prog 10 #[mV v rv words fuel s] w (WantP (wantS C words fuel s) w) := by
  obtain ⟨rfl, hcap, hmx, hrow⟩ := hv
  unfold wantS
  by_cases h0 : s.over = 0
  · rw [if_neg (by simpa using h0)]
    by_cases hf : fuel ≤ s.steps
    · rw [if_pos hf]
      exact rwn_spent _ _ _ words fuel rv s h0 hf w hrv
    · rw [if_neg hf]
      obtain ⟨p, hp⟩ : ∃ p : Nat, s.pc = p := ⟨s.pc.toNat, by have := ho.ok.pc; omega⟩
      have hlt : p < C.length := by have := ho.ok.pc; omega
      have hget : C.getD s.pc.toNat ⟨0, 0, 0, 0, 0, 0⟩ = C[p] := by rw [hp, Int.toNat_natCast]; simp [List.getD, hlt]
      rw [hget]
      have hmem : C[p] ∈ C := List.getElem_mem hlt
      have hA : At1 w cb co C.length cp p C[p] := ⟨hrow p hlt, hlt, hcap, hmx⟩
      have hI := ho.good _ hmem
      have hK := ho.k _ hmem
      have hs : 0 ≤ s.steps ∧ s.steps < 4000 := by have := ho.ok.steps; have := ho.ok.fuel; omega
      have hl := ho.len
      have hreg := ho.ok.regs
      have hc := ho.lenC
      generalize C[p] = x at hA hI hK
      obtain ⟨kd, op, xa, xb, xc, xk⟩ := x
      obtain ⟨h1, ha, hb, hcc⟩ := hI
      dsimp only at h1 ha hb hcc hK
      by_cases k6 : kd = 6
      · subst k6; exact rwn_6 cb co C.length cp p op xa xb xc xk words fuel ha hb hK rv s hl hreg hp h0 hf hs hc w hA hrv
      by_cases k7 : kd = 7
      · subst k7; exact rwn_7 cb co C.length cp p op xa xb xc xk words fuel ha hb hK rv s hl hreg hp h0 hf hs hc w hA hrv
      by_cases k8 : kd = 8
      · subst k8; exact rwn_8 cb co C.length cp p op xa xb xc xk words fuel ha hb hK rv s hl hreg hp h0 hf hs hc w hA hrv
      by_cases k9 : kd = 9
      · subst k9; exact rwn_9 cb co C.length cp p op xa xb xc xk words fuel ha hb hK rv s hl hreg hp h0 hf hs hc w hA hrv
      exact rwn_no cb co C.length cp p op xa xb xc xk words fuel kd k6 k7 k8 k9 ha hb hK rv s hl hreg hp h0 hf hs hc w hA hrv
  · rw [if_pos h0]
    exact rwn_over _ _ _ words fuel rv s h0 w hrv

end Go.Proofs.Ytkcncngcmhldpaa
