/- The document's step. -/
import Derived.Test.YtkcncngcmhldpaaRStp
namespace Go.Proofs.Ytkcncngcmhldpaa
open Go.RowKit Go.Maps
set_option linter.unusedVariables false

/-- instructions as they came in: place p is x -/
structure At1 (w : World) (cb co cl cp p : Nat) (x : In) : Prop where
  row : IAt w cb (co + p * 6) x
  lt : p < cl
  cap : cl ≤ cp
  mx : cp ≤ maxLen
/-- the world in which an instruction is done: the machine's block, the result's, the instruction's -/
structure RW (w U : World) (b : Nat) (M : Array Value) (x : In) (rb : Nat) (s : St) : Prop where
  m : U.heap[b]? = some (.cells M 29)
  z : U.heap[b + 1]? = some (.cells mZa 29)
  x : U.heap[b + 2]? = some (.cells (ic x).toArray 76)
  r : ∀ r, r < 16 → U.cell? ⟨rb, r, none⟩ = some (.int .i64 (rg s r))
  be : Below b w U
  rl : rb < b
theorem RW.below {w U V : World} {b rb : Nat} {M : Array Value} {x : In} {s : St} (h : RW w U b M x rb s) (hb : Below U.heap.size U V) : RW w V b M x rb s := by
  have hbs : b ≤ U.heap.size := Nat.le_of_lt (Array.getElem?_eq_some_iff.1 h.m).1
  refine ⟨(hb.block _ (Array.getElem?_eq_some_iff.1 h.m).1).trans h.m, (hb.block _ (Array.getElem?_eq_some_iff.1 h.z).1).trans h.z, (hb.block _ (Array.getElem?_eq_some_iff.1 h.x).1).trans h.x, fun r hr => (hb.cell (p := ⟨rb, r, none⟩) (World.block_lt_of_cell? U ⟨rb, r, none⟩ (h.r r hr))).trans (h.r r hr), h.be.trans (hb.mono hbs), h.rl⟩
theorem RW.drew {w U : World} {b rb : Nat} {M : Array Value} {x : In} {s : St} (h : RW w U b M x rb s) : RW w U.drew b M x rb s := ⟨h.m, h.z, h.x, h.r, h.be.drew, h.rl⟩

theorem three_m (w : World) (A B C : Obj) : (((w.alloc A).alloc B).alloc C).heap[w.heap.size]? = some A := (Below.heap_alloc _ _ _ (by simp; omega)).trans ((Below.heap_alloc _ _ _ (by simp)).trans (heap_alloc_new w A))
theorem three_z (w : World) (A B C : Obj) : (((w.alloc A).alloc B).alloc C).heap[w.heap.size + 1]? = some B := (Below.heap_alloc _ _ _ (by simp)).trans (two_new w A B)
theorem three_x (w : World) (A B C : Obj) : (((w.alloc A).alloc B).alloc C).heap[w.heap.size + 1 + 1]? = some C := by
  have := heap_alloc_new ((w.alloc A).alloc B) C
  rw [show ((w.alloc A).alloc B).heap.size = w.heap.size + 1 + 1 by simp] at this
  exact this
theorem three_b (w : World) (A B C : Obj) : Below w.heap.size w (((w.alloc A).alloc B).alloc C) := (((Below.refl _ _).alloc (Nat.le_refl _) _).alloc (by simp) _).alloc (by simp; omega) _
/-- the registers, whatever is laid beside them -/
theorem RRg.keep {w V : World} {rb rc : Nat} {s s' : St} (h16 : 16 ≤ rc) (hm : rc ≤ maxLen) (hr : s'.regs = s.regs) (h : ∀ r, r < 16 → w.cell? ⟨rb, r, none⟩ = some (.int .i64 (rg s r))) (hb : Below w.heap.size w V) : RRg V (.slice (some ⟨rb, 0, none⟩) 16 rc) s' :=
  ⟨rb, rc, rfl, h16, hm, fun r hq => by
    have e : rg s' r = rg s r := by unfold rg; rw [hr]
    rw [e]
    exact (hb.cell (p := ⟨rb, r, none⟩) (World.block_lt_of_cell? w ⟨rb, r, none⟩ (h r hq))).trans (h r hq)⟩
/-- the registers do not lie where the result does -/
theorem RRg.setRow {V : World} {rv : Value} {s : St} {b : Nat} (h : RRg V rv s) (hz : V.heap[b]? = some (.cells mZa 29)) (cs : Array Value) : RRg (V.setRow b cs) rv s := by
  obtain ⟨g, c, h1, h2, h3, h4⟩ := h
  have hg : g ≠ b := by
    intro e
    have h5 := h4 0 (by omega)
    rw [e, cell_of_row V _ 0 _ _ _ hz] at h5
    cases h5
  exact ⟨g, c, h1, h2, h3, fun r hr => (cell_setRow_other _ _ _ _ hg).trans (h4 r hr)⟩

set_option maxRecDepth 100000 in
set_option maxHeartbeats 2000000 in
theorem rst_1 (cb co cl cp p : Nat) (op xa xb xc xk got words fuel : Int) (rv : Value) (s : St) (hl : s.regs.length = 16) (hp : s.pc = p) (h0 : s.over = 0) (hf : ¬ fuel ≤ s.steps) (hs : 0 ≤ s.steps ∧ s.steps < 4000) (hc : cl ≤ 1000) (w : World) (hx : At1 w cb co cl cp p ⟨1, op, xa, xb, xc, xk⟩) (hrv : RRg w rv s) : Calls Try.prog 13 #[mV (.slice (some ⟨cb, co, none⟩) cl cp) rv words fuel s, .int .i64 got] w (RSetP rv (some ⟨cb, co, none⟩) cl cp words fuel (endS { s with steps := s.steps + 1 } 1 0) w) := by
  obtain ⟨rb, rc, rfl, h16, hrm, hcells⟩ := hrv
  obtain ⟨⟨i0, i1, i2, i3, i4, i5⟩, hlt, hcap, hmx⟩ := hx
  have HCE : Hid (∀ r, r < 16 → w.cell? ⟨rb, r, none⟩ = some (.int .i64 (rg s r))) := hcells
  have hcl : cb < w.heap.size := World.block_lt_of_cell? w ⟨cb, co + p * 6, none⟩ i0
  have hrl : rb < w.heap.size := World.block_lt_of_cell? w ⟨rb, 0, none⟩ (hcells 0 (by omega))
  dsimp only at i0 i1 i2 i3 i4 i5
  have HRM : Hid (rc ≤ maxLen) := hrm
  unfold maxLen at hrm hmx
  obtain ⟨q, hq⟩ : ∃ q, s.steps = q := ⟨_, rfl⟩
  unfold mV mC
  rw [hp, h0, hq]
  rw [hq] at hf hs
  have hf2 : decide (fuel ≤ q) = false := by simp; omega
  obtain ⟨vl, hvl⟩ : ∃ v, s.value = v := ⟨_, rfl⟩
  rw [hvl]
  have HL : Hid (s.regs.length = 16) := hl
  clear hcells hp h0 hq hvl hl hf
  have HON : Hid (#[Value.slice (some ⟨cb, co, none⟩) cl cp, .int .i64 words, .int .i64 fuel, .slice (some ⟨rb, 0, none⟩) 16 rc, .int .i64 (p : Int), .int .i64 (q + 1), .int .i64 1, .int .i64 0].all (·.oneCell') = true) := all_oneCell_toArray (cs := [Value.slice (some ⟨cb, co, none⟩) cl cp, .int .i64 words, .int .i64 fuel, .slice (some ⟨rb, 0, none⟩) 16 rc, .int .i64 (p : Int), .int .i64 (q + 1), .int .i64 1, .int .i64 0]) (by intro u hu; simp at hu; rcases hu with rfl | rfl | rfl | rfl | rfl | rfl | rfl | rfl <;> rfl)
  go_enter Try.func13, Try.ntmps13
  go_wp2_with (first | (go_at_call 33; refine (over_any _ _ _ _ _ _ _ _ _ _ _ _ 1 0 _).mono ?_; rintro e V ⟨rfl, hb⟩; have HZ : Hid (V.heap[w.heap.size + 1]? = some (.cells mZa 29)) := (hb.block _ (by simp)).trans (three_z w _ _ _); have HB : Hid (Below w.heap.size w V) := (three_b w _ _ _).trans (hb.mono (by simp; omega)); clear hb) | (refine wpList_store_row rfl 29 _ _ rfl (w.heap.size + 1) #[Value.slice (some ⟨cb, co, none⟩) cl cp, .int .i64 words, .int .i64 fuel, .slice (some ⟨rb, 0, none⟩) 16 rc, .int .i64 (p : Int), .int .i64 (q + 1), .int .i64 1, .int .i64 0] rfl rfl 29 _ HZ.out size29 rfl HON.out ?_))
  refine bodyPost_ret (ret_m1 Try.results13 _ (w.heap.size + 1) rfl _ _ rfl (setRow_heap _ _ _ _ _ _ HZ.out)) rfl ?_
  exact ⟨_, rfl, (RRg.keep h16 HRM.out rfl HCE.out HB.out).setRow HZ.out _, below_setRow HB.out (by omega) _, Or.inl rfl⟩

set_option maxRecDepth 100000 in
set_option maxHeartbeats 2000000 in
theorem rst_2 (cb co cl cp p : Nat) (op xa xb xc xk got words fuel : Int) (ha : 0 ≤ xa ∧ xa < 16) (rv : Value) (s : St) (hl : s.regs.length = 16) (hp : s.pc = p) (h0 : s.over = 0) (hf : ¬ fuel ≤ s.steps) (hs : 0 ≤ s.steps ∧ s.steps < 4000) (hc : cl ≤ 1000) (w : World) (hx : At1 w cb co cl cp p ⟨2, op, xa, xb, xc, xk⟩) (hrv : RRg w rv s) : Calls Try.prog 13 #[mV (.slice (some ⟨cb, co, none⟩) cl cp) rv words fuel s, .int .i64 got] w (RSetP rv (some ⟨cb, co, none⟩) cl cp words fuel (giveS { s with steps := s.steps + 1 } xa xk) w) := by
  obtain ⟨rb, rc, rfl, h16, hrm, hcells⟩ := hrv
  obtain ⟨⟨i0, i1, i2, i3, i4, i5⟩, hlt, hcap, hmx⟩ := hx
  have HCE : Hid (∀ r, r < 16 → w.cell? ⟨rb, r, none⟩ = some (.int .i64 (rg s r))) := hcells
  have hcl : cb < w.heap.size := World.block_lt_of_cell? w ⟨cb, co + p * 6, none⟩ i0
  have hrl : rb < w.heap.size := World.block_lt_of_cell? w ⟨rb, 0, none⟩ (hcells 0 (by omega))
  dsimp only at i0 i1 i2 i3 i4 i5
  have HRM : Hid (rc ≤ maxLen) := hrm
  unfold maxLen at hrm hmx
  obtain ⟨q, hq⟩ : ∃ q, s.steps = q := ⟨_, rfl⟩
  unfold mV mC
  rw [hp, h0, hq]
  rw [hq] at hf hs
  have hf2 : decide (fuel ≤ q) = false := by simp; omega
  obtain ⟨vl, hvl⟩ : ∃ v, s.value = v := ⟨_, rfl⟩
  rw [hvl]
  have HL : Hid (s.regs.length = 16) := hl
  have HSR : Hid (∀ V, RRg V (.slice (some ⟨rb, 0, none⟩) 16 rc) ⟨s.regs, (p : Int), q + 1, 0, vl⟩ → Calls Try.prog 34 #[.agg #[Value.slice (some ⟨cb, co, none⟩) cl cp, .int .i64 words, .int .i64 fuel, .slice (some ⟨rb, 0, none⟩) 16 rc, .int .i64 (p : Int), .int .i64 (q + 1), .int .i64 0, .int .i64 vl], .int .i64 xa, .int .i64 xk] V (RSetP (.slice (some ⟨rb, 0, none⟩) 16 rc) (some ⟨cb, co, none⟩) cl cp words fuel (giveS ⟨s.regs, (p : Int), q + 1, 0, vl⟩ xa xk) V)) := fun V h => rset_any (some ⟨cb, co, none⟩) cl cp words fuel _ ⟨s.regs, (p : Int), q + 1, 0, vl⟩ hl xa xk ha (by show (0 : Int) ≤ p ∧ (p : Int) < 1000; omega) V h
  clear hcells hp h0 hq hvl hl hf
  go_enter Try.func13, Try.ntmps13
  go_wp2_with (first | (go_at_call 34; refine (HSR.out _ (RRg.keep h16 HRM.out rfl HCE.out (three_b w _ _ _))).mono ?_; rintro e V ⟨rv2, rfl, hr2, hb, hnw⟩; have HNW : Hid (NewR w (.slice (some ⟨rb, 0, none⟩) 16 rc) rv2) := hnw.mono (by simp; omega); clear hnw; have HR2 : Hid (RRg V rv2 _) := hr2; obtain ⟨g, gc, rfl, _, _, _⟩ := hr2; have HZ : Hid (V.heap[w.heap.size + 1]? = some (.cells mZa 29)) := (hb.block _ (by simp)).trans (three_z w _ _ _); have HB : Hid (Below w.heap.size w V) := (three_b w _ _ _).trans (hb.mono (by simp; omega)); clear hb; have HON : Hid (#[Value.slice (some ⟨cb, co, none⟩) cl cp, .int .i64 words, .int .i64 fuel, .slice (some ⟨g, 0, none⟩) 16 gc, .int .i64 ((p : Int) + 1), .int .i64 (q + 1), .int .i64 0, .int .i64 vl].all (·.oneCell') = true) := (all_oneCell_toArray (cs := [Value.slice (some ⟨cb, co, none⟩) cl cp, .int .i64 words, .int .i64 fuel, .slice (some ⟨g, 0, none⟩) 16 gc, .int .i64 ((p : Int) + 1), .int .i64 (q + 1), .int .i64 0, .int .i64 vl]) (by intro u hu; simp at hu; rcases hu with rfl | rfl | rfl | rfl | rfl | rfl | rfl | rfl <;> rfl))) | (refine wpList_store_row rfl 29 _ _ rfl (w.heap.size + 1) #[Value.slice (some ⟨cb, co, none⟩) cl cp, .int .i64 words, .int .i64 fuel, .slice (some ⟨g, 0, none⟩) 16 gc, .int .i64 ((p : Int) + 1), .int .i64 (q + 1), .int .i64 0, .int .i64 vl] rfl rfl 29 _ HZ.out size29 rfl HON.out ?_))
  refine bodyPost_ret (ret_m1 Try.results13 _ (w.heap.size + 1) rfl _ _ rfl (setRow_heap _ _ _ _ _ _ HZ.out)) rfl ?_
  exact ⟨_, rfl, HR2.out.setRow HZ.out _, below_setRow HB.out (by omega) _, HNW.out⟩

set_option maxRecDepth 100000 in
set_option maxHeartbeats 2000000 in
theorem rst_8 (cb co cl cp p : Nat) (op xa xb xc xk got words fuel : Int) (rv : Value) (s : St) (hl : s.regs.length = 16) (hp : s.pc = p) (h0 : s.over = 0) (hf : ¬ fuel ≤ s.steps) (hs : 0 ≤ s.steps ∧ s.steps < 4000) (hc : cl ≤ 1000) (w : World) (hx : At1 w cb co cl cp p ⟨8, op, xa, xb, xc, xk⟩) (hrv : RRg w rv s) : Calls Try.prog 13 #[mV (.slice (some ⟨cb, co, none⟩) cl cp) rv words fuel s, .int .i64 got] w (RSetP rv (some ⟨cb, co, none⟩) cl cp words fuel (onS { s with steps := s.steps + 1 }) w) := by
  obtain ⟨rb, rc, rfl, h16, hrm, hcells⟩ := hrv
  obtain ⟨⟨i0, i1, i2, i3, i4, i5⟩, hlt, hcap, hmx⟩ := hx
  have HCE : Hid (∀ r, r < 16 → w.cell? ⟨rb, r, none⟩ = some (.int .i64 (rg s r))) := hcells
  have hcl : cb < w.heap.size := World.block_lt_of_cell? w ⟨cb, co + p * 6, none⟩ i0
  have hrl : rb < w.heap.size := World.block_lt_of_cell? w ⟨rb, 0, none⟩ (hcells 0 (by omega))
  dsimp only at i0 i1 i2 i3 i4 i5
  have HRM : Hid (rc ≤ maxLen) := hrm
  unfold maxLen at hrm hmx
  obtain ⟨q, hq⟩ : ∃ q, s.steps = q := ⟨_, rfl⟩
  unfold mV mC
  rw [hp, h0, hq]
  rw [hq] at hf hs
  have hf2 : decide (fuel ≤ q) = false := by simp; omega
  obtain ⟨vl, hvl⟩ : ∃ v, s.value = v := ⟨_, rfl⟩
  rw [hvl]
  have HL : Hid (s.regs.length = 16) := hl
  clear hcells hp h0 hq hvl hl hf
  go_enter Try.func13, Try.ntmps13
  go_wp2
  refine bodyPost_ret (ret_m1 Try.results13 _ (w.heap.size + 1) rfl _ _ rfl (three_z w _ _ _)) rfl ?_
  exact ⟨_, rfl, RRg.keep h16 HRM.out rfl HCE.out (three_b w _ _ _), three_b w _ _ _, Or.inl rfl⟩

set_option maxRecDepth 100000 in
set_option maxHeartbeats 2000000 in
theorem rst_9 (cb co cl cp p : Nat) (op xa xb xc xk got words fuel : Int) (rv : Value) (s : St) (hl : s.regs.length = 16) (hp : s.pc = p) (h0 : s.over = 0) (hf : ¬ fuel ≤ s.steps) (hs : 0 ≤ s.steps ∧ s.steps < 4000) (hc : cl ≤ 1000) (w : World) (hx : At1 w cb co cl cp p ⟨9, op, xa, xb, xc, xk⟩) (hrv : RRg w rv s) : Calls Try.prog 13 #[mV (.slice (some ⟨cb, co, none⟩) cl cp) rv words fuel s, .int .i64 got] w (RSetP rv (some ⟨cb, co, none⟩) cl cp words fuel (onS { s with steps := s.steps + 1 }) w) := by
  obtain ⟨rb, rc, rfl, h16, hrm, hcells⟩ := hrv
  obtain ⟨⟨i0, i1, i2, i3, i4, i5⟩, hlt, hcap, hmx⟩ := hx
  have HCE : Hid (∀ r, r < 16 → w.cell? ⟨rb, r, none⟩ = some (.int .i64 (rg s r))) := hcells
  have hcl : cb < w.heap.size := World.block_lt_of_cell? w ⟨cb, co + p * 6, none⟩ i0
  have hrl : rb < w.heap.size := World.block_lt_of_cell? w ⟨rb, 0, none⟩ (hcells 0 (by omega))
  dsimp only at i0 i1 i2 i3 i4 i5
  have HRM : Hid (rc ≤ maxLen) := hrm
  unfold maxLen at hrm hmx
  obtain ⟨q, hq⟩ : ∃ q, s.steps = q := ⟨_, rfl⟩
  unfold mV mC
  rw [hp, h0, hq]
  rw [hq] at hf hs
  have hf2 : decide (fuel ≤ q) = false := by simp; omega
  obtain ⟨vl, hvl⟩ : ∃ v, s.value = v := ⟨_, rfl⟩
  rw [hvl]
  have HL : Hid (s.regs.length = 16) := hl
  clear hcells hp h0 hq hvl hl hf
  go_enter Try.func13, Try.ntmps13
  go_wp2
  refine bodyPost_ret (ret_m1 Try.results13 _ (w.heap.size + 1) rfl _ _ rfl (three_z w _ _ _)) rfl ?_
  exact ⟨_, rfl, RRg.keep h16 HRM.out rfl HCE.out (three_b w _ _ _), three_b w _ _ _, Or.inl rfl⟩

set_option maxRecDepth 100000 in
set_option maxHeartbeats 2000000 in
theorem rst_10 (cb co cl cp p : Nat) (op xa xb xc xk got words fuel : Int) (rv : Value) (s : St) (hl : s.regs.length = 16) (hp : s.pc = p) (h0 : s.over = 0) (hf : ¬ fuel ≤ s.steps) (hs : 0 ≤ s.steps ∧ s.steps < 4000) (hc : cl ≤ 1000) (w : World) (hx : At1 w cb co cl cp p ⟨10, op, xa, xb, xc, xk⟩) (hrv : RRg w rv s) : Calls Try.prog 13 #[mV (.slice (some ⟨cb, co, none⟩) cl cp) rv words fuel s, .int .i64 got] w (RSetP rv (some ⟨cb, co, none⟩) cl cp words fuel (jumpS { s with steps := s.steps + 1 } xk true) w) := by
  obtain ⟨rb, rc, rfl, h16, hrm, hcells⟩ := hrv
  obtain ⟨⟨i0, i1, i2, i3, i4, i5⟩, hlt, hcap, hmx⟩ := hx
  have HCE : Hid (∀ r, r < 16 → w.cell? ⟨rb, r, none⟩ = some (.int .i64 (rg s r))) := hcells
  have hcl : cb < w.heap.size := World.block_lt_of_cell? w ⟨cb, co + p * 6, none⟩ i0
  have hrl : rb < w.heap.size := World.block_lt_of_cell? w ⟨rb, 0, none⟩ (hcells 0 (by omega))
  dsimp only at i0 i1 i2 i3 i4 i5
  have HRM : Hid (rc ≤ maxLen) := hrm
  unfold maxLen at hrm hmx
  obtain ⟨q, hq⟩ : ∃ q, s.steps = q := ⟨_, rfl⟩
  unfold mV mC
  rw [hp, h0, hq]
  rw [hq] at hf hs
  have hf2 : decide (fuel ≤ q) = false := by simp; omega
  obtain ⟨vl, hvl⟩ : ∃ v, s.value = v := ⟨_, rfl⟩
  rw [hvl]
  have HL : Hid (s.regs.length = 16) := hl
  clear hcells hp h0 hq hvl hl hf
  go_enter Try.func13, Try.ntmps13
  go_wp2
  refine bodyPost_ret (ret_m1 Try.results13 _ (w.heap.size + 1) rfl _ _ rfl (three_z w _ _ _)) rfl ?_
  exact ⟨_, rfl, RRg.keep h16 HRM.out rfl HCE.out (three_b w _ _ _), three_b w _ _ _, Or.inl rfl⟩

set_option maxRecDepth 100000 in
set_option maxHeartbeats 2000000 in
theorem rst_11 (cb co cl cp p : Nat) (op xa xb xc xk got words fuel : Int) (ha : 0 ≤ xa ∧ xa < 16) (rv : Value) (s : St) (hl : s.regs.length = 16) (hp : s.pc = p) (h0 : s.over = 0) (hf : ¬ fuel ≤ s.steps) (hs : 0 ≤ s.steps ∧ s.steps < 4000) (hc : cl ≤ 1000) (w : World) (hx : At1 w cb co cl cp p ⟨11, op, xa, xb, xc, xk⟩) (hrv : RRg w rv s) : Calls Try.prog 13 #[mV (.slice (some ⟨cb, co, none⟩) cl cp) rv words fuel s, .int .i64 got] w (RSetP rv (some ⟨cb, co, none⟩) cl cp words fuel (jumpS { s with steps := s.steps + 1 } xk (rg s xa.toNat == 0)) w) := by
  obtain ⟨rb, rc, rfl, h16, hrm, hcells⟩ := hrv
  obtain ⟨⟨i0, i1, i2, i3, i4, i5⟩, hlt, hcap, hmx⟩ := hx
  have HCE : Hid (∀ r, r < 16 → w.cell? ⟨rb, r, none⟩ = some (.int .i64 (rg s r))) := hcells
  have hcl : cb < w.heap.size := World.block_lt_of_cell? w ⟨cb, co + p * 6, none⟩ i0
  have hrl : rb < w.heap.size := World.block_lt_of_cell? w ⟨rb, 0, none⟩ (hcells 0 (by omega))
  dsimp only at i0 i1 i2 i3 i4 i5
  have HRM : Hid (rc ≤ maxLen) := hrm
  unfold maxLen at hrm hmx
  obtain ⟨q, hq⟩ : ∃ q, s.steps = q := ⟨_, rfl⟩
  unfold mV mC
  rw [hp, h0, hq]
  rw [hq] at hf hs
  have hf2 : decide (fuel ≤ q) = false := by simp; omega
  obtain ⟨vl, hvl⟩ : ∃ v, s.value = v := ⟨_, rfl⟩
  rw [hvl]
  have HL : Hid (s.regs.length = 16) := hl
  obtain ⟨n, hn0⟩ : ∃ n : Nat, xa = n := ⟨xa.toNat, by omega⟩
  subst hn0
  have hn : n < 16 := by omega
  have creg := hcells n hn
  have creg3 : ∀ A B C, (((w.alloc A).alloc B).alloc C).cell? ⟨rb, n, none⟩ = w.cell? ⟨rb, n, none⟩ := fun A B C => (three_b w A B C).cell (p := ⟨rb, n, none⟩) hrl
  rw [creg] at creg3
  rw [Int.toNat_natCast]
  generalize rg s n = z at creg creg3 ⊢
  clear hcells hp h0 hq hvl hl hf
  by_cases hz : z = 0
  · subst hz
    have e1 : ((0 : Int) == 0) = true := rfl
    rw [e1]
    go_enter Try.func13, Try.ntmps13
    go_wp2
    refine bodyPost_ret (ret_m1 Try.results13 _ (w.heap.size + 1) rfl _ _ rfl (three_z w _ _ _)) rfl ?_
    exact ⟨_, rfl, RRg.keep h16 HRM.out rfl HCE.out (three_b w _ _ _), three_b w _ _ _, Or.inl rfl⟩
  · have e1 : (z == 0) = false := by simp [hz]
    have e2 : (z == 0) = false := by simp [hz]
    have e3 : (z != 0) = true := by simp [hz]
    rw [e1]
    go_enter Try.func13, Try.ntmps13
    go_wp2
    refine bodyPost_ret (ret_m1 Try.results13 _ (w.heap.size + 1) rfl _ _ rfl (three_z w _ _ _)) rfl ?_
    exact ⟨_, rfl, RRg.keep h16 HRM.out rfl HCE.out (three_b w _ _ _), three_b w _ _ _, Or.inl rfl⟩

set_option maxRecDepth 100000 in
set_option maxHeartbeats 2000000 in
theorem rst_12 (cb co cl cp p : Nat) (op xa xb xc xk got words fuel : Int) (ha : 0 ≤ xa ∧ xa < 16) (rv : Value) (s : St) (hl : s.regs.length = 16) (hp : s.pc = p) (h0 : s.over = 0) (hf : ¬ fuel ≤ s.steps) (hs : 0 ≤ s.steps ∧ s.steps < 4000) (hc : cl ≤ 1000) (w : World) (hx : At1 w cb co cl cp p ⟨12, op, xa, xb, xc, xk⟩) (hrv : RRg w rv s) : Calls Try.prog 13 #[mV (.slice (some ⟨cb, co, none⟩) cl cp) rv words fuel s, .int .i64 got] w (RSetP rv (some ⟨cb, co, none⟩) cl cp words fuel (jumpS { s with steps := s.steps + 1 } xk (rg s xa.toNat != 0)) w) := by
  obtain ⟨rb, rc, rfl, h16, hrm, hcells⟩ := hrv
  obtain ⟨⟨i0, i1, i2, i3, i4, i5⟩, hlt, hcap, hmx⟩ := hx
  have HCE : Hid (∀ r, r < 16 → w.cell? ⟨rb, r, none⟩ = some (.int .i64 (rg s r))) := hcells
  have hcl : cb < w.heap.size := World.block_lt_of_cell? w ⟨cb, co + p * 6, none⟩ i0
  have hrl : rb < w.heap.size := World.block_lt_of_cell? w ⟨rb, 0, none⟩ (hcells 0 (by omega))
  dsimp only at i0 i1 i2 i3 i4 i5
  have HRM : Hid (rc ≤ maxLen) := hrm
  unfold maxLen at hrm hmx
  obtain ⟨q, hq⟩ : ∃ q, s.steps = q := ⟨_, rfl⟩
  unfold mV mC
  rw [hp, h0, hq]
  rw [hq] at hf hs
  have hf2 : decide (fuel ≤ q) = false := by simp; omega
  obtain ⟨vl, hvl⟩ : ∃ v, s.value = v := ⟨_, rfl⟩
  rw [hvl]
  have HL : Hid (s.regs.length = 16) := hl
  obtain ⟨n, hn0⟩ : ∃ n : Nat, xa = n := ⟨xa.toNat, by omega⟩
  subst hn0
  have hn : n < 16 := by omega
  have creg := hcells n hn
  have creg3 : ∀ A B C, (((w.alloc A).alloc B).alloc C).cell? ⟨rb, n, none⟩ = w.cell? ⟨rb, n, none⟩ := fun A B C => (three_b w A B C).cell (p := ⟨rb, n, none⟩) hrl
  rw [creg] at creg3
  rw [Int.toNat_natCast]
  generalize rg s n = z at creg creg3 ⊢
  clear hcells hp h0 hq hvl hl hf
  by_cases hz : z = 0
  · subst hz
    have e1 : ((0 : Int) != 0) = false := rfl
    rw [e1]
    go_enter Try.func13, Try.ntmps13
    go_wp2
    refine bodyPost_ret (ret_m1 Try.results13 _ (w.heap.size + 1) rfl _ _ rfl (three_z w _ _ _)) rfl ?_
    exact ⟨_, rfl, RRg.keep h16 HRM.out rfl HCE.out (three_b w _ _ _), three_b w _ _ _, Or.inl rfl⟩
  · have e1 : (z != 0) = true := by simp [hz]
    have e2 : (z == 0) = false := by simp [hz]
    have e3 : (z != 0) = true := by simp [hz]
    rw [e1]
    go_enter Try.func13, Try.ntmps13
    go_wp2
    refine bodyPost_ret (ret_m1 Try.results13 _ (w.heap.size + 1) rfl _ _ rfl (three_z w _ _ _)) rfl ?_
    exact ⟨_, rfl, RRg.keep h16 HRM.out rfl HCE.out (three_b w _ _ _), three_b w _ _ _, Or.inl rfl⟩
end Go.Proofs.Ytkcncngcmhldpaa
