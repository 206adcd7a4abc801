/- The document's step: a move, a stop with a value. -/
import Derived.Test.YtkcncngcmhldpaaRSt2
import Derived.Test.YtkcncngcmhldpaaMade
namespace Go.Proofs.Ytkcncngcmhldpaa
open Go.RowKit Go.Maps
set_option linter.unusedVariables false

/-- a load, a store of a document's machine that no step looks into -/
def ld29b (x : Value) : Sem Value := Instr.loadAt 29 x
@[local go_sem ↓] theorem ld_holdb (x : Value) : Instr.loadAt 29 x = ld29b x := rfl
def st29b (x y : Value) : Sem Unit := Instr.storeAt 29 x y
@[local go_sem ↓] theorem st_holdb (x y : Value) : Instr.storeAt 29 x y = st29b x y := rfl

/-- the registers do not lie where the result does -/
theorem RRg.setCells {V : World} {rv : Value} {s : St} {b : Nat} (h : RRg V rv s) (hz : V.heap[b]? = some (.cells mZa 29)) (cs : List Value) : RRg (V.setCells b 0 cs) rv s := by
  obtain ⟨g, c, h1, h2, h3, h4⟩ := h
  have hg : g ≠ b := by
    intro e
    have h5 := h4 0 (by omega)
    rw [e, cell_of_row V _ 0 _ _ _ hz] at h5
    cases h5
  exact ⟨g, c, h1, h2, h3, fun r hr => (World.cell?_of_block (a := ⟨g, r, none⟩) (setCells_other _ _ _ _ _ hg)).trans (h4 r hr)⟩

set_option maxRecDepth 100000 in
set_option maxHeartbeats 2000000 in
theorem rst_13 (cb co cl cp p : Nat) (op xa xb xc xk got words fuel : Int) (ha : 0 ≤ xa ∧ xa < 16) (rv : Value) (s : St) (hl : s.regs.length = 16) (hp : s.pc = p) (h0 : s.over = 0) (hf : ¬ fuel ≤ s.steps) (hs : 0 ≤ s.steps ∧ s.steps < 4000) (hc : cl ≤ 1000) (w : World) (hx : At1 w cb co cl cp p ⟨13, op, xa, xb, xc, xk⟩) (hrv : RRg w rv s) : Calls Try.prog 13 #[mV (.slice (some ⟨cb, co, none⟩) cl cp) rv words fuel s, .int .i64 got] w (RSetP rv (some ⟨cb, co, none⟩) cl cp words fuel (endS { s with steps := s.steps + 1 } 4 (rg s xa.toNat)) w) := by
  obtain ⟨rb, rc, rfl, h16, hrm, hcells⟩ := hrv
  obtain ⟨⟨i0, i1, i2, i3, i4, i5⟩, hlt, hcap, hmx⟩ := hx
  have HCE : Hid (∀ r, r < 16 → w.cell? ⟨rb, r, none⟩ = some (.int .i64 (rg s r))) := hcells
  have hcl : cb < w.heap.size := World.block_lt_of_cell? w ⟨cb, co + p * 6, none⟩ i0
  have hrl : rb < w.heap.size := World.block_lt_of_cell? w ⟨rb, 0, none⟩ (hcells 0 (by omega))
  dsimp only at i0 i1 i2 i3 i4 i5
  have HRM : Hid (rc ≤ maxLen) := hrm
  unfold maxLen at hrm hmx
  obtain ⟨q, hq⟩ : ∃ q, s.steps = q := ⟨_, rfl⟩
  unfold mV mC
  rw [hp, h0, hq]
  rw [hq] at hf hs
  have hf2 : decide (fuel ≤ q) = false := by simp; omega
  obtain ⟨vl, hvl⟩ : ∃ v, s.value = v := ⟨_, rfl⟩
  rw [hvl]
  have HL : Hid (s.regs.length = 16) := hl
  obtain ⟨n, hn0⟩ : ∃ n : Nat, xa = n := ⟨xa.toNat, by omega⟩
  subst hn0
  have hn : n < 16 := by omega
  have cn := hcells n hn
  have cn3 : ∀ A B C, (((w.alloc A).alloc B).alloc C).cell? ⟨rb, n, none⟩ = w.cell? ⟨rb, n, none⟩ := fun A B C => (three_b w A B C).cell (p := ⟨rb, n, none⟩) hrl
  rw [cn] at cn3
  rw [Int.toNat_natCast]
  generalize rg s n = z at cn cn3 ⊢
  clear hcells hp h0 hq hvl hl hf
  go_enter Try.func13, Try.ntmps13
  go_wp2_with fail
  obtain ⟨MM, hMM⟩ : ∃ MM, #[Value.slice (some ⟨cb, co, none⟩) cl cp, .int .i64 words, .int .i64 fuel, .slice (some ⟨rb, 0, none⟩) 16 rc, .int .i64 (p : Int), .int .i64 (q + 1), .int .i64 0, .int .i64 vl] = MM := ⟨_, rfl⟩
  have HMM : Hid (#[Value.slice (some ⟨cb, co, none⟩) cl cp, .int .i64 words, .int .i64 fuel, .slice (some ⟨rb, 0, none⟩) 16 rc, .int .i64 (p : Int), .int .i64 (q + 1), .int .i64 0, .int .i64 vl] = MM) := hMM
  obtain ⟨W, hW⟩ : ∃ W, ((w.alloc (.cells #[Value.slice (some ⟨cb, co, none⟩) cl cp, .int .i64 words, .int .i64 fuel, .slice (some ⟨rb, 0, none⟩) 16 rc, .int .i64 (p : Int), .int .i64 (q + 1), .int .i64 0, .int .i64 vl] 29)).alloc (.cells #[Value.slice none 0 0, Value.int .i64 0, Value.int .i64 0, Value.slice none 0 0, Value.int .i64 0, Value.int .i64 0, Value.int .i64 0, Value.int .i64 0] 29)).alloc (.cells #[Value.int .i64 13, .int .i64 op, .int .i64 (n : Int), .int .i64 xb, .int .i64 xc, .int .i64 xk] 76) = W := ⟨_, rfl⟩
  have HBW : Hid (Below w.heap.size w W) := by show Below _ _ _; rw [← hW]; exact three_b w _ _ _
  have HWS : Hid (W.heap.size = w.heap.size + 3) := by show _ = _; rw [← hW]; simp
  have hM : W.heap[w.heap.size]? = some (.cells MM 29) := by rw [← hW, ← hMM]; exact three_m w _ _ _
  have HZW : Hid (W.heap[w.heap.size + 1]? = some (.cells mZa 29)) := by show _ = _; rw [← hW]; exact three_z w _ _ _
  have hXW : W.heap[w.heap.size + 1 + 1]? = some (.cells #[Value.int .i64 13, .int .i64 op, .int .i64 (n : Int), .int .i64 xb, .int .i64 xc, .int .i64 xk] 76) := by rw [← hW]; exact three_x w _ _ _
  have k1 : W.cell? ⟨w.heap.size, 3, none⟩ = some (.slice (some ⟨rb, 0, none⟩) 16 rc) := by rw [cell_of_row W _ 3 _ _ _ hM, ← hMM]; rfl
  have k2 : W.cell? ⟨w.heap.size + 1 + 1, 2, none⟩ = some (.int .i64 (n : Int)) := (cell_of_row W _ 2 _ _ _ hXW).trans rfl
  have k3 : W.cell? ⟨rb, n, none⟩ = some (.int .i64 z) := (HBW.out.cell (p := ⟨rb, n, none⟩) hrl).trans cn
  have hk : W.drew.heap[w.heap.size]? = some (.cells MM 29) ∧ W.drew.cell? ⟨w.heap.size, 3, none⟩ = some (.slice (some ⟨rb, 0, none⟩) 16 rc) ∧ W.drew.cell? ⟨w.heap.size + 1 + 1, 2, none⟩ = some (.int .i64 (n : Int)) ∧ W.drew.cell? ⟨rb, n, none⟩ = some (.int .i64 z) := ⟨hM, k1, k2, k3⟩
  have hld : ∀ w' : World, w'.heap[w.heap.size]? = some (.cells MM 29) → (ld29b (.pointer (some ⟨w.heap.size, 0, none⟩))).run Try.prog w' = .ok (.agg MM) w' := fun w' h => load8 (by rw [← HMM.out]; rfl) h
  obtain ⟨A3, hA3⟩ : ∃ A3, [Value.slice (some ⟨cb, co, none⟩) cl cp, .int .i64 words, .int .i64 fuel, .slice (some ⟨rb, 0, none⟩) 16 rc, .int .i64 (p : Int), .int .i64 (q + 1), .int .i64 4, .int .i64 z] = A3 := ⟨_, rfl⟩
  have HA3 : Hid ([Value.slice (some ⟨cb, co, none⟩) cl cp, .int .i64 words, .int .i64 fuel, .slice (some ⟨rb, 0, none⟩) 16 rc, .int .i64 (p : Int), .int .i64 (q + 1), .int .i64 4, .int .i64 z] = A3) := hA3
  have HOV : Hid (∀ V, Calls Try.prog 33 #[.agg MM, .int .i64 4, .int .i64 z] V fun e w' => e = .returned (.agg A3.toArray) ∧ Below V.heap.size V w') := fun V => by rw [← HMM.out, ← HA3.out]; exact over_any _ _ _ _ _ _ _ _ _ _ _ _ 4 z V
  have HST : Hid (∀ V : World, V.heap[w.heap.size + 1]? = some (.cells mZa 29) → (st29b (.pointer (some ⟨w.heap.size + 1, 0, none⟩)) (.agg A3.toArray)).run Try.prog V = .ok () (V.setCells (w.heap.size + 1) 0 A3)) := fun V h => store8 (a := mZa) A3 rfl (by rw [← HA3.out]; rfl) (by rw [← HA3.out]; intro u hu; simp at hu; rcases hu with rfl | rfl | rfl | rfl | rfl | rfl | rfl | rfl <;> rfl) h
  have HL8 : Hid (A3.length = 8) := by show _ = _; rw [← hA3]; rfl
  have HW0 : Hid (w.heap.size < W.drew.heap.size) := by show _ < W.heap.size; rw [HWS.out]; omega
  have HW1 : Hid (w.heap.size + 1 < W.drew.heap.size) := by show _ < W.heap.size; rw [HWS.out]; omega
  have HW2 : Hid (w.heap.size + 1 + 1 < W.drew.heap.size) := by show _ < W.heap.size; rw [HWS.out]; omega
  have HWR : Hid (rb < W.drew.heap.size) := by show _ < W.heap.size; rw [HWS.out]; omega
  have HWL : Hid (w.heap.size ≤ W.drew.heap.size) := Nat.le_of_lt HW0.out
  have HN0 : Hid (w.heap.size ≠ w.heap.size + 1) := by show _ ≠ _; omega
  have HN2 : Hid (w.heap.size + 1 + 1 ≠ w.heap.size + 1) := by show _ ≠ _; omega
  have HNR : Hid (rb ≠ w.heap.size + 1) := by show _ ≠ _; omega
  rw [hW]
  clear hW hMM hXW cn cn3 hA3 hM k1 k2 k3 i0 i1 i2 i3 i4 i5
  go_region_held3 (fun w' => w'.heap[w.heap.size]? = some (.cells MM 29) ∧ w'.cell? ⟨w.heap.size, 3, none⟩ = some (.slice (some ⟨rb, 0, none⟩) 16 rc) ∧ w'.cell? ⟨w.heap.size + 1 + 1, 2, none⟩ = some (.int .i64 (n : Int)) ∧ w'.cell? ⟨rb, n, none⟩ = some (.int .i64 z)) (first | assumption | (refine ⟨?_, ?_, ?_, ?_⟩ <;> assumption) | go_keep) (first | (go_at_call 33; refine (HOV.out W.drew).mono ?_; rintro e W1 ⟨rfl, hb⟩; obtain ⟨m1, m2, m3, m4⟩ := hk; have j1 : W1.heap[w.heap.size]? = some (.cells MM 29) := (hb.block _ HW0.out).trans m1; have j2 : W1.cell? ⟨w.heap.size, 3, none⟩ = _ := (hb.cell (p := ⟨w.heap.size, 3, none⟩) HW0.out).trans m2; have j3 : W1.cell? ⟨w.heap.size + 1 + 1, 2, none⟩ = _ := (hb.cell (p := ⟨w.heap.size + 1 + 1, 2, none⟩) HW2.out).trans m3; have j4 : W1.cell? ⟨rb, n, none⟩ = _ := (hb.cell (p := ⟨rb, n, none⟩) HWR.out).trans m4; have HZ1 : Hid (W1.heap[w.heap.size + 1]? = some (.cells mZa 29)) := (hb.block _ HW1.out).trans HZW.out; have hst := HST.out W1 HZ1.out; have HB1 : Hid (Below w.heap.size w W1) := HBW.out.drew.trans (hb.mono HWL.out); clear hb; have hk1 : W1.heap[w.heap.size]? = some (.cells MM 29) ∧ W1.cell? ⟨w.heap.size, 3, none⟩ = some (.slice (some ⟨rb, 0, none⟩) 16 rc) ∧ W1.cell? ⟨w.heap.size + 1 + 1, 2, none⟩ = some (.int .i64 (n : Int)) ∧ W1.cell? ⟨rb, n, none⟩ = some (.int .i64 z) := ⟨j1, j2, j3, j4⟩; have hk2 : (W1.setCells (w.heap.size + 1) 0 A3).heap[w.heap.size]? = some (.cells MM 29) ∧ (W1.setCells (w.heap.size + 1) 0 A3).cell? ⟨w.heap.size, 3, none⟩ = some (.slice (some ⟨rb, 0, none⟩) 16 rc) ∧ (W1.setCells (w.heap.size + 1) 0 A3).cell? ⟨w.heap.size + 1 + 1, 2, none⟩ = some (.int .i64 (n : Int)) ∧ (W1.setCells (w.heap.size + 1) 0 A3).cell? ⟨rb, n, none⟩ = some (.int .i64 z) := ⟨(setCells_other _ _ _ _ _ HN0.out).trans j1, (World.cell?_of_block (a := ⟨w.heap.size, 3, none⟩) (setCells_other _ _ _ _ _ HN0.out)).trans j2, (World.cell?_of_block (a := ⟨w.heap.size + 1 + 1, 2, none⟩) (setCells_other _ _ _ _ _ HN2.out)).trans j3, (World.cell?_of_block (a := ⟨rb, n, none⟩) (setCells_other _ _ _ _ _ HNR.out)).trans j4⟩))
  go_wp2
  refine bodyPost_ret (ret_m1 Try.results13 _ (w.heap.size + 1) rfl _ A3.toArray (by simpa using HL8.out) (set8 A3 (by rw [HL8.out]; rfl) HZ1.out)) rfl ?_
  rw [← HA3.out]
  exact ⟨_, rfl, (RRg.keep h16 HRM.out rfl HCE.out (below_setCells _ _ HB1.out (by omega))), below_setCells _ _ HB1.out (by omega), Or.inl rfl⟩


set_option maxRecDepth 100000 in
set_option maxHeartbeats 2000000 in
theorem rst_3 (cb co cl cp p : Nat) (op xa xb xc xk got words fuel : Int) (ha : 0 ≤ xa ∧ xa < 16) (hb : 0 ≤ xb ∧ xb < 16) (rv : Value) (s : St) (hl : s.regs.length = 16) (hreg : ∀ r < 16, R64 (rg s r)) (hp : s.pc = p) (h0 : s.over = 0) (hf : ¬ fuel ≤ s.steps) (hs : 0 ≤ s.steps ∧ s.steps < 4000) (hc : cl ≤ 1000) (w : World) (hx : At1 w cb co cl cp p ⟨3, op, xa, xb, xc, xk⟩) (hrv : RRg w rv s) : Calls Try.prog 13 #[mV (.slice (some ⟨cb, co, none⟩) cl cp) rv words fuel s, .int .i64 got] w (RSetP rv (some ⟨cb, co, none⟩) cl cp words fuel (giveS { s with steps := s.steps + 1 } xa (rg s xb.toNat)) w) := by
  obtain ⟨rb, rc, rfl, h16, hrm, hcells⟩ := hrv
  obtain ⟨⟨i0, i1, i2, i3, i4, i5⟩, hlt, hcap, hmx⟩ := hx
  have HCE : Hid (∀ r, r < 16 → w.cell? ⟨rb, r, none⟩ = some (.int .i64 (rg s r))) := hcells
  have hcl : cb < w.heap.size := World.block_lt_of_cell? w ⟨cb, co + p * 6, none⟩ i0
  have hrl : rb < w.heap.size := World.block_lt_of_cell? w ⟨rb, 0, none⟩ (hcells 0 (by omega))
  dsimp only at i0 i1 i2 i3 i4 i5
  have HRM : Hid (rc ≤ maxLen) := hrm
  unfold maxLen at hrm hmx
  obtain ⟨q, hq⟩ : ∃ q, s.steps = q := ⟨_, rfl⟩
  unfold mV mC
  rw [hp, h0, hq]
  rw [hq] at hf hs
  have hf2 : decide (fuel ≤ q) = false := by simp; omega
  obtain ⟨vl, hvl⟩ : ∃ v, s.value = v := ⟨_, rfl⟩
  rw [hvl]
  have HL : Hid (s.regs.length = 16) := hl
  obtain ⟨n, hn0⟩ : ∃ n : Nat, xb = n := ⟨xb.toNat, by omega⟩
  subst hn0
  have hn : n < 16 := by omega
  have cn := hcells n hn
  have cn3 : ∀ A B C, (((w.alloc A).alloc B).alloc C).cell? ⟨rb, n, none⟩ = w.cell? ⟨rb, n, none⟩ := fun A B C => (three_b w A B C).cell (p := ⟨rb, n, none⟩) hrl
  rw [cn] at cn3
  rw [Int.toNat_natCast]
  generalize rg s n = z at cn cn3 ⊢
  have HSR : Hid (∀ V, RRg V (.slice (some ⟨rb, 0, none⟩) 16 rc) ⟨s.regs, (p : Int), q + 1, 0, vl⟩ → Calls Try.prog 34 #[.agg #[Value.slice (some ⟨cb, co, none⟩) cl cp, .int .i64 words, .int .i64 fuel, .slice (some ⟨rb, 0, none⟩) 16 rc, .int .i64 (p : Int), .int .i64 (q + 1), .int .i64 0, .int .i64 vl], .int .i64 xa, .int .i64 z] V (RSetP (.slice (some ⟨rb, 0, none⟩) 16 rc) (some ⟨cb, co, none⟩) cl cp words fuel (giveS ⟨s.regs, (p : Int), q + 1, 0, vl⟩ xa z) V)) := fun V h => rset_any (some ⟨cb, co, none⟩) cl cp words fuel _ ⟨s.regs, (p : Int), q + 1, 0, vl⟩ hl xa z ha (by show (0 : Int) ≤ p ∧ (p : Int) < 1000; omega) V h
  obtain ⟨T, hT⟩ : ∃ T, giveS ⟨s.regs, (p : Int), q + 1, 0, vl⟩ xa z = T := ⟨_, rfl⟩
  have HT : Hid (giveS ⟨s.regs, (p : Int), q + 1, 0, vl⟩ xa z = T) := hT
  clear hcells hp h0 hq hvl hl hf hreg
  go_enter Try.func13, Try.ntmps13
  go_wp2_with fail
  obtain ⟨MM, hMM⟩ : ∃ MM, #[Value.slice (some ⟨cb, co, none⟩) cl cp, .int .i64 words, .int .i64 fuel, .slice (some ⟨rb, 0, none⟩) 16 rc, .int .i64 (p : Int), .int .i64 (q + 1), .int .i64 0, .int .i64 vl] = MM := ⟨_, rfl⟩
  have HMM : Hid (#[Value.slice (some ⟨cb, co, none⟩) cl cp, .int .i64 words, .int .i64 fuel, .slice (some ⟨rb, 0, none⟩) 16 rc, .int .i64 (p : Int), .int .i64 (q + 1), .int .i64 0, .int .i64 vl] = MM) := hMM
  obtain ⟨W, hW⟩ : ∃ W, ((w.alloc (.cells #[Value.slice (some ⟨cb, co, none⟩) cl cp, .int .i64 words, .int .i64 fuel, .slice (some ⟨rb, 0, none⟩) 16 rc, .int .i64 (p : Int), .int .i64 (q + 1), .int .i64 0, .int .i64 vl] 29)).alloc (.cells #[Value.slice none 0 0, Value.int .i64 0, Value.int .i64 0, Value.slice none 0 0, Value.int .i64 0, Value.int .i64 0, Value.int .i64 0, Value.int .i64 0] 29)).alloc (.cells #[Value.int .i64 3, .int .i64 op, .int .i64 xa, .int .i64 (n : Int), .int .i64 xc, .int .i64 xk] 76) = W := ⟨_, rfl⟩
  have HBW : Hid (Below w.heap.size w W) := by show Below _ _ _; rw [← hW]; exact three_b w _ _ _
  have HWS : Hid (W.heap.size = w.heap.size + 3) := by show _ = _; rw [← hW]; simp
  have hM : W.heap[w.heap.size]? = some (.cells MM 29) := by rw [← hW, ← hMM]; exact three_m w _ _ _
  have HZW : Hid (W.heap[w.heap.size + 1]? = some (.cells mZa 29)) := by show _ = _; rw [← hW]; exact three_z w _ _ _
  have hXW : W.heap[w.heap.size + 1 + 1]? = some (.cells #[Value.int .i64 3, .int .i64 op, .int .i64 xa, .int .i64 (n : Int), .int .i64 xc, .int .i64 xk] 76) := by rw [← hW]; exact three_x w _ _ _
  have k1 : W.cell? ⟨w.heap.size, 3, none⟩ = some (.slice (some ⟨rb, 0, none⟩) 16 rc) := by rw [cell_of_row W _ 3 _ _ _ hM, ← hMM]; rfl
  have k2 : W.cell? ⟨w.heap.size + 1 + 1, 3, none⟩ = some (.int .i64 (n : Int)) := (cell_of_row W _ 3 _ _ _ hXW).trans rfl
  have k4 : W.cell? ⟨w.heap.size + 1 + 1, 2, none⟩ = some (.int .i64 xa) := (cell_of_row W _ 2 _ _ _ hXW).trans rfl
  have k3 : W.cell? ⟨rb, n, none⟩ = some (.int .i64 z) := (HBW.out.cell (p := ⟨rb, n, none⟩) hrl).trans cn
  have hk : W.drew.heap[w.heap.size]? = some (.cells MM 29) ∧ W.drew.cell? ⟨w.heap.size, 3, none⟩ = some (.slice (some ⟨rb, 0, none⟩) 16 rc) ∧ W.drew.cell? ⟨w.heap.size + 1 + 1, 3, none⟩ = some (.int .i64 (n : Int)) ∧ W.drew.cell? ⟨rb, n, none⟩ = some (.int .i64 z) ∧ W.drew.cell? ⟨w.heap.size + 1 + 1, 2, none⟩ = some (.int .i64 xa) := ⟨hM, k1, k2, k3, k4⟩
  have hld : ∀ w' : World, w'.heap[w.heap.size]? = some (.cells MM 29) → (ld29b (.pointer (some ⟨w.heap.size, 0, none⟩))).run Try.prog w' = .ok (.agg MM) w' := fun w' h => load8 (by rw [← HMM.out]; rfl) h
  have HOV : Hid (Calls Try.prog 34 #[.agg MM, .int .i64 xa, .int .i64 z] W.drew (RSetP (.slice (some ⟨rb, 0, none⟩) 16 rc) (some ⟨cb, co, none⟩) cl cp words fuel T W.drew)) := by show Calls _ _ _ _ _; rw [← HMM.out, ← hT]; exact HSR.out W.drew (RRg.keep h16 HRM.out rfl HCE.out HBW.out.drew)
  have HST : Hid (∀ (V : World) (A3 : List Value), A3.length = 8 → (∀ u ∈ A3, u.oneCell' = true) → V.heap[w.heap.size + 1]? = some (.cells mZa 29) → (st29b (.pointer (some ⟨w.heap.size + 1, 0, none⟩)) (.agg A3.toArray)).run Try.prog V = .ok () (V.setCells (w.heap.size + 1) 0 A3)) := fun V A3 h8 ho h => store8 (a := mZa) A3 rfl h8 ho h
  have HW0 : Hid (w.heap.size < W.drew.heap.size) := by show _ < W.heap.size; rw [HWS.out]; omega
  have HW1 : Hid (w.heap.size + 1 < W.drew.heap.size) := by show _ < W.heap.size; rw [HWS.out]; omega
  have HW2 : Hid (w.heap.size + 1 + 1 < W.drew.heap.size) := by show _ < W.heap.size; rw [HWS.out]; omega
  have HWR : Hid (rb < W.drew.heap.size) := by show _ < W.heap.size; rw [HWS.out]; omega
  have HWL : Hid (w.heap.size ≤ W.drew.heap.size) := Nat.le_of_lt HW0.out
  have HN0 : Hid (w.heap.size ≠ w.heap.size + 1) := by show _ ≠ _; omega
  have HN2 : Hid (w.heap.size + 1 + 1 ≠ w.heap.size + 1) := by show _ ≠ _; omega
  have HNR : Hid (rb ≠ w.heap.size + 1) := by show _ ≠ _; omega
  rw [hT, hW]
  clear hW hMM hXW cn cn3 hM k1 k2 k3 k4 i0 i1 i2 i3 i4 i5 hT HSR
  go_region_held3 (fun w' => w'.heap[w.heap.size]? = some (.cells MM 29) ∧ w'.cell? ⟨w.heap.size, 3, none⟩ = some (.slice (some ⟨rb, 0, none⟩) 16 rc) ∧ w'.cell? ⟨w.heap.size + 1 + 1, 3, none⟩ = some (.int .i64 (n : Int)) ∧ w'.cell? ⟨rb, n, none⟩ = some (.int .i64 z) ∧ w'.cell? ⟨w.heap.size + 1 + 1, 2, none⟩ = some (.int .i64 xa)) (first | assumption | (refine ⟨?_, ?_, ?_, ?_, ?_⟩ <;> assumption) | go_keep) (first | (go_at_call 34; refine HOV.out.mono ?_; rintro e W1 ⟨rv2, rfl, hr2, hb, hnw⟩; have HNW : Hid (NewR w (.slice (some ⟨rb, 0, none⟩) 16 rc) rv2) := hnw.mono HBW.out.size; clear hnw; have HR2 : Hid (RRg W1 rv2 T) := hr2; clear hr2; obtain ⟨A3, hA3⟩ : ∃ A3, (mC (.slice (some ⟨cb, co, none⟩) cl cp) rv2 words fuel T).toList = A3 := ⟨_, rfl⟩; have HA3 : Hid ((mC (.slice (some ⟨cb, co, none⟩) cl cp) rv2 words fuel T).toList = A3) := hA3; have HL8 : Hid (A3.length = 8) := hA3 ▸ rfl; have HRE : Hid (mV (.slice (some ⟨cb, co, none⟩) cl cp) rv2 words fuel T = .agg A3.toArray) := hA3 ▸ rfl; rw [HRE.out]; obtain ⟨m1, m2, m3, m4, m5⟩ := hk; have j1 : W1.heap[w.heap.size]? = some (.cells MM 29) := (hb.block _ HW0.out).trans m1; have j2 : W1.cell? ⟨w.heap.size, 3, none⟩ = _ := (hb.cell (p := ⟨w.heap.size, 3, none⟩) HW0.out).trans m2; have j3 : W1.cell? ⟨w.heap.size + 1 + 1, 3, none⟩ = _ := (hb.cell (p := ⟨w.heap.size + 1 + 1, 3, none⟩) HW2.out).trans m3; have j4 : W1.cell? ⟨rb, n, none⟩ = _ := (hb.cell (p := ⟨rb, n, none⟩) HWR.out).trans m4; have j5 : W1.cell? ⟨w.heap.size + 1 + 1, 2, none⟩ = _ := (hb.cell (p := ⟨w.heap.size + 1 + 1, 2, none⟩) HW2.out).trans m5; have HZ1 : Hid (W1.heap[w.heap.size + 1]? = some (.cells mZa 29)) := (hb.block _ HW1.out).trans HZW.out; have hst := HST.out W1 A3 HL8.out (by obtain ⟨g, gc, rfl, _⟩ := HR2.out; rw [← hA3]; unfold mC; intro u hu; simp at hu; rcases hu with rfl | rfl | rfl | rfl | rfl | rfl | rfl | rfl <;> rfl) HZ1.out; have HB1 : Hid (Below w.heap.size w W1) := HBW.out.drew.trans (hb.mono HWL.out); clear hb hA3; have hk1 : W1.heap[w.heap.size]? = some (.cells MM 29) ∧ W1.cell? ⟨w.heap.size, 3, none⟩ = some (.slice (some ⟨rb, 0, none⟩) 16 rc) ∧ W1.cell? ⟨w.heap.size + 1 + 1, 3, none⟩ = some (.int .i64 (n : Int)) ∧ W1.cell? ⟨rb, n, none⟩ = some (.int .i64 z) ∧ W1.cell? ⟨w.heap.size + 1 + 1, 2, none⟩ = some (.int .i64 xa) := ⟨j1, j2, j3, j4, j5⟩; have hk2 : (W1.setCells (w.heap.size + 1) 0 A3).heap[w.heap.size]? = some (.cells MM 29) ∧ (W1.setCells (w.heap.size + 1) 0 A3).cell? ⟨w.heap.size, 3, none⟩ = some (.slice (some ⟨rb, 0, none⟩) 16 rc) ∧ (W1.setCells (w.heap.size + 1) 0 A3).cell? ⟨w.heap.size + 1 + 1, 3, none⟩ = some (.int .i64 (n : Int)) ∧ (W1.setCells (w.heap.size + 1) 0 A3).cell? ⟨rb, n, none⟩ = some (.int .i64 z) ∧ (W1.setCells (w.heap.size + 1) 0 A3).cell? ⟨w.heap.size + 1 + 1, 2, none⟩ = some (.int .i64 xa) := ⟨(setCells_other _ _ _ _ _ HN0.out).trans j1, (World.cell?_of_block (a := ⟨w.heap.size, 3, none⟩) (setCells_other _ _ _ _ _ HN0.out)).trans j2, (World.cell?_of_block (a := ⟨w.heap.size + 1 + 1, 3, none⟩) (setCells_other _ _ _ _ _ HN2.out)).trans j3, (World.cell?_of_block (a := ⟨rb, n, none⟩) (setCells_other _ _ _ _ _ HNR.out)).trans j4, (World.cell?_of_block (a := ⟨w.heap.size + 1 + 1, 2, none⟩) (setCells_other _ _ _ _ _ HN2.out)).trans j5⟩))
  go_wp2
  refine bodyPost_ret (ret_m1 Try.results13 _ (w.heap.size + 1) rfl _ A3.toArray (by simpa using HL8.out) (set8 A3 (by rw [HL8.out]; rfl) HZ1.out)) rfl ?_
  rw [← HRE.out]
  show RSetP _ _ _ _ _ _ (giveS ⟨s.regs, (p : Int), q + 1, 0, vl⟩ xa z) _ _ _
  rw [HT.out]
  exact ⟨_, rfl, HR2.out.setCells HZ1.out _, below_setCells _ _ HB1.out (by omega), HNW.out⟩

end Go.Proofs.Ytkcncngcmhldpaa
