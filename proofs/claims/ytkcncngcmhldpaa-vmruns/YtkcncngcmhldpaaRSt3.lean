/- The document's step: operations, loads, stores. -/
import Derived.Test.YtkcncngcmhldpaaRSt2
namespace Go.Proofs.Ytkcncngcmhldpaa
open Go.RowKit Go.Maps
set_option linter.unusedVariables false

set_option maxRecDepth 100000 in
set_option maxHeartbeats 2000000 in
theorem rst_4 (cb co cl cp p : Nat) (op xa xb xc xk got words fuel : Int) (ha : 0 ≤ xa ∧ xa < 16) (hb : 0 ≤ xb ∧ xb < 16) (rv : Value) (s : St) (hl : s.regs.length = 16) (hreg : ∀ r < 16, R64 (rg s r)) (hp : s.pc = p) (h0 : s.over = 0) (hf : ¬ fuel ≤ s.steps) (hs : 0 ≤ s.steps ∧ s.steps < 4000) (hc : cl ≤ 1000) (w : World) (hx : At1 w cb co cl cp p ⟨4, op, xa, xb, xc, xk⟩) (hrv : RRg w rv s) : Calls Try.prog 13 #[mV (.slice (some ⟨cb, co, none⟩) cl cp) rv words fuel s, .int .i64 got] w (RSetP rv (some ⟨cb, co, none⟩) cl cp words fuel (giveS { s with steps := s.steps + 1 } xa (oneR op (rg s xb.toNat)).1) w) := by
  obtain ⟨rb, rc, rfl, h16, hrm, hcells⟩ := hrv
  obtain ⟨⟨i0, i1, i2, i3, i4, i5⟩, hlt, hcap, hmx⟩ := hx
  have HCE : Hid (∀ r, r < 16 → w.cell? ⟨rb, r, none⟩ = some (.int .i64 (rg s r))) := hcells
  have hcl : cb < w.heap.size := World.block_lt_of_cell? w ⟨cb, co + p * 6, none⟩ i0
  have hrl : rb < w.heap.size := World.block_lt_of_cell? w ⟨rb, 0, none⟩ (hcells 0 (by omega))
  dsimp only at i0 i1 i2 i3 i4 i5
  have HRM : Hid (rc ≤ maxLen) := hrm
  unfold maxLen at hrm hmx
  obtain ⟨q, hq⟩ : ∃ q, s.steps = q := ⟨_, rfl⟩
  unfold mV mC
  rw [hp, h0, hq]
  rw [hq] at hf hs
  have hf2 : decide (fuel ≤ q) = false := by simp; omega
  obtain ⟨vl, hvl⟩ : ∃ v, s.value = v := ⟨_, rfl⟩
  rw [hvl]
  have HL : Hid (s.regs.length = 16) := hl
  obtain ⟨n, hn0⟩ : ∃ n : Nat, xb = n := ⟨xb.toNat, by omega⟩
  subst hn0
  have hn : n < 16 := by omega
  have cn := hcells n hn
  have cn3 : ∀ A B C, (((w.alloc A).alloc B).alloc C).cell? ⟨rb, n, none⟩ = w.cell? ⟨rb, n, none⟩ := fun A B C => (three_b w A B C).cell (p := ⟨rb, n, none⟩) hrl
  rw [cn] at cn3
  have HO : Hid (∀ w, Calls Try.prog 35 #[.int .i64 op, .int .i64 (rg s n)] w fun e w' => e = .returned (.tuple #[.int .i64 (oneR op (rg s n)).1, .bool (oneR op (rg s n)).2]) ∧ w' = w) := (oneR_is op (rg s n) (hreg n hn)).1.2
  rw [Int.toNat_natCast]
  generalize oneR op (rg s n) = zz at HO ⊢
  obtain ⟨z, ok⟩ := zz
  dsimp only at HO ⊢
  have HSR : Hid (∀ V, RRg V (.slice (some ⟨rb, 0, none⟩) 16 rc) ⟨s.regs, (p : Int), q + 1, 0, vl⟩ → Calls Try.prog 34 #[.agg #[Value.slice (some ⟨cb, co, none⟩) cl cp, .int .i64 words, .int .i64 fuel, .slice (some ⟨rb, 0, none⟩) 16 rc, .int .i64 (p : Int), .int .i64 (q + 1), .int .i64 0, .int .i64 vl], .int .i64 xa, .int .i64 z] V (RSetP (.slice (some ⟨rb, 0, none⟩) 16 rc) (some ⟨cb, co, none⟩) cl cp words fuel (giveS ⟨s.regs, (p : Int), q + 1, 0, vl⟩ xa z) V)) := fun V h => rset_any (some ⟨cb, co, none⟩) cl cp words fuel _ ⟨s.regs, (p : Int), q + 1, 0, vl⟩ hl xa z ha (by show (0 : Int) ≤ p ∧ (p : Int) < 1000; omega) V h
  generalize rg s n = gn at cn cn3 HO
  clear hcells hp h0 hq hvl hl hf hreg
  go_enter Try.func13, Try.ntmps13
  go_wp2_with fail
  go_quiet (first | (go_at_call 35; exact Calls.quiet_of_same (HO.out _)))
  go_wp2_with (first | (go_at_call 34; refine (HSR.out _ (RRg.keep h16 HRM.out rfl HCE.out (below_drewN (three_b w _ _ _) _))).mono ?_; rintro e V ⟨rv2, rfl, hr2, hb, hnw⟩; have HNW : Hid (NewR w (.slice (some ⟨rb, 0, none⟩) 16 rc) rv2) := hnw.mono (by simp; omega); clear hnw; have HR2 : Hid (RRg V rv2 _) := hr2; obtain ⟨g, gc, rfl, _, _, _⟩ := hr2; have HZ : Hid (V.heap[w.heap.size + 1]? = some (.cells mZa 29)) := (hb.block _ (by simp)).trans (three_z w _ _ _); have HB : Hid (Below w.heap.size w V) := (below_drewN (three_b w _ _ _) _).trans (hb.mono (by simp; omega)); clear hb; have HON : Hid (#[Value.slice (some ⟨cb, co, none⟩) cl cp, .int .i64 words, .int .i64 fuel, .slice (some ⟨g, 0, none⟩) 16 gc, .int .i64 ((p : Int) + 1), .int .i64 (q + 1), .int .i64 0, .int .i64 vl].all (·.oneCell') = true) := (all_oneCell_toArray (cs := [Value.slice (some ⟨cb, co, none⟩) cl cp, .int .i64 words, .int .i64 fuel, .slice (some ⟨g, 0, none⟩) 16 gc, .int .i64 ((p : Int) + 1), .int .i64 (q + 1), .int .i64 0, .int .i64 vl]) (by intro u hu; simp at hu; rcases hu with rfl | rfl | rfl | rfl | rfl | rfl | rfl | rfl <;> rfl))) | (refine wpList_store_row rfl 29 _ _ rfl (w.heap.size + 1) #[Value.slice (some ⟨cb, co, none⟩) cl cp, .int .i64 words, .int .i64 fuel, .slice (some ⟨g, 0, none⟩) 16 gc, .int .i64 ((p : Int) + 1), .int .i64 (q + 1), .int .i64 0, .int .i64 vl] rfl rfl 29 _ HZ.out size29 rfl HON.out ?_))
  refine bodyPost_ret (ret_m1 Try.results13 _ (w.heap.size + 1) rfl _ _ rfl (setRow_heap _ _ _ _ _ _ HZ.out)) rfl ?_
  exact ⟨_, rfl, HR2.out.setRow HZ.out _, below_setRow HB.out (by omega) _, HNW.out⟩


set_option maxRecDepth 100000 in
set_option maxHeartbeats 2000000 in
theorem rst_5 (cb co cl cp p : Nat) (op xa xb xc xk got words fuel : Int) (ha : 0 ≤ xa ∧ xa < 16) (hb : 0 ≤ xb ∧ xb < 16) (hcc : 0 ≤ xc ∧ xc < 16) (rv : Value) (s : St) (hl : s.regs.length = 16) (hreg : ∀ r < 16, R64 (rg s r)) (hp : s.pc = p) (h0 : s.over = 0) (hf : ¬ fuel ≤ s.steps) (hs : 0 ≤ s.steps ∧ s.steps < 4000) (hc : cl ≤ 1000) (w : World) (hx : At1 w cb co cl cp p ⟨5, op, xa, xb, xc, xk⟩) (hrv : RRg w rv s) : Calls Try.prog 13 #[mV (.slice (some ⟨cb, co, none⟩) cl cp) rv words fuel s, .int .i64 got] w (RSetP rv (some ⟨cb, co, none⟩) cl cp words fuel (if (twoR op (rg s xb.toNat) (rg s xc.toNat)).2 then giveS { s with steps := s.steps + 1 } xa (twoR op (rg s xb.toNat) (rg s xc.toNat)).1 else endS { s with steps := s.steps + 1 } 2 0) w) := by
  obtain ⟨rb, rc, rfl, h16, hrm, hcells⟩ := hrv
  obtain ⟨⟨i0, i1, i2, i3, i4, i5⟩, hlt, hcap, hmx⟩ := hx
  have HCE : Hid (∀ r, r < 16 → w.cell? ⟨rb, r, none⟩ = some (.int .i64 (rg s r))) := hcells
  have hcl : cb < w.heap.size := World.block_lt_of_cell? w ⟨cb, co + p * 6, none⟩ i0
  have hrl : rb < w.heap.size := World.block_lt_of_cell? w ⟨rb, 0, none⟩ (hcells 0 (by omega))
  dsimp only at i0 i1 i2 i3 i4 i5
  have HRM : Hid (rc ≤ maxLen) := hrm
  unfold maxLen at hrm hmx
  obtain ⟨q, hq⟩ : ∃ q, s.steps = q := ⟨_, rfl⟩
  unfold mV mC
  rw [hp, h0, hq]
  rw [hq] at hf hs
  have hf2 : decide (fuel ≤ q) = false := by simp; omega
  obtain ⟨vl, hvl⟩ : ∃ v, s.value = v := ⟨_, rfl⟩
  rw [hvl]
  have HL : Hid (s.regs.length = 16) := hl
  obtain ⟨n, hn0⟩ : ∃ n : Nat, xb = n := ⟨xb.toNat, by omega⟩
  subst hn0
  have hn : n < 16 := by omega
  have cn := hcells n hn
  have cn3 : ∀ A B C, (((w.alloc A).alloc B).alloc C).cell? ⟨rb, n, none⟩ = w.cell? ⟨rb, n, none⟩ := fun A B C => (three_b w A B C).cell (p := ⟨rb, n, none⟩) hrl
  rw [cn] at cn3
  obtain ⟨n2, hn20⟩ : ∃ n : Nat, xc = n := ⟨xc.toNat, by omega⟩
  subst hn20
  have hn2 : n2 < 16 := by omega
  have cn2 := hcells n2 hn2
  have cn23 : ∀ A B C, (((w.alloc A).alloc B).alloc C).cell? ⟨rb, n2, none⟩ = w.cell? ⟨rb, n2, none⟩ := fun A B C => (three_b w A B C).cell (p := ⟨rb, n2, none⟩) hrl
  rw [cn2] at cn23
  have HO : Hid (∀ w, Calls Try.prog 36 #[.int .i64 op, .int .i64 (rg s n), .int .i64 (rg s n2)] w fun e w' => e = .returned (.tuple #[.int .i64 (twoR op (rg s n) (rg s n2)).1, .bool (twoR op (rg s n) (rg s n2)).2]) ∧ w' = w) := (twoR_is op (rg s n) (rg s n2) (hreg n hn) (hreg n2 hn2)).1.2
  rw [Int.toNat_natCast, Int.toNat_natCast]
  generalize twoR op (rg s n) (rg s n2) = zz at HO ⊢
  obtain ⟨z, ok⟩ := zz
  dsimp only at HO ⊢
  have HSR : Hid (∀ V, RRg V (.slice (some ⟨rb, 0, none⟩) 16 rc) ⟨s.regs, (p : Int), q + 1, 0, vl⟩ → Calls Try.prog 34 #[.agg #[Value.slice (some ⟨cb, co, none⟩) cl cp, .int .i64 words, .int .i64 fuel, .slice (some ⟨rb, 0, none⟩) 16 rc, .int .i64 (p : Int), .int .i64 (q + 1), .int .i64 0, .int .i64 vl], .int .i64 xa, .int .i64 z] V (RSetP (.slice (some ⟨rb, 0, none⟩) 16 rc) (some ⟨cb, co, none⟩) cl cp words fuel (giveS ⟨s.regs, (p : Int), q + 1, 0, vl⟩ xa z) V)) := fun V h => rset_any (some ⟨cb, co, none⟩) cl cp words fuel _ ⟨s.regs, (p : Int), q + 1, 0, vl⟩ hl xa z ha (by show (0 : Int) ≤ p ∧ (p : Int) < 1000; omega) V h
  generalize rg s n = gn at cn cn3 HO
  generalize rg s n2 = gn2 at cn2 cn23 HO
  clear hcells hp h0 hq hvl hl hf hreg
  cases ok with
  | false =>
    rw [if_neg (by simp)]
    clear HSR
    have HON : Hid (#[Value.slice (some ⟨cb, co, none⟩) cl cp, .int .i64 words, .int .i64 fuel, .slice (some ⟨rb, 0, none⟩) 16 rc, .int .i64 (p : Int), .int .i64 (q + 1), .int .i64 2, .int .i64 0].all (·.oneCell') = true) := all_oneCell_toArray (cs := [Value.slice (some ⟨cb, co, none⟩) cl cp, .int .i64 words, .int .i64 fuel, .slice (some ⟨rb, 0, none⟩) 16 rc, .int .i64 (p : Int), .int .i64 (q + 1), .int .i64 2, .int .i64 0]) (by intro u hu; simp at hu; rcases hu with rfl | rfl | rfl | rfl | rfl | rfl | rfl | rfl <;> rfl)
    go_enter Try.func13, Try.ntmps13
    go_wp2_with fail
    go_quiet (first | (go_at_call 36; exact Calls.quiet_of_same (HO.out _)))
    go_wp2_with (first | (go_at_call 33; refine (over_any _ _ _ _ _ _ _ _ _ _ _ _ 2 0 _).mono ?_; rintro e V ⟨rfl, hb⟩; have HZ : Hid (V.heap[w.heap.size + 1]? = some (.cells mZa 29)) := (hb.block _ (by simp)).trans (three_z w _ _ _); have HB : Hid (Below w.heap.size w V) := (below_drewN (three_b w _ _ _) _).trans (hb.mono (by simp; omega)); clear hb) | (refine wpList_store_row rfl 29 _ _ rfl (w.heap.size + 1) #[Value.slice (some ⟨cb, co, none⟩) cl cp, .int .i64 words, .int .i64 fuel, .slice (some ⟨rb, 0, none⟩) 16 rc, .int .i64 (p : Int), .int .i64 (q + 1), .int .i64 2, .int .i64 0] rfl rfl 29 _ HZ.out size29 rfl HON.out ?_))
    refine bodyPost_ret (ret_m1 Try.results13 _ (w.heap.size + 1) rfl _ _ rfl (setRow_heap _ _ _ _ _ _ HZ.out)) rfl ?_
    exact ⟨_, rfl, (RRg.keep h16 HRM.out rfl HCE.out HB.out).setRow HZ.out _, below_setRow HB.out (by omega) _, Or.inl rfl⟩
  | true =>
    rw [if_pos rfl]
    go_enter Try.func13, Try.ntmps13
    go_wp2_with fail
    go_quiet (first | (go_at_call 36; exact Calls.quiet_of_same (HO.out _)))
    go_wp2_with (first | (go_at_call 34; refine (HSR.out _ (RRg.keep h16 HRM.out rfl HCE.out (below_drewN (three_b w _ _ _) _))).mono ?_; rintro e V ⟨rv2, rfl, hr2, hb, hnw⟩; have HNW : Hid (NewR w (.slice (some ⟨rb, 0, none⟩) 16 rc) rv2) := hnw.mono (by simp; omega); clear hnw; have HR2 : Hid (RRg V rv2 _) := hr2; obtain ⟨g, gc, rfl, _, _, _⟩ := hr2; have HZ : Hid (V.heap[w.heap.size + 1]? = some (.cells mZa 29)) := (hb.block _ (by simp)).trans (three_z w _ _ _); have HB : Hid (Below w.heap.size w V) := (below_drewN (three_b w _ _ _) _).trans (hb.mono (by simp; omega)); clear hb; have HON : Hid (#[Value.slice (some ⟨cb, co, none⟩) cl cp, .int .i64 words, .int .i64 fuel, .slice (some ⟨g, 0, none⟩) 16 gc, .int .i64 ((p : Int) + 1), .int .i64 (q + 1), .int .i64 0, .int .i64 vl].all (·.oneCell') = true) := (all_oneCell_toArray (cs := [Value.slice (some ⟨cb, co, none⟩) cl cp, .int .i64 words, .int .i64 fuel, .slice (some ⟨g, 0, none⟩) 16 gc, .int .i64 ((p : Int) + 1), .int .i64 (q + 1), .int .i64 0, .int .i64 vl]) (by intro u hu; simp at hu; rcases hu with rfl | rfl | rfl | rfl | rfl | rfl | rfl | rfl <;> rfl))) | (refine wpList_store_row rfl 29 _ _ rfl (w.heap.size + 1) #[Value.slice (some ⟨cb, co, none⟩) cl cp, .int .i64 words, .int .i64 fuel, .slice (some ⟨g, 0, none⟩) 16 gc, .int .i64 ((p : Int) + 1), .int .i64 (q + 1), .int .i64 0, .int .i64 vl] rfl rfl 29 _ HZ.out size29 rfl HON.out ?_))
    refine bodyPost_ret (ret_m1 Try.results13 _ (w.heap.size + 1) rfl _ _ rfl (setRow_heap _ _ _ _ _ _ HZ.out)) rfl ?_
    exact ⟨_, rfl, HR2.out.setRow HZ.out _, below_setRow HB.out (by omega) _, HNW.out⟩


set_option maxRecDepth 100000 in
set_option maxHeartbeats 2000000 in
theorem rst_6 (cb co cl cp p : Nat) (op xa xb xc xk got words fuel : Int) (ha : 0 ≤ xa ∧ xa < 16) (hb : 0 ≤ xb ∧ xb < 16) (hxk : R64 xk) (rv : Value) (s : St) (hl : s.regs.length = 16) (hreg : ∀ r < 16, R64 (rg s r)) (hp : s.pc = p) (h0 : s.over = 0) (hf : ¬ fuel ≤ s.steps) (hs : 0 ≤ s.steps ∧ s.steps < 4000) (hc : cl ≤ 1000) (w : World) (hx : At1 w cb co cl cp p ⟨6, op, xa, xb, xc, xk⟩) (hrv : RRg w rv s) : Calls Try.prog 13 #[mV (.slice (some ⟨cb, co, none⟩) cl cp) rv words fuel s, .int .i64 got] w (RSetP rv (some ⟨cb, co, none⟩) cl cp words fuel (if insideB words (addrS { s with steps := s.steps + 1 } ⟨6, op, xa, xb, xc, xk⟩) then giveS { s with steps := s.steps + 1 } xa got else endS { s with steps := s.steps + 1 } 3 (addrS { s with steps := s.steps + 1 } ⟨6, op, xa, xb, xc, xk⟩)) w) := by
  obtain ⟨rb, rc, rfl, h16, hrm, hcells⟩ := hrv
  obtain ⟨⟨i0, i1, i2, i3, i4, i5⟩, hlt, hcap, hmx⟩ := hx
  have HCE : Hid (∀ r, r < 16 → w.cell? ⟨rb, r, none⟩ = some (.int .i64 (rg s r))) := hcells
  have hcl : cb < w.heap.size := World.block_lt_of_cell? w ⟨cb, co + p * 6, none⟩ i0
  have hrl : rb < w.heap.size := World.block_lt_of_cell? w ⟨rb, 0, none⟩ (hcells 0 (by omega))
  dsimp only at i0 i1 i2 i3 i4 i5
  have HRM : Hid (rc ≤ maxLen) := hrm
  unfold maxLen at hrm hmx
  obtain ⟨q, hq⟩ : ∃ q, s.steps = q := ⟨_, rfl⟩
  unfold mV mC
  rw [hp, h0, hq]
  rw [hq] at hf hs
  have hf2 : decide (fuel ≤ q) = false := by simp; omega
  obtain ⟨vl, hvl⟩ : ∃ v, s.value = v := ⟨_, rfl⟩
  rw [hvl]
  have HL : Hid (s.regs.length = 16) := hl
  obtain ⟨n, hn0⟩ : ∃ n : Nat, xb = n := ⟨xb.toNat, by omega⟩
  subst hn0
  have hn : n < 16 := by omega
  have cn := hcells n hn
  have cn3 : ∀ A B C, (((w.alloc A).alloc B).alloc C).cell? ⟨rb, n, none⟩ = w.cell? ⟨rb, n, none⟩ := fun A B C => (three_b w A B C).cell (p := ⟨rb, n, none⟩) hrl
  rw [cn] at cn3
  have HO : Hid (∀ w, Calls Try.prog 26 #[.int .i64 (rg s n), .int .i64 xk] w fun e w' => e = .returned (.int .i64 (addrS s ⟨6, op, xa, (n : Int), xc, xk⟩)) ∧ w' = w) := fun w => by unfold addrS; rw [Int.toNat_natCast]; exact plus_any (rg s n) xk (hreg n hn) hxk w
  have ea : addrS ⟨s.regs, (p : Int), q + 1, 0, vl⟩ ⟨6, op, xa, (n : Int), xc, xk⟩ = addrS s ⟨6, op, xa, (n : Int), xc, xk⟩ := rfl
  rw [ea]
  clear ea
  generalize addrS s ⟨6, op, xa, (n : Int), xc, xk⟩ = z at HO ⊢
  have HSR : Hid (∀ V, RRg V (.slice (some ⟨rb, 0, none⟩) 16 rc) ⟨s.regs, (p : Int), q + 1, 0, vl⟩ → Calls Try.prog 34 #[.agg #[Value.slice (some ⟨cb, co, none⟩) cl cp, .int .i64 words, .int .i64 fuel, .slice (some ⟨rb, 0, none⟩) 16 rc, .int .i64 (p : Int), .int .i64 (q + 1), .int .i64 0, .int .i64 vl], .int .i64 xa, .int .i64 got] V (RSetP (.slice (some ⟨rb, 0, none⟩) 16 rc) (some ⟨cb, co, none⟩) cl cp words fuel (giveS ⟨s.regs, (p : Int), q + 1, 0, vl⟩ xa got) V)) := fun V h => rset_any (some ⟨cb, co, none⟩) cl cp words fuel _ ⟨s.regs, (p : Int), q + 1, 0, vl⟩ hl xa got ha (by show (0 : Int) ≤ p ∧ (p : Int) < 1000; omega) V h
  generalize rg s n = gn at cn cn3 HO
  clear hcells hp h0 hq hvl hl hf hreg
  have hsl := HL.out
  unfold insideB
  by_cases z0 : 0 ≤ z
  · by_cases z1 : z < words
    · have d1 : decide (z < 0) = false := by simp; omega
      have d2 : decide (words ≤ z) = false := by simp; omega
      rw [if_pos (by simp; omega)]
      clear z0 z1 hsl
      go_enter Try.func13, Try.ntmps13
      go_wp2_with fail
      go_quiet (first | (go_at_call 26; exact Calls.quiet_of_same (HO.out _)))
      go_wp2_with (first | (go_at_call 34; refine (HSR.out _ (RRg.keep h16 HRM.out rfl HCE.out (below_drewN (three_b w _ _ _) _))).mono ?_; rintro e V ⟨rv2, rfl, hr2, hb, hnw⟩; have HNW : Hid (NewR w (.slice (some ⟨rb, 0, none⟩) 16 rc) rv2) := hnw.mono (by simp; omega); clear hnw; have HR2 : Hid (RRg V rv2 _) := hr2; obtain ⟨g, gc, rfl, _, _, _⟩ := hr2; have HZ : Hid (V.heap[w.heap.size + 1]? = some (.cells mZa 29)) := (hb.block _ (by simp)).trans (three_z w _ _ _); have HB : Hid (Below w.heap.size w V) := (below_drewN (three_b w _ _ _) _).trans (hb.mono (by simp; omega)); clear hb; have HON : Hid (#[Value.slice (some ⟨cb, co, none⟩) cl cp, .int .i64 words, .int .i64 fuel, .slice (some ⟨g, 0, none⟩) 16 gc, .int .i64 ((p : Int) + 1), .int .i64 (q + 1), .int .i64 0, .int .i64 vl].all (·.oneCell') = true) := (all_oneCell_toArray (cs := [Value.slice (some ⟨cb, co, none⟩) cl cp, .int .i64 words, .int .i64 fuel, .slice (some ⟨g, 0, none⟩) 16 gc, .int .i64 ((p : Int) + 1), .int .i64 (q + 1), .int .i64 0, .int .i64 vl]) (by intro u hu; simp at hu; rcases hu with rfl | rfl | rfl | rfl | rfl | rfl | rfl | rfl <;> rfl))) | (refine wpList_store_row rfl 29 _ _ rfl (w.heap.size + 1) #[Value.slice (some ⟨cb, co, none⟩) cl cp, .int .i64 words, .int .i64 fuel, .slice (some ⟨g, 0, none⟩) 16 gc, .int .i64 ((p : Int) + 1), .int .i64 (q + 1), .int .i64 0, .int .i64 vl] rfl rfl 29 _ HZ.out size29 rfl HON.out ?_))
      refine bodyPost_ret (ret_m1 Try.results13 _ (w.heap.size + 1) rfl _ _ rfl (setRow_heap _ _ _ _ _ _ HZ.out)) rfl ?_
      exact ⟨_, rfl, HR2.out.setRow HZ.out _, below_setRow HB.out (by omega) _, HNW.out⟩
    · have d1 : decide (z < 0) = false := by simp; omega
      have d2 : decide (words ≤ z) = true := by simp; omega
      rw [if_neg (by simp; omega)]
      clear HSR
      clear z0 z1 hsl
      have HON : Hid (#[Value.slice (some ⟨cb, co, none⟩) cl cp, .int .i64 words, .int .i64 fuel, .slice (some ⟨rb, 0, none⟩) 16 rc, .int .i64 (p : Int), .int .i64 (q + 1), .int .i64 3, .int .i64 z].all (·.oneCell') = true) := all_oneCell_toArray (cs := [Value.slice (some ⟨cb, co, none⟩) cl cp, .int .i64 words, .int .i64 fuel, .slice (some ⟨rb, 0, none⟩) 16 rc, .int .i64 (p : Int), .int .i64 (q + 1), .int .i64 3, .int .i64 z]) (by intro u hu; simp at hu; rcases hu with rfl | rfl | rfl | rfl | rfl | rfl | rfl | rfl <;> rfl)
      go_enter Try.func13, Try.ntmps13
      go_wp2_with fail
      go_quiet (first | (go_at_call 26; exact Calls.quiet_of_same (HO.out _)))
      go_wp2_with (first | (go_at_call 33; refine (over_any _ _ _ _ _ _ _ _ _ _ _ _ 3 z _).mono ?_; rintro e V ⟨rfl, hb⟩; have HZ : Hid (V.heap[w.heap.size + 1]? = some (.cells mZa 29)) := (hb.block _ (by simp)).trans (three_z w _ _ _); have HB : Hid (Below w.heap.size w V) := (below_drewN (three_b w _ _ _) _).trans (hb.mono (by simp; omega)); clear hb) | (refine wpList_store_row rfl 29 _ _ rfl (w.heap.size + 1) #[Value.slice (some ⟨cb, co, none⟩) cl cp, .int .i64 words, .int .i64 fuel, .slice (some ⟨rb, 0, none⟩) 16 rc, .int .i64 (p : Int), .int .i64 (q + 1), .int .i64 3, .int .i64 z] rfl rfl 29 _ HZ.out size29 rfl HON.out ?_))
      refine bodyPost_ret (ret_m1 Try.results13 _ (w.heap.size + 1) rfl _ _ rfl (setRow_heap _ _ _ _ _ _ HZ.out)) rfl ?_
      exact ⟨_, rfl, (RRg.keep h16 HRM.out rfl HCE.out HB.out).setRow HZ.out _, below_setRow HB.out (by omega) _, Or.inl rfl⟩
  · have d1 : decide (z < 0) = true := by simp; omega
    rw [if_neg (by simp; omega)]
    clear HSR
    clear z0 hsl
    have HON : Hid (#[Value.slice (some ⟨cb, co, none⟩) cl cp, .int .i64 words, .int .i64 fuel, .slice (some ⟨rb, 0, none⟩) 16 rc, .int .i64 (p : Int), .int .i64 (q + 1), .int .i64 3, .int .i64 z].all (·.oneCell') = true) := all_oneCell_toArray (cs := [Value.slice (some ⟨cb, co, none⟩) cl cp, .int .i64 words, .int .i64 fuel, .slice (some ⟨rb, 0, none⟩) 16 rc, .int .i64 (p : Int), .int .i64 (q + 1), .int .i64 3, .int .i64 z]) (by intro u hu; simp at hu; rcases hu with rfl | rfl | rfl | rfl | rfl | rfl | rfl | rfl <;> rfl)
    go_enter Try.func13, Try.ntmps13
    go_wp2_with fail
    go_quiet (first | (go_at_call 26; exact Calls.quiet_of_same (HO.out _)))
    go_wp2_with (first | (go_at_call 33; refine (over_any _ _ _ _ _ _ _ _ _ _ _ _ 3 z _).mono ?_; rintro e V ⟨rfl, hb⟩; have HZ : Hid (V.heap[w.heap.size + 1]? = some (.cells mZa 29)) := (hb.block _ (by simp)).trans (three_z w _ _ _); have HB : Hid (Below w.heap.size w V) := (below_drewN (three_b w _ _ _) _).trans (hb.mono (by simp; omega)); clear hb) | (refine wpList_store_row rfl 29 _ _ rfl (w.heap.size + 1) #[Value.slice (some ⟨cb, co, none⟩) cl cp, .int .i64 words, .int .i64 fuel, .slice (some ⟨rb, 0, none⟩) 16 rc, .int .i64 (p : Int), .int .i64 (q + 1), .int .i64 3, .int .i64 z] rfl rfl 29 _ HZ.out size29 rfl HON.out ?_))
    refine bodyPost_ret (ret_m1 Try.results13 _ (w.heap.size + 1) rfl _ _ rfl (setRow_heap _ _ _ _ _ _ HZ.out)) rfl ?_
    exact ⟨_, rfl, (RRg.keep h16 HRM.out rfl HCE.out HB.out).setRow HZ.out _, below_setRow HB.out (by omega) _, Or.inl rfl⟩


set_option maxRecDepth 100000 in
set_option maxHeartbeats 2000000 in
theorem rst_7 (cb co cl cp p : Nat) (op xa xb xc xk got words fuel : Int) (hb : 0 ≤ xb ∧ xb < 16) (hxk : R64 xk) (rv : Value) (s : St) (hl : s.regs.length = 16) (hreg : ∀ r < 16, R64 (rg s r)) (hp : s.pc = p) (h0 : s.over = 0) (hf : ¬ fuel ≤ s.steps) (hs : 0 ≤ s.steps ∧ s.steps < 4000) (hc : cl ≤ 1000) (w : World) (hx : At1 w cb co cl cp p ⟨7, op, xa, xb, xc, xk⟩) (hrv : RRg w rv s) : Calls Try.prog 13 #[mV (.slice (some ⟨cb, co, none⟩) cl cp) rv words fuel s, .int .i64 got] w (RSetP rv (some ⟨cb, co, none⟩) cl cp words fuel (if insideB words (addrS { s with steps := s.steps + 1 } ⟨7, op, xa, xb, xc, xk⟩) then onS { s with steps := s.steps + 1 } else endS { s with steps := s.steps + 1 } 3 (addrS { s with steps := s.steps + 1 } ⟨7, op, xa, xb, xc, xk⟩)) w) := by
  obtain ⟨rb, rc, rfl, h16, hrm, hcells⟩ := hrv
  obtain ⟨⟨i0, i1, i2, i3, i4, i5⟩, hlt, hcap, hmx⟩ := hx
  have HCE : Hid (∀ r, r < 16 → w.cell? ⟨rb, r, none⟩ = some (.int .i64 (rg s r))) := hcells
  have hcl : cb < w.heap.size := World.block_lt_of_cell? w ⟨cb, co + p * 6, none⟩ i0
  have hrl : rb < w.heap.size := World.block_lt_of_cell? w ⟨rb, 0, none⟩ (hcells 0 (by omega))
  dsimp only at i0 i1 i2 i3 i4 i5
  have HRM : Hid (rc ≤ maxLen) := hrm
  unfold maxLen at hrm hmx
  obtain ⟨q, hq⟩ : ∃ q, s.steps = q := ⟨_, rfl⟩
  unfold mV mC
  rw [hp, h0, hq]
  rw [hq] at hf hs
  have hf2 : decide (fuel ≤ q) = false := by simp; omega
  obtain ⟨vl, hvl⟩ : ∃ v, s.value = v := ⟨_, rfl⟩
  rw [hvl]
  have HL : Hid (s.regs.length = 16) := hl
  obtain ⟨n, hn0⟩ : ∃ n : Nat, xb = n := ⟨xb.toNat, by omega⟩
  subst hn0
  have hn : n < 16 := by omega
  have cn := hcells n hn
  have cn3 : ∀ A B C, (((w.alloc A).alloc B).alloc C).cell? ⟨rb, n, none⟩ = w.cell? ⟨rb, n, none⟩ := fun A B C => (three_b w A B C).cell (p := ⟨rb, n, none⟩) hrl
  rw [cn] at cn3
  have HO : Hid (∀ w, Calls Try.prog 26 #[.int .i64 (rg s n), .int .i64 xk] w fun e w' => e = .returned (.int .i64 (addrS s ⟨7, op, xa, (n : Int), xc, xk⟩)) ∧ w' = w) := fun w => by unfold addrS; rw [Int.toNat_natCast]; exact plus_any (rg s n) xk (hreg n hn) hxk w
  have ea : addrS ⟨s.regs, (p : Int), q + 1, 0, vl⟩ ⟨7, op, xa, (n : Int), xc, xk⟩ = addrS s ⟨7, op, xa, (n : Int), xc, xk⟩ := rfl
  rw [ea]
  clear ea
  generalize addrS s ⟨7, op, xa, (n : Int), xc, xk⟩ = z at HO ⊢
  generalize rg s n = gn at cn cn3 HO
  clear hcells hp h0 hq hvl hl hf hreg
  have hsl := HL.out
  unfold insideB
  by_cases z0 : 0 ≤ z
  · by_cases z1 : z < words
    · have d1 : decide (z < 0) = false := by simp; omega
      have d2 : decide (words ≤ z) = false := by simp; omega
      rw [if_pos (by simp; omega)]
      clear z0 z1 hsl
      go_enter Try.func13, Try.ntmps13
      go_wp2_with fail
      go_quiet (first | (go_at_call 26; exact Calls.quiet_of_same (HO.out _)))
      obtain ⟨W, hW⟩ : ∃ W, (((w.alloc (.cells #[Value.slice (some ⟨cb, co, none⟩) cl cp, .int .i64 words, .int .i64 fuel, .slice (some ⟨rb, 0, none⟩) 16 rc, .int .i64 (p : Int), .int .i64 (q + 1), .int .i64 0, .int .i64 vl] 29)).alloc (.cells #[Value.slice none 0 0, Value.int .i64 0, Value.int .i64 0, Value.slice none 0 0, Value.int .i64 0, Value.int .i64 0, Value.int .i64 0, Value.int .i64 0] 29)).alloc (.cells #[Value.int .i64 7, .int .i64 op, .int .i64 xa, .int .i64 (n : Int), .int .i64 xc, .int .i64 xk] 76)).drewN nq = W := ⟨_, rfl⟩
      have HBW : Hid (Below w.heap.size w W) := by show Below _ _ _; rw [← hW]; exact below_drewN (three_b w _ _ _) _
      have hM : W.heap[w.heap.size]? = some (.cells #[Value.slice (some ⟨cb, co, none⟩) cl cp, .int .i64 words, .int .i64 fuel, .slice (some ⟨rb, 0, none⟩) 16 rc, .int .i64 (p : Int), .int .i64 (q + 1), .int .i64 0, .int .i64 vl] 29) := by rw [← hW]; exact three_m w _ _ _
      have HZW : Hid (W.heap[w.heap.size + 1]? = some (.cells mZa 29)) := by show _ = _; rw [← hW]; exact three_z w _ _ _
      have hXW : W.heap[w.heap.size + 1 + 1]? = some (.cells #[Value.int .i64 7, .int .i64 op, .int .i64 xa, .int .i64 (n : Int), .int .i64 xc, .int .i64 xk] 76) := by rw [← hW]; exact three_x w _ _ _
      have x0 : W.cell? ⟨w.heap.size + 1 + 1, 0, none⟩ = some (.int .i64 7) := (cell_of_row W _ 0 _ _ _ hXW).trans rfl
      rw [hW]
      clear hW hXW
      have m0 : W.cell? ⟨w.heap.size, 0, none⟩ = some (.slice (some ⟨cb, co, none⟩) cl cp) := (cell_of_row W _ 0 _ _ _ hM).trans rfl
      have m1 : W.cell? ⟨w.heap.size, 1, none⟩ = some (.int .i64 words) := (cell_of_row W _ 1 _ _ _ hM).trans rfl
      have m2 : W.cell? ⟨w.heap.size, 2, none⟩ = some (.int .i64 fuel) := (cell_of_row W _ 2 _ _ _ hM).trans rfl
      have m3 : W.cell? ⟨w.heap.size, 3, none⟩ = some (.slice (some ⟨rb, 0, none⟩) 16 rc) := (cell_of_row W _ 3 _ _ _ hM).trans rfl
      have m4 : W.cell? ⟨w.heap.size, 4, none⟩ = some (.int .i64 (p : Int)) := (cell_of_row W _ 4 _ _ _ hM).trans rfl
      have m5 : W.cell? ⟨w.heap.size, 5, none⟩ = some (.int .i64 (q + 1)) := (cell_of_row W _ 5 _ _ _ hM).trans rfl
      have m6 : W.cell? ⟨w.heap.size, 6, none⟩ = some (.int .i64 0) := (cell_of_row W _ 6 _ _ _ hM).trans rfl
      have m7 : W.cell? ⟨w.heap.size, 7, none⟩ = some (.int .i64 vl) := (cell_of_row W _ 7 _ _ _ hM).trans rfl
      have f4 : W.frozen? ⟨w.heap.size, 4, none⟩ = false := frozen_of_row W _ 4 _ _ hM
      have HZ6 : Hid (∀ a, (W.setCell ⟨w.heap.size, 4, none⟩ a).heap[w.heap.size + 1]? = some (.cells mZa 29)) := fun a => (Below.heap_setCell _ _ _ _ (by show w.heap.size + 1 ≠ w.heap.size; omega)).trans HZW.out
      have HON : Hid (#[Value.slice (some ⟨cb, co, none⟩) cl cp, .int .i64 words, .int .i64 fuel, .slice (some ⟨rb, 0, none⟩) 16 rc, .int .i64 ((p : Int) + 1), .int .i64 (q + 1), .int .i64 0, .int .i64 vl].all (·.oneCell') = true) := all_oneCell_toArray (cs := [Value.slice (some ⟨cb, co, none⟩) cl cp, .int .i64 words, .int .i64 fuel, .slice (some ⟨rb, 0, none⟩) 16 rc, .int .i64 ((p : Int) + 1), .int .i64 (q + 1), .int .i64 0, .int .i64 vl]) (by intro u hu; simp at hu; rcases hu with rfl | rfl | rfl | rfl | rfl | rfl | rfl | rfl <;> rfl)
      clear hM
      go_wp2_with (refine wpList_store_row rfl 29 _ _ rfl (w.heap.size + 1) #[Value.slice (some ⟨cb, co, none⟩) cl cp, .int .i64 words, .int .i64 fuel, .slice (some ⟨rb, 0, none⟩) 16 rc, .int .i64 ((p : Int) + 1), .int .i64 (q + 1), .int .i64 0, .int .i64 vl] rfl rfl 29 _ (HZ6.out _) size29 rfl HON.out ?_)
      refine bodyPost_ret (ret_m1 Try.results13 _ (w.heap.size + 1) rfl _ _ rfl (setRow_heap _ _ _ _ _ _ (HZ6.out _))) rfl ?_
      exact ⟨_, rfl, (RRg.keep h16 HRM.out rfl HCE.out (below_set HBW.out (Nat.le_refl _))).setRow (HZ6.out _) _, below_setRow (below_set HBW.out (Nat.le_refl _)) (by omega) _, Or.inl rfl⟩
    · have d1 : decide (z < 0) = false := by simp; omega
      have d2 : decide (words ≤ z) = true := by simp; omega
      rw [if_neg (by simp; omega)]
      clear z0 z1 hsl
      have HON : Hid (#[Value.slice (some ⟨cb, co, none⟩) cl cp, .int .i64 words, .int .i64 fuel, .slice (some ⟨rb, 0, none⟩) 16 rc, .int .i64 (p : Int), .int .i64 (q + 1), .int .i64 3, .int .i64 z].all (·.oneCell') = true) := all_oneCell_toArray (cs := [Value.slice (some ⟨cb, co, none⟩) cl cp, .int .i64 words, .int .i64 fuel, .slice (some ⟨rb, 0, none⟩) 16 rc, .int .i64 (p : Int), .int .i64 (q + 1), .int .i64 3, .int .i64 z]) (by intro u hu; simp at hu; rcases hu with rfl | rfl | rfl | rfl | rfl | rfl | rfl | rfl <;> rfl)
      go_enter Try.func13, Try.ntmps13
      go_wp2_with fail
      go_quiet (first | (go_at_call 26; exact Calls.quiet_of_same (HO.out _)))
      go_wp2_with (first | (go_at_call 33; refine (over_any _ _ _ _ _ _ _ _ _ _ _ _ 3 z _).mono ?_; rintro e V ⟨rfl, hb⟩; have HZ : Hid (V.heap[w.heap.size + 1]? = some (.cells mZa 29)) := (hb.block _ (by simp)).trans (three_z w _ _ _); have HB : Hid (Below w.heap.size w V) := (below_drewN (three_b w _ _ _) _).trans (hb.mono (by simp; omega)); clear hb) | (refine wpList_store_row rfl 29 _ _ rfl (w.heap.size + 1) #[Value.slice (some ⟨cb, co, none⟩) cl cp, .int .i64 words, .int .i64 fuel, .slice (some ⟨rb, 0, none⟩) 16 rc, .int .i64 (p : Int), .int .i64 (q + 1), .int .i64 3, .int .i64 z] rfl rfl 29 _ HZ.out size29 rfl HON.out ?_))
      refine bodyPost_ret (ret_m1 Try.results13 _ (w.heap.size + 1) rfl _ _ rfl (setRow_heap _ _ _ _ _ _ HZ.out)) rfl ?_
      exact ⟨_, rfl, (RRg.keep h16 HRM.out rfl HCE.out HB.out).setRow HZ.out _, below_setRow HB.out (by omega) _, Or.inl rfl⟩
  · have d1 : decide (z < 0) = true := by simp; omega
    rw [if_neg (by simp; omega)]
    clear z0 hsl
    have HON : Hid (#[Value.slice (some ⟨cb, co, none⟩) cl cp, .int .i64 words, .int .i64 fuel, .slice (some ⟨rb, 0, none⟩) 16 rc, .int .i64 (p : Int), .int .i64 (q + 1), .int .i64 3, .int .i64 z].all (·.oneCell') = true) := all_oneCell_toArray (cs := [Value.slice (some ⟨cb, co, none⟩) cl cp, .int .i64 words, .int .i64 fuel, .slice (some ⟨rb, 0, none⟩) 16 rc, .int .i64 (p : Int), .int .i64 (q + 1), .int .i64 3, .int .i64 z]) (by intro u hu; simp at hu; rcases hu with rfl | rfl | rfl | rfl | rfl | rfl | rfl | rfl <;> rfl)
    go_enter Try.func13, Try.ntmps13
    go_wp2_with fail
    go_quiet (first | (go_at_call 26; exact Calls.quiet_of_same (HO.out _)))
    go_wp2_with (first | (go_at_call 33; refine (over_any _ _ _ _ _ _ _ _ _ _ _ _ 3 z _).mono ?_; rintro e V ⟨rfl, hb⟩; have HZ : Hid (V.heap[w.heap.size + 1]? = some (.cells mZa 29)) := (hb.block _ (by simp)).trans (three_z w _ _ _); have HB : Hid (Below w.heap.size w V) := (below_drewN (three_b w _ _ _) _).trans (hb.mono (by simp; omega)); clear hb) | (refine wpList_store_row rfl 29 _ _ rfl (w.heap.size + 1) #[Value.slice (some ⟨cb, co, none⟩) cl cp, .int .i64 words, .int .i64 fuel, .slice (some ⟨rb, 0, none⟩) 16 rc, .int .i64 (p : Int), .int .i64 (q + 1), .int .i64 3, .int .i64 z] rfl rfl 29 _ HZ.out size29 rfl HON.out ?_))
    refine bodyPost_ret (ret_m1 Try.results13 _ (w.heap.size + 1) rfl _ _ rfl (setRow_heap _ _ _ _ _ _ HZ.out)) rfl ?_
    exact ⟨_, rfl, (RRg.keep h16 HRM.out rfl HCE.out HB.out).setRow HZ.out _, below_setRow HB.out (by omega) _, Or.inl rfl⟩

end Go.Proofs.Ytkcncngcmhldpaa
