/- The document's step: its smaller calls. -/
import Derived.Test.YtkcncngcmhldpaaPly
import Derived.Test.YtkcncngcmhldpaaRNew
namespace Go.Proofs.Ytkcncngcmhldpaa
open Go.RowKit Go.Maps
set_option linter.unusedVariables false

theorem ret_m1 {fn : Func} {q : Nat} (h : fn.results = #[.cell q 29]) (tmps : Array Value) (g : Nat) (hb : tmps.getD q undef = .pointer (some ⟨g, 0, none⟩)) (W : World) (cs : Array Value) (hl : cs.size = 8) (hg : W.heap[g]? = some (.cells cs 29)) :
    (results fn tmps).run Try.prog W = .ok (.agg cs) W := results_cell_row h tmps W g 29 cs _ _ hb hg Try.underlying29 rfl (by rw [hl]; exact size29)

theorem two_new (w : World) (A B : Obj) : ((w.alloc A).alloc B).heap[w.heap.size + 1]? = some B := by
  have := heap_alloc_new (w.alloc A) B
  rw [show (w.alloc A).heap.size = w.heap.size + 1 by simp] at this
  exact this

set_option maxHeartbeats 1000000 in
theorem plus_any (a b : Int) (ha : R64 a) (hb : R64 b) (w : World) : Calls Try.prog 26 #[.int .i64 a, .int .i64 b] w fun e w' => e = .returned (.int .i64 (wrap64 (a + b))) ∧ w' = w := by
  have H : Hid (∀ w, Calls Try.prog 36 #[.int .i64 1, .int .i64 a, .int .i64 b] w fun e w' => e = .returned (.tuple #[.int .i64 (wrap64 (a + b)), .bool true]) ∧ w' = w) := (both_1 a b ha hb).2
  generalize wrap64 (a + b) = z at H ⊢
  go_enter Try.func26, Try.ntmps26
  go_wp2_with (go_at_call 36; refine (H.out _).mono ?_; rintro e w' ⟨rfl, rfl⟩)
  go_ret
  exact ⟨rfl, rfl⟩

set_option maxRecDepth 100000 in
set_option maxHeartbeats 1000000 in
theorem over_any (ad ra : Option Addr) (cl cp rl rc : Nat) (words fuel pc steps ov vl h v : Int) (w : World) : Calls Try.prog 33 #[.agg #[.slice ad cl cp, .int .i64 words, .int .i64 fuel, .slice ra rl rc, .int .i64 pc, .int .i64 steps, .int .i64 ov, .int .i64 vl], .int .i64 h, .int .i64 v] w fun e w' => e = .returned (.agg #[.slice ad cl cp, .int .i64 words, .int .i64 fuel, .slice ra rl rc, .int .i64 pc, .int .i64 steps, .int .i64 h, .int .i64 v]) ∧ Below w.heap.size w w' := by
  go_enter Try.func33, Try.ntmps33
  go_wp2
  refine bodyPost_ret (ret_m1 Try.results33 _ (w.heap.size + 1) rfl _ _ rfl (two_new w _ _)) rfl ?_
  exact ⟨rfl, ((Below.refl _ _).alloc (Nat.le_refl _) _).alloc (by simp) _⟩

theorem below_set {B b i : Nat} {w W : World} {v : Value} (h : Below B w W) (hb : B ≤ b) : Below B w (W.setCell ⟨b, i, none⟩ v) :=
  ⟨h.os, h.tape, h.output, by simpa [World.setCell] using h.size, fun k hk => (Below.heap_setCell _ _ _ _ (by show k ≠ b; omega)).trans (h.block k hk)⟩
/-- what set leaves -/
def NewR (w : World) (rv0 rv : Value) : Prop := rv = rv0 ∨ ∃ g c, rv = .slice (some ⟨g, 0, none⟩) 16 c ∧ w.heap.size ≤ g
theorem NewR.mono {w V : World} {rv0 rv : Value} (h : NewR V rv0 rv) (hs : w.heap.size ≤ V.heap.size) : NewR w rv0 rv := by
  rcases h with h | ⟨g, c, h1, h2⟩
  · exact Or.inl h
  · exact Or.inr ⟨g, c, h1, Nat.le_trans hs h2⟩
def RSetP (rv0 : Value) (ad : Option Addr) (cl cp : Nat) (words fuel : Int) (s' : St) (w : World) (e : Ending) (w' : World) : Prop := ∃ rv, e = .returned (mV (.slice ad cl cp) rv words fuel s') ∧ RRg w' rv s' ∧ Below w.heap.size w w' ∧ NewR w rv0 rv

set_option maxRecDepth 100000 in
set_option maxHeartbeats 2000000 in
theorem rset_any (ad : Option Addr) (cl cp : Nat) (words fuel : Int) (rv : Value) (s : St) (hl : s.regs.length = 16) (r v : Int) (hr : 0 ≤ r ∧ r < 16) (hp : 0 ≤ s.pc ∧ s.pc < 1000) (w : World) (hrv : RRg w rv s) : Calls Try.prog 34 #[mV (.slice ad cl cp) rv words fuel s, .int .i64 r, .int .i64 v] w (RSetP rv ad cl cp words fuel (giveS s r v) w) := by
  obtain ⟨i0, hi, hz0, hz1, hz2⟩ := info_parts info2
  obtain ⟨rb, rc, rfl, h16, hrm, hcells⟩ := hrv
  obtain ⟨q, rfl⟩ : ∃ q : Nat, r = q := ⟨r.toNat, by omega⟩
  have hq : q < 16 := by omega
  have HC : Hid (∀ j, j < 16 → w.cell? ⟨rb, j, none⟩ = some (.int .i64 (rg s j))) := hcells
  obtain ⟨R, hR⟩ : ∃ R, s.regs.map (Value.int .i64) = R := ⟨_, rfl⟩
  have HRL : Hid (R.length = 16) := by show _ = _; rw [← hR]; simpa using hl
  have HRg : Hid (∀ j, j < 16 → R[j]? = some (.int .i64 (rg s j))) := fun j hj => by
    rw [← hR]
    have : j < s.regs.length := by omega
    simp [rg, List.getD, this]
  have HRO : Hid (∀ u ∈ R, u.oneCell' = true) := by rw [← hR]; intro u hu; obtain ⟨x, _, rfl⟩ := List.mem_map.1 hu; rfl
  have HGS : Hid (∀ j, rg (giveS s (q : Int) v) j = if j = q then v else rg s j) := fun j => by
    unfold giveS; rw [Int.toNat_natCast]; exact rg_set s q v j _ hl hq
  have HP : Hid ((giveS s (q : Int) v).pc = s.pc + 1 ∧ (giveS s (q : Int) v).steps = s.steps ∧ (giveS s (q : Int) v).over = s.over ∧ (giveS s (q : Int) v).value = s.value) := ⟨rfl, rfl, rfl, rfl⟩
  generalize giveS s (q : Int) v = s' at HGS HP ⊢
  unfold mV mC
  generalize s.pc = pc at hp HP ⊢
  generalize s.steps = st at HP ⊢
  generalize s.over = ov at HP ⊢
  generalize s.value = vl at HP ⊢
  clear hR hcells hl
  go_enter Try.func34, Try.ntmps34
  go_wp2_with (at_builtin; refine wpList_append_own_at _ rfl _ _ 25 rfl (w.heap.size + 1 + 1) 2 i0 (.int .i64 0) 1 8 Try.underlying25 hi hz0 hz1 hz2 rfl (by decide) _ 0 [] rfl ?d0 ⟨rb, 0, none⟩ 16 rc R rfl ?dl ?d1 HRO.out ?d3 ?d4 ?d5 ?_)
  case d0 => exact ⟨rfl, Or.inr ⟨w.heap.size + 1 + 1, 0, #[], rfl, Nat.le_refl _, by have := heap_alloc_new ((w.alloc (Obj.cells #[Value.slice ad cl cp, Value.int .i64 words, Value.int .i64 fuel, Value.slice (some ⟨rb, 0, none⟩) 16 rc, Value.int .i64 pc, Value.int .i64 st, Value.int .i64 ov, Value.int .i64 vl] 29)).alloc (Obj.cells mZa 29)) (Obj.cells #[] 2); rw [show ((w.alloc (Obj.cells #[Value.slice ad cl cp, Value.int .i64 words, Value.int .i64 fuel, Value.slice (some ⟨rb, 0, none⟩) 16 rc, Value.int .i64 pc, Value.int .i64 st, Value.int .i64 ov, Value.int .i64 vl] 29)).alloc (Obj.cells mZa 29)).heap.size = w.heap.size + 1 + 1 by simp] at this; exact this, Nat.le_refl _, by unfold maxLen; omega, rfl, rfl⟩⟩
  case dl => rw [HRL.out]
  case d1 =>
    intro j u hj
    have hj16 : j < 16 := by rw [← HRL.out]; exact (List.getElem?_eq_some_iff.1 hj).1
    rw [HRg.out j hj16] at hj
    rw [addn, Nat.zero_add]
    have hlt : rb < w.heap.size := World.block_lt_of_cell? w ⟨rb, j, none⟩ (HC.out j hj16)
    exact (World.cell?_of_block (w := w) (a := ⟨rb, j, none⟩) ((Below.heap_alloc _ _ _ (by simp; omega)).trans ((Below.heap_alloc _ _ _ (by simp; omega)).trans (Below.heap_alloc _ _ _ hlt)))).trans ((HC.out j hj16).trans hj)
  case d3 => unfold maxLen; omega
  case d4 => omega
  case d5 => simp
  intro v' w5 hown hg _ _
  have hce := fun g => World.ownsRow.cells hown (g := g)
  obtain ⟨_, h6⟩ := hown
  rcases h6 with ⟨_, h6⟩ | ⟨g, c', cur, rfl, e2, e3, e4, e5, e6, e7⟩
  · omega
  have hX5 : w5.heap[w.heap.size]? = some (.cells #[Value.slice ad cl cp, Value.int .i64 words, Value.int .i64 fuel, Value.slice (some ⟨rb, 0, none⟩) 16 rc, Value.int .i64 pc, Value.int .i64 st, Value.int .i64 ov, Value.int .i64 vl] 29) := (hg.block _ (by simp <;> omega) (by intro e; injection e with e; have e2 : _ = w.heap.size + 1 + 1 := e; omega)).trans ((Below.heap_alloc _ _ _ (by simp <;> omega)).trans ((Below.heap_alloc _ _ _ (by simp)).trans (heap_alloc_new w _)))
  have hZ5 : w5.heap[w.heap.size + 1]? = some (.cells mZa 29) := (hg.block _ (by simp) (by intro e; injection e with e; have e2 : _ = w.heap.size + 1 + 1 := e; omega)).trans ((Below.heap_alloc _ _ _ (by simp)).trans (two_new w _ _))
  have HB5 : Hid (Below w.heap.size w w5) := ⟨hg.os, hg.tape, hg.output, Nat.le_trans (by simp <;> omega) hg.size, fun k hk => (hg.block k (by simp <;> omega) (by intro e; injection e with e; have e2 : _ = w.heap.size + 1 + 1 := e; omega)).trans ((Below.heap_alloc _ _ _ (by simp <;> omega)).trans ((Below.heap_alloc _ _ _ (by simp <;> omega)).trans (Below.heap_alloc _ _ _ hk)))⟩
  have HR5 : Hid (∀ j, j < 16 → w5.cell? ⟨g, j, none⟩ = some (.int .i64 (rg s j))) := fun j hj => by
    have := hce g rfl j _ (HRg.out j hj)
    rw [addn, Nat.zero_add] at this
    exact this
  have hfz : ∀ j, w5.frozen? ⟨g, j, none⟩ = false := fun j => frozen_of_row w5 g j _ _ e3
  have hgq : w5.cell? ⟨g, q, none⟩ = some (.int .i64 (rg s q)) := HR5.out q hq
  have hg1 : g ≠ w.heap.size := by omega
  have hg1' : w.heap.size ≠ g := by omega
  have hg2' : w.heap.size + 1 ≠ g := by omega
  have hg2 : g ≠ w.heap.size + 1 := by omega
  have h12 : w.heap.size ≠ w.heap.size + 1 := by omega
  have m0 : w5.cell? ⟨w.heap.size, 0, none⟩ = some (.slice ad cl cp) := (cell_of_row w5 _ 0 _ _ _ hX5).trans rfl
  have m1 : w5.cell? ⟨w.heap.size, 1, none⟩ = some (.int .i64 words) := (cell_of_row w5 _ 1 _ _ _ hX5).trans rfl
  have m2 : w5.cell? ⟨w.heap.size, 2, none⟩ = some (.int .i64 fuel) := (cell_of_row w5 _ 2 _ _ _ hX5).trans rfl
  have m3 : w5.cell? ⟨w.heap.size, 3, none⟩ = some (.slice (some ⟨rb, 0, none⟩) 16 rc) := (cell_of_row w5 _ 3 _ _ _ hX5).trans rfl
  have m4 : w5.cell? ⟨w.heap.size, 4, none⟩ = some (.int .i64 pc) := (cell_of_row w5 _ 4 _ _ _ hX5).trans rfl
  have m5 : w5.cell? ⟨w.heap.size, 5, none⟩ = some (.int .i64 st) := (cell_of_row w5 _ 5 _ _ _ hX5).trans rfl
  have m6 : w5.cell? ⟨w.heap.size, 6, none⟩ = some (.int .i64 ov) := (cell_of_row w5 _ 6 _ _ _ hX5).trans rfl
  have m7 : w5.cell? ⟨w.heap.size, 7, none⟩ = some (.int .i64 vl) := (cell_of_row w5 _ 7 _ _ _ hX5).trans rfl
  have f3 : w5.frozen? ⟨w.heap.size, 3, none⟩ = false := frozen_of_row w5 _ 3 _ _ hX5
  have f4 : w5.frozen? ⟨w.heap.size, 4, none⟩ = false := frozen_of_row w5 _ 4 _ _ hX5
  have HZ6 : Hid (∀ a b c, (((w5.setCell ⟨w.heap.size, 3, none⟩ a).setCell ⟨g, q, none⟩ b).setCell ⟨w.heap.size, 4, none⟩ c).heap[w.heap.size + 1]? = some (.cells mZa 29)) := fun a b c => (Below.heap_setCell _ _ _ _ (by show w.heap.size + 1 ≠ w.heap.size; omega)).trans ((Below.heap_setCell _ _ _ _ (by show w.heap.size + 1 ≠ g; omega)).trans ((Below.heap_setCell _ _ _ _ (by show w.heap.size + 1 ≠ w.heap.size; omega)).trans hZ5))
  have HON : Hid (#[Value.slice ad cl cp, Value.int .i64 words, Value.int .i64 fuel, Value.slice (some ⟨g, 0, none⟩) 16 c', Value.int .i64 (pc + 1), Value.int .i64 st, Value.int .i64 ov, Value.int .i64 vl].all (·.oneCell') = true) := all_oneCell_toArray (cs := [Value.slice ad cl cp, Value.int .i64 words, Value.int .i64 fuel, Value.slice (some ⟨g, 0, none⟩) 16 c', Value.int .i64 (pc + 1), Value.int .i64 st, Value.int .i64 ov, Value.int .i64 vl]) (by intro u hu; simp at hu; rcases hu with rfl | rfl | rfl | rfl | rfl | rfl | rfl | rfl <;> rfl)
  have hmx : 16 ≤ c' ∧ c' ≤ maxLen := ⟨e4, e5⟩
  clear hce hg e3 e6 e7 hX5 hZ5 e5
  go_upto_region 4 with fail
  go_wp2_with (refine wpList_store_row rfl 29 _ _ rfl (w.heap.size + 1) #[Value.slice ad cl cp, Value.int .i64 words, Value.int .i64 fuel, Value.slice (some ⟨g, 0, none⟩) 16 c', Value.int .i64 (pc + 1), Value.int .i64 st, Value.int .i64 ov, Value.int .i64 vl] rfl rfl 29 _ (HZ6.out _ _ _) size29 rfl HON.out ?_)
  refine bodyPost_ret (ret_m1 Try.results34 _ (w.heap.size + 1) rfl _ _ rfl (setRow_heap _ _ _ _ _ _ (HZ6.out _ _ _))) rfl ?_
  refine ⟨.slice (some ⟨g, 0, none⟩) 16 c', ?_, ⟨g, c', rfl, hmx.1, hmx.2, fun r hr => ?_⟩, below_setRow (below_set (below_set (below_set HB5.out (Nat.le_refl _)) (by omega)) (Nat.le_refl _)) (by omega) _, Or.inr ⟨g, c', rfl, by omega⟩⟩
  · unfold mV mC
    rw [HP.out.1, HP.out.2.1, HP.out.2.2.1, HP.out.2.2.2]
  · rw [HGS.out r, cell_setRow_other _ _ _ _ (by show g ≠ w.heap.size + 1; omega), World.cell?_setCell_other _ _ _ _ (by intro e; cases e; exact hg1 rfl)]
    by_cases e : r = q
    · subst e
      rw [if_pos rfl]
      exact World.cell?_setCell_same _ _ _ ((World.cell?_setCell_other w5 ⟨w.heap.size, 3, none⟩ ⟨g, r, none⟩ _ (by intro e; cases e; exact hg1 rfl)).trans (HR5.out r hq))
    · rw [if_neg e, World.cell?_setCell_other _ _ _ _ (by intro h; cases h; exact e rfl), World.cell?_setCell_other _ _ _ _ (by intro e; cases e; exact hg1 rfl)]
      exact HR5.out r hr
end Go.Proofs.Ytkcncngcmhldpaa
