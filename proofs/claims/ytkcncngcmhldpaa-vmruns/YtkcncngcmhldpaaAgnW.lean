/- VmAgain: the walk. -/
import Derived.Test.YtkcncngcmhldpaaPld
import Derived.Test.YtkcncngcmhldpaaSetsW
namespace Go.Proofs.Ytkcncngcmhldpaa
open Go.RowKit Go.Maps
set_option linter.unusedVariables false
attribute [local go_sem ↓] ld45_hold

theorem do_over (words : Int) (x : In) (got : Int) (s : St) (h : 0 ≤ s.over ∧ s.over ≤ 5) : 0 ≤ (doS words x got s).over ∧ (doS words x got s).over ≤ 5 := by
  have hj : ∀ k b, (jumpS s k b).over = s.over := fun k b => by unfold jumpS onS; cases b <;> rfl
  unfold doS
  by_cases k1 : x.kind = 1
  · rw [if_pos k1]; show (0 : Int) ≤ 1 ∧ (1 : Int) ≤ 5; decide
  rw [if_neg k1]
  by_cases k2 : x.kind = 2
  · rw [if_pos k2]; exact h
  rw [if_neg k2]
  by_cases k3 : x.kind = 3
  · rw [if_pos k3]; exact h
  rw [if_neg k3]
  by_cases k4 : x.kind = 4
  · rw [if_pos k4]; exact h
  rw [if_neg k4]
  by_cases k5 : x.kind = 5
  · rw [if_pos k5]
    split
    · exact h
    · show (0 : Int) ≤ 2 ∧ (2 : Int) ≤ 5; decide
  rw [if_neg k5]
  by_cases k6 : x.kind = 6
  · rw [if_pos k6]
    split
    · exact h
    · show (0 : Int) ≤ 3 ∧ (3 : Int) ≤ 5; decide
  rw [if_neg k6]
  by_cases k7 : x.kind = 7
  · rw [if_pos k7]
    split
    · exact h
    · show (0 : Int) ≤ 3 ∧ (3 : Int) ≤ 5; decide
  rw [if_neg k7]
  by_cases k8 : x.kind = 8
  · rw [if_pos k8]; exact h
  rw [if_neg k8]
  by_cases k9 : x.kind = 9
  · rw [if_pos k9]; exact h
  rw [if_neg k9]
  by_cases k10 : x.kind = 10
  · rw [if_pos k10, hj]; exact h
  rw [if_neg k10]
  by_cases k11 : x.kind = 11
  · rw [if_pos k11, hj]; exact h
  rw [if_neg k11]
  by_cases k12 : x.kind = 12
  · rw [if_pos k12, hj]; exact h
  rw [if_neg k12]
  by_cases k13 : x.kind = 13
  · rw [if_pos k13]; show (0 : Int) ≤ 4 ∧ (4 : Int) ≤ 5; decide
  rw [if_neg k13]
  exact h
theorem step_over (C : List In) (words fuel : Int) (s : St) (got : Int) (h : 0 ≤ s.over ∧ s.over ≤ 5) : 0 ≤ (stepS C words fuel s got).over ∧ (stepS C words fuel s got).over ≤ 5 := by
  unfold stepS
  split
  · exact h
  split
  · show (0 : Int) ≤ 5 ∧ (5 : Int) ≤ 5; decide
  · exact do_over _ _ _ _ h
theorem play_over (C : List In) (words fuel : Int) (G : List Int) : ∀ (k i : Nat) (s : St), 0 ≤ s.over ∧ s.over ≤ 5 → 0 ≤ (playS C words fuel G k i s).over ∧ (playS C words fuel G k i s).over ≤ 5
  | 0, _, s, h => h
  | k + 1, i, s, h => play_over C words fuel G k (i + 1) _ (step_over _ _ _ _ _ h)
theorem st0_ok {C : List In} {words fuel n i k : Int} (hC : Good C) (hf : 1 ≤ fuel ∧ fuel ≤ 4000) (hn : R64 n) (hi : R64 i) (hk : R64 k) : Ok C fuel (St0 n i k) := by
  refine ⟨fun r hr => ?_, by have := hC.len; show (0 : Int) ≤ 0 ∧ (0 : Int) < C.length; omega, by show (0 : Int) ≤ 0 ∧ (0 : Int) ≤ fuel; omega, hf.2⟩
  match r, hr with
  | 0, _ => exact hn
  | 1, _ => exact hi
  | 2, _ => exact hk
  | 3, _ => exact zero_bd
  | 4, _ => exact zero_bd
  | 5, _ => exact zero_bd
  | 6, _ => exact zero_bd
  | 7, _ => exact zero_bd
  | 8, _ => exact zero_bd
  | 9, _ => exact zero_bd
  | 10, _ => exact zero_bd
  | 11, _ => exact zero_bd
  | 12, _ => exact zero_bd
  | 13, _ => exact zero_bd
  | 14, _ => exact zero_bd
  | 15, _ => exact zero_bd
  | j + 16, h => exact absurd h (by omega)
theorem may_ok {C : List In} {m : Fx} {s : St} (ho : Ok C m.fuel s) (hv : 0 ≤ s.over ∧ s.over ≤ 5) : mayS m C.length s = true := by
  have h1 := ho.pc
  have h2 := ho.steps
  unfold mayS
  simp
  omega
theorem blk_ch {vb b : Nat} {W W' : World} {X : Obj} (h : W.heap[b]? = some X) (hb : b ≠ vb) (hc : Ch vb W W') : W'.heap[b]? = some X := (hc.block b (Array.getElem?_eq_some_iff.1 h).1 hb).trans h
theorem blk_be {b : Nat} {W W' : World} {X : Obj} (h : W.heap[b]? = some X) (hb : Below W.heap.size W W') : W'.heap[b]? = some X := (hb.block b (Array.getElem?_eq_some_iff.1 h).1).trans h
/-- a state laid into a block of its own -/
def laid (W : World) (z : Obj) (s : St) : World := (W.alloc z).setRow W.heap.size (stC s).toArray
theorem laid_row (W : World) (z : Array Value) (s : St) : (laid W (.cells z 45) s).heap[W.heap.size]? = some (.cells (stC s).toArray 45) := setRow_heap _ _ _ _ _ _ (heap_alloc_new W _)
theorem laid_old {W : World} {z : Obj} {s : St} {b : Nat} {X : Obj} (h : W.heap[b]? = some X) : (laid W z s).heap[b]? = some X := by
  have hl := (Array.getElem?_eq_some_iff.1 h).1
  exact (setRow_other _ _ _ _ (by omega)).trans ((Below.heap_alloc _ _ _ hl).trans h)
theorem laid_below (W : World) (z : Obj) (s : St) : Below W.heap.size W (laid W z s) := below_setRow ((Below.refl _ _).alloc (Nat.le_refl _) _) (Nat.le_refl _) _

theorem tmod_in (a b : Int) (hb : 0 < b) : -b < a.tmod b ∧ a.tmod b < b := by
  have := (div_facts a b (by omega)).2.2
  omega
/-- a play as a value -/
def plV (v : Value) (cells words fuel n i k : Int) (gv : Value) (steps cut : Int) : Value := .agg #[v, .int .i64 cells, .int .i64 words, .int .i64 fuel, .int .i64 n, .int .i64 i, .int .i64 k, gv, .int .i64 steps, .int .i64 cut]

set_option maxRecDepth 100000 in
set_option maxHeartbeats 4000000 in
theorem again_walk (C : List In) (v gv : Value) (G : List Int) (cells words fuel n i k steps cut : Int) (hn : R64 n) (hi : R64 i) (hk : R64 k) (hR : ∀ x ∈ C, R64 x.k) (hG : ∀ x ∈ G, R64 x) (w : World) (hv : ISl w v C) (hgv : GSl w gv G) : Calls Try.prog 5 #[plV v cells words fuel n i k gv steps cut] w (TrueP w) := by
  have HN : Hid (∀ W, Below w.heap.size w W → Calls Try.prog 21 #[v, .int .i64 cells, .int .i64 words, .int .i64 fuel, .int .i64 n, .int .i64 i, .int .i64 k] W (NewP C cells words fuel n i k W)) := fun W hb => new_any C v cells words fuel n i k W (hv.below hb)
  have HGV : Hid (GSl w gv G) := hgv
  obtain ⟨ad, cp, vb0, vo0, rfl, hv2, hv3, _⟩ := hv
  obtain ⟨gad, gcp, gb0, go0, rfl, _, hg3, _⟩ := hgv
  obtain ⟨cl, hcl⟩ : ∃ cl, C.length = cl := ⟨_, rfl⟩
  have HCL : Hid (C.length = cl) := hcl
  obtain ⟨gl, hgl⟩ : ∃ gl, G.length = gl := ⟨_, rfl⟩
  rw [hcl] at HN hv2 ⊢
  rw [hgl] at HGV ⊢
  unfold maxLen at hv3
  unfold plV
  clear hcl hgl
  go_enter Try.func5, Try.ntmps5
  go_wp2_with fail
  go_region_held3 (fun w' => w'.cell? ⟨w.heap.size, 0, none⟩ = some (.slice ad cl cp) ∧ w'.cell? ⟨w.heap.size, 1, none⟩ = some (.int .i64 cells) ∧ w'.cell? ⟨w.heap.size, 2, none⟩ = some (.int .i64 words) ∧ w'.cell? ⟨w.heap.size, 3, none⟩ = some (.int .i64 fuel) ∧ w'.cell? ⟨w.heap.size, 4, none⟩ = some (.int .i64 n) ∧ w'.cell? ⟨w.heap.size, 5, none⟩ = some (.int .i64 i) ∧ w'.cell? ⟨w.heap.size, 6, none⟩ = some (.int .i64 k) ∧ w'.cell? ⟨w.heap.size, 7, none⟩ = some (.slice gad gl gcp) ∧ w'.cell? ⟨w.heap.size, 8, none⟩ = some (.int .i64 steps) ∧ w'.cell? ⟨w.heap.size, 9, none⟩ = some (.int .i64 cut)) (go_keep) (fail)
  obtain ⟨W1, hW1⟩ : ∃ W1, ((w.alloc (Obj.cells #[Value.slice ad cl cp, .int .i64 cells, .int .i64 words, .int .i64 fuel, .int .i64 n, .int .i64 i, .int .i64 k, .slice gad gl gcp, .int .i64 steps, .int .i64 cut] 64)).alloc (Obj.cells #[Value.slice ad cl cp, .int .i64 cells, .int .i64 words, .int .i64 fuel, .int .i64 n, .int .i64 i, .int .i64 k] 24)).drew = W1 := ⟨_, rfl⟩
  have HB1 : Hid (Below w.heap.size w W1) := by rw [← hW1]; exact (((Below.refl _ _).alloc (Nat.le_refl _) _).alloc (by simp) _).drew
  have hX1 : W1.heap[w.heap.size + 1]? = some (.cells #[Value.slice ad cl cp, .int .i64 cells, .int .i64 words, .int .i64 fuel, .int .i64 n, .int .i64 i, .int .i64 k] 24) := by
    rw [← hW1]
    have := heap_alloc_new (w.alloc (Obj.cells #[Value.slice ad cl cp, .int .i64 cells, .int .i64 words, .int .i64 fuel, .int .i64 n, .int .i64 i, .int .i64 k, .slice gad gl gcp, .int .i64 steps, .int .i64 cut] 64)) (Obj.cells #[Value.slice ad cl cp, .int .i64 cells, .int .i64 words, .int .i64 fuel, .int .i64 n, .int .i64 i, .int .i64 k] 24)
    rw [show (w.alloc (Obj.cells #[Value.slice ad cl cp, .int .i64 cells, .int .i64 words, .int .i64 fuel, .int .i64 n, .int .i64 i, .int .i64 k, .slice gad gl gcp, .int .i64 steps, .int .i64 cut] 64)).heap.size = w.heap.size + 1 by simp] at this
    exact this
  have c0 : W1.cell? ⟨w.heap.size + 1, 0, none⟩ = some (.slice ad cl cp) := (cell_of_row W1 _ 0 _ _ _ hX1).trans rfl
  have c1 : W1.cell? ⟨w.heap.size + 1, 1, none⟩ = some (.int .i64 cells) := (cell_of_row W1 _ 1 _ _ _ hX1).trans rfl
  have c2 : W1.cell? ⟨w.heap.size + 1, 2, none⟩ = some (.int .i64 words) := (cell_of_row W1 _ 2 _ _ _ hX1).trans rfl
  have c3 : W1.cell? ⟨w.heap.size + 1, 3, none⟩ = some (.int .i64 fuel) := (cell_of_row W1 _ 3 _ _ _ hX1).trans rfl
  have c4 : W1.cell? ⟨w.heap.size + 1, 4, none⟩ = some (.int .i64 n) := (cell_of_row W1 _ 4 _ _ _ hX1).trans rfl
  have c5 : W1.cell? ⟨w.heap.size + 1, 5, none⟩ = some (.int .i64 i) := (cell_of_row W1 _ 5 _ _ _ hX1).trans rfl
  have c6 : W1.cell? ⟨w.heap.size + 1, 6, none⟩ = some (.int .i64 k) := (cell_of_row W1 _ 6 _ _ _ hX1).trans rfl
  rw [hW1]
  clear hW1 hX1
  by_cases hlong : 1000 < cl
  · have e23 : decide ((1000 : Int) < (cl : Int)) = true := by simp; omega
    go_wp2
    go_ret
    exact ⟨rfl, HB1.out⟩
  have e23 : decide ((1000 : Int) < (cl : Int)) = false := by simp; omega
  go_wp2_with fail
  refine (HN.out _ HB1.out).mono ?_
  rintro e w2 (⟨er, rfl, hr, h0, hb⟩ | ⟨vb, g, cap, m, rfl, hr, hvb, hg, hm, hc, hb⟩)
  · have HB2 : Hid (Below w.heap.size w w2) := HB1.out.trans (hb.mono HB1.out.size)
    have e43 : (er != 0) = true := by simp [h0]
    clear hb hr h0 c0 c1 c2 c3 c4 c5 c6
    go_wp2_with (go_at_call 9; refine (alive_any _).mono ?_; rintro e w3 ⟨rfl, hb3⟩)
    go_ret
    exact ⟨rfl, HB2.out.trans (hb3.mono HB2.out.size)⟩
  obtain ⟨hgood, _, hfu⟩ := newE_good hr
  have hmf : m.fuel = fuel := by rw [hm]
  have HC : Hid (Good C) := hgood
  have HO0 : Hid (Ok C m.fuel (St0 n i k)) := by rw [hmf]; exact st0_ok (words := 0) hgood hfu hn hi hk
  have HM2 : Hid (MC w2 vb g cap m C (St0 n i k)) := hc
  have HB2 : Hid (Below w.heap.size w w2) := HB1.out.trans (hb.mono HB1.out.size)
  have hwv : w.heap.size ≤ vb := Nat.le_trans HB1.out.size hvb
  have HCV : Hid (m.cv = .slice (some ⟨g, 0, none⟩) cl cap) := by rw [← HCL.out]; exact hc.cv
  have HRr : Hid (∀ x ∈ C, R64 x.k) := hR
  have HGg : Hid (∀ x ∈ G, R64 x) := hG
  -- steps and cut
  obtain ⟨r, hr1⟩ : ∃ r, Int.tmod steps 200 = r := ⟨_, rfl⟩
  have hr2 : -200 < r ∧ r < 200 := by rw [← hr1]; exact tmod_in steps 200 (by decide)
  obtain ⟨t, hr3, ht⟩ : ∃ t : Nat, Int.tmod (r + 200) 200 = t ∧ t < 200 := ⟨((r + 200) % 200).toNat, by rw [Int.tmod_eq_emod_of_nonneg (by omega)]; omega, by omega⟩
  obtain ⟨r', hr4⟩ : ∃ r, Int.tmod cut ((t : Int) + 1) = r := ⟨_, rfl⟩
  have hr5 : -((t : Int) + 1) < r' ∧ r' < (t : Int) + 1 := by rw [← hr4]; exact tmod_in cut _ (by omega)
  obtain ⟨u, hr6, hu⟩ : ∃ u : Nat, Int.tmod (r' + (t : Int) + 1) ((t : Int) + 1) = u ∧ u ≤ t := ⟨((r' + (t : Int) + 1) % ((t : Int) + 1)).toNat, by rw [Int.tmod_eq_emod_of_nonneg (by omega)]; have := Int.emod_nonneg (r' + (t : Int) + 1) (b := (t : Int) + 1) (by omega); omega, by have := Int.emod_lt_of_pos (r' + (t : Int) + 1) (b := (t : Int) + 1) (by omega); omega⟩
  have ht1 : (t : Int) + 1 ≠ 0 := by omega
  -- the states
  obtain ⟨sh, hsh⟩ : ∃ sh, playS C m.words m.fuel G u 0 (St0 n i k) = sh := ⟨_, rfl⟩
  obtain ⟨sl, hsl⟩ : ∃ sl, playS C m.words m.fuel G (t - u) u sh = sl := ⟨_, rfl⟩
  have HALL : Hid (playS C m.words m.fuel G (t - 0) 0 (St0 n i k) = sl) := by
    show _ = _
    rw [Nat.sub_zero, ← hsl, ← hsh]
    have := play_add C m.words m.fuel G u (t - u) 0 (St0 n i k)
    rw [Nat.zero_add, show u + (t - u) = t by omega] at this
    exact this
  have HSH : Hid (playS C m.words m.fuel G (u - 0) 0 (St0 n i k) = sh) := hsh
  have HSL : Hid (playS C m.words m.fuel G (t - u) u sh = sl) := hsl
  obtain ⟨hoh, hlh⟩ : Ok C m.fuel sh ∧ sh.regs.length = 16 := by rw [← hsh]; exact play_ok hgood hR hG u 0 _ rfl HO0.out
  have HOH : Hid (Ok C m.fuel sh) := hoh
  obtain ⟨hol, hll⟩ : Ok C m.fuel sl ∧ sl.regs.length = 16 := by rw [← hsl]; exact play_ok hgood hR hG (t - u) u _ hlh hoh
  have HMAY : Hid (mayS m cl sh = true) := by rw [← HCL.out]; exact may_ok hoh (by rw [← hsh]; exact play_over _ _ _ _ _ _ _ (show (0 : Int) ≤ 0 ∧ (0 : Int) ≤ 5 by decide))
  have HPL : Hid (∀ (W : World) (s : St) (f' t' : Nat), f' ≤ 1000 → t' ≤ 1000 → Ok C m.fuel s → Below w.heap.size w W → MC W vb g cap m C s → Calls Try.prog 22 #[.pointer (some ⟨vb, 0, none⟩), .slice gad gl gcp, .int .i64 (f' : Int), .int .i64 (t' : Int)] W fun e w' => e = .returned (.tuple #[]) ∧ VM w' vb m (playS C m.words m.fuel G (t' - f') f' s) ∧ Ch vb W w') := fun W s f' t' h1 h2 h3 h4 h5 => played_any vb g cap m C G _ s f' t' h2 h1 HC.out HRr.out HGg.out h3 w HGV.out hwv W h4 h5
  have HNOW : Hid (∀ W s, VM W vb m s → Calls Try.prog 16 #[.pointer (some ⟨vb, 0, none⟩)] W fun e w' => e = .returned (.agg (stC s).toArray) ∧ Below W.heap.size W w') := fun W s h => now_any vb m s W h
  have HSET : Hid (∀ W s, VM W vb m s → Calls Try.prog 23 #[.pointer (some ⟨vb, 0, none⟩), .agg (stC sh).toArray] W (SetP vb m s sh true W)) := fun W s h => by have := set_any vb cl m s sh _ _ HCV.out hlh W h; rw [HMAY.out] at this; exact this
  have HRES : Hid (∀ W s, VM W vb m s → Calls Try.prog 24 #[.pointer (some ⟨vb, 0, none⟩)] W fun e w' => e = .returned (.tuple #[]) ∧ VM w' vb m (St0 n i k) ∧ Ch vb W w') := fun W s h => by have := reset_any vb m s W h; rw [hm] at this ⊢; exact this
  have hn0 : ∀ W, (binOp .neq 45 (.agg (stC (St0 n i k)).toArray) (.agg (stC (St0 n i k)).toArray)).run Try.prog W = .ok (.bool false) W := fun W => neq_st (St0 n i k) rfl W
  have hnh : ∀ W, (binOp .neq 45 (.agg (stC sh).toArray) (.agg (stC sh).toArray)).run Try.prog W = .ok (.bool false) W := fun W => neq_st sh hlh W
  have hnl : ∀ W, (binOp .neq 45 (.agg (stC sl).toArray) (.agg (stC sl).toArray)).run Try.prog W = .ok (.bool false) W := fun W => neq_st sl hll W
  have hel : ∀ W, (binOp .eql 45 (.agg (stC sl).toArray) (.agg (stC sl).toArray)).run Try.prog W = .ok (.bool true) W := fun W => eql_st sl hll W
  have HLD : Hid (∀ (s : St), s.regs.length = 16 → ∀ (b : Nat) (w' : World), w'.heap[b]? = some (.cells (stC s).toArray 45) → (ld45 (.pointer (some ⟨b, 0, none⟩))).run Try.prog w' = .ok (.agg (stC s).toArray) w') := fun s hs b w' h => load45 (by have := stC_len s hs; simpa using this) h
  have HI : Hid (∀ s : St, s.regs.length = 16 → (Try.prog.info? 45).map (·.size) = some (stC s).toArray.size) := fun s hs => by rw [show (stC s).toArray.size = 20 by have := stC_len s hs; simpa using this]; exact size45
  have HON : Hid (∀ s : St, (stC s).toArray.all (·.oneCell') = true) := fun s => all_oneCell_toArray (stC_one s)
  have HSZ : Hid (∀ s : St, s.regs.length = 16 → 20 = (stC s).toArray.size) := fun s hs => by have := stC_len s hs; simpa using this.symm
  clear hsh hsl hm hmf hr hvb hg hc hb hn hi hk hR hG hgood hfu c0 c1 c2 c3 c4 c5 c6 hoh hol
  go_wp2_with fail
  refine (HNOW.out _ _ HM2.out.vm).mono ?_
  rintro e w3 ⟨rfl, hb3⟩
  have HM3 : Hid (MC w3 vb g cap m C (St0 n i k)) := HM2.out.below hb3
  have HB3 : Hid (Below w.heap.size w w3) := HB2.out.trans (hb3.mono HB2.out.size)
  clear hb3
  go_wp2_with (refine wpList_store_row rfl 45 _ _ rfl w3.heap.size (stC (St0 n i k)).toArray rfl rfl 45 _ (heap_alloc_new w3 _) (HI.out _ rfl) rfl (HON.out _) ?_)
  have HP0 : Hid (∀ (W : World) (s : St) (t' : Nat), t' ≤ 1000 → Ok C m.fuel s → Below w.heap.size w W → MC W vb g cap m C s → Calls Try.prog 22 #[.pointer (some ⟨vb, 0, none⟩), .slice gad gl gcp, .int .i64 0, .int .i64 (t' : Int)] W fun e w' => e = .returned (.tuple #[]) ∧ VM w' vb m (playS C m.words m.fuel G (t' - 0) 0 s) ∧ Ch vb W w') := fun W s t' h2 h3 h4 h5 => HPL.out W s 0 t' (by omega) h2 h3 h4 h5
  have HML : Hid (∀ z, MC ((w3.alloc z).setRow w3.heap.size (stC (St0 n i k)).toArray) vb g cap m C (St0 n i k)) := fun z => HM3.out.below (laid_below w3 z _)
  have HBL : Hid (∀ z, Below w.heap.size w ((w3.alloc z).setRow w3.heap.size (stC (St0 n i k)).toArray)) := fun z => HB3.out.trans ((laid_below w3 z _).mono HB3.out.size)
  have HK9 : Hid (∀ z : Array Value, ((w3.alloc (.cells z 45)).setRow w3.heap.size (stC (St0 n i k)).toArray).heap[w3.heap.size]? = some (.cells (stC (St0 n i k)).toArray 45)) := fun z => laid_row w3 z _
  have h9 : w3.heap.size ≠ vb := by have := HM3.out.vm.lt; omega
  refine (HP0.out _ _ u (by omega) HO0.out (HBL.out _) (HML.out _)).mono ?_
  rintro e w4 ⟨rfl, hv4, hc4⟩
  rw [HSH.out] at hv4
  have HM4 : Hid (MC w4 vb g cap m C sh) := (HML.out _).ch hc4 hv4
  have HB4 : Hid (Below w.heap.size w w4) := (HBL.out _).trans (hc4.toBelow hwv (HBL.out _).size)
  have HK4 : Hid (w4.heap[w3.heap.size]? = some (.cells (stC (St0 n i k)).toArray 45)) := blk_ch (HK9.out _) h9 hc4
  clear hv4 hc4
  go_wp2_with fail
  refine (HNOW.out _ _ HM4.out.vm).mono ?_
  rintro e w5 ⟨rfl, hb5⟩
  have HM5 : Hid (MC w5 vb g cap m C sh) := HM4.out.below hb5
  have HB5 : Hid (Below w.heap.size w w5) := HB4.out.trans (hb5.mono HB4.out.size)
  have HK5 : Hid (w5.heap[w3.heap.size]? = some (.cells (stC (St0 n i k)).toArray 45)) := blk_be HK4.out hb5
  clear hb5
  have HML5 : Hid (∀ z, MC ((w5.alloc z).setRow w5.heap.size (stC sh).toArray) vb g cap m C sh) := fun z => HM5.out.below (laid_below w5 z _)
  have HBL5 : Hid (∀ z, Below w.heap.size w ((w5.alloc z).setRow w5.heap.size (stC sh).toArray)) := fun z => HB5.out.trans ((laid_below w5 z _).mono HB5.out.size)
  have HK95 : Hid (∀ z, ((w5.alloc z).setRow w5.heap.size (stC sh).toArray).heap[w3.heap.size]? = some (.cells (stC (St0 n i k)).toArray 45)) := fun z => laid_old HK5.out
  have HKh5 : Hid (∀ z : Array Value, ((w5.alloc (.cells z 45)).setRow w5.heap.size (stC sh).toArray).heap[w5.heap.size]? = some (.cells (stC sh).toArray 45)) := fun z => laid_row w5 z _
  have h10 : w5.heap.size ≠ vb := by have := HM5.out.vm.lt; omega
  go_wp2_with (refine wpList_store_row rfl 45 _ _ rfl w5.heap.size (stC sh).toArray rfl rfl 45 _ (heap_alloc_new w5 _) (HI.out _ hlh) (HSZ.out _ hlh) (HON.out _) ?_)
  refine (HPL.out _ _ u t (by omega) (by omega) HOH.out (HBL5.out _) (HML5.out _)).mono ?_
  rintro e w6 ⟨rfl, hv6, hc6⟩
  rw [HSL.out] at hv6
  have HM6 : Hid (MC w6 vb g cap m C sl) := (HML5.out _).ch hc6 hv6
  have HB6 : Hid (Below w.heap.size w w6) := (HBL5.out _).trans (hc6.toBelow hwv (HBL5.out _).size)
  have HK96 : Hid (w6.heap[w3.heap.size]? = some (.cells (stC (St0 n i k)).toArray 45)) := blk_ch (HK95.out _) h9 hc6
  have HKh6 : Hid (w6.heap[w5.heap.size]? = some (.cells (stC sh).toArray 45)) := blk_ch (HKh5.out _) h10 hc6
  clear hv6 hc6
  go_wp2_with fail
  refine (HNOW.out _ _ HM6.out.vm).mono ?_
  rintro e w7 ⟨rfl, hb7⟩
  have HM7 : Hid (MC w7 vb g cap m C sl) := HM6.out.below hb7
  have HB7 : Hid (Below w.heap.size w w7) := HB6.out.trans (hb7.mono HB6.out.size)
  have HK97 : Hid (w7.heap[w3.heap.size]? = some (.cells (stC (St0 n i k)).toArray 45)) := blk_be HK96.out hb7
  have HKh7 : Hid (w7.heap[w5.heap.size]? = some (.cells (stC sh).toArray 45)) := blk_be HKh6.out hb7
  clear hb7
  have h11 : w7.heap.size ≠ vb := by have := HM7.out.vm.lt; omega
  go_upto_region 14 with (refine wpList_store_row rfl 45 _ _ rfl w7.heap.size (stC sl).toArray rfl rfl 45 _ (heap_alloc_new w7 _) (HI.out _ hll) (HSZ.out _ hll) (HON.out _) ?_)
  obtain ⟨W8, hW8⟩ : ∃ W8, (w7.alloc (Obj.cells #[Value.int .i64 0, Value.int .i64 0, Value.int .i64 0, Value.int .i64 0, Value.int .i64 0, Value.int .i64 0, Value.int .i64 0, Value.int .i64 0, Value.int .i64 0, Value.int .i64 0, Value.int .i64 0, Value.int .i64 0, Value.int .i64 0, Value.int .i64 0, Value.int .i64 0, Value.int .i64 0, Value.int .i64 0, Value.int .i64 0, Value.int .i64 0, Value.int .i64 0] 45)).setRow w7.heap.size (stC sl).toArray = W8 := ⟨_, rfl⟩
  have hb78 : Below w7.heap.size w7 W8 := by rw [← hW8]; exact laid_below w7 _ _
  have HM8 : Hid (MC W8 vb g cap m C sl) := HM7.out.below hb78
  have HB8 : Hid (Below w.heap.size w W8) := HB7.out.trans (hb78.mono HB7.out.size)
  have HK98 : Hid (W8.heap[w3.heap.size]? = some (.cells (stC (St0 n i k)).toArray 45)) := blk_be HK97.out hb78
  have HKh8 : Hid (W8.heap[w5.heap.size]? = some (.cells (stC sh).toArray 45)) := blk_be HKh7.out hb78
  have HKl8 : Hid (W8.heap[w7.heap.size]? = some (.cells (stC sl).toArray 45)) := by show _ = _; rw [← hW8]; exact laid_row w7 _ _
  rw [hW8]
  clear hW8 hb78
  have hld : ∀ w' : World, w'.heap[w5.heap.size]? = some (.cells (stC sh).toArray 45) → (ld45 (.pointer (some ⟨w5.heap.size, 0, none⟩))).run Try.prog w' = .ok (.agg (stC sh).toArray) w' := HLD.out sh hlh _
  have hk8 : W8.drew.heap[w5.heap.size]? = some (.cells (stC sh).toArray 45) := HKh8.out
  go_region_held3 (fun w' => w'.heap[w5.heap.size]? = some (.cells (stC sh).toArray 45)) (first | assumption | go_keep) (first | (go_at_call 23; refine (HSET.out W8.drew sl HM8.out.vm.drew).mono ?_; rintro e w9 ⟨rfl, hv9, hc9⟩; have hk9 : w9.heap[w5.heap.size]? = some (.cells (stC sh).toArray 45) := blk_ch hk8 h10 hc9; have HC9 : Hid (Ch vb W8.drew w9) := hc9; have HV9 : Hid (VM w9 vb m sh) := hv9; clear hv9 hc9) | (go_at_call 16; refine (HNOW.out w9 sh HV9.out).mono ?_; rintro e w10 ⟨rfl, hb10⟩; have hk10 : w10.heap[w5.heap.size]? = some (.cells (stC sh).toArray 45) := blk_be hk9 hb10; have HB10 : Hid (Below w9.heap.size w9 w10) := hb10; clear hb10))
  have HM9 : Hid (MC w9 vb g cap m C sh) := (HM8.out.ch ((Ch.refl vb W8).drew) HM8.out.vm.drew).ch HC9.out HV9.out
  have HM10 : Hid (MC w10 vb g cap m C sh) := HM9.out.below HB10.out
  have HBw9 : Hid (Below w.heap.size w w9) := HB8.out.drew.trans (HC9.out.toBelow hwv HB8.out.size)
  have HBw10 : Hid (Below w.heap.size w w10) := HBw9.out.trans (HB10.out.mono HBw9.out.size)
  have HK910 : Hid (w10.heap[w3.heap.size]? = some (.cells (stC (St0 n i k)).toArray 45)) := blk_be (blk_ch (W := W8.drew) HK98.out h9 HC9.out) HB10.out
  have HKl10 : Hid (w10.heap[w7.heap.size]? = some (.cells (stC sl).toArray 45)) := blk_be (blk_ch (W := W8.drew) HKl8.out h11 HC9.out) HB10.out
  clear hk8 hk9 hk10 hld
  go_wp2_with fail
  refine (HPL.out _ _ u t (by omega) (by omega) HOH.out HBw10.out HM10.out).mono ?_
  rintro e w11 ⟨rfl, hv11, hc11⟩
  rw [HSL.out] at hv11
  have HM11 : Hid (MC w11 vb g cap m C sl) := HM10.out.ch hc11 hv11
  have HBw11 : Hid (Below w.heap.size w w11) := HBw10.out.trans (hc11.toBelow hwv HBw10.out.size)
  have HK911 : Hid (w11.heap[w3.heap.size]? = some (.cells (stC (St0 n i k)).toArray 45)) := blk_ch HK910.out h9 hc11
  have HKl11 : Hid (w11.heap[w7.heap.size]? = some (.cells (stC sl).toArray 45)) := blk_ch HKl10.out h11 hc11
  clear hv11 hc11
  go_wp2_with fail
  have hld17 : ∀ w' : World, w'.heap[w7.heap.size]? = some (.cells (stC sl).toArray 45) → (ld45 (.pointer (some ⟨w7.heap.size, 0, none⟩))).run Try.prog w' = .ok (.agg (stC sl).toArray) w' := HLD.out sl hll _
  have hkk17 : w11.drew.heap[w7.heap.size]? = some (.cells (stC sl).toArray 45) := HKl11.out
  go_region_held3 (fun w' => w'.heap[w7.heap.size]? = some (.cells (stC sl).toArray 45)) (first | assumption | go_keep) (first | (go_at_call 16; refine (HNOW.out w11.drew sl HM11.out.vm.drew).mono ?_; rintro e w12 ⟨rfl, hb17⟩; have hkb17 : w12.heap[w7.heap.size]? = some (.cells (stC sl).toArray 45) := blk_be hkk17 hb17; have HBB17 : Hid (Below w11.drew.heap.size w11.drew w12) := hb17; clear hb17))
  have HM12 : Hid (MC w12 vb g cap m C sl) := (HM11.out.ch ((Ch.refl vb w11).drew) HM11.out.vm.drew).below HBB17.out
  have HBw12 : Hid (Below w.heap.size w w12) := HBw11.out.drew.trans (HBB17.out.mono HBw11.out.size)
  have HK912 : Hid (w12.heap[w3.heap.size]? = some (.cells (stC (St0 n i k)).toArray 45)) := blk_be (W := w11.drew) HK911.out HBB17.out
  have HKl12 : Hid (w12.heap[w7.heap.size]? = some (.cells (stC sl).toArray 45)) := hkb17
  clear hkk17 hkb17 hld17
  go_wp2_with fail
  refine (HRES.out _ _ HM12.out.vm).mono ?_
  rintro e w13 ⟨rfl, hv13, hc13⟩
  have HM13 : Hid (MC w13 vb g cap m C (St0 n i k)) := HM12.out.ch hc13 hv13
  have HBw13 : Hid (Below w.heap.size w w13) := HBw12.out.trans (hc13.toBelow hwv HBw12.out.size)
  have HK913 : Hid (w13.heap[w3.heap.size]? = some (.cells (stC (St0 n i k)).toArray 45)) := blk_ch HK912.out h9 hc13
  have HKl13 : Hid (w13.heap[w7.heap.size]? = some (.cells (stC sl).toArray 45)) := blk_ch HKl12.out h11 hc13
  clear hv13 hc13
  go_wp2_with fail
  have hld20 : ∀ w' : World, w'.heap[w3.heap.size]? = some (.cells (stC (St0 n i k)).toArray 45) → (ld45 (.pointer (some ⟨w3.heap.size, 0, none⟩))).run Try.prog w' = .ok (.agg (stC (St0 n i k)).toArray) w' := HLD.out (St0 n i k) rfl _
  have hkk20 : w13.drew.heap[w3.heap.size]? = some (.cells (stC (St0 n i k)).toArray 45) := HK913.out
  go_region_held3 (fun w' => w'.heap[w3.heap.size]? = some (.cells (stC (St0 n i k)).toArray 45)) (first | assumption | go_keep) (first | (go_at_call 16; refine (HNOW.out w13.drew (St0 n i k) HM13.out.vm.drew).mono ?_; rintro e w14 ⟨rfl, hb20⟩; have hkb20 : w14.heap[w3.heap.size]? = some (.cells (stC (St0 n i k)).toArray 45) := blk_be hkk20 hb20; have HBB20 : Hid (Below w13.drew.heap.size w13.drew w14) := hb20; clear hb20))
  have HM14 : Hid (MC w14 vb g cap m C (St0 n i k)) := (HM13.out.ch ((Ch.refl vb w13).drew) HM13.out.vm.drew).below HBB20.out
  have HBw14 : Hid (Below w.heap.size w w14) := HBw13.out.drew.trans (HBB20.out.mono HBw13.out.size)
  have HKl14 : Hid (w14.heap[w7.heap.size]? = some (.cells (stC sl).toArray 45)) := blk_be (W := w13.drew) HKl13.out HBB20.out
  clear hkk20 hkb20 hld20
  go_wp2_with fail
  refine (HP0.out _ _ t (by omega) HO0.out HBw14.out HM14.out).mono ?_
  rintro e w15 ⟨rfl, hv15, hc15⟩
  rw [HALL.out] at hv15
  have HM15 : Hid (MC w15 vb g cap m C sl) := HM14.out.ch hc15 hv15
  have HBw15 : Hid (Below w.heap.size w w15) := HBw14.out.trans (hc15.toBelow hwv HBw14.out.size)
  have HKl15 : Hid (w15.heap[w7.heap.size]? = some (.cells (stC sl).toArray 45)) := blk_ch HKl14.out h11 hc15
  clear hv15 hc15
  go_wp2_with fail
  have hld23 : ∀ w' : World, w'.heap[w7.heap.size]? = some (.cells (stC sl).toArray 45) → (ld45 (.pointer (some ⟨w7.heap.size, 0, none⟩))).run Try.prog w' = .ok (.agg (stC sl).toArray) w' := HLD.out sl hll _
  have hkk23 : w15.drew.heap[w7.heap.size]? = some (.cells (stC sl).toArray 45) := HKl15.out
  go_region_held3 (fun w' => w'.heap[w7.heap.size]? = some (.cells (stC sl).toArray 45)) (first | assumption | go_keep) (first | (go_at_call 16; refine (HNOW.out w15.drew sl HM15.out.vm.drew).mono ?_; rintro e w16 ⟨rfl, hb23⟩; have hkb23 : w16.heap[w7.heap.size]? = some (.cells (stC sl).toArray 45) := blk_be hkk23 hb23; have HBB23 : Hid (Below w15.drew.heap.size w15.drew w16) := hb23; clear hb23) | (go_at_call 9; refine (alive_any w16).mono ?_; rintro e w17 ⟨rfl, hb17⟩; have hkc : w17.heap[w7.heap.size]? = some (.cells (stC sl).toArray 45) := blk_be hkb23 hb17; have HB17 : Hid (Below w16.heap.size w16 w17) := hb17; clear hb17))
  have HBw16 : Hid (Below w.heap.size w w16) := HBw15.out.drew.trans (HBB23.out.mono HBw15.out.size)
  go_wp2
  go_ret
  exact ⟨rfl, HBw16.out.trans (HB17.out.mono HBw16.out.size)⟩
end Go.Proofs.Ytkcncngcmhldpaa
