/- The document's arena: one comes back. -/
import Derived.Test.YtdohclnmcdempaaRfC
namespace Go.Proofs.Ytdohclnmcdempaa
open Go.RowKit Go.Maps
set_option linter.unusedVariables false

def RBackQ (N : Nat) (v : Value) (L : List Nat) (s : Int) (w : World) (e : Ending) (w' : World) : Prop :=
  Below w.heap.size w w' ∧ ∃ v', e = .returned (.tuple #[.agg #[.int .i64 (N : Int), v'], .int .i64 (if usedB N L s then 0 else 201)]) ∧ GSl w' v' (cs (backL N L s)) ∧ NewV w w' v v'
theorem IZ.one (w : World) (base : Nat) (z : Int) (h : base ≤ w.heap.size) : IZ (w.alloc (.cells #[.int .i64 z] 3)) base (.slice (some ⟨w.heap.size, 0, none⟩) 1 1) [z] :=
  ⟨rfl, .inr ⟨w.heap.size, 1, #[.int .i64 z], rfl, h, heap_alloc_new _ _, Nat.le_refl _, by unfold maxLen; omega, rfl, rfl⟩⟩
set_option maxRecDepth 100000 in
set_option maxHeartbeats 4000000 in
theorem rback_any (N : Nat) (v : Value) (L : List Nat) (s : Int) (w : World) (hv : GSl w v (cs L)) (hL : L.length ≤ 1000) (hN : N ≤ 1000) (hk : ∀ k, v.ownBlock = some k → k < w.heap.size) : Calls Try.prog 14 #[.agg #[.int .i64 (N : Int), v], .int .i64 s] w (RBackQ N v L s w) := by
  have HV : Hid (GSl w v (cs L)) := hv
  have HKK : Hid (∀ k, v.ownBlock = some k → k < w.heap.size) := hk
  have HNO : Hid (usedB N L s = false → ∀ W, Below w.heap.size w W → RBackQ N v L s w (.returned (.tuple #[.agg #[.int .i64 (N : Int), v], .int .i64 201])) W) := fun hu W hW => ⟨hW, v, by rw [hu]; rfl, by unfold backL; rw [hu]; exact HV.out.below hW, fun k h => ⟨.inl h, Nat.lt_of_lt_of_le (hk k h) hW.size⟩⟩
  have HB2 : Hid (∀ A B, Below w.heap.size w ((w.alloc A).alloc B)) := fun A B => (bl1 w _).trans ((bl1 _ _).mono (bl1 w _).size)
  have HG2 : Hid (∀ A B, ((w.alloc A).alloc B).heap[w.heap.size + 1]? = some B) := fun A B => heap_alloc2_new _ _ _
  obtain ⟨va, vc, vb, vo, rfl, h2, h3, h4, h5⟩ := hv
  rw [cs_len] at HV HNO HKK h2 ⊢
  obtain ⟨m, hm⟩ : ∃ m, L.length = m := ⟨_, rfl⟩
  have HM : Hid (L.length = m) := hm
  rw [hm] at HV HNO HKK h2 hL ⊢
  clear h4 h5 hk hm
  by_cases h0 : s < 0
  · have hu : usedB N L s = false := by unfold usedB; exact decide_eq_false (fun q => by omega)
    have HF : Hid (∀ W, Below w.heap.size w W → RBackQ N (.slice va m vc) L s w (.returned (.tuple #[.agg #[.int .i64 (N : Int), .slice va m vc], .int .i64 201])) W) := HNO.out hu
    have e1 : decide (s < 0) = true := by simp; omega
    generalize RBackQ N (.slice va m vc) L s w = P at *
    clear hu HNO
    go_enter Try.func14, Try.ntmps14
    go_wp2_with fail
    refine bodyPost_ret (ret_A2 Try.results14 _ (w.heap.size + 1) rfl _ _ _ (HG2.out _ _)) rfl ?_
    exact HF.out _ (HB2.out _ _)
  obtain ⟨S, rfl⟩ : ∃ S : Nat, s = (S : Int) := ⟨s.toNat, by omega⟩
  by_cases hge : N ≤ S
  · have hu : usedB N L (S : Int) = false := by unfold usedB; exact decide_eq_false (fun q => by omega)
    have HF : Hid (∀ W, Below w.heap.size w W → RBackQ N (.slice va m vc) L (S : Int) w (.returned (.tuple #[.agg #[.int .i64 (N : Int), .slice va m vc], .int .i64 201])) W) := HNO.out hu
    have e1 : decide (N ≤ S) = true := by simp; omega
    generalize RBackQ N (.slice va m vc) L (S : Int) w = P at *
    clear hu HNO
    go_enter Try.func14, Try.ntmps14
    go_wp2_with fail
    refine bodyPost_ret (ret_A2 Try.results14 _ (w.heap.size + 1) rfl _ _ _ (HG2.out _ _)) rfl ?_
    exact HF.out _ (HB2.out _ _)
  have e1 : decide (N ≤ S) = false := by simp; omega
  have HFR : Hid (∀ W, Below w.heap.size w W → Calls Try.prog 32 #[.agg #[.int .i64 (N : Int), .slice va m vc], .int .i64 (S : Int)] W fun e w' => e = .returned (.bool (inB L (S : Int))) ∧ Below W.heap.size W w') := fun W hW => rfree_any (N : Int) _ L (S : Int) W (HV.out.below hW) (by rw [HM.out]; exact hL)
  by_cases hmem : S ∈ L
  · have hu : usedB N L (S : Int) = false := by rw [usedB_nat]; exact decide_eq_false (fun q => q.2 hmem)
    have hin : inB L (S : Int) = true := by rw [inB_nat]; exact decide_eq_true hmem
    rw [hin] at HFR
    have HF : Hid (∀ W, Below w.heap.size w W → RBackQ N (.slice va m vc) L (S : Int) w (.returned (.tuple #[.agg #[.int .i64 (N : Int), .slice va m vc], .int .i64 201])) W) := HNO.out hu
    generalize RBackQ N (.slice va m vc) L (S : Int) w = P at *
    clear hu hin HNO hmem
    go_enter Try.func14, Try.ntmps14
    go_wp2_with fail
    refine (HFR.out _ (HB2.out _ _)).mono ?_
    rintro e w4 ⟨rfl, b4⟩
    have B4 : Hid (Below w.heap.size w w4) := (HB2.out _ _).trans (b4.mono (HB2.out _ _).size)
    have X0 : w4.heap[w.heap.size]? = some (.cells #[.int .i64 (N : Int), .slice va m vc] 28) := (b4.block _ (by simp; omega)).trans (by rw [heap_alloc_old _ _ (by simp), heap_alloc_new])
    have X1 : w4.heap[w.heap.size + 1]? = some (.cells #[.int .i64 0, .slice none 0 0] 28) := (b4.block _ (by simp)).trans (heap_alloc2_new _ _ _)
    have q0 : w4.cell? ⟨w.heap.size, 0, none⟩ = some (.int .i64 (N : Int)) := by rw [cell_of_row w4 _ 0 _ _ _ X0]; rfl
    have q1 : w4.cell? ⟨w.heap.size, 1, none⟩ = some (.slice va m vc) := by rw [cell_of_row w4 _ 1 _ _ _ X0]; rfl
    have p0 : w4.cell? ⟨w.heap.size + 1, 0, none⟩ = some (.int .i64 0) := by rw [cell_of_row w4 _ 0 _ _ _ X1]; rfl
    have p1 : w4.cell? ⟨w.heap.size + 1, 1, none⟩ = some (.slice none 0 0) := by rw [cell_of_row w4 _ 1 _ _ _ X1]; rfl
    have f0 : w4.frozen? ⟨w.heap.size + 1, 0, none⟩ = false := frozen_of_row w4 _ 0 _ _ X1
    have f1 : w4.frozen? ⟨w.heap.size + 1, 1, none⟩ = false := frozen_of_row w4 _ 1 _ _ X1
    have X1' : Hid (w4.heap[w.heap.size + 1]? = some (.cells #[.int .i64 0, .slice none 0 0] 28)) := X1
    have HB6 : Hid (Below w.heap.size w ((w4.setCell ⟨w.heap.size + 1, 0, none⟩ (.int .i64 (N : Int))).setCell ⟨w.heap.size + 1, 1, none⟩ (.slice va m vc))) := (B4.out.setCell (p := ⟨w.heap.size + 1, 0, none⟩) (Nat.le_succ _) _).setCell (p := ⟨w.heap.size + 1, 1, none⟩) (Nat.le_succ _) _
    clear b4 X0 X1
    go_wp2_with fail
    refine bodyPost_ret (ret_A2 Try.results14 _ (w.heap.size + 1) rfl _ _ _ (put2A X1'.out)) rfl ?_
    exact HF.out _ HB6.out
  · have hu : usedB N L (S : Int) = true := by rw [usedB_nat]; exact decide_eq_true ⟨by omega, hmem⟩
    have hin : inB L (S : Int) = false := by rw [inB_nat]; exact decide_eq_false hmem
    rw [hin] at HFR
    have hbk : backL N L (S : Int) = S :: L := by unfold backL; rw [hu]; simp
    have HQ : Hid (∀ v' W, Below w.heap.size w W → IZ W w.heap.size v' ((S : Int) :: cs L) → RBackQ N (.slice va m vc) L (S : Int) w (.returned (.tuple #[.agg #[.int .i64 (N : Int), v'], .int .i64 0])) W) := fun v' W hW hi => ⟨hW, v', by rw [hu]; rfl, by rw [hbk]; exact hi.gsl, hi.newV⟩
    generalize RBackQ N (.slice va m vc) L (S : Int) w = P at *
    clear hu hin HNO hmem hbk
    have HL1 : Hid ((cs L).length = m) := by show _ = _; rw [cs_len, HM.out]
    go_enter Try.func14, Try.ntmps14
    go_wp2_with fail
    refine (HFR.out _ (HB2.out _ _)).mono ?_
    rintro e w4 ⟨rfl, b4⟩
    have B4 : Hid (Below w.heap.size w w4) := (HB2.out _ _).trans (b4.mono (HB2.out _ _).size)
    have hs4 : w.heap.size + 2 ≤ w4.heap.size := by have := b4.size; simpa using this
    have X0 : Hid (w4.heap[w.heap.size]? = some (.cells #[.int .i64 (N : Int), .slice va m vc] 28)) := (b4.block _ (by simp; omega)).trans (by rw [heap_alloc_old _ _ (by simp), heap_alloc_new])
    have X1 : Hid (w4.heap[w.heap.size + 1]? = some (.cells #[.int .i64 0, .slice none 0 0] 28)) := (b4.block _ (by simp)).trans (heap_alloc2_new _ _ _)
    clear b4 HFR
    obtain ⟨g0, hg0⟩ : ∃ g, w.heap.size = g := ⟨_, rfl⟩
    obtain ⟨g1, hg1⟩ : ∃ g, g0 + 1 = g := ⟨_, rfl⟩
    have HG : Hid (w.heap.size = g0 ∧ g0 + 1 = g1) := ⟨hg0, hg1⟩
    rw [hg0] at X0 X1
    rw [hg1] at X1
    rw [hg0, hg1]
    clear hg0 hg1
    have c1 : ∀ A, (w4.alloc A).cell? ⟨g0, 1, none⟩ = some (.slice va m vc) := fun A => by rw [cell_of_row (w4.alloc A) g0 1 _ _ _ ((heap_alloc_old _ _ (Array.getElem?_eq_some_iff.1 X0.out).1).trans X0.out)]; rfl
    have HIE : Hid (IZ (w4.alloc (.cells #[.int .i64 (S : Int)] 3)) (w.heap.size + 2) (.slice (some ⟨w4.heap.size, 0, none⟩) 1 1) [(S : Int)]) := IZ.one w4 _ _ hs4
    have HGV : Hid (GSl (w4.alloc (.cells #[.int .i64 (S : Int)] 3)) (.slice va m vc) (cs L)) := HV.out.below (B4.out.alloc B4.out.size _)
    have hsz : w.heap.size + 2 ≤ (w4.alloc (.cells #[.int .i64 (S : Int)] 3)).heap.size := by simp only [World.alloc, Array.size_push]; omega
    have hlen : (cs L).length ≤ 1000 := by rw [HL1.out]; exact hL
    go_wp2_with (at_builtin; refine push_ints _ rfl _ _ rfl (w.heap.size + 2) (.slice (some ⟨w4.heap.size, 0, none⟩) 1 1) _ [(S : Int)] (cs L) rfl rfl HIE.out HGV.out ?l1 ?b1 ?_)
    case l1 => simp only [List.length_cons, List.length_nil]; omega
    case b1 => exact hsz
    intro v5 w5 hi5 hb5
    obtain ⟨a4, k4, rfl⟩ := hi5.sl
    have hll : ((S : Int) :: cs L).length = m + 1 := by rw [List.length_cons, HL1.out]
    rw [hll] at hi5 ⊢
    have hb5 : Below (w.heap.size + 2) w4 w5 := ((Below.refl _ w4).alloc hs4 _).trans hb5
    have hgg := HG.out
    have Y0 := (hb5.block g0 (by omega)).trans X0.out
    have Y1 := (hb5.block g1 (by omega)).trans X1.out
    have hb6 : Below w.heap.size w w5 := B4.out.trans (hb5.mono (by omega))
    have HI6 : Hid (IZ (((w5.setCell ⟨g0, 1, none⟩ (.slice a4 (m + 1) k4)).setCell ⟨g1, 0, none⟩ (.int .i64 (N : Int))).setCell ⟨g1, 1, none⟩ (.slice a4 (m + 1) k4)) w.heap.size (.slice a4 (m + 1) k4) ((S : Int) :: cs L)) := by
      refine IZ.base (base := w.heap.size + 2) (hi5.keep fun k hk _ => ?_) (by omega)
      exact (Below.heap_setCell _ _ _ _ (by show k ≠ g1; omega)).trans ((Below.heap_setCell _ _ _ _ (by show k ≠ g1; omega)).trans (Below.heap_setCell _ _ _ _ (by show k ≠ g0; omega)))
    have HB6 : Hid (Below w.heap.size w (((w5.setCell ⟨g0, 1, none⟩ (.slice a4 (m + 1) k4)).setCell ⟨g1, 0, none⟩ (.int .i64 (N : Int))).setCell ⟨g1, 1, none⟩ (.slice a4 (m + 1) k4))) := ((hb6.setCell (p := ⟨g0, 1, none⟩) (by show w.heap.size ≤ g0; omega) _).setCell (p := ⟨g1, 0, none⟩) (by show w.heap.size ≤ g1; omega) _).setCell (p := ⟨g1, 1, none⟩) (by show w.heap.size ≤ g1; omega) _
    have H1' : Hid ((w5.setCell ⟨g0, 1, none⟩ (.slice a4 (m + 1) k4)).heap[g1]? = some (.cells #[.int .i64 0, .slice none 0 0] 28)) := (Below.heap_setCell _ _ _ _ (by show g1 ≠ g0; omega)).trans Y1
    have q0 : w5.cell? ⟨g0, 0, none⟩ = some (.int .i64 (N : Int)) := by rw [cell_of_row w5 g0 0 _ _ _ Y0]; rfl
    have q1 : w5.cell? ⟨g0, 1, none⟩ = some (.slice va m vc) := by rw [cell_of_row w5 g0 1 _ _ _ Y0]; rfl
    have p0 : w5.cell? ⟨g1, 0, none⟩ = some (.int .i64 0) := by rw [cell_of_row w5 g1 0 _ _ _ Y1]; rfl
    have p1 : w5.cell? ⟨g1, 1, none⟩ = some (.slice none 0 0) := by rw [cell_of_row w5 g1 1 _ _ _ Y1]; rfl
    have f0 : w5.frozen? ⟨g0, 1, none⟩ = false := frozen_of_row w5 g0 1 _ _ Y0
    have f2 : w5.frozen? ⟨g1, 0, none⟩ = false := frozen_of_row w5 g1 0 _ _ Y1
    have f3 : w5.frozen? ⟨g1, 1, none⟩ = false := frozen_of_row w5 g1 1 _ _ Y1
    have n1 : ¬ g0 = g1 := by omega
    have n2 : ¬ g1 = g0 := by omega
    clear hi5 hb5 hb6 Y0 Y1 hgg c1 hll hlen hsz
    go_wp2_with fail
    refine bodyPost_ret (ret_A2 Try.results14 _ g1 rfl _ _ _ (put2A H1'.out)) rfl ?_
    exact HQ.out _ _ HB6.out HI6.out
end Go.Proofs.Ytdohclnmcdempaa
