/- The document's arena: one goes. -/
import Derived.Test.YtdohclnmcdempaaRfB
namespace Go.Proofs.Ytdohclnmcdempaa
open Go.RowKit Go.Maps
set_option linter.unusedVariables false

/-- a value whose block is the one that was, or new -/
def NewV (w w' : World) (v v' : Value) : Prop := ∀ k, v'.ownBlock = some k → (v.ownBlock = some k ∨ w.heap.size ≤ k) ∧ k < w'.heap.size
def RTakeQ (n : Int) (v : Value) (L : List Nat) (w : World) (e : Ending) (w' : World) : Prop :=
  Below w.heap.size w w' ∧ ∃ v', e = .returned (.tuple #[.agg #[.int .i64 n, v'], .int .i64 ((L.headD 0 : Nat) : Int), .int .i64 (if L.isEmpty then 200 else 0)]) ∧ GSl w' v' (cs L.tail) ∧ NewV w w' v v'
theorem IZ.newV {w w' : World} {v v' : Value} {l : List Int} (h : IZ w' w.heap.size v' l) : NewV w w' v v' := fun k hk => ⟨.inr (h.own hk).1, (h.own hk).2⟩
set_option maxRecDepth 100000 in
set_option maxHeartbeats 2000000 in
theorem rtake_any (n : Int) (v : Value) (L : List Nat) (w : World) (hv : GSl w v (cs L)) (hL : L.length ≤ 1000) (hk : ∀ k, v.ownBlock = some k → k < w.heap.size) : Calls Try.prog 12 #[.agg #[.int .i64 n, v]] w (RTakeQ n v L w) := by
  have HV : Hid (GSl w v (cs L)) := hv
  obtain ⟨va, vc, vb, vo, rfl, h2, h3, h4, h5⟩ := hv
  cases L with
  | nil =>
    simp only [cs, List.map_nil, List.length_nil] at h2 HV ⊢
    have HF : Hid (∀ W, Below w.heap.size w W → RTakeQ n (.slice va 0 vc) [] w (.returned (.tuple #[.agg #[.int .i64 n, .slice va 0 vc], .int .i64 0, .int .i64 200])) W) := fun W hW => ⟨hW, _, rfl, HV.out.below hW, fun k h => ⟨.inl h, Nat.lt_of_lt_of_le (hk k h) hW.size⟩⟩
    have HB : Hid (∀ A B, Below w.heap.size w ((w.alloc A).alloc B)) := fun A B => (bl1 w _).trans ((bl1 _ _).mono (bl1 w _).size)
    have HG : Hid (∀ A B, ((w.alloc A).alloc B).heap[w.heap.size + 1]? = some B) := fun A B => heap_alloc2_new _ _ _
    generalize RTakeQ n (.slice va 0 vc) [] w = P at *
    clear h4 h5 hk
    go_enter Try.func12, Try.ntmps12
    go_wp2_with fail
    refine bodyPost_ret (ret_A3 Try.results12 _ (w.heap.size + 1) rfl _ _ _ (HG.out _ _)) rfl ?_
    exact HF.out _ (HB.out _ _)
  | cons s L =>
    rw [cs_len, List.length_cons] at h2 h4
    simp only [List.length_cons] at hL
    have hva := h4 (by omega)
    subst hva
    have c0 := h5 0 (by rw [cs_len]; simp)
    rw [Nat.add_zero, cs_at _ _ _ (by simp)] at c0
    simp only [List.getElem_cons_zero] at c0
    rw [cs_len, List.length_cons] at HV ⊢
    have HQ : Hid (∀ v' W, Below w.heap.size w W → IZ W w.heap.size v' (cs L) → RTakeQ n (.slice (some ⟨vb, vo, none⟩) (L.length + 1) vc) (s :: L) w (.returned (.tuple #[.agg #[.int .i64 n, v'], .int .i64 (s : Int), .int .i64 0])) W) := fun v' W hW hi => ⟨hW, v', rfl, hi.gsl, hi.newV⟩
    obtain ⟨m, hm⟩ : ∃ m, L.length = m := ⟨_, rfl⟩
    have HM : Hid (L.length = m) := hm
    rw [hm] at HQ HV h2 hL ⊢
    generalize RTakeQ n (.slice (some ⟨vb, vo, none⟩) (m + 1) vc) (s :: L) w = P at *
    have HB2 : Hid (∀ A B, Below w.heap.size w ((w.alloc A).alloc B)) := fun A B => (bl1 w _).trans ((bl1 _ _).mono (bl1 w _).size)
    have HX : Hid (∀ A B, ((w.alloc A).alloc B).heap[w.heap.size]? = some A ∧ ((w.alloc A).alloc B).heap[w.heap.size + 1]? = some B) := fun A B => ⟨by rw [heap_alloc_old _ _ (by simp), heap_alloc_new], heap_alloc2_new _ _ _⟩
    have HS2 : Hid (∀ A B, ((w.alloc A).alloc B).heap.size = w.heap.size + 2) := fun A B => by simp
    have c0' : ∀ A B, ((w.alloc A).alloc B).cell? ⟨vb, vo, none⟩ = some (.int .i64 (s : Int)) := fun A B => ((HB2.out A B).cell (p := ⟨vb, vo, none⟩) (World.block_lt_of_cell? w _ c0)).trans c0
    clear h4 h5 hk hm c0
    go_enter Try.func12, Try.ntmps12
    go_upto_region 4 with fail
    have H2 := HX.out (.cells #[.int .i64 n, .slice (some ⟨vb, vo, none⟩) (m + 1) vc] 28) (.cells #[.int .i64 0, .slice none 0 0] 28)
    have HBU : Hid (Below w.heap.size w ((w.alloc (.cells #[.int .i64 n, .slice (some ⟨vb, vo, none⟩) (m + 1) vc] 28)).alloc (.cells #[.int .i64 0, .slice none 0 0] 28))) := HB2.out _ _
    have HSU : Hid (((w.alloc (.cells #[.int .i64 n, .slice (some ⟨vb, vo, none⟩) (m + 1) vc] 28)).alloc (.cells #[.int .i64 0, .slice none 0 0] 28)).heap.size = w.heap.size + 2) := HS2.out _ _
    generalize (w.alloc (.cells #[.int .i64 n, .slice (some ⟨vb, vo, none⟩) (m + 1) vc] 28)).alloc (.cells #[.int .i64 0, .slice none 0 0] 28) = U at *
    clear HX HB2 HS2 c0'
    have HU0 : Hid (U.heap[w.heap.size]? = some (.cells #[.int .i64 n, .slice (some ⟨vb, vo, none⟩) (m + 1) vc] 28)) := H2.1
    have HU1 : Hid (U.heap[w.heap.size + 1]? = some (.cells #[.int .i64 0, .slice none 0 0] 28)) := H2.2
    clear H2
    obtain ⟨g0, hg0⟩ : ∃ g, w.heap.size = g := ⟨_, rfl⟩
    obtain ⟨g1, hg1⟩ : ∃ g, g0 + 1 = g := ⟨_, rfl⟩
    have HG : Hid (w.heap.size = g0 ∧ g0 + 1 = g1) := ⟨hg0, hg1⟩
    rw [hg0] at HU0 HU1
    rw [hg1] at HU1
    rw [hg0, hg1]
    clear hg0 hg1
    have c1 : ∀ A, (U.alloc A).cell? ⟨g0, 1, none⟩ = some (.slice (some ⟨vb, vo, none⟩) (m + 1) vc) := fun A => by rw [cell_of_row (U.alloc A) g0 1 _ _ _ ((heap_alloc_old _ _ (Array.getElem?_eq_some_iff.1 HU0.out).1).trans HU0.out)]; rfl
    have hvc : ¬ vc = 0 := by omega
    have HIE : Hid (IZ (U.alloc (.cells #[] 3)) (w.heap.size + 2) (.slice (some ⟨U.heap.size, 0, none⟩) 0 0) []) := IZ.empty U _ (by rw [HSU.out]; exact Nat.le_refl _)
    have HD : Hid (GSl (U.alloc (.cells #[] 3)) (sliced (some ⟨vb, vo, none⟩) 1 (m + 1) vc 1) (cs L)) := by
      show GSl _ _ _
      exact (HV.out.below (HBU.out.alloc HBU.out.size (.cells #[] 3))).drop 1 (by omega)
    have hlen : (cs L).length ≤ 1000 := by rw [cs_len, HM.out]; omega
    have hsz : w.heap.size + 2 ≤ (U.alloc (.cells #[] 3)).heap.size := by simp only [World.alloc, Array.size_push]; rw [HSU.out]; omega
    by_cases hc1 : vc = 1
    · have hm0 : m = 0 := by omega
      subst hc1 hm0
      have HGV : Hid (GSl (U.alloc (.cells #[] 3)) (.slice (some ⟨vb, vo, none⟩) 0 0) (cs L)) := by
        have := HD.out
        show GSl _ _ _
        unfold sliced at this
        simpa using this
      go_wp2_with (at_builtin; refine push_ints _ rfl _ _ rfl (w.heap.size + 2) (.slice (some ⟨U.heap.size, 0, none⟩) 0 0) _ [] (cs L) rfl rfl HIE.out HGV.out ?l1 ?b1 ?_)
      case l1 => simp only [List.length_nil]; omega
      case b1 => exact hsz
      intro v4 w4 hi4 hb4
      obtain ⟨a4, k4, rfl⟩ := hi4.sl
      rw [cs_len, HM.out] at hi4 ⊢
      have hb5 : Below (w.heap.size + 2) U w4 := ((Below.refl _ U).alloc (by rw [HSU.out]; exact Nat.le_refl _) _).trans hb4
      have hgg := HG.out
      have B0 := (hb5.block g0 (by omega)).trans HU0.out
      have B1 := (hb5.block g1 (by omega)).trans HU1.out
      have hb6 : Below w.heap.size w w4 := HBU.out.trans (hb5.mono (by omega))
      have HI6 : Hid (IZ (((w4.setCell ⟨g0, 1, none⟩ (.slice a4 0 k4)).setCell ⟨g1, 0, none⟩ (.int .i64 n)).setCell ⟨g1, 1, none⟩ (.slice a4 0 k4)) w.heap.size (.slice a4 0 k4) (cs L)) := by
        refine IZ.base (base := w.heap.size + 2) (hi4.keep fun k hk _ => ?_) (by omega)
        exact (Below.heap_setCell _ _ _ _ (by show k ≠ g1; omega)).trans ((Below.heap_setCell _ _ _ _ (by show k ≠ g1; omega)).trans (Below.heap_setCell _ _ _ _ (by show k ≠ g0; omega)))
      have HB6 : Hid (Below w.heap.size w (((w4.setCell ⟨g0, 1, none⟩ (.slice a4 0 k4)).setCell ⟨g1, 0, none⟩ (.int .i64 n)).setCell ⟨g1, 1, none⟩ (.slice a4 0 k4))) := ((hb6.setCell (p := ⟨g0, 1, none⟩) (by show w.heap.size ≤ g0; omega) _).setCell (p := ⟨g1, 0, none⟩) (by show w.heap.size ≤ g1; omega) _).setCell (p := ⟨g1, 1, none⟩) (by show w.heap.size ≤ g1; omega) _
      have H1' : Hid ((w4.setCell ⟨g0, 1, none⟩ (.slice a4 0 k4)).heap[g1]? = some (.cells #[.int .i64 0, .slice none 0 0] 28)) := (Below.heap_setCell _ _ _ _ (by show g1 ≠ g0; omega)).trans B1
      have q0 : w4.cell? ⟨g0, 0, none⟩ = some (.int .i64 n) := by rw [cell_of_row w4 g0 0 _ _ _ B0]; rfl
      have q1 : w4.cell? ⟨g0, 1, none⟩ = some (.slice (some ⟨vb, vo, none⟩) (0 + 1) 1) := by rw [cell_of_row w4 g0 1 _ _ _ B0]; rfl
      have p0 : w4.cell? ⟨g1, 0, none⟩ = some (.int .i64 0) := by rw [cell_of_row w4 g1 0 _ _ _ B1]; rfl
      have p1 : w4.cell? ⟨g1, 1, none⟩ = some (.slice none 0 0) := by rw [cell_of_row w4 g1 1 _ _ _ B1]; rfl
      have f0 : w4.frozen? ⟨g0, 1, none⟩ = false := frozen_of_row w4 g0 1 _ _ B0
      have f2 : w4.frozen? ⟨g1, 0, none⟩ = false := frozen_of_row w4 g1 0 _ _ B1
      have f3 : w4.frozen? ⟨g1, 1, none⟩ = false := frozen_of_row w4 g1 1 _ _ B1
      have n1 : ¬ g0 = g1 := by omega
      have n2 : ¬ g1 = g0 := by omega
      clear hi4 hb4 hb5 hb6 B0 B1 hgg c1
      go_wp2_with fail
      refine bodyPost_ret (ret_A3 Try.results12 _ g1 rfl _ _ _ (put2A H1'.out)) rfl ?_
      exact HQ.out _ _ HB6.out HI6.out
    · have hvm : 1 ≤ vc := by omega
      have HGV : Hid (GSl (U.alloc (.cells #[] 3)) (.slice (some ⟨vb, vo + 1, none⟩) m (vc - 1)) (cs L)) := by
        have := HD.out
        show GSl _ _ _
        unfold sliced at this
        simpa [hc1, addn] using this
      go_wp2_with (at_builtin; refine push_ints _ rfl _ _ rfl (w.heap.size + 2) (.slice (some ⟨U.heap.size, 0, none⟩) 0 0) _ [] (cs L) rfl rfl HIE.out HGV.out ?l2 ?b2 ?_)
      case l2 => simp only [List.length_nil]; omega
      case b2 => exact hsz
      intro v4 w4 hi4 hb4
      obtain ⟨a4, k4, rfl⟩ := hi4.sl
      rw [cs_len, HM.out] at hi4 ⊢
      have hb5 : Below (w.heap.size + 2) U w4 := ((Below.refl _ U).alloc (by rw [HSU.out]; exact Nat.le_refl _) _).trans hb4
      have hgg := HG.out
      have B0 := (hb5.block g0 (by omega)).trans HU0.out
      have B1 := (hb5.block g1 (by omega)).trans HU1.out
      have hb6 : Below w.heap.size w w4 := HBU.out.trans (hb5.mono (by omega))
      have HI6 : Hid (IZ (((w4.setCell ⟨g0, 1, none⟩ (.slice a4 m k4)).setCell ⟨g1, 0, none⟩ (.int .i64 n)).setCell ⟨g1, 1, none⟩ (.slice a4 m k4)) w.heap.size (.slice a4 m k4) (cs L)) := by
        refine IZ.base (base := w.heap.size + 2) (hi4.keep fun k hk _ => ?_) (by omega)
        exact (Below.heap_setCell _ _ _ _ (by show k ≠ g1; omega)).trans ((Below.heap_setCell _ _ _ _ (by show k ≠ g1; omega)).trans (Below.heap_setCell _ _ _ _ (by show k ≠ g0; omega)))
      have HB6 : Hid (Below w.heap.size w (((w4.setCell ⟨g0, 1, none⟩ (.slice a4 m k4)).setCell ⟨g1, 0, none⟩ (.int .i64 n)).setCell ⟨g1, 1, none⟩ (.slice a4 m k4))) := ((hb6.setCell (p := ⟨g0, 1, none⟩) (by show w.heap.size ≤ g0; omega) _).setCell (p := ⟨g1, 0, none⟩) (by show w.heap.size ≤ g1; omega) _).setCell (p := ⟨g1, 1, none⟩) (by show w.heap.size ≤ g1; omega) _
      have H1' : Hid ((w4.setCell ⟨g0, 1, none⟩ (.slice a4 m k4)).heap[g1]? = some (.cells #[.int .i64 0, .slice none 0 0] 28)) := (Below.heap_setCell _ _ _ _ (by show g1 ≠ g0; omega)).trans B1
      have q0 : w4.cell? ⟨g0, 0, none⟩ = some (.int .i64 n) := by rw [cell_of_row w4 g0 0 _ _ _ B0]; rfl
      have q1 : w4.cell? ⟨g0, 1, none⟩ = some (.slice (some ⟨vb, vo, none⟩) (m + 1) vc) := by rw [cell_of_row w4 g0 1 _ _ _ B0]; rfl
      have p0 : w4.cell? ⟨g1, 0, none⟩ = some (.int .i64 0) := by rw [cell_of_row w4 g1 0 _ _ _ B1]; rfl
      have p1 : w4.cell? ⟨g1, 1, none⟩ = some (.slice none 0 0) := by rw [cell_of_row w4 g1 1 _ _ _ B1]; rfl
      have f0 : w4.frozen? ⟨g0, 1, none⟩ = false := frozen_of_row w4 g0 1 _ _ B0
      have f2 : w4.frozen? ⟨g1, 0, none⟩ = false := frozen_of_row w4 g1 0 _ _ B1
      have f3 : w4.frozen? ⟨g1, 1, none⟩ = false := frozen_of_row w4 g1 1 _ _ B1
      have n1 : ¬ g0 = g1 := by omega
      have n2 : ¬ g1 = g0 := by omega
      clear hi4 hb4 hb5 hb6 B0 B1 hgg c1
      go_wp2_with fail
      refine bodyPost_ret (ret_A3 Try.results12 _ g1 rfl _ _ _ (put2A H1'.out)) rfl ?_
      exact HQ.out _ _ HB6.out HI6.out
end Go.Proofs.Ytdohclnmcdempaa
