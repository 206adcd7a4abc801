/- The document's arena: a new one. -/
import Derived.Test.YtdohclnmcdempaaRfA
import Derived.Deep.CutRange
namespace Go.Proofs.Ytdohclnmcdempaa
open Go.RowKit Go.Maps
set_option linter.unusedVariables false

def RNewQ (n : Int) (w : World) (e : Ending) (w' : World) : Prop :=
  Below w.heap.size w w' ∧ if 1 ≤ n ∧ n ≤ 512 then ∃ v, e = .returned (.tuple #[.agg #[.int .i64 n, v], .int .i64 0]) ∧ IZ w' w.heap.size v (cs (List.range n.toNat)) else e = .returned (.tuple #[.agg #[.int .i64 0, .slice none 0 0], .int .i64 161])
/-- the list grows -/
structure RN (w : World) (g0 g1 N q : Nat) (a : Option Addr) (c : Nat) (wr : World) : Prop where
  b0 : wr.heap[g0]? = some (.cells #[.int .i64 0, .slice none 0 0] 28)
  b1 : wr.heap[g1]? = some (.cells #[.int .i64 (N : Int), .slice a q c] 28)
  iz : IZ wr (w.heap.size + 2) (.slice a q c) (cs (List.range q))
  bel : Below w.heap.size w wr
  l0 : w.heap.size ≤ g0
  l1 : w.heap.size ≤ g1
  h0 : g0 < w.heap.size + 2
  h1 : g1 < w.heap.size + 2
  ne : g0 ≠ g1
  sz : w.heap.size + 2 ≤ wr.heap.size
theorem RN.first (w : World) (N : Nat) : RN w w.heap.size (w.heap.size + 1) N 0 none 0 ((w.alloc (.cells #[.int .i64 0, .slice none 0 0] 28)).alloc (.cells #[.int .i64 (N : Int), .slice none 0 0] 28)) := by
  refine ⟨?_, heap_alloc2_new _ _ _, IZ.nil _ _, (bl1 w _).trans ((bl1 _ _).mono (bl1 w _).size), Nat.le_refl _, by omega, by omega, by omega, by omega, by simp⟩
  rw [heap_alloc_old _ _ (by simp), heap_alloc_new]
theorem RN.push {w : World} {g0 g1 N q : Nat} {a : Option Addr} {c : Nat} {wr w4 : World} (h : RN w g0 g1 N q a c wr) {a4 : Option Addr} {c4 : Nat} (hi : IZ w4 (w.heap.size + 2) (.slice a4 (q + 1) c4) (cs (List.range (q + 1)))) (hb : Below (w.heap.size + 2) wr w4) :
    RN w g0 g1 N (q + 1) a4 c4 (w4.setCell ⟨g1, 1, none⟩ (.slice a4 (q + 1) c4)) := by
  have b1 := (hb.block _ h.h1).trans h.b1
  refine ⟨?_, ?_, hi.keep fun k hk _ => Below.heap_setCell _ _ _ _ (by show k ≠ g1; have := h.h1; omega), (h.bel.trans (hb.mono (by omega))).setCell (p := ⟨g1, 1, none⟩) h.l1 _, h.l0, h.l1, h.h0, h.h1, h.ne, by simpa [World.setCell] using Nat.le_trans h.sz hb.size⟩
  · rw [Below.heap_setCell _ _ _ _ h.ne, hb.block _ h.h0]; exact h.b0
  · rw [heap_setCell_same w4 g1 1 _ 28 _ b1]; rfl
set_option maxRecDepth 100000 in
set_option maxHeartbeats 2000000 in
theorem rnew_any (n : Int) (w : World) : Calls Try.prog 10 #[.int .i64 n] w (RNewQ n w) := by
  by_cases hn : 1 ≤ n ∧ n ≤ 512
  · obtain ⟨N, rfl⟩ : ∃ N : Nat, n = (N : Int) := ⟨n.toNat, by omega⟩
    have hN : 1 ≤ N ∧ N ≤ 512 := by omega
    have HQ : Hid (∀ v W, IZ W w.heap.size v (cs (List.range N)) → Below w.heap.size w W → RNewQ (N : Int) w (.returned (.tuple #[.agg #[.int .i64 (N : Int), v], .int .i64 0])) W) := fun v W h1 h2 => ⟨h2, by rw [if_pos hn]; exact ⟨v, rfl, by simpa using h1⟩⟩
    clear hn
    generalize RNewQ (N : Int) w = P at *
    have e1 : decide ((N : Int) < 1) = false := by simp; omega
    have e2 : decide (512 < (N : Int)) = false := by simp; omega
    go_enter Try.func10, Try.ntmps10
    go_upto_region 4 with fail
    have HR : Hid (RN w w.heap.size (w.heap.size + 1) N 0 none 0 ((w.alloc (.cells #[.int .i64 0, .slice none 0 0] 28)).alloc (.cells #[.int .i64 (N : Int), .slice none 0 0] 28))) := RN.first w N
    generalize (w.alloc (.cells #[.int .i64 0, .slice none 0 0] 28)).alloc (.cells #[.int .i64 (N : Int), .slice none 0 0] 28) = U at *
    obtain ⟨g0, hg0⟩ : ∃ g, w.heap.size = g := ⟨_, rfl⟩
    obtain ⟨g1, hg1⟩ : ∃ g, g0 + 1 = g := ⟨_, rfl⟩
    have HG : Hid (w.heap.size = g0 ∧ g0 + 1 = g1) := ⟨hg0, hg1⟩
    have HR2 : Hid (RN w g0 g1 N 0 none 0 U) := by rw [hg0, hg1] at HR; exact HR
    rw [hg0, hg1]
    clear hg0 hg1 HR
    go_wp2_with fail
    go_loopw [5] (fun i wr => ∃ (q : Nat) (a : Option Addr) (c : Nat), i = .int .i64 (q : Int) ∧ q ≤ N ∧ Hid (RN w g0 g1 N q a c wr)) (fun i _ => N - (intOf i).toNat)
    case atStart => exact ⟨0, none, 0, rfl, Nat.zero_le _, HR2⟩
    case round =>
      clear HR2
      obtain ⟨q, a, c, rfl, hq, R⟩ := hrel
      have hR := R.out
      by_cases hlt : q < N
      · have e3 : decide (q < N) = true := by simp; omega
        have c1 : wr.cell? ⟨g1, 1, none⟩ = some (.slice a q c) := by rw [cell_of_row wr g1 1 _ _ _ hR.b1]; rfl
        have HIA : Hid (∀ A, IZ (wr.alloc A) (w.heap.size + 2) (.slice a q c) (cs (List.range q))) := fun A => hR.iz.below (bl1 _ _)
        have hlen : (cs (List.range q)).length ≤ 100000 := by rw [cs_len, List.length_range]; omega
        have hbs : w.heap.size + 2 ≤ wr.heap.size := hR.sz
        have HTK : Hid (cs (List.range q) ++ [(q : Int)] = cs (List.range (q + 1))) := by show _ = _; rw [cs_snoc, List.range_succ]
        clear hR
        go_wp2_with (at_builtin; refine push_int _ rfl _ _ rfl (w.heap.size + 2) _ (cs (List.range q)) (q : Int) rfl ?p1 _ rfl ?p2 ?p3 ?p4 ?_)
        case p1 => exact HIA.out _
        case p2 => simp
        case p3 => exact hlen
        case p4 => exact Nat.le_trans hbs (by simp)
        intro v4 w4 hi4 hb4
        rw [HTK.out] at hi4
        obtain ⟨a4, k4, rfl⟩ := hi4.sl
        have hl4 : (cs (List.range (q + 1))).length = q + 1 := by rw [cs_len, List.length_range]
        rw [hl4] at hi4 ⊢
        have hb5 : Below (w.heap.size + 2) wr w4 := ((Below.refl _ wr).alloc hbs _).trans hb4
        have R4 : Hid (RN w g0 g1 N (q + 1) a4 k4 (w4.setCell ⟨g1, 1, none⟩ (.slice a4 (q + 1) k4))) := R.out.push hi4 hb5
        have B4 := (hb5.block _ R.out.h1).trans R.out.b1
        have c4 : w4.cell? ⟨g1, 1, none⟩ = some (.slice a q c) := by rw [cell_of_row w4 g1 1 _ _ _ B4]; rfl
        have f4 : w4.frozen? ⟨g1, 1, none⟩ = false := frozen_of_row w4 g1 1 _ _ B4
        clear hi4 hb4 hl4 hb5 B4 c1 hlen hbs
        go_wp2_with fail
        go_roundw
        case rel => exact ⟨q + 1, a4, k4, by go_num, by omega, R4⟩
        case measure => simp [intOf] <;> omega
      · have hqN : q = N := by omega
        subst hqN
        have e3 : decide (q < q) = false := by simp
        have c0 : wr.cell? ⟨g1, 0, none⟩ = some (.int .i64 (q : Int)) := by rw [cell_of_row wr g1 0 _ _ _ hR.b1]; rfl
        have c1 : wr.cell? ⟨g1, 1, none⟩ = some (.slice a q c) := by rw [cell_of_row wr g1 1 _ _ _ hR.b1]; rfl
        have d0 : wr.cell? ⟨g0, 0, none⟩ = some (.int .i64 0) := by rw [cell_of_row wr g0 0 _ _ _ hR.b0]; rfl
        have d1 : wr.cell? ⟨g0, 1, none⟩ = some (.slice none 0 0) := by rw [cell_of_row wr g0 1 _ _ _ hR.b0]; rfl
        have f0 : wr.frozen? ⟨g0, 0, none⟩ = false := frozen_of_row wr g0 0 _ _ hR.b0
        have f1 : wr.frozen? ⟨g0, 1, none⟩ = false := frozen_of_row wr g0 1 _ _ hR.b0
        have HB : Hid (Below w.heap.size w ((wr.setCell ⟨g0, 0, none⟩ (.int .i64 (q : Int))).setCell ⟨g0, 1, none⟩ (.slice a q c))) := (hR.bel.setCell (p := ⟨g0, 0, none⟩) hR.l0 _).setCell (p := ⟨g0, 1, none⟩) hR.l0 _
        have HI : Hid (IZ ((wr.setCell ⟨g0, 0, none⟩ (.int .i64 (q : Int))).setCell ⟨g0, 1, none⟩ (.slice a q c)) w.heap.size (.slice a q c) (cs (List.range q))) := by
          refine IZ.base (base := w.heap.size + 2) (hR.iz.keep fun k hk _ => ?_) (by omega)
          have := hR.h0
          exact (Below.heap_setCell _ _ _ _ (by show k ≠ g0; omega)).trans (Below.heap_setCell _ _ _ _ (by show k ≠ g0; omega))
        have H0 : Hid (wr.heap[g0]? = some (.cells #[.int .i64 0, .slice none 0 0] 28)) := hR.b0
        clear hR
        go_wp2_with fail
        refine bodyPost_ret (ret_A2 Try.results10 _ g0 rfl _ _ _ (put2A H0.out)) rfl ?_
        exact HQ.out _ _ HI.out HB.out
  · have HF : Hid (∀ W, Below w.heap.size w W → RNewQ n w (.returned (.tuple #[.agg #[.int .i64 0, .slice none 0 0], .int .i64 161])) W) := fun W hW => ⟨hW, by rw [if_neg hn]⟩
    have HB : Hid (Below w.heap.size w (w.alloc (.cells #[.int .i64 0, .slice none 0 0] 28))) := bl1 w _
    have HG : Hid ((w.alloc (.cells #[.int .i64 0, .slice none 0 0] 28)).heap[w.heap.size]? = some (.cells #[.int .i64 0, .slice none 0 0] 28)) := heap_alloc_new _ _
    generalize RNewQ n w = P at *
    by_cases h1 : n < 1
    · clear hn
      go_enter Try.func10, Try.ntmps10
      go_wp2_with fail
      refine bodyPost_ret (ret_A2 Try.results10 _ w.heap.size rfl _ _ _ HG.out) rfl ?_
      exact HF.out _ HB.out
    · have h2 : 512 < n := by omega
      clear hn
      go_enter Try.func10, Try.ntmps10
      go_wp2_with fail
      refine bodyPost_ret (ret_A2 Try.results10 _ w.heap.size rfl _ _ _ HG.out) rfl ?_
      exact HF.out _ HB.out
end Go.Proofs.Ytdohclnmcdempaa
