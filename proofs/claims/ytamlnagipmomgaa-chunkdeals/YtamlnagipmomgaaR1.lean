/- The document's dealer: what it is, whose an age is, and how it is made; a span held against ages. -/
import Derived.Test.YtamlnagipmomgaaOwA
namespace Go.Proofs.Ytamlnagipmomgaa
open Go.RowKit Go.Maps
set_option linter.unusedVariables false

def rdC (p s k n next : Int) (tv : Value) : Array Value := #[.int .i64 p, .int .i64 s, .int .i64 k, .int .i64 n, .int .i64 next, tv]
def rdV (p s k n next : Int) (tv : Value) : Value := .agg #[.int .i64 p, .int .i64 s, .int .i64 k, .int .i64 n, .int .i64 next, tv]
/-- the document's dealer in a block of its own -/
def RB (w : World) (g : Nat) (p s k n next : Int) (tv : Value) : Prop := w.heap[g]? = some (.cells #[.int .i64 p, .int .i64 s, .int .i64 k, .int .i64 n, .int .i64 next, tv] 49)
section
variable {w w' : World} {g : Nat} {p s k n next : Int} {tv : Value}
theorem RB.all (h : RB w g p s k n next tv) : w.cell? ⟨g, 0, none⟩ = some (.int .i64 p) ∧ w.cell? ⟨g, 1, none⟩ = some (.int .i64 s) ∧ w.cell? ⟨g, 2, none⟩ = some (.int .i64 k) ∧ w.cell? ⟨g, 3, none⟩ = some (.int .i64 n) ∧ w.cell? ⟨g, 4, none⟩ = some (.int .i64 next) ∧ w.cell? ⟨g, 5, none⟩ = some tv := by
  unfold RB at h
  refine ⟨?_, ?_, ?_, ?_, ?_, ?_⟩ <;> (rw [cell_of_row w g _ _ _ _ h]; rfl)
theorem RB.lt (h : RB w g p s k n next tv) : g < w.heap.size := (Array.getElem?_eq_some_iff.1 h).1
theorem RB.below (h : RB w g p s k n next tv) (b : Below w.heap.size w w') : RB w' g p s k n next tv := (b.block _ h.lt).trans h
theorem RB.frz (h : RB w g p s k n next tv) (i : Nat) : w.frozen? ⟨g, i, none⟩ = false := frozen_of_row w g i _ _ h
theorem RB.set4 (h : RB w g p s k n next tv) (z : Int) : RB (w.setCell ⟨g, 4, none⟩ (.int .i64 z)) g p s k n z tv := by unfold RB; rw [heap_setCell_same w g 4 _ 49 _ h]; rfl
theorem RB.set5 (h : RB w g p s k n next tv) (u : Value) : RB (w.setCell ⟨g, 5, none⟩ u) g p s k n next u := by unfold RB; rw [heap_setCell_same w g 5 _ 49 _ h]; rfl
theorem RB.new (w : World) (p s k n next : Int) (tv : Value) : RB (w.alloc (.cells #[.int .i64 p, .int .i64 s, .int .i64 k, .int .i64 n, .int .i64 next, tv] 49)) w.heap.size p s k n next tv := heap_alloc_new _ _
end
theorem size31 : (Try.prog.info? 49).map (·.size) = some 6 := by kernel_rfl
theorem ret_rd {fn : Func} {q u : Nat} (h : fn.results = #[.cell q 49, .tmp u]) (tmps : Array Value) (g : Nat) (hb : tmps.getD q undef = .pointer (some ⟨g, 0, none⟩)) (W : World) (p s k n next : Int) (tv : Value) (hg : RB W g p s k n next tv) :
    (results fn tmps).run Try.prog W = .ok (.tuple #[rdV p s k n next tv, tmps.getD u undef]) W := by
  rw [results_cell_tmp h, hb]
  simp [asAddr, run_loadVar_row W g 49 49 #[.int .i64 p, .int .i64 s, .int .i64 k, .int .i64 n, .int .i64 next, tv] _ _ hg Try.underlying49 rfl size31, rdV]
set_option maxRecDepth 100000 in
set_option maxHeartbeats 2000000 in
theorem owner_any (p next : Int) (S W : Nat) (n : Int) (tv : Value) (a : Nat) (hS : 1 ≤ S) (hW : 1 ≤ W) (ha : a ≤ 200) (w : World) : Calls Try.prog 30 #[rdV p (S : Int) (W : Int) n next tv, .int .i64 (a : Int)] w fun e w' => e = .returned (.int .i64 ((a / S % W : Nat) : Int)) ∧ Below w.heap.size w w' := by
  unfold rdV
  obtain ⟨J, hJ⟩ : ∃ J : Nat, a / S = J := ⟨_, rfl⟩
  obtain ⟨R, hR⟩ : ∃ R : Nat, J % W = R := ⟨_, rfl⟩
  have q0 : ((S : Int)) ≠ 0 := by omega
  have q1 : ((W : Int)) ≠ 0 := by omega
  have q3 : wrap64 ((a : Int) / (S : Int)) = (J : Int) := by
    have e : (a : Int) / (S : Int) = ((a / S : Nat) : Int) := by simp
    rw [e, hJ]
    exact w64in _ ⟨Int.le_trans (show (-9223372036854775808 : Int) ≤ 0 by omega) (Int.natCast_nonneg _), Int.le_trans (Int.ofNat_le.2 (show J ≤ 200 by rw [← hJ]; exact Nat.le_trans (Nat.div_le_self a S) ha)) (by omega)⟩
  have q4 : Int.tmod (J : Int) (W : Int) = (R : Int) := by rw [Int.tmod_eq_emod_of_nonneg (Int.natCast_nonneg _), ← hR]; simp
  rw [hJ, hR]
  clear hJ hR
  go_enter Try.func30, Try.ntmps30
  go_wp2_with fail
  go_quiet (fail)
  go_wp2
  go_ret
  exact ⟨rfl, Below.dN (bl1 _ _) _⟩
/-- a slice of new memory -/
def NewV (base : Nat) (v : Value) : Prop := ∀ a l c, v = .slice (some a) l c → base ≤ a.block
theorem IZ.newV {w : World} {base b2 : Nat} {v : Value} {l : List Int} (h : IZ w base v l) (hb : b2 ≤ base) : NewV b2 v := by
  intro a m c e
  rcases h.2 with ⟨e2, _⟩ | ⟨g, cap, cur, e2, h1, _⟩
  · rw [e2] at e; cases e
  · rw [e2] at e; injection e with e; injection e with e; subst e; exact Nat.le_trans hb h1
def RNewQ (p s k n : Int) (w : World) (e : Ending) (w' : World) : Prop :=
  Below w.heap.size w w' ∧ (errN p s k n ≠ 0 → e = .returned (.tuple #[rdV 0 0 0 0 0 (.slice none 0 0), .int .i64 (errN p s k n)])) ∧ (errN p s k n = 0 → ∃ tv, e = .returned (.tuple #[rdV p s k n 0 tv, .int .i64 0]) ∧ GSl w' tv (List.replicate k.toNat 0) ∧ NewV w.heap.size tv)
theorem RNewQ.no {p s k n z : Int} {w w' : World} (h : errN p s k n = z) (hz : z ≠ 0) (hb : Below w.heap.size w w') : RNewQ p s k n w (.returned (.tuple #[rdV 0 0 0 0 0 (.slice none 0 0), .int .i64 z])) w' := ⟨hb, fun _ => by rw [h], fun q => absurd (h.symm.trans q) hz⟩
theorem GSl.blk {w : World} {g : Nat} {l : List Int} (h : w.heap[g]? = some (.cells (ints l) 3)) (hl : l.length ≤ 100000) : GSl w (.slice (some ⟨g, 0, none⟩) l.length l.length) l :=
  ⟨_, _, g, 0, rfl, Nat.le_refl _, by unfold maxLen; omega, fun _ => rfl, fun i hi => by rw [Nat.zero_add, cell_of_row w g i _ _ _ h, ints_at _ _ hi]⟩
abbrev Z31 : Obj := .cells #[.int .i64 0, .int .i64 0, .int .i64 0, .int .i64 0, .int .i64 0, .slice none 0 0] 49
set_option maxRecDepth 100000 in
set_option maxHeartbeats 2000000 in
theorem rnew_any (p s k n : Int) (w : World) : Calls Try.prog 16 #[.int .i64 p, .int .i64 s, .int .i64 k, .int .i64 n] w (RNewQ p s k n w) := by
  obtain ⟨P, hP⟩ : ∃ P, RNewQ p s k n w = P := ⟨_, rfl⟩
  have HP : Hid (RNewQ p s k n w = P) := hP
  rw [hP]
  clear hP
  have HR : Hid (∀ {fn : Func} {q u : Nat} (h : fn.results = #[.cell q 49, .tmp u]) (tmps : Array Value) (hb : tmps.getD q undef = .pointer (some ⟨w.heap.size, 0, none⟩)), (results fn tmps).run Try.prog (w.alloc Z31) = .ok (.tuple #[rdV 0 0 0 0 0 (.slice none 0 0), tmps.getD u undef]) (w.alloc Z31)) := fun h tmps hb => ret_rd h tmps _ hb _ 0 0 0 0 0 (.slice none 0 0) (RB.new w 0 0 0 0 0 _)
  by_cases hp : p = 1 ∨ p = 2 ∨ p = 3
  · have HE : Hid (errN p s k n = if s < 1 ∨ 200 < s then 161 else if k < 1 ∨ 8 < k then 162 else if n < 0 ∨ 200 < n then 151 else 0) := by show _ = _; unfold errN; rw [if_neg (by simp [hp])]
    by_cases q0 : s < 1
    · rcases hp with rfl | rfl | rfl
      all_goals
        have HF : Hid (P (.returned (.tuple #[rdV 0 0 0 0 0 (.slice none 0 0), .int .i64 161])) (w.alloc Z31)) := by show P _ _; rw [← HP.out]; exact RNewQ.no (by rw [HE.out, if_pos (.inl q0)]) (by omega) (bl1 _ _)
        go_enter Try.func16, Try.ntmps16
        go_wp2_with fail
        refine bodyPost_ret (HR.out Try.results16 _ rfl) rfl ?_
        exact HF.out
    by_cases q1 : 200 < s
    · rcases hp with rfl | rfl | rfl
      all_goals
        have HF : Hid (P (.returned (.tuple #[rdV 0 0 0 0 0 (.slice none 0 0), .int .i64 161])) (w.alloc Z31)) := by show P _ _; rw [← HP.out]; exact RNewQ.no (by rw [HE.out, if_pos (.inr q1)]) (by omega) (bl1 _ _)
        go_enter Try.func16, Try.ntmps16
        go_wp2_with fail
        refine bodyPost_ret (HR.out Try.results16 _ rfl) rfl ?_
        exact HF.out
    by_cases q2 : k < 1
    · rcases hp with rfl | rfl | rfl
      all_goals
        have HF : Hid (P (.returned (.tuple #[rdV 0 0 0 0 0 (.slice none 0 0), .int .i64 162])) (w.alloc Z31)) := by show P _ _; rw [← HP.out]; exact RNewQ.no (by rw [HE.out, if_neg (by omega), if_pos (.inl q2)]) (by omega) (bl1 _ _)
        go_enter Try.func16, Try.ntmps16
        go_wp2_with fail
        refine bodyPost_ret (HR.out Try.results16 _ rfl) rfl ?_
        exact HF.out
    by_cases q3 : 8 < k
    · rcases hp with rfl | rfl | rfl
      all_goals
        have HF : Hid (P (.returned (.tuple #[rdV 0 0 0 0 0 (.slice none 0 0), .int .i64 162])) (w.alloc Z31)) := by show P _ _; rw [← HP.out]; exact RNewQ.no (by rw [HE.out, if_neg (by omega), if_pos (.inr q3)]) (by omega) (bl1 _ _)
        go_enter Try.func16, Try.ntmps16
        go_wp2_with fail
        refine bodyPost_ret (HR.out Try.results16 _ rfl) rfl ?_
        exact HF.out
    by_cases q4 : n < 0
    · rcases hp with rfl | rfl | rfl
      all_goals
        have HF : Hid (P (.returned (.tuple #[rdV 0 0 0 0 0 (.slice none 0 0), .int .i64 151])) (w.alloc Z31)) := by show P _ _; rw [← HP.out]; exact RNewQ.no (by rw [HE.out, if_neg (by omega), if_neg (by omega), if_pos (.inl q4)]) (by omega) (bl1 _ _)
        go_enter Try.func16, Try.ntmps16
        go_wp2_with fail
        refine bodyPost_ret (HR.out Try.results16 _ rfl) rfl ?_
        exact HF.out
    by_cases q5 : 200 < n
    · rcases hp with rfl | rfl | rfl
      all_goals
        have HF : Hid (P (.returned (.tuple #[rdV 0 0 0 0 0 (.slice none 0 0), .int .i64 151])) (w.alloc Z31)) := by show P _ _; rw [← HP.out]; exact RNewQ.no (by rw [HE.out, if_neg (by omega), if_neg (by omega), if_pos (.inr q5)]) (by omega) (bl1 _ _)
        go_enter Try.func16, Try.ntmps16
        go_wp2_with fail
        refine bodyPost_ret (HR.out Try.results16 _ rfl) rfl ?_
        exact HF.out
    obtain ⟨K, rfl⟩ : ∃ K : Nat, k = (K : Int) := ⟨k.toNat, by omega⟩
    have hmd := made23 K (by omega)
    have HE0 : Hid (errN p s (K : Int) n = 0) := by show _ = _; rw [HE.out, if_neg (by omega), if_neg (by omega), if_neg (by omega)]
    have HF : Hid (∀ V, Below w.heap.size w V → V.heap[w.heap.size + 1]? = some (.cells (ints (List.replicate K 0)) 3) → P (.returned (.tuple #[rdV p s (K : Int) n 0 (.slice (some ⟨w.heap.size + 1, 0, none⟩) K K), .int .i64 0])) V) := by
      intro V hV hg
      rw [← HP.out]
      refine ⟨hV, fun q => absurd HE0.out q, fun _ => ⟨_, rfl, ?_, fun a l c e => by injection e with e; injection e with e; subst e; show w.heap.size ≤ w.heap.size + 1; omega⟩⟩
      have := GSl.blk hg (by rw [List.length_replicate]; omega)
      rw [List.length_replicate] at this
      simpa using this
    have HB2 : Hid (∀ A B, Below w.heap.size w ((w.alloc A).alloc B)) := fun A B => (bl1 w A).trans ((bl1 _ B).mono (bl1 w A).size)
    have HG2 : Hid (∀ A, ((w.alloc A).alloc (.cells (ints (List.replicate K 0)) 3)).heap[w.heap.size + 1]? = some (.cells (ints (List.replicate K 0)) 3)) := fun A => heap_alloc2_new w A _
    have HR2 : Hid (∀ B, RB ((w.alloc (.cells #[.int .i64 p, .int .i64 s, .int .i64 (K : Int), .int .i64 n, .int .i64 0, .slice (some ⟨w.heap.size + 1, 0, none⟩) K K] 49)).alloc B) w.heap.size p s (K : Int) n 0 (.slice (some ⟨w.heap.size + 1, 0, none⟩) K K)) := fun B => (RB.new w p s (K : Int) n 0 _).below (bl1 _ B)
    rcases hp with rfl | rfl | rfl
    all_goals
      go_enter Try.func16, Try.ntmps16
      go_wp2_with fail
      refine bodyPost_ret (ret_rd Try.results16 _ w.heap.size rfl _ _ _ _ _ _ _ (HR2.out _)) rfl ?_
      exact HF.out _ (HB2.out _ _) (HG2.out _)
  · have q1 : ¬ p = 1 := fun q => hp (.inl q)
    have q2 : ¬ p = 2 := fun q => hp (.inr (.inl q))
    have q3 : ¬ p = 3 := fun q => hp (.inr (.inr q))
    have b1 : (p != 1) = true := by simp [q1]
    have b2 : (p != 2) = true := by simp [q2]
    have b3 : (p != 3) = true := by simp [q3]
    have HF : Hid (P (.returned (.tuple #[rdV 0 0 0 0 0 (.slice none 0 0), .int .i64 160])) (w.alloc Z31)) := by show P _ _; rw [← HP.out]; exact RNewQ.no (by unfold errN; rw [if_pos hp]) (by omega) (bl1 _ _)
    clear hp
    go_enter Try.func16, Try.ntmps16
    go_wp2_with fail
    refine bodyPost_ret (HR.out Try.results16 _ rfl) rfl ?_
    exact HF.out
end Go.Proofs.Ytamlnagipmomgaa
