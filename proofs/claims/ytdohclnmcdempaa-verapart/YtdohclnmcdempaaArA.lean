/- An arena as it lies in memory: how many slots are given out, free, and which. -/
import Derived.Test.YtdohclnmcdempaaMem
namespace Go.Proofs.Ytdohclnmcdempaa
open Go.RowKit Go.Maps
set_option linter.unusedVariables false

/-- an arena: its struct in block ab, which slots are used in block ub, those that were taken back in an own row -/
structure AR (w : World) (ab ub : Nat) (bv : Value) (n F : Nat) (B : List Nat) : Prop where
  bl : w.heap[ab]? = some (.cells #[.slice (some ⟨ub, 0, none⟩) n n, bv, .int .i64 (F : Int)] 70)
  bU : w.heap[ub]? = some (.cells (bls (useL n F B)) 4)
  bk : IZ w 0 bv (cs B)
  ne : ab ≠ ub
  ga : bv.ownBlock ≠ some ab
  gu : bv.ownBlock ≠ some ub
  ok : OkA n F B
section
variable {w w' : World} {ab ub : Nat} {bv : Value} {n F : Nat} {B : List Nat}
theorem AR.c0 (h : AR w ab ub bv n F B) : w.cell? ⟨ab, 0, none⟩ = some (.slice (some ⟨ub, 0, none⟩) n n) := by rw [cell_of_row w ab 0 _ _ _ h.bl]; rfl
theorem AR.c1 (h : AR w ab ub bv n F B) : w.cell? ⟨ab, 1, none⟩ = some bv := by rw [cell_of_row w ab 1 _ _ _ h.bl]; rfl
theorem AR.c2 (h : AR w ab ub bv n F B) : w.cell? ⟨ab, 2, none⟩ = some (.int .i64 (F : Int)) := by rw [cell_of_row w ab 2 _ _ _ h.bl]; rfl
theorem AR.cU (h : AR w ab ub bv n F B) (i : Nat) (hi : i < n) : w.cell? ⟨ub, i, none⟩ = some (.bool (!decide (i ∈ freeL n F B))) := by
  rw [cell_of_row w ub i _ _ _ h.bU, bls_at _ _ (by rw [useL_len]; exact hi), useL_free h.ok i hi]
theorem AR.f (h : AR w ab ub bv n F B) (j : Nat) : w.frozen? ⟨ab, j, none⟩ = false := frozen_of_row w ab j _ _ h.bl
theorem AR.fU (h : AR w ab ub bv n F B) (j : Nat) : w.frozen? ⟨ub, j, none⟩ = false := frozen_of_row w ub j _ _ h.bU
theorem AR.lt (h : AR w ab ub bv n F B) : ab < w.heap.size ∧ ub < w.heap.size := ⟨(Array.getElem?_eq_some_iff.1 h.bl).1, (Array.getElem?_eq_some_iff.1 h.bU).1⟩
theorem AR.keep (h : AR w ab ub bv n F B) (k1 : w'.heap[ab]? = w.heap[ab]?) (k2 : w'.heap[ub]? = w.heap[ub]?) (k3 : ∀ g, bv.ownBlock = some g → w'.heap[g]? = w.heap[g]?) : AR w' ab ub bv n F B :=
  ⟨k1.trans h.bl, k2.trans h.bU, h.bk.keepO k3, h.ne, h.ga, h.gu, h.ok⟩
theorem AR.below (h : AR w ab ub bv n F B) (c : Below w.heap.size w w') : AR w' ab ub bv n F B := h.keep (c.block _ h.lt.1) (c.block _ h.lt.2) (fun g hg => c.block _ (h.bk.own hg).2)
theorem AR.bl3 (h : AR w ab ub bv n F B) : B.length ≤ F ∧ F ≤ n ∧ n ≤ 512 := ⟨nodup_len F B h.ok.nd h.ok.lt, h.ok.hF, h.ok.n2⟩
theorem AR.sl (h : AR w ab ub bv n F B) : ∃ a c, bv = .slice a B.length c := by
  obtain ⟨a, c, e⟩ := h.bk.sl
  rw [cs_len] at e
  exact ⟨a, c, e⟩
set_option maxRecDepth 100000 in
set_option maxHeartbeats 2000000 in
theorem live_any (w : World) (h : AR w ab ub bv n F B) : Calls Try.prog 17 #[.pointer (some ⟨ab, 0, none⟩)] w (QD w (.int .i64 ((F : Int) - (B.length : Int)))) := by
  obtain ⟨hb, hf, hn⟩ := h.bl3
  have c1 := h.c1
  have c2 := h.c2
  obtain ⟨a, c, rfl⟩ := h.sl
  have hw : wrap64 ((F : Int) - (B.length : Int)) = (F : Int) - (B.length : Int) := w64in _ ⟨by omega, by omega⟩
  clear h
  generalize B.length = m at *
  obtain ⟨P, hP⟩ : ∃ P, QD w (.int .i64 ((F : Int) - (m : Int))) = P := ⟨_, rfl⟩
  have HF : Hid (∀ k, P (.returned (.int .i64 ((F : Int) - (m : Int)))) (w.drewN k)) := fun k => by rw [← hP]; exact QD.mk _ _ k
  rw [hP]
  clear hP
  go_enter Try.func17, Try.ntmps17
  go_wp2_with fail
  go_quiet (fail)
  go_wp2
  first | exact HF.out _ | (go_ret; exact HF.out _)
set_option maxRecDepth 100000 in
set_option maxHeartbeats 2000000 in
theorem free_any (w : World) (h : AR w ab ub bv n F B) : Calls Try.prog 16 #[.pointer (some ⟨ab, 0, none⟩)] w (QD w (.int .i64 ((freeL n F B).length : Int))) := by
  obtain ⟨hb, hf, hn⟩ := h.bl3
  have c0 := h.c0
  have HC : Hid (∀ k, Calls Try.prog 17 #[.pointer (some ⟨ab, 0, none⟩)] (w.drewN k) (QD (w.drewN k) (.int .i64 ((F : Int) - (B.length : Int))))) := fun k => live_any _ (h.below (Below.dN (Below.refl _ _) k))
  rw [freeL_len h.ok.hF]
  generalize B.length = m at *
  have hw : wrap64 ((n : Int) - ((F : Int) - (m : Int))) = (n : Int) - ((F : Int) - (m : Int)) := w64in _ ⟨by omega, by omega⟩
  rw [show ((m + (n - F) : Nat) : Int) = (n : Int) - ((F : Int) - (m : Int)) by omega]
  clear h
  obtain ⟨P, hP⟩ : ∃ P, QD w (.int .i64 ((n : Int) - ((F : Int) - (m : Int)))) = P := ⟨_, rfl⟩
  have HF : Hid (∀ k, P (.returned (.int .i64 ((n : Int) - ((F : Int) - (m : Int))))) (w.drewN k)) := fun k => by rw [← hP]; exact QD.mk _ _ k
  rw [hP]
  clear hP
  go_enter Try.func16, Try.ntmps16
  go_wp2_with fail
  go_quiet (first | (go_at_call 17; exact Calls.quiet_of (HC.out _)))
  go_wp2
  first | exact HF.out _ | (go_ret; exact HF.out _)
set_option maxRecDepth 100000 in
set_option maxHeartbeats 2000000 in
theorem used_any (w : World) (h : AR w ab ub bv n F B) (s : Int) : Calls Try.prog 18 #[.pointer (some ⟨ab, 0, none⟩), .int .i64 s] w (QD w (.bool (usedB n (freeL n F B) s))) := by
  have c0 := h.c0
  by_cases h1 : 0 ≤ s
  · obtain ⟨i, rfl⟩ : ∃ i : Nat, s = (i : Int) := ⟨s.toNat, by omega⟩
    by_cases h2 : i < n
    · have cu := h.cU i h2
      have e : usedB n (freeL n F B) (i : Int) = !decide (i ∈ freeL n F B) := by rw [usedB_nat]; simp [h2]
      rw [e]
      clear h e
      generalize (!decide (i ∈ freeL n F B)) = b at *
      have HF : Hid (QD w (.bool b) (.returned (.bool b)) w) := QD.mk0 _ _
      generalize QD w (.bool b) = P at *
      go_enter Try.func18, Try.ntmps18
      go_wp2
      first | exact HF.out | (go_ret; exact HF.out)
    · have e : usedB n (freeL n F B) (i : Int) = false := by rw [usedB_nat]; simp [h2]
      rw [e]
      clear h e
      have HF : Hid (QD w (.bool false) (.returned (.bool false)) w) := QD.mk0 _ _
      generalize QD w (.bool false) = P at *
      go_enter Try.func18, Try.ntmps18
      go_wp2
      first | exact HF.out | (go_ret; exact HF.out)
  · have e : usedB n (freeL n F B) s = false := by unfold usedB; exact decide_eq_false (fun q => h1 q.1)
    rw [e]
    clear h e
    have HF : Hid (QD w (.bool false) (.returned (.bool false)) w) := QD.mk0 _ _
    generalize QD w (.bool false) = P at *
    go_enter Try.func18, Try.ntmps18
    go_wp2
    first | exact HF.out | (go_ret; exact HF.out)
end
end Go.Proofs.Ytdohclnmcdempaa
