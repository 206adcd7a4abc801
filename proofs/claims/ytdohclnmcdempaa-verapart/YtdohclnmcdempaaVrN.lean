/- An age writes a word. -/
import Derived.Test.YtdohclnmcdempaaVrL
namespace Go.Proofs.Ytdohclnmcdempaa
open Go.RowKit Go.Maps
set_option linter.unusedVariables false

/-- a store by its chains alone -/
def SS (w : World) (lab : Nat → Nat) (sb R W n : Nat) (K : Nat → Ch2) : Prop := ∃ ab ub hb wb mb ob L H C cv D, SV w lab sb ab ub hb wb mb ob R W n L H C cv D ∧ kf H C = K
def putE (R W : Nat) (K : Nat → Ch2) (z a : Int) : Int := if ¬ (0 ≤ z ∧ z < W) then 131 else if a < 0 then 210 else if hasK (K z.toNat) a then 0 else if totK W K = R then 200 else 0
def putF (R W : Nat) (K : Nat → Ch2) (z a v : Int) : Nat → Ch2 := if putE R W K z a = 0 then setF K z.toNat (putK (K z.toNat) a v) else K
def PutQ (lab : Nat → Nat) (sb R W n : Nat) (K : Nat → Ch2) (z a v : Int) (w : World) (e : Ending) (w' : World) : Prop :=
  e = .returned (.int .i64 (putE R W K z a)) ∧ ∃ lab', SS w' lab' sb R W (n + 1) (putF R W K z a v) ∧ LabQ lab lab' w w'
section
variable {w w' : World} {lab : Nat → Nat} {sb ab ub hb wb mb : Nat} {ob : Option Nat} {R W n : Nat} {L : List Nat} {H : Ch2} {C : List (List Nat)} {cv : List Value} {D : M1}
theorem SV.mono (h : SV w lab sb ab ub hb wb mb ob R W n L H C cv D) {n' : Nat} (hn : n ≤ n') : SV w lab sb ab ub hb wb mb ob R W n' L H C cv D :=
  ⟨h.bl, h.bH, h.bW, h.ar, h.lv, h.ch, h.mp.mono hn, h.md, h.ok, h.l1, h.l2, h.l3, h.l4, h.l5, h.l6, h.l7, h.l8, h.lt, h.wW⟩
theorem SV.tot (h : SV w lab sb ab ub hb wb mb ob R W n L H C cv D) : totK W (kf H C) + L.length = R := by
  have h1 := tot_kf C H
  rw [h.ok.hC] at h1
  rw [← h1]
  exact h.ok.cnt
theorem prs_one (H : Ch2) (s : Nat) (v : Int) (h : s < H.length) : (prs H).setIfInBounds (s * 2 + 1) (.int .i64 v) = prs (H.set s ((H.getD s (0, 0)).1, v)) := by
  have e : H.getD s (0, 0) = H[s] := by simp [List.getD, h]
  have h1 := prs_set H s H[s].1 v h
  have h0 : (H.flatMap fun x => [Value.int .i64 x.1, Value.int .i64 x.2]).set (2 * s) (.int .i64 H[s].1) = H.flatMap fun x => [Value.int .i64 x.1, Value.int .i64 x.2] := by
    have hg := prs_get H s h 0 (by omega)
    rw [Nat.add_zero] at hg
    apply List.ext_getElem?
    intro j
    by_cases hj : 2 * s = j
    · subst hj
      rw [List.getElem?_set_self (by rw [prs_len]; omega), hg]; rfl
    · rw [List.getElem?_set_ne hj]
  rw [h0] at h1
  rw [e]
  unfold prs
  apply Array.toList_inj.1
  rw [Array.toList_setIfInBounds, Nat.mul_comm]
  exact h1
theorem prs_two (H : Ch2) (s : Nat) (a v : Int) (h : s < H.length) : ((prs H).setIfInBounds (s * 2) (.int .i64 a)).setIfInBounds (s * 2 + 1) (.int .i64 v) = prs (H.set s (a, v)) := by
  have h1 := prs_set H s a v h
  unfold prs
  apply Array.toList_inj.1
  rw [Array.toList_setIfInBounds, Array.toList_setIfInBounds, Nat.mul_comm]
  exact h1
set_option maxRecDepth 100000 in
set_option maxHeartbeats 4000000 in
theorem put_no (h : SV w lab sb ab ub hb wb mb ob R W n L H C cv D) (z a v : Int) (hz : ¬ (0 ≤ z ∧ z < W)) : Calls Try.prog 26 #[.pointer (some ⟨sb, 0, none⟩), .int .i64 z, .int .i64 a, .int .i64 v] w (PutQ lab sb R W n (kf H C) z a v w) := by
  have HW := within_any h z
  rw [decide_eq_false hz] at HW
  have he : putE R W (kf H C) z a = 131 := by unfold putE; rw [if_pos hz]
  have HF : Hid (PutQ lab sb R W n (kf H C) z a v w (.returned (.int .i64 131)) w) := ⟨by rw [he], lab, ⟨ab, ub, hb, wb, mb, ob, L, H, C, cv, D, h.mono (Nat.le_succ _), by unfold putF; rw [he]; rfl⟩, LabQ.refl _ _⟩
  generalize PutQ lab sb R W n (kf H C) z a v w = P at *
  clear h he
  go_enter Try.func26, Try.ntmps26
  go_wp2_with fail
  refine HW.mono ?_
  rintro e w2 ⟨rfl, hw2⟩
  rw [hw2]
  clear hw2
  go_wp2
  first | exact HF.out | (go_ret; exact HF.out)
set_option maxRecDepth 100000 in
set_option maxHeartbeats 4000000 in
theorem put_age (h : SV w lab sb ab ub hb wb mb ob R W n L H C cv D) (i : Nat) (hi : i < W) (a v : Int) (ha : a < 0) : Calls Try.prog 26 #[.pointer (some ⟨sb, 0, none⟩), .int .i64 (i : Int), .int .i64 a, .int .i64 v] w (PutQ lab sb R W n (kf H C) (i : Int) a v w) := by
  have hz : 0 ≤ (i : Int) ∧ (i : Int) < W := by omega
  have HW := within_any h (i : Int)
  rw [decide_eq_true hz] at HW
  have he : putE R W (kf H C) (i : Int) a = 210 := by unfold putE; rw [if_neg (fun q => q hz), if_pos ha]
  have HF : Hid (PutQ lab sb R W n (kf H C) (i : Int) a v w (.returned (.int .i64 210)) w) := ⟨by rw [he], lab, ⟨ab, ub, hb, wb, mb, ob, L, H, C, cv, D, h.mono (Nat.le_succ _), by unfold putF; rw [he]; rfl⟩, LabQ.refl _ _⟩
  generalize PutQ lab sb R W n (kf H C) (i : Int) a v w = P at *
  clear h he
  go_enter Try.func26, Try.ntmps26
  go_wp2_with fail
  refine HW.mono ?_
  rintro e w2 ⟨rfl, hw2⟩
  rw [hw2]
  clear hw2
  go_wp2
  first | exact HF.out | (go_ret; exact HF.out)
set_option maxRecDepth 100000 in
set_option maxHeartbeats 4000000 in
theorem put_has (h : SV w lab sb ab ub hb wb mb ob R W n L H C cv D) (i : Nat) (hi : i < W) (a v : Int) (ha : 0 ≤ a ∧ a ≤ 9223372036854775807) (hh : hasK (kf H C i) a = true) : Calls Try.prog 26 #[.pointer (some ⟨sb, 0, none⟩), .int .i64 (i : Int), .int .i64 a, .int .i64 v] w (PutQ lab sb R W n (kf H C) (i : Int) a v w) := by
  have hz : 0 ≤ (i : Int) ∧ (i : Int) < W := by omega
  have HW := within_any h (i : Int)
  rw [decide_eq_true hz] at HW
  obtain ⟨cvi, hcv, hcw, hiz⟩ := h.cW i hi
  have HFi := find_any h i cvi hiz.gsl a
  unfold FindQ at HFi
  rw [hh] at HFi
  obtain ⟨hpl, hpa⟩ := has_at hh
  have hpc : pl (kf H C i) a < (cc C i).length := by
    have : (kf H C i).length = (cc C i).length := kc_len _ _
    omega
  obtain ⟨p, hp⟩ : ∃ p, pl (kf H C i) a = p := ⟨_, rfl⟩
  rw [hp] at hpc HFi
  obtain ⟨s, hs⟩ : ∃ s, (cc C i)[p] = s := ⟨_, rfl⟩
  have hsR : s < R := hs ▸ h.ok.lt i _ (List.getElem_mem _)
  have hsH : s < H.length := by rw [h.ok.hH]; exact hsR
  have hsa : (H.getD s (0, 0)).1 = a := by
    have e : (kf H C i)[pl (kf H C i) a] = H.getD (cc C i)[pl (kf H C i) a] (0, 0) := kc_at _ _ _ _ (by rw [hp]; exact hpc)
    have e2 : (cc C i)[pl (kf H C i) a]'(by rw [hp]; exact hpc) = s := by rw [← hs]; congr 1
    rw [e, e2] at hpa
    exact hpa
  obtain ⟨ok', hk'⟩ := h.ok.upd hi hpc a v hp.symm hh ha
  rw [hs] at ok' hk'
  have hmany : manyK W (kf (H.set s (a, v)) C) = manyK W (kf H C) := by
    funext b
    rw [hk']
    have := manyK_set W (kf H C) i hi (putK (kf H C i) a v) b
    rw [hasK_putK (k := kf H C i) (h.ok.st i)] at this
    by_cases e : b = a
    · subst e
      rw [show hasK (kf H C i) b = true from hh] at this
      simp at this; exact this
    · rw [show (decide (b = a) || hasK (kf H C i) b) = hasK (kf H C i) b by simp [e]] at this
      omega
  have he : putE R W (kf H C) (i : Int) a = 0 := by unfold putE; rw [if_neg (fun q => q hz), if_neg (by omega), Int.toNat_natCast, if_pos hh]
  have HQ : Hid (∀ A, PutQ lab sb R W n (kf H C) (i : Int) a v w (.returned (.int .i64 0)) (((w.alloc A).setCell ⟨hb, s * 2 + 1, none⟩ (.int .i64 v)).drew)) := fun A => by
    have hB : Below w.heap.size w (w.alloc A) := bl1 w A
    have m1 := (h.sm).below hB
    obtain ⟨m2, q2⟩ := m1.held (w' := ((w.alloc A).setCell ⟨hb, s * 2 + 1, none⟩ (.int .i64 v)).drew) (H.set s (a, v)) (by rw [List.length_set]; exact m1.lh) (by
      show ((w.alloc A).setCell ⟨hb, s * 2 + 1, none⟩ (.int .i64 v)).heap[hb]? = _
      rw [heap_setCell_same (w.alloc A) hb _ _ 62 _ m1.bH, prs_one H s v hsH, hsa]) (fun k hk => Below.heap_setCell _ _ _ _ (by show k ≠ hb; exact hk)) (by simp [World.setCell, World.drew]) rfl rfl rfl
    refine ⟨by rw [he], lab, ⟨ab, ub, hb, wb, mb, ob, L, _, C, cv, D, (m2.sv ok' (by rw [hmany]; exact h.md)).mono (Nat.le_succ _), ?_⟩, (LabQ.of hB).trans q2⟩
    unfold putF
    rw [he, if_pos rfl, Int.toNat_natCast]
    exact hk'
  generalize PutQ lab sb R W n (kf H C) (i : Int) a v w = P at *
  have H1 : Hid (SV w lab sb ab ub hb wb mb ob R W n L H C cv D) := h
  obtain ⟨va, vc, vb, vo, e0, g2, _, g4, g5⟩ := hiz.gsl
  have hva := g4 (by rw [cs_len]; omega)
  subst hva
  subst e0
  have cs0 := g5 p (by rw [cs_len]; exact hpc)
  rw [cs_at _ _ _ hpc, hs] at cs0
  have cs1 : ∀ A, (w.alloc A).cell? ⟨vb, vo + p, none⟩ = some (.int .i64 (s : Int)) := fun A => ((bl1 w A).cell (p := ⟨vb, vo + p, none⟩) (World.block_lt_of_cell? w _ cs0)).trans cs0
  have c1 : ∀ A, (w.alloc A).cell? ⟨sb, 1, none⟩ = some (.slice (some ⟨hb, 0, none⟩) R R) := fun A => (H1.out.alloc A).c1
  have cv1 : ∀ A, (w.alloc A).cell? ⟨hb, s * 2 + 1, none⟩ = some (.int .i64 (H.getD s (0, 0)).2) := fun A => ((H1.out.alloc A).cH s hsR).2
  have fv1 : ∀ A, (w.alloc A).frozen? ⟨hb, s * 2 + 1, none⟩ = false := fun A => (H1.out.alloc A).fH _
  have c2 := h.c2
  generalize (H.getD s (0, 0)).2 = x2 at *
  rw [cs_len] at HFi hcw
  obtain ⟨m, hm⟩ : ∃ m, (cc C i).length = m := ⟨_, rfl⟩
  rw [hm] at HFi hpc hcw
  clear g5 g4 g2 cs0 hs hpl hpa hm hiz hcv hk' ok' hmany he hsa hsH hp h hh
  go_enter Try.func26, Try.ntmps26
  go_wp2_with fail
  refine HW.mono ?_
  rintro e w2 ⟨rfl, hw2⟩
  rw [hw2]
  clear hw2
  go_wp2_with fail
  refine HFi.mono ?_
  rintro e w2 ⟨rfl, A, rfl⟩
  have cs1 := cs1 A
  have c1 := c1 A
  have cv1 := cv1 A
  have fv1 := fv1 A
  have HQ := HQ.out A
  have HQ' : Hid (P (.returned (.int .i64 0)) (((w.alloc A).setCell ⟨hb, s * 2 + 1, none⟩ (.int .i64 v)).drew)) := HQ
  clear HQ
  go_upto_region 8 with fail
  generalize w.alloc A = V at *
  refine wp_region_still_tail 11 (by kernel_rfl) (by kernel_rfl) ?_
  simp only [List.take_succ_cons, List.take_zero, List.drop_succ_cons, List.drop_zero]
  repeat still_step
  refine wpStill_nil ?_
  go_wp2
  first | exact HQ'.out | (go_ret; exact HQ'.out)
end
end Go.Proofs.Ytdohclnmcdempaa
