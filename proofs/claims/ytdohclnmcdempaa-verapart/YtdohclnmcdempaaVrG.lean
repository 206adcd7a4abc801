/- A store is asked. -/
import Derived.Test.YtdohclnmcdempaaVrF
namespace Go.Proofs.Ytdohclnmcdempaa
open Go.RowKit Go.Maps
set_option linter.unusedVariables false

/-- the word that a place names; W: none -/
def wi (W : Nat) (at_ : Int) : Nat := if 0 ≤ at_ ∧ at_ < W then at_.toNat else W
theorem wi_in {W i : Nat} (h : i < W) : wi W (i : Int) = i := by unfold wi; rw [if_pos ⟨by omega, by omega⟩]; simp
theorem wi_out {W : Nat} {z : Int} (h : ¬ (0 ≤ z ∧ z < W)) : wi W z = W := by unfold wi; rw [if_neg h]
theorem keyInt (a : Int) (h : -9223372036854775808 ≤ a ∧ a ≤ 9223372036854775807) : keyOf Try.prog 3 (.int .i64 a) = some (klit a) := keyOf_int_mk Try.underlying3 (by simp only [Lit.wf, Bool.and_eq_true, decide_eq_true_eq]; exact h)
theorem law3 : Keyed Try.prog 3 := int_keyed Try.underlying3
theorem zero3 (w : World) : (zeroValue 3).run Try.prog w = .ok (.int .i64 0) w := by kernel_rfl
section
variable {w w' : World} {lab : Nat → Nat} {sb ab ub hb wb mb : Nat} {ob : Option Nat} {R W n : Nat} {L : List Nat} {H : Ch2} {C : List (List Nat)} {cv : List Value} {D : M1}
set_option maxRecDepth 100000 in
set_option maxHeartbeats 2000000 in
theorem within_any (h : SV w lab sb ab ub hb wb mb ob R W n L H C cv D) (z : Int) : Calls Try.prog 44 #[.pointer (some ⟨sb, 0, none⟩), .int .i64 z] w (Same w (.bool (decide (0 ≤ z ∧ z < W)))) := by
  have c2 := h.c2
  clear h
  by_cases h1 : 0 ≤ z
  · obtain ⟨i, rfl⟩ : ∃ i : Nat, z = (i : Int) := ⟨z.toNat, by omega⟩
    by_cases h2 : i < W
    · rw [decide_eq_true (show 0 ≤ (i : Int) ∧ (i : Int) < W by omega)]
      have HF : Hid (Same w (.bool true) (.returned (.bool true)) w) := ⟨rfl, rfl⟩
      have e2 : decide (i < W) = true := by simp; omega
      generalize Same w (.bool true) = P at *
      go_enter Try.func44, Try.ntmps44
      go_wp2
      first | exact HF.out | (go_ret; exact HF.out)
    · rw [decide_eq_false (show ¬ (0 ≤ (i : Int) ∧ (i : Int) < W) by omega)]
      have HF : Hid (Same w (.bool false) (.returned (.bool false)) w) := ⟨rfl, rfl⟩
      have e2 : decide (i < W) = false := by simp; omega
      generalize Same w (.bool false) = P at *
      go_enter Try.func44, Try.ntmps44
      go_wp2
      first | exact HF.out | (go_ret; exact HF.out)
  · rw [decide_eq_false (show ¬ (0 ≤ z ∧ z < W) by omega)]
    have HF : Hid (Same w (.bool false) (.returned (.bool false)) w) := ⟨rfl, rfl⟩
    generalize Same w (.bool false) = P at *
    go_enter Try.func44, Try.ntmps44
    go_wp2
    first | exact HF.out | (go_ret; exact HF.out)
set_option maxRecDepth 100000 in
set_option maxHeartbeats 2000000 in
theorem chain_any (h : SV w lab sb ab ub hb wb mb ob R W n L H C cv D) (z : Int) : Calls Try.prog 47 #[.pointer (some ⟨sb, 0, none⟩), .int .i64 z] w (Same w (cv.getD (wi W z) (.slice none 0 0))) := by
  have HW := within_any h z
  have c2 := h.c2
  by_cases hz : 0 ≤ z ∧ z < W
  · obtain ⟨i, rfl⟩ : ∃ i : Nat, z = (i : Int) := ⟨z.toNat, by omega⟩
    have hi : i < W := by omega
    obtain ⟨v, h1, h2, h3⟩ := h.cW i hi
    rw [wi_in hi, show cv.getD i (.slice none 0 0) = v by simp [List.getD, h1]]
    rw [decide_eq_true hz] at HW
    obtain ⟨a, c, rfl⟩ := h3.sl
    generalize (cs (cc C i)).length = l at *
    have HF : Hid (Same w (.slice a l c) (.returned (.slice a l c)) w) := ⟨rfl, rfl⟩
    generalize Same w (.slice a l c) = P at *
    clear h h1 h3 hz
    go_enter Try.func47, Try.ntmps47
    go_wp2_with fail
    refine HW.mono ?_
    rintro e w2 ⟨rfl, hw2⟩
    rw [hw2]
    clear hw2
    go_wp2
    first | exact HF.out | (go_ret; exact HF.out)
  · rw [wi_out hz, show cv.getD W (.slice none 0 0) = .slice none 0 0 by simp [List.getD, h.lv]]
    rw [decide_eq_false hz] at HW
    have HF : Hid (Same w (.slice none 0 0) (.returned (.slice none 0 0)) w) := ⟨rfl, rfl⟩
    generalize Same w (.slice none 0 0) = P at *
    clear h hz
    go_enter Try.func47, Try.ntmps47
    go_wp2_with fail
    refine HW.mono ?_
    rintro e w2 ⟨rfl, hw2⟩
    rw [hw2]
    clear hw2
    go_wp2
    first | exact HF.out | (go_ret; exact HF.out)
/-- the chain that is handed back -/
theorem SV.chv (h : SV w lab sb ab ub hb wb mb ob R W n L H C cv D) (z : Int) : IZ w 0 (cv.getD (wi W z) (.slice none 0 0)) (cs (cc C (wi W z))) := by
  by_cases hz : 0 ≤ z ∧ z < W
  · obtain ⟨i, rfl⟩ : ∃ i : Nat, z = (i : Int) := ⟨z.toNat, by omega⟩
    have hi : i < W := by omega
    obtain ⟨v, h1, h2, h3⟩ := h.cW i hi
    rw [wi_in hi, show cv.getD i (.slice none 0 0) = v by simp [List.getD, h1]]
    exact h3
  · rw [wi_out hz, show cv.getD W (.slice none 0 0) = .slice none 0 0 by simp [List.getD, h.lv], cc_out (by rw [h.ok.hC]; exact Nat.le_refl _)]
    exact IZ.nil _ _
set_option maxRecDepth 100000 in
set_option maxHeartbeats 2000000 in
theorem slive_any (h : SV w lab sb ab ub hb wb mb ob R W n L H C cv D) : Calls Try.prog 30 #[.pointer (some ⟨sb, 0, none⟩)] w (QD w (.int .i64 (tot C : Int))) := by
  have HL := h.ar.live
  have c0 := h.c0
  have hc := h.ok.cnt
  rw [show (R : Int) - (L.length : Int) = (tot C : Int) by omega] at HL
  clear h hc
  generalize tot C = t at *
  have HF : Hid (∀ k, QD w (.int .i64 (t : Int)) (.returned (.int .i64 (t : Int))) (w.drewN k)) := fun k => QD.mk _ _ k
  go_enter Try.func30, Try.ntmps30
  go_wp2_with fail
  refine HL.mono ?_
  rintro e w2 ⟨rfl, k, rfl⟩
  generalize QD w (.int .i64 (t : Int)) = P at *
  go_wp2
  first | exact HF.out k | (go_ret; exact HF.out k)
set_option maxRecDepth 100000 in
set_option maxHeartbeats 2000000 in
theorem sfree_any (h : SV w lab sb ab ub hb wb mb ob R W n L H C cv D) : Calls Try.prog 38 #[.pointer (some ⟨sb, 0, none⟩)] w (QD w (.int .i64 (L.length : Int))) := by
  have HL := h.ar.free
  have c0 := h.c0
  clear h
  generalize L.length = t at *
  have HF : Hid (∀ k, QD w (.int .i64 (t : Int)) (.returned (.int .i64 (t : Int))) (w.drewN k)) := fun k => QD.mk _ _ k
  go_enter Try.func38, Try.ntmps38
  go_wp2_with fail
  refine HL.mono ?_
  rintro e w2 ⟨rfl, k, rfl⟩
  generalize QD w (.int .i64 (t : Int)) = P at *
  go_wp2
  first | exact HF.out k | (go_ret; exact HF.out k)
set_option maxRecDepth 100000 in
set_option maxHeartbeats 2000000 in
theorem many_any (h : SV w lab sb ab ub hb wb mb ob R W n L H C cv D) (a : Int) (ha : -9223372036854775808 ≤ a ∧ a ≤ 9223372036854775807) : Calls Try.prog 41 #[.pointer (some ⟨sb, 0, none⟩), .int .i64 a] w (Same w (.int .i64 (manyK W (kf H C) a : Int))) := by
  have c3 := h.c3
  have HM := h.mp
  have hat := (h.md a ha).1
  generalize manyK W (kf H C) a = t at *
  obtain ⟨c, hrun, hat2, _⟩ := HM.lookup_int law3 Try.underlying73 Try.underlying3 (zero3 w) (keyInt a ha)
  have hct : c = (t : Int) := by
    have := hat2.symm.trans hat
    unfold i64d at this
    injection this with this
    injection this
  subst hct
  have HF : Hid (Same w (.int .i64 (t : Int)) (.returned (.int .i64 (t : Int))) w) := ⟨rfl, rfl⟩
  generalize Same w (.int .i64 (t : Int)) = P at *
  clear h HM hat hat2
  go_enter Try.func41, Try.ntmps41
  go_wp2
  first | exact HF.out | (go_ret; exact HF.out)
/-- an age's version of a word: its value -/
def getV (k : Ch2) (a : Int) : Int := if hasK k a then (k.getD (pl k a) (0, 0)).2 else 0
set_option maxRecDepth 100000 in
set_option maxHeartbeats 4000000 in
theorem get_any (h : SV w lab sb ab ub hb wb mb ob R W n L H C cv D) (z a : Int) : Calls Try.prog 34 #[.pointer (some ⟨sb, 0, none⟩), .int .i64 z, .int .i64 a] w fun e w' => e = .returned (.tuple #[.int .i64 (getV (kf H C (wi W z)) a), .bool (hasK (kf H C (wi W z)) a)]) ∧ Below w.heap.size w w' := by
  have HC := chain_any h z
  have hv := h.chv z
  have hg := hv.gsl
  have HFi := find_any h (wi W z) _ hg a
  have hlen := h.len (wi W z)
  have H1 : Hid (SV w lab sb ab ub hb wb mb ob R W n L H C cv D) := h
  have hk : (kf H C (wi W z)).length = (cc C (wi W z)).length := kc_len _ _
  have HK : Hid (∀ i (hi : i < (cc C (wi W z)).length), (kf H C (wi W z)).getD i (0, 0) = H.getD (cc C (wi W z))[i] (0, 0)) := fun i hi => by
    have hi2 : i < (kc H (cc C (wi W z))).length := by rw [kc_len]; exact hi
    show (kc H (cc C (wi W z))).getD i (0, 0) = _
    rw [List.getD, List.getElem?_eq_getElem hi2]
    exact kc_at _ _ _ hi2 hi
  have HLT : Hid (∀ s ∈ cc C (wi W z), s < R) := fun s hs => h.ok.lt _ s hs
  obtain ⟨va, vc, hvv⟩ := hv.sl
  rw [hvv] at HC HFi hg
  clear hv hvv h
  generalize wi W z = i at *
  obtain ⟨k, hkk⟩ : ∃ k, kf H C i = k := ⟨_, rfl⟩
  rw [hkk] at HFi hk HK ⊢
  clear hkk
  obtain ⟨c, hcc⟩ : ∃ c, cc C i = c := ⟨_, rfl⟩
  rw [hcc] at HC HFi hg hlen hk HK HLT
  clear hcc
  rw [cs_len] at HC HFi hg
  obtain ⟨p, hp⟩ : ∃ p, pl k a = p := ⟨_, rfl⟩
  have HP : Hid (pl k a = p) := hp
  obtain ⟨Q, hQ⟩ : ∃ Q, (fun (e : Ending) (w' : World) => e = .returned (.tuple #[.int .i64 (getV k a), .bool (hasK k a)]) ∧ Below w.heap.size w w') = Q := ⟨_, rfl⟩
  have HQ : Hid (∀ v b W', getV k a = v → hasK k a = b → Below w.heap.size w W' → Q (.returned (.tuple #[.int .i64 v, .bool b])) W') := fun v b W' h1 h2 h3 => by rw [← hQ]; exact ⟨by rw [h1, h2], h3⟩
  rw [hQ]
  clear hQ hp
  unfold FindQ at HFi
  cases hh : hasK k a with
  | false =>
    rw [hh] at HFi
    have HR : Hid (∀ W', Below w.heap.size w W' → Q (.returned (.tuple #[.int .i64 0, .bool false])) W') := fun W' hb => HQ.out 0 false W' (by unfold getV; rw [hh]; rfl) hh hb
    have HB : Hid (∀ A, Below w.heap.size w (w.alloc A)) := fun A => bl1 w A
    clear hg HK HQ
    go_enter Try.func34, Try.ntmps34
    go_wp2_with fail
    refine HC.mono ?_
    rintro e w2 ⟨rfl, hw2⟩
    rw [hw2]
    clear hw2
    go_wp2_with fail
    refine HFi.mono ?_
    rintro e w2 ⟨rfl, A, rfl⟩
    go_wp2
    first | exact HR.out _ (HB.out _) | (go_ret2; exact HR.out _ (HB.out _))
  | true =>
    rw [hh] at HFi
    obtain ⟨hpl, hpa⟩ := has_at hh
    have hpc : p < c.length := by rw [← hk, ← HP.out]; exact hpl
    obtain ⟨s, hs⟩ : ∃ s, c[p] = s := ⟨_, rfl⟩
    have hsR := HLT.out s (hs ▸ List.getElem_mem _)
    have HR : Hid (∀ W', Below w.heap.size w W' → Q (.returned (.tuple #[.int .i64 (H.getD s (0, 0)).2, .bool true])) W') := fun W' hb => HQ.out _ true W' (by unfold getV; rw [hh, if_pos rfl, HP.out, HK.out p hpc, hs]) hh hb
    have HB : Hid (∀ A k, Below w.heap.size w ((w.alloc A).drewN k)) := fun A k => Below.dN (bl1 w A) k
    obtain ⟨va', vc', vb, vo, e0, g2, _, g4, g5⟩ := hg
    injection e0 with e1 e2 e3
    have hva := g4 (by rw [cs_len]; omega)
    rw [← e1] at hva
    subst hva
    have cs0 := g5 p (by rw [cs_len]; exact hpc)
    rw [cs_at _ _ _ hpc, hs] at cs0
    have cs1 : ∀ A, (w.alloc A).cell? ⟨vb, vo + p, none⟩ = some (.int .i64 (s : Int)) := fun A => ((bl1 w A).cell (p := ⟨vb, vo + p, none⟩) (World.block_lt_of_cell? w _ cs0)).trans cs0
    have c1 : ∀ A, (w.alloc A).cell? ⟨sb, 1, none⟩ = some (.slice (some ⟨hb, 0, none⟩) R R) := fun A => (H1.out.alloc A).c1
    have cv1 : ∀ A, (w.alloc A).cell? ⟨hb, s * 2 + 1, none⟩ = some (.int .i64 (H.getD s (0, 0)).2) := fun A => ((H1.out.alloc A).cH s hsR).2
    generalize (H.getD s (0, 0)).2 = x at *
    rw [HP.out] at HFi
    have hl1 : c.length = c.length := rfl
    obtain ⟨m, hm⟩ : ∃ m, c.length = m := ⟨_, rfl⟩
    rw [hm] at HC HFi hpc
    clear g5 g4 e1 e2 e3 cs0 HQ HK hk hs hpl hpa HLT hm hl1
    go_enter Try.func34, Try.ntmps34
    go_wp2_with fail
    refine HC.mono ?_
    rintro e w2 ⟨rfl, hw2⟩
    rw [hw2]
    clear hw2
    go_wp2_with fail
    refine HFi.mono ?_
    rintro e w2 ⟨rfl, A, rfl⟩
    have cs1 := cs1 A
    have c1 := c1 A
    have cv1 := cv1 A
    have HB := HB.out A
    go_upto_region 5 with fail
    generalize w.alloc A = V at *
    go_quiet (fail)
    go_wp2
    first | exact HR.out _ (HB _) | (go_ret2; exact HR.out _ (HB _))
end
end Go.Proofs.Ytdohclnmcdempaa
