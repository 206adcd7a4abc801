/- An age writes a word that it has no version of yet. -/
import Derived.Test.YtdohclnmcdempaaVrN
namespace Go.Proofs.Ytdohclnmcdempaa
open Go.RowKit Go.Maps
set_option linter.unusedVariables false

theorem wf_mk (a : Int) (h : -9223372036854775808 ≤ a ∧ a ≤ 9223372036854775807) : (Lit.int .i64 a).wf = true := by simp only [Lit.wf, Bool.and_eq_true, decide_eq_true_eq]; exact h
section
variable {w w' : World} {lab : Nat → Nat} {sb ab ub hb wb mb : Nat} {ob : Option Nat} {R W n : Nat} {L : List Nat} {H : Ch2} {C : List (List Nat)} {cv : List Value} {D : M1}
set_option maxRecDepth 100000 in
set_option maxHeartbeats 4000000 in
theorem put_full (h : SV w lab sb ab ub hb wb mb ob R W n [] H C cv D) (i : Nat) (hi : i < W) (a v : Int) (ha : 0 ≤ a ∧ a ≤ 9223372036854775807) (hh : hasK (kf H C i) a = false) : Calls Try.prog 26 #[.pointer (some ⟨sb, 0, none⟩), .int .i64 (i : Int), .int .i64 a, .int .i64 v] w (PutQ lab sb R W n (kf H C) (i : Int) a v w) := by
  have hz : 0 ≤ (i : Int) ∧ (i : Int) < W := by omega
  have HW := within_any h (i : Int)
  rw [decide_eq_true hz] at HW
  obtain ⟨cvi, hcv, hcw, hiz⟩ := h.cW i hi
  have HFi := find_any h i cvi hiz.gsl a
  unfold FindQ at HFi
  rw [hh] at HFi
  have ht := h.tot
  have he : putE R W (kf H C) (i : Int) a = 200 := by
    unfold putE
    rw [if_neg (fun q => q hz), if_neg (by omega), Int.toNat_natCast, if_neg (by rw [hh]; simp), if_pos (by simpa using ht)]
  have HT : Hid (∀ A, Calls Try.prog 11 #[.pointer (some ⟨ab, 0, none⟩)] (w.alloc A) (TakeQ (w.alloc A) ab ub ob R [])) := fun A => take_any _ ((h.alloc A).ar)
  have HQ : Hid (∀ A w2, AA w2 ab ub ob R [] → Ch (aw ab ub) (w.alloc A) w2 → PutQ lab sb R W n (kf H C) (i : Int) a v w (.returned (.int .i64 200)) w2) := fun A w2 a2 c2 => by
    have hB : Below w.heap.size w (w.alloc A) := bl1 w A
    obtain ⟨lab', m2, q2⟩ := ((h.sm).below hB).arena a2 (c2.mono (fun k hk => by
      rcases hk with r | r
      · exact .inl r
      · exact .inr (.inl r))) (.inl rfl)
    exact ⟨by rw [he], lab', ⟨ab, ub, hb, wb, mb, ob, [], H, C, cv, D, (m2.sv h.ok h.md).mono (Nat.le_succ _), by unfold putF; rw [he]; rfl⟩, (LabQ.of hB).trans q2⟩
  generalize PutQ lab sb R W n (kf H C) (i : Int) a v w = P at *
  have c0 : ∀ A, (w.alloc A).cell? ⟨sb, 0, none⟩ = some (.pointer (some ⟨ab, 0, none⟩)) := fun A => (h.alloc A).c0
  have c2 := h.c2
  generalize pl (kf H C i) a = p at *
  obtain ⟨va, vc, rfl⟩ := hiz.sl
  generalize (cs (cc C i)).length = m at *
  clear h hh hiz hcv he ht
  go_enter Try.func26, Try.ntmps26
  go_wp2_with fail
  refine HW.mono ?_
  rintro e w2 ⟨rfl, hw2⟩
  rw [hw2]
  clear hw2
  go_wp2_with fail
  refine HFi.mono ?_
  rintro e w2 ⟨rfl, A, rfl⟩
  have c0 := c0 A
  go_wp2_with fail
  refine (HT.out A).mono ?_
  rintro e w3 ⟨rfl, a3, ch3⟩
  have HQ' : Hid (P (.returned (.int .i64 200)) w3) := HQ.out A w3 a3 ch3
  clear a3 ch3 HQ
  simp only [List.headD_nil, List.isEmpty_nil, if_true]
  go_wp2
  first | exact HQ'.out | (go_ret; exact HQ'.out)
set_option maxRecDepth 100000 in
set_option maxHeartbeats 8000000 in
theorem put_new {s : Nat} (h : SV w lab sb ab ub hb wb mb ob R W n (s :: L) H C cv D) (i : Nat) (hi : i < W) (a v : Int) (ha : 0 ≤ a ∧ a ≤ 9223372036854775807) (hh : hasK (kf H C i) a = false) (hn : n < 1000000) : Calls Try.prog 26 #[.pointer (some ⟨sb, 0, none⟩), .int .i64 (i : Int), .int .i64 a, .int .i64 v] w (PutQ lab sb R W n (kf H C) (i : Int) a v w) := by
  have hz : 0 ≤ (i : Int) ∧ (i : Int) < W := by omega
  have HW := within_any h (i : Int)
  rw [decide_eq_true hz] at HW
  obtain ⟨cvi, hcv, hcw, hiz⟩ := h.cW i hi
  have HFi := find_any h i cvi hiz.gsl a
  unfold FindQ at HFi
  rw [hh] at HFi
  have ht := h.tot
  have he : putE R W (kf H C) (i : Int) a = 0 := by
    unfold putE
    rw [if_neg (fun q => q hz), if_neg (by omega), Int.toNat_natCast, if_neg (by rw [hh]; simp), if_neg (by simp at ht; omega)]
  have HT : Hid (∀ A, Calls Try.prog 11 #[.pointer (some ⟨ab, 0, none⟩)] (w.alloc A) (TakeQ (w.alloc A) ab ub ob R (s :: L))) := fun A => take_any _ ((h.alloc A).ar)
  have hok := h.ar.ok
  have hsR : s < R := hok.lt s (by simp)
  have hlen := h.len i
  have hplc : pl (kf H C i) a ≤ (cc C i).length := by
    have h1 := pl_le (kf H C i) a
    have h2 : (kf H C i).length = (cc C i).length := kc_len _ _
    omega
  obtain ⟨p, hp⟩ : ∃ p, pl (kf H C i) a = p := ⟨_, rfl⟩
  obtain ⟨ok', hk'⟩ := h.ok.ins hok hi a v hh ha
  rw [show pl (kc H (cc C i)) a = p from hp] at ok' hk'
  rw [hp] at HFi hplc
  obtain ⟨c', hc'⟩ : ∃ c', (cc C i).take p ++ s :: (cc C i).drop p = c' := ⟨_, rfl⟩
  rw [hc'] at ok' hk'
  obtain ⟨k0, hk0⟩ : ∃ k0, manyK W (kf H C) a = k0 := ⟨_, rfl⟩
  have hk64 : k0 ≤ 64 := by have := manyK_le W (kf H C) a; have := h.wW; omega
  have hmd : MD (D.put (klit a) (i64d (k0 + 1 : Nat))) (manyK W (kf (H.set s (a, v)) (C.set i c'))) := by
    rw [hk']
    refine h.md.put h.mp.isMap a _ (k0 + 1) ?_ (by omega) (fun b hb => ?_)
    · have := manyK_set W (kf H C) i hi (putK (kf H C i) a v) a
      rw [hasK_putK (k := kf H C i) (h.ok.st i), hh] at this
      simp at this
      omega
    · have := manyK_set W (kf H C) i hi (putK (kf H C i) a v) b
      rw [hasK_putK (k := kf H C i) (h.ok.st i), show (decide (b = a) || hasK (kf H C i) b) = hasK (kf H C i) b by simp [hb]] at this
      omega
  -- the ways of the memory
  have HM3 : Hid (∀ A w2, AA w2 ab ub ob R L → Ch (aw ab ub) (w.alloc A) w2 → ∃ lab1, SM (((w2.setCell ⟨hb, s * 2, none⟩ (.int .i64 a)).setCell ⟨hb, s * 2 + 1, none⟩ (.int .i64 v))) lab1 sb ab ub hb wb mb ob R W n L (H.set s (a, v)) C cv D ∧ LabQ lab lab1 w ((w2.setCell ⟨hb, s * 2, none⟩ (.int .i64 a)).setCell ⟨hb, s * 2 + 1, none⟩ (.int .i64 v)) ∧ w2.cell? ⟨sb, 1, none⟩ = some (.slice (some ⟨hb, 0, none⟩) R R) ∧ (∃ x y : Int, w2.cell? ⟨hb, s * 2, none⟩ = some (.int .i64 x) ∧ w2.cell? ⟨hb, s * 2 + 1, none⟩ = some (.int .i64 y)) ∧ (∀ j, w2.frozen? ⟨hb, j, none⟩ = false)) := fun A w2 a2 c2 => by
    have hB : Below w.heap.size w (w.alloc A) := bl1 w A
    obtain ⟨lab1, m2, q2⟩ := ((h.sm).below hB).arena a2 (c2.mono (fun k hk => by
      rcases hk with r | r
      · exact .inl r
      · exact .inr (.inl r))) (.inl rfl)
    have hsH : s < H.length := by rw [m2.lh]; exact hsR
    obtain ⟨m3, q3⟩ := m2.held (w' := (w2.setCell ⟨hb, s * 2, none⟩ (.int .i64 a)).setCell ⟨hb, s * 2 + 1, none⟩ (.int .i64 v)) (H.set s (a, v)) (by rw [List.length_set]; exact m2.lh) (by
      have e1 := heap_setCell_same w2 hb (s * 2) _ 62 (.int .i64 a) m2.bH
      rw [heap_setCell_same _ hb _ _ 62 _ e1, prs_two H s a v hsH]) (fun k hk => (Below.heap_setCell _ _ _ _ (by show k ≠ hb; exact hk)).trans (Below.heap_setCell _ _ _ _ (by show k ≠ hb; exact hk))) (by simp [World.setCell]) rfl rfl rfl
    exact ⟨lab1, m3, ((LabQ.of hB).trans q2).trans q3, m2.c1, m2.cH s hsR, fun j => m2.fH j⟩
  have HQ : Hid (∀ (lab2 : Nat → Nat) (w8 : World) (cv2 : List Value), SM w8 lab2 sb ab ub hb wb mb ob R W (n + 1) L (H.set s (a, v)) (C.set i c') cv2 (D.put (klit a) (i64d (k0 + 1 : Nat))) → LabQ lab lab2 w w8 → PutQ lab sb R W n (kf H C) (i : Int) a v w (.returned (.int .i64 0)) w8) := fun lab2 w8 cv2 m q => by
    refine ⟨by rw [he], lab2, ⟨ab, ub, hb, wb, mb, ob, L, _, _, cv2, _, m.sv ok' hmd, ?_⟩, q⟩
    unfold putF
    rw [he, if_pos rfl, Int.toNat_natCast]
    exact hk'
  have hat0 := (h.md a (by omega)).1
  rw [hk0] at hat0
  have HAT : Hid (D.atKey (klit a) (i64d 0) = i64d (k0 : Int)) := hat0
  generalize PutQ lab sb R W n (kf H C) (i : Int) a v w = P at *
  have c0 : ∀ A, (w.alloc A).cell? ⟨sb, 0, none⟩ = some (.pointer (some ⟨ab, 0, none⟩)) := fun A => (h.alloc A).c0
  have c2 := h.c2
  have HCV : Hid (cv[i]? = some cvi) := hcv
  have HPL : Hid ((cc C i).length ≤ 1000 ∧ p ≤ (cc C i).length) := ⟨by omega, hplc⟩
  have HC' : Hid ((cc C i).take p ++ s :: (cc C i).drop p = c') := hc'
  have HHI : Hid (i < W) := hi
  have hcvi := hiz.sl
  have hk0i : IntKind.i64.wrap ((k0 : Int) + 1) = (k0 : Int) + 1 := i64_wrap _ ⟨by omega, by omega⟩
  have hk0w : wrap64 ((k0 : Int) + 1) = (k0 : Int) + 1 := w64in _ ⟨by omega, by omega⟩
  obtain ⟨va, vc, hcve⟩ := hcvi
  obtain ⟨m, hm⟩ : ∃ m, (cs (cc C i)).length = m := ⟨_, rfl⟩
  have hpm : p ≤ m ∧ m ≤ 1000 := by rw [← hm, cs_len]; exact ⟨hplc, by omega⟩
  rw [hm] at hcve
  subst hcve
  have hR1 : R ≤ 512 := hlen.2
  clear h hh hiz hcv he ht ok' hk' hmd hat0 hplc hc' hp hok hlen hm hk0
  go_enter Try.func26, Try.ntmps26
  go_wp2_with fail
  refine HW.mono ?_
  rintro e w2 ⟨rfl, hw2⟩
  rw [hw2]
  clear hw2
  go_wp2_with fail
  refine HFi.mono ?_
  rintro e w2 ⟨rfl, A, rfl⟩
  have c0 := c0 A
  go_wp2_with fail
  refine (HT.out A).mono ?_
  rintro e w3 ⟨rfl, a3, ch3⟩
  obtain ⟨lab1, m3, q3, c1, ⟨x0, y0, cx, cy⟩, fx⟩ := HM3.out A w3 a3 ch3
  have M3 : Hid (SM ((w3.setCell ⟨hb, s * 2, none⟩ (.int .i64 a)).setCell ⟨hb, s * 2 + 1, none⟩ (.int .i64 v)) lab1 sb ab ub hb wb mb ob R W n L (H.set s (a, v)) C cv D) := m3
  have Q3 : Hid (LabQ lab lab1 w ((w3.setCell ⟨hb, s * 2, none⟩ (.int .i64 a)).setCell ⟨hb, s * 2 + 1, none⟩ (.int .i64 v))) := q3
  have fx0 := fx (s * 2)
  have fx1 := fx (s * 2 + 1)
  clear a3 ch3 HM3 m3 q3 fx HT c2
  simp only [List.headD_cons, List.isEmpty_cons, Bool.false_eq_true, if_false]
  go_upto_region 14 with fail
  generalize (w3.setCell ⟨hb, s * 2, none⟩ (.int .i64 a)).setCell ⟨hb, s * 2 + 1, none⟩ (.int .i64 v) = V at *
  have MD3 : Hid (SM V.drew lab1 sb ab ub hb wb mb ob R W n L (H.set s (a, v)) C cv D) := M3.out.below (Below.refl _ _).drew
  have c2 := M3.out.c2
  have HPI : Hid (Calls Try.prog 46 #[.slice va m vc, .int .i64 (p : Int), .int .i64 (s : Int)] V.drew (RowQ V.drew (.slice va m vc) (cs c'))) := by
    show Calls _ _ _ _ _
    rw [← HC'.out]
    exact putin_any V.drew _ (cc C i) HPL.out.1 p HPL.out.2 s (MD3.out.ch i _ HCV.out)
  clear c0 c1 cx cy fx0 fx1
  have HFAC : Hid (∀ w5, V.drew.grownBy w5 (Value.slice va m vc).ownBlock → w5.cell? ⟨sb, 2, none⟩ = some (.slice (some ⟨wb, 0, none⟩) W W) ∧ w5.cell? ⟨wb, i, none⟩ = some (.slice va m vc) ∧ w5.frozen? ⟨wb, i, none⟩ = false) := fun w5 g5 => by
    have e1 : w5.heap[sb]? = V.drew.heap[sb]? := g5.block sb (MD3.out.lt sb (by rw [MD3.out.l1]; decide)) (fun e => by have := MD3.out.l8 i _ sb HCV.out e.symm; rw [MD3.out.l1] at this; omega)
    have e2 : w5.heap[wb]? = V.drew.heap[wb]? := g5.block wb (MD3.out.lt wb (by rw [MD3.out.l3]; decide)) (fun e => by have := MD3.out.l8 i _ wb HCV.out e.symm; rw [MD3.out.l3] at this; omega)
    refine ⟨(World.cell?_of_block (a := ⟨sb, 2, none⟩) e1).trans MD3.out.c2, ?_, (World.frozen?_of_block (a := ⟨wb, i, none⟩) e2).trans (MD3.out.fW i)⟩
    obtain ⟨u, hu, hcu⟩ := MD3.out.cW i HHI.out
    rw [HCV.out] at hu
    injection hu with hu
    subst hu
    exact (World.cell?_of_block (a := ⟨wb, i, none⟩) e2).trans hcu
  have nsw : ¬ sb = wb := fun e => by have h1 := M3.out.l1; rw [e, M3.out.l3] at h1; cases h1
  have nws : ¬ wb = sb := fun e => nsw e.symm
  go_region_held3 (fun w' => w'.cell? ⟨sb, 2, none⟩ = some (.slice (some ⟨wb, 0, none⟩) W W)) (first | assumption | go_keep) (first | (go_at_call 46; refine HPI.out.mono ?_; rintro e w5 ⟨v5, rfl, hi5, g5, o5⟩; obtain ⟨a5, k5, rfl⟩ := hi5.sl; obtain ⟨y1, y2, y3⟩ := HFAC.out w5 g5))
  obtain ⟨lab4, m4, q4⟩ := MD3.out.row HHI.out HCV.out g5 hi5 o5
  have Q4 : Hid (LabQ lab lab4 w (w5.setCell ⟨wb, i, none⟩ (.slice a5 (cs c').length k5))) := (Q3.out.trans (LabQ.of (Below.refl _ _).drew)).trans q4
  have M4 : Hid (SM (w5.setCell ⟨wb, i, none⟩ (.slice a5 (cs c').length k5)) lab4 sb ab ub hb wb mb ob R W n L (H.set s (a, v)) (C.set i c') (cv.set i (.slice a5 (cs c').length k5)) D) := m4
  clear m4 q4 g5 hi5 o5 y1 y2 y3 HFAC HPI c2 Q3 M3 MD3
  generalize (cs c').length = l5 at *
  generalize w5.setCell ⟨wb, i, none⟩ (.slice a5 l5 k5) = U at *
  have c3 := M4.out.c3
  obtain ⟨c9, hrun, hat, hwc⟩ := M4.out.mp.lookup_int law3 Try.underlying73 Try.underlying3 (zero3 U) (keyInt a (by omega))
  have hc9 : c9 = (k0 : Int) := by
    have := hat.symm.trans HAT.out
    unfold i64d at this
    injection this with this
    injection this
  subst hc9
  clear hat hwc
  have HWF : Hid ((Lit.int .i64 ((k0 : Int) + 1)).wf = true) := wf_mk _ ⟨by clear hk0i hk0w; omega, by clear hk0i hk0w; omega⟩
  have HKEY : Hid (keyOf Try.prog 3 (.int .i64 a) = some (klit a)) := keyInt a (by omega)
  have HN : Hid (n < maxLen) := by show n < maxLen; unfold maxLen; omega
  go_wp2_with (at_mapUpdate; refine wpList_mapUpdate_own _ rfl _ _ _ 73 rfl 3 3 law3 Try.underlying73 _ mb n D rfl M4.out.mp HN.out _ _ (klit a) rfl rfl HKEY.out _ [] (plainElem_int Try.underlying3 HWF.out) ?mu)
  case mu =>
    intro w7 hm7 hg7
    obtain ⟨m7, q7⟩ := M4.out.map hg7 hm7
    have HE : Hid (P (.returned (.int .i64 0)) w7) := HQ.out lab4 w7 _ m7 (Q4.out.trans q7)
    clear hm7 hg7 m7 q7 hrun c3
    go_wp2
    first | exact HE.out | (go_ret; exact HE.out)
end
/-- an age writes a word -/
theorem SS.put {w : World} {lab : Nat → Nat} {sb R W n : Nat} {K : Nat → Ch2} (h : SS w lab sb R W n K) (z a v : Int) (ha : a ≤ 9223372036854775807) (hn : n < 1000000) : Calls Try.prog 26 #[.pointer (some ⟨sb, 0, none⟩), .int .i64 z, .int .i64 a, .int .i64 v] w (PutQ lab sb R W n K z a v w) := by
  obtain ⟨ab, ub, hb, wb, mb, ob, L, H, C, cv, D, h, rfl⟩ := h
  by_cases hz : 0 ≤ z ∧ z < W
  · obtain ⟨i, rfl⟩ : ∃ i : Nat, z = (i : Int) := ⟨z.toNat, by omega⟩
    by_cases h0 : a < 0
    · exact put_age h i (by omega) a v h0
    · cases hh : hasK (kf H C i) a with
      | true => exact put_has h i (by omega) a v ⟨by omega, ha⟩ hh
      | false =>
        cases L with
        | nil => exact put_full h i (by omega) a v ⟨by omega, ha⟩ hh
        | cons s L => exact put_new h i (by omega) a v ⟨by omega, ha⟩ hh hn
  · exact put_no h z a v hz
end Go.Proofs.Ytdohclnmcdempaa
