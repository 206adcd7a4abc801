/- An age's version of a word goes. -/
import Derived.Test.YtdohclnmcdempaaVrO
namespace Go.Proofs.Ytdohclnmcdempaa
open Go.RowKit Go.Maps
set_option linter.unusedVariables false

theorem MD.putdel {D : M1} {f : Int → Nat} (h : MD D f) (a : Int) (d : M1) (g : Int → Nat) (h0 : g a = 0) (hg : ∀ b, b ≠ a → g b = f b) : MD ((D.put (klit a) d).del (klit a)) g := by
  intro b hb
  by_cases e : b = a
  · subst e
    rw [atKey_del_same, has_del_same, h0]
    exact ⟨rfl, rfl⟩
  · rw [atKey_del_other (klit_ne e), has_del_other (klit_ne e), atKey_put_other (klit_ne e), has_put_other (klit_ne e), hg b e]
    exact h b hb
def dropF (W : Nat) (K : Nat → Ch2) (z a : Int) : Nat → Ch2 := setF K (wi W z) (dropK (K (wi W z)) a)
def DropQ (lab : Nat → Nat) (sb R W n : Nat) (K : Nat → Ch2) (z a : Int) (w : World) (e : Ending) (w' : World) : Prop :=
  e = .returned (.bool (hasK (K (wi W z)) a)) ∧ ∃ lab', SS w' lab' sb R W (n + 1) (dropF W K z a) ∧ LabQ lab lab' w w'
theorem dropF_no {W : Nat} {K : Nat → Ch2} {z a : Int} (h : hasK (K (wi W z)) a = false) : dropF W K z a = K := by
  funext j
  unfold dropF setF
  split
  · rename_i e; rw [e]; unfold dropK; rw [h]; rfl
  · rfl
section
variable {w w' : World} {lab : Nat → Nat} {sb ab ub hb wb mb : Nat} {ob : Option Nat} {R W n : Nat} {L : List Nat} {H : Ch2} {C : List (List Nat)} {cv : List Value} {D : M1}
set_option maxRecDepth 100000 in
set_option maxHeartbeats 4000000 in
theorem drop_no (h : SV w lab sb ab ub hb wb mb ob R W n L H C cv D) (z a : Int) (hh : hasK (kf H C (wi W z)) a = false) : Calls Try.prog 27 #[.pointer (some ⟨sb, 0, none⟩), .int .i64 z, .int .i64 a] w (DropQ lab sb R W n (kf H C) z a w) := by
  have HC := chain_any h z
  have hv := h.chv z
  have HFi := find_any h (wi W z) _ hv.gsl a
  unfold FindQ at HFi
  rw [hh] at HFi
  have HQ : Hid (∀ A, DropQ lab sb R W n (kf H C) z a w (.returned (.bool false)) (w.alloc A)) := fun A => ⟨by rw [hh], lab, ⟨ab, ub, hb, wb, mb, ob, L, H, C, cv, D, (h.alloc A).mono (Nat.le_succ _), (dropF_no hh).symm⟩, LabQ.of (bl1 w A)⟩
  generalize DropQ lab sb R W n (kf H C) z a w = P at *
  generalize pl (kf H C (wi W z)) a = p at *
  obtain ⟨va, vc, hvv⟩ := hv.sl
  rw [hvv] at HC HFi
  generalize (cs (cc C (wi W z))).length = m at *
  clear h hh hv hvv
  go_enter Try.func27, Try.ntmps27
  go_wp2_with fail
  refine HC.mono ?_
  rintro e w2 ⟨rfl, hw2⟩
  rw [hw2]
  clear hw2
  go_wp2_with fail
  refine HFi.mono ?_
  rintro e w2 ⟨rfl, A, rfl⟩
  go_wp2
  first | exact HQ.out _ | (go_ret; exact HQ.out _)
set_option maxRecDepth 100000 in
set_option maxHeartbeats 8000000 in
theorem drop_has (h : SV w lab sb ab ub hb wb mb ob R W n L H C cv D) (i : Nat) (hi : i < W) (a : Int) (ha : -9223372036854775808 ≤ a ∧ a ≤ 9223372036854775807) (hh : hasK (kf H C i) a = true) (hn : n < 1000000) : Calls Try.prog 27 #[.pointer (some ⟨sb, 0, none⟩), .int .i64 (i : Int), .int .i64 a] w (DropQ lab sb R W n (kf H C) (i : Int) a w) := by
  have HC := chain_any h (i : Int)
  obtain ⟨cvi, hcv, hcw, hiz⟩ := h.cW i hi
  rw [wi_in hi, show cv.getD i (.slice none 0 0) = cvi by simp [List.getD, hcv]] at HC
  have HFi := find_any h i cvi hiz.gsl a
  unfold FindQ at HFi
  rw [hh] at HFi
  obtain ⟨hpl, hpa⟩ := has_at hh
  have hpc : pl (kf H C i) a < (cc C i).length := by
    have : (kf H C i).length = (cc C i).length := kc_len _ _
    omega
  obtain ⟨p, hp⟩ : ∃ p, pl (kf H C i) a = p := ⟨_, rfl⟩
  rw [hp] at hpc HFi
  obtain ⟨s, hs⟩ : ∃ s, (cc C i)[p] = s := ⟨_, rfl⟩
  have hsR : s < R := hs ▸ h.ok.lt i _ (List.getElem_mem _)
  have hsL : s ∉ L := hs ▸ h.ok.fr i _ (List.getElem_mem _)
  have hlen := h.len i
  obtain ⟨ok', hk'⟩ := h.ok.del hi a hh hp.symm hpc
  rw [hs] at ok'
  obtain ⟨c', hc'⟩ : ∃ c', (cc C i).take p ++ (cc C i).drop (p + 1) = c' := ⟨_, rfl⟩
  rw [hc'] at ok' hk'
  obtain ⟨k0, hk0⟩ : ∃ k0, manyK W (kf H C) a = k0 := ⟨_, rfl⟩
  have hk64 : k0 ≤ 64 := by have := manyK_le W (kf H C) a; have := h.wW; omega
  have hmk : manyK W (kf H (C.set i c')) a + 1 = k0 := by
    have := manyK_set W (kf H C) i hi (dropK (kf H C i) a) a
    rw [hasK_dropK (k := kf H C i) (h.ok.st i), hh] at this
    rw [hk']
    simp at this
    omega
  have hmo : ∀ b, b ≠ a → manyK W (kf H (C.set i c')) b = manyK W (kf H C) b := fun b hb => by
    have := manyK_set W (kf H C) i hi (dropK (kf H C i) a) b
    rw [hasK_dropK (k := kf H C i) (h.ok.st i), show (!decide (b = a) && hasK (kf H C i) b) = hasK (kf H C i) b by simp [hb]] at this
    rw [hk']
    omega
  have HMD1 : Hid (k0 ≠ 1 → MD (D.put (klit a) (i64d (k0 - 1 : Nat))) (manyK W (kf H (C.set i c')))) := fun h1 => h.md.put h.mp.isMap a _ (k0 - 1) (by omega) (by omega) hmo
  have HMD2 : Hid (k0 = 1 → MD ((D.put (klit a) (i64d (k0 - 1 : Nat))).del (klit a)) (manyK W (kf H (C.set i c')))) := fun h1 => h.md.putdel a _ _ (by omega) hmo
  have hus : usedB R L (s : Int) = true := by rw [usedB_nat]; exact decide_eq_true ⟨hsR, hsL⟩
  have hbk : backL R L (s : Int) = s :: L := by unfold backL; rw [hus]; simp
  have HBK : Hid (∀ A, Calls Try.prog 13 #[.pointer (some ⟨ab, 0, none⟩), .int .i64 (s : Int)] (w.alloc A).drew fun e w2 => e = .returned (.int .i64 0) ∧ ∃ lab1 ob', SM w2 lab1 sb ab ub hb wb mb ob' R W n (s :: L) H C cv D ∧ LabQ lab lab1 w w2) := fun A => by
    refine (back_any _ (((h.alloc A).ar).below (Below.refl _ _).drew) _).mono ?_
    rintro e w2 ⟨rfl, c2, ob', a2, o2⟩
    rw [hus]
    rw [hbk] at a2
    have hB : Below w.heap.size w (w.alloc A).drew := (bl1 w A).drew
    obtain ⟨lab1, m2, q2⟩ := ((h.sm).below hB).arena a2 c2 o2
    exact ⟨rfl, lab1, ob', m2, (LabQ.of hB).trans q2⟩
  have HQ : Hid (∀ (lab2 : Nat → Nat) (w8 : World) (ob' : Option Nat) (cv2 : List Value) (D2 : M1) (n2 : Nat), n2 ≤ n + 1 → MD D2 (manyK W (kf H (C.set i c'))) → SM w8 lab2 sb ab ub hb wb mb ob' R W n2 (s :: L) H (C.set i c') cv2 D2 → LabQ lab lab2 w w8 → DropQ lab sb R W n (kf H C) (i : Int) a w (.returned (.bool true)) w8) := fun lab2 w8 ob' cv2 D2 n2 hn2 hd m q => by
    refine ⟨by rw [wi_in hi, hh], lab2, ⟨ab, ub, hb, wb, mb, ob', _, _, _, cv2, _, (m.sv ok' hd).mono hn2, ?_⟩, q⟩
    rw [hk']
    unfold dropF
    rw [wi_in hi]
  have hat0 := (h.md a ha).1
  rw [hk0] at hat0
  have HAT : Hid (D.atKey (klit a) (i64d 0) = i64d (k0 : Int)) := hat0
  have HISM : Hid (IsMap D) := h.mp.isMap
  have HKP : Hid (1 ≤ k0) := by show 1 ≤ k0; omega
  generalize DropQ lab sb R W n (kf H C) (i : Int) a w = P at *
  have c0 : ∀ A, (w.alloc A).cell? ⟨sb, 0, none⟩ = some (.pointer (some ⟨ab, 0, none⟩)) := fun A => (h.alloc A).c0
  rcases hiz.2 with ⟨_, h0⟩ | ⟨g, cap, cur, hcve, g2, g3, g4, g5, g6, g7⟩
  · rw [cs_len] at h0; omega
  have cs0 := World.ownsRow.cells hiz (g := g) (by rw [hcve]; rfl) p (.int .i64 (s : Int)) (by simp [cs, hpc, hs])
  rw [addn, Nat.zero_add] at cs0
  have cs1 : ∀ A, (w.alloc A).cell? ⟨g, p, none⟩ = some (.int .i64 (s : Int)) := fun A => ((bl1 w A).cell (p := ⟨g, p, none⟩) (World.block_lt_of_cell? w _ cs0)).trans cs0
  have HCV : Hid (cv[i]? = some cvi) := hcv
  obtain ⟨m, hm⟩ : ∃ m, (cs (cc C i)).length = m := ⟨_, rfl⟩
  have hpm : p < m ∧ m ≤ 1000 := by rw [← hm, cs_len]; exact ⟨hpc, by omega⟩
  have HPC : Hid (p < (cc C i).length) := hpc
  have HC' : Hid ((cc C i).take p ++ (cc C i).drop (p + 1) = c') := hc'
  have HHI : Hid (i < W) := hi
  rw [hm] at hcve
  subst hcve
  obtain ⟨p1, hp1⟩ : ∃ p1, p + 1 = p1 := ⟨_, rfl⟩
  have HP1 : Hid (p + 1 = p1) := hp1
  have hwp : IntKind.i64.wrap ((p : Int) + 1) = (p1 : Int) := by rw [i64_wrap _ ⟨by omega, by omega⟩]; omega
  have hwp2 : wrap64 ((p : Int) + 1) = (p1 : Int) := by rw [w64in _ ⟨by omega, by omega⟩]; omega
  have hcap : m ≤ cap := by rw [← hm]; exact g4
  clear h hh hiz hcv ok' hk' hmo hat0 hc' hp hlen hm hk0 hus hbk g2 g3 g4 g5 g6 g7 cs0 hs hsL hsR hpl hpa hmk hcw hpc hp1
  go_enter Try.func27, Try.ntmps27
  go_wp2_with fail
  refine HC.mono ?_
  rintro e w2 ⟨rfl, hw2⟩
  rw [hw2]
  clear hw2
  go_wp2_with fail
  refine HFi.mono ?_
  rintro e w2 ⟨rfl, A, rfl⟩
  have c0 := c0 A
  have cs1 := cs1 A
  have HBKA : Hid (Calls Try.prog 13 #[.pointer (some ⟨ab, 0, none⟩), .int .i64 (s : Int)] (w.alloc A).drew fun e w2 => e = .returned (.int .i64 0) ∧ ∃ lab1 ob', SM w2 lab1 sb ab ub hb wb mb ob' R W n (s :: L) H C cv D ∧ LabQ lab lab1 w w2) := HBK.out A
  clear HBK
  go_upto_region 5 with fail
  generalize w.alloc A = V at *
  refine wp_region_still_tail 8 (by kernel_rfl) (by kernel_rfl) ?_
  simp only [List.take_succ_cons, List.take_zero, List.drop_succ_cons, List.drop_zero]
  repeat still_step
  refine wpStill_nil ?_
  go_wp2_with fail
  refine HBKA.out.mono ?_
  rintro e w3 ⟨rfl, lab1, ob1, m3, q3⟩
  have M3 : Hid (SM w3 lab1 sb ab ub hb wb mb ob1 R W n (s :: L) H C cv D) := m3
  have Q3 : Hid (LabQ lab lab1 w w3) := q3
  clear m3 q3 c0 cs1 HBKA
  have MD3 : Hid (SM w3.drew lab1 sb ab ub hb wb mb ob1 R W n (s :: L) H C cv D) := M3.out.below (Below.refl _ _).drew
  have c2 := M3.out.c2
  have HPI : Hid (Calls Try.prog 48 #[.slice (some ⟨g, 0, none⟩) m cap, .int .i64 (p : Int), .int .i64 (p1 : Int)] w3.drew (RowQ w3.drew (.slice (some ⟨g, 0, none⟩) m cap) (cs c'))) := by
    show Calls _ _ _ _ _
    rw [← HC'.out, ← HP1.out]
    exact del_any w3.drew _ (cc C i) p HPC.out (MD3.out.ch i _ HCV.out)
  have HFAC : Hid (∀ w5, w3.drew.grownBy w5 (Value.slice (some ⟨g, 0, none⟩) m cap).ownBlock → w5.cell? ⟨sb, 2, none⟩ = some (.slice (some ⟨wb, 0, none⟩) W W) ∧ w5.cell? ⟨wb, i, none⟩ = some (.slice (some ⟨g, 0, none⟩) m cap) ∧ w5.frozen? ⟨wb, i, none⟩ = false) := fun w5 g5 => by
    have e1 : w5.heap[sb]? = w3.drew.heap[sb]? := g5.block sb (MD3.out.lt sb (by rw [MD3.out.l1]; decide)) (fun e => by have := MD3.out.l8 i _ sb HCV.out e.symm; rw [MD3.out.l1] at this; omega)
    have e2 : w5.heap[wb]? = w3.drew.heap[wb]? := g5.block wb (MD3.out.lt wb (by rw [MD3.out.l3]; decide)) (fun e => by have := MD3.out.l8 i _ wb HCV.out e.symm; rw [MD3.out.l3] at this; omega)
    refine ⟨(World.cell?_of_block (a := ⟨sb, 2, none⟩) e1).trans MD3.out.c2, ?_, (World.frozen?_of_block (a := ⟨wb, i, none⟩) e2).trans (MD3.out.fW i)⟩
    obtain ⟨u, hu, hcu⟩ := MD3.out.cW i HHI.out
    rw [HCV.out] at hu
    injection hu with hu
    subst hu
    exact (World.cell?_of_block (a := ⟨wb, i, none⟩) e2).trans hcu
  have nsw : ¬ sb = wb := fun e => by have h1 := M3.out.l1; rw [e, M3.out.l3] at h1; cases h1
  have nws : ¬ wb = sb := fun e => nsw e.symm
  go_upto_region 6 with fail
  go_region_held3 (fun w' => w'.cell? ⟨sb, 2, none⟩ = some (.slice (some ⟨wb, 0, none⟩) W W)) (first | assumption | go_keep) (first | (go_at_call 48; refine HPI.out.mono ?_; rintro e w5 ⟨v5, rfl, hi5, g5, o5⟩; obtain ⟨a5, k5, rfl⟩ := hi5.sl; obtain ⟨y1, y2, y3⟩ := HFAC.out w5 g5))
  obtain ⟨lab4, m4, q4⟩ := MD3.out.row HHI.out HCV.out g5 hi5 o5
  have Q4 : Hid (LabQ lab lab4 w (w5.setCell ⟨wb, i, none⟩ (.slice a5 (cs c').length k5))) := (Q3.out.trans (LabQ.of (Below.refl _ _).drew)).trans q4
  have M4 : Hid (SM (w5.setCell ⟨wb, i, none⟩ (.slice a5 (cs c').length k5)) lab4 sb ab ub hb wb mb ob1 R W n (s :: L) H (C.set i c') (cv.set i (.slice a5 (cs c').length k5)) D) := m4
  clear m4 q4 g5 hi5 o5 y1 y2 y3 HFAC HPI c2 Q3 M3 MD3
  generalize (cs c').length = l5 at *
  generalize w5.setCell ⟨wb, i, none⟩ (.slice a5 l5 k5) = U at *
  have c3 := M4.out.c3
  obtain ⟨c9, hrun, hat, hwc⟩ := M4.out.mp.lookup_int law3 Try.underlying73 Try.underlying3 (zero3 U) (keyInt a ha)
  have hc9 : c9 = (k0 : Int) := by
    have := hat.symm.trans HAT.out
    unfold i64d at this
    injection this with this
    injection this
  subst hc9
  clear hat hwc
  have hk1 := HKP.out
  obtain ⟨k1, hk1e⟩ : ∃ k1, k0 - 1 = k1 := ⟨_, rfl⟩
  have HK1 : Hid (k0 - 1 = k1) := hk1e
  have hwk : IntKind.i64.wrap ((k0 : Int) - 1) = (k1 : Int) := by rw [i64_wrap _ ⟨by omega, by omega⟩]; omega
  have hwk2 : wrap64 ((k0 : Int) - 1) = (k1 : Int) := by rw [w64in _ ⟨by omega, by omega⟩]; omega
  have HWF : Hid ((Lit.int .i64 (k1 : Int)).wf = true) := wf_mk _ ⟨by omega, by omega⟩
  have HKEY : Hid (keyOf Try.prog 3 (.int .i64 a) = some (klit a)) := keyInt a ha
  have HN : Hid (n < maxLen) := by show n < maxLen; unfold maxLen; omega
  rw [hk1e] at HMD1 HMD2
  clear hk1 hk1e
  go_wp2_with (at_mapUpdate; refine wpList_mapUpdate_own _ rfl _ _ _ 73 rfl 3 3 law3 Try.underlying73 _ mb n D rfl M4.out.mp HN.out _ _ (klit a) rfl rfl HKEY.out _ [] (plainElem_int Try.underlying3 HWF.out) ?mu)
  case mu =>
    intro w7 hm7 hg7
    obtain ⟨m7, q7⟩ := M4.out.map hg7 hm7
    have M7 : Hid (SM w7 lab4 sb ab ub hb wb mb ob1 R W (n + 1) (s :: L) H (C.set i c') (cv.set i (.slice a5 l5 k5)) (D.put (klit a) (i64d (k1 : Int)))) := m7
    have Q7 : Hid (LabQ lab lab4 w w7) := Q4.out.trans q7
    clear hm7 hg7 m7 q7 hrun c3 hwk hwk2
    have c3 := M7.out.c3
    obtain ⟨c9, hrun, hat, hwc⟩ := M7.out.mp.lookup_int law3 Try.underlying73 Try.underlying3 (zero3 w7) (keyInt a ha)
    have hc9 : c9 = (k1 : Int) := by
      have := hat.symm.trans (atKey_put_same HISM.out (keyLit a) (i64d (k1 : Int)) _)
      unfold i64d at this
      injection this with this
      injection this
    subst hc9
    clear hat hwc
    by_cases hz : k1 = 0
    · have HMDz : Hid (MD ((D.put (klit a) (i64d (k1 : Int))).del (klit a)) (manyK W (kf H (C.set i c')))) := HMD2.out (by have := HK1.out; have := HKP.out; omega)
      have ez : ((k1 : Int) == 0) = true := by simp [hz]
      clear hz
      go_wp2_with (at_delete; refine wpList_delete_own _ rfl _ _ 73 3 rfl 3 law3 Try.underlying73 _ mb (n + 1) _ rfl M7.out.mp _ _ rfl HKEY.out ?de)
      case de =>
        intro w8 hm8 ht8
        obtain ⟨m8, q8⟩ := M7.out.map ht8.grown hm8
        have HE : Hid (P (.returned (.bool true)) w8) := HQ.out lab4 w8 _ _ _ _ (Nat.le_refl _) HMDz.out m8 (Q7.out.trans q8)
        clear hm8 ht8 m8 q8 hrun c3
        go_wp2
        first | exact HE.out | (go_ret; exact HE.out)
    · have HMDz : Hid (MD (D.put (klit a) (i64d (k1 : Int))) (manyK W (kf H (C.set i c')))) := HMD1.out (by have := HK1.out; have := HKP.out; omega)
      have ez : ((k1 : Int) == 0) = false := by simp; omega
      have HE : Hid (P (.returned (.bool true)) w7) := HQ.out lab4 w7 _ _ _ _ (Nat.le_refl _) HMDz.out M7.out Q7.out
      clear hz
      go_wp2
      first | exact HE.out | (go_ret; exact HE.out)
end
end Go.Proofs.Ytdohclnmcdempaa
