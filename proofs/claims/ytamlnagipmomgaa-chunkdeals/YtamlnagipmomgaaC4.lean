/- A dealer deals: each worker its own chunks. -/
import Derived.Test.YtamlnagipmomgaaC3
import Derived.Deep.CutRange
namespace Go.Proofs.Ytamlnagipmomgaa
open Go.RowKit Go.Maps
set_option linter.unusedVariables false

/-- where a worker's next chunk begins -/
def ownI (size : Int) (W : Nat) (k : Nat) (t : Int) : Int := ((k : Int) + t * (W : Int)) * size
theorem own_bd (size : Int) (W k : Nat) (t : Int) (hs : 1 ≤ size ∧ size ≤ 200) (hW : 1 ≤ W ∧ W ≤ 8) (hk : k < W) (ht : 0 ≤ t ∧ t ≤ 200) : 0 ≤ t * (W : Int) ∧ t * (W : Int) ≤ 1600 ∧ t ≤ t * (W : Int) ∧ 0 ≤ ownI size W k t ∧ ownI size W k t ≤ 1000000 ∧ t ≤ ownI size W k t := by
  have h1 := Int.mul_nonneg ht.1 (show 0 ≤ (W : Int) by omega)
  have h2 := Int.mul_le_mul ht.2 (show (W : Int) ≤ 8 by omega) (by omega) (by omega : (0 : Int) ≤ 200)
  have h3 : t * 1 ≤ t * (W : Int) := Int.mul_le_mul_of_nonneg_left (by omega) ht.1
  unfold ownI
  have h4 : 0 ≤ (k : Int) + t * (W : Int) := by omega
  have h5 := Int.mul_nonneg h4 (show 0 ≤ size by omega)
  have h6 := Int.mul_le_mul (show (k : Int) + t * (W : Int) ≤ 1608 by omega) hs.2 (by omega) (by omega : (0 : Int) ≤ 1608)
  have h7 : ((k : Int) + t * (W : Int)) * 1 ≤ ((k : Int) + t * (W : Int)) * size := Int.mul_le_mul_of_nonneg_left hs.1 h4
  omega
structure Mid (w : World) (g db tb : Nat) (p size many next : Int) (turns : List Int) (a b : Int) (s : Nat) (wx : World) : Prop where
  dl : DL wx db tb p size many next turns
  sp : wx.heap[s]? = some (.cells #[.int .i64 a, .int .i64 b] 53)
  res : wx.heap[g]? = some (.cells #[.int .i64 0, .int .i64 0] 53)
  n1 : s ≠ g
  n2 : s ≠ db
  n3 : s ≠ tb
  ch : Ch (dw db tb) w wx
set_option maxRecDepth 100000 in
set_option maxHeartbeats 2000000 in
theorem own_any {db tb : Nat} {p size many next : Int} {turns : List Int} (k : Nat) (hk : k < turns.length) (w : World) (h : DL w db tb p size many next turns) : Calls Try.prog 27 #[.pointer (some ⟨db, 0, none⟩), .int .i64 (k : Int)] w (SpQ db tb p size many (fromP many (ownI size turns.length k turns[k]) size) next (if (fromP many (ownI size turns.length k turns[k]) size).1 < (fromP many (ownI size turns.length k turns[k]) size).2 then turns.set k (turns[k] + 1) else turns) w) := by
  have hs := h.hs
  have hm := h.hm
  have hl := h.hl
  have ht := h.ht turns[k] (List.getElem_mem _)
  have cT := fun A => (h.alloc A).cT k hk
  have c1 := fun A => (h.alloc A).c1
  have c4 := fun A => (h.alloc A).c4
  obtain ⟨t, hte⟩ : ∃ t, turns[k] = t := ⟨_, rfl⟩
  rw [hte] at ht cT ⊢
  obtain ⟨W, hW⟩ : ∃ W, turns.length = W := ⟨_, rfl⟩
  rw [hW] at hl c4 ⊢
  have hkW : k < W := by omega
  obtain ⟨o1, o2, o3, o4, o5, o6⟩ := own_bd size W k t hs hl hkW ht
  have HFR : Hid (∀ V, DL V db tb p size many next turns → Calls Try.prog 33 #[.pointer (some ⟨db, 0, none⟩), .int .i64 (ownI size W k t), .int .i64 size] V fun e w' => e = .returned (sp (fromP many (ownI size W k t) size)) ∧ Below V.heap.size V w') := fun V hV => from_any _ _ ⟨o4, o5⟩ ⟨by omega, by omega⟩ V hV
  have k1 : wrap64 (t * (W : Int)) = t * (W : Int) := w64in _ ⟨by omega, by omega⟩
  have k2 : wrap64 ((k : Int) + t * (W : Int)) = (k : Int) + t * (W : Int) := w64in _ ⟨by omega, by omega⟩
  have k3 : wrap64 (((k : Int) + t * (W : Int)) * size) = ownI size W k t := w64in _ ⟨by unfold ownI at o4; omega, by unfold ownI at o5; omega⟩
  have HLT : Hid ((fromP many (ownI size W k t) size).1 < (fromP many (ownI size W k t) size).2 → t + 1 ≤ 200) := by
    intro hx
    unfold fromP at hx
    split at hx
    · simp at hx
    · omega
  have J1 : Hid (IntKind.i64.wrap (t * (W : Int)) = t * (W : Int)) := i64_wrap _ ⟨by omega, by omega⟩
  have J2 : Hid (IntKind.i64.wrap ((k : Int) + t * (W : Int)) = (k : Int) + t * (W : Int)) := i64_wrap _ ⟨by omega, by omega⟩
  have J3 : Hid (IntKind.i64.wrap (((k : Int) + t * (W : Int)) * size) = ownI size W k t) := i64_wrap _ ⟨by unfold ownI at o4; omega, by unfold ownI at o5; omega⟩
  have kk : wrap64 (t + 1) = t + 1 := w64in _ ⟨by omega, by omega⟩
  have HB : Hid (0 ≤ t) := ht.1
  obtain ⟨P, hP⟩ : ∃ P, SpQ db tb p size many (fromP many (ownI size W k t) size) next (if (fromP many (ownI size W k t) size).1 < (fromP many (ownI size W k t) size).2 then turns.set k (t + 1) else turns) w = P := ⟨_, rfl⟩
  have HP : Hid (SpQ db tb p size many (fromP many (ownI size W k t) size) next (if (fromP many (ownI size W k t) size).1 < (fromP many (ownI size W k t) size).2 then turns.set k (t + 1) else turns) w = P) := hP
  rw [hP]
  clear hP
  unfold sp at HFR
  generalize fromP many (ownI size W k t) size = X at *
  obtain ⟨a, b⟩ := X
  simp only [] at *
  have H : Hid (DL w db tb p size many next turns) := h
  have HL : Hid (db < w.heap.size ∧ tb < w.heap.size) := h.lt
  have HNE : Hid (db ≠ tb) := h.ne
  have HWE : Hid (turns.length = W) := hW
  have HTE : Hid (turns[k]'(by omega) = t) := hte
  generalize ownI size W k t = fst at *
  clear h hs hm ht hte hW o1 o2 o3 o4 o5 o6
  go_enter Try.func27, Try.ntmps27
  go_wp2_with fail
  have HD5 : Hid (DL (w.alloc (.cells #[.int .i64 0, .int .i64 0] 53)) db tb p size many next turns) := H.out.alloc _
  have HC5 : Hid (Ch (dw db tb) w (w.alloc (.cells #[.int .i64 0, .int .i64 0] 53))) := Ch.of (bl1 w _)
  have HG5 : Hid ((w.alloc (.cells #[.int .i64 0, .int .i64 0] 53)).heap[w.heap.size]? = some (.cells #[.int .i64 0, .int .i64 0] 53)) := heap_alloc_new _ _
  have cT := cT (.cells #[.int .i64 0, .int .i64 0] 53)
  have c1 := c1 (.cells #[.int .i64 0, .int .i64 0] 53)
  have c4 := c4 (.cells #[.int .i64 0, .int .i64 0] 53)
  generalize (w.alloc (.cells #[.int .i64 0, .int .i64 0] 53)) = U at *
  obtain ⟨g, hg⟩ : ∃ g, w.heap.size = g := ⟨_, rfl⟩
  have HGE : Hid (w.heap.size = g) := hg
  rw [hg] at HG5 HL
  rw [hg]
  clear hg
  have j1 : IntKind.i64.wrap (t * (W : Int)) = t * (W : Int) := J1.out
  have j2 : IntKind.i64.wrap ((k : Int) + t * (W : Int)) = (k : Int) + t * (W : Int) := J2.out
  have j3 : IntKind.i64.wrap (((k : Int) + t * (W : Int)) * size) = fst := J3.out
  have HDd : Hid (DL U.drew db tb p size many next turns) := HD5.out.drew
  have HDa : Hid (∀ A, DL (U.alloc A).drew db tb p size many next turns) := fun A => (HD5.out.alloc A).drew
  have HDb : Hid (∀ A, DL (U.drew.alloc A) db tb p size many next turns) := fun A => HD5.out.drew.alloc A
  have HKS : Hid (∀ V w4, DL V db tb p size many next turns → Below V.heap.size V w4 → w4.cell? ⟨db, 1, none⟩ = some (.int .i64 size) ∧ w4.cell? ⟨db, 4, none⟩ = some (.slice (some ⟨tb, 0, none⟩) W W) ∧ w4.cell? ⟨tb, k, none⟩ = some (.int .i64 t)) := by
    intro V w4 hV b4
    have hD := hV.below b4
    refine ⟨hD.c1, ?_, ?_⟩
    · have := hD.c4; rw [HWE.out] at this; exact this
    · have := hD.cT k (by rw [HWE.out]; exact hkW); rw [HTE.out] at this; exact this
  have HZ0 : Hid (∀ w4 : World, w4.heap[U.heap.size]? = some (.cells #[.int .i64 0, .int .i64 0] 53) → w4.cell? ⟨U.heap.size, 0, none⟩ = some (.int .i64 0) ∧ w4.cell? ⟨U.heap.size, 1, none⟩ = some (.int .i64 0) ∧ w4.frozen? ⟨U.heap.size, 0, none⟩ = false ∧ w4.frozen? ⟨U.heap.size, 1, none⟩ = false) := by
    intro w4 h4
    exact ⟨by rw [cell_of_row w4 U.heap.size 0 _ _ _ h4]; rfl, by rw [cell_of_row w4 U.heap.size 1 _ _ _ h4]; rfl, frozen_of_row w4 U.heap.size 0 _ _ h4, frozen_of_row w4 U.heap.size 1 _ _ h4⟩
  have HZa : Hid (∀ w4, Below (U.alloc (.cells #[.int .i64 0, .int .i64 0] 53)).drew.heap.size (U.alloc (.cells #[.int .i64 0, .int .i64 0] 53)).drew w4 → w4.cell? ⟨U.heap.size, 0, none⟩ = some (.int .i64 0) ∧ w4.cell? ⟨U.heap.size, 1, none⟩ = some (.int .i64 0) ∧ w4.frozen? ⟨U.heap.size, 0, none⟩ = false ∧ w4.frozen? ⟨U.heap.size, 1, none⟩ = false) := fun w4 b4 => HZ0.out w4 ((b4.block U.heap.size (by show _ < (U.alloc _).heap.size; simp)).trans (heap_alloc_new U _))
  have HZb : Hid (∀ w4, Below (U.drew.alloc (.cells #[.int .i64 0, .int .i64 0] 53)).heap.size (U.drew.alloc (.cells #[.int .i64 0, .int .i64 0] 53)) w4 → w4.cell? ⟨U.heap.size, 0, none⟩ = some (.int .i64 0) ∧ w4.cell? ⟨U.heap.size, 1, none⟩ = some (.int .i64 0) ∧ w4.frozen? ⟨U.heap.size, 0, none⟩ = false ∧ w4.frozen? ⟨U.heap.size, 1, none⟩ = false) := fun w4 b4 => HZ0.out w4 ((b4.block U.heap.size (by show _ < (U.drew.alloc _).heap.size; simp)).trans (heap_alloc_new U.drew _))
  have HKP : Hid (∀ (w4 : World) (x y : Value), w4.cell? ⟨db, 1, none⟩ = some (.int .i64 size) ∧ w4.cell? ⟨db, 4, none⟩ = some (.slice (some ⟨tb, 0, none⟩) W W) ∧ w4.cell? ⟨tb, k, none⟩ = some (.int .i64 t) → ((w4.setCell ⟨U.heap.size, 0, none⟩ x).setCell ⟨U.heap.size, 1, none⟩ y).cell? ⟨db, 1, none⟩ = some (.int .i64 size) ∧ ((w4.setCell ⟨U.heap.size, 0, none⟩ x).setCell ⟨U.heap.size, 1, none⟩ y).cell? ⟨db, 4, none⟩ = some (.slice (some ⟨tb, 0, none⟩) W W) ∧ ((w4.setCell ⟨U.heap.size, 0, none⟩ x).setCell ⟨U.heap.size, 1, none⟩ y).cell? ⟨tb, k, none⟩ = some (.int .i64 t)) := by
    intro w4 x y h
    have hlt := HD5.out.lt
    have e : ∀ (q i : Nat), q ≠ U.heap.size → ((w4.setCell ⟨U.heap.size, 0, none⟩ x).setCell ⟨U.heap.size, 1, none⟩ y).cell? ⟨q, i, none⟩ = w4.cell? ⟨q, i, none⟩ := fun q i hq => World.cell?_of_block (a := ⟨q, i, none⟩) ((Below.heap_setCell _ _ _ _ hq).trans (Below.heap_setCell _ _ _ _ hq))
    rw [e db 1 (by omega), e db 4 (by omega), e tb k (by omega)]
    exact h
  have HM1 : Hid (∀ w4, Below U.drew.heap.size U.drew w4 → Mid w g db tb p size many next turns a b w4.heap.size (w4.alloc (.cells #[.int .i64 a, .int .i64 b] 53))) := by
    intro w4 b4
    have D4 := HDd.out.below b4
    have lt4 := D4.lt
    have G4 : w4.heap[g]? = some (.cells #[.int .i64 0, .int .i64 0] 53) := (b4.block g (Array.getElem?_eq_some_iff.1 HG5.out).1).trans HG5.out
    have L4 := (Array.getElem?_eq_some_iff.1 G4).1
    exact ⟨D4.alloc _, heap_alloc_new _ _, (heap_alloc_old _ _ L4).trans G4, by omega, by omega, by omega, (HC5.out.trans (Ch.of ⟨b4.os, b4.tape, b4.output, b4.size, b4.block⟩)).alloc _⟩
  have HM2 : Hid (∀ w4, Below (U.alloc (.cells #[.int .i64 0, .int .i64 0] 53)).drew.heap.size (U.alloc (.cells #[.int .i64 0, .int .i64 0] 53)).drew w4 → Mid w g db tb p size many next turns a b U.heap.size ((w4.setCell ⟨U.heap.size, 0, none⟩ (.int .i64 a)).setCell ⟨U.heap.size, 1, none⟩ (.int .i64 b))) := by
    intro w4 b4
    have ltU := HD5.out.lt
    have D4 := (HDa.out (.cells #[.int .i64 0, .int .i64 0] 53)).below b4
    have LG := (Array.getElem?_eq_some_iff.1 HG5.out).1
    have G4 : w4.heap[g]? = some (.cells #[.int .i64 0, .int .i64 0] 53) := (b4.block g (by show _ < (U.alloc _).heap.size; simp; omega)).trans ((heap_alloc_old U _ LG).trans HG5.out)
    have S4 : w4.heap[U.heap.size]? = some (.cells #[.int .i64 0, .int .i64 0] 53) := (b4.block U.heap.size (by show _ < (U.alloc _).heap.size; simp)).trans (heap_alloc_new U _)
    have hcs := HC5.out.size
    have C4 : Ch (dw db tb) w w4 := (HC5.out.alloc (.cells #[.int .i64 0, .int .i64 0] 53)).trans (Ch.of ⟨b4.os, b4.tape, b4.output, b4.size, b4.block⟩)
    refine ⟨(D4.other (by omega) (by omega) _ _).other (by omega) (by omega) _ _, put2 S4, ?_, by omega, by omega, by omega, (C4.set (.inr hcs) _ _).set (.inr hcs) _ _⟩
    exact ((Below.heap_setCell _ _ _ _ (by show g ≠ U.heap.size; omega)).trans (Below.heap_setCell _ _ _ _ (by show g ≠ U.heap.size; omega))).trans G4
  go_cut [5] from 6 to 31 (fun x wx => ∃ s, x = .pointer (some ⟨s, 0, none⟩) ∧ Hid (Mid w g db tb p size many next turns a b s wx))
  case first =>
    go_region_held3 (fun w' => w'.cell? ⟨db, 1, none⟩ = some (.int .i64 size) ∧ w'.cell? ⟨db, 4, none⟩ = some (.slice (some ⟨tb, 0, none⟩) W W) ∧ w'.cell? ⟨tb, k, none⟩ = some (.int .i64 t)) (first | assumption | (refine HKP.out _ _ _ ?_; assumption) | go_keep) (first | (go_at_call 33; refine (HFR.out _ HDd.out).mono ?_; rintro e w4 ⟨rfl, b4⟩; have hS := HKS.out _ _ HDd.out b4) | (go_at_call 33; refine (HFR.out _ (HDa.out _)).mono ?_; rintro e w4 ⟨rfl, b4⟩; have hS := HKS.out _ _ (HDa.out _) b4; obtain ⟨z0, z1, z2, z3⟩ := HZa.out _ b4) | (go_at_call 33; refine (HFR.out _ (HDb.out _)).mono ?_; rintro e w4 ⟨rfl, b4⟩; have hS := HKS.out _ _ (HDb.out _) b4; obtain ⟨z0, z1, z2, z3⟩ := HZb.out _ b4))
    · go_wp2_with fail
      go_meet
      case rel => exact ⟨_, rfl, HM1.out _ b4⟩
    · go_wp2_with fail
      go_meet
      case rel => exact ⟨_, rfl, HM2.out _ b4⟩
  case rest =>
    obtain ⟨s, rfl, HMD⟩ := hcut
    have c4 : wc.cell? ⟨db, 4, none⟩ = some (.slice (some ⟨tb, 0, none⟩) W W) := by have := HMD.out.dl.c4; rw [HWE.out] at this; exact this
    have cT : wc.cell? ⟨tb, k, none⟩ = some (.int .i64 t) := by have := HMD.out.dl.cT k (by rw [HWE.out]; exact hkW); rw [HTE.out] at this; exact this
    have fT : wc.frozen? ⟨tb, k, none⟩ = false := HMD.out.dl.fT k
    have s0 : wc.cell? ⟨s, 0, none⟩ = some (.int .i64 a) := by rw [cell_of_row wc s 0 _ _ _ HMD.out.sp]; rfl
    have s1 : wc.cell? ⟨s, 1, none⟩ = some (.int .i64 b) := by rw [cell_of_row wc s 1 _ _ _ HMD.out.sp]; rfl
    have g0 : wc.cell? ⟨g, 0, none⟩ = some (.int .i64 0) := by rw [cell_of_row wc g 0 _ _ _ HMD.out.res]; rfl
    have g1 : wc.cell? ⟨g, 1, none⟩ = some (.int .i64 0) := by rw [cell_of_row wc g 1 _ _ _ HMD.out.res]; rfl
    have gf0 : wc.frozen? ⟨g, 0, none⟩ = false := frozen_of_row wc g 0 _ _ HMD.out.res
    have gf1 : wc.frozen? ⟨g, 1, none⟩ = false := frozen_of_row wc g 1 _ _ HMD.out.res
    have n1 : ¬ tb = g := by have := HL.out; omega
    have n2 : ¬ g = tb := fun q => n1 q.symm
    have n3 : ¬ s = tb := HMD.out.n3
    have n4 : ¬ tb = s := fun q => n3 q.symm
    have n5 : ¬ s = g := HMD.out.n1
    have n6 : ¬ g = s := fun q => n5 q.symm
    have HDG : Hid (db ≠ g ∧ tb ≠ g) := by show _ ∧ _; have := HL.out; omega
    by_cases hab : a < b
    · have e1 : decide (a < b) = true := by simp [hab]
      have HL2 := HLT.out hab
      go_wp2_with fail
      refine bodyPost_ret (ret_sp Try.results27 _ g rfl _ _ _ (put2 (x := .int .i64 0) (y := .int .i64 0) ((Below.heap_setCell _ _ _ _ (by show g ≠ tb; exact n2)).trans HMD.out.res))) rfl ?_
      rw [← HP.out, if_pos hab]
      refine ⟨rfl, ((HMD.out.dl.setT k (t + 1) ⟨by have := HB.out; omega, HL2⟩).other HDG.out.1 HDG.out.2 _ _).other HDG.out.1 HDG.out.2 _ _, ?_⟩
      exact ((HMD.out.ch.set (.inl (.inr rfl)) _ _).set (.inr (by rw [HGE.out]; exact Nat.le_refl _)) _ _).set (.inr (by rw [HGE.out]; exact Nat.le_refl _)) _ _
    · have e1 : decide (a < b) = false := by simp [hab]
      have HAB : Hid (¬ a < b) := hab
      go_wp2_with fail
      refine bodyPost_ret (ret_sp Try.results27 _ g rfl _ _ _ (put2 (x := .int .i64 0) (y := .int .i64 0) HMD.out.res)) rfl ?_
      rw [← HP.out, if_neg (Int.not_lt.2 HAB.out)]
      refine ⟨rfl, (HMD.out.dl.other HDG.out.1 HDG.out.2 _ _).other HDG.out.1 HDG.out.2 _ _, ?_⟩
      exact (HMD.out.ch.set (.inr (by rw [HGE.out]; exact Nat.le_refl _)) _ _).set (.inr (by rw [HGE.out]; exact Nat.le_refl _)) _ _
end Go.Proofs.Ytamlnagipmomgaa
