/- The document's own Open. -/
import Derived.Test.YtjdcoiekbnefkacRefT
namespace Go.Proofs.Ytjdcoiekbnefkac
open Go.RowKit
set_option linter.unusedVariables false

theorem take8 (A : List UInt8) : A.take 8 = A.take 4 ++ (A.drop 4).take 4 := by
  rw [show (8 : Nat) = 4 + 4 from rfl, List.take_add]
theorem split16 (A : List UInt8) : A = A.take 8 ++ ((A.drop 8).take 8 ++ A.drop 16) := by
  conv => lhs; rw [← List.take_append_drop 8 A, ← List.take_append_drop 8 (A.drop 8), List.drop_drop]
theorem ref_head (B : List UInt8) (h16 : 16 ≤ B.length) (hle : B.length - 16 ≤ 1048576) (h : B.take 8 ≠ (sealB (B.drop 16)).take 8) : openE B = 21 := by
  obtain ⟨p1, p2, p3, p4⟩ := seal_parts (B.drop 16)
  unfold openE
  rw [if_neg (by omega), if_pos]
  apply Classical.byContradiction
  intro hn
  have a1 : B.take 4 = outr := Classical.byContradiction fun h => hn (Or.inl h)
  have a2 : lowN ((B.drop 4).take 4) = B.length - 16 := Classical.byContradiction fun h => hn (Or.inr (Or.inl h))
  apply h
  rw [take8 B, take8 (sealB _), p1, p2, a1]
  congr 1
  apply lowN_inj
  · rw [lowB_len, List.length_take, List.length_drop]; omega
  · rw [a2, List.length_drop, lowN_lowB 4 _ (by omega)]
theorem ref_sum (B : List UInt8) (h16 : 16 ≤ B.length) (hle : B.length - 16 ≤ 1048576) (h : B.take 8 = (sealB (B.drop 16)).take 8) (hne : B ≠ sealB (B.drop 16)) : openE B = 22 := by
  obtain ⟨p1, p2, p3, p4⟩ := seal_parts (B.drop 16)
  have hs := sumB_lt (B.drop 16)
  rw [M64_eq] at hs
  have t4 : B.take 4 = outr := by
    have h9 := congrArg (List.take 4) h
    rw [List.take_take, List.take_take] at h9
    rw [← p1]; exact h9
  have d4 : (B.drop 4).take 4 = lowB (B.drop 16).length 4 := by
    have h9 := congrArg (List.drop 4) h
    rw [List.drop_take, List.drop_take] at h9
    rw [← p2]; exact h9
  unfold openE
  rw [if_neg (by omega), if_neg, if_pos]
  · intro e
    apply hne
    have d8 : (B.drop 8).take 8 = ((sealB (B.drop 16)).drop 8).take 8 := by
      rw [p3]
      apply lowN_inj
      · rw [lowB_len, List.length_take, List.length_drop]; omega
      · rw [e, lowN_lowB 8 _ (by omega)]
    calc B = B.take 8 ++ ((B.drop 8).take 8 ++ B.drop 16) := split16 B
      _ = (sealB (B.drop 16)).take 8 ++ (((sealB (B.drop 16)).drop 8).take 8 ++ (sealB (B.drop 16)).drop 16) := by rw [h, d8, p4]
      _ = sealB (B.drop 16) := (split16 _).symm
  · rintro (h9 | h9 | h9)
    · exact h9 t4
    · apply h9; rw [d4, List.length_drop, lowN_lowB 4 _ (by omega)]
    · omega
theorem ref_good (B : List UInt8) (hle : B.length - 16 ≤ 1048576) (h : B = sealB (B.drop 16)) : openE B = 0 ∧ openB B = B.drop 16 := by
  have h9 := open_seal (B.drop 16) (by rw [List.length_drop]; exact hle)
  rw [← h] at h9
  exact h9
theorem ref_big (B : List UInt8) (h16 : 16 ≤ B.length) (hle : 1048576 < B.length - 16) : openE B = 21 := by
  unfold openE
  rw [if_neg (by omega), if_pos (Or.inr (Or.inr hle))]

theorem RdX.cells {w : World} {x : Addr} {n c : Nat} {L : List UInt8} (h : RdX w (.slice (some x) n c) L) : ∀ j (h : j < L.length), w.cell? (x.add j) = some (.int .u8 (L[j].toNat : Int)) := by
  rcases h with ⟨h3, _⟩ | ⟨y, cy, h3, _, _, h4⟩
  · cases h3
  · simp only [Value.slice.injEq, Option.some.injEq] at h3
    obtain ⟨rfl, _, _⟩ := h3
    exact h4

theorem RdX.part {w : World} {x : Addr} {c : Nat} {B : List UInt8} (hc : ∀ i (h : i < B.length), w.cell? (x.add i) = some (.int .u8 (B[i].toNat : Int))) (n o : Nat) (hB : B.length = n) (ho : o ≤ n) (hn : n ≤ c) (hm : c ≤ maxLen) :
    RdX w (.slice (some (x.add o)) (n - o) (c - o)) (B.drop o) := by
  have hl : (B.drop o).length = n - o := by rw [List.length_drop, hB]
  refine Or.inr ⟨x.add o, c - o, by rw [hl], by rw [hl]; omega, by omega, fun i hi => ?_⟩
  rw [Addr.add_add, hc (o + i) (by omega)]
  simp
theorem RdX.none {w : World} {x : Addr} {B : List UInt8} (hB : B.length = 16) : RdX w (.slice (some x) 0 0) (B.drop 16) := by
  have hl : (B.drop 16).length = 0 := by rw [List.length_drop, hB]
  refine Or.inr ⟨x, 0, by rw [hl], by rw [hl]; exact Nat.le_refl _, by unfold maxLen; omega, fun i hi => ?_⟩
  rw [hl] at hi; omega
theorem RdX.head {w : World} {x : Addr} {c : Nat} {B : List UInt8} (hc : ∀ i (h : i < B.length), w.cell? (x.add i) = some (.int .u8 (B[i].toNat : Int))) (n : Nat) (hB : 8 ≤ B.length) (hn : 8 ≤ c) (hm : c ≤ maxLen) :
    RdX w (.slice (some x) 8 c) (B.take 8) := by
  have hl : (B.take 8).length = 8 := by rw [List.length_take]; omega
  refine Or.inr ⟨x, c, by rw [hl], by rw [hl]; exact hn, hm, fun i hi => ?_⟩
  rw [hc i (by omega)]
  simp

set_option maxHeartbeats 400000 in
theorem ropen_short (a : Option Addr) (n c : Nat) (B : List UInt8) (w : World) (hn : n < 16) (hB : Hid (B.length = n)) :
    Calls Try.prog 28 #[.slice a n c] w fun e w' => OpenPost w B e w' := by
  have HE : Hid (openE B = 20) := by show _ = _; unfold openE; rw [if_pos (by rw [hB.out]; exact hn)]
  go_enter Try.func28, Try.ntmps28
  go_wp2
  go_ret2
  exact ⟨_, by rw [HE.out]; rfl, Or.inl ⟨rfl, openB_bad HE.out (by decide)⟩, Below.refl _ _⟩

set_option maxRecDepth 100000 in
set_option maxHeartbeats 2000000 in
theorem ropen_big (x : Addr) (n c : Nat) (B : List UInt8) (w : World) (hn : 1048592 < n) (hnc : n ≤ c) (hcm : c ≤ maxLen) (hB : Hid (B.length = n)) :
    Calls Try.prog 28 #[.slice (some x) n c] w fun e w' => OpenPost w B e w' := by
  have HE : Hid (openE B = 21) := ref_big B (by rw [hB.out]; omega) (by rw [hB.out]; omega)
  have hm2 : n - 16 ≤ maxLen := by omega
  have HM : Hid (n - 16 ≤ maxLen) := hm2
  unfold maxLen at hcm
  clear hm2
  go_enter Try.func28, Try.ntmps28
  go_wp2_with fail
  refine (rseal_big _ (n - 16) _ w (by omega) HM.out).mono ?_
  rintro e w' ⟨rfl, hw⟩
  rw [hw]
  clear hw w'
  go_wp2
  go_region
  go_wp2
  go_ret2
  exact ⟨_, by rw [HE.out]; rfl, Or.inl ⟨rfl, openB_bad HE.out (by decide)⟩, (Below.refl _ _).drew⟩

set_option maxRecDepth 100000 in
set_option maxHeartbeats 4000000 in
theorem ropen_n (x : Addr) (n c : Nat) (B : List UInt8) (w : World) (hn : 16 ≤ n) (hn2 : n ≤ 1048592) (hnc : n ≤ c) (hcm : c ≤ maxLen) (hB : Hid (B.length = n)) (hc : Hid (∀ i (h : i < B.length), w.cell? (x.add i) = some (.int .u8 (B[i].toNat : Int)))) (h16 : ¬ c = 16) :
    Calls Try.prog 28 #[.slice (some x) n c] w fun e w' => OpenPost w B e w' := by
  obtain ⟨i0, hi, hz0, hz1, hz2⟩ := info_parts info5
  have HM : Hid (c ≤ maxLen) := hcm
  have HRW : Hid (RdX w (.slice (some x) n c) B) := Or.inr ⟨x, c, by rw [hB.out], by rw [hB.out]; exact hnc, hcm, hc.out⟩
  have HRB : Hid (RdX w (.slice (some ⟨x.block, x.off + 16, none⟩) (n - 16) (c - 16)) (B.drop 16)) := RdX.part hc.out n 16 hB.out hn hnc hcm
  obtain ⟨D, hD⟩ : ∃ D, B.drop 16 = D := ⟨_, rfl⟩
  rw [hD] at HRB
  have HD : Hid (B.drop 16 = D) := hD
  have hDl : D.length = n - 16 := by rw [← hD, List.length_drop, hB.out]
  clear hD
  unfold maxLen at hcm
  go_enter Try.func28, Try.ntmps28
  go_wp2_with fail
  refine (rseal_any _ D _ (by rw [hDl]; omega) HRB.out).mono ?_
  rintro e w2 ⟨v2, rfl, o2, b2⟩
  obtain ⟨T, hT⟩ : ∃ T, sealB D = T := ⟨_, rfl⟩
  have hTl : T.length = n := by have h9 := seal_len D; rw [hT, hDl] at h9; omega
  rw [hT] at o2
  have HT : Hid (sealB (B.drop 16) = T) := by show _ = _; rw [HD.out]; exact hT
  obtain ⟨g2, c2, rfl, hg2, hg2s, hc2, hc2m, hce2⟩ := o2.parts (by omega)
  have r2 := o2.rd.x
  rw [hTl] at r2 hc2 ⊢
  have B2 : Hid (Below w.heap.size w w2) := b2
  have hcell2 : Hid (∀ i (h : i < B.length), w2.cell? (x.add i) = some (.int .u8 (B[i].toNat : Int))) := by
    intro i hi9
    have h8 := hc.out i hi9
    rw [b2.cell (p := x.add i) (cellX_lt h8)]
    exact h8
  have cvB := (HRW.out.below b2).str
  have cvT := r2.str
  have k8 := RdX.head hcell2.out n (by rw [hB.out]; omega) (by omega) HM.out
  have cvB8 := k8.str
  have kT8 := (RdX.head (w := w2) (x := ⟨g2, 0, none⟩) (c := c2) (B := T) (fun i hi9 => hce2 i _ (by unfold bc; rw [List.getElem?_map, List.getElem?_eq_getElem hi9]; rfl)) n (by omega) (by omega) hc2m)
  have cvT8 := kT8.str
  have HC2M : Hid (c2 ≤ maxLen) := hc2m
  unfold maxLen at hc2m
  have hT2 : Hid (sealB D = T) := hT
  clear o2 hT hce2 b2 hc hg2 hg2s
  obtain ⟨SB, hSB⟩ : ∃ S : ByteArray, (⟨B.toArray⟩ : ByteArray) = S := ⟨_, rfl⟩
  obtain ⟨ST, hST⟩ : ∃ S : ByteArray, (⟨T.toArray⟩ : ByteArray) = S := ⟨_, rfl⟩
  obtain ⟨SB8, hSB8⟩ : ∃ S : ByteArray, (⟨(B.take 8).toArray⟩ : ByteArray) = S := ⟨_, rfl⟩
  obtain ⟨ST8, hST8⟩ : ∃ S : ByteArray, (⟨(T.take 8).toArray⟩ : ByteArray) = S := ⟨_, rfl⟩
  rw [hSB] at cvB
  rw [hST] at cvT
  rw [hSB8] at cvB8
  rw [hST8] at cvT8
  have hde : ∀ A C : List UInt8, (A == C) = decide (A = C) := fun A C => by by_cases h : A = C <;> simp [h]
  have heq : (SB.toList == ST.toList) = decide (B = T) := by
    rw [← hSB, ← hST, ByteArray.toList_eq, ByteArray.toList_eq]; exact hde B T
  have heq8 : (SB8.toList == ST8.toList) = decide (B.take 8 = T.take 8) := by
    rw [← hSB8, ← hST8, ByteArray.toList_eq, ByteArray.toList_eq]; exact hde (B.take 8) (T.take 8)
  have cvBd : (convert 26 9 (.slice (some x) n c)).run Try.prog w2.drew = .ok (.string SB) w2.drew := by
    rw [← hSB]; exact RdX.str (w := w2.drew) (HRW.out.below B2.out.drew)
  have cvTd : (convert 26 9 (.slice (some ⟨g2, 0, none⟩) n c2)).run Try.prog w2.drew = .ok (.string ST) w2.drew := by
    rw [← hST]; exact RdX.str (w := w2.drew) r2
  have cvB8d : (convert 26 9 (.slice (some x) 8 c)).run Try.prog w2.drew = .ok (.string SB8) w2.drew := by
    rw [← hSB8]; exact RdX.str (w := w2.drew) k8
  have cvT8d : (convert 26 9 (.slice (some ⟨g2, 0, none⟩) 8 c2)).run Try.prog w2.drew = .ok (.string ST8) w2.drew := by
    rw [← hST8]; exact RdX.str (w := w2.drew) kT8
  have e16 : (B.length : Nat) - 16 ≤ 1048576 := by rw [hB.out]; omega
  have E16 : Hid (16 ≤ B.length) := by show _ ≤ _; rw [hB.out]; exact hn
  have E17 : Hid (B.length - 16 ≤ 1048576) := e16
  clear e16 hSB hST hSB8 hST8 r2 k8 kT8 hde
  by_cases h8 : B.take 8 = T.take 8
  · have heq8' : (SB8.toList == ST8.toList) = true := by rw [heq8]; simp [h8]
    by_cases hBT : B = T
    · have heq' : (SB.toList == ST.toList) = true := by rw [heq]; simp [hBT]
      have HG : Hid (openE B = 0 ∧ openB B = D) := by
        have h9 := ref_good B E17.out (by rw [HT.out]; exact hBT)
        rw [HD.out] at h9
        exact h9
      have HSP : Hid (RdX w2 (.slice (some x) n c) B) := HRW.out.below B2.out
      have HDR : Hid (RdX w2 (.slice (some ⟨x.block, x.off + 16, none⟩) (n - 16) (c - 16)) D) := HRB.out.below B2.out
      clear h8 hBT heq heq8
      go_wp2
      go_region
      go_wp2_with (at_builtin; refine wpList_append_own _ rfl _ _ 26 rfl w2.heap.size 5 i0 (.int .u8 0) 1 1 Try.underlying26 hi hz0 hz1 hz2 rfl (by decide) _ _ _ rfl (own_empty w2.drew) (⟨x.block, x.off + 16, none⟩ : Addr) (n - 16) (c - 16) (bc D) rfl ?c0 ?c1 ?c2 ?c3 ?c4 ?c5 ?_)
      case c0 => rw [bc_len, Nat.mul_one]; exact hDl
      case c1 =>
        intro j u hj
        obtain ⟨h1, rfl⟩ := bc_get D j u hj
        have h2 : w2.cell? (((⟨x.block, x.off + 16, none⟩ : Addr)).add j) = some (.int .u8 (D[j].toNat : Int)) := HDR.out.cells j h1
        show (w2.alloc (.cells #[] 5)).cell? _ = _
        rw [World.cell?_alloc_lt]
        · exact h2
        · exact cellX_lt h2
      case c2 => exact bc_one D
      case c3 => unfold maxLen; omega
      case c4 => omega
      case c5 => simp
      · intro v3 w3 hown3 hgrow3 _
        have O3 : Hid (Own w3 w2.heap.size v3 D) := by show Own _ _ _ _; unfold Own; rw [hDl]; exact hown3
        have B3 : Hid (Below w2.heap.size w2 w3) := ((Below.refl _ w2).drew.alloc (Nat.le_refl _) _).grown hgrow3 (by simp) (fun k hk => by simp [Value.ownBlock] at hk; have h7 : w2.drew.heap.size = w2.heap.size := rfl; omega)
        clear hown3 hgrow3
        go_wp2
        go_ret2
        exact ⟨_, by rw [HG.out.1]; rfl, by rw [HG.out.2]; exact O3.out.rd, B2.out.trans (B3.out.mono B2.out.size)⟩
    · have heq' : (SB.toList == ST.toList) = false := by rw [heq]; simp [hBT]
      have HE : Hid (openE B = 22) := ref_sum B E16.out E17.out (by rw [HT.out]; exact h8) (by rw [HT.out]; exact hBT)
      clear h8 hBT heq heq8
      go_wp2
      go_region
      go_wp2
      go_ret2
      exact ⟨_, by rw [HE.out]; rfl, Or.inl ⟨rfl, openB_bad HE.out (by decide)⟩, B2.out.drew⟩
  · have heq8' : (SB8.toList == ST8.toList) = false := by rw [heq8]; simp [h8]
    have HE : Hid (openE B = 21) := ref_head B E16.out E17.out (by rw [HT.out]; exact h8)
    clear h8 heq heq8
    go_wp2
    go_region
    go_wp2
    go_ret2
    exact ⟨_, by rw [HE.out]; rfl, Or.inl ⟨rfl, openB_bad HE.out (by decide)⟩, B2.out.drew⟩

set_option maxRecDepth 100000 in
set_option maxHeartbeats 4000000 in
theorem ropen_e (x : Addr) (B : List UInt8) (w : World) (hn : 16 ≤ 16) (hn2 : 16 ≤ 1048592) (hnc : 16 ≤ 16) (hcm : 16 ≤ maxLen) (hB : Hid (B.length = 16)) (hc : Hid (∀ i (h : i < B.length), w.cell? (x.add i) = some (.int .u8 (B[i].toNat : Int))))  :
    Calls Try.prog 28 #[.slice (some x) 16 16] w fun e w' => OpenPost w B e w' := by
  obtain ⟨i0, hi, hz0, hz1, hz2⟩ := info_parts info5
  have HM : Hid (16 ≤ maxLen) := hcm
  have HRW : Hid (RdX w (.slice (some x) 16 16) B) := Or.inr ⟨x, 16, by rw [hB.out], by rw [hB.out]; exact hnc, hcm, hc.out⟩
  have HRB : Hid (RdX w (.slice (some x) 0 0) (B.drop 16)) := RdX.none hB.out
  obtain ⟨D, hD⟩ : ∃ D, B.drop 16 = D := ⟨_, rfl⟩
  rw [hD] at HRB
  have HD : Hid (B.drop 16 = D) := hD
  have hDl : D.length = 16 - 16 := by rw [← hD, List.length_drop, hB.out]
  clear hD
  unfold maxLen at hcm
  go_enter Try.func28, Try.ntmps28
  go_wp2_with fail
  refine (rseal_any _ D _ (by rw [hDl]; omega) HRB.out).mono ?_
  rintro e w2 ⟨v2, rfl, o2, b2⟩
  obtain ⟨T, hT⟩ : ∃ T, sealB D = T := ⟨_, rfl⟩
  have hTl : T.length = 16 := by have h9 := seal_len D; rw [hT, hDl] at h9; omega
  rw [hT] at o2
  have HT : Hid (sealB (B.drop 16) = T) := by show _ = _; rw [HD.out]; exact hT
  obtain ⟨g2, c2, rfl, hg2, hg2s, hc2, hc2m, hce2⟩ := o2.parts (by omega)
  have r2 := o2.rd.x
  rw [hTl] at r2 hc2 ⊢
  have B2 : Hid (Below w.heap.size w w2) := b2
  have hcell2 : Hid (∀ i (h : i < B.length), w2.cell? (x.add i) = some (.int .u8 (B[i].toNat : Int))) := by
    intro i hi9
    have h8 := hc.out i hi9
    rw [b2.cell (p := x.add i) (cellX_lt h8)]
    exact h8
  have cvB := (HRW.out.below b2).str
  have cvT := r2.str
  have k8 := RdX.head hcell2.out 16 (by rw [hB.out]; omega) (by omega) HM.out
  have cvB8 := k8.str
  have kT8 := (RdX.head (w := w2) (x := ⟨g2, 0, none⟩) (c := c2) (B := T) (fun i hi9 => hce2 i _ (by unfold bc; rw [List.getElem?_map, List.getElem?_eq_getElem hi9]; rfl)) 16 (by omega) (by omega) hc2m)
  have cvT8 := kT8.str
  have HC2M : Hid (c2 ≤ maxLen) := hc2m
  unfold maxLen at hc2m
  have hT2 : Hid (sealB D = T) := hT
  clear o2 hT hce2 b2 hc hg2 hg2s
  obtain ⟨SB, hSB⟩ : ∃ S : ByteArray, (⟨B.toArray⟩ : ByteArray) = S := ⟨_, rfl⟩
  obtain ⟨ST, hST⟩ : ∃ S : ByteArray, (⟨T.toArray⟩ : ByteArray) = S := ⟨_, rfl⟩
  obtain ⟨SB8, hSB8⟩ : ∃ S : ByteArray, (⟨(B.take 8).toArray⟩ : ByteArray) = S := ⟨_, rfl⟩
  obtain ⟨ST8, hST8⟩ : ∃ S : ByteArray, (⟨(T.take 8).toArray⟩ : ByteArray) = S := ⟨_, rfl⟩
  rw [hSB] at cvB
  rw [hST] at cvT
  rw [hSB8] at cvB8
  rw [hST8] at cvT8
  have hde : ∀ A C : List UInt8, (A == C) = decide (A = C) := fun A C => by by_cases h : A = C <;> simp [h]
  have heq : (SB.toList == ST.toList) = decide (B = T) := by
    rw [← hSB, ← hST, ByteArray.toList_eq, ByteArray.toList_eq]; exact hde B T
  have heq8 : (SB8.toList == ST8.toList) = decide (B.take 8 = T.take 8) := by
    rw [← hSB8, ← hST8, ByteArray.toList_eq, ByteArray.toList_eq]; exact hde (B.take 8) (T.take 8)
  have cvBd : (convert 26 9 (.slice (some x) 16 16)).run Try.prog w2.drew = .ok (.string SB) w2.drew := by
    rw [← hSB]; exact RdX.str (w := w2.drew) (HRW.out.below B2.out.drew)
  have cvTd : (convert 26 9 (.slice (some ⟨g2, 0, none⟩) 16 c2)).run Try.prog w2.drew = .ok (.string ST) w2.drew := by
    rw [← hST]; exact RdX.str (w := w2.drew) r2
  have cvB8d : (convert 26 9 (.slice (some x) 8 16)).run Try.prog w2.drew = .ok (.string SB8) w2.drew := by
    rw [← hSB8]; exact RdX.str (w := w2.drew) k8
  have cvT8d : (convert 26 9 (.slice (some ⟨g2, 0, none⟩) 8 c2)).run Try.prog w2.drew = .ok (.string ST8) w2.drew := by
    rw [← hST8]; exact RdX.str (w := w2.drew) kT8
  have e16 : (B.length : Nat) - 16 ≤ 1048576 := by rw [hB.out]; omega
  have E16 : Hid (16 ≤ B.length) := by show _ ≤ _; rw [hB.out]; exact hn
  have E17 : Hid (B.length - 16 ≤ 1048576) := e16
  clear e16 hSB hST hSB8 hST8 r2 k8 kT8 hde
  by_cases h8 : B.take 8 = T.take 8
  · have heq8' : (SB8.toList == ST8.toList) = true := by rw [heq8]; simp [h8]
    by_cases hBT : B = T
    · have heq' : (SB.toList == ST.toList) = true := by rw [heq]; simp [hBT]
      have HG : Hid (openE B = 0 ∧ openB B = D) := by
        have h9 := ref_good B E17.out (by rw [HT.out]; exact hBT)
        rw [HD.out] at h9
        exact h9
      have HSP : Hid (RdX w2 (.slice (some x) 16 16) B) := HRW.out.below B2.out
      have HDR : Hid (RdX w2 (.slice (some x) 0 0) D) := HRB.out.below B2.out
      clear h8 hBT heq heq8
      go_wp2
      go_region
      go_wp2_with (at_builtin; refine wpList_append_own _ rfl _ _ 26 rfl w2.heap.size 5 i0 (.int .u8 0) 1 1 Try.underlying26 hi hz0 hz1 hz2 rfl (by decide) _ _ _ rfl (own_empty w2.drew) x 0 0 (bc D) rfl ?c0 ?c1 ?c2 ?c3 ?c4 ?c5 ?_)
      case c0 => rw [bc_len, Nat.mul_one]; exact hDl
      case c1 =>
        intro j u hj
        obtain ⟨h1, rfl⟩ := bc_get D j u hj
        have h2 : w2.cell? ((x).add j) = some (.int .u8 (D[j].toNat : Int)) := HDR.out.cells j h1
        show (w2.alloc (.cells #[] 5)).cell? _ = _
        rw [World.cell?_alloc_lt]
        · exact h2
        · exact cellX_lt h2
      case c2 => exact bc_one D
      case c3 => unfold maxLen; omega
      case c4 => omega
      case c5 => simp
      · intro v3 w3 hown3 hgrow3 _
        have O3 : Hid (Own w3 w2.heap.size v3 D) := by show Own _ _ _ _; unfold Own; rw [hDl]; exact hown3
        have B3 : Hid (Below w2.heap.size w2 w3) := ((Below.refl _ w2).drew.alloc (Nat.le_refl _) _).grown hgrow3 (by simp) (fun k hk => by simp [Value.ownBlock] at hk; have h7 : w2.drew.heap.size = w2.heap.size := rfl; omega)
        clear hown3 hgrow3
        go_wp2
        go_ret2
        exact ⟨_, by rw [HG.out.1]; rfl, by rw [HG.out.2]; exact O3.out.rd, B2.out.trans (B3.out.mono B2.out.size)⟩
    · have heq' : (SB.toList == ST.toList) = false := by rw [heq]; simp [hBT]
      have HE : Hid (openE B = 22) := ref_sum B E16.out E17.out (by rw [HT.out]; exact h8) (by rw [HT.out]; exact hBT)
      clear h8 hBT heq heq8
      go_wp2
      go_region
      go_wp2
      go_ret2
      exact ⟨_, by rw [HE.out]; rfl, Or.inl ⟨rfl, openB_bad HE.out (by decide)⟩, B2.out.drew⟩
  · have heq8' : (SB8.toList == ST8.toList) = false := by rw [heq8]; simp [h8]
    have HE : Hid (openE B = 21) := ref_head B E16.out E17.out (by rw [HT.out]; exact h8)
    clear h8 heq heq8
    go_wp2
    go_region
    go_wp2
    go_ret2
    exact ⟨_, by rw [HE.out]; rfl, Or.inl ⟨rfl, openB_bad HE.out (by decide)⟩, B2.out.drew⟩

/-- what the document's Open answers of any bytes -/
theorem ropen_any (v : Value) (B : List UInt8) (w : World) (h : RdX w v B) : Calls Try.prog 28 #[v] w fun e w' => OpenPost w B e w' := by
  by_cases hn : B.length < 16
  · obtain ⟨a, c, rfl⟩ := rdx_slice h
    exact ropen_short a _ c B w hn rfl
  · rcases h with ⟨rfl, rfl⟩ | ⟨x, cap, rfl, e2, e3, e4⟩
    · simp at hn
    · by_cases h1 : 1048592 < B.length
      · exact ropen_big x _ cap B w h1 e2 e3 rfl
      · by_cases h2 : cap = 16
        · have h3 : B.length = 16 := by omega
          subst h2
          rw [h3] at e2 ⊢
          exact ropen_e x B w (by omega) (by omega) e2 e3 h3 e4
        · exact ropen_n x _ cap B w (by omega) (by omega) e2 e3 rfl e4 h2
end Go.Proofs.Ytjdcoiekbnefkac
