/- The walk of LexAgain. -/
import Derived.Test.YtnofibjchhcmeaaAgainW
namespace Go.Proofs.Ytnofibjchhcmeaa
open Go.RowKit Go.Maps
set_option linter.unusedVariables false

set_option maxRecDepth 100000 in
set_option maxHeartbeats 4000000 in
theorem again_ln (s : ByteArray) (hs : s.size ≤ maxLen) (l : List Tok) (hc : cut s.data.toList = .ok l) (hjl : 8192 < (Lib.join (textsOf l) [32]).length) (wa : Option Addr) (wc : Nat) (zs : List Int) (n : Nat) (hn0 : n = 0) (w : World)  :
    Calls Try.prog 6 #[.string s, .slice wa 0 wc] w fun e w' => e = .returned (.bool true) ∧ Below w.heap.size w w' := by
  obtain ⟨G, hG⟩ : ∃ G, G = gp zs n := ⟨_, rfl⟩
  have HGM : Hid (∀ i, G i ∈ gapsL) := by rw [hG]; exact gp_mem zs n
  have HGE : Hid (G = gp zs n) := hG
  obtain ⟨J, hJ⟩ : ∃ J, Lib.join (textsOf l) [32] = J := ⟨_, rfl⟩
  have hlen : l.length ≤ 8193 := cut_len2 _ _ hc
  have HTX : Hid (∀ t ∈ l, t.text.length ≤ 8192) := cut_text _ _ hc
  have HJL : Hid (J.length ≤ 100000000) := by
    show _ ≤ _
    have h1 := texts_len l HTX.out
    have h2 : l.length * 8193 ≤ 8193 * 8193 := Nat.mul_le_mul_right _ hlen
    rw [hJ] at h1
    omega
  have HJE : Hid (Lib.join (textsOf l) [32] = J) := hJ
  have HA : Hid (cut s.data.toList = .ok l) := hc
  have HNE : Hid (l ≠ []) := (cut_placed _ _ hc).2
  obtain ⟨m, hm⟩ : ∃ m, l.length = m := ⟨_, rfl⟩
  have hpos : 0 < m := by rw [← hm]; exact List.length_pos_iff.2 HNE.out
  have HL : Hid (l.length = m) := hm
  rw [hm] at hlen
  rw [hJ] at hjl
  have HCA : Hid (cut J = .err 0 30) := by show _ = _; unfold cut; rw [if_pos hjl]
  clear hc hG hJ hm
  go_enter Try.func6, Try.ntmps6
  go_wp2_with fail
  refine (cut_any s w hs).mono ?_
  intro e w1 hp
  rw [HA.out] at hp
  obtain ⟨v1, rfl, hto1, hb1⟩ := hp
  obtain ⟨g1, c1, rfl, q11, q12, q13, q14, q15⟩ := hto1.read HNE.out
  rw [HL.out] at q11 ⊢
  have HQ1 : Hid (TAt w1 g1 l) := q15
  have HM1 : Hid (c1 ≤ maxLen) := q12
  have HB1 : Hid (Below w.heap.size w w1) := hb1
  clear hb1 hto1 q15
  unfold maxLen at q12
  have JC : Hid (Calls Try.prog 16 #[.slice (some ⟨g1, 0, none⟩) m c1] w1 fun e w' => e = .returned (.string ⟨J.toArray⟩) ∧ Below w1.heap.size w1 w') := by
    have h := join_any g1 c1 l w1 (by rw [HL.out]; exact q11) HM1.out (by rw [HL.out]; omega) q14 HQ1.out (by rw [HJE.out]; have := HJL.out; omega)
    rw [HJE.out, HL.out] at h
    exact h
  go_wp2_with fail
  refine JC.out.mono ?_
  rintro e w2 ⟨rfl, hb2⟩
  have HB12 : Hid (Below w1.heap.size w1 w2) := hb2
  have hs2 := hb2.size
  clear hb2
  have hJs : (⟨J.toArray⟩ : ByteArray).size = J.length := by simp [ByteArray.size]
  go_wp2_with fail
  refine (cut_any ⟨J.toArray⟩ w2 (by rw [hJs]; have := HJL.out; unfold maxLen; omega)).mono ?_
  intro e w4 hp
  rw [show (⟨J.toArray⟩ : ByteArray).data.toList = J from rfl] at hp
  rw [HCA.out] at hp
  obtain ⟨rfl, hb3⟩ := hp
  have hs3 := hb3.size
  have HB14 : Hid (Below w1.heap.size w1 w4) := HB12.out.trans (hb3.mono hs2)
  clear hb3
  go_wp2
  obtain ⟨w5, hw5⟩ : ∃ w5, w5 = w4.alloc (.cells #[.string ⟨#[32]⟩, .string ⟨#[10]⟩, .string ⟨#[35, 32, 97, 32, 39, 32, 36, 32, 55, 97, 10]⟩, .string ⟨#[9, 13, 10]⟩, .string ⟨#[32, 32]⟩] 9) := ⟨_, rfl⟩
  have HGR : Hid (GRow w5 w4.heap.size) := by rw [hw5]; exact GRow.new w4
  have HB45 : Hid (Below w4.heap.size w4 w5) := by rw [hw5]; exact (Below.refl _ _).alloc (Nat.le_refl _) _
  have hg5 : w4.heap.size < w5.heap.size := by rw [hw5]; simp
  have hs14 := HB14.out.size
  have HB15 : Hid (Below w1.heap.size w1 w5) := HB14.out.trans (HB45.out.mono hs14)
  have HB05 : Hid (Below w.heap.size w w5) := HB1.out.trans (HB15.out.mono HB1.out.size)
  have HQ5 : Hid (TAt w5 g1 l) := HQ1.out.below q14 HB15.out
  have hg15 : g1 < w5.heap.size := by omega
  rw [← hw5]
  clear hw5
  obtain ⟨gg, hgg⟩ : ∃ gg, w4.heap.size = gg := ⟨_, rfl⟩
  rw [hgg] at HGR hg5 ⊢
  clear hgg

  go_loopw [13, 14] (fun t i wr => ∃ (k : Nat) (T : ByteArray), k ≤ m ∧ i = .int .i64 (k : Int) ∧ t = .string T ∧ Hid (T.data.toList = wv G 0 (l.take k)) ∧ Hid (Below w5.heap.size w5 wr)) (fun _ i _ => m - (intOf i).toNat)
  case atStart => exact ⟨0, ⟨#[]⟩, Nat.zero_le _, rfl, rfl, rfl, Below.refl _ _⟩
  case round =>
    obtain ⟨k, T, hk, rfl, rfl, HT, HB⟩ := hrel
    by_cases hlt : k < m
    · have ka : k < l.length := by have := HL.out; omega
      obtain ⟨X, hX⟩ : ∃ X : ByteArray, (⟨l[k].text.toArray⟩ : ByteArray) = X := ⟨_, rfl⟩
      have u1 : wr.cell? ⟨g1, k * 4 + 1, none⟩ = some (.string X) := by rw [← hX]; exact (HB.out.cell (p := ⟨g1, k * 4 + 1, none⟩) hg15).trans (HQ5.out k ka).2.1
      obtain ⟨GB, hGB⟩ : ∃ GB : ByteArray, (⟨(G k).toArray⟩ : ByteArray) = GB := ⟨_, rfl⟩
      have HT1 : Hid ((T ++ GB ++ X).data.toList = wv G 0 (l.take (k + 1))) := by
        show _ = _
        rw [List.take_succ_eq_append_getElem ka, wv_snoc, ← HT.out, ← hX, ← hGB, List.length_take, Nat.min_eq_left (by omega), Nat.zero_add]
        simp [ByteArray.data_append]
      have UG : Hid (∀ j, gi zs n k = j → wr.cell? ⟨gg, j, none⟩ = some (.string GB)) := by
        intro j hj
        rw [← hGB, HGE.out]
        have hj5 : j < 5 := by rw [← hj]; exact gi_lt zs n k
        have := (HB.out.cell (p := ⟨gg, j, none⟩) hg5).trans (HGR.out j hj5)
        rw [this]
        unfold gp
        rw [hj]
      have q1 : g1 < wr.heap.size := Nat.lt_of_lt_of_le hg15 HB.out.size
      have q2 : gg < wr.heap.size := Nat.lt_of_lt_of_le hg5 HB.out.size
      have hXs : X.size ≤ 8192 := by
        have := HTX.out l[k] (List.getElem_mem ka)
        rw [← hX]
        simpa [ByteArray.size] using this
      have hGs : GB.size ≤ 11 := by
        have := gaps_len _ (HGM.out k)
        rw [← hGB]
        simpa [ByteArray.size] using this
      have hTs : T.size ≤ 100000000 := by
        have h1 := wv_len G HGM.out (l.take k) 0 (fun t ht => HTX.out t (List.mem_of_mem_take ht))
        rw [← HT.out, List.length_take, Nat.min_eq_left (by omega)] at h1
        have h3 : T.data.toList.length = T.size := by simp
        omega
      clear hX hGB
      have ug : wr.cell? ⟨gg, 0, none⟩ = some (.string GB) := UG.out 0 (by unfold gi; rw [if_pos hn0])
      go_wp2
      go_region
      all_goals
        go_wp2
        go_roundw
        case rel => exact ⟨k + 1, T ++ GB ++ X, by omega, by go_num, rfl, HT1, HB.out.drew⟩
        case measure => simp [intOf]; omega
    · have HTE : Hid (T.data.toList = wv G 0 l) := by
        show _ = _
        rw [HT.out, List.take_of_length_le (by have := HL.out; omega)]
      have HTL : Hid (T.size ≤ 100000000) := by
        show _ ≤ _
        have h1 := wv_len G HGM.out l 0 HTX.out
        have h2 : l.length * 8203 ≤ 8193 * 8203 := Nat.mul_le_mul_right _ (by have := HL.out; omega)
        rw [← HTE.out] at h1
        have h3 : T.data.toList.length = T.size := by simp
        omega
      have HB0 : Hid (Below w.heap.size w wr) := HB05.out.trans (HB.out.mono HB05.out.size)
      have q1 : g1 < wr.heap.size := Nat.lt_of_lt_of_le hg15 HB.out.size
      have HQR : Hid (TAt wr g1 l) := HQ5.out.below hg15 HB.out
      by_cases hT : 8192 < T.size
      · have HCT : Hid (cut T.data.toList = .err 0 30) := by
          show _ = _
          unfold cut
          rw [if_pos (by have h3 : T.data.toList.length = T.size := by simp
                         omega)]
        have hT2 := HTL.out
        go_wp2_with fail
        refine (cut_any T wr (by have := HTL.out; unfold maxLen; omega)).mono ?_
        rw [HCT.out]
        rintro e w6 ⟨rfl, hb6⟩
        have HB6 : Hid (Below w.heap.size w w6) := HB0.out.trans (hb6.mono HB0.out.size)
        clear hb6
        go_wp2_with fail
        refine (alive_any _).mono ?_
        rintro e w7 ⟨rfl, hb7⟩
        have HB7 : Hid (Below w.heap.size w w7) := HB6.out.trans (hb7.mono HB6.out.size)
        clear hb7
        go_wp2
        go_ret
        exact ⟨rfl, HB7.out⟩
      · have hT2 : T.size ≤ 8192 := by omega
        obtain ⟨b, hcb, hal2⟩ := again_weave _ _ HA.out G HGM.out (by
          rw [← HTE.out]
          have h3 : T.data.toList.length = T.size := by simp
          omega)
        have HCT : Hid (cut T.data.toList = .ok b) := by show _ = _; rw [HTE.out]; exact hcb
        have HAL2 : Hid (alikes false b l) := hal2
        have HBn : Hid (b.length = m) := by show _ = _; rw [hal2.1, HL.out]
        clear hcb hal2
        go_wp2_with fail
        refine (cut_any T wr (by unfold maxLen; omega)).mono ?_
        intro e w6 hp
        rw [HCT.out] at hp
        obtain ⟨v6, rfl, hto6, hb6⟩ := hp
        obtain ⟨g6, c6, rfl, q61, q62, q63, q64, q65⟩ := hto6.read (by intro e; have := HBn.out; rw [e] at this; simp at this; omega)
        rw [HBn.out] at q61 ⊢
        have HB6 : Hid (Below w.heap.size w w6) := HB0.out.trans (hb6.mono HB0.out.size)
        have hs6 := hb6.size
        have SB : Hid (∀ W, Below w6.heap.size w6 W → Calls Try.prog 10 #[.slice (some ⟨g6, 0, none⟩) m c6, .slice (some ⟨g1, 0, none⟩) m c1, .bool false] W fun e w' => e = .returned (.bool true) ∧ Below w6.heap.size w6 w') := fun W hW =>
          (same_at m g6 c6 g1 c1 b l W HAL2.out HBn.out HL.out q61 q11 q62 HM1.out (Nat.lt_of_lt_of_le q64 hW.size) (by have := hW.size; omega) (TAt.below q65 q64 hW) ((HQR.out.below q1 hb6).below (by omega) hW)).mono fun e w'' ⟨x1, x2⟩ => ⟨x1, hW.trans (x2.mono hW.size)⟩
        have B0 : Hid (Below w6.heap.size w6 w6.drew) := (Below.refl _ _).drew
        have B1 : Hid (Below w6.heap.size w6 w6) := Below.refl _ _
        clear hb6 hto6 q65 q62 q63 q64
        go_wp2_with fail
        refine (SB.out _ B1.out).mono ?_
        rintro e w7 ⟨rfl, hb7⟩
        have HB7 : Hid (Below w.heap.size w w7) := HB6.out.trans (hb7.mono HB6.out.size)
        clear hb7
        go_wp2_with fail
        refine (alive_any _).mono ?_
        rintro e w8 ⟨rfl, hb8⟩
        have HB8 : Hid (Below w.heap.size w w8) := HB7.out.trans (hb8.mono HB7.out.size)
        clear hb8
        go_wp2
        go_ret
        exact ⟨rfl, HB8.out⟩
end Go.Proofs.Ytnofibjchhcmeaa
