/- The document's listing. -/
import Derived.Test.YthcidcfaodjbjabGreatDoorRLn
import Derived.Test.YthcidcfaodjbjabGreatDoorIRefC
namespace Go.Proofs.YthcidcfaodjbjabGreatDoor
open Go.RowKit Go.Maps
set_option linter.unusedVariables false

theorem labI_yes {x : In} (h : x.kind = 10 ∨ x.kind = 11 ∨ x.kind = 12) : labI x = true := by
  have hb : (bareI x).kind = x.kind ∧ (bareI x).op = 0 := by
    unfold bareI
    rw [if_neg (by omega)]
    exact ⟨rfl, rfl⟩
  unfold labI wordOf
  rw [hb.1, hb.2]
  rcases h with h | h | h <;> rw [h] <;> decide
theorem labI_no {x : In} (h : ¬ (x.kind = 10 ∨ x.kind = 11 ∨ x.kind = 12)) : labI x = false := by
  cases hl : labI x with
  | false => rfl
  | true => exact absurd (lab_kind hl) h
/-- the document's letters of a kind have a t just where an instruction has a label -/
theorem parts_t (x : In) : ∃ P : ByteArray, (∀ W, Calls Tryz.prog 16 #[.int .i64 x.kind] W fun e w' => e = .returned (.string P) ∧ Below W.heap.size W w') ∧ P.size ≤ 1000 ∧ hasL P 116 = labI x := by
  obtain ⟨k, o, a, b, c, z⟩ := x
  by_cases hk : k < 1 ∨ 13 < k
  · exact ⟨_, fun W => refParts_none k W hk, by decide, by rw [labI_no (by show ¬ (k = 10 ∨ k = 11 ∨ k = 12); omega)]; decide⟩
  have : k = 1 ∨ k = 2 ∨ k = 3 ∨ k = 4 ∨ k = 5 ∨ k = 6 ∨ k = 7 ∨ k = 8 ∨ k = 9 ∨ k = 10 ∨ k = 11 ∨ k = 12 ∨ k = 13 := by omega
  rcases this with rfl | rfl | rfl | rfl | rfl | rfl | rfl | rfl | rfl | rfl | rfl | rfl | rfl
  · exact ⟨_, fun W => refParts_1 W, by decide, by rw [labI_no (by simp)]; decide⟩
  · exact ⟨_, fun W => refParts_2 W, by decide, by rw [labI_no (by simp)]; decide⟩
  · exact ⟨_, fun W => refParts_3 W, by decide, by rw [labI_no (by simp)]; decide⟩
  · exact ⟨_, fun W => refParts_4 W, by decide, by rw [labI_no (by simp)]; decide⟩
  · exact ⟨_, fun W => refParts_5 W, by decide, by rw [labI_no (by simp)]; decide⟩
  · exact ⟨_, fun W => refParts_6 W, by decide, by rw [labI_no (by simp)]; decide⟩
  · exact ⟨_, fun W => refParts_7 W, by decide, by rw [labI_no (by simp)]; decide⟩
  · exact ⟨_, fun W => refParts_8 W, by decide, by rw [labI_no (by simp)]; decide⟩
  · exact ⟨_, fun W => refParts_9 W, by decide, by rw [labI_no (by simp)]; decide⟩
  · exact ⟨_, fun W => refParts_10 W, by decide, by rw [labI_yes (by simp)]; decide⟩
  · exact ⟨_, fun W => refParts_11 W, by decide, by rw [labI_yes (by simp)]; decide⟩
  · exact ⟨_, fun W => refParts_12 W, by decide, by rw [labI_yes (by simp)]; decide⟩
  · exact ⟨_, fun W => refParts_13 W, by decide, by rw [labI_no (by simp)]; decide⟩
theorem aim_take (l : List In) (i q : Nat) (h : q < l.length) : aimT (l.take (q + 1)) i = (aimT (l.take q) i || (labI l[q] && decide (l[q].k = (i : Int)))) := by
  rw [List.take_succ_eq_append_getElem h, aimT_snoc]

set_option maxRecDepth 100000 in
set_option maxHeartbeats 8000000 in
theorem rtext_any (l : List In) (cells : Int) (v : Value) (w : World) (hW : ∀ x ∈ l, InW x) (hv : ISl w v l) : Calls Tryz.prog 5 #[v, .int .i64 cells] w fun e w' => e = .returned (.tuple #[.string ⟨(textA l cells).1.toArray⟩, .int .i64 (textA l cells).2]) ∧ Below w.heap.size w w' := by
  have HCK : Hid (Calls Tryz.prog 14 #[v, .int .i64 cells] w fun e w' => e = .returned (.tuple #[.int .i64 (checkL l cells).1, .int .i64 (checkL l cells).2]) ∧ Below w.heap.size w w') := refCheck_any l cells v w hv
  have HWW : Hid (∀ x ∈ l, InW x) := hW
  obtain ⟨ad, cap, b, o, rfl, h2, h3, h4, h5⟩ := hv
  have H4 : Hid (0 < l.length → ad = some ⟨b, o, none⟩) := h4
  have H5 : Hid (∀ i (h : i < l.length), IAt w b (o + i * 6) l[i]) := h5
  obtain ⟨N, hN⟩ : ∃ N, l.length = N := ⟨_, rfl⟩
  have HN : Hid (l.length = N) := hN
  obtain ⟨c1, hc1⟩ : ∃ c1, (checkL l cells).1 = c1 := ⟨_, rfl⟩
  obtain ⟨c2, hc2⟩ : ∃ c2, (checkL l cells).2 = c2 := ⟨_, rfl⟩
  have HC2 : Hid ((checkL l cells).2 = c2) := hc2
  rw [hc1, hc2, hN] at HCK
  rw [hN] at h2 ⊢
  obtain ⟨RS, hRS⟩ : ∃ RS : ByteArray, ⟨(textA l cells).1.toArray⟩ = RS := ⟨_, rfl⟩
  obtain ⟨RE, hRE⟩ : ∃ RE, (textA l cells).2 = RE := ⟨_, rfl⟩
  have HRS : Hid ((⟨(textA l cells).1.toArray⟩ : ByteArray) = RS) := hRS
  have HRE : Hid ((textA l cells).2 = RE) := hRE
  rw [hRS, hRE]
  unfold maxLen at h3
  clear h4 h5 hN hc1 hc2 hRS hRE hW
  by_cases h0 : c2 = 0
  case neg =>
    have e0 : (c2 != 0) = true := by simpa using h0
    have HA : Hid (RS = ⟨#[]⟩ ∧ RE = c2) := by
      show _ ∧ _
      rw [← HRS.out, ← HRE.out]
      unfold textA
      rw [HC2.out, if_neg h0]
      exact ⟨rfl, rfl⟩
    obtain ⟨hA1, hA2⟩ := HA.out
    subst hA1 hA2
    go_enter Tryz.func5, Tryz.ntmps5
    go_wp2_with fail
    refine HCK.out.mono ?_
    rintro e w1 ⟨rfl, b1⟩
    have B1 : Hid (Below w.heap.size w w1) := b1
    clear b1
    go_wp2
    go_ret2
    exact ⟨rfl, B1.out⟩
  have HN6 : Hid (N ≤ 600) := by
    have := (chk_tgt (show (checkL l cells).2 = 0 by rw [HC2.out]; exact h0)).1.2
    rw [HN.out] at this
    exact this
  have hN6 : N ≤ 600 := HN6.out
  subst h0
  have HA : Hid ((RS = if 8192 < (textN l N).length then ⟨#[]⟩ else ⟨(textN l N).toArray⟩) ∧ RE = if 8192 < (textN l N).length then 30 else 0) := by
    show _ ∧ _
    rw [← HRS.out, ← HRE.out]
    unfold textA
    rw [HC2.out, if_pos rfl, HN.out]
    split <;> exact ⟨rfl, rfl⟩
  clear HRS HRE HC2
  go_enter Tryz.func5, Tryz.ntmps5
  go_wp2_with fail
  refine HCK.out.mono ?_
  rintro e w1 ⟨rfl, b1⟩
  have B1 : Hid (Below w.heap.size w w1) := b1
  clear b1 HCK
  go_wp2_with fail
  go_loopw [8, 9] (fun s i wr => ∃ (p : Nat) (S : ByteArray), i = .int .i64 (p : Int) ∧ s = .string S ∧ p ≤ N ∧ Hid ((⟨(textN l p).toArray⟩ : ByteArray) = S) ∧ Hid (Below w.heap.size w wr)) (fun _ i _ => N - (intOf i).toNat)
  case atStart => exact ⟨0, ⟨#[]⟩, rfl, rfl, Nat.zero_le _, rfl, B1⟩
  case round =>
    clear B1
    obtain ⟨p, S, rfl, rfl, hp, HS, HB⟩ := hrel
    have hSz : S.size ≤ 80000 := by rw [← HS.out]; have := textN_len l p; show (textN l p).length ≤ _; omega
    by_cases hlt : p < N
    · have p1 : p < l.length := by rw [HN.out]; exact hlt
      have e1 : decide ((p : Int) < (N : Int)) = true := by simp; omega
      obtain rfl := H4.out (by omega)
      have HB1 := HB
      have HS1 := HS
      clear HB HS
      rename World => W1
      go_wp2_with fail
      go_loopw [10, 11] (fun nm k wr => ∃ (q : Nat) (t : Bool), k = .int .i64 (q : Int) ∧ nm = .bool t ∧ q ≤ N ∧ Hid (aimT (l.take q) p = t) ∧ Hid (Below w.heap.size w wr)) (fun _ k _ => N - (intOf k).toNat)
      case atStart => exact ⟨0, false, rfl, rfl, Nat.zero_le _, rfl, HB1⟩
      case round =>
        clear HB1
        obtain ⟨q, t, rfl, rfl, hq, HT, HB⟩ := hrel
        by_cases hlt2 : q < N
        · have q1 : q < l.length := by rw [HN.out]; exact hlt2
          have e2 : decide ((q : Int) < (N : Int)) = true := by simp; omega
          have HAT := aim_take l p q q1
          rw [HT.out] at HAT
          cases t with
          | true =>
            have HT2 : Hid (aimT (l.take (q + 1)) p = true) := by show _ = _; rw [HAT]; rfl
            clear HAT
            go_wp2_with fail
            go_roundw
            case rel => exact ⟨q + 1, true, by go_num, rfl, by omega, HT2, HB⟩
            case measure => simp [intOf]; omega
          | false =>
            rw [Bool.false_or] at HAT
            obtain ⟨P, hP1, hP2, hP3⟩ := parts_t l[q]
            have HI := (H5.out q q1).block (HB.out.block b (H5.out q q1).lt)
            have d0 := HI.c0
            have d5 := HI.c5
            have HI5 : Hid (IAt w b (o + q * 6) l[q]) := H5.out q q1
            obtain ⟨kd, hkd⟩ : ∃ kd, l[q].kind = kd := ⟨_, rfl⟩
            obtain ⟨kk, hkk⟩ : ∃ kk, l[q].k = kk := ⟨_, rfl⟩
            obtain ⟨lb, hlb⟩ : ∃ lb, labI l[q] = lb := ⟨_, rfl⟩
            have HP1 : Hid (∀ W, Calls Tryz.prog 16 #[.int .i64 kd] W fun e w' => e = .returned (.string P) ∧ Below W.heap.size W w') := by rw [← hkd]; exact hP1
            have HH : Hid (∀ W, Calls Tryz.prog 15 #[.string P, .int .u8 116] W fun e w' => e = .returned (.bool lb) ∧ w' = W) := fun W => by rw [← hlb, ← hP3]; exact has_any P 116 116 W hP2 rfl
            have HK5 : Hid (∀ W, Below w.heap.size w W → W.cell? ⟨b, o + q * 6 + 5, none⟩ = some (.int .i64 kk)) := fun W hW => by rw [← hkk]; exact (HI5.out.block (hW.block b HI5.out.lt)).c5
            rw [hkd] at d0
            rw [hlb, hkk] at HAT
            clear hP1 hP2 hP3 HI d5 hkd hkk hlb
            cases lb with
            | false =>
              have HT2 : Hid (aimT (l.take (q + 1)) p = false) := by show _ = _; rw [HAT]; rfl
              clear HAT
              go_wp2_with fail
              refine (HP1.out _).mono ?_
              rintro e w5 ⟨rfl, b5⟩
              have B5 : Hid (Below w.heap.size w w5) := HB.out.trans (b5.mono HB.out.size)
              clear b5
              go_wp2_with (first | (go_at_call 15; refine (HH.out _).mono ?_; rintro e w6 ⟨rfl, hw6⟩; rw [hw6]; clear hw6 w6) | fail)
              go_roundw
              case rel => exact ⟨q + 1, false, by go_num, rfl, by omega, HT2, B5⟩
              case measure => simp [intOf]; omega
            | true =>
              by_cases hkp : kk = (p : Int)
              · have e5 : (kk == (p : Int)) = true := by simpa using hkp
                have HT2 : Hid (aimT (l.take (q + 1)) p = true) := by show _ = _; rw [HAT]; simp [hkp]
                clear HAT hkp
                go_wp2_with fail
                refine (HP1.out _).mono ?_
                rintro e w5 ⟨rfl, b5⟩
                have B5 : Hid (Below w.heap.size w w5) := HB.out.trans (b5.mono HB.out.size)
                have d5 := HK5.out w5 B5.out
                clear b5
                go_wp2_with (first | (go_at_call 15; refine (HH.out _).mono ?_; rintro e w6 ⟨rfl, hw6⟩; rw [hw6]; clear hw6 w6) | fail)
                go_roundw
                case rel => exact ⟨q + 1, true, by go_num, rfl, by omega, HT2, B5⟩
                case measure => simp [intOf]; omega
              · have e5 : (kk == (p : Int)) = false := by simpa using hkp
                have HT2 : Hid (aimT (l.take (q + 1)) p = false) := by show _ = _; rw [HAT]; simp [hkp]
                clear HAT hkp
                go_wp2_with fail
                refine (HP1.out _).mono ?_
                rintro e w5 ⟨rfl, b5⟩
                have B5 : Hid (Below w.heap.size w w5) := HB.out.trans (b5.mono HB.out.size)
                have d5 := HK5.out w5 B5.out
                clear b5
                go_wp2_with (first | (go_at_call 15; refine (HH.out _).mono ?_; rintro e w6 ⟨rfl, hw6⟩; rw [hw6]; clear hw6 w6) | fail)
                go_roundw
                case rel => exact ⟨q + 1, false, by go_num, rfl, by omega, HT2, B5⟩
                case measure => simp [intOf]; omega
        · have hqN : q = N := by omega
          subst hqN
          have e2 : decide ((q : Int) < (q : Int)) = false := by simp
          have HTT : Hid (aimT l p = t) := by have := HT.out; rw [List.take_of_length_le (by rw [HN.out]; exact Nat.le_refl _)] at this; exact this
          have HSU : Hid (textN l (p + 1) = textN l p ++ lineT l p l[p]) := textN_succ l p p1
          have HI := H5.out p p1
          have HIC : Hid (∀ W, Below w.heap.size w W → IAt W b (o + p * 6) l[p]) := fun W hW => HI.block (hW.block b HI.lt)
          have HLN : Hid (∀ W, Calls Tryz.prog 18 #[iv l[p]] W fun e w' => e = .returned (.string ⟨(listT l[p] ++ [10]).toArray⟩) ∧ Below W.heap.size W w') := fun W => rline_any l[p] (HWW.out _ (List.getElem_mem _)) W
          have HLL : Hid ((listT l[p] ++ [10]).length ≤ 200) := by have := list_len2 l[p]; show _ ≤ _; simp; omega
          obtain ⟨x, hx⟩ : ∃ x, l[p] = x := ⟨_, rfl⟩
          rw [hx] at HSU HIC HLN HLL
          obtain ⟨LS, hLS⟩ : ∃ LS : ByteArray, ⟨(listT x ++ [10]).toArray⟩ = LS := ⟨_, rfl⟩
          have hLSz : LS.size ≤ 200 := by rw [← hLS]; exact HLL.out
          have HLN2 : Hid (∀ W, Calls Tryz.prog 18 #[.agg #[.int .i64 x.kind, .int .i64 x.op, .int .i64 x.a, .int .i64 x.b, .int .i64 x.c, .int .i64 x.k]] W fun e w' => e = .returned (.string LS) ∧ Below W.heap.size W w') := by rw [← hLS]; exact HLN.out
          have HLS : Hid ((⟨(listT x ++ [10]).toArray⟩ : ByteArray) = LS) := hLS
          clear HT HI hx hLS HLN
          cases t with
          | false =>
            have HNX : Hid ((⟨(textN l (p + 1)).toArray⟩ : ByteArray) = S ++ LS) := by
              show _ = _
              rw [← HS1.out, ← HLS.out, str_app, HSU.out]
              unfold lineT
              rw [HTT.out]
              rfl
            obtain ⟨i0, i1, i2, i3, i4, i5⟩ := HIC.out _ HB.out
            go_wp2_with fail
            refine (HLN2.out _).mono ?_
            rintro e w7 ⟨rfl, b7⟩
            have B7 : Hid (Below w.heap.size w w7) := HB.out.trans (b7.mono HB.out.size)
            clear b7
            go_wp2_with fail
            go_roundw
            case rel => exact ⟨p + 1, _, by go_num, rfl, by omega, HNX, B7⟩
            case measure => simp [intOf]; omega
          | true =>
            obtain ⟨T, hT⟩ : ∃ T : ByteArray, ⟨(text (p : Int)).toArray⟩ = T := ⟨_, rfl⟩
            have hTs : T.size ≤ 22 := by rw [← hT]; exact text_len (p : Int)
            have HNU : Hid (Calls Tryz.prog 17 #[.int .i64 (p : Int)] wr fun e w' => e = .returned (.string T) ∧ Below wr.heap.size wr w') := by rw [← hT]; exact rnum_any (p : Int) ⟨by omega, by omega⟩ wr
            have HNX : Hid ((⟨(textN l (p + 1)).toArray⟩ : ByteArray) = S ++ (⟨#[108]⟩ ++ T ++ ⟨#[58, 10]⟩) ++ LS) := by
              show _ = _
              rw [← HS1.out, ← HLS.out, ← hT, cons_str, HSU.out]
              have e8 : (⟨(108 :: text (p : Int)).toArray⟩ ++ ⟨#[58, 10]⟩ : ByteArray) = ⟨(labelT (p : Int) ++ [58, 10]).toArray⟩ := str_app (108 :: text (p : Int)) [58, 10]
              rw [e8, str_app, str_app]
              unfold lineT
              rw [HTT.out, if_pos rfl]
              show (⟨(textN l p ++ _).toArray⟩ : ByteArray) = ⟨((textN l p ++ (labelT (p : Int) ++ [58, 10])) ++ (listT x ++ [10])).toArray⟩
              simp only [List.append_assoc]
            clear hT
            go_wp2_with fail
            refine HNU.out.mono ?_
            rintro e w6 ⟨rfl, b6⟩
            have B6 : Hid (Below w.heap.size w w6) := HB.out.trans (b6.mono HB.out.size)
            obtain ⟨i0, i1, i2, i3, i4, i5⟩ := HIC.out _ B6.out
            clear b6
            go_wp2_with fail
            refine (HLN2.out _).mono ?_
            rintro e w7 ⟨rfl, b7⟩
            have B7 : Hid (Below w.heap.size w w7) := B6.out.trans (b7.mono B6.out.size)
            clear b7
            go_wp2_with fail
            go_roundw
            case rel => exact ⟨p + 1, _, by go_num, rfl, by omega, HNX, B7⟩
            case measure => simp [intOf]; omega
    · have hpN : p = N := by omega
      subst hpN
      have e1 : decide ((p : Int) < (p : Int)) = false := by simp
      have hSS : S.size = (textN l p).length := by rw [← HS.out]; rfl
      by_cases h8 : 8192 < S.size
      · have e2 : decide (8192 < (S.size : Int)) = true := by simp; omega
        have HAA : Hid (RS = ⟨#[]⟩ ∧ RE = 30) := by
          have h9 := HA.out
          rw [hSS] at h8
          rw [if_pos h8, if_pos h8] at h9
          exact h9
        obtain ⟨hA1, hA2⟩ := HAA.out
        clear hSS
        subst hA1 hA2
        go_wp2
        go_ret2
        exact ⟨rfl, HB.out⟩
      · have e2 : decide (8192 < (S.size : Int)) = false := by simp; omega
        have HAA : Hid (RS = S ∧ RE = 0) := by
          have h9 := HA.out
          rw [hSS] at h8
          rw [if_neg h8, if_neg h8, HS.out] at h9
          exact h9
        obtain ⟨hA1, hA2⟩ := HAA.out
        clear hSS
        subst hA1 hA2
        go_wp2
        go_ret2
        exact ⟨rfl, HB.out⟩
end Go.Proofs.YthcidcfaodjbjabGreatDoor
