/- DRAFT, not clean: what the document's Cut answers (see NOTES.md). -/
import Derived.Test.YtnofibjchhcmeaaRefCutA
namespace Go.Proofs.Ytnofibjchhcmeaa
open Go.RowKit
set_option linter.unusedVariables false


/-- the cells of a token that was just made -/
theorem new_tok (X : World) (n : Nat) (hn : X.heap.size = n) (t : Tok) : ∀ j u, (tcs [t])[j]? = some u → (X.alloc (.cells #[.int .i64 t.kind, .string ⟨t.text.toArray⟩, .int .i64 t.num, .int .i64 (t.pos : Int)] 33)).cell? ((⟨n, 0, none⟩ : Addr).add j) = some u := by
  subst hn
  intro j u hj
  match j, hj with
  | 0, hj => simp [tcs, tc] at hj; subst hj; simp [Addr.add]
  | 1, hj => simp [tcs, tc] at hj; subst hj; simp [Addr.add]
  | 2, hj => simp [tcs, tc] at hj; subst hj; simp [Addr.add]
  | 3, hj => simp [tcs, tc] at hj; subst hj; simp [Addr.add]

set_option maxRecDepth 100000 in
set_option maxHeartbeats 8000000 in
theorem rcut_short (s : ByteArray) (w : World) (hs : s.size ≤ 8192) :
    Calls Try.prog 9 #[.string s] w fun e w' => CutPost w (cutS (s.size + 1) 0 s.data.toList) e w' := by
  obtain ⟨res, hres⟩ : ∃ r, cutS (s.size + 1) 0 s.data.toList = r := ⟨_, rfl⟩
  rw [hres]
  have HR : Hid (cutS (s.size + 1) 0 s.data.toList = res) := hres
  clear hres
  obtain ⟨i0, hi, hz0, hz1, hz2⟩ := info_parts info33
  go_enter Try.func9, Try.ntmps9
  go_wp2_with fail
  refine (gap_any s 0 (Nat.zero_le _) (by omega) w).mono ?_
  rintro e w1 ⟨rfl, hw⟩
  rw [hw]
  clear hw
  rw [List.drop_zero, Nat.zero_add]
  go_wp2
  go_loopw [5, 6] (fun t i wr => ∃ (p f : Nat) (acc : List Tok), p ≤ s.size ∧ acc.length ≤ p ∧ i = .int .i64 (p : Int) ∧ Hid (s.size - p < f) ∧ Hid ((cutG f p (s.data.toList.drop p)).pre acc = res) ∧ Hid (TOwn wr w.heap.size t acc) ∧ Hid (Below w.heap.size w wr)) (fun _ i _ => s.size - (intOf i).toNat)
  case atStart =>
    refine ⟨gapLen s.data.toList, s.size + 1, [], ?_, by simp, rfl, ?_, ?_, TOwn.nil _ _, Below.refl _ _⟩
    · have := gapLen_le s.data.toList; simpa using this
    · show _ < _; omega
    · show _ = _
      rw [← HR.out]
      unfold cutS
      rw [Nat.zero_add]
      cases cutG (s.size + 1) (gapLen s.data.toList) (List.drop (gapLen s.data.toList) s.data.toList) <;> rfl
  case round =>
    obtain ⟨p, f, acc, hp, hacc, rfl, HF, HX, HT, HB⟩ := hrel
    by_cases he : p = s.size
    · subst he
      have HRES : Hid (res = .ok (acc ++ [⟨0, [], 0, s.size⟩])) := by
        show _ = _
        rw [← HX.out, List.drop_of_length_le (by simp)]
        obtain ⟨f', rfl⟩ : ∃ f', f = f' + 1 := ⟨f - 1, by have := HF.out; omega⟩
        rfl
      have HTD : Hid (wr.ownsRow w.heap.size 33 4 u5 acc.length (tcs acc)) := HT.out
      have hsz := HB.out.size
      go_wp2_with (at_builtin; refine wpList_append_own _ rfl _ _ 22 rfl w.heap.size 33 i0 (.agg #[.int .i64 0, .string ⟨#[]⟩, .int .i64 0, .int .i64 0]) 4 40 Try.underlying22 hi hz0 hz1 hz2 rfl (by decide) _ _ _ rfl (World.ownsRow.alloc HTD.out _) ⟨wr.heap.size, 0, none⟩ 1 1 (tcs [⟨0, [], 0, s.size⟩]) rfl rfl ?d1 ?d2 ?d3 ?d4 ?d5 ?_)
      case d1 =>
        intro j u hj
        match j, hj with
        | 0, hj => simp [tcs, tc] at hj; subst hj; simp [Addr.add]
        | 1, hj => simp [tcs, tc] at hj; subst hj; simp [Addr.add]
        | 2, hj => simp [tcs, tc] at hj; subst hj; simp [Addr.add]
        | 3, hj => simp [tcs, tc] at hj; subst hj; simp [Addr.add]
      case d2 => exact tc_one _
      case d3 => unfold maxLen; omega
      case d4 => omega
      case d5 => simp; omega
      · intro v' w4 hown' hgrow _
        have HB4 : Hid (Below w.heap.size w w4) := (HB.out.alloc hsz _).grown hgrow (by simp; omega) (fun k hk => (World.ownsRow.lt HT.out k hk).1)
        have HT4 : Hid (TOwn w4 w.heap.size v' (acc ++ [⟨0, [], 0, s.size⟩])) := by
          show w4.ownsRow _ _ _ _ _ _
          rw [List.length_append, tcs_app]
          exact hown'
        clear hown' hgrow
        go_wp2
        go_ret3
        rw [HRES.out]
        exact ⟨_, rfl, HT4.out, HB4.out⟩
    · have hlt : p < s.size := by omega
      obtain ⟨f', rfl⟩ : ∃ f', f = f' + 1 := ⟨f - 1, by have := HF.out; omega⟩
      have hdr : s.data.toList.drop p = s[p] :: s.data.toList.drop (p + 1) := List.drop_eq_getElem_cons (by simpa using hlt)
      have htc := tok_cases s[p] (s.data.toList.drop (p + 1))
      rw [← hdr] at htc
      obtain ⟨n, hn, htc⟩ := htc
      have hnl : n ≤ s.size - p := by have := longL_le (s.data.toList.drop p); rw [hn] at this; simpa using this
      have HTC : Hid _ := htc
      have HXE : Hid (∀ o e, tokOf (s.data.toList.drop p) = .bad o e → res = .err (p + o) e) := by
        intro o e h
        rw [← HX.out, hdr, cutG_cons, ← hdr, h]
        rfl
      obtain ⟨q, hq⟩ : ∃ q, p + n = q := ⟨_, rfl⟩
      obtain ⟨L, hL⟩ : ∃ L, (s.data.toList.drop p).take n = L := ⟨_, rfl⟩
      have HXT : Hid (∀ k m, tokOf (s.data.toList.drop p) = .tok k m n → (cutS f' q (s.data.toList.drop q)).pre (acc ++ [⟨k, L, m, p⟩]) = res) := by
        intro k m h
        rw [← HX.out, hdr, cutG_cons, ← hdr, h]
        dsimp only
        rw [pre_cons, hL, List.drop_drop, hq]
      have hx : s.extract p q = ⟨L.toArray⟩ := by rw [← hq, extract_arr, hL]
      have hpq : q ≤ s.size := by omega
      have HLL0 : Hid (L.length = n) := by show _ = _; rw [← hL]; simp; omega
      have HN : Hid (longL (s.data.toList.drop p) = n) := hn
      have HQ : Hid (p + n = q) := hq
      have HLd : Hid ((s.data.toList.drop p).take n = L) := hL
      have wq : IntKind.i64.wrap ((p : Int) + (n : Int)) = (q : Int) := by rw [IntKind.wrap_i64]; omega
      clear hn htc hdr hL
      go_wp2_with fail
      refine (longest_any s p hlt (by omega) wr).mono ?_
      rintro e w2 ⟨rfl, j, hw⟩
      rw [HN.out]
      have HT2 : Hid (TOwn w2 w.heap.size u5 acc) := by
        show TOwn w2 _ _ _
        rw [hw]
        exact HT.out.keep fun k _ _ => by rw [heap_drewN]
      have HB2 : Hid (Below w.heap.size w w2) := by
        show Below _ _ w2
        rw [hw]
        exact below_drewN HB.out j
      have hsz2 : w.heap.size ≤ w2.heap.size := HB2.out.size
      clear hw
      have hTm : (⟨L.toArray⟩ : ByteArray).size ≤ maxLen := by have := HLL0.out; show L.toArray.size ≤ maxLen; unfold maxLen; simp; omega
      have hT8 : (⟨L.toArray⟩ : ByteArray).size ≤ 8192 := by have := HLL0.out; show L.toArray.size ≤ 8192; simp; omega
      by_cases hn0 : n = 0
      · have HRES : Hid (res = .err p 31) := by
          show _ = _
          apply HXE.out 0
          rcases HTC.out with ⟨_, _, _, _, h⟩ | ⟨_, _, _, _, _, _, h⟩ | ⟨_, _, _, h1, h2⟩
          · omega
          · omega
          · rw [h1]
            unfold signTok
            dsimp only
            rw [h2, if_pos hn0]
        subst hn0
        go_wp2
        go_ret3
        rw [HRES.out]
        exact ⟨rfl, HB2.out⟩
      · have hn1 : 1 ≤ n := by omega
        have hn0' : ((n : Int) == 0) = false := by simp; omega
        rcases HTC.out with ⟨_, hA, hTk, hGa, _⟩ | ⟨_, _, hA, hRw, hTk, hGa, _⟩ | ⟨_, _, hall, hTk, hGa⟩
        · rw [HLd.out] at hA
          have HTOK0 : Hid (tokOf (s.data.toList.drop p) = numTok (s.data.toList.drop p)) := hTk
          have HGA : Hid (ga dgStep () (s.data.toList.drop p) = n) := hGa
          obtain ⟨pv, hpv⟩ : ∃ r, parse L = r := ⟨_, rfl⟩
          have HPV : Hid (parse (⟨L.toArray⟩ : ByteArray).data.toList = pv) := hpv
          have HPV' : Hid (parse L = pv) := hpv
          clear hTk hGa hpv
          have HAD : Hid (areD (⟨L.toArray⟩ : ByteArray).data.toList = true) := hA
          obtain ⟨v, er⟩ := pv
          go_wp2_with fail
          refine (rdigits_any ⟨L.toArray⟩ hTm _).mono ?_
          rintro e w' ⟨rfl, hw⟩
          rw [hw]
          clear hw
          rw [HAD.out]
          go_wp2_with fail
          refine (rparse_dig ⟨L.toArray⟩ hT8 HAD.out _).mono ?_
          rintro e w3 ⟨rfl, j3, hw3⟩
          rw [HPV.out]
          have hbb : Below (w2.alloc (.cells #[.int .i64 0, .string ⟨L.toArray⟩, .int .i64 0, .int .i64 (p : Int)] 33)).heap.size (w2.alloc (.cells #[.int .i64 0, .string ⟨L.toArray⟩, .int .i64 0, .int .i64 (p : Int)] 33)) w3 := by rw [hw3]; exact below_drewN (Below.refl _ _) j3
          clear hw3
          have hb3 : ∀ k, k < w2.heap.size → w3.heap[k]? = w2.heap[k]? := fun k hk => (hbb.block k (by simp; omega)).trans (Below.heap_alloc _ _ _ hk)
          have HB3 : Hid (Below w.heap.size w w3) := (HB2.out.alloc hsz2 (.cells #[.int .i64 0, .string ⟨L.toArray⟩, .int .i64 0, .int .i64 (p : Int)] 33)).trans (hbb.mono (by simp; omega))
          have F3 : Four w3 w2.heap.size (.int .i64 0) (.string ⟨L.toArray⟩) (.int .i64 0) (.int .i64 (p : Int)) :=
            Four.keep (w := w2.alloc (.cells #[.int .i64 0, .string ⟨L.toArray⟩, .int .i64 0, .int .i64 (p : Int)] 33)) ⟨by simp, by simp, by simp, by simp, by simp, by simp, by simp, by simp⟩ (hbb.block _ (by simp))
          obtain ⟨a0, a1, a2, a3, b0, b1, b2, b3⟩ := F3
          clear hbb
          by_cases hz : er = 0
          · subst hz
            by_cases hend : q = s.size
            · have HTOK : Hid (tokOf (s.data.toList.drop p) = .tok 1 v n) := by
                show _ = _
                rw [HTOK0.out]
                unfold numTok
                dsimp only
                rw [HGA.out, HLd.out, HPV'.out, if_neg (by simp), List.drop_drop, HQ.out, hend, List.drop_of_length_le (by simp)]
                rfl
              have hdq : decide ((q : Int) < (s.size : Int)) = false := decide_eq_false (by omega)
              have hdq2 : ¬ ((q : Int) < (s.size : Int)) := by omega
              have hdq3 : (s.size : Int) ≤ (q : Int) := by omega
              clear hend
              have HX2 : Hid ((cutS f' q (s.data.toList.drop q)).pre (acc ++ [⟨1, L, v, p⟩]) = res) := HXT.out _ _ HTOK.out
              have HTX : Hid (((w3.setCell ⟨w2.heap.size, 0, none⟩ (.int .i64 1)).setCell ⟨w2.heap.size, 2, none⟩ (.int .i64 v)).ownsRow w.heap.size 33 4 u5 acc.length (tcs acc)) := HT2.out.keep fun k _ hk => by
                rw [Below.heap_setCell _ _ _ _ (by show k ≠ w2.heap.size; omega), Below.heap_setCell _ _ _ _ (by show k ≠ w2.heap.size; omega), hb3 k hk]
              have HBX : Hid (Below w.heap.size w ((w3.setCell ⟨w2.heap.size, 0, none⟩ (.int .i64 1)).setCell ⟨w2.heap.size, 2, none⟩ (.int .i64 v))) := ((HB3.out.setCell (p := ⟨w2.heap.size, 0, none⟩) hsz2 _).setCell (p := ⟨w2.heap.size, 2, none⟩) hsz2 _)
              have hszX : ((w3.setCell ⟨w2.heap.size, 0, none⟩ (.int .i64 1)).setCell ⟨w2.heap.size, 2, none⟩ (.int .i64 v)).heap.size = w3.heap.size := by simp [World.setCell]
              have hszW : w.heap.size ≤ w3.heap.size := HB3.out.size
              clear hb3
              go_wp2_with (at_builtin; refine wpList_append_own _ rfl _ _ 22 rfl w.heap.size 33 i0 (.agg #[.int .i64 0, .string ⟨#[]⟩, .int .i64 0, .int .i64 0]) 4 40 Try.underlying22 hi hz0 hz1 hz2 rfl (by decide) _ _ _ rfl (World.ownsRow.alloc HTX.out _) ⟨w3.heap.size, 0, none⟩ 1 1 (tcs [⟨1, L, v, p⟩]) rfl rfl ?r1 ?r2 ?r3 ?r4 ?r5 ?_)
              case r1 => exact new_tok _ _ hszX _
              case r2 => exact tc_one _
              case r3 => unfold maxLen; omega
              case r4 => omega
              case r5 => simp; omega
              · intro v' w4 hown' hgrow _
                have HB4 : Hid (Below w.heap.size w w4) := (HBX.out.alloc HBX.out.size _).grown hgrow (by have := HBX.out.size; simp; omega) (fun k hk => (World.ownsRow.lt HTX.out k hk).1)
                have HT4 : Hid (TOwn w4 w.heap.size v' (acc ++ [⟨1, L, v, p⟩])) := by
                  show w4.ownsRow _ _ _ _ _ _
                  rw [List.length_append, tcs_app]
                  exact hown'
                clear hown' hgrow
                go_wp2_with fail
                refine (gap_any s q hpq (by omega) w4).mono ?_
                rintro e w5 ⟨rfl, hw⟩
                rw [hw]
                clear hw
                have hgl := gapLen_le (s.data.toList.drop q)
                simp at hgl
                go_wp2
                go_roundw
                case rel =>
                  refine ⟨q + gapLen (s.data.toList.drop q), f', acc ++ [⟨1, L, v, p⟩], by omega, by simp; omega, rfl, ?_, ?_, HT4, HB4⟩
                  · show _ < _
                    have := HF.out
                    omega
                  · show _ = _
                    rw [← HX2.out]
                    unfold cutS
                    rw [List.drop_drop]
                case measure => simp [intOf]; omega
            · have hlq : q < s.size := by omega
              have hhd : headL ((s.data.toList.drop p).drop n) = isL s[q] := by
                rw [List.drop_drop, HQ.out, List.drop_eq_getElem_cons (by simpa using hlq)]; rfl
              rcases hl : isL s[q] with _ | _
              · have HLE : Hid (isL s[q] = false) := hl
                have HTOK : Hid (tokOf (s.data.toList.drop p) = .tok 1 v n) := by
                  show _ = _
                  rw [HTOK0.out]
                  unfold numTok
                  dsimp only
                  rw [HGA.out, HLd.out, HPV'.out, if_neg (by simp), hhd, hl]
                  rfl
                clear hhd hl
                have HX2 : Hid ((cutS f' q (s.data.toList.drop q)).pre (acc ++ [⟨1, L, v, p⟩]) = res) := HXT.out _ _ HTOK.out
                have HTX : Hid (((w3.setCell ⟨w2.heap.size, 0, none⟩ (.int .i64 1)).setCell ⟨w2.heap.size, 2, none⟩ (.int .i64 v)).ownsRow w.heap.size 33 4 u5 acc.length (tcs acc)) := HT2.out.keep fun k _ hk => by
                  rw [Below.heap_setCell _ _ _ _ (by show k ≠ w2.heap.size; omega), Below.heap_setCell _ _ _ _ (by show k ≠ w2.heap.size; omega), hb3 k hk]
                have HBX : Hid (Below w.heap.size w ((w3.setCell ⟨w2.heap.size, 0, none⟩ (.int .i64 1)).setCell ⟨w2.heap.size, 2, none⟩ (.int .i64 v))) := ((HB3.out.setCell (p := ⟨w2.heap.size, 0, none⟩) hsz2 _).setCell (p := ⟨w2.heap.size, 2, none⟩) hsz2 _)
                have hszX : ((w3.setCell ⟨w2.heap.size, 0, none⟩ (.int .i64 1)).setCell ⟨w2.heap.size, 2, none⟩ (.int .i64 v)).heap.size = w3.heap.size := by simp [World.setCell]
                have hszW : w.heap.size ≤ w3.heap.size := HB3.out.size
                clear hb3
                go_wp2_with (first | (go_at_call 24; refine (rletter_any s[q] _).mono ?_; rintro e w' ⟨rfl, hw⟩; rw [hw]; clear hw; rw [HLE.out]) | (at_builtin; refine wpList_append_own _ rfl _ _ 22 rfl w.heap.size 33 i0 (.agg #[.int .i64 0, .string ⟨#[]⟩, .int .i64 0, .int .i64 0]) 4 40 Try.underlying22 hi hz0 hz1 hz2 rfl (by decide) _ _ _ rfl (World.ownsRow.alloc HTX.out _) ⟨w3.heap.size, 0, none⟩ 1 1 (tcs [⟨1, L, v, p⟩]) rfl rfl ?s1 ?s2 ?s3 ?s4 ?s5 ?_))
                case s1 => exact new_tok _ _ hszX _
                case s2 => exact tc_one _
                case s3 => unfold maxLen; omega
                case s4 => omega
                case s5 => simp; omega
                · intro v' w4 hown' hgrow _
                  have HB4 : Hid (Below w.heap.size w w4) := (HBX.out.alloc HBX.out.size _).grown hgrow (by have := HBX.out.size; simp; omega) (fun k hk => (World.ownsRow.lt HTX.out k hk).1)
                  have HT4 : Hid (TOwn w4 w.heap.size v' (acc ++ [⟨1, L, v, p⟩])) := by
                    show w4.ownsRow _ _ _ _ _ _
                    rw [List.length_append, tcs_app]
                    exact hown'
                  clear hown' hgrow
                  go_wp2_with fail
                  refine (gap_any s q hpq (by omega) w4).mono ?_
                  rintro e w5 ⟨rfl, hw⟩
                  rw [hw]
                  clear hw
                  have hgl := gapLen_le (s.data.toList.drop q)
                  simp at hgl
                  go_wp2
                  go_roundw
                  case rel =>
                    refine ⟨q + gapLen (s.data.toList.drop q), f', acc ++ [⟨1, L, v, p⟩], by omega, by simp; omega, rfl, ?_, ?_, HT4, HB4⟩
                    · show _ < _
                      have := HF.out
                      omega
                    · show _ = _
                      rw [← HX2.out]
                      unfold cutS
                      rw [List.drop_drop]
                  case measure => simp [intOf]; omega
              · have HLE : Hid (isL s[q] = true) := hl
                have HRES : Hid (res = .err q 31) := by
                  show _ = _
                  rw [← HQ.out]
                  apply HXE.out
                  rw [HTOK0.out]
                  unfold numTok
                  dsimp only
                  rw [HGA.out, HLd.out, HPV'.out, if_neg (by simp), hhd, hl]
                  rfl
                clear hhd hl
                go_wp2_with (go_at_call 24; refine (rletter_any s[q] _).mono ?_; rintro e w' ⟨rfl, hw⟩; rw [hw]; clear hw; rw [HLE.out])
                go_ret3
                rw [HRES.out]
                exact ⟨rfl, HB3.out⟩
          · have hz' : (er == 0) = false := by simpa using hz
            have HRES : Hid (res = .err p 33) := by
              show _ = _
              apply HXE.out 0
              rw [HTOK0.out]
              unfold numTok
              dsimp only
              rw [HGA.out, HLd.out, HPV'.out, if_pos hz]
            go_wp2
            go_ret3
            rw [HRES.out]
            exact ⟨rfl, HB3.out⟩
        · rw [HLd.out] at hA hRw
          have HAD : Hid (areD (⟨L.toArray⟩ : ByteArray).data.toList = false) := hA
          have HRW : Hid (rowC (⟨L.toArray⟩ : ByteArray).data.toList = true) := hRw
          have hwt : tokOf (s.data.toList.drop p) = if isW L = true then .tok 3 0 n else if 12 < n then .bad 0 32 else .tok 2 0 n := by
            rw [hTk]
            unfold wordTok
            dsimp only
            rw [hGa, HLd.out]
          rcases hwb : isW L with _ | _
          · have HWB : Hid (isW (⟨L.toArray⟩ : ByteArray).toList = false) := by show _ = _; rw [toL]; exact hwb
            rw [hwb] at hwt
            by_cases h12 : 12 < n
            · have HRES : Hid (res = .err p 32) := HXE.out 0 32 (by rw [hwt, if_neg (by decide), if_pos h12])
              clear hwt hwb
              go_wp2_with fail
              refine (rdigits_any ⟨L.toArray⟩ hTm _).mono ?_
              rintro e w' ⟨rfl, hw⟩
              rw [hw]
              clear hw
              rw [HAD.out]
              go_wp2_with fail
              refine (rwords_any ⟨L.toArray⟩ _).mono ?_
              rintro e w3 ⟨rfl, hbb⟩
              rw [HWB.out]
              have hb3 : ∀ k, k < w2.heap.size → w3.heap[k]? = w2.heap[k]? := fun k hk => (hbb.block k (by simp; omega)).trans (Below.heap_alloc _ _ _ hk)
              have HB3 : Hid (Below w.heap.size w w3) := (HB2.out.alloc hsz2 (.cells #[.int .i64 0, .string ⟨L.toArray⟩, .int .i64 0, .int .i64 (p : Int)] 33)).trans (hbb.mono (by simp; omega))
              have F3 : Four w3 w2.heap.size (.int .i64 0) (.string ⟨L.toArray⟩) (.int .i64 0) (.int .i64 (p : Int)) :=
                Four.keep (w := w2.alloc (.cells #[.int .i64 0, .string ⟨L.toArray⟩, .int .i64 0, .int .i64 (p : Int)] 33)) ⟨by simp, by simp, by simp, by simp, by simp, by simp, by simp, by simp⟩ (hbb.block _ (by simp))
              obtain ⟨a0, a1, a2, a3, b0, b1, b2, b3⟩ := F3
              clear hbb
              go_wp2_with (go_at_call 25; refine (rrow_any ⟨L.toArray⟩ hTm _).mono ?_; rintro e w' ⟨rfl, hw⟩; rw [hw]; clear hw; rw [HRW.out])
              go_ret3
              rw [HRES.out]
              exact ⟨rfl, HB3.out⟩
            · have HTOK : Hid (tokOf (s.data.toList.drop p) = .tok 2 0 n) := by show _ = _; rw [hwt, if_neg (by decide), if_neg h12]
              clear hwt hwb
              go_wp2_with fail
              refine (rdigits_any ⟨L.toArray⟩ hTm _).mono ?_
              rintro e w' ⟨rfl, hw⟩
              rw [hw]
              clear hw
              rw [HAD.out]
              go_wp2_with fail
              refine (rwords_any ⟨L.toArray⟩ _).mono ?_
              rintro e w3 ⟨rfl, hbb⟩
              rw [HWB.out]
              have hb3 : ∀ k, k < w2.heap.size → w3.heap[k]? = w2.heap[k]? := fun k hk => (hbb.block k (by simp; omega)).trans (Below.heap_alloc _ _ _ hk)
              have HB3 : Hid (Below w.heap.size w w3) := (HB2.out.alloc hsz2 (.cells #[.int .i64 0, .string ⟨L.toArray⟩, .int .i64 0, .int .i64 (p : Int)] 33)).trans (hbb.mono (by simp; omega))
              have F3 : Four w3 w2.heap.size (.int .i64 0) (.string ⟨L.toArray⟩) (.int .i64 0) (.int .i64 (p : Int)) :=
                Four.keep (w := w2.alloc (.cells #[.int .i64 0, .string ⟨L.toArray⟩, .int .i64 0, .int .i64 (p : Int)] 33)) ⟨by simp, by simp, by simp, by simp, by simp, by simp, by simp, by simp⟩ (hbb.block _ (by simp))
              obtain ⟨a0, a1, a2, a3, b0, b1, b2, b3⟩ := F3
              clear hbb
              have HX2 : Hid ((cutS f' q (s.data.toList.drop q)).pre (acc ++ [⟨2, L, 0, p⟩]) = res) := HXT.out _ _ HTOK.out
              have HTX : Hid ((w3.setCell ⟨w2.heap.size, 0, none⟩ (.int .i64 2)).ownsRow w.heap.size 33 4 u5 acc.length (tcs acc)) := HT2.out.keep fun k _ hk => by
                rw [Below.heap_setCell _ _ _ _ (by show k ≠ w2.heap.size; omega), hb3 k hk]
              have HBX : Hid (Below w.heap.size w (w3.setCell ⟨w2.heap.size, 0, none⟩ (.int .i64 2))) := (HB3.out.setCell (p := ⟨w2.heap.size, 0, none⟩) hsz2 _)
              have hszX : (w3.setCell ⟨w2.heap.size, 0, none⟩ (.int .i64 2)).heap.size = w3.heap.size := by simp [World.setCell]
              have hszW : w.heap.size ≤ w3.heap.size := HB3.out.size
              clear hb3
              go_wp2_with (first | (go_at_call 25; refine (rrow_any ⟨L.toArray⟩ hTm _).mono ?_; rintro e w' ⟨rfl, hw⟩; rw [hw]; clear hw; rw [HRW.out]) | (at_builtin; refine wpList_append_own _ rfl _ _ 22 rfl w.heap.size 33 i0 (.agg #[.int .i64 0, .string ⟨#[]⟩, .int .i64 0, .int .i64 0]) 4 40 Try.underlying22 hi hz0 hz1 hz2 rfl (by decide) _ _ _ rfl (World.ownsRow.alloc HTX.out _) ⟨w3.heap.size, 0, none⟩ 1 1 (tcs [⟨2, L, 0, p⟩]) rfl rfl ?t1 ?t2 ?t3 ?t4 ?t5 ?_))
              case t1 => exact new_tok _ _ hszX _
              case t2 => exact tc_one _
              case t3 => unfold maxLen; omega
              case t4 => omega
              case t5 => simp; omega
              · intro v' w4 hown' hgrow _
                have HB4 : Hid (Below w.heap.size w w4) := (HBX.out.alloc HBX.out.size _).grown hgrow (by have := HBX.out.size; simp; omega) (fun k hk => (World.ownsRow.lt HTX.out k hk).1)
                have HT4 : Hid (TOwn w4 w.heap.size v' (acc ++ [⟨2, L, 0, p⟩])) := by
                  show w4.ownsRow _ _ _ _ _ _
                  rw [List.length_append, tcs_app]
                  exact hown'
                clear hown' hgrow
                go_wp2_with fail
                refine (gap_any s q hpq (by omega) w4).mono ?_
                rintro e w5 ⟨rfl, hw⟩
                rw [hw]
                clear hw
                have hgl := gapLen_le (s.data.toList.drop q)
                simp at hgl
                go_wp2
                go_roundw
                case rel =>
                  refine ⟨q + gapLen (s.data.toList.drop q), f', acc ++ [⟨2, L, 0, p⟩], by omega, by simp; omega, rfl, ?_, ?_, HT4, HB4⟩
                  · show _ < _
                    have := HF.out
                    omega
                  · show _ = _
                    rw [← HX2.out]
                    unfold cutS
                    rw [List.drop_drop]
                case measure => simp [intOf]; omega
          · have HWB : Hid (isW (⟨L.toArray⟩ : ByteArray).toList = true) := by show _ = _; rw [toL]; exact hwb
            have HTOK : Hid (tokOf (s.data.toList.drop p) = .tok 3 0 n) := by show _ = _; rw [hwt, hwb, if_pos rfl]
            clear hwt hwb
            go_wp2_with fail
            refine (rdigits_any ⟨L.toArray⟩ hTm _).mono ?_
            rintro e w' ⟨rfl, hw⟩
            rw [hw]
            clear hw
            rw [HAD.out]
            go_wp2_with fail
            refine (rwords_any ⟨L.toArray⟩ _).mono ?_
            rintro e w3 ⟨rfl, hbb⟩
            rw [HWB.out]
            have hb3 : ∀ k, k < w2.heap.size → w3.heap[k]? = w2.heap[k]? := fun k hk => (hbb.block k (by simp; omega)).trans (Below.heap_alloc _ _ _ hk)
            have HB3 : Hid (Below w.heap.size w w3) := (HB2.out.alloc hsz2 (.cells #[.int .i64 0, .string ⟨L.toArray⟩, .int .i64 0, .int .i64 (p : Int)] 33)).trans (hbb.mono (by simp; omega))
            have F3 : Four w3 w2.heap.size (.int .i64 0) (.string ⟨L.toArray⟩) (.int .i64 0) (.int .i64 (p : Int)) :=
              Four.keep (w := w2.alloc (.cells #[.int .i64 0, .string ⟨L.toArray⟩, .int .i64 0, .int .i64 (p : Int)] 33)) ⟨by simp, by simp, by simp, by simp, by simp, by simp, by simp, by simp⟩ (hbb.block _ (by simp))
            obtain ⟨a0, a1, a2, a3, b0, b1, b2, b3⟩ := F3
            clear hbb
            have HX2 : Hid ((cutS f' q (s.data.toList.drop q)).pre (acc ++ [⟨3, L, 0, p⟩]) = res) := HXT.out _ _ HTOK.out
            have HTX : Hid ((w3.setCell ⟨w2.heap.size, 0, none⟩ (.int .i64 3)).ownsRow w.heap.size 33 4 u5 acc.length (tcs acc)) := HT2.out.keep fun k _ hk => by
              rw [Below.heap_setCell _ _ _ _ (by show k ≠ w2.heap.size; omega), hb3 k hk]
            have HBX : Hid (Below w.heap.size w (w3.setCell ⟨w2.heap.size, 0, none⟩ (.int .i64 3))) := (HB3.out.setCell (p := ⟨w2.heap.size, 0, none⟩) hsz2 _)
            have hszX : (w3.setCell ⟨w2.heap.size, 0, none⟩ (.int .i64 3)).heap.size = w3.heap.size := by simp [World.setCell]
            have hszW : w.heap.size ≤ w3.heap.size := HB3.out.size
            clear hb3
            go_wp2_with (at_builtin; refine wpList_append_own _ rfl _ _ 22 rfl w.heap.size 33 i0 (.agg #[.int .i64 0, .string ⟨#[]⟩, .int .i64 0, .int .i64 0]) 4 40 Try.underlying22 hi hz0 hz1 hz2 rfl (by decide) _ _ _ rfl (World.ownsRow.alloc HTX.out _) ⟨w3.heap.size, 0, none⟩ 1 1 (tcs [⟨3, L, 0, p⟩]) rfl rfl ?u1 ?u2 ?u3 ?u4 ?u5 ?_)
            case u1 => exact new_tok _ _ hszX _
            case u2 => exact tc_one _
            case u3 => unfold maxLen; omega
            case u4 => omega
            case u5 => simp; omega
            · intro v' w4 hown' hgrow _
              have HB4 : Hid (Below w.heap.size w w4) := (HBX.out.alloc HBX.out.size _).grown hgrow (by have := HBX.out.size; simp; omega) (fun k hk => (World.ownsRow.lt HTX.out k hk).1)
              have HT4 : Hid (TOwn w4 w.heap.size v' (acc ++ [⟨3, L, 0, p⟩])) := by
                show w4.ownsRow _ _ _ _ _ _
                rw [List.length_append, tcs_app]
                exact hown'
              clear hown' hgrow
              go_wp2_with fail
              refine (gap_any s q hpq (by omega) w4).mono ?_
              rintro e w5 ⟨rfl, hw⟩
              rw [hw]
              clear hw
              have hgl := gapLen_le (s.data.toList.drop q)
              simp at hgl
              go_wp2
              go_roundw
              case rel =>
                refine ⟨q + gapLen (s.data.toList.drop q), f', acc ++ [⟨3, L, 0, p⟩], by omega, by simp; omega, rfl, ?_, ?_, HT4, HB4⟩
                · show _ < _
                  have := HF.out
                  omega
                · show _ = _
                  rw [← HX2.out]
                  unfold cutS
                  rw [List.drop_drop]
              case measure => simp [intOf]; omega
        · obtain ⟨hA, hRw, hWd⟩ := hall hn1
          rw [HLd.out] at hA hRw hWd
          clear hall
          have HAD : Hid (areD (⟨L.toArray⟩ : ByteArray).data.toList = false) := hA
          have HRW : Hid (rowC (⟨L.toArray⟩ : ByteArray).data.toList = false) := hRw
          have HWB : Hid (isW (⟨L.toArray⟩ : ByteArray).toList = false) := by show _ = _; rw [toL]; exact hWd
          have HTOK : Hid (tokOf (s.data.toList.drop p) = .tok 4 0 n) := by
            show _ = _
            rw [hTk]
            unfold signTok
            dsimp only
            rw [hGa, if_neg (by omega)]
          go_wp2_with fail
          refine (rdigits_any ⟨L.toArray⟩ hTm _).mono ?_
          rintro e w' ⟨rfl, hw⟩
          rw [hw]
          clear hw
          rw [HAD.out]
          go_wp2_with fail
          refine (rwords_any ⟨L.toArray⟩ _).mono ?_
          rintro e w3 ⟨rfl, hbb⟩
          rw [HWB.out]
          have hb3 : ∀ k, k < w2.heap.size → w3.heap[k]? = w2.heap[k]? := fun k hk => (hbb.block k (by simp; omega)).trans (Below.heap_alloc _ _ _ hk)
          have HB3 : Hid (Below w.heap.size w w3) := (HB2.out.alloc hsz2 (.cells #[.int .i64 0, .string ⟨L.toArray⟩, .int .i64 0, .int .i64 (p : Int)] 33)).trans (hbb.mono (by simp; omega))
          have F3 : Four w3 w2.heap.size (.int .i64 0) (.string ⟨L.toArray⟩) (.int .i64 0) (.int .i64 (p : Int)) :=
            Four.keep (w := w2.alloc (.cells #[.int .i64 0, .string ⟨L.toArray⟩, .int .i64 0, .int .i64 (p : Int)] 33)) ⟨by simp, by simp, by simp, by simp, by simp, by simp, by simp, by simp⟩ (hbb.block _ (by simp))
          obtain ⟨a0, a1, a2, a3, b0, b1, b2, b3⟩ := F3
          clear hbb
          have HX2 : Hid ((cutS f' q (s.data.toList.drop q)).pre (acc ++ [⟨4, L, 0, p⟩]) = res) := HXT.out _ _ HTOK.out
          have HTX : Hid ((w3.setCell ⟨w2.heap.size, 0, none⟩ (.int .i64 4)).ownsRow w.heap.size 33 4 u5 acc.length (tcs acc)) := HT2.out.keep fun k _ hk => by
            rw [Below.heap_setCell _ _ _ _ (by show k ≠ w2.heap.size; omega), hb3 k hk]
          have HBX : Hid (Below w.heap.size w (w3.setCell ⟨w2.heap.size, 0, none⟩ (.int .i64 4))) := (HB3.out.setCell (p := ⟨w2.heap.size, 0, none⟩) hsz2 _)
          have hszX : (w3.setCell ⟨w2.heap.size, 0, none⟩ (.int .i64 4)).heap.size = w3.heap.size := by simp [World.setCell]
          have hszW : w.heap.size ≤ w3.heap.size := HB3.out.size
          clear hb3
          go_wp2_with (first | (go_at_call 25; refine (rrow_any ⟨L.toArray⟩ hTm _).mono ?_; rintro e w' ⟨rfl, hw⟩; rw [hw]; clear hw; rw [HRW.out]) | (at_builtin; refine wpList_append_own _ rfl _ _ 22 rfl w.heap.size 33 i0 (.agg #[.int .i64 0, .string ⟨#[]⟩, .int .i64 0, .int .i64 0]) 4 40 Try.underlying22 hi hz0 hz1 hz2 rfl (by decide) _ _ _ rfl (World.ownsRow.alloc HTX.out _) ⟨w3.heap.size, 0, none⟩ 1 1 (tcs [⟨4, L, 0, p⟩]) rfl rfl ?v1 ?v2 ?v3 ?v4 ?v5 ?_))
          case v1 => exact new_tok _ _ hszX _
          case v2 => exact tc_one _
          case v3 => unfold maxLen; omega
          case v4 => omega
          case v5 => simp; omega
          · intro v' w4 hown' hgrow _
            have HB4 : Hid (Below w.heap.size w w4) := (HBX.out.alloc HBX.out.size _).grown hgrow (by have := HBX.out.size; simp; omega) (fun k hk => (World.ownsRow.lt HTX.out k hk).1)
            have HT4 : Hid (TOwn w4 w.heap.size v' (acc ++ [⟨4, L, 0, p⟩])) := by
              show w4.ownsRow _ _ _ _ _ _
              rw [List.length_append, tcs_app]
              exact hown'
            clear hown' hgrow
            go_wp2_with fail
            refine (gap_any s q hpq (by omega) w4).mono ?_
            rintro e w5 ⟨rfl, hw⟩
            rw [hw]
            clear hw
            have hgl := gapLen_le (s.data.toList.drop q)
            simp at hgl
            go_wp2
            go_roundw
            case rel =>
              refine ⟨q + gapLen (s.data.toList.drop q), f', acc ++ [⟨4, L, 0, p⟩], by omega, by simp; omega, rfl, ?_, ?_, HT4, HB4⟩
              · show _ < _
                have := HF.out
                omega
              · show _ = _
                rw [← HX2.out]
                unfold cutS
                rw [List.drop_drop]
            case measure => simp [intOf]; omega
end Go.Proofs.Ytnofibjchhcmeaa
