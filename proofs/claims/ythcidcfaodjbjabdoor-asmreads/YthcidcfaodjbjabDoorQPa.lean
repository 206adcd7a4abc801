/- What the document's Parse answers. -/
import Derived.Test.YthcidcfaodjbjabDoorPar
import Derived.Test.YthcidcfaodjbjabDoorIRefC
import Derived.Test.YthcidcfaodjbjabDoorQRd
import Derived.Test.YthcidcfaodjbjabDoorQPc
import Derived.Test.YthcidcfaodjbjabDoorQPb
namespace Go.Proofs.YthcidcfaodjbjabDoor
open Go.RowKit Go.Maps Go.WideMaps
set_option linter.unusedVariables false

theorem fieldsG_ne : ∀ (l cur : List UInt8), ∀ x ∈ fieldsG l cur, x ≠ []
  | [], cur => by
    intro x hx
    unfold fieldsG at hx
    split at hx
    · cases hx
    · rw [List.mem_singleton.1 hx]; assumption
  | b :: r, cur => by
    intro x hx
    unfold fieldsG at hx
    split at hx
    · split at hx
      · exact fieldsG_ne r [] x hx
      · rcases List.mem_cons.1 hx with rfl | hx
        · assumption
        · exact fieldsG_ne r [] x hx
    · exact fieldsG_ne r (cur ++ [b]) x hx
theorem dropLast_extract (t : ByteArray) : (t.extract 0 (t.size - 1)).data.toList = t.data.toList.dropLast := by
  rw [ByteArray.data_extract, Array.toList_extract, List.extract_eq_take_drop, List.drop_zero, List.dropLast_eq_take]
  simp
theorem last_is (t : ByteArray) (h : 0 < t.size) : t.data.toList.getLast? = some (t[t.size - 1]'(by omega)) := by
  rw [List.getLast?_eq_getElem?]
  have : t.data.toList.length = t.size := by simp
  rw [this, List.getElem?_eq_getElem (by omega)]
  rfl
theorem info3 : (Tryd.prog.info? 3).map (fun i => (i.zero, i.size, i.bytes)) = some (some (.int .i64 0), 1, 8) := by kernel_rfl
/-- at each line -/
def QI1 (w w1 : World) (B N : Nat) (L : List ByteArray) (cells : Int) (res : List In × Int × Int) (vl vw va vb vp i : Value) (wr : World) : Prop :=
  ∃ (k : Nat) (st : Rs) (la : Option Addr) (lc : Nat), k ≤ N ∧ i = .int .i64 k ∧ vl = .slice la st.code.length lc ∧ Good k st ∧ res = afterLines cells (linesR st ((k : Int) + 1) ((L.map (·.data.toList)).drop k)) ∧ D5 wr B vl vw va vb vp st ∧ Below B w1 wr ∧ B ≤ wr.heap.size
theorem QI1.mk {w w1 : World} {B N : Nat} {L : List ByteArray} {cells : Int} {res : List In × Int × Int} {vl vw va vb vp i : Value} {wr : World} (k : Nat) (st : Rs) (la : Option Addr) (lc : Nat) (hk : k ≤ N) (hi : i = .int .i64 k) (hvl : vl = .slice la st.code.length lc) (hg : Good k st) (hr : res = afterLines cells (linesR st ((k : Int) + 1) ((L.map (·.data.toList)).drop k))) (hd : D5 wr B vl vw va vb vp st) (hb : Below B w1 wr) (hs : B ≤ wr.heap.size) : QI1 w w1 B N L cells res vl vw va vb vp i wr := ⟨k, st, la, lc, hk, hi, hvl, hg, hr, hd, hb, hs⟩

/-- at each instruction -/
def QI2 (w1 : World) (B n : Nat) (code : List In) (frm : List (Int × List UInt8)) (tab : List (List UInt8 × Int)) (out : Int ⊕ List In) (vl vw va vb vp i : Value) (wr : World) : Prop :=
  ∃ (q : Nat) (D : List In), q ≤ n ∧ i = .int .i64 q ∧ D.length = q ∧ preA D (aimL tab (code.drop q) (frm.drop q)) = out ∧ D5 wr B vl vw va vb vp ⟨D ++ code.drop q, frm, tab⟩ ∧ Below B w1 wr ∧ B ≤ wr.heap.size
theorem QI2.mk {w1 : World} {B n : Nat} {code : List In} {frm : List (Int × List UInt8)} {tab : List (List UInt8 × Int)} {out : Int ⊕ List In} {vl vw va vb vp i : Value} {wr : World} (q : Nat) (D : List In) (hq : q ≤ n) (hi : i = .int .i64 q) (hD : D.length = q) (hp : preA D (aimL tab (code.drop q) (frm.drop q)) = out) (hd : D5 wr B vl vw va vb vp ⟨D ++ code.drop q, frm, tab⟩) (hb : Below B w1 wr) (hs : B ≤ wr.heap.size) : QI2 w1 B n code frm tab out vl vw va vb vp i wr := ⟨q, D, hq, hi, hD, hp, hd, hb, hs⟩

set_option maxRecDepth 100000 in
set_option maxHeartbeats 4000000 in
theorem rparse_list (s : ByteArray) (hs : s.size ≤ maxLen) (cells : Int) (w : World) :
    Calls Tryd.prog 12 #[.string s, .int .i64 cells] w (ParseP w (parseA s.data.toList cells)) := by
  obtain ⟨i0, hi, hz0, hz1, hz2⟩ := info_parts info9
  obtain ⟨i3, hi3, hy0, hy1, hy2⟩ := info_parts info3
  obtain ⟨i25, hi25, hx0, hx1, hx2⟩ := info_parts info25
  have hl : s.data.toList.length = s.size := by simp
  obtain ⟨res, hres⟩ : ∃ r, parseA s.data.toList cells = r := ⟨_, rfl⟩
  rw [hres]
  obtain ⟨post, hpost⟩ : ∃ p : Ending → World → Prop, p = ParseP w res := ⟨_, rfl⟩
  have HPOST : Hid (post = ParseP w res) := hpost
  rw [← hpost]
  unfold maxLen at hs
  by_cases hlong : 8192 < s.size
  · have HR : Hid (res = ([], 0, 30)) := by show _ = _; rw [← hres]; unfold parseA; rw [if_pos (by omega)]
    clear hres hpost hl
    go_enter Tryd.func12, Tryd.ntmps12
    go_wp2
    first | (rw [HPOST.out, HR.out]; exact ParseP.nil _ _ (Below.refl _ _)) | (go_ret3; rw [HPOST.out, HR.out]; exact ParseP.nil _ _ (Below.refl _ _))
  · have HP : Hid (res = afterLines cells (linesR ⟨[], [], []⟩ 1 (linesL s.data.toList))) := by
      show _ = _
      rw [← hres]; unfold parseA; rw [if_neg (by omega)]
    have HLS : Hid (∀ W, Calls Tryd.prog 26 #[.string s] W (LnP W (linesL s.data.toList))) := fun W => rlines_any s (by omega) W
    have HLN : Hid (∀ L : List ByteArray, L.map (·.data.toList) = linesL s.data.toList → 0 < L.length ∧ L.length ≤ 8193 ∧ ∀ i (h : i < L.length), L[i].size ≤ 8192) := by
      intro L hL
      obtain ⟨a1, a2⟩ := linesL_len s.data.toList
      have a3 : linesL s.data.toList ≠ [] := by
        cases s.data.toList with
        | nil => simp [linesL]
        | cons b r => unfold linesL; split <;> (try simp); split <;> simp
      rw [← hL] at a1 a2 a3
      rw [List.length_map] at a1
      refine ⟨List.length_pos_iff.2 (fun e => a3 (by rw [e]; rfl)), by omega, fun i hi => ?_⟩
      have := a2 L[i].data.toList (List.mem_map.2 ⟨L[i], List.getElem_mem _, rfl⟩)
      have h5 : L[i].data.toList.length = L[i].size := by simp
      omega
    clear hres hpost hl
    go_enter Tryd.func12, Tryd.ntmps12
    go_upto_region 9 with (go_at_call 26; refine (HLS.out _).mono ?_; rintro e w1 ⟨v, L, hL, rfl, hst, hb⟩; have HL : Hid (L.map (·.data.toList) = linesL s.data.toList) := hL; have HST : Hid (Strs w1 w.heap.size v L) := hst; have HB1 : Hid (Below w.heap.size w w1) := hb; clear hL hst hb)
    obtain ⟨hL0, hL1, hL2⟩ := HLN.out L HL.out
    have HL2 : Hid (∀ i (h : i < L.length), L[i].size ≤ 8192) := hL2
    obtain ⟨g, cap, rfl, hcap, hgl, hcl⟩ : ∃ g cap, v = .slice (some ⟨g, 0, none⟩) L.length cap ∧ L.length ≤ cap ∧ g < w1.heap.size ∧ (∀ j u, (L.map fun x => Value.string x)[j]? = some u → w1.cell? ((⟨g, 0, none⟩ : Addr).add j) = some u) := by
      rcases HST.out.cases with ⟨_, h⟩ | h
      · rw [h] at hL0; simp at hL0
      · exact h
    have HCL : Hid (∀ i (h : i < L.length), w1.cell? ⟨g, i, none⟩ = some (.string L[i])) := by
      intro i hi
      have := hcl i (.string L[i]) (by rw [List.getElem?_map, List.getElem?_eq_getElem hi]; rfl)
      rw [addn, Nat.zero_add] at this
      exact this
    obtain ⟨N, hN⟩ : ∃ N, L.length = N := ⟨_, rfl⟩
    have HN : Hid (L.length = N) := hN
    rw [hN] at hL1 hL0 hcap ⊢
    clear hcl hN hL2
    obtain ⟨B, hBe⟩ : ∃ B, w1.heap.size = B := ⟨_, rfl⟩
    rw [hBe] at hgl
    have HBE : Hid (w1.heap.size = B) := hBe
    clear hBe
    go_wp2
    go_loopw [7, 8, 9, 10, 11, 13] (fun vl vw va vb vp i wr => QI1 w w1 B N L cells res vl vw va vb vp i wr) (fun _ _ _ _ _ i _ => N - (intOf i).toNat)
    case atStart => exact QI1.mk 0 ⟨[], [], []⟩ none 0 (Nat.zero_le _) rfl rfl good0 (by rw [HL.out]; exact HP.out) (D5.new _ _) (by rw [← HBE.out]; exact Below.refl _ _) (by rw [← HBE.out]; exact Nat.le_refl _)
    case round =>
      obtain ⟨k, st, la, lc, hk, rfl, rfl, hg, hr, hd, hb, hbs⟩ := hrel
      have HG : Hid (Good k st) := hg
      have HR : Hid (res = afterLines cells (linesR st ((k : Int) + 1) ((L.map (·.data.toList)).drop k))) := hr
      have HD : Hid (D5 wr B (.slice la st.code.length lc) u8 u9 u10 u11 st) := hd
      have HB : Hid (Below B w1 wr) := hb
      clear hg hr hd hb
      by_cases hlt : k < N
      · have hkl : k < L.length := by rw [HN.out]; exact hlt
        obtain ⟨ln, hln⟩ : ∃ ln, L[k] = ln := ⟨_, rfl⟩
        have hlsz : ln.size ≤ 8192 := by rw [← hln]; exact HL2.out k hkl
        have hcl : wr.cell? ⟨g, k, none⟩ = some (.string ln) := by
          have h1 := HCL.out k hkl
          rw [hln] at h1
          exact (HB.out.cell (p := ⟨g, k, none⟩) hgl).trans h1
        have HR2 : Hid _ := HR.out
        rw [linesR_next _ _ _ k (by simpa using hkl), List.getElem_map, hln] at HR2
        obtain ⟨F, hF⟩ : ∃ F, fieldsL (saidL ln.data.toList) = F := ⟨_, rfl⟩
        have HFL : Hid (F.length ≤ 8193 ∧ ∀ x ∈ F, x.length ≤ 8192) := by
          have h1 := fieldsG_len (saidL ln.data.toList) []
          have h2 := saidL_len ln.data.toList
          have h3 : ln.data.toList.length = ln.size := by simp
          change (fieldsL _).length ≤ _ ∧ (∀ x ∈ fieldsL _, _) at h1
          rw [hF] at h1
          exact ⟨by omega, fun x hx => by have := h1.2 x hx; simp at this; omega⟩
        have HPC : Hid (Calls Tryd.prog 27 #[.string ln] wr (LnP wr F)) := by rw [← hF]; exact rpieces_any ln hlsz wr
        rw [hF] at HR2
        clear HR hln
        go_upto_region 13 with (go_at_call 27; refine HPC.out.mono ?_; rintro e w2 ⟨v2, Q, hQ, rfl, hst2, hb2⟩; have HQ : Hid (Q.map (·.data.toList) = F) := hQ; have HST2 : Hid (Strs w2 wr.heap.size v2 Q) := hst2; have HB2 : Hid (Below B w1 w2) := HB.out.trans (hb2.mono hbs); have HD2 : Hid (D5 w2 B (.slice la st.code.length lc) u8 u9 u10 u11 st) := P5.below HD.out hb2; have hbs2 : B ≤ w2.heap.size := Nat.le_trans hbs hb2.size; clear hQ hst2 hb2)
        rcases HST2.out.cases with ⟨rfl, hQ0⟩ | ⟨A, cap2, rfl, hcap2, hA, hcells⟩
        · have hF0 : F = [] := by rw [← HQ.out, hQ0]; rfl
          rw [hF0] at HR2
          have HR3 : Hid (res = afterLines cells (linesR st (((k + 1 : Nat) : Int) + 1) ((L.map (·.data.toList)).drop (k + 1)))) := HR2.out
          have HG3 : Hid (Good (k + 1) st) := HG.out.line (n := 0) (ps := []) rfl
          clear HR2 hF0 hQ0 hF
          go_wp2
          go_roundw
          case rel => exact QI1.mk (k + 1) st la lc (by omega) (by go_num) rfl HG3.out HR3.out HD2.out HB2.out hbs2
          case measure => simp [intOf]; omega
        · have HFN : Hid (∀ x ∈ F, x ≠ []) := by rw [← hF]; exact fieldsG_ne _ _
          have hPA : PAt w2 A Q := ⟨fun i hi => by
            have h1 := hcells i (.string Q[i]) (by rw [List.getElem?_map, List.getElem?_eq_getElem hi]; rfl)
            rw [addn, Nat.zero_add] at h1
            have hm : Q[i].data.toList ∈ F := by rw [← HQ.out]; exact List.mem_map.2 ⟨Q[i], List.getElem_mem _, rfl⟩
            have h2 := HFL.out.2 _ hm
            have h3 := HFN.out _ hm
            have h4 : Q[i].data.toList.length = Q[i].size := by simp
            refine ⟨h1, by omega, ?_⟩
            rcases Nat.eq_zero_or_pos Q[i].size with h | h
            · exact absurd (List.eq_nil_of_length_eq_zero (h4.trans h)) h3
            · exact h⟩
          have HPA : Hid (PAt w2 A Q) := hPA
          rcases Q with _ | ⟨t, Qr⟩
          · have hF0 : F = [] := by rw [← HQ.out]; rfl
            rw [hF0] at HR2
            have HR3 : Hid (res = afterLines cells (linesR st (((k + 1 : Nat) : Int) + 1) ((L.map (·.data.toList)).drop (k + 1)))) := HR2.out
            have HG3 : Hid (Good (k + 1) st) := HG.out.line (n := 0) (ps := []) rfl
            clear HR2 hF0 hF hPA
            go_wp2
            go_roundw
            case rel => exact QI1.mk (k + 1) st la lc (by omega) (by go_num) rfl HG3.out HR3.out HD2.out HB2.out hbs2
            case measure => simp [intOf]; omega
          · obtain ⟨ht, htz, ht0⟩ := hPA.c 0 (by simp)
            simp only [List.getElem_cons_zero] at ht htz ht0
            have hFc : F = t.data.toList :: Qr.map (·.data.toList) := by rw [← HQ.out]; rfl
            rw [hFc] at HR2
            have HFQ : Hid (F = t.data.toList :: Qr.map (·.data.toList)) := hFc
            have hQl : Qr.length ≤ 8192 := by have := HFL.out.1; rw [hFc] at this; simp at this; omega
            clear hFc hF hPA
            obtain ⟨c, hc⟩ : ∃ c, t[t.size - 1]'(by omega) = c := ⟨_, rfl⟩
            have hlast := last_is t ht0
            rw [hc] at hlast
            have hcn : ((t[t.size - 1]'(by omega)).toNat : Int) = (c.toNat : Int) := by rw [hc]
            by_cases hlab : Qr = [] ∧ c = 58
            · obtain ⟨rfl, rfl⟩ := hlab
              rw [show lineL st ((k : Int) + 1) (t.data.toList :: ([] : List ByteArray).map (·.data.toList)) = labelL st t.data.toList.dropLast from lineL_one_yes _ _ _ hlast] at HR2
              obtain ⟨T, hT⟩ : ∃ T, t.extract 0 (t.size - 1) = T := ⟨_, rfl⟩
              have hTl : T.data.toList = t.data.toList.dropLast := by rw [← hT]; exact dropLast_extract t
              have hTz : T.size ≤ 8192 := by rw [← hT]; simp; omega
              rw [← hTl] at HR2
              obtain ⟨lb, hlb⟩ : ∃ b, labB T.data.toList = b := ⟨_, rfl⟩
              have C9 : Hid (∀ W, Calls Tryd.prog 9 #[.string T] W fun e w' => e = .returned (.bool lb) ∧ w' = W) := fun W => by rw [← hlb]; exact refLabel_any T (by unfold maxLen; omega) W
              have C28 : Hid (∀ W, Strs W B u10 (st.tab.map fun x => bs x.1) → Calls Tryd.prog 28 #[u10, .string T] W fun e w' => e = .returned (.int .i64 (findI T (st.tab.map fun x => bs x.1) 0)) ∧ ∃ m, w' = W.drewN m) := fun W hW => rfind_any B u10 _ T (by have := HG.out.tab; simp; omega) W hW
              have HB0 : Hid (∀ W, Below B w1 W → Below w.heap.size w W) := fun W h => HB1.out.trans (h.mono (by rw [← HBE.out]; exact HB1.out.size))
              clear hlast hTl hc
              cases lb with
              | false =>
                have HO : Hid (res = ([], (k : Int) + 1, 90)) := by have := HR2.out; unfold labelL at this; rw [hlb] at this; exact this
                clear HR2
                go_wp2_with (go_at_call 9; refine (C9.out _).mono ?_; rintro e w' ⟨rfl, rfl⟩)
                first | (rw [HPOST.out, HO.out]; exact ParseP.nil _ _ (HB0.out _ HB2.out)) | (go_ret3; rw [HPOST.out, HO.out]; exact ParseP.nil _ _ (HB0.out _ HB2.out))
              | true =>
                have HLK := find_link T st.tab 0
                obtain ⟨fi, hfi⟩ : ∃ x, findI T (st.tab.map fun x => bs x.1) 0 = x := ⟨_, rfl⟩
                have HTB : Hid (Strs w2 B u10 (st.tab.map fun x => bs x.1)) := by have := rStr_strs HD2.out.hd; rw [List.map_map] at this; exact this
                rw [hfi] at C28 HLK
                rcases HLK with ⟨hn, hf1⟩ | ⟨j, hj, hn, hf1⟩
                · have HR3 : Hid (res = afterLines cells (linesR ⟨st.code, st.frm, st.tab ++ [(T.data.toList, (st.code.length : Int))]⟩ (((k + 1 : Nat) : Int) + 1) ((L.map (·.data.toList)).drop (k + 1)))) := by
                    have := HR2.out; unfold labelL at this; rw [hlb, hn] at this; exact this
                  have HG3 : Hid (Good (k + 1) ⟨st.code, st.frm, st.tab ++ [(T.data.toList, (st.code.length : Int))]⟩) := ⟨HG.out.len, by have := HG.out.code; simp; omega, by have := HG.out.tab; simp; omega, HG.out.lab⟩
                  have hf0 : fi < 0 := by omega
                  have hst := HG.out.tab
                  have hsc := HG.out.code
                  clear HR2 hfi hf1 hn
                  go_upto_region 20 with (first | (go_at_call 9; refine (C9.out _).mono ?_; rintro e w' ⟨rfl, hw⟩; rw [hw]; clear hw) | (go_at_call 28; refine (C28.out _ HTB.out).mono ?_; rintro e w' ⟨rfl, m, rfl⟩))
                  obtain ⟨w3, hw3⟩ : ∃ W, w2.drewN m = W := ⟨_, rfl⟩
                  have hb23 : Below w2.heap.size w2 w3 := by rw [← hw3]; exact below_drewN (Below.refl _ _) m
                  have HD3 : Hid (D5 w3 B (.slice la st.code.length lc) u8 u9 u10 u11 st) := P5.below HD2.out hb23
                  have HB3 : Hid (Below B w1 w3) := by rw [← hw3]; exact below_drewN HB2.out m
                  have ht3 : w3.cell? ⟨A, 0, none⟩ = some (.string t) := by rw [← hw3]; exact ht
                  have hbs3 : B ≤ w3.heap.size := Nat.le_trans hbs2 hb23.size
                  rw [hw3]
                  clear hb23 hw3 ht
                  have HSA : Hid (∀ o, (w3.alloc o).ownsRow B 9 1 u10 (st.tab.map (·.1)).length ((st.tab.map (·.1)).map fun x => Value.string ⟨x.toArray⟩)) := fun o => World.ownsRow.alloc HD3.out.hd o
                  have HPB : Hid (∀ o, D5 (w3.alloc o) B (.slice la st.code.length lc) u8 u9 u10 u11 st) := fun o => P5.below HD3.out ((Below.refl _ _).alloc (Nat.le_refl _) o)
                  have HBA : Hid (∀ o, Below B w1 (w3.alloc o)) := fun o => HB3.out.alloc hbs3 o
                  go_wp2_with (at_builtin; refine wpList_append_own_at _ rfl _ _ 47 rfl B 9 i0 (.string ⟨#[]⟩) 1 16 Tryd.underlying47 hi hz0 hz1 hz2 rfl (by decide) _ _ _ rfl (HSA.out _) ⟨w3.heap.size, 0, none⟩ 1 1 [.string T] rfl rfl ?d1q1 (strs_one [T]) ?d3q1 ?d4q1 ?d5q1 ?_)
                  try case d1q1 => exact one_new _ _ _
                  case d3q1 => unfold maxLen; first | omega | (simp; omega)
                  case d4q1 => first | omega | (simp; omega)
                  case d5q1 => first | omega | (simp; omega)
                  intro v' w4 hown' hgrow hnil hloc
                  have HB4 : Hid (Below B w1 w4) := (HBA.out _).grown hgrow (by simp; omega) (fun k hk => (HD3.out.hd.lt k hk).1)
                  have HD4 : Hid (P5 w4 B (rIns (.slice la st.code.length lc) st.code) (rStr u8 (st.frm.map (·.2))) (rInt u9 (st.frm.map (·.1))) (rStr v' (st.tab.map (·.1) ++ [T.data.toList])) (rInt u11 (st.tab.map (·.2)))) :=
                    P5.four (HPB.out _) hgrow (rStr_snoc (by simpa using hown')) (by
                      rcases hloc with e | e
                      · exact Or.inl e
                      · exact Or.inr ⟨_, e, by simp⟩)
                  have hbs4 : B ≤ w4.heap.size := Nat.le_trans hbs3 (Nat.le_trans (by simp) hgrow.size)
                  clear hown' hgrow hnil hloc HSA HPB HBA
                  have HSA : Hid (∀ o, (w4.alloc o).ownsRow B 3 1 u11 (st.tab.map (·.2)).length ((st.tab.map (·.2)).map fun x => Value.int .i64 x)) := fun o => World.ownsRow.alloc HD4.out.he o
                  have HPB : Hid (∀ o, P5 (w4.alloc o) B (rIns (.slice la st.code.length lc) st.code) (rStr u8 (st.frm.map (·.2))) (rInt u9 (st.frm.map (·.1))) (rStr v' (st.tab.map (·.1) ++ [T.data.toList])) (rInt u11 (st.tab.map (·.2)))) := fun o => P5.below HD4.out ((Below.refl _ _).alloc (Nat.le_refl _) o)
                  have HBA : Hid (∀ o, Below B w1 (w4.alloc o)) := fun o => HB4.out.alloc hbs4 o
                  go_wp2_with (at_builtin; refine wpList_append_own_at _ rfl _ _ 64 rfl B 3 i3 (.int .i64 0) 1 8 Tryd.underlying64 hi3 hy0 hy1 hy2 rfl (by decide) _ _ _ rfl (HSA.out _) ⟨w4.heap.size, 0, none⟩ 1 1 [.int .i64 (st.code.length : Int)] rfl rfl ?f1q2 (by intro u hu; rw [List.mem_singleton.1 hu]; rfl) ?f3q2 ?f4q2 ?f5q2 ?_)
                  try case f1q2 => exact one_new _ _ _
                  case f3q2 => unfold maxLen; first | omega | (simp; omega)
                  case f4q2 => first | omega | (simp; omega)
                  case f5q2 => first | omega | (simp; omega)
                  intro v5 w5 hown' hgrow hnil hloc
                  have HB5 : Hid (Below B w1 w5) := (HBA.out _).grown hgrow (by simp; omega) (fun k hk => (HD4.out.he.lt k hk).1)
                  have HD5 : Hid (D5 w5 B (.slice la st.code.length lc) u8 u9 v' v5 ⟨st.code, st.frm, st.tab ++ [(T.data.toList, (st.code.length : Int))]⟩) := by
                    have h := P5.five (e' := rInt v5 (st.tab.map (·.2) ++ [(st.code.length : Int)])) (HPB.out _) hgrow (rInt_snoc (by simpa using hown')) (by
                      rcases hloc with e | e
                      · exact Or.inl e
                      · exact Or.inr ⟨_, e, by simp⟩)
                    show P5 _ _ _ _ _ _ _
                    simpa using h
                  have hbs5 : B ≤ w5.heap.size := Nat.le_trans hbs4 (Nat.le_trans (by simp) hgrow.size)
                  clear hown' hgrow hnil hloc HSA HPB HBA
                  go_wp2
                  go_roundw
                  case rel => exact QI1.mk (k + 1) ⟨st.code, st.frm, st.tab ++ [(T.data.toList, (st.code.length : Int))]⟩ la lc (by omega) (by go_num) rfl HG3.out HR3.out HD5.out HB5.out hbs5
                  case measure => simp [intOf]; omega
                · have HO : Hid (res = ([], (k : Int) + 1, 91)) := by have := HR2.out; unfold labelL at this; rw [hlb, hn] at this; exact this
                  have hf0 : 0 ≤ fi := by omega
                  clear HR2 hfi hf1 hn
                  go_wp2_with (first | (go_at_call 9; refine (C9.out _).mono ?_; rintro e w' ⟨rfl, rfl⟩) | (go_at_call 28; refine (C28.out _ HTB.out).mono ?_; rintro e w' ⟨rfl, m, rfl⟩))
                  first | (rw [HPOST.out, HO.out]; exact ParseP.nil _ _ (HB0.out _ (below_drewN HB2.out m))) | (go_ret3; rw [HPOST.out, HO.out]; exact ParseP.nil _ _ (HB0.out _ (below_drewN HB2.out m)))
            · have HNL : lineL st ((k : Int) + 1) (t.data.toList :: Qr.map (·.data.toList)) = insR st ((k : Int) + 1) (insL t.data.toList (Qr.map (·.data.toList))) := by
                rcases Qr with _ | ⟨q, Qs⟩
                · exact lineL_one_no _ _ _ (fun e => hlab ⟨rfl, Option.some.inj (hlast.symm.trans e)⟩)
                · exact lineL_more _ _ _ _ _
              rw [HNL] at HR2
              have HRD : Hid (Calls Tryd.prog 29 #[.slice (some ⟨A, 0, none⟩) (t :: Qr).length cap2] w2 fun e w' => RpP w2 e w' (insL t.data.toList (Qr.map (·.data.toList)))) := by
                have := rread_any A (t :: Qr).length cap2 (t :: Qr) rfl (by simp) (by simp; omega) w2 HPA.out hA t rfl
                show Calls Tryd.prog 29 _ _ _
                simpa using this
              have HLB : Hid (∀ y, insL t.data.toList (Qr.map (·.data.toList)) = some y → y.2.length ≤ 12) := fun y hy => insL_lab hy
              have hlab2 : Qr = [] → c ≠ 58 := fun h1 h2 => hlab ⟨h1, h2⟩
              have HQL : Hid ((t :: Qr).length = Qr.length + 1) := rfl
              obtain ⟨M, hM⟩ : ∃ M, (t :: Qr).length = M := ⟨_, rfl⟩
              have hM2 : M = Qr.length + 1 := by rw [← hM]; rfl
              have hM1 : Qr = [] ∨ 1 < M := by
                rcases Qr with _ | ⟨q, Qs⟩
                · exact Or.inl rfl
                · right; rw [hM2]; simp
              rw [hM] at HRD hcap2 ⊢
              have hm0 : ((M : Int) == 0) = false := by rw [beq_eq_false_iff_ne]; omega
              obtain ⟨o, ho⟩ : ∃ o, insL t.data.toList (Qr.map (·.data.toList)) = o := ⟨_, rfl⟩
              rw [ho] at HR2 HRD HLB
              have HB0 : Hid (∀ W, Below B w1 W → Below w.heap.size w W) := fun W h => HB1.out.trans (h.mono (by rw [← HBE.out]; exact HB1.out.size))
              have hge0 : ((((t.size : Nat) : Int) - 1) + 1 = (t.size : Int)) := by omega
              clear hlast ho HNL hlab hM HQL hge0
              have hcd : (c ≠ 58 ∧ M = 1) ∨ 1 < M := by
                rcases hM1 with h | h
                · exact Or.inl ⟨hlab2 h, by rw [hM2, h]; rfl⟩
                · exact Or.inr h
              clear hlab2 hM1 hM2
              cases o with
              | none =>
                have HO : Hid (res = ([], (k : Int) + 1, 90)) := HR2.out
                clear HR2 HLB
                rcases hcd with ⟨hc58, rfl⟩ | hM1
                · have e58 : ((c.toNat : Int) == 58) = false := by rw [beq_eq_false_iff_ne]; intro e; exact hc58 (UInt8.toNat_inj.1 (by have : (58 : UInt8).toNat = 58 := rfl; omega))
                  go_wp2_with (go_at_call 29; refine HRD.out.mono ?_; rintro e w3 ⟨⟨y, rfl, hy⟩, hb3⟩; have HB3 : Hid (∀ o, Below B w1 (w3.alloc o)) := (fun o => (HB2.out.trans (hb3.mono hbs2)).alloc (Nat.le_trans hbs2 hb3.size) o); unfold yv iv; clear hb3)
                  first | (rw [HPOST.out, HO.out]; exact ParseP.nil _ _ (HB0.out _ (HB3.out _))) | (go_ret3; rw [HPOST.out, HO.out]; exact ParseP.nil _ _ (HB0.out _ (HB3.out _)))
                · have e1m : ((M : Int) == 1) = false := by rw [beq_eq_false_iff_ne]; omega
                  go_wp2_with (go_at_call 29; refine HRD.out.mono ?_; rintro e w3 ⟨⟨y, rfl, hy⟩, hb3⟩; have HB3 : Hid (∀ o, Below B w1 (w3.alloc o)) := (fun o => (HB2.out.trans (hb3.mono hbs2)).alloc (Nat.le_trans hbs2 hb3.size) o); unfold yv iv; clear hb3)
                  first | (rw [HPOST.out, HO.out]; exact ParseP.nil _ _ (HB0.out _ (HB3.out _))) | (go_ret3; rw [HPOST.out, HO.out]; exact ParseP.nil _ _ (HB0.out _ (HB3.out _)))
              | some y =>
                have HR3 : Hid (res = afterLines cells (linesR ⟨st.code ++ [y.1], st.frm ++ [((k : Int) + 1, y.2)], st.tab⟩ (((k + 1 : Nat) : Int) + 1) ((L.map (·.data.toList)).drop (k + 1)))) := HR2.out
                have HG3 : Hid (Good (k + 1) ⟨st.code ++ [y.1], st.frm ++ [((k : Int) + 1, y.2)], st.tab⟩) := ⟨by have := HG.out.len; simp; omega, by have := HG.out.code; simp; omega, by have := HG.out.tab; simp; omega, fun o ho => by
                  rcases List.mem_append.1 ho with h | h
                  · exact HG.out.lab o h
                  · rw [List.mem_singleton.1 h]; have := HLB.out y rfl; simp; omega⟩
                have hst := HG.out.tab
                have hsc := HG.out.code
                have hsf : st.frm.length ≤ k := by rw [← HG.out.len]; exact HG.out.code
                clear HR2 HLB
                rcases hcd with ⟨hc58, rfl⟩ | hM1
                · have e58 : ((c.toNat : Int) == 58) = false := by rw [beq_eq_false_iff_ne]; intro e; exact hc58 (UInt8.toNat_inj.1 (by have : (58 : UInt8).toNat = 58 := rfl; omega))
                  go_upto_region 25 with (go_at_call 29; refine HRD.out.mono ?_; rintro e w3 ⟨⟨y2, rfl, hy⟩, hb3⟩; obtain rfl : y = y2 := (hy y rfl).symm; have HB3 : Hid (Below w2.heap.size w2 w3) := hb3; unfold yv iv; clear hb3 hy)
                  have HD3 : Hid (D5 w3 B (.slice la st.code.length lc) u8 u9 u10 u11 st) := P5.below HD2.out HB3.out
                  have HBW3 : Hid (Below B w1 w3) := HB2.out.trans (HB3.out.mono hbs2)
                  have hbs3 : B ≤ w3.heap.size := Nat.le_trans hbs2 HB3.out.size
                  obtain ⟨⟨xk, xo, xa, xb, xc, xz⟩, nm⟩ := y
                  dsimp only at HR3 HG3 ⊢
                  obtain ⟨W4, hW4⟩ : ∃ W4, w3.alloc (Obj.cells #[Value.int .i64 xk, Value.int .i64 xo, Value.int .i64 xa, Value.int .i64 xb, Value.int .i64 xc, Value.int .i64 xz] 25) = W4 := ⟨_, rfl⟩
                  have hX4 : W4.heap[w3.heap.size]? = some (.cells #[Value.int .i64 xk, Value.int .i64 xo, Value.int .i64 xa, Value.int .i64 xb, Value.int .i64 xc, Value.int .i64 xz] 25) := by rw [← hW4]; exact heap_alloc_new w3 _
                  have hb34 : Below w3.heap.size w3 W4 := by rw [← hW4]; exact (Below.refl _ _).alloc (Nat.le_refl _) _
                  have HD4 : Hid (D5 W4 B (.slice la st.code.length lc) u8 u9 u10 u11 st) := P5.below HD3.out hb34
                  have HBW4 : Hid (Below B w1 W4) := HBW3.out.trans (hb34.mono hbs3)
                  have hbs4 : B ≤ W4.heap.size := Nat.le_trans hbs3 hb34.size
                  have x0 : W4.cell? ⟨w3.heap.size, 0, none⟩ = some (.int .i64 xk) := (cell_of_row W4 _ 0 _ _ _ hX4).trans rfl
                  have x1 : W4.cell? ⟨w3.heap.size, 1, none⟩ = some (.int .i64 xo) := (cell_of_row W4 _ 1 _ _ _ hX4).trans rfl
                  have x2 : W4.cell? ⟨w3.heap.size, 2, none⟩ = some (.int .i64 xa) := (cell_of_row W4 _ 2 _ _ _ hX4).trans rfl
                  have x3 : W4.cell? ⟨w3.heap.size, 3, none⟩ = some (.int .i64 xb) := (cell_of_row W4 _ 3 _ _ _ hX4).trans rfl
                  have x4 : W4.cell? ⟨w3.heap.size, 4, none⟩ = some (.int .i64 xc) := (cell_of_row W4 _ 4 _ _ _ hX4).trans rfl
                  have x5 : W4.cell? ⟨w3.heap.size, 5, none⟩ = some (.int .i64 xz) := (cell_of_row W4 _ 5 _ _ _ hX4).trans rfl
                  rw [hW4]
                  clear hW4 hX4 hb34
                  have HSA : Hid (∀ o, (W4.alloc o).ownsRow B 25 6 (.slice la st.code.length lc) st.code.length (ics st.code)) := fun o => World.ownsRow.alloc HD4.out.ha o
                  have HPB : Hid (∀ o, D5 (W4.alloc o) B (.slice la st.code.length lc) u8 u9 u10 u11 st) := fun o => P5.below HD4.out ((Below.refl _ _).alloc (Nat.le_refl _) o)
                  have HBA : Hid (∀ o, Below B w1 (W4.alloc o)) := fun o => HBW4.out.alloc hbs4 o
                  go_wp2_with (at_builtin; refine wpList_append_own_at _ rfl _ _ 31 rfl B 25 i25 _ 6 48 Tryd.underlying31 hi25 hx0 hx1 hx2 rfl (by decide) _ _ _ rfl (HSA.out _) ⟨W4.heap.size, 0, none⟩ 1 1 (ics [⟨xk, xo, xa, xb, xc, xz⟩]) rfl rfl ?d1q3 (ic_one _) ?d3q3 ?d4q3 ?d5q3 ?_)
                  case d1q3 => exact row_at (l := ics [⟨xk, xo, xa, xb, xc, xz⟩]) (heap_alloc_new W4 _)
                  case d3q3 => unfold maxLen; first | omega | (simp; omega)
                  case d4q3 => first | omega | (simp; omega)
                  case d5q3 => first | omega | (simp; omega)
                  intro v' w5 hown' hgrow hnil hloc
                  obtain ⟨lg, lcap, rfl⟩ := own_form hown'
                  have HB5 : Hid (Below B w1 w5) := (HBA.out _).grown hgrow (by simp; omega) (fun k hk => (HD4.out.ha.lt k hk).1)
                  have HD5a : Hid (P5 w5 B (rIns (.slice (some ⟨lg, 0, none⟩) (st.code.length + 1) lcap) (st.code ++ [⟨xk, xo, xa, xb, xc, xz⟩])) (rStr u8 (st.frm.map (·.2))) (rInt u9 (st.frm.map (·.1))) (rStr u10 (st.tab.map (·.1))) (rInt u11 (st.tab.map (·.2)))) :=
                    P5.one (HPB.out _) hgrow (rIns_snoc (by simpa using hown')) (by
                      rcases hloc with e | e
                      · exact Or.inl e
                      · exact Or.inr ⟨_, e, by simp⟩)
                  have hbs5 : B ≤ w5.heap.size := Nat.le_trans hbs4 (Nat.le_trans (by simp) hgrow.size)
                  clear hown' hgrow hnil hloc HSA HPB HBA
                  have HSA : Hid (∀ o, (w5.alloc o).ownsRow B 9 1 u8 (st.frm.map (·.2)).length ((st.frm.map (·.2)).map fun x => Value.string ⟨x.toArray⟩)) := fun o => World.ownsRow.alloc HD5a.out.hb o
                  have HPB : Hid (∀ o, P5 (w5.alloc o) B (rIns (.slice (some ⟨lg, 0, none⟩) (st.code.length + 1) lcap) (st.code ++ [⟨xk, xo, xa, xb, xc, xz⟩])) (rStr u8 (st.frm.map (·.2))) (rInt u9 (st.frm.map (·.1))) (rStr u10 (st.tab.map (·.1))) (rInt u11 (st.tab.map (·.2)))) := fun o => P5.below HD5a.out ((Below.refl _ _).alloc (Nat.le_refl _) o)
                  have HBA : Hid (∀ o, Below B w1 (w5.alloc o)) := fun o => HB5.out.alloc hbs5 o
                  go_wp2_with (at_builtin; refine wpList_append_own_at _ rfl _ _ 47 rfl B 9 i0 (.string ⟨#[]⟩) 1 16 Tryd.underlying47 hi hz0 hz1 hz2 rfl (by decide) _ _ _ rfl (HSA.out _) ⟨w5.heap.size, 0, none⟩ 1 1 [.string ⟨nm.toArray⟩] rfl rfl ?e1q4 (strs_one [⟨nm.toArray⟩]) ?e3q4 ?e4q4 ?e5q4 ?_)
                  try case e1q4 => exact one_new _ _ _
                  case e3q4 => unfold maxLen; first | omega | (simp; omega)
                  case e4q4 => first | omega | (simp; omega)
                  case e5q4 => first | omega | (simp; omega)
                  intro v6 w6 hown' hgrow hnil hloc
                  have HB6 : Hid (Below B w1 w6) := (HBA.out _).grown hgrow (by simp; omega) (fun k hk => (HD5a.out.hb.lt k hk).1)
                  have HD6 : Hid (P5 w6 B (rIns (.slice (some ⟨lg, 0, none⟩) (st.code.length + 1) lcap) (st.code ++ [⟨xk, xo, xa, xb, xc, xz⟩])) (rStr v6 (st.frm.map (·.2) ++ [nm])) (rInt u9 (st.frm.map (·.1))) (rStr u10 (st.tab.map (·.1))) (rInt u11 (st.tab.map (·.2)))) :=
                    P5.two (HPB.out _) hgrow (rStr_snoc (by simpa using hown')) (by
                      rcases hloc with e | e
                      · exact Or.inl e
                      · exact Or.inr ⟨_, e, by simp⟩)
                  have hbs6 : B ≤ w6.heap.size := Nat.le_trans hbs5 (Nat.le_trans (by simp) hgrow.size)
                  clear hown' hgrow hnil hloc HSA HPB HBA
                  have HSA : Hid (∀ o, (w6.alloc o).ownsRow B 3 1 u9 (st.frm.map (·.1)).length ((st.frm.map (·.1)).map fun x => Value.int .i64 x)) := fun o => World.ownsRow.alloc HD6.out.hc o
                  have HPB : Hid (∀ o, P5 (w6.alloc o) B (rIns (.slice (some ⟨lg, 0, none⟩) (st.code.length + 1) lcap) (st.code ++ [⟨xk, xo, xa, xb, xc, xz⟩])) (rStr v6 (st.frm.map (·.2) ++ [nm])) (rInt u9 (st.frm.map (·.1))) (rStr u10 (st.tab.map (·.1))) (rInt u11 (st.tab.map (·.2)))) := fun o => P5.below HD6.out ((Below.refl _ _).alloc (Nat.le_refl _) o)
                  have HBA : Hid (∀ o, Below B w1 (w6.alloc o)) := fun o => HB6.out.alloc hbs6 o
                  go_wp2_with (at_builtin; refine wpList_append_own_at _ rfl _ _ 64 rfl B 3 i3 (.int .i64 0) 1 8 Tryd.underlying64 hi3 hy0 hy1 hy2 rfl (by decide) _ _ _ rfl (HSA.out _) ⟨w6.heap.size, 0, none⟩ 1 1 [.int .i64 ((k : Int) + 1)] rfl rfl ?f1q5 (by intro u hu; rw [List.mem_singleton.1 hu]; rfl) ?f3q5 ?f4q5 ?f5q5 ?_)
                  try case f1q5 => exact one_new _ _ _
                  case f3q5 => unfold maxLen; first | omega | (simp; omega)
                  case f4q5 => first | omega | (simp; omega)
                  case f5q5 => first | omega | (simp; omega)
                  intro v7 w7 hown' hgrow hnil hloc
                  have HB7 : Hid (Below B w1 w7) := (HBA.out _).grown hgrow (by simp; omega) (fun k hk => (HD6.out.hc.lt k hk).1)
                  have HD7 : Hid (D5 w7 B (.slice (some ⟨lg, 0, none⟩) (st.code.length + 1) lcap) v6 v7 u10 u11 ⟨st.code ++ [⟨xk, xo, xa, xb, xc, xz⟩], st.frm ++ [((k : Int) + 1, nm)], st.tab⟩) := by
                    have h := P5.three (c' := rInt v7 (st.frm.map (·.1) ++ [(k : Int) + 1])) (HPB.out _) hgrow (rInt_snoc (by simpa using hown')) (by
                      rcases hloc with e | e
                      · exact Or.inl e
                      · exact Or.inr ⟨_, e, by simp⟩)
                    show P5 _ _ _ _ _ _ _
                    simpa using h
                  have hbs7 : B ≤ w7.heap.size := Nat.le_trans hbs6 (Nat.le_trans (by simp) hgrow.size)
                  clear hown' hgrow hnil hloc HSA HPB HBA
                  go_wp2
                  go_roundw
                  case rel => exact QI1.mk (k + 1) ⟨st.code ++ [⟨xk, xo, xa, xb, xc, xz⟩], st.frm ++ [((k : Int) + 1, nm)], st.tab⟩ (some ⟨lg, 0, none⟩) lcap (by omega) (by go_num) (by simp) HG3.out HR3.out HD7.out HB7.out hbs7
                  case measure => simp [intOf]; omega
                · have e1m : ((M : Int) == 1) = false := by rw [beq_eq_false_iff_ne]; omega
                  go_upto_region 25 with (go_at_call 29; refine HRD.out.mono ?_; rintro e w3 ⟨⟨y2, rfl, hy⟩, hb3⟩; obtain rfl : y = y2 := (hy y rfl).symm; have HB3 : Hid (Below w2.heap.size w2 w3) := hb3; unfold yv iv; clear hb3 hy)
                  have HD3 : Hid (D5 w3 B (.slice la st.code.length lc) u8 u9 u10 u11 st) := P5.below HD2.out HB3.out
                  have HBW3 : Hid (Below B w1 w3) := HB2.out.trans (HB3.out.mono hbs2)
                  have hbs3 : B ≤ w3.heap.size := Nat.le_trans hbs2 HB3.out.size
                  obtain ⟨⟨xk, xo, xa, xb, xc, xz⟩, nm⟩ := y
                  dsimp only at HR3 HG3 ⊢
                  obtain ⟨W4, hW4⟩ : ∃ W4, w3.alloc (Obj.cells #[Value.int .i64 xk, Value.int .i64 xo, Value.int .i64 xa, Value.int .i64 xb, Value.int .i64 xc, Value.int .i64 xz] 25) = W4 := ⟨_, rfl⟩
                  have hX4 : W4.heap[w3.heap.size]? = some (.cells #[Value.int .i64 xk, Value.int .i64 xo, Value.int .i64 xa, Value.int .i64 xb, Value.int .i64 xc, Value.int .i64 xz] 25) := by rw [← hW4]; exact heap_alloc_new w3 _
                  have hb34 : Below w3.heap.size w3 W4 := by rw [← hW4]; exact (Below.refl _ _).alloc (Nat.le_refl _) _
                  have HD4 : Hid (D5 W4 B (.slice la st.code.length lc) u8 u9 u10 u11 st) := P5.below HD3.out hb34
                  have HBW4 : Hid (Below B w1 W4) := HBW3.out.trans (hb34.mono hbs3)
                  have hbs4 : B ≤ W4.heap.size := Nat.le_trans hbs3 hb34.size
                  have x0 : W4.cell? ⟨w3.heap.size, 0, none⟩ = some (.int .i64 xk) := (cell_of_row W4 _ 0 _ _ _ hX4).trans rfl
                  have x1 : W4.cell? ⟨w3.heap.size, 1, none⟩ = some (.int .i64 xo) := (cell_of_row W4 _ 1 _ _ _ hX4).trans rfl
                  have x2 : W4.cell? ⟨w3.heap.size, 2, none⟩ = some (.int .i64 xa) := (cell_of_row W4 _ 2 _ _ _ hX4).trans rfl
                  have x3 : W4.cell? ⟨w3.heap.size, 3, none⟩ = some (.int .i64 xb) := (cell_of_row W4 _ 3 _ _ _ hX4).trans rfl
                  have x4 : W4.cell? ⟨w3.heap.size, 4, none⟩ = some (.int .i64 xc) := (cell_of_row W4 _ 4 _ _ _ hX4).trans rfl
                  have x5 : W4.cell? ⟨w3.heap.size, 5, none⟩ = some (.int .i64 xz) := (cell_of_row W4 _ 5 _ _ _ hX4).trans rfl
                  rw [hW4]
                  clear hW4 hX4 hb34
                  have HSA : Hid (∀ o, (W4.alloc o).ownsRow B 25 6 (.slice la st.code.length lc) st.code.length (ics st.code)) := fun o => World.ownsRow.alloc HD4.out.ha o
                  have HPB : Hid (∀ o, D5 (W4.alloc o) B (.slice la st.code.length lc) u8 u9 u10 u11 st) := fun o => P5.below HD4.out ((Below.refl _ _).alloc (Nat.le_refl _) o)
                  have HBA : Hid (∀ o, Below B w1 (W4.alloc o)) := fun o => HBW4.out.alloc hbs4 o
                  go_wp2_with (at_builtin; refine wpList_append_own_at _ rfl _ _ 31 rfl B 25 i25 _ 6 48 Tryd.underlying31 hi25 hx0 hx1 hx2 rfl (by decide) _ _ _ rfl (HSA.out _) ⟨W4.heap.size, 0, none⟩ 1 1 (ics [⟨xk, xo, xa, xb, xc, xz⟩]) rfl rfl ?d1q6 (ic_one _) ?d3q6 ?d4q6 ?d5q6 ?_)
                  case d1q6 => exact row_at (l := ics [⟨xk, xo, xa, xb, xc, xz⟩]) (heap_alloc_new W4 _)
                  case d3q6 => unfold maxLen; first | omega | (simp; omega)
                  case d4q6 => first | omega | (simp; omega)
                  case d5q6 => first | omega | (simp; omega)
                  intro v' w5 hown' hgrow hnil hloc
                  obtain ⟨lg, lcap, rfl⟩ := own_form hown'
                  have HB5 : Hid (Below B w1 w5) := (HBA.out _).grown hgrow (by simp; omega) (fun k hk => (HD4.out.ha.lt k hk).1)
                  have HD5a : Hid (P5 w5 B (rIns (.slice (some ⟨lg, 0, none⟩) (st.code.length + 1) lcap) (st.code ++ [⟨xk, xo, xa, xb, xc, xz⟩])) (rStr u8 (st.frm.map (·.2))) (rInt u9 (st.frm.map (·.1))) (rStr u10 (st.tab.map (·.1))) (rInt u11 (st.tab.map (·.2)))) :=
                    P5.one (HPB.out _) hgrow (rIns_snoc (by simpa using hown')) (by
                      rcases hloc with e | e
                      · exact Or.inl e
                      · exact Or.inr ⟨_, e, by simp⟩)
                  have hbs5 : B ≤ w5.heap.size := Nat.le_trans hbs4 (Nat.le_trans (by simp) hgrow.size)
                  clear hown' hgrow hnil hloc HSA HPB HBA
                  have HSA : Hid (∀ o, (w5.alloc o).ownsRow B 9 1 u8 (st.frm.map (·.2)).length ((st.frm.map (·.2)).map fun x => Value.string ⟨x.toArray⟩)) := fun o => World.ownsRow.alloc HD5a.out.hb o
                  have HPB : Hid (∀ o, P5 (w5.alloc o) B (rIns (.slice (some ⟨lg, 0, none⟩) (st.code.length + 1) lcap) (st.code ++ [⟨xk, xo, xa, xb, xc, xz⟩])) (rStr u8 (st.frm.map (·.2))) (rInt u9 (st.frm.map (·.1))) (rStr u10 (st.tab.map (·.1))) (rInt u11 (st.tab.map (·.2)))) := fun o => P5.below HD5a.out ((Below.refl _ _).alloc (Nat.le_refl _) o)
                  have HBA : Hid (∀ o, Below B w1 (w5.alloc o)) := fun o => HB5.out.alloc hbs5 o
                  go_wp2_with (at_builtin; refine wpList_append_own_at _ rfl _ _ 47 rfl B 9 i0 (.string ⟨#[]⟩) 1 16 Tryd.underlying47 hi hz0 hz1 hz2 rfl (by decide) _ _ _ rfl (HSA.out _) ⟨w5.heap.size, 0, none⟩ 1 1 [.string ⟨nm.toArray⟩] rfl rfl ?e1q7 (strs_one [⟨nm.toArray⟩]) ?e3q7 ?e4q7 ?e5q7 ?_)
                  try case e1q7 => exact one_new _ _ _
                  case e3q7 => unfold maxLen; first | omega | (simp; omega)
                  case e4q7 => first | omega | (simp; omega)
                  case e5q7 => first | omega | (simp; omega)
                  intro v6 w6 hown' hgrow hnil hloc
                  have HB6 : Hid (Below B w1 w6) := (HBA.out _).grown hgrow (by simp; omega) (fun k hk => (HD5a.out.hb.lt k hk).1)
                  have HD6 : Hid (P5 w6 B (rIns (.slice (some ⟨lg, 0, none⟩) (st.code.length + 1) lcap) (st.code ++ [⟨xk, xo, xa, xb, xc, xz⟩])) (rStr v6 (st.frm.map (·.2) ++ [nm])) (rInt u9 (st.frm.map (·.1))) (rStr u10 (st.tab.map (·.1))) (rInt u11 (st.tab.map (·.2)))) :=
                    P5.two (HPB.out _) hgrow (rStr_snoc (by simpa using hown')) (by
                      rcases hloc with e | e
                      · exact Or.inl e
                      · exact Or.inr ⟨_, e, by simp⟩)
                  have hbs6 : B ≤ w6.heap.size := Nat.le_trans hbs5 (Nat.le_trans (by simp) hgrow.size)
                  clear hown' hgrow hnil hloc HSA HPB HBA
                  have HSA : Hid (∀ o, (w6.alloc o).ownsRow B 3 1 u9 (st.frm.map (·.1)).length ((st.frm.map (·.1)).map fun x => Value.int .i64 x)) := fun o => World.ownsRow.alloc HD6.out.hc o
                  have HPB : Hid (∀ o, P5 (w6.alloc o) B (rIns (.slice (some ⟨lg, 0, none⟩) (st.code.length + 1) lcap) (st.code ++ [⟨xk, xo, xa, xb, xc, xz⟩])) (rStr v6 (st.frm.map (·.2) ++ [nm])) (rInt u9 (st.frm.map (·.1))) (rStr u10 (st.tab.map (·.1))) (rInt u11 (st.tab.map (·.2)))) := fun o => P5.below HD6.out ((Below.refl _ _).alloc (Nat.le_refl _) o)
                  have HBA : Hid (∀ o, Below B w1 (w6.alloc o)) := fun o => HB6.out.alloc hbs6 o
                  go_wp2_with (at_builtin; refine wpList_append_own_at _ rfl _ _ 64 rfl B 3 i3 (.int .i64 0) 1 8 Tryd.underlying64 hi3 hy0 hy1 hy2 rfl (by decide) _ _ _ rfl (HSA.out _) ⟨w6.heap.size, 0, none⟩ 1 1 [.int .i64 ((k : Int) + 1)] rfl rfl ?f1q8 (by intro u hu; rw [List.mem_singleton.1 hu]; rfl) ?f3q8 ?f4q8 ?f5q8 ?_)
                  try case f1q8 => exact one_new _ _ _
                  case f3q8 => unfold maxLen; first | omega | (simp; omega)
                  case f4q8 => first | omega | (simp; omega)
                  case f5q8 => first | omega | (simp; omega)
                  intro v7 w7 hown' hgrow hnil hloc
                  have HB7 : Hid (Below B w1 w7) := (HBA.out _).grown hgrow (by simp; omega) (fun k hk => (HD6.out.hc.lt k hk).1)
                  have HD7 : Hid (D5 w7 B (.slice (some ⟨lg, 0, none⟩) (st.code.length + 1) lcap) v6 v7 u10 u11 ⟨st.code ++ [⟨xk, xo, xa, xb, xc, xz⟩], st.frm ++ [((k : Int) + 1, nm)], st.tab⟩) := by
                    have h := P5.three (c' := rInt v7 (st.frm.map (·.1) ++ [(k : Int) + 1])) (HPB.out _) hgrow (rInt_snoc (by simpa using hown')) (by
                      rcases hloc with e | e
                      · exact Or.inl e
                      · exact Or.inr ⟨_, e, by simp⟩)
                    show P5 _ _ _ _ _ _ _
                    simpa using h
                  have hbs7 : B ≤ w7.heap.size := Nat.le_trans hbs6 (Nat.le_trans (by simp) hgrow.size)
                  clear hown' hgrow hnil hloc HSA HPB HBA
                  go_wp2
                  go_roundw
                  case rel => exact QI1.mk (k + 1) ⟨st.code ++ [⟨xk, xo, xa, xb, xc, xz⟩], st.frm ++ [((k : Int) + 1, nm)], st.tab⟩ (some ⟨lg, 0, none⟩) lcap (by omega) (by go_num) (by simp) HG3.out HR3.out HD7.out HB7.out hbs7
                  case measure => simp [intOf]; omega
      · have hkN : k = N := by omega
        subst hkN
        have e13 : decide ((k : Int) < (k : Int)) = false := by simp
        have hdr : (L.map (·.data.toList)).drop k = [] := List.drop_of_length_le (by rw [List.length_map, HN.out]; exact Nat.le_refl _)
        have HR3 : Hid (res = afterAim st.frm cells (aimL st.tab st.code st.frm)) := by have := HR.out; rw [hdr] at this; exact this
        obtain ⟨code, frm, tab⟩ := st
        obtain ⟨out, hout⟩ : ∃ o, aimL tab code frm = o := ⟨_, rfl⟩
        have HOUT : Hid (aimL tab code frm = out) := hout
        have HRO : Hid (res = afterAim frm cells out) := by rw [← hout]; exact HR3.out
        have hgl : code.length = frm.length := HG.out.len
        have hgc : code.length ≤ k := HG.out.code
        have hgt : tab.length ≤ k := HG.out.tab
        have HLB : Hid (∀ o ∈ frm, o.2.length ≤ 8192) := HG.out.lab
        obtain ⟨n, hn⟩ : ∃ n, code.length = n := ⟨_, rfl⟩
        have HNC : Hid (code.length = n) := hn
        have HNF : Hid (frm.length = n) := hgl.symm.trans hn
        have HB0 : Hid (∀ W, Below B w1 W → Below w.heap.size w W) := fun W h => HB1.out.trans (h.mono (by rw [← HBE.out]; exact HB1.out.size))
        have HWB : Hid (w.heap.size ≤ B) := by show _ ≤ _; rw [← HBE.out]; exact HB1.out.size
        dsimp only at HD
        rw [hn] at HD hgc ⊢
        obtain ⟨f8, c8, h8⟩ := HD.out.hb.form
        obtain ⟨f9, c9, h9⟩ := HD.out.hc.form
        have e8 : (rStr u8 (frm.map (·.2))).n = n := by show (frm.map _).length = n; rw [List.length_map]; exact HNF.out
        have e9 : (rInt u9 (frm.map (·.1))).n = n := by show (frm.map _).length = n; rw [List.length_map]; exact HNF.out
        rw [e8] at h8
        rw [e9] at h9
        replace h8 : u8 = .slice f8 n c8 := h8
        replace h9 : u9 = .slice f9 n c9 := h9
        subst h8 h9
        clear HR HR3 hdr hout HG hgl hn e8 e9 hlt
        go_wp2_with fail
        rename World => wq
        have hcl1 : n ≤ 100000 := by omega
        go_loopw [19] (fun i wr => QI2 w1 B n code frm tab out (.slice la n lc) (.slice f8 n c8) (.slice f9 n c9) u10 u11 i wr) (fun i _ => n - (intOf i).toNat)
        case atStart => exact QI2.mk 0 [] (Nat.zero_le _) rfl rfl (by rw [← HOUT.out]; show preA [] (aimL tab code frm) = _; cases aimL tab code frm <;> rfl) HD.out HB.out hbs
        case round =>
          obtain ⟨q, D, hq, rfl, hDl, hpre, hd, hb, hbs2⟩ := hrel
          have HDL : Hid (D.length = q) := hDl
          have HPR : Hid (preA D (aimL tab (code.drop q) (frm.drop q)) = out) := hpre
          have HD2 : Hid (D5 wr B (.slice la n lc) (.slice f8 n c8) (.slice f9 n c9) u10 u11 ⟨D ++ code.drop q, frm, tab⟩) := hd
          have HB2 : Hid (Below B w1 wr) := hb
          clear hDl hpre hd hb HD HB hbs
          by_cases hlt : q < n
          · have hkc : q < code.length := by rw [HNC.out]; exact hlt
            have hkf : q < frm.length := by rw [HNF.out]; exact hlt
            obtain ⟨x, hx⟩ : ∃ x, code[q] = x := ⟨_, rfl⟩
            obtain ⟨o, ho⟩ : ∃ o, frm[q] = o := ⟨_, rfl⟩
            have dC : code.drop q = x :: code.drop (q + 1) := by rw [List.drop_eq_getElem_cons hkc, hx]
            have dF : frm.drop q = o :: frm.drop (q + 1) := by rw [List.drop_eq_getElem_cons hkf, ho]
            have hol : o.2.length ≤ 8192 := HLB.out o (by rw [← ho]; exact List.getElem_mem _)
            have HP2 : Hid _ := HPR.out
            rw [dC, dF, aimL_cons] at HP2
            have HD3 : Hid (D5 wr B (.slice la n lc) (.slice f8 n c8) (.slice f9 n c9) u10 u11 ⟨D ++ x :: code.drop (q + 1), frm, tab⟩) := by have := HD2.out; rw [dC] at this; exact this
            obtain ⟨g8, cc8, hv8, hn8, hx8, hl8⟩ := HD3.out.hb.some (by show 0 < (frm.map (·.2)).length; rw [List.length_map, HNF.out]; omega)
            replace hv8 : Value.slice f8 n c8 = .slice (some ⟨g8, 0, none⟩) (frm.map (·.2)).length cc8 := hv8
            injection hv8 with hv8 hvn8 hv8c
            clear hvn8
            subst hv8 hv8c
            replace hn8 : (frm.map (·.2)).length ≤ c8 := hn8
            rw [List.length_map, HNF.out] at hn8
            have q8 : wr.cell? ⟨g8, q, none⟩ = some (.string ⟨o.2.toArray⟩) := by
              have := rStr_at HD3.out.hb q (by show q < (frm.map (·.2)).length; rw [List.length_map]; exact hkf)
              rw [List.getElem_map, ho] at this
              exact this
            have e1 : decide ((q : Int) < (n : Int)) = true := by simp; omega
            unfold maxLen at hx8
            obtain ⟨ln, lb⟩ := o
            dsimp only at q8 hol HP2
            rcases lb with _ | ⟨b, lt⟩
            · have HP3 : Hid (preA (D ++ [x]) (aimL tab (code.drop (q + 1)) (frm.drop (q + 1))) = out) := by have := HP2.out; rw [if_pos rfl, preA_preA] at this; exact this
              have HD4 : Hid (D5 wr B (.slice la n lc) (.slice (some ⟨g8, 0, none⟩) n c8) (.slice f9 n c9) u10 u11 ⟨(D ++ [x]) ++ code.drop (q + 1), frm, tab⟩) := by rw [List.append_assoc]; exact HD3.out
              have HDL2 : Hid ((D ++ [x]).length = q + 1) := by show _ = _; rw [List.length_append, HDL.out]; rfl
              replace q8 : wr.cell? ⟨g8, q, none⟩ = some (.string ⟨#[]⟩) := q8
              clear HP2 HPR HD2 HD3 dC dF hx ho
              go_wp2_with fail
              go_roundw
              case rel => exact QI2.mk (q + 1) (D ++ [x]) (by omega) (by go_num) HDL2.out HP3.out HD4.out HB2.out hbs2
              case measure => simp [intOf]; omega
            · obtain ⟨S, hS⟩ : ∃ S : ByteArray, ⟨(b :: lt).toArray⟩ = S := ⟨_, rfl⟩
              have hSl : S.data.toList = b :: lt := by rw [← hS]
              have hem : S.toList.isEmpty = false := by rw [ByteArray.toList_eq, hSl]; rfl
              rw [hS] at q8
              obtain ⟨g9, cc9, hv9, hn9, hx9, hl9⟩ := HD3.out.hc.some (by show 0 < (frm.map (·.1)).length; rw [List.length_map, HNF.out]; omega)
              replace hv9 : Value.slice f9 n c9 = .slice (some ⟨g9, 0, none⟩) (frm.map (·.1)).length cc9 := hv9
              injection hv9 with hv9 hvn9 hv9c
              clear hvn9
              subst hv9 hv9c
              replace hn9 : (frm.map (·.1)).length ≤ c9 := hn9
              rw [List.length_map, HNF.out] at hn9
              have q9 : wr.cell? ⟨g9, q, none⟩ = some (.int .i64 ln) := by
                have := rInt_at HD3.out.hc q (by show q < (frm.map (·.1)).length; rw [List.length_map]; exact hkf)
                rw [List.getElem_map, ho] at this
                exact this
              unfold maxLen at hx9
              have HLK := find_link S tab 0
              obtain ⟨fi, hfi⟩ : ∃ x, findI S (tab.map fun x => bs x.1) 0 = x := ⟨_, rfl⟩
              have C28 : Hid (∀ W, Strs W B u10 (tab.map fun x => bs x.1) → Calls Tryd.prog 28 #[u10, .string S] W fun e w' => e = .returned (.int .i64 fi) ∧ ∃ m, w' = W.drewN m) := fun W hW => by rw [← hfi]; exact rfind_any B u10 _ S (by simp; omega) W hW
              have HTB : Hid (Strs wr B u10 (tab.map fun x => bs x.1)) := by have := rStr_strs HD3.out.hd; rw [List.map_map] at this; exact this
              rw [hfi] at HLK
              rcases HLK with ⟨hn2, hf1⟩ | ⟨j, hj, hn2, hf1⟩
              · have HO : Hid (res = ([], ln, 91)) := by
                  have h1 := HP2.out
                  rw [hSl] at hn2
                  rw [if_neg (by simp), hn2] at h1
                  show _ = _
                  rw [HRO.out, ← h1]
                  rfl
                have hf0 : decide (fi < 0) = true := by simp; omega
                clear HP2 HPR HD2 dC dF hx ho hfi hf1 hn2 hS hSl
                go_upto_region 34 with (go_at_call 28; refine (C28.out _ HTB.out).mono ?_; rintro e w' ⟨rfl, m, rfl⟩)
                obtain ⟨W3, hW3⟩ : ∃ W3, wr.drewN m = W3 := ⟨_, rfl⟩
                have p9 : W3.cell? ⟨g9, q, none⟩ = some (.int .i64 ln) := by rw [← hW3]; exact q9
                have HB3 : Hid (Below B w1 W3) := by rw [← hW3]; exact below_drewN HB2.out m
                rw [hW3]
                clear hW3 q9 q8
                go_region_held3 (fun w' => w'.cell? ⟨g9, q, none⟩ = some (.int .i64 ln)) (go_keep) (fail)
                go_wp2_with fail
                first | (rw [HPOST.out, HO.out]; exact ParseP.nil _ _ (HB0.out _ HB3.out.drew)) | (go_ret3; rw [HPOST.out, HO.out]; exact ParseP.nil _ _ (HB0.out _ HB3.out.drew))
              · obtain ⟨g1, cc1, hv1, hn1, hx1, hl1⟩ := HD3.out.he.some (by show 0 < (tab.map (·.2)).length; rw [List.length_map]; omega)
                replace hv1 : u11 = .slice (some ⟨g1, 0, none⟩) (tab.map (·.2)).length cc1 := hv1
                rw [List.length_map] at hv1
                replace hn1 : (tab.map (·.2)).length ≤ cc1 := hn1
                rw [List.length_map] at hn1
                obtain ⟨tl, htl⟩ : ∃ tl, tab.length = tl := ⟨_, rfl⟩
                have HTL : Hid (tab.length = tl) := htl
                rw [htl] at hv1 hn1 hj hgt
                subst hv1
                have q1 : wr.cell? ⟨g1, j, none⟩ = some (.int .i64 tab[j].2) := by
                  have := rInt_at HD3.out.he j (by show j < (tab.map (·.2)).length; rw [List.length_map, htl]; exact hj)
                  rw [List.getElem_map] at this
                  exact this
                obtain ⟨p, hp⟩ : ∃ p, (tab[j]'(by rw [htl]; exact hj)).2 = p := ⟨_, rfl⟩
                rw [hp] at q1 hn2
                unfold maxLen at hx1
                have HP3 : Hid (preA (D ++ [{ x with k := p }]) (aimL tab (code.drop (q + 1)) (frm.drop (q + 1))) = out) := by
                  have h1 := HP2.out
                  rw [hSl] at hn2
                  rw [if_neg (by simp), hn2, preA_preA] at h1
                  exact h1
                obtain ⟨lg, lcc, hvl, hnl, hxl, hll⟩ := HD3.out.ha.some (by show 0 < (D ++ x :: code.drop (q + 1)).length; simp; omega)
                replace hvl : Value.slice la n lc = .slice (some ⟨lg, 0, none⟩) (D ++ x :: code.drop (q + 1)).length lcc := hvl
                injection hvl with hvl hvnl hvlc
                replace hnl : (D ++ x :: code.drop (q + 1)).length ≤ lcc := hnl
                rw [← hvnl] at hnl
                clear hvnl
                subst hvl hvlc
                unfold maxLen at hxl
                have HKD : Hid (∀ W, D5 W B (.slice (some ⟨lg, 0, none⟩) n lc) (.slice (some ⟨g8, 0, none⟩) n c8) (.slice (some ⟨g9, 0, none⟩) n c9) u10 (.slice (some ⟨g1, 0, none⟩) tl cc1) ⟨D ++ x :: code.drop (q + 1), frm, tab⟩ → D5 (W.setCell ⟨lg, q * 6 + 5, none⟩ (.int .i64 p)) B (.slice (some ⟨lg, 0, none⟩) n lc) (.slice (some ⟨g8, 0, none⟩) n c8) (.slice (some ⟨g9, 0, none⟩) n c9) u10 (.slice (some ⟨g1, 0, none⟩) tl cc1) ⟨(D ++ [{ x with k := p }]) ++ code.drop (q + 1), frm, tab⟩) := fun W hW => by
                  have hk := P5.setK hW p
                  rw [HDL.out] at hk
                  rw [List.append_assoc]
                  exact hk
                obtain ⟨⟨ok, hok⟩, hofz⟩ := code_at HD3.out.ha q (by show q < (D ++ x :: code.drop (q + 1)).length; rw [List.length_append, HDL.out]; simp)
                have HLG : Hid (B ≤ lg) := (HD3.out.ha.lt lg rfl).1
                have HDL2 : Hid ((D ++ [{ x with k := p }]).length = q + 1) := by show _ = _; rw [List.length_append, HDL.out]; rfl
                have hf0 : decide (fi < 0) = false := by simp; omega
                have hfj : fi = (j : Int) := by rw [hf1]; simp
                subst hfj
                clear HP2 HPR HD2 dC dF hx ho hfi hf1 hn2 hS hSl hp htl q9
                go_upto_region 35 with (go_at_call 28; refine (C28.out _ HTB.out).mono ?_; rintro e w' ⟨rfl, m, rfl⟩)
                obtain ⟨W3, hW3⟩ : ∃ W3, wr.drewN m = W3 := ⟨_, rfl⟩
                have hbw : Below wr.heap.size wr W3 := by rw [← hW3]; exact below_drewN (Below.refl _ _) m
                have p1 : W3.cell? ⟨g1, j, none⟩ = some (.int .i64 p) := by rw [← hW3]; exact q1
                have p2 : W3.cell? ⟨lg, q * 6 + 5, none⟩ = some (.int .i64 ok) := by rw [← hW3]; exact hok
                have p3 : W3.frozen? ⟨lg, q * 6 + 5, none⟩ = false := by rw [← hW3]; exact hofz
                have HB3 : Hid (Below B w1 (W3.setCell ⟨lg, q * 6 + 5, none⟩ (.int .i64 p))) := by
                  have h := HB2.out
                  have h2 : Below B w1 W3 := by rw [← hW3]; exact below_drewN h m
                  have hlg := HLG.out
                  exact ⟨h2.os, h2.tape, h2.output, by simpa [World.setCell] using h2.size, fun k hk => (Below.heap_setCell _ _ _ _ (by show k ≠ lg; omega)).trans (h2.block k hk)⟩
                have HD5 : Hid (D5 (W3.setCell ⟨lg, q * 6 + 5, none⟩ (.int .i64 p)) B (.slice (some ⟨lg, 0, none⟩) n lc) (.slice (some ⟨g8, 0, none⟩) n c8) (.slice (some ⟨g9, 0, none⟩) n c9) u10 (.slice (some ⟨g1, 0, none⟩) tl cc1) ⟨(D ++ [{ x with k := p }]) ++ code.drop (q + 1), frm, tab⟩) := HKD.out W3 (P5.below HD3.out hbw)
                have hbs3 : B ≤ (W3.setCell ⟨lg, q * 6 + 5, none⟩ (.int .i64 p)).heap.size := by have := hbw.size; simp [World.setCell]; omega
                rw [hW3]
                clear hW3 q1 q8 hok hofz HKD HD3 hbw
                go_wp2_with fail
                go_roundw
                case rel => exact QI2.mk (q + 1) _ (by omega) (by go_num) HDL2.out HP3.out HD5.out HB3.out hbs3
                case measure => simp [intOf]; omega
          · have hqn : q = n := by omega
            subst hqn
            have e1 : decide ((q : Int) < (q : Int)) = false := by simp
            have hc0 : code.drop q = [] := List.drop_of_length_le (by rw [HNC.out]; exact Nat.le_refl _)
            have hf0 : frm.drop q = [] := List.drop_of_length_le (by rw [HNF.out]; exact Nat.le_refl _)
            have hO : out = .inr D := by
              have := HPR.out
              rw [hc0, hf0] at this
              rw [← this]
              show Sum.inr (D ++ []) = _
              rw [List.append_nil]
            have HRD : Hid (res = afterAim frm cells (.inr D)) := by have := HRO.out; rw [hO] at this; exact this
            have HDD : Hid (D5 wr B (.slice la q lc) (.slice f8 q c8) (.slice f9 q c9) u10 u11 ⟨D, frm, tab⟩) := by have := HD2.out; rw [hc0, List.append_nil] at this; exact this
            have HIS : Hid (ISl wr (.slice la q lc) D) := IOwn.isl (base := B) HDD.out.ha
            have C30 : Hid (Calls Tryd.prog 30 #[.slice la q lc, .int .i64 cells] wr fun e w' => e = .returned (.tuple #[.int .i64 (checkL D cells).1, .int .i64 (checkL D cells).2]) ∧ Below wr.heap.size wr w') := refCheck_any D cells _ wr HIS.out
            have HAT := checkL_at D cells
            obtain ⟨c1, hc1⟩ : ∃ c1, (checkL D cells).1 = c1 := ⟨_, rfl⟩
            obtain ⟨c2, hc2⟩ : ∃ c2, (checkL D cells).2 = c2 := ⟨_, rfl⟩
            have HRE : Hid (res = if c2 = 0 then (D, 0, 0) else if c2 = 80 then ([], 0, 80) else ([], lineAt frm c1, c2)) := by
              have := HRD.out
              unfold afterAim at this
              dsimp only at this
              rw [hc1, hc2] at this
              exact this
            rw [hc1, hc2] at C30 HAT
            clear HRD HPR HD2 hc0 hf0 hO HRO HOUT hc1 hc2
            go_wp2_with fail
            refine C30.out.mono ?_
            rintro e w4 ⟨rfl, hb4⟩
            have HB4 : Hid (Below B w1 w4) := HB2.out.trans (hb4.mono hbs2)
            have HD4 : Hid (D5 w4 B (.slice la q lc) (.slice f8 q c8) (.slice f9 q c9) u10 u11 ⟨D, frm, tab⟩) := P5.below HDD.out hb4
            clear hb4 HDD HIS C30
            by_cases h80 : c2 = 80
            · subst h80
              have HO : Hid (res = ([], 0, 80)) := HRE.out
              go_wp2_with fail
              first | (rw [HPOST.out, HO.out]; exact ParseP.nil _ _ (HB0.out _ HB4.out)) | (go_ret3; rw [HPOST.out, HO.out]; exact ParseP.nil _ _ (HB0.out _ HB4.out))
            · have e80 : (c2 == 80) = false := by simpa using h80
              by_cases h00 : c2 = 0
              · subst h00
                have HO : Hid (res = (D, 0, 0)) := HRE.out
                have HIO : Hid (IOwn w4 w.heap.size (.slice la q lc) D) := IOwn.low (B := B) HD4.out.ha HWB.out
                go_wp2_with fail
                first | (rw [HPOST.out, HO.out]; exact ⟨_, rfl, HIO.out, HB0.out _ HB4.out⟩) | (go_ret3; rw [HPOST.out, HO.out]; exact ⟨_, rfl, HIO.out, HB0.out _ HB4.out⟩)
              · have e00 : (c2 != 0) = true := by simpa using h00
                obtain ⟨i, hi1, hil⟩ := HAT h00 h80
                rw [HDL.out] at hil
                subst hi1
                have HO : Hid (res = ([], lineAt frm (i : Int), c2)) := by have := HRE.out; rw [if_neg h00, if_neg h80] at this; exact this
                obtain ⟨g9, cc9, hv9, hn9, hx9, hl9⟩ := HD4.out.hc.some (by show 0 < (frm.map (·.1)).length; rw [List.length_map, HNF.out]; omega)
                replace hv9 : Value.slice f9 q c9 = .slice (some ⟨g9, 0, none⟩) (frm.map (·.1)).length cc9 := hv9
                injection hv9 with hv9 hvn9 hv9c
                clear hvn9
                subst hv9 hv9c
                replace hn9 : (frm.map (·.1)).length ≤ c9 := hn9
                rw [List.length_map, HNF.out] at hn9
                have hif : i < frm.length := by rw [HNF.out]; exact hil
                have q9 : w4.cell? ⟨g9, i, none⟩ = some (.int .i64 (lineAt frm (i : Int))) := by
                  have := rInt_at HD4.out.hc i (by show i < (frm.map (·.1)).length; rw [List.length_map]; exact hif)
                  rw [List.getElem_map] at this
                  rw [this]
                  unfold lineAt
                  simp [List.getD, hif]
                unfold maxLen at hx9
                generalize lineAt frm (i : Int) = la9 at HO q9
                clear HRE HAT hif hl9
                go_wp2_with fail
                go_region_held3 (fun w' => w'.cell? ⟨g9, i, none⟩ = some (.int .i64 la9)) (go_keep) (fail)
                go_wp2_with fail
                first | (rw [HPOST.out, HO.out]; exact ParseP.nil _ _ (HB0.out _ HB4.out.drew)) | (go_ret3; rw [HPOST.out, HO.out]; exact ParseP.nil _ _ (HB0.out _ HB4.out.drew))
end Go.Proofs.YthcidcfaodjbjabDoor
