/- What asm.Parse answers. -/
import Derived.Test.YthcidcfaodjbjabGreatDoorParP
namespace Go.Proofs.YthcidcfaodjbjabGreatDoor
open Go.RowKit Go.Maps Go.WideMaps
set_option linter.unusedVariables false

set_option maxRecDepth 100000 in
set_option maxHeartbeats 1000000 in
theorem newReader_any (w : World) : Calls Tryz.prog 32 #[] w fun e w' => e = .returned (.pointer (some ⟨w.heap.size + 1, 0, none⟩)) ∧ w' = (w.alloc (.map #[] 0)).alloc (.cells #[.slice none 0 0, .slice none 0 0, .map (some w.heap.size)] 76) := by
  have hmm := @run_makeMap Tryz.prog
  go_enter Tryz.func32, Tryz.ntmps32
  go_wp2
  go_ret
  exact ⟨rfl, rfl⟩
theorem RSt.new (w W : World) (hb : Below (w.heap.size + 1 + 1) ((w.alloc (.map #[] 0)).alloc (.cells #[.slice none 0 0, .slice none 0 0, .map (some w.heap.size)] 76)) W) (base : Nat) (h1 : w.heap.size + 1 + 1 ≤ base) (h2 : base ≤ W.heap.size) :
    RSt W (w.heap.size + 1) w.heap.size base (.slice none 0 0) (.slice none 0 0) ⟨[], [], []⟩ := by
  have o0 : (w.alloc (.map #[] 0)).ownsMap Tryz.prog 9 (plainElem Tryz.prog 3) w.heap.size 0 (.map [] : DataW Unit) := World.ownsMap_made w Tryz.prog 9 _
  have o1 := o0.alloc (.cells #[.slice none 0 0, .slice none 0 0, .map (some w.heap.size)] 76)
  have hr : W.heap[w.heap.size + 1]? = some (.cells #[.slice none 0 0, .slice none 0 0, .map (some w.heap.size)] 76) := by
    rw [hb.block _ (by omega)]
    have := heap_alloc_new (w.alloc (.map #[] 0)) (.cells #[.slice none 0 0, .slice none 0 0, .map (some w.heap.size)] 76)
    rw [show (w.alloc (.map #[] 0)).heap.size = w.heap.size + 1 by simp] at this
    exact this
  exact ⟨(cell_of_row W _ 0 _ _ _ hr).trans rfl, (cell_of_row W _ 1 _ _ _ hr).trans rfl, (cell_of_row W _ 2 _ _ _ hr).trans rfl, frozen_of_row W _ 0 _ _ hr, frozen_of_row W _ 1 _ _ hr, IOwn.nil W base, ⟨rfl, Or.inl ⟨rfl, rfl⟩⟩, ⟨_, ownsMap_keep o1 (hb.block _ (by omega)), rep0⟩, fun k hk => (by cases hk), by omega, by omega, by omega, h2⟩

/-- what becomes of the call -/
def ParseP (w : World) (r : List In × Int × Int) (e : Ending) (w' : World) : Prop :=
  ∃ v, e = .returned (.tuple #[v, .int .i64 r.2.1, .int .i64 r.2.2]) ∧ IOwn w' w.heap.size v r.1 ∧ Below w.heap.size w w'
theorem ParseP.nil {w w' : World} (n e : Int) (hb : Below w.heap.size w w') : ParseP w ([], n, e) (.returned (.tuple #[.slice none 0 0, .int .i64 n, .int .i64 e])) w' := ⟨_, rfl, IOwn.nil _ _, hb⟩

set_option maxRecDepth 100000 in
set_option maxHeartbeats 4000000 in
theorem parse_list (s : ByteArray) (hs : s.size ≤ maxLen) (cells m : Int) (w : World) (hm : w.cell? ⟨0, 0, none⟩ = some (.int .i64 m)) :
    Calls Tryz.prog 19 #[.string s, .int .i64 cells] w (ParseP w (parseA s.data.toList cells)) := by
  have hl : s.data.toList.length = s.size := by simp
  obtain ⟨res, hres⟩ : ∃ r, parseA s.data.toList cells = r := ⟨_, rfl⟩
  have HRES : Hid (parseA s.data.toList cells = res) := hres
  rw [hres]
  obtain ⟨post, hpost⟩ : ∃ p : Ending → World → Prop, p = ParseP w res := ⟨_, rfl⟩
  have HPOST : Hid (post = ParseP w res) := hpost
  rw [← hpost]
  unfold maxLen at hs
  by_cases hlong : 8192 < s.size
  · have HR : Hid (res = ([], 0, 30)) := by show _ = _; rw [← hres]; unfold parseA; rw [if_pos (by omega)]
    clear hres hpost hl hm
    go_enter Tryz.func19, Tryz.ntmps19
    go_wp2
    first | (rw [HPOST.out, HR.out]; exact ParseP.nil _ _ (Below.refl _ _)) | (go_ret3; rw [HPOST.out, HR.out]; exact ParseP.nil _ _ (Below.refl _ _))
  · have HP : Hid (res = afterLines cells (linesR ⟨[], [], []⟩ 1 (linesL s.data.toList))) := by
      show _ = _
      rw [← hres]; unfold parseA; rw [if_neg (by omega)]
    obtain ⟨L, hL⟩ : ∃ L, Lib.splitB ⟨#[10]⟩ 0 (Lib.countB s ⟨#[10]⟩) s = L := ⟨_, rfl⟩
    have hLl : L.length = Lib.countB s ⟨#[10]⟩ + 1 := by rw [← hL]; exact Lib.splitB_all _ (by decide) 0 _ s rfl
    have HLL : Hid (L.map (·.data.toList) = linesL s.data.toList) := by show _ = _; rw [← hL]; exact split_lines s
    have HLN : Hid (L.length ≤ 8193 ∧ ∀ i (h : i < L.length), L[i].size ≤ 8192) := by
      obtain ⟨a1, a2⟩ := linesL_len s.data.toList
      rw [← HLL.out] at a1 a2
      rw [List.length_map] at a1
      refine ⟨by omega, fun i hi => ?_⟩
      have := a2 L[i].data.toList (List.mem_map.2 ⟨L[i], List.getElem_mem _, rfl⟩)
      have h5 : L[i].data.toList.length = L[i].size := by simp
      omega
    have hm0 : 0 < w.heap.size := World.block_lt_of_cell? w ⟨0, 0, none⟩ hm
    have HSP : Hid (∀ W, W.cell? ⟨0, 0, none⟩ = some (.int .i64 m) → Calls Tryz.prog 33 #[.string s, .string ⟨#[10]⟩] W fun e w' => e = .returned (.slice (some ⟨W.heap.size, 0, none⟩) L.length L.length) ∧ w' = W.alloc (.cells (L.map Value.string).toArray 9)) := by
      intro W hW
      have := Tryz.strings_Split s ⟨#[10]⟩ m W (by omega) hW (by decide)
      rw [hL, ← hLl] at this
      exact this
    obtain ⟨N, hN⟩ : ∃ N, L.length = N := ⟨_, rfl⟩
    have HN : Hid (L.length = N) := hN
    have hN5 : N ≤ 8193 := by rw [← hN]; exact HLN.out.1
    rw [hN] at HSP
    clear hres hpost hl hL hLl hN
    go_enter Tryz.func19, Tryz.ntmps19
    go_wp2_with (first | (go_at_call 32; refine (newReader_any _).mono ?_; rintro e w1 ⟨rfl, hw1⟩; have HW1 : Hid _ := hw1; have hz1 : w1.cell? ⟨0, 0, none⟩ = some (.int .i64 m) := (by rw [hw1]; exact (below2 w _ _).cell (p := ⟨0, 0, none⟩) hm0 |>.trans hm); have hs1 : w1.heap.size = w.heap.size + 1 + 1 := (by rw [hw1]; simp); clear hw1) | (go_at_call 33; refine (HSP.out w1 hz1).mono ?_; rintro e w2 ⟨rfl, hw2⟩; have HW2 : Hid _ := hw2; clear hw2))
    have hs2 : w2.heap.size = w.heap.size + 1 + 1 + 1 := by rw [HW2.out]; simp [hs1]
    have hb2 : Below (w.heap.size + 1 + 1) w1 w2 := by rw [HW2.out]; exact (Below.refl _ _).alloc (by omega) _
    have HB2 : Hid (Below w.heap.size w w2) := by
      have h1 : Below w.heap.size w w1 := by rw [HW1.out]; exact below2 w _ _
      exact h1.trans (hb2.mono (by omega))
    have HR0 : Hid (RSt w2 (w.heap.size + 1) w.heap.size (w.heap.size + 1 + 1 + 1) (.slice none 0 0) (.slice none 0 0) ⟨[], [], []⟩) := RSt.new w w2 (by rw [← HW1.out]; exact hb2) _ (by omega) (by omega)
    have HLC : Hid (∀ i (h : i < L.length), w2.cell? ⟨w.heap.size + 1 + 1, i, none⟩ = some (.string L[i])) := by
      intro i hi
      have hg : w2.heap[w.heap.size + 1 + 1]? = some (.cells (L.map Value.string).toArray 9) := by
        rw [HW2.out, ← hs1]; exact heap_alloc_new _ _
      rw [cell_of_row w2 _ i _ _ _ hg]
      simp [hi]
    have HZ2 : Hid (w2.cell? ⟨0, 0, none⟩ = some (.int .i64 m)) := (HB2.out.cell (p := ⟨0, 0, none⟩) hm0).trans hm
    have HFB : Hid (∀ wr, FR (w.heap.size + 1) w.heap.size (w.heap.size + 1 + 1 + 1) w2 wr → Below w.heap.size w wr) := fun wr hf => HB2.out.trans ⟨hf.os, hf.tape, hf.output, hf.size, fun k hk => hf.block k (by omega) (by omega) (by omega)⟩
    clear hb2 HW1 HW2 HSP hz1 hs1
    go_loopw [22] (fun i wr => ∃ (k : Nat) (st : Rs) (vc vf : Value), k ≤ N ∧ i = .int .i64 k ∧ Hid (Good k st) ∧ Hid (res = afterLines cells (linesR st ((k : Int) + 1) ((L.map (·.data.toList)).drop k))) ∧ Hid (RSt wr (w.heap.size + 1) w.heap.size (w.heap.size + 1 + 1 + 1) vc vf st) ∧ Hid (FR (w.heap.size + 1) w.heap.size (w.heap.size + 1 + 1 + 1) w2 wr)) (fun i _ => N - (intOf i).toNat)
    case atStart => exact ⟨0, ⟨[], [], []⟩, _, _, Nat.zero_le _, rfl, good0, by show _ = _; rw [HLL.out]; exact HP.out, HR0, FR.refl _ _ _ _⟩
    case round =>
      obtain ⟨k, st, vc, vf, hk, rfl, HG, HA, HR, HF⟩ := hrel
      by_cases hlt : k < N
      · have hkl : k < L.length := by rw [HN.out]; exact hlt
        obtain ⟨ln, hln⟩ : ∃ ln, L[k] = ln := ⟨_, rfl⟩
        have hlsz : ln.size ≤ 8192 := by rw [← hln]; exact HLN.out.2 k hkl
        have hcl : wr.cell? ⟨w.heap.size + 1 + 1, k, none⟩ = some (.string ln) := by
          have h1 := HLC.out k hkl
          rw [hln] at h1
          exact (World.cell?_of_block (w := w2) (a := ⟨w.heap.size + 1 + 1, k, none⟩) (HF.out.block _ (by show w.heap.size + 1 + 1 < _; omega) (by show w.heap.size + 1 + 1 ≠ _; omega) (by show w.heap.size + 1 + 1 ≠ _; omega))).trans h1
        have hzr : wr.cell? ⟨0, 0, none⟩ = some (.int .i64 m) := ((HFB.out wr HF.out).cell (p := ⟨0, 0, none⟩) hm0).trans hm
        have HA2 : Hid _ := HA.out
        rw [linesR_next _ _ _ k (by simpa using hkl), List.getElem_map, hln] at HA2
        have hgc := HG.out.code
        have hgt := HG.out.tab
        have hgf : st.frm.length ≤ k := by rw [← HG.out.len]; exact hgc
        have hwsz := HR.out.bs
        obtain ⟨F, hF⟩ : ∃ F, fieldsL (saidL ln.data.toList) = F := ⟨_, rfl⟩
        have HFL : Hid (F.length ≤ 8193 ∧ ∀ x ∈ F, x.length ≤ 8192) := by
          have h1 := fieldsG_len (saidL ln.data.toList) []
          have h2 := saidL_len ln.data.toList
          have h3 : ln.data.toList.length = ln.size := by simp
          change (fieldsL _).length ≤ _ ∧ (∀ x ∈ fieldsL _, _) at h1
          rw [hF] at h1
          exact ⟨by omega, fun x hx => by have := h1.2 x hx; simp at this; omega⟩
        have HPC : Hid (Calls Tryz.prog 35 #[.string ln] wr (PcsP wr F)) := by rw [← hF]; exact pieces_any ln hlsz m wr hzr
        rw [hF] at HA2
        have HLA : Hid (∀ (A : Nat) (P : List ByteArray) (w3 : World), P.map (·.data.toList) = F → Below wr.heap.size wr w3 → w3.ownsRow wr.heap.size 9 1 (.slice (some ⟨A, 0, none⟩) P.length P.length) P.length (P.map Value.string) → Calls Tryz.prog 34 #[.pointer (some ⟨w.heap.size + 1, 0, none⟩), .int .i64 ((k : Int) + 1), .slice (some ⟨A, 0, none⟩) P.length P.length] w3 fun e w' => LrP (w.heap.size + 1) w.heap.size (w.heap.size + 1 + 1 + 1) w3 e w' (lineL st ((k : Int) + 1) F)) := by
          intro A P w3 hPF hb ho
          have hPl : P.length = F.length := by rw [← hPF, List.length_map]
          rw [← hPF]
          refine line_any _ _ _ A vc vf st _ P w3 (HR.out.below hb) ⟨fun i hi => ?_⟩ (by have := HFL.out.1; omega) (by omega) (by omega) (by omega)
          have hce := World.ownsRow.cells ho (g := A) rfl i (.string P[i]) (by simp [hi])
          rw [addn, Nat.zero_add] at hce
          refine ⟨hce, ?_⟩
          have h5 := HFL.out.2 P[i].data.toList (by rw [← hPF]; exact List.mem_map.2 ⟨P[i], List.getElem_mem _, rfl⟩)
          have h6 : P[i].data.toList.length = P[i].size := by simp
          omega
        rcases hr : lineL st ((k : Int) + 1) F with e | st'
        · have HO : Hid (res = ([], (k : Int) + 1, e)) := by have := HA2.out; rw [hr] at this; exact this
          rw [hr] at HLA
          clear HA HA2 hr hF hln HG HR
          go_wp2_with (first | (go_at_call 35; refine HPC.out.mono ?_; rintro e w3 ⟨A, P, hPF, rfl, hA, ho, hb⟩; have HBB : Hid (Below wr.heap.size wr w3) := hb; have HPF : Hid (P.map (·.data.toList) = F) := hPF; have HOW : Hid (w3.ownsRow wr.heap.size 9 1 (.slice (some ⟨A, 0, none⟩) P.length P.length) P.length (P.map Value.string)) := ho; clear hPF ho hb) | (go_at_call 34; refine (HLA.out A P w3 HPF.out HBB.out HOW.out).mono ?_; intro e1 w4 hp4; obtain ⟨rfl, hx, hfr⟩ := hp4; have HB4 : Hid (Below w.heap.size w w4) := HFB.out _ (HF.out.trans ((FR.of HBB.out hwsz).trans hfr)); clear hfr))
          first | (rw [HPOST.out, HO.out]; exact ParseP.nil _ _ HB4.out) | (go_ret3; rw [HPOST.out, HO.out]; exact ParseP.nil _ _ HB4.out)
        · have HO : Hid (res = afterLines cells (linesR st' ((k : Int) + 1 + 1) ((L.map (·.data.toList)).drop (k + 1)))) := by have := HA2.out; rw [hr] at this; exact this
          have HG2 : Hid (Good (k + 1) st') := HG.out.line hr
          rw [hr] at HLA
          clear HA HA2 hr hF hln HG HR
          go_wp2_with (first | (go_at_call 35; refine HPC.out.mono ?_; rintro e w3 ⟨A, P, hPF, rfl, hA, ho, hb⟩; have HBB : Hid (Below wr.heap.size wr w3) := hb; have HPF : Hid (P.map (·.data.toList) = F) := hPF; have HOW : Hid (w3.ownsRow wr.heap.size 9 1 (.slice (some ⟨A, 0, none⟩) P.length P.length) P.length (P.map Value.string)) := ho; clear hPF ho hb) | (go_at_call 34; refine (HLA.out A P w3 HPF.out HBB.out HOW.out).mono ?_; intro e1 w4 hp4; obtain ⟨rfl, vc', vf', hrs, hfr⟩ := hp4; have HR4 : Hid (RSt w4 (w.heap.size + 1) w.heap.size (w.heap.size + 1 + 1 + 1) vc' vf' st') := hrs; have HF4 : Hid (FR (w.heap.size + 1) w.heap.size (w.heap.size + 1 + 1 + 1) w2 w4) := HF.out.trans ((FR.of HBB.out hwsz).trans hfr); clear hfr hrs))
          go_roundw
          case rel => exact ⟨k + 1, st', vc', vf', hlt, by go_num, HG2, by show _ = _; rw [HO.out]; congr 1, HR4, HF4⟩
          case measure => simp [intOf]; omega
      · have hke : k = N := by omega
        subst hke
        have HO : Hid (res = afterAim st.frm cells (aimL st.tab st.code st.frm)) := by
          have := HA.out
          rw [List.drop_eq_nil_of_le (by rw [List.length_map, HN.out]; exact Nat.le_refl _)] at this
          exact this
        have hgc := HG.out.code
        have hgf : st.frm.length ≤ k := by rw [← HG.out.len]; exact hgc
        have HAI : Hid (Calls Tryz.prog 36 #[.pointer (some ⟨w.heap.size + 1, 0, none⟩)] wr fun e w' => AimP (w.heap.size + 1) w.heap.size (w.heap.size + 1 + 1 + 1) vc vf st wr e w' (aimL st.tab st.code st.frm)) := aim_any _ _ _ vc vf st wr HR.out HG.out.len HG.out.lab (by omega)
        have HLEN : Hid (st.code.length = st.frm.length) := HG.out.len
        rcases hai : aimL st.tab st.code st.frm with n | l
        · rw [hai] at HO HAI
          have HO2 : Hid (res = ([], n, 91)) := HO.out
          clear HA HG HR HO hai
          go_wp2_with (go_at_call 36; refine HAI.out.mono ?_; intro e1 w4 hp4; obtain ⟨rfl, hfr⟩ := hp4; have HB4 : Hid (Below w.heap.size w w4) := HFB.out _ (HF.out.trans hfr); clear hfr)
          first | (rw [HPOST.out, HO2.out]; exact ParseP.nil _ _ HB4.out) | (go_ret3; rw [HPOST.out, HO2.out]; exact ParseP.nil _ _ HB4.out)
        · have hll : l.length = st.frm.length := by rw [aimL_len _ _ _ _ hai, HLEN.out]
          have HLL2 : Hid (l.length = st.frm.length) := hll
          rw [hai] at HO HAI
          obtain ⟨c1, hc1⟩ : ∃ c, (checkL l cells).1 = c := ⟨_, rfl⟩
          obtain ⟨c2, hc2⟩ : ∃ c, (checkL l cells).2 = c := ⟨_, rfl⟩
          have HCK : Hid (∀ v W, ISl W v l → Calls Tryz.prog 7 #[v, .int .i64 cells] W fun e w' => e = .returned (.tuple #[.int .i64 c1, .int .i64 c2]) ∧ Below W.heap.size W w') := fun v W hv => by rw [← hc1, ← hc2]; exact check_any l cells v W hv
          have HO2 : Hid (res = if c2 = 0 then (l, 0, 0) else if c2 = 80 then ([], 0, 80) else ([], lineAt st.frm c1, c2)) := by rw [← hc1, ← hc2]; exact HO.out
          have HAT : Hid (c2 ≠ 0 → c2 ≠ 80 → ∃ i : Nat, c1 = (i : Int) ∧ i < l.length) := by intro h1 h2; rw [← hc1]; exact checkL_at l cells (by rw [hc2]; exact h1) (by rw [hc2]; exact h2)
          obtain ⟨ca, cc, rfl⟩ := own_sl HR.out.code
          clear HA HG HR HO hai hll hc1 hc2
          go_wp2_with (go_at_call 36; refine HAI.out.mono ?_; intro e1 w4 hp4; obtain ⟨rfl, hrs, hfr⟩ := hp4; have HB4 : Hid (Below w.heap.size w w4) := HFB.out _ (HF.out.trans hfr); have HR4 : Hid (RSt w4 (w.heap.size + 1) w.heap.size (w.heap.size + 1 + 1 + 1) (.slice ca st.code.length cc) vf ⟨l, st.frm, st.tab⟩) := hrs; have x0 := hrs.c0; clear hfr hrs)
          refine (HCK.out _ w4 HR4.out.code.isl).mono ?_
          rintro e2 w5 ⟨rfl, b5⟩
          have HB5 : Hid (Below w.heap.size w w5) := HB4.out.trans (b5.mono HB4.out.size)
          have HR5 : Hid (RSt w5 (w.heap.size + 1) w.heap.size (w.heap.size + 1 + 1 + 1) (.slice ca st.code.length cc) vf ⟨l, st.frm, st.tab⟩) := HR4.out.below b5
          have y0 := HR5.out.c0
          clear b5 x0
          by_cases h0 : c2 = 0
          · subst h0
            have HO3 : Hid (res = (l, 0, 0)) := by have := HO2.out; rw [if_pos rfl] at this; exact this
            have HIO : Hid (IOwn w5 w.heap.size (.slice ca st.code.length cc) l) := by
              have h1 := HR5.out.code
              refine ⟨h1.1, ?_⟩
              rcases h1.2 with h2 | ⟨g, cap, cur, e1, e2, e3⟩
              · exact Or.inl h2
              · exact Or.inr ⟨g, cap, cur, e1, by omega, e3⟩
            go_wp2
            first | (rw [HPOST.out, HO3.out]; exact ⟨_, rfl, HIO.out, HB5.out⟩) | (go_ret3; rw [HPOST.out, HO3.out]; exact ⟨_, rfl, HIO.out, HB5.out⟩)
          · by_cases h80 : c2 = 80
            · subst h80
              have HO3 : Hid (res = ([], 0, 80)) := by have := HO2.out; rw [if_neg (by decide), if_pos rfl] at this; exact this
              go_wp2
              first | (rw [HPOST.out, HO3.out]; exact ParseP.nil _ _ HB5.out) | (go_ret3; rw [HPOST.out, HO3.out]; exact ParseP.nil _ _ HB5.out)
            · obtain ⟨i, rfl, hi⟩ := HAT.out h0 h80
              have HO3 : Hid (res = ([], lineAt st.frm (i : Int), c2)) := by have := HO2.out; rw [if_neg h0, if_neg h80] at this; exact this
              have hif : i < st.frm.length := by rw [← HLL2.out]; exact hi
              have hfo : OOwn w5 (w.heap.size + 1 + 1 + 1) vf st.frm := HR5.out.frm
              obtain ⟨fn, hfn⟩ : ∃ n, st.frm.length = n := ⟨_, rfl⟩
              obtain ⟨fg, fc, rfl⟩ : ∃ g cap, vf = .slice (some ⟨g, 0, none⟩) fn cap := by
                rcases hfo.2 with ⟨_, h2⟩ | ⟨g, cap, _, e, _⟩
                · omega
                · exact ⟨g, cap, by rw [← hfn]; exact e⟩
              have hifn : i < fn := by omega
              have q0 := (frm_at hfo i hif).1
              have hlat : st.frm[i].1 = lineAt st.frm (i : Int) := by unfold lineAt; simp [List.getD, hif]
              rw [hlat] at q0
              obtain ⟨la, hla⟩ : ∃ la, lineAt st.frm (i : Int) = la := ⟨_, rfl⟩
              rw [hla] at q0 HO3
              have y1 := HR5.out.c1
              have e0 : (c2 == 0) = false := by simpa using h0
              have e80 : (c2 == 80) = false := by simpa using h80
              have q0d : w5.drew.cell? ⟨fg, i * 2, none⟩ = some (.int .i64 la) := q0
              have y1d : w5.drew.cell? ⟨w.heap.size + 1, 1, none⟩ = some (.slice (some ⟨fg, 0, none⟩) fn fc) := y1
              clear hfo hla hlat hfn hi hif
              go_wp2_with fail
              go_region
              all_goals
                go_wp2
                first | (rw [HPOST.out, HO3.out]; exact ParseP.nil _ _ HB5.out.drew) | (go_ret3; rw [HPOST.out, HO3.out]; exact ParseP.nil _ _ HB5.out.drew)
end Go.Proofs.YthcidcfaodjbjabGreatDoor
