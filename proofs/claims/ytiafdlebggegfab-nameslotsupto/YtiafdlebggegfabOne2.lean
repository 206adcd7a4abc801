/- The document's call over one statement, that sets a name. -/
import Derived.Test.YtiafdlebggegfabOneB
namespace Go.Proofs.Ytiafdlebggegfab
open Go.RowKit Go.Maps Go.WideMaps
set_option linter.unusedVariables false

set_option maxRecDepth 100000 in
set_option maxHeartbeats 4000000 in
theorem one_two (W : World) (base : Nat) (cc : Int) (hWb : W.heap.size ≤ base) (s : ByteArray) (c : Int) (a : EL) (b e : SL) (hb : RBlockC W base cc b) (he : RBlockC W base cc e) (aa ab ae : Option Addr) (ca cb ce : Nat) (hA : ESl W (.slice aa a.len ca) a) (hB : SSl W (.slice ab b.len cb) b) (hE : SSl W (.slice ae e.len ce) e) (w : World) (th : List ByteArray) (ta : Option Addr) (tc : Nat) (oa : Option Addr) (oc : Nat) (out : List Int) (most : Int) (hT : THd w (.slice ta th.length tc) (.slice oa out.length oc) th) (hO : Ints w base (.slice oa out.length oc) out) (hbs : base ≤ w.heap.size) (hg : Good ⟨tabOf th, out, most⟩) (hbw : Below W.heap.size W w) (hl : out.length + (a.cnt + b.cnt + e.cnt + 1) ≤ 1000000000) :
    Calls Try.prog 24 #[sV 2 s c (.slice aa a.len ca) (.slice ab b.len cb) (.slice ae e.len ce), .slice ta th.length tc, .int .i64 cc, .slice oa out.length oc, .int .i64 most] w (OPost base w (.slice oa out.length oc) (runS (min cc 4) 2 s c a b e ⟨tabOf th, out, most⟩)) := by
  have hm0 : 0 ≤ most := hg.m0
  have hm1 : most ≤ 8 := hg.m1
  have hth : th.length ≤ 8 := by have := hg.hi; rw [tabOf_len] at this; omega
  have HO : Hid (Ints w base (.slice oa out.length oc) out) := hO
  have HT : Hid (THd w (.slice ta th.length tc) (.slice oa out.length oc) th) := hT
  have HG : Hid (Good ⟨tabOf th, out, most⟩) := hg
  have HBW : Hid (Below W.heap.size W w) := hbw
  have HBd : Hid (SSl W (.slice ab b.len cb) b) := hB
  have HEl : Hid (SSl W (.slice ae e.len ce) e) := hE
  have HCB : Hid (RBlockC W base cc b) := hb
  have HCE : Hid (RBlockC W base cc e) := he
  have hov : ∀ k, (Value.slice oa out.length oc).ownBlock = some k → base ≤ k ∧ k < w.heap.size := hO.own
  have HOV : Hid (∀ k, (Value.slice oa out.length oc).ownBlock = some k → base ≤ k ∧ k < w.heap.size) := hov
  obtain ⟨aa', ca', b1, o1, e0, g1, g2, g3, g4⟩ := hA
  cases e0
  have HE0 : Hid (EAt W a b1 o1) := g4
  obtain ⟨na, hna⟩ : ∃ na, a.len = na := ⟨_, rfl⟩
  have HNA : Hid (a.len = na) := hna
  have hna9 : na ≤ 1000000000 := by have := a.len_le; omega
  rw [hna] at g1 g3 ⊢
  obtain ⟨res, hres⟩ : ∃ r, runS (min cc 4) 2 s c a b e ⟨tabOf th, out, most⟩ = r := ⟨_, rfl⟩
  have HRES : Hid ((((namesR ⟨tabOf th, out, most⟩ (namesS 2 s a)).andThen (ownR (min cc 4) 2 s c)).andThen (fun s1 => (runL (min cc 4) b s1).shut s1.T)).andThen (fun s2 => (runL (min cc 4) e s2).shut s2.T) = res) := by show _ = _; rw [← runS_names]; exact hres
  rw [hres]
  obtain ⟨tn, htn⟩ : ∃ tn, th.length = tn := ⟨_, rfl⟩
  have HTN : Hid (th.length = tn) := htn
  rw [htn] at hth ⊢
  obtain ⟨on, hon⟩ : ∃ on, out.length = on := ⟨_, rfl⟩
  have HON : Hid (out.length = on) := hon
  rw [hon] at hl ⊢
  unfold maxLen at g2
  clear hb he hB hE hT hO hg hbw hov g4 hna hres htn hon
  obtain ⟨i0, hi, hz0, hz1, hz2⟩ := info_parts info9
  obtain ⟨j0, hj, hy0, hy1, hy2⟩ := info_parts info3
  have HBX : Hid (∀ o, Below w.heap.size w (w.alloc o)) := fun o => (Below.refl _ _).alloc (Nat.le_refl _) o
  unfold sV
  go_enter Try.func24, Try.ntmps24
  go_wp2
  go_loopw [14, 15] (fun t i wr => ∃ (j : Nat) (r : EL) (names : List ByteArray) (da : Option Addr) (dc : Nat), j ≤ na ∧ i = .int .i64 (j : Int) ∧ t = .slice da names.length dc ∧ Hid (j + r.len = na) ∧ Hid (EAt W r b1 (o1 + 5 * j)) ∧ Hid (names ++ namesL r = namesL a) ∧ Hid (names.length + r.cnt ≤ a.cnt) ∧ Hid (Strs wr (w.heap.size + 1) (.slice da names.length dc) names) ∧ Hid (Below (w.heap.size + 1) (w.alloc (.cells #[.int .i64 2, .string s, .int .i64 c, .slice aa na ca, .slice ab b.len cb, .slice ae e.len ce] 43)) wr)) (fun _ i _ => na - (intOf i).toNat)
  case atStart => exact ⟨0, a, [], none, 0, Nat.zero_le _, rfl, rfl, by show _ = _; rw [Nat.zero_add]; exact HNA.out, HE0, rfl, by show _ ≤ _; simp, Strs.nil _ _, Below.refl _ _⟩
  case round =>
    obtain ⟨j, r, names, da, dc, hj9, rfl, rfl, HJ, HE, HX, HR, HS, HB⟩ := hrel
    have HBw : Hid (Below w.heap.size w wr) := (HBX.out _).trans (HB.out.mono (Nat.le_succ _))
    have HBW2 : Hid (Below W.heap.size W wr) := HBW.out.trans (HBw.out.mono HBW.out.size)
    have HS6 : Hid _ := (Six.new w (.int .i64 2) (.string s) (.int .i64 c) (.slice aa na ca) (.slice ab b.len cb) (.slice ae e.len ce) 43).keep (HB.out.block w.heap.size (Nat.lt_succ_self _))
    obtain ⟨y0, y1, y2, y3, y4, y5⟩ := HS6.out
    have hsw : w.heap.size < wr.heap.size := by have := HB.out.size; simp at this; omega
    by_cases hlt : j < na
    · have e0 := g3 (by omega)
      subst e0
      cases r with
      | nil => have := HJ.out; simp only [EL.len] at this; omega
      | cons kd nm s' p' a' r =>
        obtain ⟨ad2, cap2, hrd, hsl, _, hrest⟩ := HE.out.read HBW2.out
        rw [Nat.mul_comm 5 j] at hrd
        obtain ⟨z0, z1, z2, z3, z4, z5⟩ := hrd
        have HSl : Hid (ESl wr (.slice ad2 a'.len cap2) a') := hsl
        have HRest : Hid (EAt W r b1 (o1 + 5 * (j + 1))) := by rw [show o1 + 5 * (j + 1) = o1 + 5 * j + 5 by omega]; exact hrest
        obtain ⟨L2, hL2⟩ : ∃ L2, namesE kd s' a' = L2 := ⟨_, rfl⟩
        have HL2 : Hid (namesE kd s' a' = L2) := hL2
        have hcn : names.length + L2.length + r.cnt ≤ a.cnt := by have := HR.out; have h7 := namesE_len kd s' a'; rw [hL2] at h7; simp only [EL.cnt] at this; omega
        have HC : Hid (NamesC a') := names_any _ a' (Nat.le_refl _) (by have := HR.out; simp only [EL.cnt] at this; omega)
        have HX2 : Hid ((names ++ L2) ++ namesL r = namesL a) := by show _ = _; rw [← HX.out, namesL_cons, hL2, List.append_assoc]
        have HR2 : Hid ((names ++ L2).length + r.cnt ≤ a.cnt) := by show _ ≤ _; rw [List.length_append]; omega
        clear hsl hrest hL2
        go_wp2_with fail
        refine (names_of HC.out kd nm s' p' ad2 cap2 wr HSl.out).mono ?_
        rintro e w2 ⟨v2, rfl, hs2, hb2⟩
        rw [HL2.out] at hs2
        have HB2 : Hid _ := HB.out.trans (hb2.mono hsw)
        have HSN : Hid (Strs w2 (w.heap.size + 1) (.slice da names.length dc) names) := HS.out.below hb2
        have hsz2 : w.heap.size + 1 ≤ w2.heap.size := Nat.le_trans hsw hb2.size
        rcases hs2.cases with ⟨rfl, e2⟩ | ⟨g, cg, rfl, hce⟩
        · subst e2
          rw [List.append_nil] at HX2 HR2
          clear hs2 hb2
          go_wp2_with (at_builtin; refine wpList_append_own_none rfl _ _ 54 rfl (w.heap.size + 1) 9 i0 1 Try.underlying54 hi _ _ _ rfl HSN.out rfl ?_)
          go_roundw
          case rel => exact ⟨j + 1, r, names, da, dc, by omega, by go_num, rfl, by have := HJ.out; simp only [EL.len] at this; show _ = _; omega, HRest, HX2, HR2, HSN, HB2⟩
          case measure => simp [intOf]; omega
        · have HCE2 : Hid _ := hce
          clear hs2 hb2 hce
          go_wp2_with (at_builtin; refine wpList_append_own_at _ rfl _ _ 54 rfl (w.heap.size + 1) 9 i0 (.string ⟨#[]⟩) 1 16 Try.underlying54 hi hz0 hz1 hz2 rfl (by decide) _ _ _ rfl HSN.out ⟨g, 0, none⟩ L2.length cg (L2.map fun x => Value.string x) rfl (by simp) HCE2.out (strs_one L2) (by unfold maxLen; omega) (by omega) hsz2 ?_)
          intro v' w3 hown' hgrow hnil hloc
          have HS3 : Hid (Strs w3 (w.heap.size + 1) v' (names ++ L2)) := by show w3.ownsRow _ _ _ _ _ _; simpa using hown'
          have HB3 : Hid _ := HB2.out.grown hgrow hsz2 (fun k hk => (HSN.out.own k hk).1)
          obtain ⟨da', dc', hv'⟩ := HS3.out.form
          subst hv'
          clear hown' hgrow hnil hloc
          go_wp2
          go_roundw
          case rel => exact ⟨j + 1, r, names ++ L2, da', dc', by omega, by go_num, rfl, by have := HJ.out; simp only [EL.len] at this; show _ = _; omega, HRest, HX2, HR2, HS3, HB3⟩
          case measure => simp [intOf]; omega
    · have hr : r = .nil := by cases r with
        | nil => rfl
        | cons kd nm s p a r => have := HJ.out; simp only [EL.len] at this; omega
      subst hr
      have HXX : Hid (names = namesL a) := by show _ = _; have := HX.out; simpa [namesL] using this
      have HL0 : Hid (namesS 2 s a = names ++ [s]) := by show _ = _; unfold namesS; rw [if_pos rfl, HXX.out]
      have hnl0 : names.length ≤ a.cnt := by have := HR.out; simp only [EL.cnt] at this; omega
      have HSA : Hid (∀ o, (wr.alloc o).ownsRow (w.heap.size + 1) 9 1 (.slice da names.length dc) names.length (names.map fun x => Value.string x)) := fun o => World.ownsRow.alloc HS.out o
      go_wp2_with (at_builtin; refine wpList_append_own_at _ rfl _ _ 54 rfl (w.heap.size + 1) 9 i0 (.string ⟨#[]⟩) 1 16 Try.underlying54 hi hz0 hz1 hz2 rfl (by decide) _ _ _ rfl (HSA.out _) ⟨wr.heap.size, 0, none⟩ 1 1 [.string s] rfl rfl (cell_one_new _ _ _) (strs_one [s]) (by unfold maxLen; omega) (by omega) (by simp; omega) ?_)
      intro v' w2 hown' hgrow hnil hloc
      obtain ⟨nms, hnms⟩ : ∃ nms, names ++ [s] = nms := ⟨_, rfl⟩
      have HL : Hid (namesS 2 s a = nms) := hnms ▸ HL0.out
      have HSL0 : Hid (Strs w2 (w.heap.size + 1) v' nms) := by rw [← hnms]; show w2.ownsRow _ _ _ _ _ _; simpa using hown'
      have HB3 : Hid (Below (w.heap.size + 1) (w.alloc (.cells #[.int .i64 2, .string s, .int .i64 c, .slice aa na ca, .slice ab b.len cb, .slice ae e.len ce] 43)) w2) := (HB.out.alloc (by omega) _).grown hgrow (by simp; omega) (fun k hk => (HS.out.own k hk).1)
      have hnl1 : nms.length ≤ a.cnt + 1 := by rw [← hnms]; simp; omega
      obtain ⟨n2, hn2⟩ : ∃ n2, nms.length = n2 := ⟨_, rfl⟩
      have HN2 : Hid (nms.length = n2) := hn2
      have hnl : n2 ≤ a.cnt + 1 := hn2 ▸ hnl1
      obtain ⟨da2, dc2, hv2⟩ := HSL0.out.form
      rw [hn2] at hv2
      subst hv2
      have HSL : Hid (Strs w2 (w.heap.size + 1) (.slice da2 n2 dc2) nms) := HSL0.out
      have HBw : Hid (Below w.heap.size w w2) := (HBX.out _).trans (HB3.out.mono (Nat.le_succ _))
      have HBW2 : Hid (Below W.heap.size W w2) := HBW.out.trans (HBw.out.mono HBW.out.size)
      have HS6 : Hid _ := (Six.new w (.int .i64 2) (.string s) (.int .i64 c) (.slice aa na ca) (.slice ab b.len cb) (.slice ae e.len ce) 43).keep (HB3.out.block w.heap.size (Nat.lt_succ_self _))
      have hsw : w.heap.size < w2.heap.size := by have := HB3.out.size; simp at this; omega
      clear hown' hgrow hnil hloc hnms hn2 HSL0 HSA hnl1
      go_wp2
      have HBv : Hid (GO w w2 (.slice oa on oc) (.slice oa on oc)) := GO.of _ HBw.out
      have HO2 : Hid (Ints w2 base (.slice oa on oc) out) := by have := HO.out.keep (fun k hk => HBw.out.block k (HOV.out k hk).2); rw [HON.out] at this; exact this
      have HT2 : Hid (THd w2 (.slice ta tn tc) (.slice oa on oc) th) := by have := HT.out; rw [HTN.out, HON.out] at this; exact this.go HBv.out
      have HNR : Hid (TRd w2 (.slice da2 n2 dc2) (.slice oa on oc) nms) := HSL.out.trd (fun g hg e => by have h5 := (HSL.out.own g hg).1; have h6 := HOV.out g (HON.out ▸ e); omega)
      have HSB : Hid (Beside w2 w.heap.size w2 (.slice oa on oc)) := ⟨rfl, hsw, fun e => by have h6 := HOV.out _ (HON.out ▸ e); omega⟩
      clear y0 y1 y2 y3 y4 y5

      go_loopw [3, 16] (fun ov i wq => ∃ (j : Nat) (o2 : List Int) (oa2 : Option Addr) (oc2 : Nat), j ≤ n2 ∧ o2.length + (n2 - j) ≤ on + n2 ∧ i = .int .i64 (j : Int) ∧ ov = .slice oa2 o2.length oc2 ∧ Hid (useN (tabOf th) (nms.drop j) o2 = useN (tabOf th) nms out) ∧ Hid (Ints wq base (.slice oa2 o2.length oc2) o2) ∧ Hid (GO w2 wq (.slice oa on oc) (.slice oa2 o2.length oc2))) (fun _ i _ => n2 - (intOf i).toNat)
      case atStart => exact ⟨0, out, oa, oc, Nat.zero_le _, by rw [HON.out]; omega, rfl, by rw [HON.out], rfl, by rw [HON.out]; exact HO2, by rw [HON.out]; exact GO.refl _ _⟩
      case round =>
        obtain ⟨j, o2, oa2, oc2, hj2, ho2, rfl, rfl, HU, HO3, HGO⟩ := hrel
        have HT3 : Hid (THd wr (.slice ta tn tc) (.slice oa2 o2.length oc2) th) := HT2.out.go HGO.out
        have HNR3 : Hid (TRd wr (.slice da2 n2 dc2) (.slice oa2 o2.length oc2) nms) := HNR.out.go HGO.out
        have hS3 := HSB.out.go HGO.out
        have HSB3 : Hid (Beside w2 w.heap.size wr (.slice oa2 o2.length oc2)) := hS3
        have HS63 : Hid _ := HS6.out.keep hS3.1
        obtain ⟨y0, y1, y2, y3, y4, y5⟩ := HS63.out
        have hsw3 : w.heap.size < wr.heap.size := hS3.2.1
        have HBW3 : Hid (Below W.heap.size W wr) := HO2.out.belowW hWb HGO.out HBW2.out
        have HG3 : Hid (GO w wr (.slice oa on oc) (.slice oa2 o2.length oc2)) := HBv.out.trans HGO.out
        have hbs3 : base ≤ wr.heap.size := by omega
        clear hS3
        by_cases hlt2 : j < n2
        · obtain ⟨na', ncap, nb, ne, nq1, nq2, nq3, nq4⟩ := HNR3.out
          have hjl : j < nms.length := by have := HN2.out; omega
          obtain ⟨ne1, nlt, _⟩ := nq3 (by omega)
          injection ne with ne0 ne2 ne3
          subst ne1 ne0 ne3
          obtain ⟨x, hx⟩ : ∃ x, nms[j] = x := ⟨_, rfl⟩
          have x1 : wr.cell? ⟨nb, j, none⟩ = some (.string x) := by rw [← hx]; exact nq4 j hjl
          have HDR : Hid (nms.drop j = x :: nms.drop (j + 1)) := by show _ = _; rw [List.drop_eq_getElem_cons hjl, hx]
          unfold maxLen at nq2
          rw [HN2.out] at nq1
          obtain ⟨r, hr⟩ : ∃ r, findI th x = r := ⟨_, rfl⟩
          have HFR : Hid (findI th x = r) := hr
          have hr9 : r < 11 := by have := findI_le th x; rw [hr] at this; have := HTN.out; omega
          have HFC : Hid (Calls Try.prog 30 #[.slice ta tn tc, .string x] wr (FPost r wr)) := by rw [← HFR.out]; exact find_any th _ _ x wr HT3.out.1 (by rw [HTN.out]; exact hth)
          clear hx hr nq3 nq4 ne2
          by_cases hneg : r < 0
          · have hrm : r = -1 := by rw [← HFR.out]; exact (findI_find th x).2 (by rw [HFR.out]; exact hneg)
            subst hrm
            have HRR : Hid (res = .err 60) := by
              have h5 : useN (tabOf th) nms out = none := by rw [← HU.out, HDR.out]; unfold useN; rw [find_neg HFR.out]
              show _ = _
              rw [← HRES.out, HL.out]
              unfold namesR
              show ((Res.andThen (match useN (tabOf th) nms out with | none => Res.err 60 | some o => Res.ok ⟨tabOf th, o, most⟩) _).andThen _).andThen _ = _
              rw [h5]
              rfl
            go_wp2_with fail
            refine HFC.out.mono ?_
            rintro e w3 ⟨rfl, hb3⟩
            have HG4 : Hid _ := HG3.out.after hb3
            clear hb3
            go_wp2
            (try simp only [Exit.inBlock, Exit.then])
            refine bodyPost_ret (results_tmp4 rfl _ _ _) rfl ?_
            rw [HRR.out]
            exact ⟨⟨_, _, _, _, rfl⟩, rfl, _, HG4.out⟩
          · have HU2 : Hid (useN (tabOf th) (nms.drop (j + 1)) (o2 ++ [r]) = useN (tabOf th) nms out) := by
              show _ = _
              rw [← HU.out, HDR.out]
              conv => rhs; unfold useN
              rw [find_pos HFR.out hneg]
            go_wp2_with fail
            refine HFC.out.mono ?_
            rintro e w3 ⟨rfl, hb3⟩
            have HG4 : Hid (GO w2 w3 (.slice oa on oc) (.slice oa2 o2.length oc2)) := HGO.out.after hb3
            have HO4 : Hid (∀ o, (w3.alloc o).ownsRow base 3 1 (.slice oa2 o2.length oc2) o2.length (o2.map fun x => Value.int .i64 x)) := fun o => World.ownsRow.alloc (HO3.out.keep (fun k hk => hb3.block k (HO3.out.own k hk).2)) o
            have hbs4 : base ≤ w3.heap.size := Nat.le_trans hbs3 hb3.size
            clear hb3
            go_wp2_with (at_builtin; refine wpList_append_own_at _ rfl _ _ 25 rfl base 3 j0 (.int .i64 0) 1 8 Try.underlying25 hj hy0 hy1 hy2 rfl (by decide) _ _ _ rfl (HO4.out _) ⟨w3.heap.size, 0, none⟩ 1 1 [.int .i64 r] rfl rfl (cell_one_new _ _ _) (ints_one [r]) (by unfold maxLen; omega) (by omega) (by simp; omega) ?_)
            intro v' w4 hown' hgrow hnil hloc
            have HG5 : Hid (GO w2 w4 (.slice oa on oc) v') := HG4.out.trans (GO.pushed hgrow hloc)
            have HO5 : Hid (Ints w4 base v' (o2 ++ [r])) := by show w4.ownsRow _ _ _ _ _ _; simpa using hown'
            obtain ⟨oa3, oc3, hv3⟩ := HO5.out.form
            subst hv3
            clear hown' hgrow hnil hloc
            go_wp2
            go_roundw
            case rel => exact ⟨j + 1, o2 ++ [r], oa3, oc3, by omega, by simp; omega, by go_num, rfl, HU2, HO5, HG5⟩
            case measure => simp [intOf]; omega
        · have hjn : j = n2 := by omega
          have HUU : Hid (useN (tabOf th) nms out = some o2) := by
            show _ = _
            rw [← HU.out, List.drop_of_length_le (by have := HN2.out; omega)]
            rfl
          have HR0 : Hid ((((ownR (min cc 4) 2 s c ⟨tabOf th, o2, most⟩)).andThen (fun s1 => (runL (min cc 4) b s1).shut s1.T)).andThen (fun s2 => (runL (min cc 4) e s2).shut s2.T) = res) := by
            show _ = _
            rw [← HRES.out, HL.out]
            unfold namesR
            show _ = ((Res.andThen (match useN (tabOf th) nms out with | none => Res.err 60 | some o => Res.ok ⟨tabOf th, o, most⟩) _).andThen _).andThen _
            rw [HUU.out]
            rfl
          have hol : o2.length ≤ on + (a.cnt + 1) := by omega
          have HR1 : Hid (((runL (min cc 4) b ⟨tabOf th, o2, most⟩).shut (tabOf th)).andThen (fun s2 => (runL (min cc 4) e s2).shut s2.T) = res) := by show _ = _; rw [← HR0.out]; unfold ownR; rw [if_neg (fun h => absurd h.1 (by decide)), if_neg (by decide : ¬ (2 : Int) = 1)]; rfl
          have HGD : Hid (Good ⟨tabOf th, o2, most⟩) := ⟨HG.out.nd, HG.out.lo, HG.out.hi, HG.out.m0, HG.out.m1⟩
          have hgm0 : 0 ≤ most := HGD.out.m0
          have hgm1 : most ≤ 8 := HGD.out.m1
          have HC1 : Hid (Calls Try.prog 18 #[.slice ab b.len cb, .slice ta tn tc, .int .i64 cc, .slice oa2 o2.length oc2, .int .i64 most] wr (OPost base wr (.slice oa2 o2.length oc2) (runL (min cc 4) b ⟨tabOf th, o2, most⟩))) := by
            have := HCB.out _ wr th ta tc oa2 oc2 o2 most HBd.out (by rw [HTN.out]; exact HT3.out) HO3.out hbs3 HGD.out HBW3.out (by omega)
            rw [HTN.out] at this
            exact this
          go_wp2_with fail
          refine HC1.out.mono ?_
          intro e1 w5 hp
          rcases r3 : runL (min cc 4) b ⟨tabOf th, o2, most⟩ with x | s3
          · rw [r3] at hp
            have hp2 := hp.pre HG3.out
            obtain ⟨⟨ta5, tn5, tc5, m5, rfl⟩, hx, hq⟩ := hp2
            have HQ : Hid _ := hq
            have HRR : Hid (res = .err x) := by show _ = _; rw [← HR1.out, r3]; rfl
            clear hp hq r3
            go_wp2
            (try simp only [Exit.inBlock, Exit.then])
            refine bodyPost_ret (results_tmp4 rfl _ _ _) rfl ?_
            rw [HRR.out]
            exact ⟨⟨_, _, _, _, rfl⟩, hx, HQ.out⟩
          · rw [r3] at hp
            obtain ⟨th5, ta5, tc5, oa5, oc5, rfl, hT5, hO5, hR5, hG5⟩ := hp
            have HO6 : Hid (Ints w5 base (.slice oa5 s3.out.length oc5) s3.out) := hO5
            have HG6 : Hid (GO w w5 (.slice oa on oc) (.slice oa5 s3.out.length oc5)) := HG3.out.trans hG5
            have HT6 : Hid (THd w5 (.slice ta tn tc) (.slice oa5 s3.out.length oc5) th) := HT3.out.go hG5
            have hS5 := HSB3.out.go hG5
            have HS65 : Hid _ := HS6.out.keep hS5.1
            obtain ⟨hgd5, hT55, hlen5⟩ := shutL_good (st1 := ⟨tabOf th, s3.out, s3.most⟩) (cells := min cc 4) (l := b) HGD.out (by rw [r3]; rfl)
            have HGD5 : Hid (Good ⟨tabOf th, s3.out, s3.most⟩) := hgd5
            have hle5 : s3.out.length ≤ o2.length + b.cnt := hlen5
            have HB5 : Hid (Below W.heap.size W w5) := HO3.out.belowW hWb hG5 HBW3.out
            have hbs5 : base ≤ w5.heap.size := Nat.le_trans hbs3 hG5.size
            have hm50 : 0 ≤ s3.most := hgd5.m0
            have hm51 : s3.most ≤ 8 := hgd5.m1
            have HR6 : Hid ((runL (min cc 4) e ⟨tabOf th, s3.out, s3.most⟩).shut (tabOf th) = res) := by show _ = _; rw [← HR1.out, r3]; rfl
            clear y0 y1 y2 y3 y4 y5
            obtain ⟨y0, y1, y2, y3, y4, y5⟩ := HS65.out
            have hsw5 : w.heap.size < w5.heap.size := hS5.2.1
            clear hT5 hO5 hR5 hG5 hS5 r3 hgd5 hT55 hlen5
            have HC2 : Hid (Calls Try.prog 18 #[.slice ae e.len ce, .slice ta tn tc, .int .i64 cc, .slice oa5 s3.out.length oc5, .int .i64 s3.most] w5 (OPost base w5 (.slice oa5 s3.out.length oc5) (runL (min cc 4) e ⟨tabOf th, s3.out, s3.most⟩))) := by
              have := HCE.out _ w5 th ta tc oa5 oc5 s3.out s3.most HEl.out (by rw [HTN.out]; exact HT6.out) HO6.out hbs5 HGD5.out HB5.out (by omega)
              rw [HTN.out] at this
              exact this
            go_wp2_with fail
            refine HC2.out.mono ?_
            intro e1 w6 hp
            rcases r4 : runL (min cc 4) e ⟨tabOf th, s3.out, s3.most⟩ with x | s4
            · rw [r4] at hp
              have hp2 := hp.pre HG6.out
              obtain ⟨⟨ta6, tn6, tc6, m6, rfl⟩, hx, hq⟩ := hp2
              have HQ : Hid _ := hq
              have HRR : Hid (res = .err x) := by show _ = _; rw [← HR6.out, r4]; rfl
              clear hp hq r4
              go_wp2
              (try simp only [Exit.inBlock, Exit.then])
              refine bodyPost_ret (results_tmp4 rfl _ _ _) rfl ?_
              rw [HRR.out]
              exact ⟨⟨_, _, _, _, rfl⟩, hx, HQ.out⟩
            · rw [r4] at hp
              obtain ⟨th6, ta6, tc6, oa6, oc6, rfl, hT6, hO6, hR6, hG6⟩ := hp
              have HO7 : Hid (Ints w6 base (.slice oa6 s4.out.length oc6) s4.out) := hO6
              have HG7 : Hid (GO w w6 (.slice oa on oc) (.slice oa6 s4.out.length oc6)) := HG6.out.trans hG6
              have HT7 : Hid (THd w6 (.slice ta tn tc) (.slice oa6 s4.out.length oc6) th) := HT6.out.go hG6
              have HRR : Hid (res = .ok ⟨tabOf th, s4.out, s4.most⟩) := by show _ = _; rw [← HR6.out, r4]; rfl
              clear hT6 hO6 hR6 hG6 r4
              go_wp2
              (try simp only [Exit.inBlock, Exit.then])
              refine bodyPost_ret (results_tmp4 rfl _ _ _) rfl ?_
              rw [HRR.out]
              exact ⟨th, ta, tc, oa6, oc6, by rw [HTN.out]; rfl, rfl, HO7.out, by rw [HTN.out]; exact HT7.out, HG7.out⟩
end Go.Proofs.Ytiafdlebggegfab
