/- The document's call over one statement, that declares a name. -/
import Derived.Test.YtiafdlebggegfabOneC
import Derived.Deep.DeepCutAuto
namespace Go.Proofs.Ytiafdlebggegfab
open Go.RowKit Go.Maps Go.WideMaps
set_option linter.unusedVariables false
set_option linter.unusedSimpArgs false

set_option maxRecDepth 100000 in
set_option maxHeartbeats 40000000 in
theorem one_one (W : World) (base : Nat) (cc : Int) (hWb : W.heap.size ≤ base) (s : ByteArray) (c : Int) (a : EL) (b e : SL) (hb : RBlockC W base cc b) (he : RBlockC W base cc e) (aa ab ae : Option Addr) (ca cb ce : Nat) (hA : ESl W (.slice aa a.len ca) a) (hB : SSl W (.slice ab b.len cb) b) (hE : SSl W (.slice ae e.len ce) e) (w : World) (th : List ByteArray) (ta : Option Addr) (tc : Nat) (oa : Option Addr) (oc : Nat) (out : List Int) (most : Int) (hT : THd w (.slice ta th.length tc) (.slice oa out.length oc) th) (hO : Ints w base (.slice oa out.length oc) out) (hbs : base ≤ w.heap.size) (hg : Good ⟨tabOf th, out, most⟩) (hbw : Below W.heap.size W w) (hl : out.length + (a.cnt + b.cnt + e.cnt + 1) ≤ 1000000000) :
    Calls Try.prog 24 #[sV 1 s c (.slice aa a.len ca) (.slice ab b.len cb) (.slice ae e.len ce), .slice ta th.length tc, .int .i64 cc, .slice oa out.length oc, .int .i64 most] w (OPost base w (.slice oa out.length oc) (runS (min cc 4) 1 s c a b e ⟨tabOf th, out, most⟩)) := by
  have hm0 : 0 ≤ most := hg.m0
  have hm1 : most ≤ 8 := hg.m1
  have hth : th.length ≤ 8 := by have := hg.hi; rw [tabOf_len] at this; omega
  have HO : Hid (Ints w base (.slice oa out.length oc) out) := hO
  have HT : Hid (THd w (.slice ta th.length tc) (.slice oa out.length oc) th) := hT
  have HG : Hid (Good ⟨tabOf th, out, most⟩) := hg
  have HBW : Hid (Below W.heap.size W w) := hbw
  have HBd : Hid (SSl W (.slice ab b.len cb) b) := hB
  have HEl : Hid (SSl W (.slice ae e.len ce) e) := hE
  have HCB : Hid (RBlockC W base cc b) := hb
  have HCE : Hid (RBlockC W base cc e) := he
  have hov : ∀ k, (Value.slice oa out.length oc).ownBlock = some k → base ≤ k ∧ k < w.heap.size := hO.own
  have HOV : Hid (∀ k, (Value.slice oa out.length oc).ownBlock = some k → base ≤ k ∧ k < w.heap.size) := hov
  obtain ⟨aa', ca', b1, o1, e0, g1, g2, g3, g4⟩ := hA
  cases e0
  have HE0 : Hid (EAt W a b1 o1) := g4
  obtain ⟨na, hna⟩ : ∃ na, a.len = na := ⟨_, rfl⟩
  have HNA : Hid (a.len = na) := hna
  have hna9 : na ≤ 1000000000 := by have := a.len_le; omega
  rw [hna] at g1 g3 ⊢
  obtain ⟨res, hres⟩ : ∃ r, runS (min cc 4) 1 s c a b e ⟨tabOf th, out, most⟩ = r := ⟨_, rfl⟩
  have HRES : Hid ((((namesR ⟨tabOf th, out, most⟩ (namesS 1 s a)).andThen (ownR (min cc 4) 1 s c)).andThen (fun s1 => (runL (min cc 4) b s1).shut s1.T)).andThen (fun s2 => (runL (min cc 4) e s2).shut s2.T) = res) := by show _ = _; rw [← runS_names]; exact hres
  rw [hres]
  obtain ⟨tn, htn⟩ : ∃ tn, th.length = tn := ⟨_, rfl⟩
  have HTN : Hid (th.length = tn) := htn
  rw [htn] at hth ⊢
  obtain ⟨on, hon⟩ : ∃ on, out.length = on := ⟨_, rfl⟩
  have HON : Hid (out.length = on) := hon
  rw [hon] at hl ⊢
  unfold maxLen at g2
  clear hb he hB hE hT hO hg hbw hov g4 hna hres htn hon
  obtain ⟨i0, hi, hz0, hz1, hz2⟩ := info_parts info9
  obtain ⟨j0, hj, hy0, hy1, hy2⟩ := info_parts info3
  have HBX : Hid (∀ o, Below w.heap.size w (w.alloc o)) := fun o => (Below.refl _ _).alloc (Nat.le_refl _) o
  unfold sV
  go_enter Try.func24, Try.ntmps24
  go_wp2
  go_loopw [14, 15] (fun t i wr => ∃ (j : Nat) (r : EL) (names : List ByteArray) (da : Option Addr) (dc : Nat), j ≤ na ∧ i = .int .i64 (j : Int) ∧ t = .slice da names.length dc ∧ Hid (j + r.len = na) ∧ Hid (EAt W r b1 (o1 + 5 * j)) ∧ Hid (names ++ namesL r = namesL a) ∧ Hid (names.length + r.cnt ≤ a.cnt) ∧ Hid (Strs wr (w.heap.size + 1) (.slice da names.length dc) names) ∧ Hid (Below (w.heap.size + 1) (w.alloc (.cells #[.int .i64 1, .string s, .int .i64 c, .slice aa na ca, .slice ab b.len cb, .slice ae e.len ce] 43)) wr)) (fun _ i _ => na - (intOf i).toNat)
  case atStart => exact ⟨0, a, [], none, 0, Nat.zero_le _, rfl, rfl, by show _ = _; rw [Nat.zero_add]; exact HNA.out, HE0, rfl, by show _ ≤ _; simp, Strs.nil _ _, Below.refl _ _⟩
  case round =>
    obtain ⟨j, r, names, da, dc, hj9, rfl, rfl, HJ, HE, HX, HR, HS, HB⟩ := hrel
    have HBw : Hid (Below w.heap.size w wr) := (HBX.out _).trans (HB.out.mono (Nat.le_succ _))
    have HBW2 : Hid (Below W.heap.size W wr) := HBW.out.trans (HBw.out.mono HBW.out.size)
    have HS6 : Hid _ := (Six.new w (.int .i64 1) (.string s) (.int .i64 c) (.slice aa na ca) (.slice ab b.len cb) (.slice ae e.len ce) 43).keep (HB.out.block w.heap.size (Nat.lt_succ_self _))
    obtain ⟨y0, y1, y2, y3, y4, y5⟩ := HS6.out
    have hsw : w.heap.size < wr.heap.size := by have := HB.out.size; simp at this; omega
    by_cases hlt : j < na
    · have e0 := g3 (by omega)
      subst e0
      cases r with
      | nil => have := HJ.out; simp only [EL.len] at this; omega
      | cons kd nm s' p' a' r =>
        obtain ⟨ad2, cap2, hrd, hsl, _, hrest⟩ := HE.out.read HBW2.out
        rw [Nat.mul_comm 5 j] at hrd
        obtain ⟨z0, z1, z2, z3, z4, z5⟩ := hrd
        have HSl : Hid (ESl wr (.slice ad2 a'.len cap2) a') := hsl
        have HRest : Hid (EAt W r b1 (o1 + 5 * (j + 1))) := by rw [show o1 + 5 * (j + 1) = o1 + 5 * j + 5 by omega]; exact hrest
        obtain ⟨L2, hL2⟩ : ∃ L2, namesE kd s' a' = L2 := ⟨_, rfl⟩
        have HL2 : Hid (namesE kd s' a' = L2) := hL2
        have hcn : names.length + L2.length + r.cnt ≤ a.cnt := by have := HR.out; have h7 := namesE_len kd s' a'; rw [hL2] at h7; simp only [EL.cnt] at this; omega
        have HC : Hid (NamesC a') := names_any _ a' (Nat.le_refl _) (by have := HR.out; simp only [EL.cnt] at this; omega)
        have HX2 : Hid ((names ++ L2) ++ namesL r = namesL a) := by show _ = _; rw [← HX.out, namesL_cons, hL2, List.append_assoc]
        have HR2 : Hid ((names ++ L2).length + r.cnt ≤ a.cnt) := by show _ ≤ _; rw [List.length_append]; omega
        clear hsl hrest hL2
        go_wp2_with fail
        refine (names_of HC.out kd nm s' p' ad2 cap2 wr HSl.out).mono ?_
        rintro e w2 ⟨v2, rfl, hs2, hb2⟩
        rw [HL2.out] at hs2
        have HB2 : Hid _ := HB.out.trans (hb2.mono hsw)
        have HSN : Hid (Strs w2 (w.heap.size + 1) (.slice da names.length dc) names) := HS.out.below hb2
        have hsz2 : w.heap.size + 1 ≤ w2.heap.size := Nat.le_trans hsw hb2.size
        rcases hs2.cases with ⟨rfl, e2⟩ | ⟨g, cg, rfl, hce⟩
        · subst e2
          rw [List.append_nil] at HX2 HR2
          clear hs2 hb2
          go_wp2_with (at_builtin; refine wpList_append_own_none rfl _ _ 54 rfl (w.heap.size + 1) 9 i0 1 Try.underlying54 hi _ _ _ rfl HSN.out rfl ?_)
          go_roundw
          case rel => exact ⟨j + 1, r, names, da, dc, by omega, by go_num, rfl, by have := HJ.out; simp only [EL.len] at this; show _ = _; omega, HRest, HX2, HR2, HSN, HB2⟩
          case measure => simp [intOf]; omega
        · have HCE2 : Hid _ := hce
          clear hs2 hb2 hce
          go_wp2_with (at_builtin; refine wpList_append_own_at _ rfl _ _ 54 rfl (w.heap.size + 1) 9 i0 (.string ⟨#[]⟩) 1 16 Try.underlying54 hi hz0 hz1 hz2 rfl (by decide) _ _ _ rfl HSN.out ⟨g, 0, none⟩ L2.length cg (L2.map fun x => Value.string x) rfl (by simp) HCE2.out (strs_one L2) (by unfold maxLen; omega) (by omega) hsz2 ?_)
          intro v' w3 hown' hgrow hnil hloc
          have HS3 : Hid (Strs w3 (w.heap.size + 1) v' (names ++ L2)) := by show w3.ownsRow _ _ _ _ _ _; simpa using hown'
          have HB3 : Hid _ := HB2.out.grown hgrow hsz2 (fun k hk => (HSN.out.own k hk).1)
          obtain ⟨da', dc', hv'⟩ := HS3.out.form
          subst hv'
          clear hown' hgrow hnil hloc
          go_wp2
          go_roundw
          case rel => exact ⟨j + 1, r, names ++ L2, da', dc', by omega, by go_num, rfl, by have := HJ.out; simp only [EL.len] at this; show _ = _; omega, HRest, HX2, HR2, HS3, HB3⟩
          case measure => simp [intOf]; omega
    · have hr : r = .nil := by cases r with
        | nil => rfl
        | cons kd nm s p a r => have := HJ.out; simp only [EL.len] at this; omega
      subst hr
      have HXX : Hid (names = namesL a) := by show _ = _; have := HX.out; simpa [namesL] using this
      have HL : Hid (namesS 1 s a = names) := by show _ = _; unfold namesS; rw [if_neg (by decide : ¬ (1 : Int) = 2)]; exact HXX.out.symm
      have hnl : names.length ≤ a.cnt := by have := HR.out; simp only [EL.cnt] at this; omega
      obtain ⟨n2, hn2⟩ : ∃ n2, names.length = n2 := ⟨_, rfl⟩
      have HN2 : Hid (names.length = n2) := hn2
      rw [hn2] at hnl ⊢
      have HSL : Hid (Strs wr (w.heap.size + 1) (.slice da n2 dc) names) := hn2 ▸ HS.out
      clear hn2
      go_wp2
      rename World => w2
      have HBv : Hid (GO w w2 (.slice oa on oc) (.slice oa on oc)) := GO.of _ HBw.out
      have HO2 : Hid (Ints w2 base (.slice oa on oc) out) := by have := HO.out.keep (fun k hk => HBw.out.block k (HOV.out k hk).2); rw [HON.out] at this; exact this
      have HT2 : Hid (THd w2 (.slice ta tn tc) (.slice oa on oc) th) := by have := HT.out; rw [HTN.out, HON.out] at this; exact this.go HBv.out
      have HNR : Hid (TRd w2 (.slice da n2 dc) (.slice oa on oc) names) := HSL.out.trd (fun g hg e => by have h5 := (HSL.out.own g hg).1; have h6 := HOV.out g (HON.out ▸ e); omega)
      have HSB : Hid (Beside w2 w.heap.size w2 (.slice oa on oc)) := ⟨rfl, hsw, fun e => by have h6 := HOV.out _ (HON.out ▸ e); omega⟩
      clear y0 y1 y2 y3 y4 y5

      go_loopw [3, 16] (fun ov i wq => ∃ (j : Nat) (o2 : List Int) (oa2 : Option Addr) (oc2 : Nat), j ≤ n2 ∧ o2.length + (n2 - j) ≤ on + n2 ∧ i = .int .i64 (j : Int) ∧ ov = .slice oa2 o2.length oc2 ∧ Hid (useN (tabOf th) (names.drop j) o2 = useN (tabOf th) names out) ∧ Hid (Ints wq base (.slice oa2 o2.length oc2) o2) ∧ Hid (GO w2 wq (.slice oa on oc) (.slice oa2 o2.length oc2))) (fun _ i _ => n2 - (intOf i).toNat)
      case atStart => exact ⟨0, out, oa, oc, Nat.zero_le _, by rw [HON.out]; omega, rfl, by rw [HON.out], rfl, by rw [HON.out]; exact HO2, by rw [HON.out]; exact GO.refl _ _⟩
      case round =>
        obtain ⟨j, o2, oa2, oc2, hj2, ho2, rfl, rfl, HU, HO3, HGO⟩ := hrel
        have HT3 : Hid (THd wr (.slice ta tn tc) (.slice oa2 o2.length oc2) th) := HT2.out.go HGO.out
        have HNR3 : Hid (TRd wr (.slice da n2 dc) (.slice oa2 o2.length oc2) names) := HNR.out.go HGO.out
        have hS3 := HSB.out.go HGO.out
        have HSB3 : Hid (Beside w2 w.heap.size wr (.slice oa2 o2.length oc2)) := hS3
        have HS63 : Hid _ := HS6.out.keep hS3.1
        obtain ⟨y0, y1, y2, y3, y4, y5⟩ := HS63.out
        have hsw3 : w.heap.size < wr.heap.size := hS3.2.1
        have HBW3 : Hid (Below W.heap.size W wr) := HO2.out.belowW hWb HGO.out HBW2.out
        have HG3 : Hid (GO w wr (.slice oa on oc) (.slice oa2 o2.length oc2)) := HBv.out.trans HGO.out
        have hbs3 : base ≤ wr.heap.size := by omega
        clear hS3
        by_cases hlt2 : j < n2
        · obtain ⟨na', ncap, nb, ne, nq1, nq2, nq3, nq4⟩ := HNR3.out
          have hjl : j < names.length := by have := HN2.out; omega
          obtain ⟨ne1, nlt, _⟩ := nq3 (by omega)
          injection ne with ne0 ne2 ne3
          subst ne1 ne0 ne3
          obtain ⟨x, hx⟩ : ∃ x, names[j] = x := ⟨_, rfl⟩
          have x1 : wr.cell? ⟨nb, j, none⟩ = some (.string x) := by rw [← hx]; exact nq4 j hjl
          have HDR : Hid (names.drop j = x :: names.drop (j + 1)) := by show _ = _; rw [List.drop_eq_getElem_cons hjl, hx]
          unfold maxLen at nq2
          rw [HN2.out] at nq1
          obtain ⟨r, hr⟩ : ∃ r, findI th x = r := ⟨_, rfl⟩
          have HFR : Hid (findI th x = r) := hr
          have hr9 : r < 11 := by have := findI_le th x; rw [hr] at this; have := HTN.out; omega
          have HFC : Hid (Calls Try.prog 30 #[.slice ta tn tc, .string x] wr (FPost r wr)) := by rw [← HFR.out]; exact find_any th _ _ x wr HT3.out.1 (by rw [HTN.out]; exact hth)
          clear hx hr nq3 nq4 ne2
          by_cases hneg : r < 0
          · have hrm : r = -1 := by rw [← HFR.out]; exact (findI_find th x).2 (by rw [HFR.out]; exact hneg)
            subst hrm
            have HRR : Hid (res = .err 60) := by
              have h5 : useN (tabOf th) names out = none := by rw [← HU.out, HDR.out]; unfold useN; rw [find_neg HFR.out]
              show _ = _
              rw [← HRES.out, HL.out]
              unfold namesR
              show ((Res.andThen (match useN (tabOf th) names out with | none => Res.err 60 | some o => Res.ok ⟨tabOf th, o, most⟩) _).andThen _).andThen _ = _
              rw [h5]
              rfl
            go_wp2_with fail
            refine HFC.out.mono ?_
            rintro e w3 ⟨rfl, hb3⟩
            have HG4 : Hid _ := HG3.out.after hb3
            clear hb3
            go_wp2
            (try simp only [Exit.inBlock, Exit.then])
            refine bodyPost_ret (results_tmp4 rfl _ _ _) rfl ?_
            rw [HRR.out]
            exact ⟨⟨_, _, _, _, rfl⟩, rfl, _, HG4.out⟩
          · have HU2 : Hid (useN (tabOf th) (names.drop (j + 1)) (o2 ++ [r]) = useN (tabOf th) names out) := by
              show _ = _
              rw [← HU.out, HDR.out]
              conv => rhs; unfold useN
              rw [find_pos HFR.out hneg]
            go_wp2_with fail
            refine HFC.out.mono ?_
            rintro e w3 ⟨rfl, hb3⟩
            have HG4 : Hid (GO w2 w3 (.slice oa on oc) (.slice oa2 o2.length oc2)) := HGO.out.after hb3
            have HO4 : Hid (∀ o, (w3.alloc o).ownsRow base 3 1 (.slice oa2 o2.length oc2) o2.length (o2.map fun x => Value.int .i64 x)) := fun o => World.ownsRow.alloc (HO3.out.keep (fun k hk => hb3.block k (HO3.out.own k hk).2)) o
            have hbs4 : base ≤ w3.heap.size := Nat.le_trans hbs3 hb3.size
            clear hb3
            go_wp2_with (at_builtin; refine wpList_append_own_at _ rfl _ _ 25 rfl base 3 j0 (.int .i64 0) 1 8 Try.underlying25 hj hy0 hy1 hy2 rfl (by decide) _ _ _ rfl (HO4.out _) ⟨w3.heap.size, 0, none⟩ 1 1 [.int .i64 r] rfl rfl (cell_one_new _ _ _) (ints_one [r]) (by unfold maxLen; omega) (by omega) (by simp; omega) ?_)
            intro v' w4 hown' hgrow hnil hloc
            have HG5 : Hid (GO w2 w4 (.slice oa on oc) v') := HG4.out.trans (GO.pushed hgrow hloc)
            have HO5 : Hid (Ints w4 base v' (o2 ++ [r])) := by show w4.ownsRow _ _ _ _ _ _; simpa using hown'
            obtain ⟨oa3, oc3, hv3⟩ := HO5.out.form
            subst hv3
            clear hown' hgrow hnil hloc
            go_wp2
            go_roundw
            case rel => exact ⟨j + 1, o2 ++ [r], oa3, oc3, by omega, by simp; omega, by go_num, rfl, HU2, HO5, HG5⟩
            case measure => simp [intOf]; omega
        · have hjn : j = n2 := by omega
          have HUU : Hid (useN (tabOf th) names out = some o2) := by
            show _ = _
            rw [← HU.out, List.drop_of_length_le (by have := HN2.out; omega)]
            rfl
          have HR0 : Hid ((((ownR (min cc 4) 1 s c ⟨tabOf th, o2, most⟩)).andThen (fun s1 => (runL (min cc 4) b s1).shut s1.T)).andThen (fun s2 => (runL (min cc 4) e s2).shut s2.T) = res) := by
            show _ = _
            rw [← HRES.out, HL.out]
            unfold namesR
            show _ = ((Res.andThen (match useN (tabOf th) names out with | none => Res.err 60 | some o => Res.ok ⟨tabOf th, o, most⟩) _).andThen _).andThen _
            rw [HUU.out]
            rfl
          have hol : o2.length ≤ on + (a.cnt + 1) := by omega
          obtain ⟨r, hr⟩ : ∃ r, findI th s = r := ⟨_, rfl⟩
          have HFR : Hid (findI th s = r) := hr
          have hr9 : r < 11 := by have := findI_le th s; rw [hr] at this; have := HTN.out; omega
          have HFC : Hid (Calls Try.prog 30 #[.slice ta tn tc, .string s] wr (FPost r wr)) := by rw [← HFR.out]; exact find_any th _ _ s wr HT3.out.1 (by rw [HTN.out]; exact hth)
          clear hr
          by_cases hneg : r < 0
          · have hrm : r = -1 := by rw [← HFR.out]; exact (findI_find th s).2 (by rw [HFR.out]; exact hneg)
            subst hrm
            go_wp2_with fail
            refine HFC.out.mono ?_
            rintro e9 w3 ⟨rfl, hb3⟩
            have HG4 : Hid (GO w w3 (.slice oa on oc) (.slice oa2 o2.length oc2)) := HG3.out.after hb3
            have HG4' : Hid (GO wr w3 (.slice oa2 o2.length oc2) (.slice oa2 o2.length oc2)) := GO.of _ hb3
            by_cases h8 : 8 ≤ tn
            · have HRR : Hid (res = .err 62) := by
                show _ = _
                rw [← HR0.out]
                unfold ownR
                rw [if_neg (fun h => absurd h.1 (by decide)), if_pos rfl]
                show ((Res.andThen (match find (tabOf th) s.data.toList with | some _ => _ | none => _) _).andThen _) = _
                rw [find_neg HFR.out]
                show (((if 11 ≤ (tabOf th).length then Res.err 62 else _).andThen _).andThen _) = _
                rw [if_pos (by rw [tabOf_len, HTN.out]; omega)]
                rfl
              clear hb3
              go_wp2
              (try simp only [Exit.inBlock, Exit.then])
              refine bodyPost_ret (results_tmp4 rfl _ _ _) rfl ?_
              rw [HRR.out]
              exact ⟨⟨_, _, _, _, rfl⟩, rfl, _, HG4.out⟩
            · have HO4 : Hid (Ints w3 base (.slice oa2 o2.length oc2) o2) := HO3.out.keep (fun k hk => hb3.block k (HO3.out.own k hk).2)
              have HOA4 : Hid (∀ o, (w3.alloc o).ownsRow base 3 1 (.slice oa2 o2.length oc2) o2.length (o2.map fun x => Value.int .i64 x)) := fun o => World.ownsRow.alloc HO4.out o
              have hbs4 : base ≤ w3.heap.size := Nat.le_trans hbs3 hb3.size
              have hS4 := HSB3.out.go HG4'.out
              have HS64 : Hid _ := HS6.out.keep hS4.1
              clear y0 y1 y2 y3 y4 y5
              obtain ⟨y0, y1, y2, y3, y4, y5⟩ := HS64.out
              have hsw4 : w.heap.size < w3.heap.size := hS4.2.1
              have HSB4 : Hid (Beside w2 w.heap.size w3 (.slice oa2 o2.length oc2)) := hS4
              have HT4 : Hid (THd w3 (.slice ta tn tc) (.slice oa2 o2.length oc2) th) := HT3.out.go HG4'.out
              clear hb3 hS4
              go_wp2_with (at_builtin; refine wpList_append_own_at _ rfl _ _ 25 rfl base 3 j0 (.int .i64 0) 1 8 Try.underlying25 hj hy0 hy1 hy2 rfl (by decide) _ _ _ rfl (HOA4.out _) ⟨w3.heap.size, 0, none⟩ 1 1 [.int .i64 (3 + (tn : Int))] rfl rfl (cell_one_new _ _ _) (ints_one [3 + (tn : Int)]) (by unfold maxLen; omega) (by omega) (by simp; omega) ?_)
              intro v' w4 hown' hgrow hnil hloc
              have HGA : Hid (GO w3 w4 (.slice oa2 o2.length oc2) v') := GO.pushed hgrow hloc
              obtain ⟨o3, ho3⟩ : ∃ o3, o2 ++ [3 + (tn : Int)] = o3 := ⟨_, rfl⟩
              have HOE : Hid (o2 ++ [3 + (tn : Int)] = o3) := ho3
              have HO5 : Hid (Ints w4 base v' o3) := by rw [← ho3]; show w4.ownsRow _ _ _ _ _ _; simpa using hown'
              have hol3 : o3.length ≤ on + (a.cnt + 1) := by rw [← ho3]; simp; omega
              obtain ⟨oa3, oc3, hv3⟩ := HO5.out.form
              subst hv3
              have HG5 : Hid (GO w w4 (.slice oa on oc) (.slice oa3 o3.length oc3)) := HG4.out.trans HGA.out
              have hS5 := HSB4.out.go HGA.out
              have HS65 : Hid _ := HS6.out.keep hS5.1
              clear y0 y1 y2 y3 y4 y5
              obtain ⟨y0, y1, y2, y3, y4, y5⟩ := HS65.out
              have hsw5 : w.heap.size < w4.heap.size := hS5.2.1
              have HSB5 : Hid (Beside w2 w.heap.size w4 (.slice oa3 o3.length oc3)) := hS5
              have HT5 : Hid (THd w4 (.slice ta tn tc) (.slice oa3 o3.length oc3) th) := HT4.out.go HGA.out
              have hbs5 : base ≤ w4.heap.size := Nat.le_trans hbs4 HGA.out.size
              clear hown' hgrow hnil hloc ho3 hS5
              have HSK : Hid (∀ w', Below w4.heap.size w4 w' → w'.cell? ⟨w.heap.size, 1, none⟩ = some (.string s)) := fun w' hb => (HS65.out.keep (hb.block _ hsw5)).c1
              have HEE : Hid (Below w4.heap.size w4 (w4.alloc (.cells #[] 9)).drew) := ((Below.refl _ w4).alloc (Nat.le_refl _) _).drew
              have HES : Hid (Below w4.heap.size w4 ((w4.alloc (.cells #[] 9)).alloc (.cells #[.string s] 9)).drew) := (((Below.refl _ w4).alloc (Nat.le_refl _) _).alloc (by simp) _).drew
              have HSE : Hid (Below w4.heap.size w4 ((w4.alloc (.cells #[.string s] 9)).alloc (.cells #[] 9)).drew) := (((Below.refl _ w4).alloc (Nat.le_refl _) _).alloc (by simp) _).drew
              have HOE0 : Hid ((w4.alloc (.cells #[] 9)).drew.ownsRow w4.heap.size 9 1 (.slice (some ⟨w4.heap.size, 0, none⟩) 0 0) 0 []) := owns_drew (owns_empty w4)
              have HOES : Hid (((w4.alloc (.cells #[] 9)).alloc (.cells #[.string s] 9)).drew.ownsRow w4.heap.size 9 1 (.slice (some ⟨w4.heap.size, 0, none⟩) 0 0) 0 []) := owns_drew (World.ownsRow.alloc (owns_empty w4) _)
              have HOSE : Hid (((w4.alloc (.cells #[.string s] 9)).alloc (.cells #[] 9)).drew.ownsRow w4.heap.size 9 1 (.slice (some ⟨w4.heap.size + 1, 0, none⟩) 0 0) 0 []) := by have := owns_empty (w4.alloc (.cells #[.string s] 9)); exact owns_drew (ownsRow_mono (by simpa using this) (by simp))
              go_upto_region 23 with fail
              go_cut [1] (fun sv wx => ∃ g2 cap2, sv = .slice (some ⟨g2, 0, none⟩) (tn + 1) cap2 ∧ Hid (Strs wx w4.heap.size (.slice (some ⟨g2, 0, none⟩) (tn + 1) cap2) (th ++ [s])) ∧ Hid (Below w4.heap.size w4 wx))
              case first =>
                by_cases h00 : tn = 0
                · subst h00
                  have HTH : Hid (th = []) := List.eq_nil_of_length_eq_zero HTN.out
                  obtain ⟨rfl, rfl⟩ : ta = none ∧ tc = 0 := by have := HT5.out.2 HTN.out; injection this with h1 _ h3; exact ⟨h1, h3⟩
                  go_region_held_law (fun w' => w'.cell? ⟨w.heap.size, 1, none⟩ = some (.string s)) (first | assumption | go_keep | (exact HSK.out _ HBF.out)) (first | (refine step_append_none rfl _ _ _ rfl w4.heap.size 9 i0 1 Try.underlying54 hi (.slice (some ⟨w4.heap.size, 0, none⟩) 0 0) 0 [] rfl HOE0.out rfl ?_) | (refine step_append_none rfl _ _ _ rfl w4.heap.size 9 i0 1 Try.underlying54 hi (.slice (some ⟨w4.heap.size, 0, none⟩) 0 0) 0 [] rfl HOES.out rfl ?_) | (refine step_append_none rfl _ _ _ rfl w4.heap.size 9 i0 1 Try.underlying54 hi (.slice (some ⟨w4.heap.size + 1, 0, none⟩) 0 0) 0 [] rfl HOSE.out rfl ?_) | (refine step_append_lies _ rfl _ _ _ rfl w4.heap.size 9 i0 (.string ⟨#[]⟩) 1 16 Try.underlying54 hi hz0 hz1 hz2 rfl (by decide) (.slice (some ⟨w4.heap.size, 0, none⟩) 0 0) 0 [] rfl HOES.out ⟨w4.heap.size + 1, 0, none⟩ 1 1 [.string s] rfl rfl (one_es w4 s) (strs_one [s]) (by decide) (by unfold maxLen; omega) (by omega) HES.out.size _ rfl ?_; intro g2 cap2 w6 hown2 hgrow2 hat2 hlt2; have HTF : Hid (Strs w6 w4.heap.size (.slice (some ⟨g2, 0, none⟩) (0 + 1) cap2) (th ++ [s])) := (by rw [HTH.out]; exact hown2); have HBF : Hid (Below w4.heap.size w4 w6) := HES.out.grown hgrow2 HES.out.size (fun k hk => by cases hk; first | exact Nat.le_refl _ | exact Nat.le_succ _); clear hown2 hgrow2 hat2 hlt2) | (refine step_append_lies _ rfl _ _ _ rfl w4.heap.size 9 i0 (.string ⟨#[]⟩) 1 16 Try.underlying54 hi hz0 hz1 hz2 rfl (by decide) (.slice (some ⟨w4.heap.size + 1, 0, none⟩) 0 0) 0 [] rfl HOSE.out ⟨w4.heap.size, 0, none⟩ 1 1 [.string s] rfl rfl (one_se w4 s) (strs_one [s]) (by decide) (by unfold maxLen; omega) (by omega) HSE.out.size _ rfl ?_; intro g2 cap2 w6 hown2 hgrow2 hat2 hlt2; have HTF : Hid (Strs w6 w4.heap.size (.slice (some ⟨g2, 0, none⟩) (0 + 1) cap2) (th ++ [s])) := (by rw [HTH.out]; exact hown2); have HBF : Hid (Below w4.heap.size w4 w6) := HSE.out.grown hgrow2 HSE.out.size (fun k hk => by cases hk; first | exact Nat.le_refl _ | exact Nat.le_succ _); clear hown2 hgrow2 hat2 hlt2))
                  all_goals
                    (try simp only [List.getElem_toArray, List.getElem_cons_zero, List.getElem_cons_succ, Act.put, List.setIfInBounds_toArray, List.set_cons_zero, List.set_cons_succ])
                    go_wp2_with fail
                    go_meet
                    exact ⟨g2, cap2, rfl, HTF, HBF⟩
                · have hpos : 0 < tn := by omega
                  have HLN : Hid ((th.map fun x => Value.string x).length = tn * 1) := by show _ = _; rw [List.length_map, HTN.out, Nat.mul_one]
                  obtain ⟨tb, rfl, HNW⟩ : ∃ tb, ta = some ⟨tb, 0, none⟩ ∧ Hid (∀ w', Below w4.heap.size w4 w' → ∀ j u, (th.map fun x => Value.string x)[j]? = some u → w'.cell? ((⟨tb, 0, none⟩ : Addr).add j) = some u) := by
                    obtain ⟨a9, c9, tb, e9, _, _, q3, q4⟩ := HT5.out.1
                    obtain ⟨q5, q6, _⟩ := q3 (by rw [HTN.out]; omega)
                    injection e9 with e9 _ _
                    refine ⟨tb, by rw [e9, q5], fun w' hb j u hu => ?_⟩
                    obtain ⟨hj9, hu9⟩ := List.getElem?_eq_some_iff.1 hu
                    rw [List.length_map] at hj9
                    rw [← hu9, List.getElem_map]
                    have := (hb.cell (p := ⟨tb, j, none⟩) q6).trans (q4 j hj9)
                    rw [add_off]
                    exact this
                  go_region_held_law (fun w' => w'.cell? ⟨w.heap.size, 1, none⟩ = some (.string s)) (first | assumption | go_keep | (exact HSK.out _ HB1.out) | (exact HSK.out _ HBF.out) | (exact HSK.out _ (HB1.out.alloc HB1.out.size _))) (first | (refine step_append_lies _ rfl _ _ _ rfl w4.heap.size 9 i0 (.string ⟨#[]⟩) 1 16 Try.underlying54 hi hz0 hz1 hz2 rfl (by decide) (.slice (some ⟨w4.heap.size, 0, none⟩) 0 0) 0 [] rfl HOE0.out ⟨tb, 0, none⟩ tn tc (th.map fun x => Value.string x) rfl HLN.out (HNW.out _ HEE.out) (strs_one th) hpos (by unfold maxLen; omega) (by omega) HEE.out.size _ rfl ?_; intro g1 cap1 w5 hown1 hgrow1 hat1 hlt1; have HO1 : Hid (w5.ownsRow w4.heap.size 9 1 (.slice (some ⟨g1, 0, none⟩) tn cap1) tn (th.map fun x => Value.string x)) := (by show World.ownsRow _ _ _ _ _ _ _; simpa using hown1); have HB1 : Hid (Below w4.heap.size w4 w5) := HEE.out.grown hgrow1 HEE.out.size (fun k hk => by cases hk; first | exact Nat.le_refl _ | exact Nat.le_succ _); have HO1r : Hid (w5.ownsRow w4.heap.size 9 1 (.slice (some ⟨g1, 0, none⟩) (0 + tn) cap1) (0 + tn) ([] ++ (th.map fun x => Value.string x))) := hown1; clear hown1) | (refine step_append_lies _ rfl _ _ _ rfl w4.heap.size 9 i0 (.string ⟨#[]⟩) 1 16 Try.underlying54 hi hz0 hz1 hz2 rfl (by decide) (.slice (some ⟨w4.heap.size, 0, none⟩) 0 0) 0 [] rfl HOES.out ⟨tb, 0, none⟩ tn tc (th.map fun x => Value.string x) rfl HLN.out (HNW.out _ HES.out) (strs_one th) hpos (by unfold maxLen; omega) (by omega) HES.out.size _ rfl ?_; intro g1 cap1 w5 hown1 hgrow1 hat1 hlt1; have HO1 : Hid (w5.ownsRow w4.heap.size 9 1 (.slice (some ⟨g1, 0, none⟩) tn cap1) tn (th.map fun x => Value.string x)) := (by show World.ownsRow _ _ _ _ _ _ _; simpa using hown1); have HB1 : Hid (Below w4.heap.size w4 w5) := HES.out.grown hgrow1 HES.out.size (fun k hk => by cases hk; first | exact Nat.le_refl _ | exact Nat.le_succ _); have HO1r : Hid (w5.ownsRow w4.heap.size 9 1 (.slice (some ⟨g1, 0, none⟩) (0 + tn) cap1) (0 + tn) ([] ++ (th.map fun x => Value.string x))) := hown1; clear hown1) | (refine step_append_lies _ rfl _ _ _ rfl w4.heap.size 9 i0 (.string ⟨#[]⟩) 1 16 Try.underlying54 hi hz0 hz1 hz2 rfl (by decide) (.slice (some ⟨w4.heap.size + 1, 0, none⟩) 0 0) 0 [] rfl HOSE.out ⟨tb, 0, none⟩ tn tc (th.map fun x => Value.string x) rfl HLN.out (HNW.out _ HSE.out) (strs_one th) hpos (by unfold maxLen; omega) (by omega) HSE.out.size _ rfl ?_; intro g1 cap1 w5 hown1 hgrow1 hat1 hlt1; have HO1 : Hid (w5.ownsRow w4.heap.size 9 1 (.slice (some ⟨g1, 0, none⟩) tn cap1) tn (th.map fun x => Value.string x)) := (by show World.ownsRow _ _ _ _ _ _ _; simpa using hown1); have HB1 : Hid (Below w4.heap.size w4 w5) := HSE.out.grown hgrow1 HSE.out.size (fun k hk => by cases hk; first | exact Nat.le_refl _ | exact Nat.le_succ _); have HO1r : Hid (w5.ownsRow w4.heap.size 9 1 (.slice (some ⟨g1, 0, none⟩) (0 + tn) cap1) (0 + tn) ([] ++ (th.map fun x => Value.string x))) := hown1; clear hown1) | (refine step_append_lies _ rfl _ _ _ rfl w4.heap.size 9 i0 (.string ⟨#[]⟩) 1 16 Try.underlying54 hi hz0 hz1 hz2 rfl (by decide) (.slice (some ⟨g1, 0, none⟩) tn cap1) tn (th.map fun x => Value.string x) rfl (World.ownsRow.alloc HO1.out _) ⟨w5.heap.size, 0, none⟩ 1 1 [.string s] rfl rfl (cell_one_new _ _ _) (strs_one [s]) (by decide) (by unfold maxLen; omega) (by omega) (HB1.out.alloc HB1.out.size _).size _ rfl ?_; intro g2 cap2 w6 hown2 hgrow2 hat2 hlt2; have HTF : Hid (Strs w6 w4.heap.size (.slice (some ⟨g2, 0, none⟩) (tn + 1) cap2) (th ++ [s])) := (by show w6.ownsRow _ _ _ _ _ _; rw [List.length_append, HTN.out, List.map_append]; first | exact hown2 | (have h := hown2; rw [Nat.zero_add] at h; exact h)); have HBF : Hid (Below w4.heap.size w4 w6) := (HB1.out.alloc HB1.out.size _).grown hgrow2 (HB1.out.alloc HB1.out.size _).size (fun k hk => (World.ownsRow.lt HO1.out k hk).1); clear hown2 hgrow2 hat2 hlt2) | (refine step_append_lies _ rfl _ _ _ rfl w4.heap.size 9 i0 (.string ⟨#[]⟩) 1 16 Try.underlying54 hi hz0 hz1 hz2 rfl (by decide) (.slice (some ⟨g1, 0, none⟩) (0 + tn) cap1) (0 + tn) ([] ++ (th.map fun x => Value.string x)) rfl HO1r.out ⟨w4.heap.size + 1, 0, none⟩ 1 1 [.string s] rfl rfl (one_kept (w := ((w4.alloc (.cells #[] 9)).alloc (.cells #[.string s] 9)).drew) hgrow1 (by simp) (by omega) (one_es w4 s)) (strs_one [s]) (by decide) (by unfold maxLen; omega) (by omega) HB1.out.size _ rfl ?_; intro g2 cap2 w6 hown2 hgrow2 hat2 hlt2; have HTF : Hid (Strs w6 w4.heap.size (.slice (some ⟨g2, 0, none⟩) (tn + 1) cap2) (th ++ [s])) := (by show w6.ownsRow _ _ _ _ _ _; rw [List.length_append, HTN.out, List.map_append]; first | exact hown2 | (have h := hown2; rw [Nat.zero_add] at h; exact h)); have HBF : Hid (Below w4.heap.size w4 w6) := HB1.out.grown hgrow2 HB1.out.size (fun k hk => (World.ownsRow.lt HO1.out k hk).1); clear hown2 hgrow2 hat2 hlt2) | (refine step_append_lies _ rfl _ _ _ rfl w4.heap.size 9 i0 (.string ⟨#[]⟩) 1 16 Try.underlying54 hi hz0 hz1 hz2 rfl (by decide) (.slice (some ⟨g1, 0, none⟩) (0 + tn) cap1) (0 + tn) ([] ++ (th.map fun x => Value.string x)) rfl HO1r.out ⟨w4.heap.size, 0, none⟩ 1 1 [.string s] rfl rfl (one_kept (w := ((w4.alloc (.cells #[.string s] 9)).alloc (.cells #[] 9)).drew) hgrow1 (by simp; omega) (by omega) (one_se w4 s)) (strs_one [s]) (by decide) (by unfold maxLen; omega) (by omega) HB1.out.size _ rfl ?_; intro g2 cap2 w6 hown2 hgrow2 hat2 hlt2; have HTF : Hid (Strs w6 w4.heap.size (.slice (some ⟨g2, 0, none⟩) (tn + 1) cap2) (th ++ [s])) := (by show w6.ownsRow _ _ _ _ _ _; rw [List.length_append, HTN.out, List.map_append]; first | exact hown2 | (have h := hown2; rw [Nat.zero_add] at h; exact h)); have HBF : Hid (Below w4.heap.size w4 w6) := HB1.out.grown hgrow2 HB1.out.size (fun k hk => (World.ownsRow.lt HO1.out k hk).1); clear hown2 hgrow2 hat2 hlt2))
                  all_goals
                    (try simp only [List.getElem_toArray, List.getElem_cons_zero, List.getElem_cons_succ, Act.put, List.setIfInBounds_toArray, List.set_cons_zero, List.set_cons_succ])
                    go_wp2_with fail
                    go_meet
                    exact ⟨g2, cap2, rfl, HTF, HBF⟩
              case rest =>
                obtain ⟨g2, cap2, rfl, HTF, HBF⟩ := hcut
                rename World => w6
                have HTX : Hid (THd w6 (.slice (some ⟨g2, 0, none⟩) (tn + 1) cap2) (.slice oa3 o3.length oc3) (th ++ [s])) := ⟨HTF.out.trd (fun g hg e => by have h5 := (HTF.out.own g hg).1; have h6 := (HO5.out.own g e).2; omega), fun h => by simp at h⟩
                have HTNX : Hid ((th ++ [s]).length = tn + 1) := by show _ = _; rw [List.length_append, HTN.out]; rfl
                have HGF : Hid (GO w4 w6 (.slice oa3 o3.length oc3) (.slice oa3 o3.length oc3)) := GO.of _ HBF.out
                have HGX : Hid (GO w w6 (.slice oa on oc) (.slice oa3 o3.length oc3)) := HG5.out.trans HGF.out
                have HOX : Hid (Ints w6 base (.slice oa3 o3.length oc3) o3) := HO5.out.keep (fun k hk => HBF.out.block k (HO5.out.own k hk).2)
                have hbsX : base ≤ w6.heap.size := Nat.le_trans hbs5 HBF.out.size
                have hSX := HSB5.out.go HGF.out
                have HSBX : Hid (Beside w2 w.heap.size w6 (.slice oa3 o3.length oc3)) := hSX
                have HS6X : Hid _ := HS6.out.keep hSX.1
                clear y0 y1 y2 y3 y4 y5
                obtain ⟨y0, y1, y2, y3, y4, y5⟩ := HS6X.out
                have hswX : w.heap.size < w6.heap.size := hSX.2.1
                have HBX2 : Hid (Below W.heap.size W w6) := HO2.out.belowW hWb (HGO.out.trans (HG4'.out.trans (HGA.out.trans HGF.out))) HBW2.out
                have HRV : Hid (((runL (min cc 4) b ⟨tabOf (th ++ [s]), o3, max most ((tn : Int) + 1)⟩).shut (tabOf (th ++ [s]))).andThen (fun s2 => (runL (min cc 4) e s2).shut s2.T) = res) := by
                  show _ = _
                  rw [← HR0.out]
                  unfold ownR
                  rw [if_neg (fun h => absurd h.1 (by decide)), if_pos rfl]
                  show _ = ((Res.andThen (match find (tabOf th) s.data.toList with | some _ => _ | none => _) _).andThen _)
                  rw [find_neg HFR.out]
                  show _ = (((if 11 ≤ (tabOf th).length then Res.err 62 else Res.ok ⟨tabOf th ++ [(s.data.toList, ((tabOf th).length : Int))], o2 ++ [((tabOf th).length : Int)], max most (((tabOf th).length : Int) - 3 + 1)⟩).andThen _).andThen _)
                  rw [if_neg (by rw [tabOf_len, HTN.out]; omega), ← tabOf_snoc, tabOf_len, HTN.out, ← HOE.out, show ((tn + 3 : Nat) : Int) = 3 + (tn : Int) by omega, show (3 : Int) + (tn : Int) - 3 + 1 = (tn : Int) + 1 by omega]
                  rfl
                clear hSX
                by_cases hmo : most < (tn : Int) + 1
                · have HR1 : Hid (((runL (min cc 4) b ⟨tabOf (th ++ [s]), o3, ((tn : Int) + 1)⟩).shut (tabOf (th ++ [s]))).andThen (fun s2 => (runL (min cc 4) e s2).shut s2.T) = res) := by show _ = _; rw [← HRV.out, show max most ((tn : Int) + 1) = (tn : Int) + 1 by omega]
                  have HGD : Hid (Good ⟨tabOf (th ++ [s]), o3, ((tn : Int) + 1)⟩) := good_var HG.out (find_neg HFR.out) (by have := HTN.out; omega) _ _ (by omega) (by omega)
                  have hgm0 : 0 ≤ ((tn : Int) + 1) := HGD.out.m0
                  have hgm1 : ((tn : Int) + 1) ≤ 8 := HGD.out.m1
                  have HC1 : Hid (Calls Try.prog 18 #[.slice ab b.len cb, .slice (some ⟨g2, 0, none⟩) (tn + 1) cap2, .int .i64 cc, .slice oa3 o3.length oc3, .int .i64 ((tn : Int) + 1)] w6 (OPost base w6 (.slice oa3 o3.length oc3) (runL (min cc 4) b ⟨tabOf (th ++ [s]), o3, ((tn : Int) + 1)⟩))) := by
                    have := HCB.out _ w6 (th ++ [s]) (some ⟨g2, 0, none⟩) cap2 oa3 oc3 o3 ((tn : Int) + 1) HBd.out (by rw [HTNX.out]; exact HTX.out) HOX.out hbsX HGD.out HBX2.out (by omega)
                    rw [HTNX.out] at this
                    exact this
                  go_wp2_with fail
                  refine HC1.out.mono ?_
                  intro e1 w5 hp
                  rcases r3 : runL (min cc 4) b ⟨tabOf (th ++ [s]), o3, ((tn : Int) + 1)⟩ with x | s3
                  · rw [r3] at hp
                    have hp2 := hp.pre HGX.out
                    obtain ⟨⟨ta5, tn5, tc5, m5, rfl⟩, hx, hq⟩ := hp2
                    have HQ : Hid _ := hq
                    have HRR : Hid (res = .err x) := by show _ = _; rw [← HR1.out, r3]; rfl
                    clear hp hq r3
                    go_wp2
                    (try simp only [Exit.inBlock, Exit.then])
                    refine bodyPost_ret (results_tmp4 rfl _ _ _) rfl ?_
                    rw [HRR.out]
                    exact ⟨⟨_, _, _, _, rfl⟩, hx, HQ.out⟩
                  · rw [r3] at hp
                    obtain ⟨th5, ta5, tc5, oa5, oc5, rfl, hT5, hO5, hR5, hG5⟩ := hp
                    have HO6 : Hid (Ints w5 base (.slice oa5 s3.out.length oc5) s3.out) := hO5
                    have HG6 : Hid (GO w w5 (.slice oa on oc) (.slice oa5 s3.out.length oc5)) := HGX.out.trans hG5
                    have HT6 : Hid (THd w5 (.slice (some ⟨g2, 0, none⟩) (tn + 1) cap2) (.slice oa5 s3.out.length oc5) (th ++ [s])) := HTX.out.go hG5
                    have hS5 := HSBX.out.go hG5
                    have HS65 : Hid _ := HS6.out.keep hS5.1
                    obtain ⟨hgd5, hT55, hlen5⟩ := shutL_good (st1 := ⟨tabOf (th ++ [s]), s3.out, s3.most⟩) (cells := min cc 4) (l := b) HGD.out (by rw [r3]; rfl)
                    have HGD5 : Hid (Good ⟨tabOf (th ++ [s]), s3.out, s3.most⟩) := hgd5
                    have hle5 : s3.out.length ≤ o3.length + b.cnt := hlen5
                    have HB5 : Hid (Below W.heap.size W w5) := HOX.out.belowW hWb hG5 HBX2.out
                    have hbs5 : base ≤ w5.heap.size := Nat.le_trans hbsX hG5.size
                    have hm50 : 0 ≤ s3.most := hgd5.m0
                    have hm51 : s3.most ≤ 8 := hgd5.m1
                    have HR6 : Hid ((runL (min cc 4) e ⟨tabOf (th ++ [s]), s3.out, s3.most⟩).shut (tabOf (th ++ [s])) = res) := by show _ = _; rw [← HR1.out, r3]; rfl
                    clear y0 y1 y2 y3 y4 y5
                    obtain ⟨y0, y1, y2, y3, y4, y5⟩ := HS65.out
                    have hsw5 : w.heap.size < w5.heap.size := hS5.2.1
                    clear hT5 hO5 hR5 hG5 hS5 r3 hgd5 hT55 hlen5
                    have HC2 : Hid (Calls Try.prog 18 #[.slice ae e.len ce, .slice (some ⟨g2, 0, none⟩) (tn + 1) cap2, .int .i64 cc, .slice oa5 s3.out.length oc5, .int .i64 s3.most] w5 (OPost base w5 (.slice oa5 s3.out.length oc5) (runL (min cc 4) e ⟨tabOf (th ++ [s]), s3.out, s3.most⟩))) := by
                      have := HCE.out _ w5 (th ++ [s]) (some ⟨g2, 0, none⟩) cap2 oa5 oc5 s3.out s3.most HEl.out (by rw [HTNX.out]; exact HT6.out) HO6.out hbs5 HGD5.out HB5.out (by omega)
                      rw [HTNX.out] at this
                      exact this
                    go_wp2_with fail
                    refine HC2.out.mono ?_
                    intro e1 w6 hp
                    rcases r4 : runL (min cc 4) e ⟨tabOf (th ++ [s]), s3.out, s3.most⟩ with x | s4
                    · rw [r4] at hp
                      have hp2 := hp.pre HG6.out
                      obtain ⟨⟨ta6, tn6, tc6, m6, rfl⟩, hx, hq⟩ := hp2
                      have HQ : Hid _ := hq
                      have HRR : Hid (res = .err x) := by show _ = _; rw [← HR6.out, r4]; rfl
                      clear hp hq r4
                      go_wp2
                      (try simp only [Exit.inBlock, Exit.then])
                      refine bodyPost_ret (results_tmp4 rfl _ _ _) rfl ?_
                      rw [HRR.out]
                      exact ⟨⟨_, _, _, _, rfl⟩, hx, HQ.out⟩
                    · rw [r4] at hp
                      obtain ⟨th6, ta6, tc6, oa6, oc6, rfl, hT6, hO6, hR6, hG6⟩ := hp
                      have HO7 : Hid (Ints w6 base (.slice oa6 s4.out.length oc6) s4.out) := hO6
                      have HG7 : Hid (GO w w6 (.slice oa on oc) (.slice oa6 s4.out.length oc6)) := HG6.out.trans hG6
                      have HT7 : Hid (THd w6 (.slice (some ⟨g2, 0, none⟩) (tn + 1) cap2) (.slice oa6 s4.out.length oc6) (th ++ [s])) := HT6.out.go hG6
                      have HRR : Hid (res = .ok ⟨tabOf (th ++ [s]), s4.out, s4.most⟩) := by show _ = _; rw [← HR6.out, r4]; rfl
                      clear hT6 hO6 hR6 hG6 r4
                      go_wp2
                      (try simp only [Exit.inBlock, Exit.then])
                      refine bodyPost_ret (results_tmp4 rfl _ _ _) rfl ?_
                      rw [HRR.out]
                      exact ⟨(th ++ [s]), (some ⟨g2, 0, none⟩), cap2, oa6, oc6, by rw [HTNX.out]; rfl, rfl, HO7.out, by rw [HTNX.out]; exact HT7.out, HG7.out⟩
                · have HR1 : Hid (((runL (min cc 4) b ⟨tabOf (th ++ [s]), o3, most⟩).shut (tabOf (th ++ [s]))).andThen (fun s2 => (runL (min cc 4) e s2).shut s2.T) = res) := by show _ = _; rw [← HRV.out, show max most ((tn : Int) + 1) = most by omega]
                  have HGD : Hid (Good ⟨tabOf (th ++ [s]), o3, most⟩) := good_var HG.out (find_neg HFR.out) (by have := HTN.out; omega) _ _ (by omega) (by omega)
                  have hgm0 : 0 ≤ most := HGD.out.m0
                  have hgm1 : most ≤ 8 := HGD.out.m1
                  have HC1 : Hid (Calls Try.prog 18 #[.slice ab b.len cb, .slice (some ⟨g2, 0, none⟩) (tn + 1) cap2, .int .i64 cc, .slice oa3 o3.length oc3, .int .i64 most] w6 (OPost base w6 (.slice oa3 o3.length oc3) (runL (min cc 4) b ⟨tabOf (th ++ [s]), o3, most⟩))) := by
                    have := HCB.out _ w6 (th ++ [s]) (some ⟨g2, 0, none⟩) cap2 oa3 oc3 o3 most HBd.out (by rw [HTNX.out]; exact HTX.out) HOX.out hbsX HGD.out HBX2.out (by omega)
                    rw [HTNX.out] at this
                    exact this
                  go_wp2_with fail
                  refine HC1.out.mono ?_
                  intro e1 w5 hp
                  rcases r3 : runL (min cc 4) b ⟨tabOf (th ++ [s]), o3, most⟩ with x | s3
                  · rw [r3] at hp
                    have hp2 := hp.pre HGX.out
                    obtain ⟨⟨ta5, tn5, tc5, m5, rfl⟩, hx, hq⟩ := hp2
                    have HQ : Hid _ := hq
                    have HRR : Hid (res = .err x) := by show _ = _; rw [← HR1.out, r3]; rfl
                    clear hp hq r3
                    go_wp2
                    (try simp only [Exit.inBlock, Exit.then])
                    refine bodyPost_ret (results_tmp4 rfl _ _ _) rfl ?_
                    rw [HRR.out]
                    exact ⟨⟨_, _, _, _, rfl⟩, hx, HQ.out⟩
                  · rw [r3] at hp
                    obtain ⟨th5, ta5, tc5, oa5, oc5, rfl, hT5, hO5, hR5, hG5⟩ := hp
                    have HO6 : Hid (Ints w5 base (.slice oa5 s3.out.length oc5) s3.out) := hO5
                    have HG6 : Hid (GO w w5 (.slice oa on oc) (.slice oa5 s3.out.length oc5)) := HGX.out.trans hG5
                    have HT6 : Hid (THd w5 (.slice (some ⟨g2, 0, none⟩) (tn + 1) cap2) (.slice oa5 s3.out.length oc5) (th ++ [s])) := HTX.out.go hG5
                    have hS5 := HSBX.out.go hG5
                    have HS65 : Hid _ := HS6.out.keep hS5.1
                    obtain ⟨hgd5, hT55, hlen5⟩ := shutL_good (st1 := ⟨tabOf (th ++ [s]), s3.out, s3.most⟩) (cells := min cc 4) (l := b) HGD.out (by rw [r3]; rfl)
                    have HGD5 : Hid (Good ⟨tabOf (th ++ [s]), s3.out, s3.most⟩) := hgd5
                    have hle5 : s3.out.length ≤ o3.length + b.cnt := hlen5
                    have HB5 : Hid (Below W.heap.size W w5) := HOX.out.belowW hWb hG5 HBX2.out
                    have hbs5 : base ≤ w5.heap.size := Nat.le_trans hbsX hG5.size
                    have hm50 : 0 ≤ s3.most := hgd5.m0
                    have hm51 : s3.most ≤ 8 := hgd5.m1
                    have HR6 : Hid ((runL (min cc 4) e ⟨tabOf (th ++ [s]), s3.out, s3.most⟩).shut (tabOf (th ++ [s])) = res) := by show _ = _; rw [← HR1.out, r3]; rfl
                    clear y0 y1 y2 y3 y4 y5
                    obtain ⟨y0, y1, y2, y3, y4, y5⟩ := HS65.out
                    have hsw5 : w.heap.size < w5.heap.size := hS5.2.1
                    clear hT5 hO5 hR5 hG5 hS5 r3 hgd5 hT55 hlen5
                    have HC2 : Hid (Calls Try.prog 18 #[.slice ae e.len ce, .slice (some ⟨g2, 0, none⟩) (tn + 1) cap2, .int .i64 cc, .slice oa5 s3.out.length oc5, .int .i64 s3.most] w5 (OPost base w5 (.slice oa5 s3.out.length oc5) (runL (min cc 4) e ⟨tabOf (th ++ [s]), s3.out, s3.most⟩))) := by
                      have := HCE.out _ w5 (th ++ [s]) (some ⟨g2, 0, none⟩) cap2 oa5 oc5 s3.out s3.most HEl.out (by rw [HTNX.out]; exact HT6.out) HO6.out hbs5 HGD5.out HB5.out (by omega)
                      rw [HTNX.out] at this
                      exact this
                    go_wp2_with fail
                    refine HC2.out.mono ?_
                    intro e1 w6 hp
                    rcases r4 : runL (min cc 4) e ⟨tabOf (th ++ [s]), s3.out, s3.most⟩ with x | s4
                    · rw [r4] at hp
                      have hp2 := hp.pre HG6.out
                      obtain ⟨⟨ta6, tn6, tc6, m6, rfl⟩, hx, hq⟩ := hp2
                      have HQ : Hid _ := hq
                      have HRR : Hid (res = .err x) := by show _ = _; rw [← HR6.out, r4]; rfl
                      clear hp hq r4
                      go_wp2
                      (try simp only [Exit.inBlock, Exit.then])
                      refine bodyPost_ret (results_tmp4 rfl _ _ _) rfl ?_
                      rw [HRR.out]
                      exact ⟨⟨_, _, _, _, rfl⟩, hx, HQ.out⟩
                    · rw [r4] at hp
                      obtain ⟨th6, ta6, tc6, oa6, oc6, rfl, hT6, hO6, hR6, hG6⟩ := hp
                      have HO7 : Hid (Ints w6 base (.slice oa6 s4.out.length oc6) s4.out) := hO6
                      have HG7 : Hid (GO w w6 (.slice oa on oc) (.slice oa6 s4.out.length oc6)) := HG6.out.trans hG6
                      have HT7 : Hid (THd w6 (.slice (some ⟨g2, 0, none⟩) (tn + 1) cap2) (.slice oa6 s4.out.length oc6) (th ++ [s])) := HT6.out.go hG6
                      have HRR : Hid (res = .ok ⟨tabOf (th ++ [s]), s4.out, s4.most⟩) := by show _ = _; rw [← HR6.out, r4]; rfl
                      clear hT6 hO6 hR6 hG6 r4
                      go_wp2
                      (try simp only [Exit.inBlock, Exit.then])
                      refine bodyPost_ret (results_tmp4 rfl _ _ _) rfl ?_
                      rw [HRR.out]
                      exact ⟨(th ++ [s]), (some ⟨g2, 0, none⟩), cap2, oa6, oc6, by rw [HTNX.out]; rfl, rfl, HO7.out, by rw [HTNX.out]; exact HT7.out, HG7.out⟩
          · have HRR : Hid (res = .err 61) := by
              show _ = _
              rw [← HR0.out]
              unfold ownR
              rw [if_neg (fun h => absurd h.1 (by decide)), if_pos rfl]
              show ((Res.andThen (match find (tabOf th) s.data.toList with | some _ => _ | none => _) _).andThen _) = _
              rw [find_pos HFR.out hneg]
              rfl
            go_wp2_with fail
            refine HFC.out.mono ?_
            rintro e9 w3 ⟨rfl, hb3⟩
            have HG4 : Hid _ := HG3.out.after hb3
            clear hb3
            go_wp2
            (try simp only [Exit.inBlock, Exit.then])
            refine bodyPost_ret (results_tmp4 rfl _ _ _) rfl ?_
            rw [HRR.out]
            exact ⟨⟨_, _, _, _, rfl⟩, rfl, _, HG4.out⟩
end Go.Proofs.Ytiafdlebggegfab
