/- PackTakes, walked: any bytes, taken up in any order of kinds. -/
import Derived.Test.YtjdcoiekbnefkabKTookA
import Derived.Test.YtjdcoiekbnefkabKAlive
import Derived.Deep.DeepCutAuto
namespace Go.Proofs.Ytjdcoiekbnefkab
open Go.RowKit
set_option linter.unusedVariables false
set_option linter.unusedSimpArgs false

/-- bytes that came in -/
def RdX (w : World) (v : Value) (L : List UInt8) : Prop :=
  (v = .slice none 0 0 ∧ L = []) ∨ ∃ x cap, v = .slice (some x) L.length cap ∧ L.length ≤ cap ∧ cap ≤ maxLen ∧ ∀ i (h : i < L.length), w.cell? (x.add i) = some (.int .u8 (L[i].toNat : Int))
theorem cellX_lt {w : World} {a : Addr} {v : Value} (h : w.cell? a = some v) : a.block < w.heap.size := by
  rcases Nat.lt_or_ge a.block w.heap.size with h1 | h1
  · exact h1
  · exfalso; simp [World.cell?, Array.getElem?_eq_none h1] at h
theorem RdX.below {w w' : World} {v : Value} {L : List UInt8} (h : RdX w v L) (hb : Below w.heap.size w w') : RdX w' v L := by
  rcases h with h | ⟨x, cap, e1, e2, e3, e4⟩
  · exact Or.inl h
  · refine Or.inr ⟨x, cap, e1, e2, e3, fun i hi => ?_⟩
    have h5 := e4 i hi
    exact (hb.cell (cellX_lt h5)).trans h5
theorem own_rg {w : World} {base : Nat} {v : Value} {L : List UInt8} (h : Own w base v L) (hn : v ≠ .slice none 0 0) : ∃ g cap, v = .slice (some ⟨g, 0, none⟩) L.length cap ∧ base ≤ g ∧ g < w.heap.size ∧ RG ⟨g, w⟩ v L ∧ TG ⟨g, w⟩ w := by
  have hrd := h.rd
  have hlt := World.ownsRow.lt h
  rcases h.2 with ⟨h2, _⟩ | ⟨g, cap, cur, e1, e2, e3, e4, e5, _⟩
  · exact absurd h2 hn
  · have hg := (hlt g (by rw [e1]; rfl)).2
    refine ⟨g, cap, e1, e2, hg, ?_, rfl, hg⟩
    rcases hrd with ⟨q, _⟩ | ⟨b, off, cap', q, q1, q2, _, q4⟩
    · exact absurd q hn
    · have e9 := e1
      rw [q] at e9
      injection e9 with e9 _ e9c
      injection e9 with e9
      injection e9 with e9 e9b _
      subst e9 e9b
      exact Or.inr ⟨0, cap', q, q1, q2, q4⟩

theorem TG.set {W : WG} {w : World} {b p : Nat} (h : TG W w) (hne : W.g ≠ b) (u : Value) : TG W (w.setCell ⟨b, p, none⟩ u) := ⟨(Below.heap_setCell _ _ _ _ hne).trans h.1, by simpa [World.setCell] using h.2⟩

set_option maxRecDepth 100000 in
set_option maxHeartbeats 8000000 in
theorem takes_walk (a1 : Option Addr) (n1 c1 : Nat) (L : List UInt8) (a2 : Option Addr) (c2 : Nat) (zs : List Int) (w : World) (hn1 : L.length = n1) (hm1 : n1 ≤ maxLen) (h1 : RdX w (.slice a1 n1 c1) L) (h2 : NSl w (.slice a2 zs.length c2) zs) :
    Calls Try.prog 8 #[.slice a1 n1 c1, .slice a2 zs.length c2] w fun e w' => e = .returned (.bool true) ∧ Below w.heap.size w w' := by
  have HL : Hid (RdX w (.slice a1 n1 c1) L) := h1
  have HLN : Hid (L.length = n1) := hn1
  obtain ⟨ad, cp, e0, hz1, hz2, hz3, hz4⟩ := h2
  injection e0 with e0 _ e0c
  subst e0 e0c
  have HZB : Hid (∀ n ∈ zs, -9223372036854775808 ≤ n ∧ n ≤ 9223372036854775807) := hz3
  have HZC : Hid (0 < zs.length → ∃ b o, a2 = some ⟨b, o, none⟩ ∧ b < w.heap.size ∧ ∀ i (h : i < zs.length), w.cell? ⟨b, o + i, none⟩ = some (.int .i64 zs[i])) := hz4
  obtain ⟨n2, hn2⟩ : ∃ n2, zs.length = n2 := ⟨_, rfl⟩
  have HN2 : Hid (zs.length = n2) := hn2
  rw [hn2] at hz1 ⊢
  unfold maxLen at hm1 hz2
  obtain ⟨i0, hi, hz0', hz1', hz2'⟩ := info_parts info5
  clear h1 hn1 hz3 hz4 hn2
  by_cases h4 : 4096 < n1
  · go_enter Try.func8, Try.ntmps8
    go_wp2
    go_ret
    exact ⟨rfl, Below.refl _ _⟩
  by_cases h6 : 64 < n2
  · go_enter Try.func8, Try.ntmps8
    go_wp2
    go_ret
    exact ⟨rfl, Below.refl _ _⟩
  go_enter Try.func8, Try.ntmps8
  go_upto_region 3 with fail
  go_cut [5] (fun s wx => ∃ pr, s = .pointer (some ⟨pr, 0, none⟩) ∧ w.heap.size ≤ pr ∧ Hid (RS wx pr L 0) ∧ Hid (Below w.heap.size w wx))
  case first =>
    rcases a1 with _ | x1
    · obtain ⟨rfl, rfl, h00⟩ : n1 = 0 ∧ c1 = 0 ∧ L = [] := by
        rcases HL.out with ⟨h, h9⟩ | ⟨_, _, h, _⟩
        · injection h with _ h2 h3; exact ⟨h2, h3, h9⟩
        · cases h
      have HOE : Hid (Rd (w.alloc (.cells #[] 5)) (.slice (some ⟨w.heap.size, 0, none⟩) 0 0) L) := by rw [h00]; exact Own.rd (own_empty w)
      have HBE : Hid (Below w.heap.size w (w.alloc (.cells #[] 5))) := (Below.refl _ _).alloc (Nat.le_refl _) _
      have hL0 : L.length ≤ 1000000000 := by rw [h00]; simp
      clear h00
      go_wp2_with fail
      refine (read_any _ L _ hL0 HOE.out).mono ?_
      rintro e w3 ⟨pr, rfl, hpr, hrs, hb3⟩
      have HR3 : Hid (RS w3 pr L 0) := hrs
      have HB3 : Hid (Below w.heap.size w w3) := HBE.out.trans (hb3.mono HBE.out.size)
      have hprw : w.heap.size ≤ pr := Nat.le_trans HBE.out.size hpr
      clear hrs hb3 hpr
      go_wp2_with fail
      go_meet
      case rel => exact ⟨pr, rfl, hprw, HR3, HB3⟩
    · go_wp2_with (at_builtin; refine wpList_append_own _ rfl _ _ 37 rfl w.heap.size 5 i0 (.int .u8 0) 1 1 Try.underlying37 hi hz0' hz1' hz2' rfl (by decide) _ _ _ rfl (own_empty w) x1 n1 c1 (bc L) rfl (by first | (rw [bc_len, Nat.mul_one]; exact HLN.out) | (rw [bc_len]; exact HLN.out) | exact HLN.out) ?d1 (bc_one L) ?d3 ?d4 (by simp) ?_)
      case d1 =>
        intro j u hj
        obtain ⟨h1, rfl⟩ := bc_get L j u hj
        have h2 : w.cell? (x1.add j) = some (.int .u8 (L[j].toNat : Int)) := by
          rcases HL.out with ⟨h3, _⟩ | ⟨y, cy, h3, _, _, h4⟩
          · cases h3
          · simp only [Value.slice.injEq, Option.some.injEq] at h3
            obtain ⟨rfl, _, _⟩ := h3
            exact h4 j h1
        rw [World.cell?_alloc_lt]
        · exact h2
        · exact cellX_lt h2
      case d3 => unfold maxLen; omega
      case d4 => omega
      intro v1 w2 hown hgrow _
      have HO : Own w2 w.heap.size v1 L := by unfold Own; rw [HLN.out]; simpa using hown
      have HOE : Hid (Rd w2 v1 L) := HO.rd
      have HBE : Hid (Below w.heap.size w w2) := ((Below.refl _ _).alloc (Nat.le_refl _) _).grown hgrow (by simp) (fun k hk => by simp [Value.ownBlock] at hk; omega)
      obtain ⟨ob, oc, rfl⟩ : ∃ ob oc, v1 = .slice ob n1 oc := by
        have := own_slice HO
        rw [HLN.out] at this
        exact this
      clear hown hgrow HO
      go_wp2_with fail
      refine (read_any _ L _ (by have := HLN.out; omega) HOE.out).mono ?_
      rintro e w3 ⟨pr, rfl, hpr, hrs, hb3⟩
      have HR3 : Hid (RS w3 pr L 0) := hrs
      have HB3 : Hid (Below w.heap.size w w3) := HBE.out.trans (hb3.mono HBE.out.size)
      have hprw : w.heap.size ≤ pr := Nat.le_trans HBE.out.size hpr
      clear hrs hb3 hpr
      go_wp2_with fail
      go_meet
      case rel => exact ⟨pr, rfl, hprw, HR3, HB3⟩
  case rest =>
    obtain ⟨pr, rfl, hprw, HR3, HB3⟩ := hcut
    rename World => w3
    have HL3 : Hid (RdX w3 (.slice a1 n1 c1) L) := HL.out.below HB3.out
    have hpr3 := HR3.out.lt
    go_upto_region 6 with fail
    go_cut [6] (fun s wx => ∃ bx g c, s = .pointer (some ⟨bx, 0, none⟩) ∧ w3.heap.size ≤ bx ∧ w3.heap.size ≤ g ∧ g ≠ bx ∧ Hid (Two wx bx (.slice (some ⟨g, 0, none⟩) n1 c) (.int .i64 0)) ∧ Hid (RG ⟨g, wx⟩ (.slice (some ⟨g, 0, none⟩) n1 c) L) ∧ Hid (TG ⟨g, wx⟩ wx) ∧ Hid (Below w3.heap.size w3 wx))
    case first =>
      rcases a1 with _ | x1
      · obtain ⟨rfl, rfl, h00⟩ : n1 = 0 ∧ c1 = 0 ∧ L = [] := by
          rcases HL.out with ⟨h, h9⟩ | ⟨_, _, h, _⟩
          · injection h with _ h2 h3; exact ⟨h2, h3, h9⟩
          · cases h
        have HO1 : Own ((w3.alloc (.cells #[] 5)).alloc (.cells #[.slice (some ⟨w3.heap.size, 0, none⟩) 0 0, .int .i64 0] 43)) w3.heap.size (.slice (some ⟨w3.heap.size, 0, none⟩) 0 0) L := by
          rw [h00]
          exact Own.below (own_empty w3) ((Below.refl _ _).alloc (Nat.le_refl _) _)
        obtain ⟨g, cap, e1, e2, e3, e4, e5⟩ := own_rg HO1 (by intro e; cases e)
        injection e1 with e1 e1z e1c
        injection e1 with e1
        injection e1 with e1 _ _
        clear e1z
        subst e1 e1c
        have HRG : Hid (RG ⟨w3.heap.size, (w3.alloc (.cells #[] 5)).alloc (.cells #[.slice (some ⟨w3.heap.size, 0, none⟩) 0 0, .int .i64 0] 43)⟩ (.slice (some ⟨w3.heap.size, 0, none⟩) 0 0) L) := e4
        have HTG : Hid (TG ⟨w3.heap.size, (w3.alloc (.cells #[] 5)).alloc (.cells #[.slice (some ⟨w3.heap.size, 0, none⟩) 0 0, .int .i64 0] 43)⟩ ((w3.alloc (.cells #[] 5)).alloc (.cells #[.slice (some ⟨w3.heap.size, 0, none⟩) 0 0, .int .i64 0] 43))) := e5
        have HTW : Hid (Two ((w3.alloc (.cells #[] 5)).alloc (.cells #[.slice (some ⟨w3.heap.size, 0, none⟩) 0 0, .int .i64 0] 43)) (w3.heap.size + 1) (.slice (some ⟨w3.heap.size, 0, none⟩) 0 0) (.int .i64 0)) := Two.new _ _ (by simp) _ _ _
        have HBX : Hid (Below w3.heap.size w3 ((w3.alloc (.cells #[] 5)).alloc (.cells #[.slice (some ⟨w3.heap.size, 0, none⟩) 0 0, .int .i64 0] 43))) := ((Below.refl _ _).alloc (Nat.le_refl _) _).alloc (by simp) _
        clear h00 HO1 e2 e3 e4 e5
        go_wp2_with fail
        go_meet
        case rel => exact ⟨_, _, _, rfl, by omega, Nat.le_refl _, by omega, HTW, HRG, HTG, HBX⟩
      · go_wp2_with (at_builtin; refine wpList_append_own _ rfl _ _ 37 rfl w3.heap.size 5 i0 (.int .u8 0) 1 1 Try.underlying37 hi hz0' hz1' hz2' rfl (by decide) _ _ _ rfl (own_empty w3) x1 n1 c1 (bc L) rfl (by first | (rw [bc_len, Nat.mul_one]; exact HLN.out) | (rw [bc_len]; exact HLN.out) | exact HLN.out) ?e1 (bc_one L) ?e3 ?e4 (by simp) ?_)
        case e1 =>
          intro j u hj
          obtain ⟨h1, rfl⟩ := bc_get L j u hj
          have h2 : w3.cell? (x1.add j) = some (.int .u8 (L[j].toNat : Int)) := by
            rcases HL3.out with ⟨h3, _⟩ | ⟨y, cy, h3, _, _, h4⟩
            · cases h3
            · simp only [Value.slice.injEq, Option.some.injEq] at h3
              obtain ⟨rfl, _, _⟩ := h3
              exact h4 j h1
          rw [World.cell?_alloc_lt]
          · exact h2
          · exact cellX_lt h2
        case e3 => unfold maxLen; omega
        case e4 => omega
        intro v1 w4 hown hgrow hnil
        have HO : Own w4 w3.heap.size v1 L := by unfold Own; rw [HLN.out]; simpa using hown
        have HBE : Hid (Below w3.heap.size w3 w4) := ((Below.refl _ _).alloc (Nat.le_refl _) _).grown hgrow (by simp) (fun k hk => by simp [Value.ownBlock] at hk; omega)
        have hvn : v1 ≠ .slice none 0 0 := fun e => hnil e
        obtain ⟨g, cap, e1, e2, e3, e4, e5⟩ := own_rg HO hvn
        rw [HLN.out] at e1
        subst e1
        have HO2 : Own (w4.alloc (.cells #[.slice (some ⟨g, 0, none⟩) n1 cap, .int .i64 0] 43)) w3.heap.size (.slice (some ⟨g, 0, none⟩) n1 cap) L := HO.below ((Below.refl _ _).alloc (Nat.le_refl _) _)
        obtain ⟨g', cap', e1', _, _, e4', e5'⟩ := own_rg HO2 hvn
        injection e1' with e1' e1z e1c
        injection e1' with e1'
        injection e1' with e1' _ _
        clear e1z
        subst e1' e1c
        have HRG : Hid (RG ⟨g, w4.alloc (.cells #[.slice (some ⟨g, 0, none⟩) n1 cap, .int .i64 0] 43)⟩ (.slice (some ⟨g, 0, none⟩) n1 cap) L) := e4'
        have HTG : Hid (TG ⟨g, w4.alloc (.cells #[.slice (some ⟨g, 0, none⟩) n1 cap, .int .i64 0] 43)⟩ (w4.alloc (.cells #[.slice (some ⟨g, 0, none⟩) n1 cap, .int .i64 0] 43))) := e5'
        have HTW : Hid (Two (w4.alloc (.cells #[.slice (some ⟨g, 0, none⟩) n1 cap, .int .i64 0] 43)) w4.heap.size (.slice (some ⟨g, 0, none⟩) n1 cap) (.int .i64 0)) := Two.new _ _ rfl _ _ _
        have HBX : Hid (Below w3.heap.size w3 (w4.alloc (.cells #[.slice (some ⟨g, 0, none⟩) n1 cap, .int .i64 0] 43))) := HBE.out.alloc HBE.out.size _
        have hsz4 : w3.heap.size ≤ w4.heap.size := HBE.out.size
        clear hown hgrow hnil HO HO2 hvn e4 e5 e4' e5'
        go_wp2_with fail
        go_meet
        case rel => exact ⟨_, _, _, rfl, hsz4, e2, by omega, HTW, HRG, HTG, HBX⟩
    case rest =>
      obtain ⟨bx, g, cx, rfl, hbx, hg, hgb, HTW, HRG, HTG, HB4⟩ := hcut
      rename World => w4
      have HB4w : Hid (Below w.heap.size w w4) := HB3.out.trans (HB4.out.mono HB3.out.size)
      have HS4 : Hid (RS w4 pr L 0) := HR3.out.below HB4.out
      have hprb : pr < bx := Nat.lt_of_lt_of_le hpr3 hbx
      have hprg : pr < g := Nat.lt_of_lt_of_le hpr3 hg
      have hw3 : w.heap.size ≤ w3.heap.size := HB3.out.size
      have HJ4 : Hid (JS ⟨g, w4⟩ w4 pr (.slice (some ⟨g, 0, none⟩) n1 cx) (.int .i64 0) L 0) := ⟨HS4.out, by have := HLN.out; omega, Or.inl ⟨rfl, _, cx, by rw [HLN.out], rfl, by rw [HLN.out]; exact HRG.out⟩⟩
      go_wp2
      go_loopw [7] (fun i wr => ∃ (j : Nat) (x0 x1 : Value) (M : List UInt8) (f : Int), j ≤ n2 ∧ i = .int .i64 (j : Int) ∧ Hid (Two wr bx x0 x1) ∧ Hid (JS ⟨g, w4⟩ wr pr x0 x1 M f) ∧ Hid (TG ⟨g, w4⟩ wr) ∧ Hid (Below w.heap.size w wr)) (fun i _ => n2 - (intOf i).toNat)
      case atStart => exact ⟨0, _, _, L, 0, Nat.zero_le _, rfl, HTW, HJ4, HTG, HB4w⟩
      case round =>
        obtain ⟨j, x0, x1, M, f, hj, rfl, HT, HJ, HG, HB⟩ := hrel
        by_cases hlt : j < n2
        · have hjl : j < zs.length := by have := HN2.out; omega
          obtain ⟨zb, zo, hza, hzb, hzc⟩ := HZC.out (by omega)
          subst hza
          obtain ⟨call, hcall⟩ : ∃ c, zs[j] = c := ⟨_, rfl⟩
          have zc : wr.cell? ⟨zb, zo + j, none⟩ = some (.int .i64 call) := by rw [← hcall]; exact (HB.out.cell (p := ⟨zb, zo + j, none⟩) hzb).trans (hzc j hjl)
          have hcb := HZB.out call (by rw [← hcall]; exact List.getElem_mem hjl)
          have hzbr : zb < wr.heap.size := Nat.lt_of_lt_of_le hzb HB.out.size
          obtain ⟨⟨xa, xn, xc, hx0, hx1⟩, _, _⟩ := HJ.out.ends
          subst hx0 hx1
          obtain ⟨y0, y1, y2, y3⟩ := HT.out
          have hbxl := HT.out.lt
          have HJd : Hid (JS ⟨g, w4⟩ wr.drew pr (.slice xa xn xc) (.int .i64 f) M f) := ⟨HJ.out.1.below (Below.refl _ _).drew, HJ.out.2⟩
          have HGd : Hid (TG ⟨g, w4⟩ wr.drew) := HG.out.next (Below.refl _ _).drew
          clear hcall hzc
          go_wp2_with fail
          go_region_with (go_at_call 22; refine (took_any ⟨g, w4⟩ wr.drew pr _ _ M f call hcb HGd.out HJd.out).mono ?_; rintro e w5 ⟨z0, z1, M5, f5, rfl, q1, q2⟩; have T5 := (HT.out.keep (w' := wr.drew) rfl).keep (grow_two q2 hbxl (by omega)); obtain ⟨u0, u1, u2, u3⟩ := id T5; have HT5 : Hid (Two w5 bx (.slice xa xn xc) (.int .i64 f)) := T5; have HJ5 : Hid (JS ⟨g, w4⟩ w5 pr z0 z1 M5 f5) := q1; have HG5 : Hid (TG ⟨g, w4⟩ w5) := (HGd.out.grow q2 (by show g ≠ pr; omega)); have HB5 : Hid (Below w.heap.size w w5) := (HB.out.drew.trans (grow_below q2 hprw HB.out.drew.size)); obtain ⟨⟨za, zn, zcp, hq0, hq1⟩, _, _⟩ := id q1.ends; subst hq0 hq1; clear q1 q2 T5)
          all_goals
            have HT6 : Hid (Two ((w5.setCell ⟨bx, 0, none⟩ (.slice za zn zcp)).setCell ⟨bx, 1, none⟩ (.int .i64 f5)) bx (.slice za zn zcp) (.int .i64 f5)) := (HT5.out.set0 _).set1 _
            have HJ6 : Hid (JS ⟨g, w4⟩ ((w5.setCell ⟨bx, 0, none⟩ (.slice za zn zcp)).setCell ⟨bx, 1, none⟩ (.int .i64 f5)) pr (.slice za zn zcp) (.int .i64 f5) M5 f5) := ⟨(HJ5.out.1.set_other hprb _).set_other hprb _, HJ5.out.2⟩
            have HG6 : Hid (TG ⟨g, w4⟩ ((w5.setCell ⟨bx, 0, none⟩ (.slice za zn zcp)).setCell ⟨bx, 1, none⟩ (.int .i64 f5))) := (HG5.out.set hgb _).set hgb _
            have HB6 : Hid (Below w.heap.size w ((w5.setCell ⟨bx, 0, none⟩ (.slice za zn zcp)).setCell ⟨bx, 1, none⟩ (.int .i64 f5))) := (HB5.out.setCell (p := ⟨bx, 0, none⟩) (by show w.heap.size ≤ bx; omega) _).setCell (p := ⟨bx, 1, none⟩) (by show w.heap.size ≤ bx; omega) _
            obtain ⟨w6, hw6⟩ : ∃ w6, (w5.setCell ⟨bx, 0, none⟩ (.slice za zn zcp)).setCell ⟨bx, 1, none⟩ (.int .i64 f5) = w6 := ⟨_, rfl⟩
            have HW6 : Hid ((w5.setCell ⟨bx, 0, none⟩ (.slice za zn zcp)).setCell ⟨bx, 1, none⟩ (.int .i64 f5) = w6) := hw6
            rw [hw6] at HT6 HJ6 HG6 HB6
            go_wp2_with fail
            (try simp only [List.getElem_toArray, List.getElem_cons_zero, List.getElem_cons_succ, Act.put, List.setIfInBounds_toArray, List.set_cons_zero, List.set_cons_succ])
            rw [hw6]
            have hM5 : M5.length ≤ 1000000000 := by have := HJ6.out.2.1; omega
            obtain ⟨_, HE1, HE2⟩ := HJ6.out.ends
            have HL24 : Hid (∀ V, Calls Try.prog 24 #[.agg #[.slice za zn zcp, .int .i64 f5]] V fun e w' => e = .returned (.int .i64 (M5.length : Int)) ∧ Below V.heap.size V w') := HE1
            have HL27 : Hid (∀ V, Calls Try.prog 27 #[.agg #[.slice za zn zcp, .int .i64 f5]] V fun e w' => e = .returned (.int .i64 (endI M5 f5)) ∧ Below V.heap.size V w') := HE2
            have HSd : Hid (RS w6.drew pr M5 f5) := HJ6.out.1.below (Below.refl _ _).drew
            have HTd : Hid (Two w6.drew bx (.slice za zn zcp) (.int .i64 f5)) := HT6.out.keep rfl
            have HBd : Hid (Below w.heap.size w w6.drew) := HB6.out.drew
            have HGd6 : Hid (TG ⟨g, w4⟩ w6.drew) := HG6.out.next (Below.refl _ _).drew
            obtain ⟨m0, m1, m2, m3⟩ := HT6.out
            have hbx6 := HT6.out.lt
            obtain ⟨ml, hml⟩ : ∃ ml, M5.length = ml := ⟨_, rfl⟩
            have HML : Hid (M5.length = ml) := hml
            have HL23 : Hid (Calls Try.prog 23 #[.pointer (some ⟨pr, 0, none⟩)] w6.drew fun e w' => e = .returned (.int .i64 (ml : Int)) ∧ w' = w6.drew) := by rw [← hml]; exact left_any pr f5 M5 _ HSd.out hM5
            obtain ⟨en, hen⟩ : ∃ en, endI M5 f5 = en := ⟨_, rfl⟩
            have HEN : Hid (endI M5 f5 = en) := hen
            rw [hml] at HL24
            rw [hen] at HL27
            clear hw6 HE1 HE2 hml hen u0 u1 u2 u3 y0 y1 y2 y3 HT5 HJ5 HG5 HB5
            go_region_with (first | (go_at_call 23; refine HL23.out.mono ?_; rintro e w7 ⟨rfl, rfl⟩) | (go_at_call 24; refine (HL24.out _).mono ?_; rintro e w8 ⟨rfl, q8⟩; have S8 : Hid (RS w8 pr M5 f5) := (HSd.out.below q8); have T8 := HTd.out.keep (q8.block _ HTd.out.lt); obtain ⟨o0, o1, o2, o3⟩ := id T8; have HT8 : Hid (Two w8 bx (.slice za zn zcp) (.int .i64 f5)) := T8; have B8 : Hid (Below w.heap.size w w8) := (HBd.out.trans (q8.mono HBd.out.size)); have G8 : Hid (TG ⟨g, w4⟩ w8) := HGd6.out.next q8; have hbx8 := T8.lt; clear q8 T8) | (go_at_call 25; refine (fail_any pr f5 M5 w8 S8.out).mono ?_; rintro e w9 ⟨rfl, hw9⟩; rw [hw9]; clear hw9 w9) | (go_at_call 26; refine (end_any pr M5 f5 w8 hM5 S8.out).mono ?_; rw [HEN.out]; rintro e w9 ⟨rfl, hw9⟩; rw [hw9]; clear hw9 w9) | (go_at_call 27; refine (HL27.out _).mono ?_; rintro e w9 ⟨rfl, q9⟩; have S9 : Hid (RS w9 pr M5 f5) := (S8.out.below q9); have HT9 : Hid (Two w9 bx (.slice za zn zcp) (.int .i64 f5)) := (HT8.out.keep (q9.block _ HT8.out.lt)); have B9 : Hid (Below w.heap.size w w9) := (B8.out.trans (q9.mono B8.out.size)); have G9 : Hid (TG ⟨g, w4⟩ w9) := G8.out.next q9; clear q9))
            all_goals
              have J9 : Hid (JS ⟨g, w4⟩ w9 pr (.slice za zn zcp) (.int .i64 f5) M5 f5) := ⟨S9.out, HJ6.out.2⟩
              go_wp2
              go_roundw
              case rel => exact ⟨j + 1, _, _, M5, f5, by omega, by go_num, HT9, J9, G9, B9⟩
              case measure => simp [intOf]; omega
        · go_wp2_with fail
          refine (alive_any _).mono ?_
          rintro e w9 ⟨rfl, hb9⟩
          have HB9 : Hid (Below w.heap.size w w9) := HB.out.trans (hb9.mono HB.out.size)
          clear hb9
          go_wp2
          go_ret
          exact ⟨rfl, HB9.out⟩
end Go.Proofs.Ytjdcoiekbnefkab
