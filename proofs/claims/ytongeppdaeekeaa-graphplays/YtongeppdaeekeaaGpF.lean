/- The walk of GraphPlays. -/
import Derived.Test.YtongeppdaeekeaaGpE
import Derived.BigQuiet
import Derived.Deep.CutRange
namespace Go.Proofs.Ytongeppdaeekeaa
open Go.RowKit Go.Maps
set_option linter.unusedVariables false

set_option maxRecDepth 100000 in
set_option maxHeartbeats 32000000 in
theorem gplays_walk (room : Int) (lv : Value) (l : List O3) (age : Int) (w : World) (hv : RS kW w lv l) : Calls Try.prog 6 #[.int .i64 room, lv, .int .i64 age] w (AN w (.bool true)) := by
  obtain ⟨a, c, e⟩ := hv.form
  obtain ⟨n, hn⟩ : ∃ n, l.length = n := ⟨_, rfl⟩
  have HN : Hid (l.length = n) := hn
  rw [hn] at e
  subst e
  have HOP : Hid (RS kW w (.slice a n c) l) := hv
  have HF : Hid (∀ W, Below w.heap.size w W → AN w (.bool true) (.returned (.bool true)) W) := fun W hW => ⟨rfl, hW⟩
  clear hv hn
  generalize AN w (.bool true) = P at *
  by_cases h80 : 80 < n
  · have t80 : decide (80 < n) = true := decide_eq_true h80
    have HR : Hid (P (.returned (.bool true)) w) := HF.out w (Below.refl _ _)
    go_enter Try.func6, Try.ntmps6
    go_wp2
    first | exact HR.out | (go_ret; exact HR.out)
  have t80 : decide (80 < n) = false := decide_eq_false h80
  have HNQ := gnew_any room w
  go_enter Try.func6, Try.ntmps6
  go_wp2_with fail
  refine HNQ.mono ?_
  clear HNQ
  rintro e w1 ⟨b1, ⟨hb, rfl⟩ | ⟨hr, gb, hgb, rfl, g1⟩⟩
  · have HRN := rnew_any room w1
    go_wp2_with fail
    refine HRN.mono ?_
    clear HRN
    rintro e w2 ⟨b2, ⟨_, rfl⟩ | ⟨hb2, _⟩⟩
    · have HR : Hid (∀ W, Below (w2.alloc (.cells #[.int .i64 0, .slice none 0 0] 72)).heap.size (w2.alloc (.cells #[.int .i64 0, .slice none 0 0] 72)) W → P (.returned (.bool true)) W) := fun W hW => HF.out W ((b1.trans (b2.mono b1.size)).trans (((bl1 w2 _).mono (b1.trans (b2.mono b1.size)).size).trans (hW.mono (Nat.le_trans (b1.trans (b2.mono b1.size)).size (bl1 w2 _).size))))
      clear b1 b2 hb
      go_upto_region 5 with fail
      generalize w2.alloc (.cells #[.int .i64 0, .slice none 0 0] 72) = w3 at *
      generalize w2.heap.size = g7 at *
      have HAL := alive38_any w3
      by_cases h0 : 0 < n
      · have d0 : decide (0 < n) = true := decide_eq_true h0
        have d0' : decide ((0 : Int) < (n : Int)) = true := decide_eq_true (by omega)
        go_wp2_with fail
        go_loopw [11] (fun iv wr => wr = w3 ∧ iv = .int .i64 0) (fun iv _ => 0)
        case atStart => exact ⟨rfl, rfl⟩
        case round =>
          obtain ⟨rfl, rfl⟩ := hrel
          go_wp2_with fail
          refine HAL.mono ?_
          rintro e w4 ⟨rfl, b4⟩
          have HR4 : Hid (P (.returned (.bool true)) w4) := HR.out w4 b4
          clear b4
          go_wp2
          first | exact HR4.out | (go_ret; exact HR4.out)
      · have d0 : decide (0 < n) = false := decide_eq_false h0
        have d0' : decide ((0 : Int) < (n : Int)) = false := decide_eq_false (by omega)
        go_wp2_with fail
        go_loopw [11] (fun iv wr => wr = w3 ∧ iv = .int .i64 0) (fun iv _ => 0)
        case atStart => exact ⟨rfl, rfl⟩
        case round =>
          obtain ⟨rfl, rfl⟩ := hrel
          go_wp2_with fail
          refine HAL.mono ?_
          rintro e w4 ⟨rfl, b4⟩
          have HR4 : Hid (P (.returned (.bool true)) w4) := HR.out w4 b4
          clear b4
          go_wp2
          first | exact HR4.out | (go_ret; exact HR4.out)
    · omega
  obtain ⟨m, hm⟩ : ∃ m : Nat, room = (m : Int) := ⟨room.toNat, by omega⟩
  subst hm
  rw [Int.toNat_natCast] at g1
  have HM1 : Hid (GM w w1 gb m (.slice none 0 0) []) := ⟨g1, b1, hgb, fun g hg => by simp [Value.ownBlock] at hg⟩
  clear b1 hgb g1
  have HRN := rnew_any (m : Int) w1
  go_wp2_with fail
  refine HRN.mono ?_
  clear HRN
  rintro e w2 ⟨b2, ⟨hb, _⟩ | ⟨_, rfl⟩⟩
  · omega
  have HI3 : Hid (GI w (w2.alloc (.cells #[.int .i64 (m : Int), .slice none 0 0] 72)) gb w2.heap.size m (.slice none 0 0) [] (.slice none 0 0) []) := GI.first (HM1.out.below b2)
  clear b2 HM1 hr
  go_upto_region 5 with fail
  generalize w2.alloc (.cells #[.int .i64 (m : Int), .slice none 0 0] 72) = w3 at *
  generalize w2.heap.size = g7 at *
  go_wp2_with fail
  go_loopw [11] (fun iv wr => ∃ (q : Nat) (ev : Value) (E : Ed) (v : Value) (L : Ed), iv = .int .i64 (q : Int) ∧ q ≤ n ∧ Hid (GI w wr gb g7 m ev E v L)) (fun iv _ => n - (intOf iv).toNat)
  case atStart => exact ⟨0, _, _, _, _, rfl, Nat.zero_le _, HI3⟩
  case round =>
    clear HI3
    obtain ⟨q, ev, E, v, L, rfl, hq, HI⟩ := hrel
    by_cases hlt : q < n
    · have d1 : decide (q < n) = true := decide_eq_true hlt
      have hq' : q < l.length := by rw [HN.out]; exact hlt
      obtain ⟨b, bo, n', c', hg, hcl⟩ := (HOP.out.below HI.out.gd.gm.bl).cell hq'
      simp only [Value.slice.injEq] at hg
      obtain ⟨rfl, rfl, rfl⟩ := hg
      obtain ⟨⟨z0, z1, z2⟩, hz⟩ : ∃ x, l[q]'hq' = x := ⟨_, rfl⟩
      rw [hz] at hcl
      obtain ⟨o0, o1, o2⟩ := tri_cells rfl rfl hcl
      obtain ⟨x0, x1⟩ := HI.out.cell
      have i1 : (0 : Int) ≤ (q : Int) := by omega
      have i2 : (q : Int) < (n : Int) := by omega
      have HC : Hid (Calls Try.prog 27 #[.pointer (some ⟨gb, 0, none⟩), .agg #[.int .i64 (m : Int), v], .agg #[.int .i64 z0, .int .i64 z1, .int .i64 z2]] wr.drew (fun e W' => ∃ ev' v', e = .returned (.tuple #[.agg #[.int .i64 (m : Int), v'], .bool true]) ∧ GJ w W' gb g7 m ev' (oneGE m E (z0, z1, z2)) v' (oneGL (m : Int) L (z0, z1, z2)) ∧ W'.heap[g7]? = some (.cells #[.int .i64 (m : Int), v] 72))) := (HI.out.below (Below.refl _ _).drew).one (z0, z1, z2)
      have HON : Hid (∀ W, Below w.heap.size w W → W.cell? ⟨b, bo + q * 3, none⟩ = some (.int .i64 z0) ∧ W.cell? ⟨b, bo + q * 3 + 1, none⟩ = some (.int .i64 z1) ∧ W.cell? ⟨b, bo + q * 3 + 2, none⟩ = some (.int .i64 z2)) := fun W hW => by
        obtain ⟨b', bo', n2, c2, hg, hcl⟩ := (HOP.out.below hW).cell hq'
        simp only [Value.slice.injEq, Option.some.injEq, Addr.mk.injEq] at hg
        obtain ⟨⟨rfl, rfl, -⟩, -, -⟩ := hg
        rw [hz] at hcl
        exact tri_cells rfl rfl hcl
      generalize oneGE m E (z0, z1, z2) = E1 at *
      generalize oneGL (m : Int) L (z0, z1, z2) = L1 at *
      clear hz hcl hq'
      go_upto_region 11 with fail
      go_cut [12] from 50 to 59 (fun ok wx => ok = .bool true ∧ ∃ (ev1 v1 : Value), Hid (GI w wx gb g7 m ev1 E1 v1 L1))
      case first =>
        go_region_law
          (go_simp
           go_at_call 27
           refine HC.out.mono ?_
           rintro e w6 ⟨ev6, v6, rfl, j6, hk⟩
           obtain ⟨a6, c6, rfl⟩ := j6.gd.rs.form
           obtain ⟨y0, y1⟩ := two_cell hk
           have f0 := frozen_of_row w6 g7 0 _ _ hk
           have f1 := frozen_of_row w6 g7 1 _ _ hk
           have HJ6 : Hid (GJ w w6 gb g7 m ev6 E1 (.slice a6 L1.length c6) L1) := j6
           clear j6 hk)
        all_goals
          go_wp2_with fail
          go_meet
          exact ⟨rfl, _, _, HJ6.out.put⟩
      case rest =>
        obtain ⟨rfl, ev1, v1, HP⟩ := hcut
        clear HC HI x0 x1 o0 o1 o2
        obtain ⟨o0, o1, o2⟩ := HON.out wc HP.out.gd.gm.bl
        go_upto_region 13 with fail
        obtain ⟨a1, c1, e1⟩ := HP.out.gd.rs.form
        obtain ⟨r, hr⟩ : ∃ r, L1.length = r := ⟨_, rfl⟩
        rw [hr] at e1
        subst e1
        have HEL : Hid (E1.length = r) := HP.out.pe.len.trans hr
        have HUP : Hid (Up E1 ∧ E1.length ≤ 512) := ⟨HP.out.pe.up, HP.out.gd.gm.gv.l512⟩
        have HRL : Hid ((readersOf E1 z2).length ≤ 1000) := by
          have h1 := readersOf_le E1 z2
          have h2 := HUP.out.2
          show _ ≤ _
          omega
        have HPX : Hid (GI w (wc.alloc (.cells #[.int .i64 z0, .int .i64 z1, .int .i64 z2] 78)) gb g7 m ev1 E1 (.slice a1 r c1) L1) := HP.out.below (bl1 _ _)
        have HXB : Hid ((wc.alloc (.cells #[.int .i64 z0, .int .i64 z1, .int .i64 z2] 78)).heap[wc.heap.size]? = some (.cells #[.int .i64 z0, .int .i64 z1, .int .i64 z2] 78)) := heap_alloc_new _ _
        generalize wc.alloc (.cells #[.int .i64 z0, .int .i64 z1, .int .i64 z2] 78) = wx at *
        generalize wc.heap.size = gx at *
        clear HP o0 o1 o2 hr
        have HCX : Hid (∀ W, Below wx.heap.size wx W → W.cell? ⟨g7, 0, none⟩ = some (.int .i64 (m : Int)) ∧ W.cell? ⟨g7, 1, none⟩ = some (.slice a1 r c1) ∧ W.cell? ⟨gx, 1, none⟩ = some (.int .i64 z1) ∧ W.cell? ⟨gx, 2, none⟩ = some (.int .i64 z2)) := fun W hW => by
          have p := (HPX.out.below hW).cell
          have hx := (hW.block gx (Array.getElem?_eq_some_iff.1 HXB.out).1).trans HXB.out
          exact ⟨p.1, p.2, by rw [cell_of_row W gx _ _ _ _ hx]; rfl, by rw [cell_of_row W gx _ _ _ _ hx]; rfl⟩
        have H28 : Hid (∀ W, Below wx.heap.size wx W → Calls Try.prog 28 #[.pointer (some ⟨gb, 0, none⟩)] W (AN W (.int .i64 (r : Int)))) := fun W hW => (glen_any (HPX.out.gd.below hW).gm.gv).mono fun e w' ⟨h1, h2⟩ => ⟨by rw [h1, HEL.out], by rw [h2]; exact Below.refl _ _⟩
        have H29 : Hid (∀ W, Below wx.heap.size wx W → Calls Try.prog 29 #[.pointer (some ⟨gb, 0, none⟩), .int .i64 z1, .int .i64 z2] W (AN W (.bool (hasE E1 (z1, z2))))) := fun W hW => ghas_any (HPX.out.gd.below hW).gm.gv z1 z2
        have H30 : Hid (∀ W, Below wx.heap.size wx W → Calls Try.prog 30 #[.agg #[.int .i64 (m : Int), .slice a1 r c1], .int .i64 z1, .int .i64 z2] W (AN W (.bool (hasE E1 (z1, z2))))) := fun W hW => by
          have p := HPX.out.below hW
          rw [p.pe.has]
          exact rhas_any p.gd.rs (by have := p.l512; omega) m z1 z2
        have H32 : Hid (∀ W, Below wx.heap.size wx W → Calls Try.prog 32 #[.pointer (some ⟨gb, 0, none⟩), .int .i64 z2] W (RowQ W (readersOf E1 z2))) := fun W hW => readers_any (HPX.out.gd.below hW).gm.gv z2
        have H33 : Hid (∀ W, Below wx.heap.size wx W → Calls Try.prog 33 #[.agg #[.int .i64 (m : Int), .slice a1 r c1], .int .i64 z2] W (RowQ W (readersOf E1 z2))) := fun W hW => by
          have p := HPX.out.below hW
          exact rreaders_any p.gd.rs p.pe p.l512 m z2
        have H34 : Hid (∀ W u, Below wx.heap.size wx W → Calls Try.prog 34 #[.pointer (some ⟨gb, 0, none⟩), .int .i64 u] W (FallQ W E1 u)) := fun W u hW => fall_any (HPX.out.gd.below hW).gm.gv u
        have H35 : Hid (∀ W u, Below wx.heap.size wx W → Calls Try.prog 35 #[.agg #[.int .i64 (m : Int), .slice a1 r c1], .int .i64 u] W (FallQ W E1 u)) := fun W u hW => by
          have p := HPX.out.below hW
          exact rfall_any p.gd.rs p.pe p.l512 m u
        have HBx : Below wx.heap.size wx wx.drew := (Below.refl _ _).drew
        have hSx := HCX.out wx.drew HBx
        go_region_held3 (fun W => W.cell? ⟨g7, 0, none⟩ = some (.int .i64 (m : Int)) ∧ W.cell? ⟨g7, 1, none⟩ = some (.slice a1 r c1) ∧ W.cell? ⟨gx, 1, none⟩ = some (.int .i64 z1) ∧ W.cell? ⟨gx, 2, none⟩ = some (.int .i64 z2))
          (with_reducible assumption)
          (first
            | (go_at_call 28; refine (H28.out _ HBx).mono ?_; rintro e wy ⟨rfl, hby⟩; replace HBx := HBx.trans (hby.mono HBx.size); have hSx := HCX.out wy HBx; clear hby)
            | (go_at_call 29; refine (H29.out _ HBx).mono ?_; rintro e wy ⟨rfl, hby⟩; replace HBx := HBx.trans (hby.mono HBx.size); have hSx := HCX.out wy HBx; clear hby)
            | (go_at_call 30; refine (H30.out _ HBx).mono ?_; rintro e wy ⟨rfl, hby⟩; replace HBx := HBx.trans (hby.mono HBx.size); have hSx := HCX.out wy HBx; clear hby)
            | (go_at_call 32; refine (H32.out _ HBx).mono ?_; rintro e wy ⟨vA, rfl, zA, hby, -⟩; replace HBx := HBx.trans (hby.mono HBx.size); have hSx := HCX.out wy HBx; have hrA := zA.rs; clear hby zA)
            | (go_at_call 33; refine (H33.out _ HBx).mono ?_; rintro e wy ⟨vB, rfl, zB, hby, -⟩; replace HBx := HBx.trans (hby.mono HBx.size); have hSx := HCX.out wy HBx; have hrB := zB.rs; replace hrA := hrA.below hby; clear hby zB)
            | (go_at_call 31; refine (rowZ_true hrA hrB (by first | exact HRL.out | exact hFl)).mono ?_; rintro e wy ⟨rfl, hby⟩; replace HBx := HBx.trans (hby.mono HBx.size); have hSx := HCX.out wy HBx; clear hby hrA hrB)
            | (go_at_call 34; refine (H34.out _ _ HBx).mono ?_; rintro e wy ⟨F, hF, vA, rfl, zA, hby, -⟩; replace HBx := HBx.trans (hby.mono HBx.size); have hSx := HCX.out wy HBx; have hrA := zA.rs; have hFl := falls_le HUP.out.1 HUP.out.2 hF; clear hby zA)
            | (go_at_call 35; refine (H35.out _ _ HBx).mono ?_; rintro e wy ⟨G, hG, vB, rfl, zB, hby, -⟩; replace HBx := HBx.trans (hby.mono HBx.size); have hSx := HCX.out wy HBx; have hrB := zB.rs; rw [FallsOf.one HUP.out.1 hG hF] at hrB; replace hrA := hrA.below hby; clear hby zB hG))
        have HPY : Hid (GI w wy gb g7 m ev1 E1 (.slice a1 r c1) L1) := HPX.out.below HBx
        clear hF hFl H28 H29 H30 H32 H33 H34 H35 HCX HXB HBx HRL HPX
        clear hSx
        have H36 : Hid (∀ W, Below wy.heap.size wy W → Calls Try.prog 36 #[.pointer (some ⟨gb, 0, none⟩)] W (EdgesQ W E1)) := fun W hW => edges_any (HPY.out.gd.below hW).gm.gv
        have H37 : Hid (∀ W, Below wy.heap.size wy W → Calls Try.prog 37 #[.agg #[.int .i64 (m : Int), .slice a1 r c1]] W (EdgesF W E1)) := fun W hW => by
          have p := HPY.out.below hW
          exact redges_any p.gd.rs p.pe p.l512 m
        have HCY : Hid (∀ W, Below wy.heap.size wy W → W.cell? ⟨g7, 0, none⟩ = some (.int .i64 (m : Int)) ∧ W.cell? ⟨g7, 1, none⟩ = some (.slice a1 r c1)) := fun W hW => (HPY.out.below hW).cell
        have HBy : Below wy.heap.size wy wy.drew := (Below.refl _ _).drew
        have hSy := HCY.out wy.drew HBy
        go_wp2_with fail
        go_region_held3 (fun W => W.cell? ⟨g7, 0, none⟩ = some (.int .i64 (m : Int)) ∧ W.cell? ⟨g7, 1, none⟩ = some (.slice a1 r c1))
          (with_reducible assumption)
          (first
            | (go_at_call 36; refine (H36.out _ HBy).mono ?_; rintro e wz ⟨vA, rfl, rA, hby⟩; replace HBy := HBy.trans (hby.mono HBy.size); have hSy := HCY.out wz HBy; clear hby)
            | (go_at_call 37; refine (H37.out _ HBy).mono ?_; rintro e wz ⟨vB, rfl, rB, hby⟩; replace HBy := HBy.trans (hby.mono HBy.size); have hSy := HCY.out wz HBy; replace rA := rA.below hby; clear hby))
        have hr512 : r ≤ 512 := by have h1 := HUP.out.2; have h2 := HEL.out; omega
        have HPZ : Hid (GI w wz gb g7 m ev1 E1 (.slice a1 r c1) L1) := HPY.out.below HBy
        obtain ⟨ea, ec, e6⟩ := rA.form
        obtain ⟨fa, fc, e7⟩ := rB.form
        rw [HEL.out] at e6 e7
        subst e6 e7
        have HRA : Hid (RS kE wz (.slice ea r ec) E1) := rA
        have HRB : Hid (RS kF wz (.slice fa r fc) E1) := rB
        clear rA rB H36 H37 HCY HBy HPY hSy
        go_wp2_with fail
        go_loopw [16] (fun iv wr => ∃ k : Nat, iv = .int .i64 (k : Int) ∧ k ≤ r ∧ Hid (Below wz.heap.size wz wr)) (fun iv _ => r - (intOf iv).toNat)
        case atStart => exact ⟨0, rfl, Nat.zero_le _, Below.refl _ _⟩
        case round =>
          obtain ⟨k, rfl, hk, HB⟩ := hrel
          by_cases hlt2 : k < r
          · have d2 : decide (k < r) = true := decide_eq_true hlt2
            have hk' : k < E1.length := by rw [HEL.out]; exact hlt2
            obtain ⟨eb, eo, n', c', hg, hcl⟩ := (HRA.out.below HB.out).cell hk'
            obtain ⟨fb, fo, n2, c2, hg2, hcl2⟩ := (HRB.out.below HB.out).cell hk'
            simp only [Value.slice.injEq] at hg hg2
            obtain ⟨rfl, rfl, rfl⟩ := hg
            obtain ⟨rfl, -, rfl⟩ := hg2
            obtain ⟨⟨s0, s1⟩, hs⟩ : ∃ x, E1[k]'hk' = x := ⟨_, rfl⟩
            rw [hs] at hcl hcl2
            obtain ⟨x0, x1⟩ := duo_cells rfl rfl hcl
            obtain ⟨y0, y1⟩ := duo_cells rfl rfl hcl2
            have j1 : (0 : Int) ≤ (k : Int) := by omega
            have j2 : (k : Int) < (r : Int) := by omega
            have HB4 : Hid (∀ N, Below wz.heap.size wz (wr.drewN N)) := fun N => Below.dN HB.out N
            clear hs hcl hcl2 hk'
            go_wp2_with fail
            go_quiet (fail)
            go_wp2_with fail
            go_roundw
            case rel => exact ⟨k + 1, by go_num, by omega, HB4.out _⟩
            case measure => simp [intOf]; omega
          · have d2 : decide (k < r) = false := decide_eq_false hlt2
            have HPN : Hid (GI w wr gb g7 m ev1 E1 (.slice a1 r c1) L1) := HPZ.out.below HB.out
            clear HB hlt2 hk
            go_wp2_with fail
            go_roundw
            case rel => exact ⟨q + 1, _, _, _, _, by go_num, by omega, HPN⟩
            case measure => simp [intOf]; omega
    · have d1 : decide (q < n) = false := decide_eq_false hlt
      have HAL := alive38_any wr
      have HR : Hid (∀ W, Below wr.heap.size wr W → P (.returned (.bool true)) W) := fun W hW => HF.out W (HI.out.gd.gm.bl.trans (hW.mono HI.out.gd.gm.bl.size))
      clear HI
      go_wp2_with fail
      refine HAL.mono ?_
      rintro e w13 ⟨rfl, b13⟩
      have HR13 : Hid (P (.returned (.bool true)) w13) := HR.out w13 b13
      clear b13
      go_wp2
      first | exact HR13.out | (go_ret; exact HR13.out)
end Go.Proofs.Ytongeppdaeekeaa
