/- Copies of rows of statements: the program's. -/
import Derived.Test.YtnofibjchhcmeabDoorCs
import Derived.RegionDies
namespace Go.Proofs.YtnofibjchhcmeabDoor
open Go.RowKit Go.Maps
set_option linter.unusedVariables false
set_option linter.unusedSimpArgs false

set_option maxRecDepth 100000 in
set_option maxHeartbeats 16000000 in
theorem copy_any : ∀ (N : Nat) (l : SL) (ok : Nat → Prop) (v : Value) (w : World), scnt l ≤ N → N ≤ 1000000 → SSlP w ok v l → Calls Tryd.prog 20 #[v] w (CSP w l) := by
  intro N
  induction N using Nat.strongRecOn with
  | _ N ih =>
  intro l ok v w hc hN hes
  obtain ⟨ad, cap, b, o, rfl, h2, h3, h4, h5⟩ := hes
  obtain ⟨P, hP⟩ : ∃ P, CSP w l = P := ⟨_, rfl⟩
  have HP : Hid (CSP w l = P) := hP
  rw [hP]
  have hll := slen_le l
  have HIH : Hid (∀ M, M < N → ∀ (l : SL) (ok : Nat → Prop) (v : Value) (w : World), scnt l ≤ M → M ≤ 1000000 → SSlP w ok v l → Calls Tryd.prog 20 #[v] w (CSP w l)) := ih
  have E0 : Hid (CY w l ok b o (.slice none 0 0) (.int .i64 0) w) := ⟨l, 0, [], rfl, by omega, rfl, rfl, Nat.le_refl _, SOwn.nil _ _, (by intro y hy; cases hy), by simpa using h5, Below.refl _ _⟩
  have HAD : Hid (0 < slen l → ad = some ⟨b, o, none⟩ ∧ ok b) := h4
  obtain ⟨i0, hi0, hz0, hz1, hz2⟩ := info_parts info39
  unfold maxLen at h3
  clear ih hP h4 h5
  go_enter Tryd.func20, Tryd.ntmps20
  go_wp2
  go_loopw [3, 8] (fun u3 u8 wr => Hid (CY w l ok b o u3 u8 wr)) (fun _ u8 _ => slen l - (intOf u8).toNat)
  case atStart => exact E0
  case round =>
    clear E0
    obtain ⟨r, i, ys, rfl, hi, hys, hyl, hcr, hown, htm, hat, hbl⟩ := hrel.out
    clear hrel
    have HBL : Hid (Below w.heap.size w wr) := hbl
    have hsz := hbl.size
    obtain ⟨u31, u32, u33, rfl⟩ := hown.sl
    cases r with
    | leaf =>
      have hi' : i = slen l := by simpa [slen] using hi
      have HF : Hid (P (.returned (.slice u31 u32 u33)) wr) := by show P _ _; rw [← HP.out]; exact ⟨_, _, _, rfl, ⟨ys, by simpa [toPT] using hys, hown, htm⟩, HBL.out⟩
      have hil : ¬ ((i : Int) < (slen l : Int)) := by omega
      clear hbl hat hi hown htm hi'
      go_wp2
      first | exact HF.out | (go_ret; exact HF.out)
    | inner j d q x r =>
      obtain ⟨k, s, c, a⟩ := d
      obtain ⟨g1, g2, g3, va, vb, ve, g4, g5, g6, pa, pb, pe, hr⟩ := hat.parts
      rw [scnt_inner] at hcr
      simp only [slen] at hi
      obtain ⟨e1, e2⟩ := HAD.out (by omega)
      subst e1
      have hbw : b < w.heap.size := World.block_lt_of_cell? w ⟨b, o + i * 6, none⟩ g1
      have c0 := (hbl.cell (p := ⟨b, o + i * 6, none⟩) hbw).trans g1
      have c1 := (hbl.cell (p := ⟨b, o + i * 6 + 1, none⟩) hbw).trans g2
      have c2 := (hbl.cell (p := ⟨b, o + i * 6 + 2, none⟩) hbw).trans g3
      have c3 := (hbl.cell (p := ⟨b, o + i * 6 + 3, none⟩) hbw).trans g4
      have c4 := (hbl.cell (p := ⟨b, o + i * 6 + 4, none⟩) hbw).trans g5
      have c5 := (hbl.cell (p := ⟨b, o + i * 6 + 5, none⟩) hbw).trans g6
      have HCA : Hid (∀ W, (∀ j, j < wr.heap.size → W.heap[j]? = wr.heap[j]?) → Calls Tryd.prog 32 #[va] W (CEP W a)) := fun W hW => copyExprs_any (ecnt a) a ok _ W (Nat.le_refl _) (by omega) (pa.keep fun k _ hk => (hW k (by omega)).trans (hbl.block k hk))
      have HCB : Hid (∀ W, (∀ j, j < wr.heap.size → W.heap[j]? = wr.heap[j]?) → Calls Tryd.prog 20 #[vb] W (CSP W (slft x))) := fun W hW => HIH.out (scnt (slft x)) (by omega) _ ok _ W (Nat.le_refl _) (by omega) (pb.keep fun k _ hk => (hW k (by omega)).trans (hbl.block k hk))
      have HCE : Hid (∀ W, (∀ j, j < wr.heap.size → W.heap[j]? = wr.heap[j]?) → Calls Tryd.prog 20 #[ve] W (CSP W (srgt x))) := fun W hW => HIH.out (scnt (srgt x)) (by omega) _ ok _ W (Nat.le_refl _) (by omega) (pe.keep fun k _ hk => (hW k (by omega)).trans (hbl.block k hk))
      obtain ⟨a1, a2, a3, rfl⟩ := pa.sl
      obtain ⟨b1, b2, b3, rfl⟩ := pb.sl
      obtain ⟨c1', c2', c3', rfl⟩ := pe.sl
      have HRA : Hid (SAt w ok r b (o + (i + 1) * 6)) := by rw [show o + (i + 1) * 6 = o + i * 6 + 6 by omega]; exact hr
      have HO1 : Hid (SOwn wr w.heap.size (.slice u31 u32 u33) ys) := hown
      have HT1 : Hid (∀ y ∈ ys, TM2 wr (fun j => w.heap.size ≤ j ∧ some j ≠ (Value.slice u31 u32 u33).ownBlock) y) := htm
      have HNM : Hid (i + (slen r + 1) = slen l ∧ ecnt a + scnt (slft x) + scnt (srgt x) + scnt r + 1 ≤ scnt l ∧ ys.length = i ∧ scnt l ≤ 1000000) := ⟨hi, hcr, hyl, by omega⟩
      have HYS : Hid (ys.map (·.x) ++ (⟨k, s, c, a, slft x, srgt x⟩ :: toPT r) = toPT l) := hys
      have hil : (i : Int) < (slen l : Int) := by omega
      have HPH : Hid (Ph k s c w wr (wr.alloc (.cells #[.int .i64 k, .string s, .int .i64 c, .slice a1 a2 a3, .slice b1 b2 b3, .slice c1' c2' c3'] 39)) (.slice a1 a2 a3) (.slice b1 b2 b3) (.slice c1' c2' c3')) := Ph.new hbl
      clear hr hbl hown htm hys hyl g1 g2 g3 g4 g5 g6 pa pb pe hat hcr
      go_upto_region 5 with fail
      generalize wr.alloc (.cells #[.int .i64 k, .string s, .int .i64 c, .slice a1 a2 a3, .slice b1 b2 b3, .slice c1' c2' c3'] 39) = W1 at HPH ⊢
      clear c0 c1 c2 c3 c4 c5
      have HPD : Hid (Ph k s c w wr W1.drew (.slice a1 a2 a3) (.slice b1 b2 b3) (.slice c1' c2' c3')) := HPH.out.drew
      have hcd : W1.drew.cell? ⟨wr.heap.size, 3, none⟩ = some (.slice a1 a2 a3) ∧ W1.drew.cell? ⟨wr.heap.size, 4, none⟩ = some (.slice b1 b2 b3) ∧ W1.drew.cell? ⟨wr.heap.size, 5, none⟩ = some (.slice c1' c2' c3') ∧ W1.drew.frozen? ⟨wr.heap.size, 3, none⟩ = false ∧ W1.drew.frozen? ⟨wr.heap.size, 4, none⟩ = false ∧ W1.drew.frozen? ⟨wr.heap.size, 5, none⟩ = false := HPD.out.cells
      have HA' : Hid (∀ W, Hid (Ph k s c w wr W (.slice a1 a2 a3) (.slice b1 b2 b3) (.slice c1' c2' c3')) → Calls Tryd.prog 32 #[(.slice a1 a2 a3)] W fun e w' => ∃ p1 p2 p3, e = .returned (.slice p1 p2 p3) ∧ (w'.cell? ⟨wr.heap.size, 3, none⟩ = some (.slice a1 a2 a3) ∧ w'.cell? ⟨wr.heap.size, 4, none⟩ = some (.slice b1 b2 b3) ∧ w'.cell? ⟨wr.heap.size, 5, none⟩ = some (.slice c1' c2' c3') ∧ w'.frozen? ⟨wr.heap.size, 3, none⟩ = false ∧ w'.frozen? ⟨wr.heap.size, 4, none⟩ = false ∧ w'.frozen? ⟨wr.heap.size, 5, none⟩ = false) ∧ (Ph k s c w wr w' (.slice a1 a2 a3) (.slice b1 b2 b3) (.slice c1' c2' c3') ∧ NwE w' wr.heap.size (.slice p1 p2 p3) a)) := fun W hW => (HCA.out W hW.out.old).mono fun e w' ⟨p1, p2, p3, he, hcv, hb⟩ => ⟨p1, p2, p3, he, (hW.out.call hb).cells, hW.out.call hb, hcv.nw hW.out.lt⟩
      have HB' : Hid (∀ W p1 p2 p3, Hid (Ph k s c w wr W (.slice a1 a2 a3) (.slice b1 b2 b3) (.slice c1' c2' c3') ∧ NwE W wr.heap.size (.slice p1 p2 p3) a) → Calls Tryd.prog 20 #[(.slice b1 b2 b3)] W fun e w' => ∃ p4 p5 p6, e = .returned (.slice p4 p5 p6) ∧ (w'.cell? ⟨wr.heap.size, 3, none⟩ = some (.slice a1 a2 a3) ∧ w'.cell? ⟨wr.heap.size, 4, none⟩ = some (.slice b1 b2 b3) ∧ w'.cell? ⟨wr.heap.size, 5, none⟩ = some (.slice c1' c2' c3') ∧ w'.frozen? ⟨wr.heap.size, 3, none⟩ = false ∧ w'.frozen? ⟨wr.heap.size, 4, none⟩ = false ∧ w'.frozen? ⟨wr.heap.size, 5, none⟩ = false) ∧ (Ph k s c w wr w' (.slice a1 a2 a3) (.slice b1 b2 b3) (.slice c1' c2' c3') ∧ NwE w' wr.heap.size (.slice p1 p2 p3) a ∧ NwS w' wr.heap.size (.slice p4 p5 p6) (slft x))) := fun W p1 p2 p3 hW => (HCB.out W hW.out.1.old).mono fun e w' ⟨p4, p5, p6, he, hcv, hb⟩ => ⟨p4, p5, p6, he, (hW.out.1.call hb).cells, hW.out.1.call hb, hW.out.2.call hb, hcv.nw hW.out.1.lt⟩
      have HE' : Hid (∀ W p1 p2 p3 p4 p5 p6, Hid (Ph k s c w wr W (.slice a1 a2 a3) (.slice b1 b2 b3) (.slice c1' c2' c3') ∧ NwE W wr.heap.size (.slice p1 p2 p3) a ∧ NwS W wr.heap.size (.slice p4 p5 p6) (slft x)) → Calls Tryd.prog 20 #[(.slice c1' c2' c3')] W fun e w' => ∃ p7 p8 p9, e = .returned (.slice p7 p8 p9) ∧ (w'.cell? ⟨wr.heap.size, 3, none⟩ = some (.slice a1 a2 a3) ∧ w'.cell? ⟨wr.heap.size, 4, none⟩ = some (.slice b1 b2 b3) ∧ w'.cell? ⟨wr.heap.size, 5, none⟩ = some (.slice c1' c2' c3') ∧ w'.frozen? ⟨wr.heap.size, 3, none⟩ = false ∧ w'.frozen? ⟨wr.heap.size, 4, none⟩ = false ∧ w'.frozen? ⟨wr.heap.size, 5, none⟩ = false) ∧ (Ph k s c w wr w' (.slice a1 a2 a3) (.slice b1 b2 b3) (.slice c1' c2' c3') ∧ NwE w' wr.heap.size (.slice p1 p2 p3) a ∧ NwS w' wr.heap.size (.slice p4 p5 p6) (slft x) ∧ NwS w' wr.heap.size (.slice p7 p8 p9) (srgt x))) := fun W p1 p2 p3 p4 p5 p6 hW => (HCE.out W hW.out.1.old).mono fun e w' ⟨p7, p8, p9, he, hcv, hb⟩ => ⟨p7, p8, p9, he, (hW.out.1.call hb).cells, hW.out.1.call hb, hW.out.2.1.call hb, hW.out.2.2.call hb, hcv.nw hW.out.1.lt⟩
      have HFIN : Hid (∀ W p1 p2 p3 p4 p5 p6 p7 p8 p9, Hid (Ph k s c w wr W (.slice a1 a2 a3) (.slice b1 b2 b3) (.slice c1' c2' c3') ∧ NwE W wr.heap.size (.slice p1 p2 p3) a ∧ NwS W wr.heap.size (.slice p4 p5 p6) (slft x) ∧ NwS W wr.heap.size (.slice p7 p8 p9) (srgt x)) → Cpd k s c w wr a (slft x) (srgt x) (((W.setCell ⟨wr.heap.size, 3, none⟩ (.slice p1 p2 p3)).setCell ⟨wr.heap.size, 4, none⟩ (.slice p4 p5 p6)).setCell ⟨wr.heap.size, 5, none⟩ (.slice p7 p8 p9))) := fun W p1 p2 p3 p4 p5 p6 p7 p8 p9 hW => ⟨_, _, _, ((hW.out.1.set3 _).set4 _).set5 _, ((hW.out.2.1.set 3 _).set 4 _).set 5 _, ((hW.out.2.2.1.set 3 _).set 4 _).set 5 _, ((hW.out.2.2.2.set 3 _).set 4 _).set 5 _⟩
      obtain ⟨q3, q4, q5, f3, f4, f5⟩ := hcd
      go_cut [8] from 9 to 28 (fun u8 wx => u8 = .int .i64 (i : Int) ∧ Hid (Cpd k s c w wr a (slft x) (srgt x) wx))
      case first =>
        clear HO1 HT1 HNM HYS HRA HIH HCA HCB HCE HPH HAD HP HBL hil hsz hll hbw hN hc h2 h3 e2
        generalize wr.heap.size = n1 at *
        go_region_with (first
          | (go_at_call 32; refine (HA'.out _ HPD).mono ?_; rintro e wA ⟨p1, p2, p3, rfl, ⟨q3a, q4a, q5a, f3a, f4a, f5a⟩, hAA⟩; have HAA : Hid _ := hAA; clear hAA)
          | (go_at_call_of 20 (Value.slice b1 b2 b3); refine (HB'.out _ _ _ _ HAA).mono ?_; rintro e wB ⟨p4, p5, p6, rfl, ⟨q3b, q4b, q5b, f3b, f4b, f5b⟩, hBB⟩; have HBB : Hid _ := hBB; clear hBB)
          | (go_at_call_of 20 (Value.slice c1' c2' c3'); refine (HE'.out _ _ _ _ _ _ _ HBB).mono ?_; rintro e wE ⟨p7, p8, p9, rfl, ⟨q3e, q4e, q5e, f3e, f4e, f5e⟩, hEE⟩; have HEE : Hid _ := hEE; clear hEE))
        all_goals (go_wp2_with fail; go_meet; exact ⟨rfl, HFIN.out _ _ _ _ _ _ _ _ _ _ HEE⟩)
      case rest =>
      obtain ⟨rfl, hcp⟩ := hcut
      have HCP : Hid (Cpd k s c w wr a (slft x) (srgt x) wc) := hcp
      clear hcp HPH HPD HA' HB' HE' HFIN q3 q4 q5 f3 f4 f5
      generalize wc = w3 at HCP ⊢
      obtain ⟨A, B, E, hph, hA, hB, hE⟩ := HCP.out
      obtain ⟨x1, x2, x3, rfl⟩ := hA.sl
      obtain ⟨y1, y2, y3, rfl⟩ := hB.sl
      obtain ⟨z1, z2, z3, rfl⟩ := hE.sl
      obtain ⟨d0, d1, d2, d3, d4, d5⟩ := c6 hph.blk
      have hlt3 := hph.lt
      have HO3 : Hid (w3.ownsRow w.heap.size 39 6 (.slice u31 u32 u33) ys.length (scs ys)) := HO1.out.keep fun j _ hj => hph.old j hj
      have HT3 : Hid (∀ y ∈ ys, TM2 w3 (fun j => w.heap.size ≤ j ∧ some j ≠ (Value.slice u31 u32 u33).ownBlock) y) := fun y hy => (HT1.out y hy).keep' fun j h1 hj => ⟨hph.old j hj, h1⟩
      have HOL : Hid (∀ k, (Value.slice u31 u32 u33).ownBlock = some k → w.heap.size ≤ k ∧ k < wr.heap.size) := World.ownsRow.lt HO1.out
      have HL3 : Hid (Below w.heap.size w w3 ∧ w.heap.size ≤ w3.heap.size) := ⟨hph.bel, by have := hph.bel.size; omega⟩
      have HY3 : Hid (TM2 w3 (fun j => w.heap.size ≤ j ∧ some j ≠ (Value.slice u31 u32 u33).ownBlock) ⟨⟨k, s, c, a, slft x, srgt x⟩, .slice x1 x2 x3, .slice y1 y2 y3, .slice z1 z2 z3⟩) := by
        have hq : ∀ j, wr.heap.size < j → (w.heap.size ≤ j ∧ some j ≠ (Value.slice u31 u32 u33).ownBlock) := fun j hj => ⟨by have := hph.le; omega, fun e => by have := HOL.out j e.symm; omega⟩
        exact ⟨⟨hA.1.mono hq, hB.1.mono hq, hE.1.mono hq⟩, hA.2.keep' fun j h _ => ⟨rfl, hq j h⟩, hB.2.keep' fun j h _ => ⟨rfl, hq j h⟩, hE.2.keep' fun j h _ => ⟨rfl, hq j h⟩⟩
      clear hph hA hB hE HCP HCA HCB HCE
      go_wp2_with (at_builtin; refine wpList_append_own_at _ rfl _ _ 27 rfl w.heap.size 39 i0 (.agg #[.int .i64 0, .string ⟨#[]⟩, .int .i64 0, .slice none 0 0, .slice none 0 0, .slice none 0 0]) 6 104 Tryd.underlying27 hi0 hz0 hz1 hz2 rfl (by decide) _ _ _ rfl (World.ownsRow.alloc HO3.out _) ⟨w3.heap.size, 0, none⟩ 1 1 (scs [⟨⟨k, s, c, a, slft x, srgt x⟩, .slice x1 x2 x3, .slice y1 y2 y3, .slice z1 z2 z3⟩]) rfl rfl ?c1 ?c2 ?c3 ?c4 ?c5 ?_)
      case c1 =>
        intro j u hj
        match j, hj with
        | 0, hj => simp [scs, sc] at hj; subst hj; simp [Addr.add]
        | 1, hj => simp [scs, sc] at hj; subst hj; simp [Addr.add]
        | 2, hj => simp [scs, sc] at hj; subst hj; simp [Addr.add]
        | 3, hj => simp [scs, sc] at hj; subst hj; simp [Addr.add]
        | 4, hj => simp [scs, sc] at hj; subst hj; simp [Addr.add]
        | 5, hj => simp [scs, sc] at hj; subst hj; simp [Addr.add]
      case c2 => exact sc_one _ ⟨_, _, _, rfl⟩ ⟨_, _, _, rfl⟩ ⟨_, _, _, rfl⟩
      case c3 => have := HNM.out; unfold maxLen; omega
      case c4 => have := HNM.out; omega
      case c5 => have := HL3.out.2; simp; omega
      intro v' w4 hown' hgrow _ hloc
      have hsz4 := hgrow.size
      simp at hsz4
      have hbl : ∀ j, j < w3.heap.size → some j ≠ (Value.slice u31 u32 u33).ownBlock → w4.heap[j]? = w3.heap[j]? := fun j h1 h2 => (hgrow.block j (by simp; omega) h2).trans (heap_alloc_old _ _ h1)
      have hown2 : SOwn w4 w.heap.size v' (ys ++ [⟨⟨k, s, c, a, slft x, srgt x⟩, .slice x1 x2 x3, .slice y1 y2 y3, .slice z1 z2 z3⟩]) := by
        show w4.ownsRow _ _ _ _ _ _
        rw [List.length_append, scs_app]
        exact hown'
      have hok : ∀ j, (w.heap.size ≤ j ∧ some j ≠ (Value.slice u31 u32 u33).ownBlock) → j < w3.heap.size → (w.heap.size ≤ j ∧ some j ≠ v'.ownBlock) := by
        intro j h1 h2
        refine ⟨h1.1, fun e => ?_⟩
        rcases hloc with h3 | h3
        · rw [h3] at e; exact h1.2 e
        · rw [h3] at e; cases e; omega
      have htm : ∀ y ∈ ys ++ [(⟨⟨k, s, c, a, slft x, srgt x⟩, .slice x1 x2 x3, .slice y1 y2 y3, .slice z1 z2 z3⟩ : RT)], TM2 w4 (fun j => w.heap.size ≤ j ∧ some j ≠ v'.ownBlock) y := by
        intro y hy
        have h0 : TM2 w3 (fun j => w.heap.size ≤ j ∧ some j ≠ (Value.slice u31 u32 u33).ownBlock) y := by
          rcases List.mem_append.1 hy with h | h
          · exact HT3.out y h
          · simp at h; subst h; exact HY3.out
        exact h0.keep' fun j h1 h2 => ⟨hbl j h2 h1.2, hok j h1 h2⟩
      have hbelow : Below w.heap.size w w4 := ⟨hgrow.os.trans HL3.out.1.os, hgrow.tape.trans HL3.out.1.tape, hgrow.output.trans HL3.out.1.output, by have := HL3.out.1.size; omega, fun j hj => (hbl j (by have := HL3.out.1.size; omega) (fun e => by have := HOL.out j e.symm; omega)).trans (HL3.out.1.block j hj)⟩
      have HXN : Hid (CY w l ok b o v' (.int .i64 ((i : Int) + 1)) w4) := by
        refine ⟨r, i + 1, ys ++ [⟨⟨k, s, c, a, slft x, srgt x⟩, .slice x1 x2 x3, .slice y1 y2 y3, .slice z1 z2 z3⟩], by simp, by have := HNM.out; omega, ?_, by have := HNM.out; simp; omega, by have := HNM.out; omega, hown2, htm, HRA.out, hbelow⟩
        rw [List.map_append, List.append_assoc]
        exact HYS.out
      clear hown' hgrow hloc hsz4 hbl hown2 hok htm hbelow HO3 HT3 HY3 HOL d0 d1 d2 d3 d4 d5
      go_wp2
      go_roundw
      case rel => exact HXN
      case measure => simp [intOf]; omega
end Go.Proofs.YtnofibjchhcmeabDoor
