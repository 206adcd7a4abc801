/- TreeRights, up to 1048576 values and letters: of any statements, whether they may be, how many there are, and which are the same is what the document says. Its condition: what it is handed holds together at most 1048576 values and letters. -/
import Derived.Test.YtnofibjchhcmeabDoorRrN
import Derived.Test.YtnofibjchhcmeabDoorSn
import Derived.Test.YtnofibjchhcmeabDoorSy
import Derived.Test.YtnofibjchhcmeabDoorAl
import Derived.Test.YtnofibjchhcmeabDoorTrT
import Derived.Test.YtnofibjchhcmeabDoorOp
import Derived.Deep.DeepHandedRow
namespace Go.Proofs.YtnofibjchhcmeabDoor
open Go.RowKit Go.Maps
set_option linter.unusedVariables false
set_option linter.unusedSimpArgs false

set_option maxRecDepth 100000 in
set_option maxHeartbeats 16000000 in
theorem rights_walk (la lb : SL) (aa ab : Option Addr) (ca cb : Nat) (w : World) (hA : SSx w (.slice aa (slen la) ca) la) (hB : SSx w (.slice ab (slen lb) cb) lb) (hla : scnt la ≤ 1048576) (hlb : scnt lb ≤ 1048576) (hza : SSz la) (hsg : ∃ A t fr, SA A ∧ w.heap[0]? = some (.cells A t fr)) (hT : TB w) :
    Calls Tryd.prog 4 #[.slice aa (slen la) ca, .slice ab (slen lb) cb] w fun e w' => e = .returned (.bool true) ∧ Below w.heap.size w w' := by
  have HG1 : Hid (∀ W, Below w.heap.size w W → Calls Tryd.prog 12 #[.slice aa (slen la) ca] W fun e w' => e = .returned (.bool (decide (5000 < (scnt la : Int)))) ∧ Below W.heap.size W w') := fun W hW => great_any la _ W (SSlP.below hA hW) (by omega)
  have HG2 : Hid (∀ W, Below w.heap.size w W → Calls Tryd.prog 12 #[.slice ab (slen lb) cb] W fun e w' => e = .returned (.bool (decide (5000 < (scnt lb : Int)))) ∧ Below W.heap.size W w') := fun W hW => great_any lb _ W (SSlP.below hB hW) (by omega)
  have HR1 : Hid (∀ W, Below w.heap.size w W → Calls Tryd.prog 13 #[.slice aa (slen la) ca] W (QB W (decide (scnt la ≤ 600) && mayS la 0))) := fun W hW => by
    rw [← right_is]
    exact right_any la _ W hza (SSlP.below hA hW) (hT.below hW)
  have HR2 : Hid (∀ W, Below w.heap.size w W → Calls Tryd.prog 14 #[.slice aa (slen la) ca] W (QB W (decide (scnt la ≤ 600) && mayS la 0))) := fun W hW => refRight_any la _ W hza (SSlP.below hA hW) (by omega)
  have HN1 : Hid (scnt la ≤ 5000 → ∀ W, Below w.heap.size w W → Calls Tryd.prog 15 #[.slice aa (slen la) ca] W (NQ W (scnt la))) := fun h5 W hW => nodes_any _ la (fun _ => True) _ W (Nat.le_refl _) (by omega) (SSlP.below hA hW)
  have HN2 : Hid (∀ W, Below w.heap.size w W → Calls Tryd.prog 16 #[.slice aa (slen la) ca] W fun e w' => e = .returned (.int .i64 (scnt la : Int)) ∧ Below W.heap.size W w') := fun W hW => rnodes_any _ la (Nat.le_refl _) (by omega) _ W (SSlP.below hA hW)
  have HS1 : Hid (∀ W, Below w.heap.size w W → Calls Tryd.prog 17 #[.slice aa (slen la) ca, .slice ab (slen lb) cb] W (QB W (eqS la lb))) := fun W hW => same_any la lb _ _ W (SSlP.below hA hW) (SSlP.below hB hW)
  have HS2 : Hid (∀ W, Below w.heap.size w W → Calls Tryd.prog 18 #[.slice aa (slen la) ca, .slice ab (slen lb) cb] W (QB W (eqS la lb))) := fun W hW => (refSame_any (scnt la) la lb _ _ W (Nat.le_refl _) (SSlP.below hA hW) (SSlP.below hB hW)).mono fun e W' ⟨he, k, hk⟩ => ⟨he, by rw [hk]; exact below_drewM (Below.refl _ _) k⟩
  have HS3 : Hid (∀ W, Below w.heap.size w W → Calls Tryd.prog 17 #[.slice aa (slen la) ca, .slice aa (slen la) ca] W (QB W true)) := fun W hW => by
    have := same_any la la _ _ W (SSlP.below hA hW) (SSlP.below hA hW)
    rw [eqS_refl] at this; exact this
  have HAL : Hid (∀ W, Below w.heap.size w W → Calls Tryd.prog 11 #[] W fun e w' => e = .returned (.bool true) ∧ Below W.heap.size W w') := fun W hW => alive_any W (sg_below hsg hW)
  generalize eqS la lb = E at HS1 HS2
  generalize (decide (scnt la ≤ 600) && mayS la 0) = R at HR1 HR2
  generalize scnt la = N at *
  generalize scnt lb = M at *
  generalize slen la = p at *
  generalize slen lb = q at *
  clear hA hB hza hsg hT
  go_enter Tryd.func4, Tryd.ntmps4
  go_wp2_with fail
  refine (HG1.out _ (Below.refl _ _)).mono ?_
  rintro e w1 ⟨rfl, b1⟩
  have B1 : Hid (Below w.heap.size w w1) := b1
  clear b1
  by_cases hg : (5000 : Int) < (N : Int)
  · rw [decide_eq_true hg]
    go_wp2_with fail
    first | exact ⟨rfl, B1.out⟩ | (go_ret; exact ⟨rfl, B1.out⟩)
  rw [decide_eq_false hg]
  go_wp2_with fail
  refine (HG2.out _ B1.out).mono ?_
  rintro e w2 ⟨rfl, b2⟩
  have B2 : Hid (Below w.heap.size w w2) := B1.out.trans (b2.mono B1.out.size)
  clear b2
  by_cases hg2 : (5000 : Int) < (M : Int)
  · rw [decide_eq_true hg2]
    go_wp2_with fail
    first | exact ⟨rfl, B2.out⟩ | (go_ret; exact ⟨rfl, B2.out⟩)
  rw [decide_eq_false hg2]
  go_wp2_with fail
  refine (HR1.out _ B2.out).mono ?_
  rintro e w3 ⟨rfl, b3⟩
  have B3 : Hid (Below w.heap.size w w3) := B2.out.trans (b3.mono B2.out.size)
  clear b3
  go_wp2_with fail
  refine (HR2.out _ B3.out).mono ?_
  rintro e w4 ⟨rfl, b4⟩
  have B4 : Hid (Below w.heap.size w w4) := B3.out.trans (b4.mono B3.out.size)
  clear b4
  have ER : (R == R) = true := by simp
  have EN : ((N : Int) == (N : Int)) = true := by simp
  have EE : (E == E) = true := by simp
  go_wp2_with fail
  refine (HN1.out (by omega) _ B4.out).mono ?_
  rintro e w5 ⟨rfl, b5⟩
  have B5 : Hid (Below w.heap.size w w5) := B4.out.trans (b5.mono B4.out.size)
  clear b5
  go_wp2_with fail
  refine (HN2.out _ B5.out).mono ?_
  rintro e w6 ⟨rfl, b6⟩
  have B6 : Hid (Below w.heap.size w w6) := B5.out.trans (b6.mono B5.out.size)
  clear b6
  go_wp2_with fail
  refine (HS1.out _ B6.out).mono ?_
  rintro e w7 ⟨rfl, b7⟩
  have B7 : Hid (Below w.heap.size w w7) := B6.out.trans (b7.mono B6.out.size)
  clear b7
  go_wp2_with fail
  refine (HS2.out _ B7.out).mono ?_
  rintro e w8 ⟨rfl, b8⟩
  have B8 : Hid (Below w.heap.size w w8) := B7.out.trans (b8.mono B7.out.size)
  clear b8
  go_wp2_with fail
  refine (HS3.out _ B8.out).mono ?_
  rintro e w9 ⟨rfl, b9⟩
  have B9 : Hid (Below w.heap.size w w9) := B8.out.trans (b9.mono B8.out.size)
  clear b9
  go_wp2_with fail
  refine (HAL.out _ B9.out).mono ?_
  rintro e w10 ⟨rfl, b10⟩
  have B10 : Hid (Below w.heap.size w w10) := B9.out.trans (b10.mono B9.out.size)
  clear b10
  go_wp2_with fail
  first | exact ⟨rfl, B10.out⟩ | (go_ret; exact ⟨rfl, B10.out⟩)
end Go.Proofs.YtnofibjchhcmeabDoor
namespace Go.Proofs.YtnofibjchhcmeabDoor
theorem esz_of (l : EL) (h : EStr l) : ESz l := by
  induction l with
  | leaf => trivial
  | inner i x v a r iha ihr =>
    obtain ⟨k, m, s, p⟩ := x
    exact ⟨h.1, iha h.2.1, ihr h.2.2⟩
theorem ssz_of (l : SL) (h : SStr l) : SSz l := by
  induction l using sl_ind with
  | h0 => trivial
  | h1 i d v x r ihl ihr ih =>
    obtain ⟨k, s, c, a⟩ := d
    cases x with
    | leaf => exact ⟨h.1, esz_of _ h.2.1, ih h.2.2⟩
    | inner => exact ⟨h.1, esz_of _ h.2.1, ihl h.2.2.1, ihr h.2.2.2.1, ih h.2.2.2.2⟩
end Go.Proofs.YtnofibjchhcmeabDoor
namespace Go.Proofs.YtnofibjchhcmeabDoor.treeRights
open Go.ChangeShapes Go.WideShapes Go.ChangeAt Go.RowKit
set_option linter.unusedVariables false

theorem laid_met (os : Os) : laidMet Tryd.prog Rows.treeRightsUptoRow.laid ((World.laidAll Tryd.prog os tabs3).forCall (fun _ _ => 0) ⟨#[], #[.slice none 0 0, .slice none 0 0], []⟩).memory :=
  laidMet_laidAll _ (by kernel_rfl) (by kernel_rfl)
theorem reads (os : Os) {H : Type} (enc : TypeId × Value → H) : ∃ places, DataW.whole enc Tryd.prog ((World.laidAll Tryd.prog os tabs3).forCall (fun _ _ => 0) ⟨#[], #[.slice none 0 0, .slice none 0 0], []⟩).memory Tryd.f4.params.toList Rows.treeRightsSpec.vars false #[Value.slice none 0 0, Value.slice none 0 0].toList 8 = some ([.nil, .nil], [], places) :=
  ⟨[], by kernel_rfl⟩

set_option maxRecDepth 100000 in
theorem contract (H : Type) (enc : TypeId × Value → H) (W : World) (base : Nat) (args : Array Value) (ds gs : List (DataW H)) (before : List MemPlace)
    (hval0 : ∀ (j : Nat) t v, Tryd.f4.params[j]? = some t → args[j]? = some v → Value.okWide Tryd.prog W .any base t v)
    (hW : DataW.Whole enc Tryd.prog Tryd.f4.params.toList Rows.treeRightsSpec.vars false W args.toList ds gs before) (hk : Rows.uptoSmall H (ds ++ gs) = true) (hsg : (∃ A t fr, SA A ∧ W.heap[0]? = some (.cells A t fr)) ∧ TB W) :
    Calls Tryd.prog 4 args W fun e W' => ∃ v, e = .returned v ∧ Rows.treeRightsSpec.post enc Tryd.prog Tryd.f4 false true false false W args v W' := by
  have hval : ∀ (j : Nat) t v, Tryd.f4.params[j]? = some t → args[j]? = some v → Value.okWide Tryd.prog W .any base t v := hval0
  have hW' := hW
  obtain ⟨p, q, hA0, hV, rfl, hfz, hnd⟩ := hW
  have hA : DataW.TrodAll enc Tryd.prog W 0 (fun _ => true) true Tryd.f4.params.toList args.toList ds p := hA0
  rw [Tryd.params4] at hA hval
  obtain ⟨v0, vs0, d0, ds0, p0, q0, hargs, rfl, rfl, h0, r0⟩ := trodAll_cons hA
  obtain ⟨v1, vs1, d1, ds1, p1, q1, hargs1, rfl, rfl, h1, r1⟩ := trodAll_cons r0
  obtain ⟨rfl, rfl, rfl⟩ := trodAll_nil r1
  obtain rfl : args = #[v0, v1] := by cases args; simp_all
  obtain ⟨rfl, rfl⟩ := trodVars_none hV
  obtain ⟨a0, len0, cap0, rfl⟩ := okWide_slice Tryd.underlying27 (hval 0 27 v0 rfl rfl)
  obtain ⟨a1, len1, cap1, rfl⟩ := okWide_slice Tryd.underlying27 (hval 1 27 v1 rfl rfl)
  have k0 := h0
  have k1 := h1
  have lt0 : ∀ x ∈ p0, x.block < W.heap.size := by obtain ⟨m, hm⟩ := k0; exact DataW.trod_lt m _ _ _ hm
  have lt1 : ∀ x ∈ p1, x.block < W.heap.size := by obtain ⟨m, hm⟩ := k1; exact DataW.trod_lt m _ _ _ hm
  have hbulk : Rows.uptoBulk d0 + Rows.uptoBulk d1 ≤ 1048576 := by
    have h := of_decide_eq_true hk
    simp only [List.cons_append, Rows.uptoBulkAll] at h
    omega
  obtain ⟨l, hE, hl, hz⟩ : ∃ l, SSx W (.slice a0 len0 cap0) l ∧ scnt l ≤ 1048576 ∧ SStr l := by
    obtain ⟨fuel, hf⟩ := h0
    obtain ⟨l, h1, h2, h3⟩ := open_stmts _ (Nat.le_refl _) hf
    exact ⟨l, h1, by omega, h3⟩
  obtain ⟨m, hE1, hl1, _⟩ : ∃ l, SSx W (.slice a1 len1 cap1) l ∧ scnt l ≤ 1048576 ∧ SStr l := by
    obtain ⟨fuel, hf⟩ := h1
    obtain ⟨l, h1, h2, h3⟩ := open_stmts _ (Nat.le_refl _) hf
    exact ⟨l, h1, by omega, h3⟩
  obtain rfl : slen l = len0 := by obtain ⟨_, _, _, _, e, _⟩ := id hE; injection e with _ e _; exact e.symm
  obtain rfl : slen m = len1 := by obtain ⟨_, _, _, _, e, _⟩ := id hE1; injection e with _ e _; exact e.symm
  clear hA0 hval0
  refine (rights_walk l m a0 a1 cap0 cap1 W hE hE1 hl hl1 (ssz_of _ hz) hsg.1 hsg.2).mono fun e W' ⟨he, bel⟩ => ?_
  subst he
  exact ⟨_, rfl, _, _, _, [], _, [], hW', trodAll_mk1 (shut_bool Tryd.underlying4 _), (trodAll_cons_mk (Below.trod laidOut (by kernel_rfl) (of_decide_eq_true (by kernel_rfl)) k0 bel lt0) (trodAll_cons_mk (Below.trod laidOut (by kernel_rfl) (of_decide_eq_true (by kernel_rfl)) k1 bel lt1) trodAll_mk0)), rfl, bel.frame _, fun h => by cases h⟩

set_option maxRecDepth 100000 in
theorem lifted (os : Os) (started : os.Started) (H : Type) (enc : TypeId × Value → H) (F : Stop.Interp) :
    ReturnsInHanded {} Tryd.checked os 4 .any ((Rows.OpenSpec.upto Rows.treeRightsSpec).preRow enc Tryd.prog Tryd.f4 Rows.treeRightsUptoRow.domain false Rows.treeRightsUptoRow.laid) (((Rows.OpenSpec.upto Rows.treeRightsSpec).at F).post enc Tryd.prog Tryd.f4 false true false false) := by
  obtain ⟨places, hx⟩ := reads os enc
  refine returnsInHanded_of_row (C := Tryd.checked) (s := Rows.OpenSpec.upto Rows.treeRightsSpec) own started (by kernel_rfl) Tryd.func4
    (witness_row_at (enc := enc) (C := Tryd.checked) false (World.laidAll Tryd.prog os tabs3) #[.slice none 0 0, .slice none 0 0] (World.laidAll_os _ _ _) (by kernel_rfl) (by kernel_rfl) (by kernel_rfl)
      (OpenSpec.preRow_of_cond 8 hx (by kernel_rfl) (fun k hk => by cases hk; kernel_rfl) (by kernel_rfl) (laid_met os))) ?_
  intro W base args ds gs before hval hW _ hcond _ hL _ _
  refine contract H enc W base args ds gs before hval hW (hcond _ rfl) ?_
  obtain ⟨x1, x2, x3⟩ := of_laid3 (W := W) hL
  exact ⟨x1, x2, x3⟩

theorem over : Rows.TreeRightsUptoSaid :=
  OpenClaim.holds_of_cond 4 Tryd.f4 rfl rfl rfl rfl rfl rfl rfl ⟨rfl, rfl, rfl, rfl, rfl⟩ rfl rfl rfl rfl rfl (by kernel_rfl) Tryd.func4 (by kernel_rfl)
    (of_decide_eq_true (by kernel_rfl)) (by unfold Func.isWrapper; first | (rw [if_pos (by decide +kernel)]; kernel_rfl) | (rw [if_neg (by decide +kernel)]; exact ⟨rfl, rfl⟩))
    (fun os started H enc _ F => by rw [OpenClaim.pre_eq_preRow]; exact lifted os started H enc F)

/-- the statement -/
theorem proved : Rows.TreeRightsUptoCardSaid :=
  Claim7.holds_tied_plain_at .later [] [.data, .data, .data] true (true, "0d1c221224e56fedcd675fe3029e0d161f01693a2c6f3b32bdffa053d01c6392") true over (fun _ h => by cases h) (by kernel_rfl) (fun _ h => by cases h) treeRightsUpto_row_tie rfl ⟨rfl, rfl⟩ (by kernel_rfl) rfl
    (fun f fn hf hfn => by
      obtain rfl : f = 4 := Option.some.inj ((show Tryd.prog.funcNamed Tryd.f4.name = some 4 by kernel_rfl).symm.trans hf) |>.symm
      obtain rfl : fn = Tryd.f4 := (Option.some.inj (Tryd.func4.symm.trans hfn)).symm
      exact ⟨by kernel_rfl, fun j t ht => by
        rw [Tryd.params4] at ht
        have hm : t ∈ [27] := by
          have := Array.mem_of_getElem? ht
          simpa using this
        have hall : ([27].all fun u => !Tryd.prog.wantsStandIn u) = true := by kernel_rfl
        exact (show Tryd.prog.wantsStandIn t = false by simpa using List.all_eq_true.1 hall t hm)⟩)
    (by kernel_rfl)
#print axioms proved
end Go.Proofs.YtnofibjchhcmeabDoor.treeRights
