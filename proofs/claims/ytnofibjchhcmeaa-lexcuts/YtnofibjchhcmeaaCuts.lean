/- The statement LexCuts: each text is cut into its tokens as the document says, or refused at its first fault. No condition. -/
import Derived.Test.YtnofibjchhcmeaaRows
import Derived.Test.YtnofibjchhcmeaaRefCutB
import Derived.Test.YtnofibjchhcmeaaSame
import Derived.WalkKit
import Derived.ProofKit
import Derived.OpenShut
import Derived.ShutString
import Derived.ChangeOld
import Derived.Below
namespace Go.Proofs.Ytnofibjchhcmeaa.lexCuts
open Go.ChangeShapes Go.WideShapes Go.ChangeAt Go.RowKit
open Go.ChangeMaps (open_string shut_string)
set_option linter.unusedVariables false

theorem own : ownKnob Try.prog.godebug = none := by kernel_rfl
theorem laidOut : laidOutB Try.prog = true := by kernel_rfl

/-- what the document's Cut answers, whatever the text -/
theorem rcut_any (s : ByteArray) (w : World) (hm : s.size ≤ maxLen) :
    Calls Try.prog 9 #[.string s] w fun e w' => CutPost w (cut s.data.toList) e w' := by
  have hl : s.data.toList.length = s.size := by simp
  by_cases h : 8192 < s.size
  · have : cut s.data.toList = .err 0 30 := by unfold cut; rw [if_pos (by omega)]
    rw [this]
    exact rcut_long s w h hm
  · rw [cut_eq _ (by omega), hl]
    exact rcut_short s w (by omega)

set_option maxRecDepth 100000 in
set_option maxHeartbeats 2000000 in
theorem walk_err (s : ByteArray) (hm : s.size ≤ maxLen) (k : Nat) (er : Int) (hc : cut s.data.toList = .err k er) (w : World) :
    Calls Try.prog 3 #[.string s] w fun e w' => e = .returned (.bool true) ∧ Below w.heap.size w w' := by
  have HC : Hid (cut s.data.toList = .err k er) := hc
  clear hc
  go_enter Try.func3, Try.ntmps3
  go_wp2_with fail
  refine (cut_any s w hm).mono ?_
  rw [HC.out]
  rintro e w1 ⟨rfl, hb1⟩
  have HB1 : Hid (Below w.heap.size w w1) := hb1
  clear hb1
  go_wp2_with fail
  refine (rcut_any s w1 hm).mono ?_
  rw [HC.out]
  rintro e w2 ⟨rfl, hb2⟩
  have HB2 : Hid (Below w.heap.size w w2) := HB1.out.trans (hb2.mono HB1.out.size)
  clear hb2
  go_wp2_with (first | (go_at_call 10; refine (same_nil true _).mono ?_; rintro e w3 ⟨rfl, hb3⟩) | (go_at_call 11; refine (alive_any _).mono ?_; rintro e w4 ⟨rfl, hb4⟩))
  have HB4 : Hid (Below w.heap.size w w4) := HB2.out.trans ((hb3.trans (hb4.mono hb3.size)).mono HB2.out.size)
  clear hb3 hb4
  go_wp2
  go_ret
  exact ⟨rfl, HB4.out⟩

set_option maxRecDepth 100000 in
set_option maxHeartbeats 2000000 in
theorem walk_ok (s : ByteArray) (hm : s.size ≤ maxLen) (l : List Tok) (hc : cut s.data.toList = .ok l) (w : World) :
    Calls Try.prog 3 #[.string s] w fun e w' => e = .returned (.bool true) ∧ Below w.heap.size w w' := by
  have hne : l ≠ [] := (cut_placed _ _ hc).2
  have HNE : Hid (l ≠ []) := hne
  have HC : Hid (cut s.data.toList = .ok l) := hc
  clear hc hne
  go_enter Try.func3, Try.ntmps3
  go_wp2_with fail
  refine (cut_any s w hm).mono ?_
  rw [HC.out]
  rintro e w1 ⟨v1, rfl, ht1, hb1⟩
  have HR1 : Hid (TRd w1 v1 l) := ht1.rd HNE.out
  obtain ⟨g1, c1, hv1, _⟩ := ht1.read HNE.out
  subst hv1
  have HB1 : Hid (Below w.heap.size w w1) := hb1
  clear hb1 ht1
  go_wp2_with fail
  refine (rcut_any s w1 hm).mono ?_
  rw [HC.out]
  rintro e w2 ⟨v2, rfl, ht2, hb2⟩
  have HR2 : Hid (TRd w2 v2 l) := ht2.rd HNE.out
  obtain ⟨g2, c2, hv2, _⟩ := ht2.read HNE.out
  subst hv2
  have HR1' : Hid (TRd w2 (.slice (some ⟨g1, 0, none⟩) l.length c1) l) := HR1.out.below hb2
  have HB2 : Hid (Below w.heap.size w w2) := HB1.out.trans (hb2.mono HB1.out.size)
  clear hb2 ht2 HR1
  have HS : Hid (∀ w' : World, Below w2.heap.size w2 w' → Calls Try.prog 10 #[.slice (some ⟨g1, 0, none⟩) l.length c1, .slice (some ⟨g2, 0, none⟩) l.length c2, .bool true] w' fun e w'' => e = .returned (.bool true) ∧ Below w'.heap.size w' w'') := fun w' hb =>
    same_true true _ _ l l w' ⟨rfl, fun i _ _ => ⟨rfl, rfl, rfl, fun _ => rfl⟩⟩ (HR1'.out.below hb) (HR2.out.below hb) (by intro h; cases h) (by intro h; cases h)
  have HB0 : Hid (Below w2.heap.size w2 w2) := Below.refl _ _
  have HBD : Hid (Below w2.heap.size w2 w2.drew) := (Below.refl _ _).drew
  go_wp2_with (first | (go_at_call 10; refine (HS.out _ (by first | exact HB0.out | exact HBD.out)).mono ?_; rintro e w3 ⟨rfl, hb3⟩) | (go_at_call 11; refine (alive_any _).mono ?_; rintro e w4 ⟨rfl, hb4⟩))
  have HB4 : Hid (Below w.heap.size w w4) := HB2.out.trans ((hb3.trans (hb4.mono hb3.size)).mono HB2.out.size)
  clear hb3 hb4
  go_wp2
  go_ret
  exact ⟨rfl, HB4.out⟩

theorem walk (a0 : ByteArray) (w0 : a0.size ≤ maxLen) (w : World) :
    Calls Try.prog 3 #[.string a0] w fun e w' => e = .returned (.bool true) ∧ Below w.heap.size w w' := by
  rcases e : cut a0.data.toList with l | ⟨k, er⟩
  · exact walk_ok a0 w0 l e w
  · exact walk_err a0 w0 k er e w

/-! ### THE ROW's STEP: WRITTEN OUT -/
set_option maxRecDepth 100000 in
theorem lifted (os : Os) (started : os.Started) (H : Type) (enc : TypeId × Value → H) :
    ReturnsInHanded {} Try.checked os 3 .any (Rows.lexCutsSpec.pre6 enc Try.prog Try.f3 Rows.lexCutsRow.domain false) (Rows.lexCutsSpec.post enc Try.prog Try.f3 false true false false) := by
  refine returnsInHanded_of_change (C := Try.checked) own started (by kernel_rfl) Try.func3
    (ChangeSpec.witness6 (enc := enc) (C := Try.checked) false ⟨#[], #[.string ByteArray.empty], []⟩ 8 (by kernel_rfl) (by kernel_rfl) (by kernel_rfl) (by kernel_rfl)) ?_
  intro W base args ds gs before hval0 hW hcnd _
  have hval : ∀ (j : Nat) t v, Try.f3.params[j]? = some t → args[j]? = some v → Value.okWide Try.prog W .any base t v := hval0
  have hW' := hW
  obtain ⟨p, q, hA0, hV, rfl, hfz, hnd⟩ := hW
  have hA : DataW.TrodAll enc Try.prog W 0 (fun _ => true) true Try.f3.params.toList args.toList ds p := hA0
  rw [Try.params3] at hA hval
  obtain ⟨v0, vs0, d0, ds0, p0, q0, hargs, rfl, rfl, h0, r0⟩ := trodAll_cons hA
  obtain ⟨rfl, rfl, rfl⟩ := trodAll_nil r0
  obtain rfl : args = #[v0] := by cases args; simp_all
  obtain ⟨rfl, rfl⟩ := trodVars_none hV
  obtain ⟨a0, rfl, rfl, rfl, w0⟩ := open_string Try.underlying9 (hval 0 9 v0 rfl rfl) h0
  clear hA0 hval0
  refine (walk a0 w0 W).mono fun e W' ⟨he, bel⟩ => ?_
  subst he
  exact ⟨_, rfl, _, _, _, [], _, [], hW', trodAll_mk1 (shut_bool Try.underlying4 _), (trodAll_cons_mk (shut_string Try.underlying9 w0) trodAll_mk0), rfl, bel.frame _, fun h => by cases h⟩

theorem over : Rows.lexCutsRow.holds Try.pinned (OpenSpec.ofChange Rows.lexCutsSpec) :=
  OpenClaim.holds_of_wide 3 Try.f3 rfl rfl rfl rfl rfl rfl rfl ⟨rfl, rfl, rfl, rfl, rfl⟩ rfl rfl rfl rfl rfl (by kernel_rfl) Try.func3 (by kernel_rfl)
    (of_decide_eq_true (by kernel_rfl)) (by unfold Func.isWrapper; first | (rw [if_pos (by decide +kernel)]; kernel_rfl) | (rw [if_neg (by decide +kernel)]; exact ⟨rfl, rfl⟩))
    (fun os started H enc _ => lifted os started H enc)

/-- ████ THE STATEMENT ████ -/
theorem proved : Rows.LexCutsSaid := over
#print axioms proved
end Go.Proofs.Ytnofibjchhcmeaa.lexCuts
