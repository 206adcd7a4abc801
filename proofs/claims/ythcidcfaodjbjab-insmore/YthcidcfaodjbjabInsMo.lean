/- InsMore: with more reductions no text gets an error, with fewer none is mended; it has no conditions. -/
import Derived.Test.YthcidcfaodjbjabRows
import Derived.Test.YthcidcfaodjbjabAlive
import Derived.Test.YthcidcfaodjbjabMoreP
import Derived.WalkKit
import Derived.ProofKit
import Derived.OpenShut
import Derived.ShutString
import Derived.ChangeOld
import Derived.Below
import Derived.Carry
namespace Go.Proofs.Ythcidcfaodjbjab.insMore
open Go.ChangeShapes Go.WideShapes Go.ChangeAt Go.RowKit
set_option linter.unusedVariables false

theorem own : ownKnob Try.prog.godebug = none := by kernel_rfl
theorem laidOut : laidOutB Try.prog = true := by kernel_rfl

theorem isl_len {w : World} {v : Value} {l : List In} (h : ISl w v l) : ∃ a c, v = .slice a l.length c ∧ l.length ≤ c ∧ c ≤ maxLen := by
  obtain ⟨ad, cap, b, o, rfl, h2, h3, _⟩ := h
  exact ⟨_, _, rfl, h2, h3⟩
set_option maxRecDepth 100000 in
set_option maxHeartbeats 4000000 in
theorem walk (l : List In) (cells more : Int) (v : Value) (w : World) (hv : ISl w v l) : Calls Try.prog 4 #[v, .int .i64 cells, .int .i64 more] w fun e w' => e = .returned (.bool true) ∧ Below w.heap.size w w' := by
  have HV : Hid (ISl w v l) := hv
  obtain ⟨a, c, rfl, h1, h2⟩ := isl_len hv
  unfold maxLen at h2
  clear hv
  by_cases hlen : 1000 < l.length
  · go_enter Try.func4, Try.ntmps4
    go_wp2
    go_ret
    exact ⟨rfl, Below.refl _ _⟩
  by_cases hmc : more < cells
  · go_enter Try.func4, Try.ntmps4
    go_wp2
    go_ret
    exact ⟨rfl, Below.refl _ _⟩
  · have hm := check_more l cells more (by omega)
    obtain ⟨c1, hc1⟩ : ∃ c, (checkL l cells).1 = c := ⟨_, rfl⟩
    obtain ⟨c2, hc2⟩ : ∃ c, (checkL l cells).2 = c := ⟨_, rfl⟩
    obtain ⟨d1, hd1⟩ : ∃ c, (checkL l more).1 = c := ⟨_, rfl⟩
    obtain ⟨d2, hd2⟩ : ∃ c, (checkL l more).2 = c := ⟨_, rfl⟩
    rw [hc2, hd2] at hm
    have HM : Hid (d2 = c2 ∨ c2 = 63) := hm
    have C1 : Hid (∀ w', Below w.heap.size w w' → Calls Try.prog 8 #[.slice a l.length c, .int .i64 cells] w' fun e w'' => e = .returned (.tuple #[.int .i64 c1, .int .i64 c2]) ∧ Below w'.heap.size w' w'') := fun w' hb => by rw [← hc1, ← hc2]; exact check_any l cells _ w' (HV.out.below hb)
    have C2 : Hid (∀ w', Below w.heap.size w w' → Calls Try.prog 8 #[.slice a l.length c, .int .i64 more] w' fun e w'' => e = .returned (.tuple #[.int .i64 d1, .int .i64 d2]) ∧ Below w'.heap.size w' w'') := fun w' hb => by rw [← hd1, ← hd2]; exact check_any l more _ w' (HV.out.below hb)
    clear hc1 hc2 hd1 hd2 hm
    go_enter Try.func4, Try.ntmps4
    go_wp2_with fail
    refine (C1.out _ (Below.refl _ _)).mono ?_
    rintro e w1 ⟨rfl, b1⟩
    have B1 : Hid (Below w.heap.size w w1) := b1
    clear b1
    go_wp2_with fail
    refine (C2.out _ B1.out).mono ?_
    rintro e w2 ⟨rfl, b2⟩
    have B2 : Hid (Below w.heap.size w w2) := B1.out.trans (b2.mono B1.out.size)
    clear b2 B1
    rcases HM.out with rfl | rfl
    · by_cases h0 : d2 = 0
      · subst h0
        go_wp2_with fail
        refine (alive_any _).mono ?_
        rintro e w3 ⟨rfl, b3⟩
        have B3 : Hid (Below w.heap.size w w3) := B2.out.trans (b3.mono B2.out.size)
        clear b3 B2
        go_wp2
        go_ret
        exact ⟨rfl, B3.out⟩
      · go_wp2_with fail
        refine (alive_any _).mono ?_
        rintro e w3 ⟨rfl, b3⟩
        have B3 : Hid (Below w.heap.size w w3) := B2.out.trans (b3.mono B2.out.size)
        clear b3 B2
        go_wp2
        go_ret
        exact ⟨ret_b (by simp [h0]), B3.out⟩
    · by_cases h0 : d2 = 0
      · subst h0
        go_wp2_with fail
        refine (alive_any _).mono ?_
        rintro e w3 ⟨rfl, b3⟩
        have B3 : Hid (Below w.heap.size w w3) := B2.out.trans (b3.mono B2.out.size)
        clear b3 B2
        go_wp2
        go_ret
        exact ⟨rfl, B3.out⟩
      · by_cases h6 : d2 = 63
        · subst h6
          go_wp2_with fail
          refine (alive_any _).mono ?_
          rintro e w3 ⟨rfl, b3⟩
          have B3 : Hid (Below w.heap.size w w3) := B2.out.trans (b3.mono B2.out.size)
          clear b3 B2
          go_wp2
          go_ret
          exact ⟨rfl, B3.out⟩
        · go_wp2_with fail
          refine (alive_any _).mono ?_
          rintro e w3 ⟨rfl, b3⟩
          have B3 : Hid (Below w.heap.size w w3) := B2.out.trans (b3.mono B2.out.size)
          clear b3 B2
          go_wp2
          go_ret
          exact ⟨rfl, B3.out⟩

set_option maxRecDepth 100000 in
theorem lifted (os : Os) (started : os.Started) (H : Type) (enc : TypeId × Value → H) :
    ReturnsInHanded {} Try.checked os 4 .any (Rows.insMoreSpec.pre6 enc Try.prog Try.f4 Rows.insMoreRow.domain false) (Rows.insMoreSpec.post enc Try.prog Try.f4 false true false false) := by
  refine returnsInHanded_of_change (C := Try.checked) own started (by kernel_rfl) Try.func4
    (ChangeSpec.witness6 (enc := enc) (C := Try.checked) false ⟨#[], #[.slice none 0 0, .int .i64 0, .int .i64 0], []⟩ 8 (by kernel_rfl) (by kernel_rfl) (by kernel_rfl) (by kernel_rfl)) ?_
  intro W base args ds gs before hval0 hW hcnd _
  have hval : ∀ (j : Nat) t v, Try.f4.params[j]? = some t → args[j]? = some v → Value.okWide Try.prog W .any base t v := hval0
  have hW' := hW
  obtain ⟨p, q, hA0, hV, rfl, hfz, hnd⟩ := hW
  have hA : DataW.TrodAll enc Try.prog W 0 (fun _ => true) true Try.f4.params.toList args.toList ds p := hA0
  rw [Try.params4] at hA hval
  obtain ⟨v0, vs0, d0, ds0, p0, q0, hargs, rfl, rfl, h0, r0⟩ := trodAll_cons hA
  obtain ⟨v1, vs1, d1, ds1, p1, q1, rfl, rfl, rfl, h1, r1⟩ := trodAll_cons r0
  obtain ⟨v2, vs2, d2, ds2, p2, q2, rfl, rfl, rfl, h2, r2⟩ := trodAll_cons r1
  obtain ⟨rfl, rfl, rfl⟩ := trodAll_nil r2
  obtain rfl : args = #[v0, v1, v2] := by cases args; simp_all
  obtain ⟨rfl, rfl⟩ := trodVars_none hV
  obtain ⟨a0, len0, cap0, rfl⟩ := okWide_slice Try.underlying23 (hval 0 23 v0 rfl rfl)
  obtain ⟨a1, rfl, rfl, rfl, w1⟩ := open_int Try.underlying3 (hval 1 3 v1 rfl rfl) h1
  obtain ⟨a2, rfl, rfl, rfl, w2⟩ := open_int Try.underlying3 (hval 2 3 v2 rfl rfl) h2
  have k0 := h0
  have lt0 : ∀ x ∈ p0, x.block < W.heap.size := by obtain ⟨m, hm⟩ := k0; exact DataW.trod_lt m _ _ _ hm
  obtain ⟨l, hE, hR⟩ : ∃ l, ISl W (.slice a0 len0 cap0) l ∧ ∀ y ∈ l, InR y := by
    obtain ⟨fuel, hf⟩ := h0
    exact open_row hf
  clear hA0 hval0
  refine (walk l a1 a2 _ W hE).mono fun e W' ⟨he, bel⟩ => ?_
  subst he
  exact ⟨_, rfl, _, _, _, [], _, [], hW', trodAll_mk1 (shut_bool Try.underlying4 _), (trodAll_cons_mk (Below.trod laidOut (by kernel_rfl) (of_decide_eq_true (by kernel_rfl)) k0 bel lt0) (trodAll_cons_mk (shut_int Try.underlying3 w1) (trodAll_cons_mk (shut_int Try.underlying3 w2) trodAll_mk0))), rfl, bel.frame _, fun h => by cases h⟩

theorem over : Rows.insMoreRow.holds Try.pinned (OpenSpec.ofChange Rows.insMoreSpec) :=
  OpenClaim.holds_of_wide 4 Try.f4 rfl rfl rfl rfl rfl rfl rfl ⟨rfl, rfl, rfl, rfl, rfl⟩ rfl rfl rfl rfl rfl (by kernel_rfl) Try.func4 (by kernel_rfl)
    (of_decide_eq_true (by kernel_rfl)) (by unfold Func.isWrapper; first | (rw [if_pos (by decide +kernel)]; kernel_rfl) | (rw [if_neg (by decide +kernel)]; exact ⟨rfl, rfl⟩))
    (fun os started H enc _ => lifted os started H enc)

/-- ████ THE STATEMENT ████ -/
theorem proved : Rows.InsMoreSaid := over
#print axioms proved
end Go.Proofs.Ythcidcfaodjbjab.insMore
