/- NumFloors: for any two numbers of 64 bits, the quotient cut downwards and what is left are those of the document's long division; it has no conditions. -/
import Derived.Test.YtjdcoiekbnefkaaRows
import Derived.Test.YtjdcoiekbnefkaaAlive
import Derived.Test.YtjdcoiekbnefkaaDiv
import Derived.Test.YtjdcoiekbnefkaaBothA
import Derived.WalkKit
import Derived.ProofKit
import Derived.OpenShut
import Derived.ShutString
namespace Go.Proofs.Ytjdcoiekbnefkaa.numFloors
open Go.ChangeShapes Go.WideShapes Go.ChangeAt Go.RowKit
open Go.ChangeMaps (open_string shut_string)
set_option linter.unusedVariables false      -- a walk need not use every 'w<i>' (that an integer argument fits its kind)

theorem own : ownKnob Try.prog.godebug = none := by kernel_rfl


theorem bounds {a : Int} (h : (Lit.int .i64 a).wf = true) : -9223372036854775808 ≤ a ∧ a ≤ 9223372036854775807 := by
  have := bounds_i64 h
  omega

theorem down_eq (a b : Int) (hb : ¬ b = 0) : down a b = (decide (a.tmod b ≠ 0) && (decide (a < 0) != decide (b < 0))) := by
  unfold down
  by_cases h : a.tmod b = 0
  · simp [h]
  · have := (div_facts a b hb).2.1
    have h2 : decide (a.tmod b < 0) = decide (a < 0) := by
      rcases this with h3 | h3
      · exact absurd h3 h
      · simp [h3]
    rw [h2]

theorem ret22 {a b c d : Int} (h1 : a = c) (h2 : b = d) : Ending.returned (.tuple #[.int .i64 a, .int .i64 b]) = .returned (.tuple #[.int .i64 c, .int .i64 d]) := by rw [h1, h2]

set_option maxHeartbeats 1000000 in
theorem rfloor_any (a b : Int) (hb : ¬ b = 0) (ha : InR a) (hb' : InR b) (w : World) :
    Calls Try.prog 19 #[.int .i64 a, .int .i64 b] w fun e w' => e = .returned (.tuple #[.int .i64 (floorQ a b), .int .i64 (floorR a b)]) ∧ w' = w := by
  have D : Hid _ := down_eq a b hb
  have t : Hid _ := tmod_lt a b hb
  have B4 : Hid _ := (both_4 a b ha hb' hb).2
  have B5 : Hid _ := (both_5 a b ha hb' hb).2
  have HA : Hid (InR a) := ha
  have HB : Hid (InR b) := hb'
  clear ha hb'
  by_cases hm : a.tmod b = 0
  · have q1 : (a.tmod b != 0) = false := by simp [hm]
    have ED : Hid (down a b = false) := by show _ = _; rw [D.out]; simp [hm]
    have HM : Hid _ := hm
    clear hm
    go_enter Try.func19, Try.ntmps19
    go_wp2_with fail
    refine (B4.out _).mono ?_
    rintro e w' ⟨rfl, rfl⟩
    go_wp2_with fail
    refine (B5.out _).mono ?_
    rintro e w' ⟨rfl, rfl⟩
    go_wp2
    go_ret2
    exact ⟨by unfold floorQ floorR; rw [ED.out]; rfl, rfl⟩
  · have q1 : (a.tmod b != 0) = true := by simp [hm]
    cases hx : decide (a < 0) <;> cases hy : decide (b < 0)
    · have ED : Hid (down a b = false) := by show _ = _; rw [D.out, hx, hy]; simp
      go_enter Try.func19, Try.ntmps19
      go_wp2_with fail
      refine (B4.out _).mono ?_
      rintro e w' ⟨rfl, rfl⟩
      go_wp2_with fail
      refine (B5.out _).mono ?_
      rintro e w' ⟨rfl, rfl⟩
      go_wp2
      go_ret2
      exact ⟨by unfold floorQ floorR; rw [ED.out]; rfl, rfl⟩
    · have ED : Hid (down a b = true) := by show _ = _; rw [D.out, hx, hy]; simp [hm]
      have HR : Hid (InR (a.tmod b) ∧ wrap64 (a.tmod b + b) = a.tmod b + b) := by
        have h1 := t.out
        have h2 := HB.out
        have h3 := ED.out
        unfold InR at h2
        unfold down at h3
        simp at h3 hy
        refine ⟨⟨by omega, by omega⟩, wrap_in ?_ ?_⟩ <;> omega
      go_enter Try.func19, Try.ntmps19
      go_wp2_with fail
      refine (B4.out _).mono ?_
      rintro e w' ⟨rfl, rfl⟩
      go_wp2_with fail
      refine (B5.out _).mono ?_
      rintro e w' ⟨rfl, rfl⟩
      go_wp2_with fail
      refine (add_any _ _ (wrap_bd _) (by omega) _).mono ?_
      rintro e w' ⟨rfl, rfl⟩
      go_wp2_with fail
      refine (add_any _ _ HR.out.1 HB.out _).mono ?_
      rintro e w' ⟨rfl, rfl⟩
      go_wp2
      go_ret2
      exact ⟨ret22 (by unfold floorQ; rw [if_pos ED.out, Int.sub_eq_add_neg]) (by unfold floorR; rw [if_pos ED.out, HR.out.2]), rfl⟩
    · have ED : Hid (down a b = true) := by show _ = _; rw [D.out, hx, hy]; simp [hm]
      have HR : Hid (InR (a.tmod b) ∧ wrap64 (a.tmod b + b) = a.tmod b + b) := by
        have h1 := t.out
        have h2 := HB.out
        have h3 := ED.out
        unfold InR at h2
        unfold down at h3
        simp at h3 hy
        refine ⟨⟨by omega, by omega⟩, wrap_in ?_ ?_⟩ <;> omega
      go_enter Try.func19, Try.ntmps19
      go_wp2_with fail
      refine (B4.out _).mono ?_
      rintro e w' ⟨rfl, rfl⟩
      go_wp2_with fail
      refine (B5.out _).mono ?_
      rintro e w' ⟨rfl, rfl⟩
      go_wp2_with fail
      refine (add_any _ _ (wrap_bd _) (by omega) _).mono ?_
      rintro e w' ⟨rfl, rfl⟩
      go_wp2_with fail
      refine (add_any _ _ HR.out.1 HB.out _).mono ?_
      rintro e w' ⟨rfl, rfl⟩
      go_wp2
      go_ret2
      exact ⟨ret22 (by unfold floorQ; rw [if_pos ED.out, Int.sub_eq_add_neg]) (by unfold floorR; rw [if_pos ED.out, HR.out.2]), rfl⟩
    · have ED : Hid (down a b = false) := by show _ = _; rw [D.out, hx, hy]; simp
      go_enter Try.func19, Try.ntmps19
      go_wp2_with fail
      refine (B4.out _).mono ?_
      rintro e w' ⟨rfl, rfl⟩
      go_wp2_with fail
      refine (B5.out _).mono ?_
      rintro e w' ⟨rfl, rfl⟩
      go_wp2
      go_ret2
      exact ⟨by unfold floorQ floorR; rw [ED.out]; rfl, rfl⟩

theorem floor_is (a b : Int) (hb : ¬ b = 0) (hb1 : InR b) (w : World) :
    Calls Try.prog 17 #[.int .i64 a, .int .i64 b] w fun e w' => e = .returned (.tuple #[.int .i64 (floorQ a b), .int .i64 (floorR a b), .int .i64 0]) ∧ ∃ n, w' = w.drewN n := by
  refine (floor_any a b hb hb1.1 hb1.2 w).mono ?_
  rintro e w' ⟨⟨f', l', h1, h2, h3⟩, h4⟩
  refine ⟨?_, h4⟩
  rw [h3, h1, h2]

theorem drewN_grown {w w' : World} (n : Nat) (h : Grown (w.drewN n) w') : Grown w w' := by
  induction n with
  | zero => exact h
  | succ n ih => exact ih h

set_option maxHeartbeats 1000000 in
theorem walk_zero (a : Int) (w : World) :
    Calls Try.prog 8 #[.int .i64 a, .int .i64 0] w fun e w' => e = .returned (.bool true) ∧ Grown w w' := by
  go_enter Try.func8, Try.ntmps8
  go_wp2_with (first | (go_at_call 11; refine (alive_any _).mono ?_; rintro e w1 ⟨rfl, hg⟩) | (go_at_call 17; refine (floor_zero _ _).mono ?_; rintro e w' ⟨rfl, rfl⟩))
  go_ret
  exact ⟨rfl, hg⟩

set_option maxHeartbeats 1000000 in
theorem walk_else (a b : Int) (hb : ¬ b = 0) (ha : Hid (InR a)) (hb1 : Hid (InR b)) (w : World) :
    Calls Try.prog 8 #[.int .i64 a, .int .i64 b] w fun e w' => e = .returned (.bool true) ∧ Grown w w' := by
  go_enter Try.func8, Try.ntmps8
  go_wp2_with fail
  refine (floor_is a b hb hb1.out _).mono ?_
  rintro e w1 ⟨rfl, nn, hw⟩
  go_wp2_with fail
  refine (rfloor_any a b hb ha.out hb1.out _).mono ?_
  rintro e w' ⟨rfl, rfl⟩
  go_wp2_with fail
  refine (alive_any _).mono ?_
  rintro e w2 ⟨rfl, hg⟩
  go_wp2
  go_ret
  exact ⟨rfl, drewN_grown nn hg⟩

theorem walk (a0 : Int) (a1 : Int) (w0 : (Lit.int .i64 a0).wf = true) (w1 : (Lit.int .i64 a1).wf = true) (w : World) :
    Calls Try.prog 8 #[.int .i64 a0, .int .i64 a1] w fun e w' => e = .returned (.bool true) ∧ Grown w w' := by
  by_cases hb : a1 = 0
  · subst hb; exact walk_zero a0 w
  · exact walk_else a0 a1 hb (bounds w0) (bounds w1) w

/-! ### THE ROW's STEP: WRITTEN OUT: LEAVE IT -/
set_option maxRecDepth 100000 in
theorem lifted (os : Os) (started : os.Started) (H : Type) (enc : TypeId × Value → H) :
    ReturnsInHanded {} Try.checked os 8 .any (Rows.numFloorsSpec.pre6 enc Try.prog Try.f8 Rows.numFloorsRow.domain false) (Rows.numFloorsSpec.post enc Try.prog Try.f8 false true false false) := by
  refine returnsInHanded_of_change (C := Try.checked) own started (by kernel_rfl) Try.func8
    (ChangeSpec.witness6 (enc := enc) (C := Try.checked) false ⟨#[], #[.int .i64 0, .int .i64 0], []⟩ 8 (by kernel_rfl) (by kernel_rfl) (by kernel_rfl) (by kernel_rfl)) ?_
  intro W base args ds gs before hval0 hW hcnd _
  have hval : ∀ (j : Nat) t v, Try.f8.params[j]? = some t → args[j]? = some v → Value.okWide Try.prog W .any base t v := hval0
  have hW' := hW
  obtain ⟨p, q, hA0, hV, rfl, hfz, hnd⟩ := hW
  have hA : DataW.TrodAll enc Try.prog W 0 (fun _ => true) true Try.f8.params.toList args.toList ds p := hA0
  rw [Try.params8] at hA hval
  obtain ⟨v0, vs0, d0, ds0, p0, q0, hargs, rfl, rfl, h0, r0⟩ := trodAll_cons hA
  obtain ⟨v1, vs1, d1, ds1, p1, q1, rfl, rfl, rfl, h1, r1⟩ := trodAll_cons r0
  obtain ⟨rfl, rfl, rfl⟩ := trodAll_nil r1
  obtain rfl : args = #[v0, v1] := by cases args; simp_all
  obtain ⟨rfl, rfl⟩ := trodVars_none hV
  obtain ⟨a0, rfl, rfl, rfl, w0⟩ := open_int Try.underlying2 (hval 0 2 v0 rfl rfl) h0
  obtain ⟨a1, rfl, rfl, rfl, w1⟩ := open_int Try.underlying2 (hval 1 2 v1 rfl rfl) h1
  clear hA0 hval0
  simp only [List.append_nil] at hW'
  refine (walk a0 a1 w0 w1 W).mono fun e W' ⟨he, hg⟩ => ?_
  subst he
  exact ⟨_, rfl, post_of_same (pa := []) (pv := []) hW' (fun _ _ _ => (trodAll_cons_mk (shut_bool Try.underlying4 _) trodAll_mk0)) (fun sp _ => (trodAll_cons_mk (shut_int Try.underlying2 w0) (trodAll_cons_mk (shut_int Try.underlying2 w1) trodAll_mk0))) (fun _ _ => rfl) rfl
    (hg.frame _) hg.2.1 (ok_one (by kernel_rfl) rfl (okWide_bool_mk Try.underlying4 _))⟩

theorem over : Rows.numFloorsRow.holds Try.pinned (OpenSpec.ofChange Rows.numFloorsSpec) :=
  OpenClaim.holds_of_wide 8 Try.f8 rfl rfl rfl rfl rfl rfl rfl ⟨rfl, rfl, rfl, rfl, rfl⟩ rfl rfl rfl rfl rfl (by kernel_rfl) Try.func8 (by kernel_rfl)
    (of_decide_eq_true (by kernel_rfl)) (by unfold Func.isWrapper; first | (rw [if_pos (by decide +kernel)]; kernel_rfl) | (rw [if_neg (by decide +kernel)]; exact ⟨rfl, rfl⟩))
    (fun os started H enc _ => lifted os started H enc)

/-- ████ THE STATEMENT ████ -/
theorem proved : Rows.NumFloorsSaid :=
  over
#print axioms proved
end Go.Proofs.Ytjdcoiekbnefkaa.numFloors
