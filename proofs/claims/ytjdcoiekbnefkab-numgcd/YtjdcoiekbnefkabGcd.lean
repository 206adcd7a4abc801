/- NumGcd: for any two numbers of 64 bits, num.Gcd is the document's, divides both, and turns with neither order nor signs; it has no conditions. -/
import Derived.Test.YtjdcoiekbnefkabRows
import Derived.Test.YtjdcoiekbnefkabAlive
import Derived.Test.YtjdcoiekbnefkabGcdW
import Derived.WalkKit
import Derived.ProofKit
import Derived.OpenShut
import Derived.ShutString
namespace Go.Proofs.Ytjdcoiekbnefkab.numGcd
open Go.ChangeShapes Go.WideShapes Go.ChangeAt Go.RowKit
open Go.ChangeMaps (open_string shut_string)
set_option linter.unusedVariables false      -- a walk need not use every 'w<i>' (that an integer argument fits its kind)

theorem own : ownKnob Try.prog.godebug = none := by kernel_rfl


theorem bounds {a : Int} (h : (Lit.int .i64 a).wf = true) : -9223372036854775808 ≤ a ∧ a ≤ 9223372036854775807 := by
  have := bounds_i64 h
  omega

set_option maxHeartbeats 400000 in
theorem lsize_is (n : Int) (x : Nat) (h1 : -9223372036854775808 ≤ n) (h2 : n ≤ 9223372036854775807) (hx : Hid (n.natAbs = x)) (w : World) :
    Calls Try.prog 13 #[.int .i64 n] w fun e w' => e = .returned (.int .u64 (x : Int)) ∧ w' = w := by
  by_cases h : n < 0
  · go_enter Try.func13, Try.ntmps13
    go_wp2
    go_ret
    exact ⟨ret_int (by have := hx.out; simp only [IntKind.wrap_u64]; omega), rfl⟩
  · go_enter Try.func13, Try.ntmps13
    go_wp2
    go_ret
    exact ⟨ret_int (by have := hx.out; omega), rfl⟩

theorem drewN_grown {w w' : World} (n : Nat) (h : Grown (w.drewN n) w') : Grown w w' := by
  induction n with
  | zero => exact h
  | succ n ih => exact ih h

theorem neg_abs (a : Int) (ha : -9223372036854775808 ≤ a ∧ a ≤ 9223372036854775807) : (wrap64 (-a)).natAbs = a.natAbs ∧ (-9223372036854775808 ≤ wrap64 (-a) ∧ wrap64 (-a) ≤ 9223372036854775807) := by
  unfold wrap64; omega

set_option maxHeartbeats 1000000 in
theorem walk_is (a b : Int) (A B g : Nat) (ha : Hid (-9223372036854775808 ≤ a ∧ a ≤ 9223372036854775807)) (hb : Hid (-9223372036854775808 ≤ b ∧ b ≤ 9223372036854775807)) (hA : Hid (a.natAbs = A)) (hB : Hid (b.natAbs = B)) (bA : A ≤ 9223372036854775808) (bB : B ≤ 9223372036854775808)
    (h1 : Hid (Nat.gcd a.natAbs b.natAbs = g)) (h2 : Hid (Nat.gcd b.natAbs a.natAbs = g)) (h3 : Hid (Nat.gcd (wrap64 (-a)).natAbs b.natAbs = g)) (hn : Hid (-9223372036854775808 ≤ wrap64 (-a) ∧ wrap64 (-a) ≤ 9223372036854775807))
    (hg : ((g : Int) == 0) = true ∧ (a == 0) = true ∧ (b == 0) = true ∨ 0 < g ∧ ((g : Int) == 0) = false ∧ ((A : Int) % (g : Int) == 0) = true ∧ ((B : Int) % (g : Int) == 0) = true) (w : World) :
    Calls Try.prog 4 #[.int .i64 a, .int .i64 b] w fun e w' => e = .returned (.bool true) ∧ Grown w w' := by
  rcases hg with ⟨g1, g2, g3⟩ | ⟨g0, g1, g2, g3⟩
  · go_enter Try.func4, Try.ntmps4
    go_wp2_with fail
    refine (gcd_any _ _ g ha.out hb.out h1 _).mono ?_
    rintro e w1 ⟨rfl, n1, q1⟩
    go_wp2_with fail
    refine (rgcd_any _ _ g ha.out hb.out h1 _).mono ?_
    rintro e w2 ⟨rfl, rfl⟩
    go_wp2_with fail
    refine (gcd_any _ _ g hb.out ha.out h2 _).mono ?_
    rintro e w3 ⟨rfl, n2, q2⟩
    go_wp2_with fail
    refine (gcd_any _ _ g hn.out hb.out h3 _).mono ?_
    rintro e w4 ⟨rfl, n3, q3⟩
    go_wp2_with fail
    refine (alive_any _).mono ?_
    rintro e w5 ⟨rfl, hgr⟩
    go_wp2
    go_ret
    exact ⟨rfl, drewN_grown _ hgr⟩
  · go_enter Try.func4, Try.ntmps4
    go_wp2_with fail
    refine (gcd_any _ _ g ha.out hb.out h1 _).mono ?_
    rintro e w1 ⟨rfl, n1, q1⟩
    go_wp2_with fail
    refine (rgcd_any _ _ g ha.out hb.out h1 _).mono ?_
    rintro e w2 ⟨rfl, rfl⟩
    go_wp2_with fail
    refine (gcd_any _ _ g hb.out ha.out h2 _).mono ?_
    rintro e w3 ⟨rfl, n2, q2⟩
    go_wp2_with fail
    refine (gcd_any _ _ g hn.out hb.out h3 _).mono ?_
    rintro e w4 ⟨rfl, n3, q3⟩
    go_wp2_with fail
    refine (lsize_is a A ha.out.1 ha.out.2 hA _).mono ?_
    rintro e w5 ⟨rfl, rfl⟩
    go_wp2_with fail
    refine (lsize_is b B hb.out.1 hb.out.2 hB _).mono ?_
    rintro e w5 ⟨rfl, rfl⟩
    go_wp2_with fail
    refine (alive_any _).mono ?_
    rintro e w6 ⟨rfl, hgr⟩
    go_wp2
    go_ret
    exact ⟨rfl, drewN_grown _ hgr⟩

theorem walk (a0 : Int) (a1 : Int) (w0 : (Lit.int .i64 a0).wf = true) (w1 : (Lit.int .i64 a1).wf = true) (w : World) :
    Calls Try.prog 4 #[.int .i64 a0, .int .i64 a1] w fun e w' => e = .returned (.bool true) ∧ Grown w w' := by
  have ha := bounds w0
  have hb := bounds w1
  have hn := neg_abs a0 ha
  refine walk_is a0 a1 _ _ (Nat.gcd a0.natAbs a1.natAbs) ha hb rfl rfl (by omega) (by omega) rfl (Nat.gcd_comm _ _) (by show _ = _; rw [hn.1]) hn.2 ?_ w
  by_cases hg : Nat.gcd a0.natAbs a1.natAbs = 0
  · left
    have := Nat.gcd_eq_zero_iff.1 hg
    refine ⟨by rw [hg]; rfl, ?_, ?_⟩
    · have h : a0 = 0 := by omega
      rw [h]; rfl
    · have h : a1 = 0 := by omega
      rw [h]; rfl
  · right
    refine ⟨by omega, by simp only [beq_eq_false_iff_ne, ne_eq]; omega, ?_, ?_⟩
    · have h := Nat.mod_eq_zero_of_dvd (Nat.gcd_dvd_left a0.natAbs a1.natAbs)
      have e : ((a0.natAbs : Int) % (Nat.gcd a0.natAbs a1.natAbs : Int)) = ((a0.natAbs % Nat.gcd a0.natAbs a1.natAbs : Nat) : Int) := rfl
      rw [e, h]; rfl
    · have h := Nat.mod_eq_zero_of_dvd (Nat.gcd_dvd_right a0.natAbs a1.natAbs)
      have e : ((a1.natAbs : Int) % (Nat.gcd a0.natAbs a1.natAbs : Int)) = ((a1.natAbs % Nat.gcd a0.natAbs a1.natAbs : Nat) : Int) := rfl
      rw [e, h]; rfl

/-! ### THE ROW's STEP: WRITTEN OUT: LEAVE IT -/
set_option maxRecDepth 100000 in
theorem lifted (os : Os) (started : os.Started) (H : Type) (enc : TypeId × Value → H) :
    ReturnsInHanded {} Try.checked os 4 .any (Rows.numGcdSpec.pre6 enc Try.prog Try.f4 Rows.numGcdRow.domain false) (Rows.numGcdSpec.post enc Try.prog Try.f4 false true false false) := by
  refine returnsInHanded_of_change (C := Try.checked) own started (by kernel_rfl) Try.func4
    (ChangeSpec.witness6 (enc := enc) (C := Try.checked) false ⟨#[], #[.int .i64 0, .int .i64 0], []⟩ 8 (by kernel_rfl) (by kernel_rfl) (by kernel_rfl) (by kernel_rfl)) ?_
  intro W base args ds gs before hval0 hW hcnd _
  have hval : ∀ (j : Nat) t v, Try.f4.params[j]? = some t → args[j]? = some v → Value.okWide Try.prog W .any base t v := hval0
  have hW' := hW
  obtain ⟨p, q, hA0, hV, rfl, hfz, hnd⟩ := hW
  have hA : DataW.TrodAll enc Try.prog W 0 (fun _ => true) true Try.f4.params.toList args.toList ds p := hA0
  rw [Try.params4] at hA hval
  obtain ⟨v0, vs0, d0, ds0, p0, q0, hargs, rfl, rfl, h0, r0⟩ := trodAll_cons hA
  obtain ⟨v1, vs1, d1, ds1, p1, q1, rfl, rfl, rfl, h1, r1⟩ := trodAll_cons r0
  obtain ⟨rfl, rfl, rfl⟩ := trodAll_nil r1
  obtain rfl : args = #[v0, v1] := by cases args; simp_all
  obtain ⟨rfl, rfl⟩ := trodVars_none hV
  obtain ⟨a0, rfl, rfl, rfl, w0⟩ := open_int Try.underlying2 (hval 0 2 v0 rfl rfl) h0
  obtain ⟨a1, rfl, rfl, rfl, w1⟩ := open_int Try.underlying2 (hval 1 2 v1 rfl rfl) h1
  clear hA0 hval0
  simp only [List.append_nil] at hW'
  refine (walk a0 a1 w0 w1 W).mono fun e W' ⟨he, hg⟩ => ?_
  subst he
  exact ⟨_, rfl, post_of_same (pa := []) (pv := []) hW' (fun _ _ _ => (trodAll_cons_mk (shut_bool Try.underlying4 _) trodAll_mk0)) (fun sp _ => (trodAll_cons_mk (shut_int Try.underlying2 w0) (trodAll_cons_mk (shut_int Try.underlying2 w1) trodAll_mk0))) (fun _ _ => rfl) rfl
    (hg.frame _) hg.2.1 (ok_one (by kernel_rfl) rfl (okWide_bool_mk Try.underlying4 _))⟩

theorem over : Rows.numGcdRow.holds Try.pinned (OpenSpec.ofChange Rows.numGcdSpec) :=
  OpenClaim.holds_of_wide 4 Try.f4 rfl rfl rfl rfl rfl rfl rfl ⟨rfl, rfl, rfl, rfl, rfl⟩ rfl rfl rfl rfl rfl (by kernel_rfl) Try.func4 (by kernel_rfl)
    (of_decide_eq_true (by kernel_rfl)) (by unfold Func.isWrapper; first | (rw [if_pos (by decide +kernel)]; kernel_rfl) | (rw [if_neg (by decide +kernel)]; exact ⟨rfl, rfl⟩))
    (fun os started H enc _ => lifted os started H enc)

/-- ████ THE STATEMENT ████ -/
theorem proved : Rows.NumGcdSaid :=
  over
#print axioms proved
end Go.Proofs.Ytjdcoiekbnefkab.numGcd
