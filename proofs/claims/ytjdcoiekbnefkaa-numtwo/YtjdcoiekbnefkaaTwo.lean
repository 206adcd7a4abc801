/- NumTwo: for any operation and any two numbers of 64 bits, num.Two answers what the document's halves, sums of bits and long division give, or nothing; it has no conditions. -/
import Derived.Test.YtjdcoiekbnefkaaRows
import Derived.Test.YtjdcoiekbnefkaaAlive
import Derived.Test.YtjdcoiekbnefkaaBothA
import Derived.Test.YtjdcoiekbnefkaaBothB
import Derived.WalkKit
import Derived.ProofKit
import Derived.OpenShut
import Derived.ShutString
namespace Go.Proofs.Ytjdcoiekbnefkaa.numTwo
open Go.ChangeShapes Go.WideShapes Go.ChangeAt Go.RowKit
open Go.ChangeMaps (open_string shut_string)
set_option linter.unusedVariables false      -- a walk need not use every 'w<i>' (that an integer argument fits its kind)

theorem own : ownKnob Try.prog.godebug = none := by kernel_rfl


theorem bounds {a : Int} (h : (Lit.int .i64 a).wf = true) : -9223372036854775808 ≤ a ∧ a ≤ 9223372036854775807 := by
  have := bounds_i64 h
  omega

set_option maxHeartbeats 1000000 in
theorem law (op a b x : Int) (ok : Bool) (H : Hid (Both op a b x ok)) (w : World) :
    Calls Try.prog 3 #[.int .i64 op, .int .i64 a, .int .i64 b] w fun e w' => e = .returned (.bool true) ∧ Grown w w' := by
  go_enter Try.func3, Try.ntmps3
  go_wp2_with fail
  refine (H.out.1 _).mono ?_
  rintro e w' ⟨rfl, rfl⟩
  go_wp2_with fail
  refine (H.out.2 _).mono ?_
  rintro e w' ⟨rfl, rfl⟩
  go_wp2_with fail
  refine (alive_any _).mono ?_
  rintro e w' ⟨rfl, hg⟩
  go_wp2
  go_ret
  exact ⟨rfl, hg⟩

theorem walk (a0 : Int) (a1 : Int) (a2 : Int) (w0 : (Lit.int .i64 a0).wf = true) (w1 : (Lit.int .i64 a1).wf = true) (w2 : (Lit.int .i64 a2).wf = true) (w : World) :
    Calls Try.prog 3 #[.int .i64 a0, .int .i64 a1, .int .i64 a2] w fun e w' => e = .returned (.bool true) ∧ Grown w w' := by
  have ha : InR a1 := bounds w1
  have hb : InR a2 := bounds w2
  by_cases h1 : a0 = 1
  · subst h1; exact law _ _ _ _ _ (both_1 a1 a2 ha hb) w
  by_cases h2 : a0 = 2
  · subst h2; exact law _ _ _ _ _ (both_2 a1 a2 ha hb) w
  by_cases h3 : a0 = 3
  · subst h3; exact law _ _ _ _ _ (both_3 a1 a2 ha hb) w
  by_cases h4 : a0 = 4
  · subst h4
    by_cases h0 : a2 = 0
    · subst h0; exact law _ _ _ _ _ (both_div0 4 a1 (by omega)) w
    · exact law _ _ _ _ _ (both_4 a1 a2 ha hb h0) w
  by_cases h5 : a0 = 5
  · subst h5
    by_cases h0 : a2 = 0
    · subst h0; exact law _ _ _ _ _ (both_div0 5 a1 (by omega)) w
    · exact law _ _ _ _ _ (both_5 a1 a2 ha hb h0) w
  by_cases h6 : a0 = 6
  · subst h6; exact law _ _ _ _ _ (both_6 a1 a2 ha hb) w
  by_cases h7 : a0 = 7
  · subst h7; exact law _ _ _ _ _ (both_7 a1 a2 ha hb) w
  by_cases h8 : a0 = 8
  · subst h8; exact law _ _ _ _ _ (both_8 a1 a2 ha hb) w
  by_cases h9 : a0 = 9
  · subst h9; exact law _ _ _ _ _ (both_9 a1 a2 ha hb) w
  by_cases h10 : a0 = 10
  · subst h10; exact law _ _ _ _ _ (both_10 a1 a2 ha hb) w
  by_cases h11 : a0 = 11
  · subst h11
    rcases Int.lt_trichotomy a1 a2 with h | h | h
    · exact law _ _ _ _ _ (both_11_lt a1 a2 ha hb h) w
    · subst h; exact law _ _ _ _ _ (both_11_eq a1 ha) w
    · exact law _ _ _ _ _ (both_11_gt a1 a2 ha hb h) w
  by_cases h12 : a0 = 12
  · subst h12
    rcases Int.lt_trichotomy a1 a2 with h | h | h
    · exact law _ _ _ _ _ (both_12_lt a1 a2 ha hb h) w
    · subst h; exact law _ _ _ _ _ (both_12_eq a1 ha) w
    · exact law _ _ _ _ _ (both_12_gt a1 a2 ha hb h) w
  by_cases h13 : a0 = 13
  · subst h13
    rcases Int.lt_trichotomy a1 a2 with h | h | h
    · exact law _ _ _ _ _ (both_13_lt a1 a2 ha hb h) w
    · subst h; exact law _ _ _ _ _ (both_13_eq a1 ha) w
    · exact law _ _ _ _ _ (both_13_gt a1 a2 ha hb h) w
  by_cases h14 : a0 = 14
  · subst h14
    rcases Int.lt_trichotomy a1 a2 with h | h | h
    · exact law _ _ _ _ _ (both_14_lt a1 a2 ha hb h) w
    · subst h; exact law _ _ _ _ _ (both_14_eq a1 ha) w
    · exact law _ _ _ _ _ (both_14_gt a1 a2 ha hb h) w
  by_cases h15 : a0 = 15
  · subst h15
    rcases Int.lt_trichotomy a1 a2 with h | h | h
    · exact law _ _ _ _ _ (both_15_lt a1 a2 ha hb h) w
    · subst h; exact law _ _ _ _ _ (both_15_eq a1 ha) w
    · exact law _ _ _ _ _ (both_15_gt a1 a2 ha hb h) w
  by_cases h16 : a0 = 16
  · subst h16
    rcases Int.lt_trichotomy a1 a2 with h | h | h
    · exact law _ _ _ _ _ (both_16_lt a1 a2 ha hb h) w
    · subst h; exact law _ _ _ _ _ (both_16_eq a1 ha) w
    · exact law _ _ _ _ _ (both_16_gt a1 a2 ha hb h) w
  by_cases h17 : a0 = 17
  · subst h17
    rcases Int.lt_trichotomy a1 a2 with h | h | h
    · exact law _ _ _ _ _ (both_17_lt a1 a2 ha hb h) w
    · subst h; exact law _ _ _ _ _ (both_17_eq a1 ha) w
    · exact law _ _ _ _ _ (both_17_gt a1 a2 ha hb h) w
  by_cases h18 : a0 = 18
  · subst h18
    rcases Int.lt_trichotomy a1 a2 with h | h | h
    · exact law _ _ _ _ _ (both_18_lt a1 a2 ha hb h) w
    · subst h; exact law _ _ _ _ _ (both_18_eq a1 ha) w
    · exact law _ _ _ _ _ (both_18_gt a1 a2 ha hb h) w
  refine law _ _ _ _ _ (both_none a0 a1 a2 ?_) w
  intro k hk1 hk2
  have : a0 ≠ k := by omega
  simpa using this

/-! ### THE ROW's STEP: WRITTEN OUT: LEAVE IT -/
set_option maxRecDepth 100000 in
theorem lifted (os : Os) (started : os.Started) (H : Type) (enc : TypeId × Value → H) :
    ReturnsInHanded {} Try.checked os 3 .any (Rows.numTwoSpec.pre6 enc Try.prog Try.f3 Rows.numTwoRow.domain false) (Rows.numTwoSpec.post enc Try.prog Try.f3 false true false false) := by
  refine returnsInHanded_of_change (C := Try.checked) own started (by kernel_rfl) Try.func3
    (ChangeSpec.witness6 (enc := enc) (C := Try.checked) false ⟨#[], #[.int .i64 0, .int .i64 0, .int .i64 0], []⟩ 8 (by kernel_rfl) (by kernel_rfl) (by kernel_rfl) (by kernel_rfl)) ?_
  intro W base args ds gs before hval0 hW hcnd _
  have hval : ∀ (j : Nat) t v, Try.f3.params[j]? = some t → args[j]? = some v → Value.okWide Try.prog W .any base t v := hval0
  have hW' := hW
  obtain ⟨p, q, hA0, hV, rfl, hfz, hnd⟩ := hW
  have hA : DataW.TrodAll enc Try.prog W 0 (fun _ => true) true Try.f3.params.toList args.toList ds p := hA0
  rw [Try.params3] at hA hval
  obtain ⟨v0, vs0, d0, ds0, p0, q0, hargs, rfl, rfl, h0, r0⟩ := trodAll_cons hA
  obtain ⟨v1, vs1, d1, ds1, p1, q1, rfl, rfl, rfl, h1, r1⟩ := trodAll_cons r0
  obtain ⟨v2, vs2, d2, ds2, p2, q2, rfl, rfl, rfl, h2, r2⟩ := trodAll_cons r1
  obtain ⟨rfl, rfl, rfl⟩ := trodAll_nil r2
  obtain rfl : args = #[v0, v1, v2] := by cases args; simp_all
  obtain ⟨rfl, rfl⟩ := trodVars_none hV
  obtain ⟨a0, rfl, rfl, rfl, w0⟩ := open_int Try.underlying22 (hval 0 22 v0 rfl rfl) h0
  obtain ⟨a1, rfl, rfl, rfl, w1⟩ := open_int Try.underlying2 (hval 1 2 v1 rfl rfl) h1
  obtain ⟨a2, rfl, rfl, rfl, w2⟩ := open_int Try.underlying2 (hval 2 2 v2 rfl rfl) h2
  clear hA0 hval0
  simp only [List.append_nil] at hW'
  refine (walk a0 a1 a2 w0 w1 w2 W).mono fun e W' ⟨he, hg⟩ => ?_
  subst he
  exact ⟨_, rfl, post_of_same (pa := []) (pv := []) hW' (fun _ _ _ => (trodAll_cons_mk (shut_bool Try.underlying4 _) trodAll_mk0)) (fun sp _ => (trodAll_cons_mk (shut_int Try.underlying22 w0) (trodAll_cons_mk (shut_int Try.underlying2 w1) (trodAll_cons_mk (shut_int Try.underlying2 w2) trodAll_mk0)))) (fun _ _ => rfl) rfl
    (hg.frame _) hg.2.1 (ok_one (by kernel_rfl) rfl (okWide_bool_mk Try.underlying4 _))⟩

theorem over : Rows.numTwoRow.holds Try.pinned (OpenSpec.ofChange Rows.numTwoSpec) :=
  OpenClaim.holds_of_wide 3 Try.f3 rfl rfl rfl rfl rfl rfl rfl ⟨rfl, rfl, rfl, rfl, rfl⟩ rfl rfl rfl rfl rfl (by kernel_rfl) Try.func3 (by kernel_rfl)
    (of_decide_eq_true (by kernel_rfl)) (by unfold Func.isWrapper; first | (rw [if_pos (by decide +kernel)]; kernel_rfl) | (rw [if_neg (by decide +kernel)]; exact ⟨rfl, rfl⟩))
    (fun os started H enc _ => lifted os started H enc)

/-- ████ THE STATEMENT ████ -/
theorem proved : Rows.NumTwoSaid :=
  over
#print axioms proved
end Go.Proofs.Ytjdcoiekbnefkaa.numTwo
