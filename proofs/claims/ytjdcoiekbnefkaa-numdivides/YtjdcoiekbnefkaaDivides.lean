/- NumDivides: for any two numbers of 64 bits, quotient times divisor plus rest is the number again, the rest is nearer to 0 than the divisor, and so for the quotient cut downwards; it has no conditions. -/
import Derived.Test.YtjdcoiekbnefkaaRows
import Derived.Test.YtjdcoiekbnefkaaAlive
import Derived.Test.YtjdcoiekbnefkaaDiv
import Derived.WalkKit
import Derived.ProofKit
import Derived.OpenShut
import Derived.ShutString
namespace Go.Proofs.Ytjdcoiekbnefkaa.numDivides
open Go.ChangeShapes Go.WideShapes Go.ChangeAt Go.RowKit
open Go.ChangeMaps (open_string shut_string)
set_option linter.unusedVariables false      -- a walk need not use every 'w<i>' (that an integer argument fits its kind)

theorem own : ownKnob Try.prog.godebug = none := by kernel_rfl


theorem bounds {a : Int} (h : (Lit.int .i64 a).wf = true) : -9223372036854775808 ≤ a ∧ a ≤ 9223372036854775807 := by
  have := bounds_i64 h
  omega

theorem div_is (a b q : Int) (hb : ¬ b = 0) (hq : Hid (q = wrap64 (a.tdiv b))) (w : World) :
    Calls Try.prog 9 #[.int .i64 4, .int .i64 a, .int .i64 b] w fun e w' => e = .returned (.tuple #[.int .i64 q, .bool true]) ∧ w' = w := by
  rw [hq.out]; exact div_any a b hb w
theorem rem_is (a b r : Int) (hb : ¬ b = 0) (hr : Hid (r = a.tmod b)) (w : World) :
    Calls Try.prog 9 #[.int .i64 5, .int .i64 a, .int .i64 b] w fun e w' => e = .returned (.tuple #[.int .i64 r, .bool true]) ∧ w' = w := by
  rw [hr.out]; exact rem_any a b hb w
theorem floor_is (a b f l : Int) (hb : ¬ b = 0) (hb1 : -9223372036854775808 ≤ b) (hb2 : b ≤ 9223372036854775807) (hf : Hid (f = floorQ a b)) (hl : Hid (l = floorR a b)) (w : World) :
    Calls Try.prog 17 #[.int .i64 a, .int .i64 b] w fun e w' => e = .returned (.tuple #[.int .i64 f, .int .i64 l, .int .i64 0]) ∧ ∃ n, w' = w.drewN n := by
  refine (floor_any a b hb hb1 hb2 w).mono ?_
  rintro e w' ⟨⟨f', l', h1, h2, h3⟩, h4⟩
  refine ⟨?_, h4⟩
  rw [h3, h1, h2, hf.out, hl.out]

/-- what is so of the quotients and the rests, as the walk tells it -/
theorem facts (a b : Int) (ha : -9223372036854775808 ≤ a ∧ a ≤ 9223372036854775807) (hb : ¬ b = 0) (hb' : -9223372036854775808 ≤ b ∧ b ≤ 9223372036854775807) (q r f l : Int)
    (hq : q = wrap64 (a.tdiv b)) (hr : r = a.tmod b) (hf : f = floorQ a b) (hl : l = floorR a b) :
    ((wrap64 (wrap64 (q * b) + r) == a) = true) ∧ ((wrap64 (wrap64 (f * b) + l) == a) = true) ∧ (r = 0 ∨ (r < 0 ↔ a < 0)) ∧ (l = 0 ∨ (l < 0 ↔ b < 0)) ∧
    ((if 0 < b then -b else b) < (if 0 < r then -r else r)) ∧ ((if 0 < b then -b else b) < (if 0 < l then -l else l)) ∧ (f = q ∨ f = wrap64 (q - 1)) ∧
    (-9223372036854775808 ≤ r ∧ r ≤ 9223372036854775807) ∧ (-9223372036854775808 ≤ l ∧ l ≤ 9223372036854775807) := by
  obtain ⟨d1, d2, d3⟩ := div_facts a b hb
  have t := tmod_lt a b hb
  rw [← hr] at d1 d2 d3 t
  have w1 : wrap64 (wrap64 (q * b) + r) = a := by rw [hq, wrap_mul_add, d1, wrap_in ha.1 ha.2]
  by_cases hd : down a b = true
  · unfold floorQ at hf; unfold floorR at hl
    rw [if_pos hd] at hf hl
    unfold down at hd
    rw [← hr] at hd hl
    simp at hd
    obtain ⟨hd1, hd2⟩ := hd
    have w2 : wrap64 (wrap64 (f * b) + l) = a := by
      rw [hf, wrap_wrap_sub, wrap_mul_add, hl, Int.sub_mul, show a.tdiv b * b - 1 * b + (r + b) = a.tdiv b * b + r by omega, d1, wrap_in ha.1 ha.2]
    have hx : (r < 0 ∧ 0 < b) ∨ (0 < r ∧ b < 0) := by
      rcases Int.lt_or_le r 0 with h | h <;> rcases Int.lt_or_le b 0 with h' | h'
      · exact absurd ⟨fun _ => h', fun _ => h⟩ hd2
      · exact Or.inl ⟨h, by omega⟩
      · exact Or.inr ⟨by omega, h'⟩
      · exact absurd ⟨fun h2 => by omega, fun h2 => by omega⟩ hd2
    refine ⟨by simp [w1], by simp [w2], d2, ?_, ?_, ?_, Or.inr (by rw [hf, hq]), by omega, by omega⟩
    · rcases hx with hx | hx <;> (right; constructor <;> intro h <;> omega)
    · split <;> split <;> omega
    · split <;> split <;> omega
  · unfold floorQ at hf; unfold floorR at hl
    rw [if_neg hd] at hf hl
    have el : l = r := by omega
    have ef : f = q := by rw [hf, hq]
    subst el ef
    refine ⟨by simp [w1], by simp [w1], d2, ?_, ?_, ?_, Or.inl rfl, by omega, by omega⟩
    · unfold down at hd
      rw [← hr] at hd
      simp at hd
      rcases Int.lt_trichotomy l 0 with h | h | h
      · exact Or.inr (hd (by omega))
      · exact Or.inl h
      · exact Or.inr (hd (by omega))
    · split <;> split <;> omega
    · split <;> split <;> omega

theorem drewN_grown {w w' : World} (h : Grown w w') (n : Nat) : Grown w (w'.drewN n) := by
  induction n with
  | zero => exact h
  | succ n ih => exact Grown.drew ih

set_option maxHeartbeats 1000000 in
theorem walk_zero (a : Int) (w : World) :
    Calls Try.prog 7 #[.int .i64 a, .int .i64 0] w fun e w' => e = .returned (.bool true) ∧ Grown w w' := by
  go_enter Try.func7, Try.ntmps7
  go_wp2_with (first | (go_at_call 11; refine (alive_any _).mono ?_; rintro e w1 ⟨rfl, hg⟩) | (go_at_call 9; refine (div_zero _ _ (by decide) _).mono ?_; rintro e w' ⟨rfl, rfl⟩) | (go_at_call 17; refine (floor_zero _ _).mono ?_; rintro e w' ⟨rfl, rfl⟩))
  go_ret
  exact ⟨rfl, hg⟩

set_option maxHeartbeats 2000000 in
theorem walk_else (a b q r f l : Int) (hb : ¬ b = 0) (hb1 : -9223372036854775808 ≤ b) (hb2 : b ≤ 9223372036854775807)
    (hq : Hid (q = wrap64 (a.tdiv b))) (hr : Hid (r = a.tmod b)) (hf : Hid (f = floorQ a b)) (hl : Hid (l = floorR a b))
    (e1 : (wrap64 (wrap64 (q * b) + r) == a) = true) (e2 : (wrap64 (wrap64 (f * b) + l) == a) = true)
    (c1 : (r == 0) = true ∨ (r == 0) = false ∧ (decide (r < 0) == decide (a < 0)) = true) (c2 : (l == 0) = true ∨ (l == 0) = false ∧ (decide (l < 0) == decide (b < 0)) = true)
    (n1 : Hid ((if 0 < b then -b else b) < (if 0 < r then -r else r))) (n2 : Hid ((if 0 < b then -b else b) < (if 0 < l then -l else l)))
    (c3 : (f == q) = true ∨ (f == q) = false ∧ (f == wrap64 (q - 1)) = true)
    (br : -9223372036854775808 ≤ r ∧ r ≤ 9223372036854775807) (bl : -9223372036854775808 ≤ l ∧ l ≤ 9223372036854775807) (w : World) :
    Calls Try.prog 7 #[.int .i64 a, .int .i64 b] w fun e w' => e = .returned (.bool true) ∧ Grown w w' := by
  have BR : Hid _ := br
  have BL : Hid _ := bl
  clear br bl
  rcases c1 with c1 | ⟨c1, c1'⟩ <;> rcases c2 with c2 | ⟨c2, c2'⟩ <;> rcases c3 with c3 | ⟨c3, c3'⟩
  all_goals
    go_enter Try.func7, Try.ntmps7
    go_wp2_with fail
    refine (alive_any _).mono ?_
    rintro e w1 ⟨rfl, hg⟩
    go_wp2_with fail
    refine (div_is _ _ q hb hq _).mono ?_
    rintro e w' ⟨rfl, rfl⟩
    go_wp2_with fail
    refine (rem_is _ _ r hb hr _).mono ?_
    rintro e w' ⟨rfl, rfl⟩
    go_wp2_with fail
    refine (floor_is _ _ f l hb hb1 hb2 hf hl _).mono ?_
    rintro e w' ⟨rfl, nn, rfl⟩
    go_wp2_with fail
    refine (nearer_yes r b n1.out BR.out ⟨hb1, hb2⟩ _).mono ?_
    rintro e w' ⟨rfl, rfl⟩
    go_wp2_with fail
    refine (nearer_yes l b n2.out BL.out ⟨hb1, hb2⟩ _).mono ?_
    rintro e w' ⟨rfl, rfl⟩
    go_wp2
    go_ret
    exact ⟨rfl, drewN_grown hg _⟩

theorem walk (a0 : Int) (a1 : Int) (w0 : (Lit.int .i64 a0).wf = true) (w1 : (Lit.int .i64 a1).wf = true) (w : World) :
    Calls Try.prog 7 #[.int .i64 a0, .int .i64 a1] w fun e w' => e = .returned (.bool true) ∧ Grown w w' := by
  have ha := bounds w0
  have hb' := bounds w1
  by_cases hb : a1 = 0
  · subst hb; exact walk_zero a0 w
  · obtain ⟨e1, e2, c1, c2, n1, n2, c3, b1, b2⟩ := facts a0 a1 ha hb hb' _ _ _ _ rfl rfl rfl rfl
    refine walk_else a0 a1 _ _ _ _ hb hb'.1 hb'.2 rfl rfl rfl rfl e1 e2 ?_ ?_ n1 n2 ?_ b1 b2 w
    · by_cases h : a0.tmod a1 = 0
      · exact Or.inl (by simp [h])
      · exact Or.inr ⟨by simp [h], by rcases c1 with c1 | c1; exact absurd c1 h; simp [c1]⟩
    · by_cases h : floorR a0 a1 = 0
      · exact Or.inl (by simp [h])
      · exact Or.inr ⟨by simp [h], by rcases c2 with c2 | c2; exact absurd c2 h; simp [c2]⟩
    · by_cases h : floorQ a0 a1 = wrap64 (a0.tdiv a1)
      · exact Or.inl (by simp [h])
      · exact Or.inr ⟨by simp [h], by rcases c3 with c3 | c3; exact absurd c3 h; simp [c3]⟩

/-! ### THE ROW's STEP: WRITTEN OUT: LEAVE IT -/
set_option maxRecDepth 100000 in
theorem lifted (os : Os) (started : os.Started) (H : Type) (enc : TypeId × Value → H) :
    ReturnsInHanded {} Try.checked os 7 .any (Rows.numDividesSpec.pre6 enc Try.prog Try.f7 Rows.numDividesRow.domain false) (Rows.numDividesSpec.post enc Try.prog Try.f7 false true false false) := by
  refine returnsInHanded_of_change (C := Try.checked) own started (by kernel_rfl) Try.func7
    (ChangeSpec.witness6 (enc := enc) (C := Try.checked) false ⟨#[], #[.int .i64 0, .int .i64 0], []⟩ 8 (by kernel_rfl) (by kernel_rfl) (by kernel_rfl) (by kernel_rfl)) ?_
  intro W base args ds gs before hval0 hW hcnd _
  have hval : ∀ (j : Nat) t v, Try.f7.params[j]? = some t → args[j]? = some v → Value.okWide Try.prog W .any base t v := hval0
  have hW' := hW
  obtain ⟨p, q, hA0, hV, rfl, hfz, hnd⟩ := hW
  have hA : DataW.TrodAll enc Try.prog W 0 (fun _ => true) true Try.f7.params.toList args.toList ds p := hA0
  rw [Try.params7] at hA hval
  obtain ⟨v0, vs0, d0, ds0, p0, q0, hargs, rfl, rfl, h0, r0⟩ := trodAll_cons hA
  obtain ⟨v1, vs1, d1, ds1, p1, q1, rfl, rfl, rfl, h1, r1⟩ := trodAll_cons r0
  obtain ⟨rfl, rfl, rfl⟩ := trodAll_nil r1
  obtain rfl : args = #[v0, v1] := by cases args; simp_all
  obtain ⟨rfl, rfl⟩ := trodVars_none hV
  obtain ⟨a0, rfl, rfl, rfl, w0⟩ := open_int Try.underlying2 (hval 0 2 v0 rfl rfl) h0
  obtain ⟨a1, rfl, rfl, rfl, w1⟩ := open_int Try.underlying2 (hval 1 2 v1 rfl rfl) h1
  clear hA0 hval0
  simp only [List.append_nil] at hW'
  refine (walk a0 a1 w0 w1 W).mono fun e W' ⟨he, hg⟩ => ?_
  subst he
  exact ⟨_, rfl, post_of_same (pa := []) (pv := []) hW' (fun _ _ _ => (trodAll_cons_mk (shut_bool Try.underlying4 _) trodAll_mk0)) (fun sp _ => (trodAll_cons_mk (shut_int Try.underlying2 w0) (trodAll_cons_mk (shut_int Try.underlying2 w1) trodAll_mk0))) (fun _ _ => rfl) rfl
    (hg.frame _) hg.2.1 (ok_one (by kernel_rfl) rfl (okWide_bool_mk Try.underlying4 _))⟩

theorem over : Rows.numDividesRow.holds Try.pinned (OpenSpec.ofChange Rows.numDividesSpec) :=
  OpenClaim.holds_of_wide 7 Try.f7 rfl rfl rfl rfl rfl rfl rfl ⟨rfl, rfl, rfl, rfl, rfl⟩ rfl rfl rfl rfl rfl (by kernel_rfl) Try.func7 (by kernel_rfl)
    (of_decide_eq_true (by kernel_rfl)) (by unfold Func.isWrapper; first | (rw [if_pos (by decide +kernel)]; kernel_rfl) | (rw [if_neg (by decide +kernel)]; exact ⟨rfl, rfl⟩))
    (fun os started H enc _ => lifted os started H enc)

/-- ████ THE STATEMENT ████ -/
theorem proved : Rows.NumDividesSaid :=
  over
#print axioms proved
end Go.Proofs.Ytjdcoiekbnefkaa.numDivides
