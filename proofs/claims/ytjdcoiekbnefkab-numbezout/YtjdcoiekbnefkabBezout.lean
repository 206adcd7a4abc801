/- NumBezout: for any two numbers of 64 bits, num.Bezout puts their greatest common divisor together of them with the least factor from 0 on, or refuses those that are further from 0 than 2^31; it has no conditions. -/
import Derived.Test.YtjdcoiekbnefkabRows
import Derived.Test.YtjdcoiekbnefkabAlive
import Derived.Test.YtjdcoiekbnefkabBezW
import Derived.WalkKit
import Derived.ProofKit
import Derived.OpenShut
import Derived.ShutString
namespace Go.Proofs.Ytjdcoiekbnefkab.numBezout
open Go.ChangeShapes Go.WideShapes Go.ChangeAt Go.RowKit
open Go.ChangeMaps (open_string shut_string)
set_option linter.unusedVariables false      -- a walk need not use every 'w<i>' (that an integer argument fits its kind)

theorem own : ownKnob Try.prog.godebug = none := by kernel_rfl


theorem bounds {a : Int} (h : (Lit.int .i64 a).wf = true) : -9223372036854775808 ≤ a ∧ a ≤ 9223372036854775807 := by
  have := bounds_i64 h
  omega

set_option maxHeartbeats 400000 in
theorem lsize_is (n : Int) (x : Nat) (h1 : -9223372036854775808 ≤ n) (h2 : n ≤ 9223372036854775807) (hx : Hid (n.natAbs = x)) (w : World) :
    Calls Try.prog 13 #[.int .i64 n] w fun e w' => e = .returned (.int .u64 (x : Int)) ∧ w' = w := by
  by_cases h : n < 0
  · go_enter Try.func13, Try.ntmps13
    go_wp2
    go_ret
    exact ⟨ret_int (by have := hx.out; simp only [IntKind.wrap_u64]; omega), rfl⟩
  · go_enter Try.func13, Try.ntmps13
    go_wp2
    go_ret
    exact ⟨ret_int (by have := hx.out; omega), rfl⟩

theorem drewN_grown {w w' : World} (n : Nat) (h : Grown (w.drewN n) w') : Grown w w' := by
  induction n with
  | zero => exact h
  | succ n ih => exact ih h

set_option maxHeartbeats 1000000 in
theorem walk_big0 (a b : Int) (A B : Nat) (ha : Hid (-9223372036854775808 ≤ a ∧ a ≤ 9223372036854775807)) (hb : Hid (-9223372036854775808 ≤ b ∧ b ≤ 9223372036854775807)) (hA : Hid (a.natAbs = A)) (hB : Hid (b.natAbs = B))
    (h : Hid (decide (2147483648 < (A : Int)) = true ∨ decide (2147483648 < (A : Int)) = false ∧ decide (2147483648 < (B : Int)) = true)) (c0 : decide (a < -2147483648) = true) (w : World) :
    Calls Try.prog 5 #[.int .i64 a, .int .i64 b] w fun e w' => e = .returned (.bool true) ∧ Grown w w' := by
  go_enter Try.func5, Try.ntmps5
  go_wp2_with fail
  refine (bez_big a b A B ha hb hA hB h.out _).mono ?_
  rintro e w' ⟨rfl, rfl⟩
  go_wp2_with fail
  refine (alive_any _).mono ?_
  rintro e w1 ⟨rfl, hg⟩
  go_wp2
  go_ret
  exact ⟨rfl, hg⟩

set_option maxHeartbeats 1000000 in
theorem walk_big1 (a b : Int) (A B : Nat) (ha : Hid (-9223372036854775808 ≤ a ∧ a ≤ 9223372036854775807)) (hb : Hid (-9223372036854775808 ≤ b ∧ b ≤ 9223372036854775807)) (hA : Hid (a.natAbs = A)) (hB : Hid (b.natAbs = B))
    (h : Hid (decide (2147483648 < (A : Int)) = true ∨ decide (2147483648 < (A : Int)) = false ∧ decide (2147483648 < (B : Int)) = true)) (c0 : decide (a < -2147483648) = false) (c1 : decide (2147483648 < a) = true) (w : World) :
    Calls Try.prog 5 #[.int .i64 a, .int .i64 b] w fun e w' => e = .returned (.bool true) ∧ Grown w w' := by
  go_enter Try.func5, Try.ntmps5
  go_wp2_with fail
  refine (bez_big a b A B ha hb hA hB h.out _).mono ?_
  rintro e w' ⟨rfl, rfl⟩
  go_wp2_with fail
  refine (alive_any _).mono ?_
  rintro e w1 ⟨rfl, hg⟩
  go_wp2
  go_ret
  exact ⟨rfl, hg⟩

set_option maxHeartbeats 1000000 in
theorem walk_big2 (a b : Int) (A B : Nat) (ha : Hid (-9223372036854775808 ≤ a ∧ a ≤ 9223372036854775807)) (hb : Hid (-9223372036854775808 ≤ b ∧ b ≤ 9223372036854775807)) (hA : Hid (a.natAbs = A)) (hB : Hid (b.natAbs = B))
    (h : Hid (decide (2147483648 < (A : Int)) = true ∨ decide (2147483648 < (A : Int)) = false ∧ decide (2147483648 < (B : Int)) = true)) (c0 : decide (a < -2147483648) = false) (c1 : decide (2147483648 < a) = false) (c2 : decide (b < -2147483648) = true) (w : World) :
    Calls Try.prog 5 #[.int .i64 a, .int .i64 b] w fun e w' => e = .returned (.bool true) ∧ Grown w w' := by
  go_enter Try.func5, Try.ntmps5
  go_wp2_with fail
  refine (bez_big a b A B ha hb hA hB h.out _).mono ?_
  rintro e w' ⟨rfl, rfl⟩
  go_wp2_with fail
  refine (alive_any _).mono ?_
  rintro e w1 ⟨rfl, hg⟩
  go_wp2
  go_ret
  exact ⟨rfl, hg⟩

set_option maxHeartbeats 1000000 in
theorem walk_big3 (a b : Int) (A B : Nat) (ha : Hid (-9223372036854775808 ≤ a ∧ a ≤ 9223372036854775807)) (hb : Hid (-9223372036854775808 ≤ b ∧ b ≤ 9223372036854775807)) (hA : Hid (a.natAbs = A)) (hB : Hid (b.natAbs = B))
    (h : Hid (decide (2147483648 < (A : Int)) = true ∨ decide (2147483648 < (A : Int)) = false ∧ decide (2147483648 < (B : Int)) = true)) (c0 : decide (a < -2147483648) = false) (c1 : decide (2147483648 < a) = false) (c2 : decide (b < -2147483648) = false) (c3 : decide (2147483648 < b) = true) (w : World) :
    Calls Try.prog 5 #[.int .i64 a, .int .i64 b] w fun e w' => e = .returned (.bool true) ∧ Grown w w' := by
  go_enter Try.func5, Try.ntmps5
  go_wp2_with fail
  refine (bez_big a b A B ha hb hA hB h.out _).mono ?_
  rintro e w' ⟨rfl, rfl⟩
  go_wp2_with fail
  refine (alive_any _).mono ?_
  rintro e w1 ⟨rfl, hg⟩
  go_wp2
  go_ret
  exact ⟨rfl, hg⟩

set_option maxHeartbeats 1000000 in
theorem walk_zero (a s : Int) (A : Nat) (ha : Hid (-9223372036854775808 ≤ a ∧ a ≤ 9223372036854775807)) (hA : Hid (a.natAbs = A)) (hA31 : A ≤ 2147483648) (a1 : -2147483648 ≤ a) (a2 : a ≤ 2147483648)
    (hs : Hid (s = 1 ∧ 0 < a ∨ s = -1 ∧ a < 0 ∨ s = 0 ∧ a = 0)) (hG : Hid (Nat.gcd a.natAbs (0 : Int).natAbs = A))
    (hc : s = 1 ∧ 0 < a ∧ ((A : Int) == 0) = false ∧ a ≤ A ∧ (A : Int) ≤ a ∨ s = -1 ∧ a < 0 ∧ ((A : Int) == 0) = false ∧ -a ≤ A ∧ (A : Int) ≤ -a ∨ s = 0 ∧ (a == 0) = true ∧ ((A : Int) == 0) = true ∧ a ≤ 0 ∧ 0 ≤ a ∧ (A : Int) ≤ 0) (w : World) :
    Calls Try.prog 5 #[.int .i64 a, .int .i64 0] w fun e w' => e = .returned (.bool true) ∧ Grown w w' := by
  have HZ : Hid _ := fun w => bez_zero a s A ha hA hA31 hs.out w
  clear hs
  rcases hc with ⟨rfl, c1, c2, c3, c4⟩ | ⟨rfl, c1, c2, c3, c4⟩ | ⟨rfl, c1, c2, c3, c4, c5⟩
  all_goals
    go_enter Try.func5, Try.ntmps5
    go_wp2_with fail
    refine (HZ.out _).mono ?_
    rintro e w1 ⟨rfl, n1, hw1⟩
    go_wp2_with fail
    refine (gcd_any a 0 A ha.out (by omega) hG _).mono ?_
    rintro e w2 ⟨rfl, n2, hw2⟩
    go_wp2_with fail
    refine (alive_any _).mono ?_
    rintro e w3 ⟨rfl, hg⟩
    go_wp2
    go_ret
    exact ⟨rfl, drewN_grown _ hg⟩

set_option maxHeartbeats 1000000 in
theorem walk_else (a b : Int) (A B G : Nat) (ha : Hid (-9223372036854775808 ≤ a ∧ a ≤ 9223372036854775807)) (hb : Hid (-9223372036854775808 ≤ b ∧ b ≤ 9223372036854775807)) (hA : Hid (a.natAbs = A)) (hB : Hid (b.natAbs = B)) (hA31 : A ≤ 2147483648) (hB31 : B ≤ 2147483648) (hb0 : ¬ b = 0) (hb0' : (b == 0) = false) (hG : Hid (Nat.gcd a.natAbs b.natAbs = G))
    (a1 : -2147483648 ≤ a) (a2 : a ≤ 2147483648) (b1 : -2147483648 ≤ b) (b2 : b ≤ 2147483648) (hG0 : 0 < G) (hG1 : ((G : Int) == 0) = false) (hGB : G ≤ B) (w : World) :
    Calls Try.prog 5 #[.int .i64 a, .int .i64 b] w fun e w' => e = .returned (.bool true) ∧ Grown w w' := by
  obtain ⟨p, hp⟩ : ∃ p : Nat, B / G = p := ⟨_, rfl⟩
  have hpB : p ≤ B := by rw [← hp]; exact Nat.div_le_self _ _
  have ep : (B : Int) / (G : Int) = (p : Int) := by rw [← hp]; rfl
  have HP : Hid _ := hp
  clear hp
  go_enter Try.func5, Try.ntmps5
  go_wp2_with fail
  refine (bez_else a b A B G ha hb hA hB hA31 hB31 hb0 hG _).mono ?_
  rintro e w1 ⟨⟨x, y, f1, f2, f3, f4, rfl⟩, n1, hw1⟩
  rw [HP.out] at f2
  obtain ⟨f31, f32⟩ := lin f3
  clear f3
  go_wp2_with fail
  refine (gcd_any a b G ha.out hb.out hG _).mono ?_
  rintro e w2 ⟨rfl, n2, hw2⟩
  go_wp2_with fail
  refine (lsize_is b B hb.out.1 hb.out.2 hB _).mono ?_
  rintro e w2 ⟨rfl, rfl⟩
  go_wp2_with fail
  refine (alive_any _).mono ?_
  rintro e w3 ⟨rfl, hg⟩
  go_wp2
  go_ret
  exact ⟨rfl, drewN_grown _ hg⟩

theorem walk (a0 : Int) (a1 : Int) (w0 : (Lit.int .i64 a0).wf = true) (w1 : (Lit.int .i64 a1).wf = true) (w : World) :
    Calls Try.prog 5 #[.int .i64 a0, .int .i64 a1] w fun e w' => e = .returned (.bool true) ∧ Grown w w' := by
  have ha := bounds w0
  have hb := bounds w1
  by_cases c0 : a0 < -2147483648
  · exact walk_big0 a0 a1 _ _ ha hb rfl rfl (Or.inl (by simp; omega)) (by simp [c0]) w
  by_cases c1 : 2147483648 < a0
  · exact walk_big1 a0 a1 _ _ ha hb rfl rfl (Or.inl (by simp; omega)) (by simpa using c0) (by simp [c1]) w
  by_cases c2 : a1 < -2147483648
  · exact walk_big2 a0 a1 _ _ ha hb rfl rfl (Or.inr ⟨by simp; omega, by simp; omega⟩) (by simpa using c0) (by simpa using c1) (by simp [c2]) w
  by_cases c3 : 2147483648 < a1
  · exact walk_big3 a0 a1 _ _ ha hb rfl rfl (Or.inr ⟨by simp; omega, by simp; omega⟩) (by simpa using c0) (by simpa using c1) (by simpa using c2) (by simp [c3]) w
  by_cases hb0 : a1 = 0
  · subst hb0
    have hG : Nat.gcd a0.natAbs (0 : Int).natAbs = a0.natAbs := by rw [Int.natAbs_zero, Nat.gcd_zero_right]
    rcases Int.lt_trichotomy a0 0 with h | h | h
    · exact walk_zero a0 (-1) _ ha rfl (by omega) (by omega) (by omega) (Or.inr (Or.inl ⟨rfl, h⟩)) hG (Or.inr (Or.inl ⟨rfl, h, by simp only [beq_eq_false_iff_ne, ne_eq]; omega, by omega, by omega⟩)) w
    · exact walk_zero a0 0 _ ha rfl (by omega) (by omega) (by omega) (Or.inr (Or.inr ⟨rfl, h⟩)) hG (Or.inr (Or.inr ⟨rfl, by simp [h], by simp [h], by omega, by omega, by omega⟩)) w
    · exact walk_zero a0 1 _ ha rfl (by omega) (by omega) (by omega) (Or.inl ⟨rfl, h⟩) hG (Or.inl ⟨rfl, h, by simp only [beq_eq_false_iff_ne, ne_eq]; omega, by omega, by omega⟩) w
  · have hG0 : 0 < Nat.gcd a0.natAbs a1.natAbs := Nat.gcd_pos_of_pos_right _ (by omega)
    have hGB := Nat.le_of_dvd (show 0 < a1.natAbs by omega) (Nat.gcd_dvd_right a0.natAbs a1.natAbs)
    exact walk_else a0 a1 _ _ _ ha hb rfl rfl (by omega) (by omega) hb0 (by simpa using hb0) rfl (by omega) (by omega) (by omega) (by omega) hG0 (by simp only [beq_eq_false_iff_ne, ne_eq]; omega) hGB w

/-! ### THE ROW's STEP: WRITTEN OUT: LEAVE IT -/
set_option maxRecDepth 100000 in
theorem lifted (os : Os) (started : os.Started) (H : Type) (enc : TypeId × Value → H) :
    ReturnsInHanded {} Try.checked os 5 .any (Rows.numBezoutSpec.pre6 enc Try.prog Try.f5 Rows.numBezoutRow.domain false) (Rows.numBezoutSpec.post enc Try.prog Try.f5 false true false false) := by
  refine returnsInHanded_of_change (C := Try.checked) own started (by kernel_rfl) Try.func5
    (ChangeSpec.witness6 (enc := enc) (C := Try.checked) false ⟨#[], #[.int .i64 0, .int .i64 0], []⟩ 8 (by kernel_rfl) (by kernel_rfl) (by kernel_rfl) (by kernel_rfl)) ?_
  intro W base args ds gs before hval0 hW hcnd _
  have hval : ∀ (j : Nat) t v, Try.f5.params[j]? = some t → args[j]? = some v → Value.okWide Try.prog W .any base t v := hval0
  have hW' := hW
  obtain ⟨p, q, hA0, hV, rfl, hfz, hnd⟩ := hW
  have hA : DataW.TrodAll enc Try.prog W 0 (fun _ => true) true Try.f5.params.toList args.toList ds p := hA0
  rw [Try.params5] at hA hval
  obtain ⟨v0, vs0, d0, ds0, p0, q0, hargs, rfl, rfl, h0, r0⟩ := trodAll_cons hA
  obtain ⟨v1, vs1, d1, ds1, p1, q1, rfl, rfl, rfl, h1, r1⟩ := trodAll_cons r0
  obtain ⟨rfl, rfl, rfl⟩ := trodAll_nil r1
  obtain rfl : args = #[v0, v1] := by cases args; simp_all
  obtain ⟨rfl, rfl⟩ := trodVars_none hV
  obtain ⟨a0, rfl, rfl, rfl, w0⟩ := open_int Try.underlying2 (hval 0 2 v0 rfl rfl) h0
  obtain ⟨a1, rfl, rfl, rfl, w1⟩ := open_int Try.underlying2 (hval 1 2 v1 rfl rfl) h1
  clear hA0 hval0
  simp only [List.append_nil] at hW'
  refine (walk a0 a1 w0 w1 W).mono fun e W' ⟨he, hg⟩ => ?_
  subst he
  exact ⟨_, rfl, post_of_same (pa := []) (pv := []) hW' (fun _ _ _ => (trodAll_cons_mk (shut_bool Try.underlying4 _) trodAll_mk0)) (fun sp _ => (trodAll_cons_mk (shut_int Try.underlying2 w0) (trodAll_cons_mk (shut_int Try.underlying2 w1) trodAll_mk0))) (fun _ _ => rfl) rfl
    (hg.frame _) hg.2.1 (ok_one (by kernel_rfl) rfl (okWide_bool_mk Try.underlying4 _))⟩

theorem over : Rows.numBezoutRow.holds Try.pinned (OpenSpec.ofChange Rows.numBezoutSpec) :=
  OpenClaim.holds_of_wide 5 Try.f5 rfl rfl rfl rfl rfl rfl rfl ⟨rfl, rfl, rfl, rfl, rfl⟩ rfl rfl rfl rfl rfl (by kernel_rfl) Try.func5 (by kernel_rfl)
    (of_decide_eq_true (by kernel_rfl)) (by unfold Func.isWrapper; first | (rw [if_pos (by decide +kernel)]; kernel_rfl) | (rw [if_neg (by decide +kernel)]; exact ⟨rfl, rfl⟩))
    (fun os started H enc _ => lifted os started H enc)

/-- ████ THE STATEMENT ████ -/
theorem proved : Rows.NumBezoutSaid :=
  over
#print axioms proved
end Go.Proofs.Ytjdcoiekbnefkab.numBezout
