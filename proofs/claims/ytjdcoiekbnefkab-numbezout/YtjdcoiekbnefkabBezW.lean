/- What num.someFactor, num.sign and num.Bezout answer. -/
import Derived.Test.YtjdcoiekbnefkabBezP
import Derived.Test.YtjdcoiekbnefkabGcdW
namespace Go.Proofs.Ytjdcoiekbnefkab
open Go.RowKit
set_option linter.unusedVariables false

def FacPost (a b : Int) (G : Nat) (e : Ending) : Prop := ∃ f : Int, Fac a b G f ∧ e = .returned (.int .i64 f)

theorem lin {a : Int} {M : Nat} (h : a.natAbs ≤ M) : -(M : Int) ≤ a ∧ a ≤ M := by omega

set_option maxHeartbeats 1000000 in
theorem factor_any (a b : Int) (ha : a.natAbs ≤ 2147483648) (hb : b.natAbs ≤ 2147483648) (w : World) :
    Calls Try.prog 38 #[.int .i64 a, .int .i64 b] w fun e w' => FacPost a b (Nat.gcd a.natAbs b.natAbs) e ∧ w' = w := by
  have S : Hid (EI a b (Nat.gcd a.natAbs b.natAbs) a b 1 0) := EI.start a b ha hb
  have HB : Hid _ := hb
  generalize eG : Nat.gcd a.natAbs b.natAbs = G at *
  clear eG ha hb
  go_enter Try.func38, Try.ntmps38
  go_wp2
  go_loop [0, 1, 5, 6] (fun c d x n => ∃ A B X N : Int, c = .int .i64 A ∧ d = .int .i64 B ∧ x = .int .i64 X ∧ n = .int .i64 N ∧ Hid (EI a b G A B X N)) (fun _ d _ _ => (intOf d).natAbs)
  case atStart => exact ⟨a, b, 1, 0, rfl, rfl, rfl, rfl, S⟩
  case round =>
    obtain ⟨A, B, X, N, rfl, rfl, rfl, rfl, HE⟩ := hrel
    by_cases hB : B = 0
    · subst hB
      have D : Hid _ := HE.out.done
      obtain ⟨x1, x2⟩ := lin HE.out.2.2.2.2.2.2.1
      by_cases hA : A < 0
      · go_wp2
        go_ret
        exact ⟨⟨-X, D.out.1 hA, rfl⟩, rfl⟩
      · go_wp2
        go_ret
        exact ⟨⟨X, D.out.2 (by omega), rfl⟩, rfl⟩
    · have hst := HE.out.step hB HB.out
      have HS : Hid _ := hst.1
      obtain ⟨q1, q2⟩ := lin hst.2.1
      obtain ⟨p1, p2⟩ := lin hst.2.2.1
      obtain ⟨r1, r2⟩ := lin hst.2.2.2.1
      have HL : Hid _ := hst.2.2.2.2
      obtain ⟨a1, a2⟩ := lin HE.out.2.2.2.2.1
      obtain ⟨x1, x2⟩ := lin HE.out.2.2.2.2.2.2.1
      clear hst
      have hB' : (B != 0) = true := by simpa using hB
      go_wp2
      go_round
      case rel => exact ⟨B, _, N, _, rfl, rfl, rfl, rfl, HS⟩
      case measure => simp only [intOf]; exact HL.out

set_option maxHeartbeats 400000 in
theorem sgn_pos (a : Int) (h : 0 < a) (w : World) :
    Calls Try.prog 36 #[.int .i64 a] w fun e w' => e = .returned (.int .i64 1) ∧ w' = w := by
  go_enter Try.func36, Try.ntmps36
  go_wp2
  go_ret
  exact ⟨rfl, rfl⟩
set_option maxHeartbeats 400000 in
theorem sgn_neg (a : Int) (h : a < 0) (w : World) :
    Calls Try.prog 36 #[.int .i64 a] w fun e w' => e = .returned (.int .i64 (-1)) ∧ w' = w := by
  go_enter Try.func36, Try.ntmps36
  go_wp2
  go_ret
  exact ⟨rfl, rfl⟩
set_option maxHeartbeats 400000 in
theorem sgn_zero (w : World) :
    Calls Try.prog 36 #[.int .i64 0] w fun e w' => e = .returned (.int .i64 0) ∧ w' = w := by
  go_enter Try.func36, Try.ntmps36
  go_wp2
  go_ret
  exact ⟨rfl, rfl⟩

theorem floor_is (a b f l : Int) (hb : ¬ b = 0) (hb1 : -9223372036854775808 ≤ b) (hb2 : b ≤ 9223372036854775807) (hf : Hid (f = floorQ a b)) (hl : Hid (l = floorR a b)) (w : World) :
    Calls Try.prog 37 #[.int .i64 a, .int .i64 b] w fun e w' => e = .returned (.tuple #[.int .i64 f, .int .i64 l, .int .i64 0]) ∧ ∃ n, w' = w.drewN n := by
  refine (floor_any a b hb hb1 hb2 w).mono ?_
  rintro e w' ⟨⟨f', l', h1, h2, h3⟩, h4⟩
  refine ⟨?_, h4⟩
  rw [h3, h1, h2, hf.out, hl.out]


set_option maxHeartbeats 400000 in
theorem bez_big (a b : Int) (A B : Nat) (ha : Hid (-9223372036854775808 ≤ a ∧ a ≤ 9223372036854775807)) (hb : Hid (-9223372036854775808 ≤ b ∧ b ≤ 9223372036854775807)) (hA : Hid (a.natAbs = A)) (hB : Hid (b.natAbs = B))
    (h : decide (2147483648 < (A : Int)) = true ∨ decide (2147483648 < (A : Int)) = false ∧ decide (2147483648 < (B : Int)) = true) (w : World) :
    Calls Try.prog 14 #[.int .i64 a, .int .i64 b] w fun e w' => e = .returned (.tuple #[.int .i64 0, .int .i64 0, .int .i64 0, .int .i64 11]) ∧ w' = w := by
  rcases h with h | ⟨h, h'⟩
  · go_enter Try.func14, Try.ntmps14
    go_wp2_with fail
    refine (size_is a A ha.out.1 ha.out.2 hA _).mono ?_
    rintro e w' ⟨rfl, rfl⟩
    go_wp2
    go_returns
    exact ⟨rfl, rfl⟩
  · go_enter Try.func14, Try.ntmps14
    go_wp2_with fail
    refine (size_is a A ha.out.1 ha.out.2 hA _).mono ?_
    rintro e w' ⟨rfl, rfl⟩
    go_wp2_with fail
    refine (size_is b B hb.out.1 hb.out.2 hB _).mono ?_
    rintro e w' ⟨rfl, rfl⟩
    go_wp2
    go_returns
    exact ⟨rfl, rfl⟩

set_option maxHeartbeats 1000000 in
theorem bez_zero (a s : Int) (A : Nat) (ha : Hid (-9223372036854775808 ≤ a ∧ a ≤ 9223372036854775807)) (hA : Hid (a.natAbs = A)) (hA31 : A ≤ 2147483648) (hs : s = 1 ∧ 0 < a ∨ s = -1 ∧ a < 0 ∨ s = 0 ∧ a = 0) (w : World) :
    Calls Try.prog 14 #[.int .i64 a, .int .i64 0] w fun e w' => e = .returned (.tuple #[.int .i64 s, .int .i64 0, .int .i64 A, .int .i64 0]) ∧ ∃ n, w' = w.drewN n := by
  have HG : Hid (Nat.gcd a.natAbs (0 : Int).natAbs = A) := by show _ = _; rw [Int.natAbs_zero, Nat.gcd_zero_right]; exact hA.out
  have Z : Hid ((0 : Int).natAbs = 0) := rfl
  rcases hs with ⟨rfl, h⟩ | ⟨rfl, h⟩ | ⟨rfl, rfl⟩
  · go_enter Try.func14, Try.ntmps14
    go_wp2_with fail
    refine (size_is a A ha.out.1 ha.out.2 hA _).mono ?_
    rintro e w' ⟨rfl, rfl⟩
    go_wp2_with fail
    refine (size_is 0 0 (by omega) (by omega) Z _).mono ?_
    rintro e w' ⟨rfl, rfl⟩
    go_wp2_with fail
    refine (gcd_any a 0 A ha.out (by omega) HG _).mono ?_
    rintro e w1 ⟨rfl, hw⟩
    have HW : Hid _ := hw
    clear hw
    go_wp2_with fail
    refine (sgn_pos a h _).mono ?_
    rintro e w' ⟨rfl, rfl⟩
    go_wp2
    go_returns
    exact ⟨rfl, HW.out⟩
  · go_enter Try.func14, Try.ntmps14
    go_wp2_with fail
    refine (size_is a A ha.out.1 ha.out.2 hA _).mono ?_
    rintro e w' ⟨rfl, rfl⟩
    go_wp2_with fail
    refine (size_is 0 0 (by omega) (by omega) Z _).mono ?_
    rintro e w' ⟨rfl, rfl⟩
    go_wp2_with fail
    refine (gcd_any a 0 A ha.out (by omega) HG _).mono ?_
    rintro e w1 ⟨rfl, hw⟩
    have HW : Hid _ := hw
    clear hw
    go_wp2_with fail
    refine (sgn_neg a h _).mono ?_
    rintro e w' ⟨rfl, rfl⟩
    go_wp2
    go_returns
    exact ⟨rfl, HW.out⟩
  · go_enter Try.func14, Try.ntmps14
    go_wp2_with fail
    refine (size_is 0 A ha.out.1 ha.out.2 hA _).mono ?_
    rintro e w' ⟨rfl, rfl⟩
    go_wp2_with fail
    refine (size_is 0 0 (by omega) (by omega) Z _).mono ?_
    rintro e w' ⟨rfl, rfl⟩
    go_wp2_with fail
    refine (gcd_any 0 0 A ha.out (by omega) HG _).mono ?_
    rintro e w1 ⟨rfl, hw⟩
    have HW : Hid _ := hw
    clear hw
    go_wp2_with fail
    refine (sgn_zero _).mono ?_
    rintro e w' ⟨rfl, rfl⟩
    go_wp2
    go_returns
    exact ⟨rfl, HW.out⟩

/-- Bezout's answer where b isn't 0 -/
def BezPost (a b : Int) (A B G : Nat) (e : Ending) : Prop := ∃ x y : Int, 0 ≤ x ∧ x < ((B / G : Nat) : Int) ∧ (a * x).natAbs ≤ 4611686018427387904 ∧ b * y = (G : Int) - a * x ∧ e = .returned (.tuple #[.int .i64 x, .int .i64 y, .int .i64 G, .int .i64 0])

set_option maxHeartbeats 2000000 in
theorem bez_else (a b : Int) (A B G : Nat) (ha : Hid (-9223372036854775808 ≤ a ∧ a ≤ 9223372036854775807)) (hb : Hid (-9223372036854775808 ≤ b ∧ b ≤ 9223372036854775807)) (hA : Hid (a.natAbs = A)) (hB : Hid (b.natAbs = B)) (hA31 : A ≤ 2147483648) (hB31 : B ≤ 2147483648) (hb0 : ¬ b = 0) (hG : Hid (Nat.gcd a.natAbs b.natAbs = G)) (w : World) :
    Calls Try.prog 14 #[.int .i64 a, .int .i64 b] w fun e w' => BezPost a b A B G e ∧ ∃ n, w' = w.drewN n := by
  have HF : Hid (∀ f, Fac a b (Nat.gcd a.natAbs b.natAbs) f → _) := fun f hf => bez_facts a b f (by rw [hA.out]; exact hA31) (by rw [hB.out]; exact hB31) hb0 hf
  have HFc : Hid _ := factor_any a b (by rw [hA.out]; exact hA31) (by rw [hB.out]; exact hB31)
  have hB0 : 0 < B := by have := hB.out; omega
  have hG0 : 0 < G := by rw [← hG.out]; exact Nat.gcd_pos_of_pos_right _ (by omega)
  have hGB : G ≤ B := by
    have := Nat.le_of_dvd (show 0 < b.natAbs by omega) (Nat.gcd_dvd_right a.natAbs b.natAbs)
    rw [hG.out, hB.out] at this
    exact this
  rw [hG.out] at HF HFc
  rw [hB.out] at HF
  obtain ⟨p, hp⟩ : ∃ p : Nat, B / G = p := ⟨_, rfl⟩
  have hp0 : 0 < p := by rw [← hp]; exact Nat.div_pos hGB hG0
  have hpB : p ≤ B := by rw [← hp]; exact Nat.div_le_self _ _
  have ep : (B : Int) / (G : Int) = (p : Int) := by rw [← hp]; rfl
  have HP : Hid _ := hp
  clear hp
  go_enter Try.func14, Try.ntmps14
  go_wp2_with fail
  refine (size_is a A ha.out.1 ha.out.2 hA _).mono ?_
  rintro e w' ⟨rfl, rfl⟩
  go_wp2_with fail
  refine (size_is b B hb.out.1 hb.out.2 hB _).mono ?_
  rintro e w' ⟨rfl, rfl⟩
  go_wp2_with fail
  refine (gcd_any a b G ha.out hb.out hG _).mono ?_
  rintro e w1 ⟨rfl, hw⟩
  have HW : Hid (∃ n, _) := hw
  clear hw
  go_wp2_with fail
  refine (size_is b B hb.out.1 hb.out.2 hB _).mono ?_
  rintro e w2 ⟨rfl, rfl⟩
  go_wp2_with fail
  refine (HFc.out _).mono ?_
  rintro e w2 ⟨⟨f, hf, rfl⟩, rfl⟩
  have hall := HF.out f hf
  simp only [HP.out] at hall
  obtain ⟨_, _, _, _, f1, f2, f3, f4⟩ := hall
  obtain ⟨x, hx⟩ : ∃ x, f % (p : Int) = x := ⟨_, rfl⟩
  rw [hx] at f1 f2 f3 f4
  have HX : Hid (x = floorR f p) := by show _ = _; rw [floorR_pos f p (by omega)]; exact hx.symm
  have hy : (((G : Int) - a * x).tdiv b).natAbs ≤ 5000000000000000000 := by
    have h9 : (((G : Int) - a * x).tdiv b).natAbs ≤ ((G : Int) - a * x).natAbs := by rw [Int.natAbs_tdiv]; exact Nat.div_le_self _ _
    omega
  obtain ⟨y1, y2⟩ := lin hy
  obtain ⟨f31, f32⟩ := lin f3
  have F4 : Hid _ := f4
  have F3 : Hid _ := f3
  clear hx f4 f3 hf hy
  go_wp2_with fail
  refine (floor_is f p _ x (by omega) (by omega) (by omega) (show Hid (floorQ f p = floorQ f p) from rfl) HX _).mono ?_
  rintro e w3 ⟨rfl, n2, hw2⟩
  go_wp2
  go_quiet (fail)
  go_wp2
  go_returns
  exact ⟨⟨x, _, f1, by rw [HP.out]; exact f2, F3.out, F4.out, rfl⟩, drews (drews HW.out _) _⟩
end Go.Proofs.Ytjdcoiekbnefkab
