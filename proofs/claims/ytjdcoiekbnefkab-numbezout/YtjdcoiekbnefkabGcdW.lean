/- What num.Gcd and the document's Gcd answer: the greatest common divisor of the sizes. -/
import Derived.Test.YtjdcoiekbnefkabText
import Derived.Test.YtjdcoiekbnefkabRefA
import Derived.Test.YtjdcoiekbnefkabGcdP
import Derived.Deep.QuietTactic
import Derived.BigQuiet
namespace Go.Proofs.Ytjdcoiekbnefkab
open Go.RowKit
set_option linter.unusedVariables false

theorem mag_abs (n : Int) : mag n = (n.natAbs : Int) := by unfold mag; split <;> omega
theorem size_is (n : Int) (x : Nat) (h1 : -9223372036854775808 ≤ n) (h2 : n ≤ 9223372036854775807) (hx : Hid (n.natAbs = x)) (w : World) :
    Calls Try.prog 34 #[.int .i64 n] w fun e w' => e = .returned (.int .u64 (x : Int)) ∧ w' = w := by
  rw [← hx.out, ← mag_abs]; exact size_any n h1 h2 w
theorem rsize_is (n : Int) (x : Nat) (h1 : -9223372036854775808 ≤ n) (h2 : n ≤ 9223372036854775807) (hx : Hid (n.natAbs = x)) (w : World) :
    Calls Try.prog 35 #[.int .i64 n] w fun e w' => e = .returned (.int .u64 (x : Int)) ∧ w' = w := by
  rw [← hx.out]; exact rsize_any n h1 h2 w
theorem drews {w wr : World} (h : ∃ m, wr = w.drewN m) (n : Nat) : ∃ m, wr.drewN n = w.drewN m := by
  obtain ⟨m, rfl⟩ := h
  exact ⟨m + n, World.drewN_drewN _ _ _⟩

set_option maxHeartbeats 1000000 in
theorem gcd_any (a b : Int) (g : Nat) (ha : -9223372036854775808 ≤ a ∧ a ≤ 9223372036854775807) (hb : -9223372036854775808 ≤ b ∧ b ≤ 9223372036854775807) (hg : Hid (Nat.gcd a.natAbs b.natAbs = g)) (w : World) :
    Calls Try.prog 11 #[.int .i64 a, .int .i64 b] w fun e w' => e = .returned (.int .u64 (g : Int)) ∧ ∃ n, w' = w.drewN n := by
  obtain ⟨A, hA⟩ : ∃ A, a.natAbs = A := ⟨_, rfl⟩
  obtain ⟨B, hB⟩ : ∃ B, b.natAbs = B := ⟨_, rfl⟩
  rw [hA, hB] at hg
  have bA : A ≤ 9223372036854775808 := by omega
  have bB : B ≤ 9223372036854775808 := by omega
  have HA : Hid _ := hA
  have HB : Hid _ := hB
  have Ha : Hid _ := ha
  have Hb : Hid _ := hb
  clear hA hB ha hb
  go_enter Try.func11, Try.ntmps11
  go_wp2_with fail
  refine (size_is a A Ha.out.1 Ha.out.2 HA _).mono ?_
  rintro e w' ⟨rfl, rfl⟩
  go_wp2_with fail
  refine (size_is b B Hb.out.1 Hb.out.2 HB _).mono ?_
  rintro e w' ⟨rfl, rfl⟩
  go_wp2
  go_loopw [5, 6] (fun x y wr => ∃ X Y : Nat, X ≤ 9223372036854775808 ∧ Y ≤ 9223372036854775808 ∧ x = .int .u64 (X : Int) ∧ y = .int .u64 (Y : Int) ∧ Hid (Nat.gcd X Y = g) ∧ ∃ m, wr = w'.drewN m) (fun _ y _ => (intOf y).toNat)
  case atStart => exact ⟨A, B, bA, bB, rfl, rfl, hg, 0, rfl⟩
  case round =>
    obtain ⟨X, Y, hX, hY, rfl, rfl, HG, hwr⟩ := hrel
    have HW : Hid (∃ m, _) := hwr
    clear hwr
    by_cases hy : Y = 0
    · subst hy
      go_wp2
      go_ret
      exact ⟨ret_int (by have := HG.out; rw [Nat.gcd_zero_right] at this; rw [this]), HW.out⟩
    · have hy' : ((Y : Int) != 0) = true := by simp; omega
      have hm : X % Y < Y := Nat.mod_lt _ (by omega)
      have HN : Hid (Nat.gcd Y (X % Y) = g) := by show _ = _; rw [← HG.out, Nat.gcd_comm Y, ← Nat.gcd_rec, Nat.gcd_comm]
      go_wp2
      go_quiet (fail)
      go_wp2
      go_roundw
      case rel => exact ⟨Y, X % Y, by omega, by omega, rfl, by go_num, HN, drews HW.out _⟩
      case measure => simp [intOf]; omega

/- the document's -/
theorem shl_back (x t G : Nat) (h : x * 2 ^ t = G) (hG : G ≤ 9223372036854775808) : IntKind.u64.wrap ((x : Int) * 2 ^ t) = (G : Int) := by
  have e : (x : Int) * 2 ^ t = ((x * 2 ^ t : Nat) : Int) := by simp
  rw [e, h, IntKind.wrap_u64]
  omega

set_option maxHeartbeats 2000000 in
theorem rgcd_any (a b : Int) (g : Nat) (ha : -9223372036854775808 ≤ a ∧ a ≤ 9223372036854775807) (hb : -9223372036854775808 ≤ b ∧ b ≤ 9223372036854775807) (hg : Hid (Nat.gcd a.natAbs b.natAbs = g)) (w : World) :
    Calls Try.prog 12 #[.int .i64 a, .int .i64 b] w fun e w' => e = .returned (.int .u64 (g : Int)) ∧ w' = w := by
  obtain ⟨A, hA⟩ : ∃ A, a.natAbs = A := ⟨_, rfl⟩
  obtain ⟨B, hB⟩ : ∃ B, b.natAbs = B := ⟨_, rfl⟩
  rw [hA, hB] at hg
  have bA : A ≤ 9223372036854775808 := by omega
  have bB : B ≤ 9223372036854775808 := by omega
  have HA : Hid _ := hA
  have HB : Hid _ := hB
  have Ha : Hid _ := ha
  have Hb : Hid _ := hb
  clear hA hB ha hb
  by_cases hA0 : A = 0
  · subst hA0
    have eg : Hid (bits .or .u64 (((0 : Nat) : Int)) (B : Int) = (g : Int)) := by
      show _ = _
      have := hg.out
      rw [Nat.gcd_zero_left] at this
      rw [u64_or_nat 0 B (by omega) (by omega), Nat.zero_or, this]
    go_enter Try.func12, Try.ntmps12
    go_wp2_with fail
    refine (rsize_is a 0 Ha.out.1 Ha.out.2 HA _).mono ?_
    rintro e w' ⟨rfl, rfl⟩
    go_wp2_with fail
    refine (rsize_is b B Hb.out.1 Hb.out.2 HB _).mono ?_
    rintro e w' ⟨rfl, rfl⟩
    go_wp2
    go_ret
    exact ⟨ret_int eg.out, rfl⟩
  by_cases hB0 : B = 0
  · subst hB0
    have q1 : ((A : Int) == 0) = false := by simp; omega
    have eg : Hid (bits .or .u64 (A : Int) (((0 : Nat) : Int)) = (g : Int)) := by
      show _ = _
      have := hg.out
      rw [Nat.gcd_zero_right] at this
      rw [u64_or_nat A 0 (by omega) (by omega), Nat.or_zero, this]
    go_enter Try.func12, Try.ntmps12
    go_wp2_with fail
    refine (rsize_is a A Ha.out.1 Ha.out.2 HA _).mono ?_
    rintro e w' ⟨rfl, rfl⟩
    go_wp2_with fail
    refine (rsize_is b 0 Hb.out.1 Hb.out.2 HB _).mono ?_
    rintro e w' ⟨rfl, rfl⟩
    go_wp2
    go_ret
    exact ⟨ret_int eg.out, rfl⟩
  have q1 : ((A : Int) == 0) = false := by simp; omega
  have q2 : ((B : Int) == 0) = false := by simp; omega
  have hgle : g ≤ 9223372036854775808 := by
    have := Nat.le_of_dvd (by omega) (Nat.gcd_dvd_left A B)
    rw [hg.out] at this
    omega
  have hgpos : 0 < g := by
    have := Nat.gcd_pos_of_pos_left B (show 0 < A by omega)
    rw [hg.out] at this
    exact this
  go_enter Try.func12, Try.ntmps12
  go_wp2_with fail
  refine (rsize_is a A Ha.out.1 Ha.out.2 HA _).mono ?_
  rintro e w' ⟨rfl, rfl⟩
  go_wp2_with fail
  refine (rsize_is b B Hb.out.1 Hb.out.2 HB _).mono ?_
  rintro e w' ⟨rfl, rfl⟩
  go_wp2
  go_loop [5, 6, 7] (fun x y t => ∃ X Y T : Nat, 0 < X ∧ 0 < Y ∧ X ≤ 9223372036854775808 ∧ Y ≤ 9223372036854775808 ∧ T ≤ 64 ∧ x = .int .u64 (X : Int) ∧ y = .int .u64 (Y : Int) ∧ t = .int .u64 (T : Int) ∧ Hid (Nat.gcd X Y * 2 ^ T = g)) (fun x _ _ => (intOf x).toNat)
  case atStart => exact ⟨A, B, 0, by omega, by omega, bA, bB, by omega, rfl, rfl, rfl, by show _ = _; rw [Nat.pow_zero, Nat.mul_one]; exact hg.out⟩
  case round =>
    obtain ⟨X, Y, T, hX0, hY0, hX, hY, hT, rfl, rfl, rfl, HG⟩ := hrel
    have hT63 : T < 64 := by
      rcases Nat.lt_or_ge T 64 with h | h
      · exact h
      · exfalso
        have h1 := HG.out
        have h2 : 0 < Nat.gcd X Y := Nat.gcd_pos_of_pos_left Y hX0
        have h3 : 2 ^ 64 ≤ 2 ^ T := Nat.pow_le_pow_right (by omega) h
        have h4 := Nat.mul_le_mul h2 h3
        omega
    by_cases hx : X % 2 = 0
    · have x3 : ((X : Int) % 2 == 0) = true := by simp; omega
      by_cases hy : Y % 2 = 0
      · have y3 : ((Y : Int) % 2 == 0) = true := by simp; omega
        have HN : Hid _ := gcd_twos X Y T g hx hy HG.out
        go_wp2
        go_round
        case rel => exact ⟨X / 2, Y / 2, T + 1, by omega, by omega, by omega, by omega, by omega, by go_num, by go_num, by go_num, HN⟩
        case measure => simp [intOf]; omega
      · have y3 : ((Y : Int) % 2 == 0) = false := by simp; omega
        go_wp2
        go_loop [5, 6] (fun x y => ∃ P Q : Nat, 0 < P ∧ 0 < Q ∧ P ≤ 9223372036854775808 ∧ Q ≤ 9223372036854775808 ∧ (P % 2 = 1 ∨ Q % 2 = 1) ∧ x = .int .u64 (P : Int) ∧ y = .int .u64 (Q : Int) ∧ Hid (Nat.gcd P Q = Nat.gcd X Y)) (fun x y => (intOf x + intOf y).toNat)
        case atStart => exact ⟨X, Y, hX0, hY0, hX, hY, by omega, rfl, rfl, rfl⟩
        case round =>
          obtain ⟨P, Q, hP0, hQ0, hP, hQ, hodd, rfl, rfl, HD⟩ := hrel
          by_cases hPQ : P = Q
          · subst hPQ
            have HF : Hid (IntKind.u64.wrap ((P : Int) * 2 ^ T) = (g : Int)) := by
              show _ = _
              have h1 := HD.out
              rw [Nat.gcd_self] at h1
              exact shl_back P T g (by rw [h1]; exact HG.out) hgle
            go_wp2
            go_ret
            exact ⟨ret_int HF.out, rfl⟩
          · have n1 : ((P : Int) != Q) = true := by simp; omega
            by_cases p2 : P % 2 = 0
            · have HN : Hid (Nat.gcd (P / 2) Q = Nat.gcd X Y) := by show _ = _; rw [gcd_even_left P Q p2 (by omega)]; exact HD.out
              have p3 : ((P : Int) % 2 == 0) = true := by simp; omega
              have hq1 : Q % 2 = 1 := by omega
              clear hodd
              go_wp2
              go_round
              case rel => exact ⟨P / 2, Q, by omega, by omega, by omega, by omega, by omega, by go_num, rfl, HN⟩
              case measure => simp [intOf]; omega
            · have p3 : ((P : Int) % 2 == 0) = false := by simp; omega
              by_cases q2 : Q % 2 = 0
              · have HN : Hid (Nat.gcd P (Q / 2) = Nat.gcd X Y) := by show _ = _; rw [gcd_even_right P Q (by omega) q2]; exact HD.out
                have q3 : ((Q : Int) % 2 == 0) = true := by simp; omega
                clear hodd
                go_wp2
                go_round
                case rel => exact ⟨P, Q / 2, by omega, by omega, by omega, by omega, by omega, rfl, by go_num, HN⟩
                case measure => simp [intOf]; omega
              · have q3 : ((Q : Int) % 2 == 0) = false := by simp; omega
                clear hodd
                by_cases hlt : Q < P
                · have HN : Hid (Nat.gcd ((P - Q) / 2) Q = Nat.gcd X Y) := by show _ = _; rw [gcd_odd_left P Q (by omega) (by omega) hlt]; exact HD.out
                  go_wp2
                  go_round
                  case rel => exact ⟨(P - Q) / 2, Q, by omega, by omega, by omega, by omega, by omega, by go_num, rfl, HN⟩
                  case measure => simp [intOf]; omega
                · have HN : Hid (Nat.gcd P ((Q - P) / 2) = Nat.gcd X Y) := by show _ = _; rw [gcd_odd_right P Q (by omega) (by omega) (by omega)]; exact HD.out
                  go_wp2
                  go_round
                  case rel => exact ⟨P, (Q - P) / 2, by omega, by omega, by omega, by omega, by omega, rfl, by go_num, HN⟩
                  case measure => simp [intOf]; omega
    · have x3 : ((X : Int) % 2 == 0) = false := by simp; omega
      go_wp2
      go_loop [5, 6] (fun x y => ∃ P Q : Nat, 0 < P ∧ 0 < Q ∧ P ≤ 9223372036854775808 ∧ Q ≤ 9223372036854775808 ∧ (P % 2 = 1 ∨ Q % 2 = 1) ∧ x = .int .u64 (P : Int) ∧ y = .int .u64 (Q : Int) ∧ Hid (Nat.gcd P Q = Nat.gcd X Y)) (fun x y => (intOf x + intOf y).toNat)
      case atStart => exact ⟨X, Y, hX0, hY0, hX, hY, by omega, rfl, rfl, rfl⟩
      case round =>
        obtain ⟨P, Q, hP0, hQ0, hP, hQ, hodd, rfl, rfl, HD⟩ := hrel
        by_cases hPQ : P = Q
        · subst hPQ
          have HF : Hid (IntKind.u64.wrap ((P : Int) * 2 ^ T) = (g : Int)) := by
            show _ = _
            have h1 := HD.out
            rw [Nat.gcd_self] at h1
            exact shl_back P T g (by rw [h1]; exact HG.out) hgle
          go_wp2
          go_ret
          exact ⟨ret_int HF.out, rfl⟩
        · have n1 : ((P : Int) != Q) = true := by simp; omega
          by_cases p2 : P % 2 = 0
          · have HN : Hid (Nat.gcd (P / 2) Q = Nat.gcd X Y) := by show _ = _; rw [gcd_even_left P Q p2 (by omega)]; exact HD.out
            have p3 : ((P : Int) % 2 == 0) = true := by simp; omega
            have hq1 : Q % 2 = 1 := by omega
            clear hodd
            go_wp2
            go_round
            case rel => exact ⟨P / 2, Q, by omega, by omega, by omega, by omega, by omega, by go_num, rfl, HN⟩
            case measure => simp [intOf]; omega
          · have p3 : ((P : Int) % 2 == 0) = false := by simp; omega
            by_cases q2 : Q % 2 = 0
            · have HN : Hid (Nat.gcd P (Q / 2) = Nat.gcd X Y) := by show _ = _; rw [gcd_even_right P Q (by omega) q2]; exact HD.out
              have q3 : ((Q : Int) % 2 == 0) = true := by simp; omega
              clear hodd
              go_wp2
              go_round
              case rel => exact ⟨P, Q / 2, by omega, by omega, by omega, by omega, by omega, rfl, by go_num, HN⟩
              case measure => simp [intOf]; omega
            · have q3 : ((Q : Int) % 2 == 0) = false := by simp; omega
              clear hodd
              by_cases hlt : Q < P
              · have HN : Hid (Nat.gcd ((P - Q) / 2) Q = Nat.gcd X Y) := by show _ = _; rw [gcd_odd_left P Q (by omega) (by omega) hlt]; exact HD.out
                go_wp2
                go_round
                case rel => exact ⟨(P - Q) / 2, Q, by omega, by omega, by omega, by omega, by omega, by go_num, rfl, HN⟩
                case measure => simp [intOf]; omega
              · have HN : Hid (Nat.gcd P ((Q - P) / 2) = Nat.gcd X Y) := by show _ = _; rw [gcd_odd_right P Q (by omega) (by omega) (by omega)]; exact HD.out
                go_wp2
                go_round
                case rel => exact ⟨P, (Q - P) / 2, by omega, by omega, by omega, by omega, by omega, rfl, by go_num, HN⟩
                case measure => simp [intOf]; omega
end Go.Proofs.Ytjdcoiekbnefkab
