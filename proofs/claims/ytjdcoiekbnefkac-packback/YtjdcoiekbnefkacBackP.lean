/- What is laid down is taken up as it was: plain; and lists held against one another. -/
import Derived.Test.YtjdcoiekbnefkacTakeL
import Derived.Test.YtjdcoiekbnefkacLaid
namespace Go.Proofs.Ytjdcoiekbnefkac
open Go.RowKit
set_option linter.unusedVariables false

theorem tk_uintF : ∀ (f i acc m : Nat) (R : List UInt8), i + f = 9 → m < 2 ^ (64 - 7 * i) → (0 < i → 0 < m) → tk i acc (uintF f m ++ R) = .ok (acc + m * 128 ^ i) R := by
  intro f
  induction f with
  | zero =>
    intro i acc m R hi hm h0
    have : i = 9 := by omega
    subst this
    have hm2 : m < 2 := by simpa using hm
    have hc : (UInt8.ofNat m).toNat = m := by simp [UInt8.toNat_ofNat']; omega
    show tk 9 acc (UInt8.ofNat m :: R) = _
    unfold tk
    rw [hc, if_neg (by have := h0 (by omega); omega), if_pos (by omega), Nat.mod_eq_of_lt (by omega)]
  | succ f ih =>
    intro i acc m R hi hm h0
    by_cases hl : m < 128
    · have hc : (UInt8.ofNat m).toNat = m := by simp [UInt8.toNat_ofNat']; omega
      rw [uintF_low _ _ hl]
      show tk i acc (UInt8.ofNat m :: R) = _
      unfold tk
      rw [hc, if_neg (by omega), if_pos hl, Nat.mod_eq_of_lt hl]
    · have hc : (UInt8.ofNat (m % 128 + 128)).toNat = m % 128 + 128 := by simp [UInt8.toNat_ofNat']; omega
      rw [uintF_high _ _ hl]
      show tk i acc (UInt8.ofNat (m % 128 + 128) :: (uintF f (m / 128) ++ R)) = _
      unfold tk
      rw [hc, if_neg (by omega), if_neg (by omega)]
      rw [ih (i + 1) _ (m / 128) R (by omega) ?_ (by omega)]
      · congr 1
        have e : (m % 128 + 128) % 128 = m % 128 := by omega
        rw [e, Nat.pow_succ, Nat.add_assoc]
        congr 1
        have h1 : m / 128 * (128 ^ i * 128) = (128 * (m / 128)) * 128 ^ i := by rw [Nat.mul_comm (128 ^ i) 128, ← Nat.mul_assoc, Nat.mul_comm (m / 128) 128]
        rw [h1, ← Nat.add_mul]
        congr 1
        omega
      · have h2 : 64 - 7 * i = (64 - 7 * (i + 1)) + 7 := by omega
        rw [h2, Nat.pow_add] at hm
        have : (2 : Nat) ^ 7 = 128 := by decide
        rw [this] at hm
        exact Nat.div_lt_of_lt_mul (by rw [Nat.mul_comm]; exact hm)
theorem tk_uintB (n : Nat) (R : List UInt8) (h : n ≤ 18446744073709551615) : tk 0 0 (uintB n ++ R) = .ok n R := by
  have := tk_uintF 9 0 0 n R rfl (by omega) (by omega)
  simpa [uintB] using this
theorem outU_of (n : Nat) (R : List UInt8) (h : n ≤ 18446744073709551615) : outU (uintB n ++ R) = .ok (fun v _ => v = .int .u64 (n : Int)) R := by
  unfold outU; rw [tk_uintB n R h]
theorem outI_of (n : Int) (R : List UInt8) (h : -9223372036854775808 ≤ n ∧ n ≤ 9223372036854775807) : outI (uintB (zig n) ++ R) = .ok (fun v _ => v = .int .i64 n) R := by
  unfold outI; rw [tk_uintB _ R (zig_le n h.1 h.2)]
  dsimp only
  rw [zag_zig]
theorem outF_of (b : Bool) (R : List UInt8) : outF (flagB b ++ R) = .ok (fun v _ => v = .bool b) R := by
  cases b
  · show outF (0 :: R) = _
    unfold outF
    rfl
  · show outF (1 :: R) = _
    unfold outF
    rfl
theorem tkC_of (n : Nat) (R : List UInt8) (h : n ≤ 18446744073709551615) (hn : n ≤ R.length) : tkC 1 (uintB n ++ R) = .ok n R := by
  unfold tkC
  rw [tk_uintB n R h]
  dsimp only
  rw [Nat.div_one, if_neg (by omega)]
theorem outT_of (s : ByteArray) (R : List UInt8) (h : s.size ≤ 1000000) : outT (textB s ++ R) = .ok (fun v _ => v = .string s) R := by
  have hl : s.data.toList.length = s.size := by simp
  unfold outT textB
  rw [List.append_assoc, tkC_of s.size (s.data.toList ++ R) (by omega) (by simp)]
  dsimp only
  have h1 : (s.data.toList ++ R).take s.size = s.data.toList := by rw [← hl]; exact List.take_left
  have h2 : (s.data.toList ++ R).drop s.size = R := by rw [← hl]; exact List.drop_left
  rw [h1, h2]
theorem tkN_of : ∀ (l : List Int) (xs : List Int) (R : List UInt8), (∀ n ∈ l, -9223372036854775808 ≤ n ∧ n ≤ 9223372036854775807) → tkN l.length xs (l.flatMap (fun n => uintB (zig n)) ++ R) = .ok (xs ++ l) R := by
  intro l
  induction l with
  | nil => intro xs R _; simp [tkN]
  | cons x l ih =>
    intro xs R h
    have hx := h x (by simp)
    show tkN (l.length + 1) xs _ = _
    unfold tkN
    rw [List.flatMap_cons, List.append_assoc, tk_uintB _ _ (zig_le x hx.1 hx.2)]
    dsimp only
    rw [zag_zig, ih (xs ++ [x]) R (fun n hn => h n (by simp [hn]))]
    simp
theorem uintB_pos (n : Nat) : 0 < (uintB n).length := by
  unfold uintB uintF
  split <;> simp
theorem flat_ge (l : List Int) : l.length ≤ (l.flatMap (fun n => uintB (zig n))).length := by
  induction l with
  | nil => simp
  | cons x l ih =>
    have := uintB_pos (zig x)
    simp only [List.flatMap_cons, List.length_append, List.length_cons]
    omega
theorem outL_of (l : List Int) (R : List UInt8) (hl : l.length ≤ 1000000) (h : ∀ n ∈ l, -9223372036854775808 ≤ n ∧ n ≤ 9223372036854775807) : outL (intsB l ++ R) = .ok (fun v w' => NSl w' v l) R := by
  unfold outL intsB
  rw [List.append_assoc, tkC_of l.length _ (by omega) (by have := flat_ge l; simp only [List.length_append]; omega)]
  dsimp only
  rw [tkN_of l [] R h]
  rfl
theorem laid_drop (l : List It) (j : Nat) (h : j < l.length) : laidB (l.drop j) = itB l[j] ++ laidB (l.drop (j + 1)) := by
  unfold laidB
  rw [List.drop_eq_getElem_cons h, List.flatMap_cons]

set_option maxHeartbeats 1000000 in
theorem same_true (va vb : Value) (l : List Int) (w : World) (hl : l.length ≤ 1000000000) (ha : NSl w va l) (hb : NSl w vb l) :
    Calls Try.prog 16 #[va, vb] w fun e w' => e = .returned (.bool true) ∧ Below w.heap.size w w' := by
  obtain ⟨a, ca, rfl, a1, a2, _, a4⟩ := ha
  obtain ⟨b, cb, rfl, b1, b2, _, b4⟩ := hb
  have HA : Hid (0 < l.length → ∃ b o, a = some ⟨b, o, none⟩ ∧ b < w.heap.size ∧ ∀ i (h : i < l.length), w.cell? ⟨b, o + i, none⟩ = some (.int .i64 l[i])) := a4
  have HB : Hid (0 < l.length → ∃ b' o, b = some ⟨b', o, none⟩ ∧ b' < w.heap.size ∧ ∀ i (h : i < l.length), w.cell? ⟨b', o + i, none⟩ = some (.int .i64 l[i])) := b4
  obtain ⟨n, hn⟩ : ∃ n, l.length = n := ⟨_, rfl⟩
  have HN : Hid (l.length = n) := hn
  rw [hn] at hl a1 b1 ⊢
  unfold maxLen at a2 b2
  clear a4 b4 hn
  go_enter Try.func16, Try.ntmps16
  go_wp2
  go_loopw [5] (fun i wr => ∃ k : Nat, k ≤ n ∧ i = .int .i64 (k : Int) ∧ Hid (Below w.heap.size w wr)) (fun i _ => n - (intOf i).toNat)
  case atStart => exact ⟨0, Nat.zero_le _, rfl, Below.refl _ _⟩
  case round =>
    obtain ⟨k, hk, rfl, HBl⟩ := hrel
    by_cases hlt : k < n
    · have hkl : k < l.length := by have := HN.out; omega
      obtain ⟨ba, oa, e1, g1, y1⟩ := HA.out (by omega)
      obtain ⟨bb, ob, e2, g2, y2⟩ := HB.out (by omega)
      subst e1 e2
      obtain ⟨x, hx⟩ : ∃ x, l[k] = x := ⟨_, rfl⟩
      have x1 : wr.cell? ⟨ba, oa + k, none⟩ = some (.int .i64 x) := by rw [← hx]; exact (HBl.out.cell (p := ⟨ba, oa + k, none⟩) g1).trans (y1 k hkl)
      have x2 : wr.cell? ⟨bb, ob + k, none⟩ = some (.int .i64 x) := by rw [← hx]; exact (HBl.out.cell (p := ⟨bb, ob + k, none⟩) g2).trans (y2 k hkl)
      have q1 : ba < wr.heap.size := Nat.lt_of_lt_of_le g1 HBl.out.size
      have q2 : bb < wr.heap.size := Nat.lt_of_lt_of_le g2 HBl.out.size
      clear hx y1 y2
      go_wp2
      go_region
      all_goals
        go_wp2
        go_roundw
        case rel => exact ⟨k + 1, by omega, by go_num, HBl.out.drew⟩
        case measure => simp [intOf]; omega
    · go_wp2
      go_ret
      exact ⟨rfl, HBl.out⟩

set_option maxHeartbeats 400000 in
theorem end_ok (pb : Nat) (w : World) (h : RS w pb [] 0) : Calls Try.prog 18 #[.pointer (some ⟨pb, 0, none⟩)] w fun e w' => e = .returned (.int .i64 0) ∧ w' = w := by
  obtain ⟨v, h1, h2, h3, h4, h5, h6⟩ := h
  obtain ⟨a, c, rfl⟩ : ∃ a c, v = .slice a 0 c := by
    rcases h6 with ⟨rfl, _⟩ | ⟨g, off, cap, rfl, _⟩
    · exact ⟨_, _, rfl⟩
    · exact ⟨_, _, rfl⟩
  clear h6
  go_enter Try.func18, Try.ntmps18
  go_wp2
  go_ret
  exact ⟨rfl, rfl⟩
end Go.Proofs.Ytjdcoiekbnefkac
