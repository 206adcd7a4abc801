/- What a reader takes up: numbers, flags, counts, texts. -/
import Derived.Test.YthcidcfaodjbjaaPWholeG
import Derived.Test.YthcidcfaodjbjaaPWriter
namespace Go.Proofs.Ythcidcfaodjbjaa
open Go.RowKit
set_option linter.unusedVariables false

/-- a number out of one from 0 on -/
def zag (n : Nat) : Int := if n % 2 = 1 then -((n / 2 : Nat) : Int) - 1 else ((n / 2 : Nat) : Int)
set_option maxRecDepth 100000 in
theorem zag_zig (n : Int) : zag (zig n) = n := by
  unfold zag zig
  split <;> split <;> omega
set_option maxRecDepth 100000 in
theorem zag_in (n : Nat) (h : n ≤ 18446744073709551615) : -9223372036854775808 ≤ zag n ∧ zag n ≤ 9223372036854775807 := by
  unfold zag
  split <;> omega
set_option maxRecDepth 100000 in
theorem tk_le : ∀ (L : List UInt8) (i n m : Nat) (R : List UInt8), i ≤ 9 → n < 128 ^ i → tk i n L = .ok m R → m ≤ 18446744073709551615 ∧ R.length < L.length := by
  intro L
  induction L with
  | nil => intro i n m R _ _ h; unfold tk at h; cases h
  | cons c L ih =>
    intro i n m R hi hn h
    unfold tk at h
    split at h
    · cases h
    · rename_i hbad
      have h9 : i = 9 → c.toNat ≤ 1 := by intro e; omega
      have hlt := (tk_or n i c hi h9 hn).2
      split at h
      · injection h with h1 h2
        subst h1 h2
        exact ⟨by omega, by simp⟩
      · rename_i h128
        have hi8 : i < 9 := by
          rcases Nat.lt_or_ge i 9 with h | h
          · exact h
          · have : i = 9 := by omega
            have := h9 this; omega
        have hn' : n + c.toNat % 128 * 128 ^ i < 128 ^ (i + 1) := by
          rw [Nat.pow_succ]
          have h2 : c.toNat % 128 * 128 ^ i ≤ 127 * 128 ^ i := Nat.mul_le_mul_right _ (by omega)
          omega
        have := ih (i + 1) _ m R (by omega) hn' h
        exact ⟨this.1, by simp; omega⟩

def outU (L : List UInt8) : Out := match tk 0 0 L with | .ok n R => .ok (fun v _ => v = .int .u64 (n : Int)) R | .err k => .err k
def outI (L : List UInt8) : Out := match tk 0 0 L with | .ok n R => .ok (fun v _ => v = .int .i64 (zag n)) R | .err k => .err k
def tkC (least : Nat) (L : List UInt8) : Took := match tk 0 0 L with | .ok n R => if R.length / least < n then .err 20 else .ok n R | .err k => .err k
def outC (least : Nat) (L : List UInt8) : Out := match tkC least L with | .ok n R => .ok (fun v _ => v = .int .i64 (n : Int)) R | .err k => .err k
set_option maxRecDepth 100000 in
theorem takeU (pb : Nat) (f : Int) (L : List UInt8) (w : World) (h : RS w pb L f) : Calls Try.prog 80 #[.pointer (some ⟨pb, 0, none⟩)] w (TPost w pb f (outU L)) := by
  refine (take_any pb f L w h).mono ?_
  intro e w' hp
  unfold outU
  rcases htk : tk 0 0 L with ⟨n, R⟩ | k
  · rw [htk] at hp
    obtain ⟨rfl, h2, h3⟩ := hp
    exact ⟨_, rfl, rfl, h2, h3.1⟩
  · rw [htk] at hp
    obtain ⟨rfl, h2, h3⟩ := hp
    exact ⟨rfl, h2, h3.1⟩

set_option maxRecDepth 100000 in
theorem xor_neg (x : Int) (h0 : 0 ≤ x) (h1 : x ≤ 9223372036854775807) : bits .xor .i64 (-1) x = -x - 1 := by
  show IntKind.i64.wrap ((BitVec.ofInt 64 (-1) ^^^ BitVec.ofInt 64 x).toNat : Int) = _
  have e : BitVec.ofInt 64 (-1) = BitVec.allOnes 64 := by decide
  rw [e, BitVec.allOnes_xor, BitVec.toNat_not, BitVec.toNat_ofInt, IntKind.wrap_i64]
  omega

set_option maxRecDepth 100000 in
set_option maxHeartbeats 1000000 in
theorem takeI (pb : Nat) (f : Int) (L : List UInt8) (w : World) (h : RS w pb L f) : Calls Try.prog 84 #[.pointer (some ⟨pb, 0, none⟩)] w (TPost w pb f (outI L)) := by
  have HS : Hid (RS w pb L f) := h
  clear h
  unfold outI
  rcases htk : tk 0 0 L with ⟨n, R⟩ | k
  · have hn := (tk_le L 0 0 n R (by omega) (by omega) htk).1
    have HTK : Hid (tk 0 0 L = .ok n R) := htk
    clear htk
    go_enter Try.func84, Try.ntmps84
    go_wp2_with fail
    refine (take_any pb f L w HS.out).mono ?_
    intro e w2 hp
    rw [HTK.out] at hp
    obtain ⟨rfl, h2, h3⟩ := hp
    have H2 : Hid (RS w2 pb R f) := h2
    have H3 : Hid (w.grownBy w2 (some pb)) := h3.1
    clear h2 h3
    by_cases h1 : n % 2 = 1
    · have HZ : Hid (zag n = -((n / 2 : Nat) : Int) - 1) := by show _ = _; unfold zag; rw [if_pos h1]
      have HX : Hid (bits .xor .i64 (-1) ((n / 2 : Nat) : Int) = -((n / 2 : Nat) : Int) - 1) := xor_neg _ (by omega) (by omega)
      go_wp2
      go_ret
      refine ⟨_, rfl, ?_, H2.out, H3.out⟩
      rw [HZ.out, ← HX.out]
      rfl
    · have HZ : Hid (zag n = ((n / 2 : Nat) : Int)) := by show _ = _; unfold zag; rw [if_neg h1]
      go_wp2
      go_ret
      refine ⟨_, rfl, ?_, H2.out, H3.out⟩
      rw [HZ.out]
      rfl
  · have HTK : Hid (tk 0 0 L = .err k) := htk
    clear htk
    go_enter Try.func84, Try.ntmps84
    go_wp2_with fail
    refine (take_any pb f L w HS.out).mono ?_
    intro e w2 hp
    rw [HTK.out] at hp
    obtain ⟨rfl, h2, h3⟩ := hp
    exact ⟨rfl, rfl, h2, h3.1⟩

set_option maxRecDepth 100000 in
set_option maxHeartbeats 1000000 in
theorem takeC (pb least : Nat) (f : Int) (L : List UInt8) (w : World) (hls : 1 ≤ least) (hl9 : least ≤ 9223372036854775807) (hL : L.length ≤ 1000000000) (h : RS w pb L f) : Calls Try.prog 60 #[.pointer (some ⟨pb, 0, none⟩), .int .i64 (least : Int)] w (TPost w pb f (outC least L)) := by
  have HS : Hid (RS w pb L f) := h
  clear h
  unfold outC tkC
  rcases htk : tk 0 0 L with ⟨n, R⟩ | k
  · obtain ⟨hn, hR⟩ := tk_le L 0 0 n R (by omega) (by omega) htk
    have HTK : Hid (tk 0 0 L = .ok n R) := htk
    clear htk
    obtain ⟨q, hq⟩ : ∃ q, R.length / least = q := ⟨_, rfl⟩
    have HQ : Hid ((R.length : Int) / (least : Int) = (q : Int)) := by show _ = _; rw [← hq]; simp
    have HQ2 : Hid ((R.length : Int).tdiv (least : Int) = (q : Int)) := by show _ = _; rw [← hq]; simp [Int.tdiv_eq_ediv_of_nonneg]
    have hq9 : q ≤ R.length := by rw [← hq]; exact Nat.div_le_self _ _
    have hq0 : (R.length : Int).tdiv (least : Int) = (q : Int) := HQ2.out
    have hl0 : ((least : Int) == 0) = false := by simp; omega
    dsimp only
    rw [hq]
    by_cases hlt : q < n
    · rw [if_pos hlt]
      go_enter Try.func60, Try.ntmps60
      go_wp2_with fail
      refine (take_any pb f L w HS.out).mono ?_
      intro e w2 hp
      rw [HTK.out] at hp
      obtain ⟨rfl, h2, h3⟩ := hp
      have H2 : Hid (RS w2 pb R f) := h2
      have H3 : Hid (w.grownBy w2 (some pb)) := h3.1
      obtain ⟨v, c0, c1, _, _, _, h6⟩ := h2
      obtain ⟨a6, c6, rfl⟩ : ∃ a c, v = .slice a R.length c := by
        rcases h6 with ⟨rfl, rfl⟩ | ⟨g, off, cap, rfl, _⟩
        · exact ⟨_, _, rfl⟩
        · exact ⟨_, _, rfl⟩
      clear h3 h6
      go_wp2_with fail
      refine (giveUp_any 20 w2).mono ?_
      rintro e w' ⟨rfl, rfl⟩
      exact ⟨rfl, rfl, ⟨_, H2.out⟩, H3.out⟩
    · rw [if_neg hlt]
      go_enter Try.func60, Try.ntmps60
      go_wp2_with fail
      refine (take_any pb f L w HS.out).mono ?_
      intro e w2 hp
      rw [HTK.out] at hp
      obtain ⟨rfl, h2, h3⟩ := hp
      have H2 : Hid (RS w2 pb R f) := h2
      have H3 : Hid (w.grownBy w2 (some pb)) := h3.1
      obtain ⟨v, c0, c1, _, _, _, h6⟩ := h2
      obtain ⟨a6, c6, rfl⟩ : ∃ a c, v = .slice a R.length c := by
        rcases h6 with ⟨rfl, rfl⟩ | ⟨g, off, cap, rfl, _⟩
        · exact ⟨_, _, rfl⟩
        · exact ⟨_, _, rfl⟩
      clear h3 h6
      go_wp2
      go_ret
      exact ⟨_, rfl, rfl, H2.out, H3.out⟩
  · have HTK : Hid (tk 0 0 L = .err k) := htk
    clear htk
    go_enter Try.func60, Try.ntmps60
    go_wp2_with fail
    refine (take_any pb f L w HS.out).mono ?_
    intro e w2 hp
    rw [HTK.out] at hp
    obtain ⟨rfl, h2, h3⟩ := hp
    exact ⟨rfl, rfl, h2, h3.1⟩

set_option maxRecDepth 100000 in
theorem tkC_le {L R : List UInt8} {n : Nat} (h : tkC 1 L = .ok n R) : n ≤ R.length ∧ R.length < L.length := by
  unfold tkC at h
  rcases htk : tk 0 0 L with ⟨m, S⟩ | k
  · rw [htk] at h
    dsimp only at h
    split at h
    · cases h
    · injection h with h1 h2
      subst h1 h2
      rename_i hq
      rw [Nat.div_one] at hq
      exact ⟨by omega, (tk_le L 0 0 m S (by omega) (by omega) htk).2⟩
  · rw [htk] at h; cases h

end Go.Proofs.Ythcidcfaodjbjaa
