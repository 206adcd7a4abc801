/- What is taken up of an instruction. -/
import Derived.Test.YthcidcfaodjbjaaLay
import Derived.Test.YthcidcfaodjbjaaPEnd
import Derived.Test.YthcidcfaodjbjaaEnc
namespace Go.Proofs.Ythcidcfaodjbjaa
open Go.RowKit
set_option linter.unusedVariables false
set_option linter.unusedSimpArgs false

/-- a reader's Uint and Int: the number, what is left, the error -/
def rU (L : List UInt8) (f : Int) : Nat × List UInt8 × Int := if f = 0 then (match tk 0 0 L with | .ok n R => (n, R, 0) | .err k => (0, [], k)) else (0, [], f)
def rI (L : List UInt8) (f : Int) : Int × List UInt8 × Int := if f = 0 then (match tk 0 0 L with | .ok n R => (zag n, R, 0) | .err k => (0, [], k)) else (0, [], f)
theorem tk_err : ∀ (L : List UInt8) (i n : Nat) (k : Int), tk i n L = .err k → k = 20 ∨ k = 21
  | [], _, _, k, h => by unfold tk at h; injection h with h; omega
  | c :: R, i, n, k, h => by
    unfold tk at h
    split at h
    · injection h with h; omega
    · split at h
      · cases h
      · exact tk_err R _ _ k h
theorem rU_left (L : List UInt8) (f : Int) (h : f = 0 ∨ L = []) : (rU L f).2.2 = 0 ∨ (rU L f).2.1 = [] := by
  unfold rU
  split
  · split
    · exact Or.inl rfl
    · exact Or.inr rfl
  · exact Or.inr rfl
theorem rI_left (L : List UInt8) (f : Int) (h : f = 0 ∨ L = []) : (rI L f).2.2 = 0 ∨ (rI L f).2.1 = [] := by
  unfold rI
  split
  · split
    · exact Or.inl rfl
    · exact Or.inr rfl
  · exact Or.inr rfl
theorem rU_le (L : List UInt8) (f : Int) : (rU L f).1 ≤ 18446744073709551615 := by
  unfold rU
  split
  · split
    · rename_i n R h; exact (tk_le L 0 0 n R (by omega) (by omega) h).1
    · simp
  · simp
theorem rI_in (L : List UInt8) (f : Int) : r64 (rI L f).1 := by
  unfold rI
  split
  · split
    · rename_i n R h; exact zag_in n (tk_le L 0 0 n R (by omega) (by omega) h).1
    · unfold r64; simp
  · unfold r64; simp
theorem uintR_any (pb : Nat) (L : List UInt8) (f : Int) (w : World) (h : RS w pb L f) (hf : f = 0 ∨ L = []) :
    Calls Try.prog 62 #[.pointer (some ⟨pb, 0, none⟩)] w fun e w' => e = .returned (.int .u64 ((rU L f).1 : Int)) ∧ RS w' pb (rU L f).2.1 (rU L f).2.2 ∧ w.grownBy w' (some pb) := by
  by_cases h0 : f = 0
  · subst h0
    have hT : Hid (∀ w', RS w' pb L 0 → Calls Try.prog 80 #[.pointer (some ⟨pb, 0, none⟩)] w' (TPost w' pb 0 (outU L))) := fun w' hw => takeU pb 0 L w' hw
    refine (ruint_ok pb (outU L) L w h hT).mono ?_
    intro e w' hp
    unfold outU at hp
    unfold rU
    rw [if_pos rfl]
    rcases ht : tk 0 0 L with ⟨n, R⟩ | k
    · rw [ht] at hp
      obtain ⟨v, rfl, rfl, h1, h2⟩ := hp
      exact ⟨rfl, h1, h2⟩
    · rw [ht] at hp
      obtain ⟨rfl, h1, h2⟩ := hp
      exact ⟨rfl, h1, h2⟩
  · obtain rfl : L = [] := hf.resolve_left h0
    refine (ruint_failed pb f w h (by simp [h0])).mono ?_
    rintro e w' ⟨rfl, h1, h2⟩
    unfold rU
    rw [if_neg h0]
    exact ⟨rfl, h1, h2⟩
theorem intR_any (pb : Nat) (L : List UInt8) (f : Int) (w : World) (h : RS w pb L f) (hf : f = 0 ∨ L = []) :
    Calls Try.prog 64 #[.pointer (some ⟨pb, 0, none⟩)] w fun e w' => e = .returned (.int .i64 (rI L f).1) ∧ RS w' pb (rI L f).2.1 (rI L f).2.2 ∧ w.grownBy w' (some pb) := by
  by_cases h0 : f = 0
  · subst h0
    have hT : Hid (∀ w', RS w' pb L 0 → Calls Try.prog 84 #[.pointer (some ⟨pb, 0, none⟩)] w' (TPost w' pb 0 (outI L))) := fun w' hw => takeI pb 0 L w' hw
    refine (rint_ok pb (outI L) L w h hT).mono ?_
    intro e w' hp
    unfold outI at hp
    unfold rI
    rw [if_pos rfl]
    rcases ht : tk 0 0 L with ⟨n, R⟩ | k
    · rw [ht] at hp
      obtain ⟨v, rfl, rfl, h1, h2⟩ := hp
      exact ⟨rfl, h1, h2⟩
    · rw [ht] at hp
      obtain ⟨rfl, h1, h2⟩ := hp
      exact ⟨rfl, h1, h2⟩
  · obtain rfl : L = [] := hf.resolve_left h0
    refine (rint_failed pb f w h (by simp [h0])).mono ?_
    rintro e w' ⟨rfl, h1, h2⟩
    unfold rI
    rw [if_neg h0]
    exact ⟨rfl, h1, h2⟩

/-- a number that is kept small -/
def sm (n : Nat) : Int := if n ≤ 2147483647 then (n : Int) else 2147483647
set_option maxRecDepth 100000 in
set_option maxHeartbeats 400000 in
theorem small_any (n : Nat) (w : World) (hn : n ≤ 18446744073709551615) : Calls Try.prog 61 #[.int .u64 (n : Int)] w fun e w' => e = .returned (.int .i64 (sm n)) ∧ w' = w := by
  obtain ⟨R, hR⟩ : ∃ R, sm n = R := ⟨_, rfl⟩
  rw [hR]
  unfold sm at hR
  by_cases h : n ≤ 2147483647
  · rw [if_pos h] at hR
    have HR : Hid ((n : Int) = R) := hR
    clear hR
    go_enter Try.func61, Try.ntmps61
    go_wp2
    all_goals first | (go_ret; exact ⟨by rw [← HR.out]; rfl, rfl⟩) | skip


  · rw [if_neg h] at hR
    have HR : Hid (2147483647 = R) := hR
    clear hR
    go_enter Try.func61, Try.ntmps61
    go_wp2
    all_goals first | (go_ret; exact ⟨by rw [← HR.out]; rfl, rfl⟩) | skip


end Go.Proofs.Ythcidcfaodjbjaa
