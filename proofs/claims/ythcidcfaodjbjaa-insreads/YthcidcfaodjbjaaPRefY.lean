/- What the document takes up, put together; lists. -/
import Derived.Test.YthcidcfaodjbjaaPRefX
namespace Go.Proofs.Ythcidcfaodjbjaa
open Go.RowKit
set_option linter.unusedVariables false

theorem tk_nz {L : List UInt8} : ∀ {i n : Nat} {k : Int}, tk i n L = .err k → (k == 0) = false := by
  induction L with
  | nil => intro i n k h; unfold tk at h; injection h with h; subst h; rfl
  | cons c L ih =>
    intro i n k h
    unfold tk at h
    split at h
    · injection h with h; subst h; rfl
    · split at h
      · cases h
      · exact ih h

theorem tint_ok (W : WG) (a : Option Addr) (c : Nat) (L : List UInt8) (w : World) (hW : TG W w) (hR : RG W (.slice a L.length c) L) :
    Calls Try.prog 66 #[.agg #[.slice a L.length c, .int .i64 0]] w (DPost W w (.int .i64 0) (outI L)) := by
  have HC : ∀ V, Below w.heap.size w V → Calls Try.prog 65 #[.agg #[.slice a L.length c, .int .i64 0]] V (DPost W V (.int .u64 0) (outU L)) := fun V hb => tuint_ok W a c L V (hW.next hb) hR
  unfold outI
  unfold outU at HC
  rcases htk : tk 0 0 L with ⟨m, R⟩ | k
  · rw [htk] at HC
    exact tint_okOf W a L.length c 0 m R w (tk_le L 0 0 m R (by omega) (by omega) htk).1 HC
  · rw [htk] at HC
    exact tint_errOf W a L.length c 0 k w HC
theorem tint_fail (W : WG) (a : Option Addr) (n c : Nat) (f : Int) (w : World) (hf : (f == 0) = false) :
    Calls Try.prog 66 #[.agg #[.slice a n c, .int .i64 f]] w (DPost W w (.int .i64 0) (.err f)) := tint_errOf W a n c f f w (fun V _ => tuint_fail W a n c f V hf)
theorem tcount_ok (W : WG) (a : Option Addr) (c : Nat) (L : List UInt8) (ls : Int) (lsn : Nat) (w : World) (hW : TG W w) (hR : RG W (.slice a L.length c) L) (hls : (ls < 1 ∧ lsn = 1) ∨ (1 ≤ ls ∧ ls = (lsn : Int))) (hl9 : 1 ≤ lsn ∧ lsn ≤ 9223372036854775807) (hlb : -9223372036854775808 ≤ ls ∧ ls ≤ 9223372036854775807) (hL : L.length ≤ 1000000000) :
    Calls Try.prog 47 #[.agg #[.slice a L.length c, .int .i64 0], .int .i64 ls] w (DPost W w (.int .i64 0) (outC lsn L)) := by
  have HC : ∀ V, Below w.heap.size w V → Calls Try.prog 65 #[.agg #[.slice a L.length c, .int .i64 0]] V (DPost W V (.int .u64 0) (outU L)) := fun V hb => tuint_ok W a c L V (hW.next hb) hR
  unfold outC tkC
  unfold outU at HC
  rcases htk : tk 0 0 L with ⟨m, R⟩ | k
  · rw [htk] at HC
    have hle := tk_le L 0 0 m R (by omega) (by omega) htk
    have := tcount_okOf W a L.length c 0 ls lsn m R w hls hl9 hle.1 (by omega) HC
    dsimp only
    by_cases h : R.length / lsn < m
    · rw [if_pos h]
      rw [if_pos h] at this
      exact this
    · rw [if_neg h]
      rw [if_neg h] at this
      exact this
  · rw [htk] at HC
    exact tcount_errOf W a L.length c 0 ls k w hlb HC
theorem tcount_fail (W : WG) (a : Option Addr) (n c : Nat) (f : Int) (ls : Int) (w : World) (hlb : -9223372036854775808 ≤ ls ∧ ls ≤ 9223372036854775807) (hf : (f == 0) = false) :
    Calls Try.prog 47 #[.agg #[.slice a n c, .int .i64 f], .int .i64 ls] w (DPost W w (.int .i64 0) (.err f)) := tcount_errOf W a n c f ls f w hlb (fun V _ => tuint_fail W a n c f V hf)
end Go.Proofs.Ythcidcfaodjbjaa
