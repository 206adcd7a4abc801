/- The document's bytes of things laid down. -/
import Derived.Test.YthcidcfaodjbjaaPRefU
import Derived.Lib.AppendStr
namespace Go.Proofs.Ythcidcfaodjbjaa
open Go.RowKit
set_option linter.unusedVariables false

set_option maxRecDepth 100000 in
set_option maxHeartbeats 400000 in
theorem rint (n : Int) (w : World) (h1 : -9223372036854775808 ≤ n) (h2 : n ≤ 9223372036854775807) : Calls Try.prog 42 #[.int .i64 n] w fun e w' => NewPost w (uintB (zig n)) e w' := by
  have HZ : Hid (zig n ≤ 18446744073709551615) := zig_le n h1 h2
  by_cases hn : 0 ≤ n
  · have E : Hid (n * 2 = ((zig n : Nat) : Int)) := by show _ = _; unfold zig; rw [if_neg (by omega)]; omega
    go_enter Try.func42, Try.ntmps42
    go_wp2_with fail
    rw [E.out]
    refine (ruint (zig n) w HZ.out).mono ?_
    rintro e w1 ⟨v1, rfl, k1, k2⟩
    have HP : Hid (NewPost w (uintB (zig n)) (.returned v1) w1) := ⟨v1, rfl, k1, k2⟩
    clear k1 k2
    go_wp2
    go_ret
    exact HP.out
  · have E : Hid (-(n + 1) * 2 + 1 = ((zig n : Nat) : Int)) := by show _ = _; unfold zig; rw [if_pos (by omega)]; omega
    go_enter Try.func42, Try.ntmps42
    go_wp2_with fail
    rw [E.out]
    refine (ruint (zig n) w HZ.out).mono ?_
    rintro e w1 ⟨v1, rfl, k1, k2⟩
    have HP : Hid (NewPost w (uintB (zig n)) (.returned v1) w1) := ⟨v1, rfl, k1, k2⟩
    clear k1 k2
    go_wp2
    go_ret
    exact HP.out

theorem uintB_pos (n : Nat) : 0 < (uintB n).length := by
  unfold uintB uintF
  split <;> simp
/-- what is appended out of new memory -/
theorem Own.src {w : World} {base : Nat} {v : Value} {L : List UInt8} (h : Own w base v L) (hp : 0 < L.length) : ∃ g c, v = .slice (some ⟨g, 0, none⟩) L.length c ∧ ∀ j u, (bc L)[j]? = some u → w.cell? ((⟨g, 0, none⟩ : Addr).add j) = some u := by
  rcases h.2 with ⟨_, h0⟩ | ⟨g, cap, cur, e1, _⟩
  · omega
  · refine ⟨g, cap, e1, fun j u hj => ?_⟩
    exact World.ownsRow.cells h (g := g) (by rw [e1]; rfl) j u hj
theorem Own.after {w w1 w2 : World} {base : Nat} {v v' : Value} {P M : List UInt8} (hb : base ≤ w1.heap.size) (hown : w2.ownsRow base 5 1 v' (P.length + M.length) (bc P ++ bc M)) : Own w2 base v' (P ++ M) := by
  unfold Own
  rw [bc_app, List.length_append]
  exact hown

end Go.Proofs.Ythcidcfaodjbjaa
