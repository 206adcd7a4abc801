/- What bytes.Clone, pack.from, a writer's Bytes, Text and Int, and New answer. -/
import Derived.Test.YthcidcfaodjbjaaPUint
import Derived.Test.YthcidcfaodjbjaaPRead
namespace Go.Proofs.Ythcidcfaodjbjaa
open Go.RowKit
set_option linter.unusedVariables false

/-- new memory holds the bytes L -/
def NewPost (w : World) (L : List UInt8) (e : Ending) (w' : World) : Prop := ∃ v', e = .returned v' ∧ Own w' w.heap.size v' L ∧ Below w.heap.size w w'

set_option maxRecDepth 100000 in
theorem eq_nil (a : Option Addr) (l c : Nat) (w : World) : (binOp .eql 40 (.slice a l c) (.slice none 0 0)).run Try.prog w = .ok (.bool a.isNone) w := by
  rw [Lib.run_eql_slice_nil w 40 5 a l c 0 0 Try.underlying40]

set_option maxRecDepth 100000 in
set_option maxHeartbeats 400000 in
theorem clone_nil (w : World) : Calls Try.prog 57 #[.slice none 0 0] w fun e w' => e = .returned (.slice none 0 0) ∧ w' = w := by
  have hq := fun w => eq_nil none 0 0 w
  go_enter Try.func57, Try.ntmps57
  go_wp2
  go_ret
  exact ⟨rfl, rfl⟩

set_option maxRecDepth 100000 in
theorem own_empty (w : World) : (w.alloc (.cells #[] 5)).ownsRow w.heap.size 5 1 (.slice (some ⟨w.heap.size, 0, none⟩) 0 0) 0 [] :=
  World.ownsRow_made (base := w.heap.size) (e := 5) (size := 1) w #[] 0 (Nat.le_refl _) (Nat.zero_le _) rfl

set_option maxRecDepth 100000 in
set_option maxHeartbeats 1000000 in
theorem clone_some (b off cap : Nat) (L : List UInt8) (w : World) (hL : L.length ≤ 1000000000) (hb : b < w.heap.size) (hc : Hid (∀ i (h : i < L.length), w.cell? ⟨b, off + i, none⟩ = some (.int .u8 (L[i].toNat : Int)))) :
    Calls Try.prog 57 #[.slice (some ⟨b, off, none⟩) L.length cap] w fun e w' => NewPost w L e w' := by
  obtain ⟨i0, hi, hz0, hz1, hz2⟩ := info_parts info5
  have hq := fun w => eq_nil (some ⟨b, off, none⟩) L.length cap w
  go_enter Try.func57, Try.ntmps57
  go_wp2_with (at_builtin; refine wpList_append_own _ rfl _ _ 40 rfl w.heap.size 5 i0 (.int .u8 0) 1 1 Try.underlying40 hi hz0 hz1 hz2 rfl (by decide) _ _ _ rfl (own_empty w) ⟨b, off, none⟩ L.length cap (bc L) rfl ?c0 ?c1 ?c2 ?c3 ?c4 ?c5 ?_)
  case c0 => rw [bc_len, Nat.mul_one]
  case c1 =>
    intro j u hj
    obtain ⟨h1, rfl⟩ := bc_get L j u hj
    rw [World.cell?_alloc_lt]
    · have := hc.out j h1
      rw [← this]
      congr 1
      unfold Addr.add
      split <;> simp_all
    · unfold Addr.add
      split <;> exact hb
  case c2 => exact bc_one L
  case c3 => unfold maxLen; omega
  case c4 => omega
  case c5 => simp
  · intro v' w1 hown hgrow _
    have HN : Hid (NewPost w L (.returned v') w1) := ⟨v', rfl, hown, ((Below.refl _ _).alloc (Nat.le_refl _) _).grown hgrow (by simp) (fun k hk => by simp [Value.ownBlock] at hk; omega)⟩
    clear hown hgrow
    go_wp2
    go_ret
    exact HN.out

set_option maxRecDepth 100000 in
theorem clone_any (v : Value) (L : List UInt8) (w : World) (hL : L.length ≤ 1000000000) (h : Rd w v L) : Calls Try.prog 57 #[v] w fun e w' => NewPost w L e w' := by
  rcases h with ⟨rfl, rfl⟩ | ⟨b, off, cap, rfl, e2, e2', e3, e4⟩
  · refine (clone_nil w).mono ?_
    rintro e w' ⟨rfl, rfl⟩
    exact ⟨_, rfl, World.ownsRow_nil _ _ _ _, Below.refl _ _⟩
  · exact clone_some b off cap L w hL e3 e4

set_option maxRecDepth 100000 in
set_option maxHeartbeats 400000 in
theorem from_nil (w : World) : Calls Try.prog 56 #[.slice none 0 0, .int .i64 0] w fun e w' => e = .returned (.slice none 0 0) ∧ w' = w := by
  go_enter Try.func56, Try.ntmps56
  go_wp2
  go_ret
  exact ⟨rfl, rfl⟩

set_option maxRecDepth 100000 in
set_option maxHeartbeats 400000 in
theorem from_some (b off n cap at' : Nat) (w : World) (h1 : at' ≤ n) (h2 : n ≤ cap) (h3 : cap ≤ maxLen) :
    Calls Try.prog 56 #[.slice (some ⟨b, off, none⟩) n cap, .int .i64 (at' : Int)] w fun e w' => e = .returned (.slice (some (if n = at' then ⟨b, off, none⟩ else ⟨b, off + at', none⟩)) (n - at') (n - at')) ∧ w' = w := by
  unfold maxLen at h3
  by_cases hn : n = at'
  · subst hn
    go_enter Try.func56, Try.ntmps56
    go_wp2
    go_ret
    exact ⟨by simp, rfl⟩
  · have hn' : ¬ at' = n := fun e => hn e.symm
    go_enter Try.func56, Try.ntmps56
    go_wp2
    go_ret
    exact ⟨by simp, rfl⟩
end Go.Proofs.Ythcidcfaodjbjaa
