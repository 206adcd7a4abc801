/- What asm.bare, asm.sayings answer. -/
import Derived.Test.YthcidcfaodjbjabGreatDoorAsmM
import Derived.Test.YthcidcfaodjbjabGreatDoorIOne
import Derived.Laws.Tables
import Derived.Laws.Rows
import Derived.Great.BuildSlice
import Derived.Deep.WholeRow
namespace Go.Proofs.YthcidcfaodjbjabGreatDoor
open Go.RowKit
set_option linter.unusedVariables false

theorem Six.new2 (w : World) (o : Obj) (x : In) : Six ((w.alloc o).alloc (.cells #[.int .i64 x.kind, .int .i64 x.op, .int .i64 x.a, .int .i64 x.b, .int .i64 x.c, .int .i64 x.k] 41)) (w.heap.size + 1) x := by
  have h := Six.new (w.alloc o) x
  rw [show (w.alloc o).heap.size = w.heap.size + 1 by simp] at h
  exact h
theorem below2 (w : World) (o p : Obj) : Below w.heap.size w ((w.alloc o).alloc p) := ((Below.refl _ _).alloc (Nat.le_refl _) _).alloc (by simp) _
set_option maxRecDepth 100000 in
set_option maxHeartbeats 1000000 in
theorem bare_any (x : In) (w : World) : Calls Tryz.prog 44 #[iv x] w fun e w' => e = .returned (iv (bareI x)) ∧ Below w.heap.size w w' := by
  obtain ⟨n, p, a, b, c, k⟩ := x
  by_cases h4 : n = 4
  · subst h4
    rw [show bareI ⟨4, p, a, b, c, k⟩ = ⟨4, p, 0, 0, 0, 0⟩ by unfold bareI; rw [if_pos (Or.inl rfl)]]
    unfold iv
    go_enter Tryz.func44, Tryz.ntmps44
    go_wp2
    refine bodyPost_ret (ret_six 2 Tryz.results44 _ (w.heap.size + 1) rfl _ (Six.new2 w _ ⟨4, p, 0, 0, 0, 0⟩)) rfl ?_
    exact ⟨rfl, below2 w _ _⟩
  · by_cases h5 : n = 5
    · subst h5
      rw [show bareI ⟨5, p, a, b, c, k⟩ = ⟨5, p, 0, 0, 0, 0⟩ by unfold bareI; rw [if_pos (Or.inr rfl)]]
      unfold iv
      go_enter Tryz.func44, Tryz.ntmps44
      go_wp2
      refine bodyPost_ret (ret_six 2 Tryz.results44 _ (w.heap.size + 1) rfl _ (Six.new2 w _ ⟨5, p, 0, 0, 0, 0⟩)) rfl ?_
      exact ⟨rfl, below2 w _ _⟩
    · rw [show bareI ⟨n, p, a, b, c, k⟩ = ⟨n, 0, 0, 0, 0, 0⟩ by unfold bareI; rw [if_neg (by simp only; omega)]]
      have e4 : (n == 4) = false := by simpa using h4
      have e5 : (n == 5) = false := by simpa using h5
      unfold iv
      go_enter Tryz.func44, Tryz.ntmps44
      go_wp2
      all_goals first | (exfalso; simp_all; done) | skip
      refine bodyPost_ret (ret_six 2 Tryz.results44 _ (w.heap.size + 1) rfl _ (Six.new2 w _ ⟨n, 0, 0, 0, 0, 0⟩)) rfl ?_
      exact ⟨rfl, below2 w _ _⟩
/-- the sayings as cells -/
def saysA : Array Value := #[.int .i64 1, .int .i64 0, .int .i64 0, .int .i64 0, .int .i64 0, .int .i64 0, .string ⟨#[104, 97, 108, 116]⟩, .string ⟨#[]⟩, .int .i64 2, .int .i64 0, .int .i64 0, .int .i64 0, .int .i64 0, .int .i64 0, .string ⟨#[99, 111, 110, 115, 116]⟩, .string ⟨#[97, 107]⟩, .int .i64 3, .int .i64 0, .int .i64 0, .int .i64 0, .int .i64 0, .int .i64 0, .string ⟨#[109, 111, 118, 101]⟩, .string ⟨#[97, 98]⟩, .int .i64 4, .int .i64 19, .int .i64 0, .int .i64 0, .int .i64 0, .int .i64 0, .string ⟨#[110, 101, 103]⟩, .string ⟨#[97, 98]⟩, .int .i64 4, .int .i64 20, .int .i64 0, .int .i64 0, .int .i64 0, .int .i64 0, .string ⟨#[99, 111, 109]⟩, .string ⟨#[97, 98]⟩, .int .i64 4, .int .i64 21, .int .i64 0, .int .i64 0, .int .i64 0, .int .i64 0, .string ⟨#[110, 111, 116]⟩, .string ⟨#[97, 98]⟩, .int .i64 5, .int .i64 1, .int .i64 0, .int .i64 0, .int .i64 0, .int .i64 0, .string ⟨#[97, 100, 100]⟩, .string ⟨#[97, 98, 99]⟩, .int .i64 5, .int .i64 2, .int .i64 0, .int .i64 0, .int .i64 0, .int .i64 0, .string ⟨#[115, 117, 98]⟩, .string ⟨#[97, 98, 99]⟩, .int .i64 5, .int .i64 3, .int .i64 0, .int .i64 0, .int .i64 0, .int .i64 0, .string ⟨#[109, 117, 108]⟩, .string ⟨#[97, 98, 99]⟩, .int .i64 5, .int .i64 4, .int .i64 0, .int .i64 0, .int .i64 0, .int .i64 0, .string ⟨#[100, 105, 118]⟩, .string ⟨#[97, 98, 99]⟩, .int .i64 5, .int .i64 5, .int .i64 0, .int .i64 0, .int .i64 0, .int .i64 0, .string ⟨#[114, 101, 109]⟩, .string ⟨#[97, 98, 99]⟩, .int .i64 5, .int .i64 6, .int .i64 0, .int .i64 0, .int .i64 0, .int .i64 0, .string ⟨#[97, 110, 100]⟩, .string ⟨#[97, 98, 99]⟩, .int .i64 5, .int .i64 7, .int .i64 0, .int .i64 0, .int .i64 0, .int .i64 0, .string ⟨#[111, 114]⟩, .string ⟨#[97, 98, 99]⟩, .int .i64 5, .int .i64 8, .int .i64 0, .int .i64 0, .int .i64 0, .int .i64 0, .string ⟨#[120, 111, 114]⟩, .string ⟨#[97, 98, 99]⟩, .int .i64 5, .int .i64 9, .int .i64 0, .int .i64 0, .int .i64 0, .int .i64 0, .string ⟨#[115, 104, 108]⟩, .string ⟨#[97, 98, 99]⟩, .int .i64 5, .int .i64 10, .int .i64 0, .int .i64 0, .int .i64 0, .int .i64 0, .string ⟨#[115, 104, 114]⟩, .string ⟨#[97, 98, 99]⟩, .int .i64 5, .int .i64 11, .int .i64 0, .int .i64 0, .int .i64 0, .int .i64 0, .string ⟨#[101, 113]⟩, .string ⟨#[97, 98, 99]⟩, .int .i64 5, .int .i64 12, .int .i64 0, .int .i64 0, .int .i64 0, .int .i64 0, .string ⟨#[110, 101]⟩, .string ⟨#[97, 98, 99]⟩, .int .i64 5, .int .i64 13, .int .i64 0, .int .i64 0, .int .i64 0, .int .i64 0, .string ⟨#[108, 116]⟩, .string ⟨#[97, 98, 99]⟩, .int .i64 5, .int .i64 14, .int .i64 0, .int .i64 0, .int .i64 0, .int .i64 0, .string ⟨#[108, 101]⟩, .string ⟨#[97, 98, 99]⟩, .int .i64 5, .int .i64 15, .int .i64 0, .int .i64 0, .int .i64 0, .int .i64 0, .string ⟨#[103, 116]⟩, .string ⟨#[97, 98, 99]⟩, .int .i64 5, .int .i64 16, .int .i64 0, .int .i64 0, .int .i64 0, .int .i64 0, .string ⟨#[103, 101]⟩, .string ⟨#[97, 98, 99]⟩, .int .i64 5, .int .i64 17, .int .i64 0, .int .i64 0, .int .i64 0, .int .i64 0, .string ⟨#[109, 105, 110]⟩, .string ⟨#[97, 98, 99]⟩, .int .i64 5, .int .i64 18, .int .i64 0, .int .i64 0, .int .i64 0, .int .i64 0, .string ⟨#[109, 97, 120]⟩, .string ⟨#[97, 98, 99]⟩, .int .i64 6, .int .i64 0, .int .i64 0, .int .i64 0, .int .i64 0, .int .i64 0, .string ⟨#[108, 111, 97, 100]⟩, .string ⟨#[97, 98, 107]⟩, .int .i64 7, .int .i64 0, .int .i64 0, .int .i64 0, .int .i64 0, .int .i64 0, .string ⟨#[115, 116, 111, 114, 101]⟩, .string ⟨#[97, 98, 107]⟩, .int .i64 8, .int .i64 0, .int .i64 0, .int .i64 0, .int .i64 0, .int .i64 0, .string ⟨#[105, 110, 116, 111]⟩, .string ⟨#[97, 114]⟩, .int .i64 9, .int .i64 0, .int .i64 0, .int .i64 0, .int .i64 0, .int .i64 0, .string ⟨#[101, 109, 105, 116]⟩, .string ⟨#[97]⟩, .int .i64 10, .int .i64 0, .int .i64 0, .int .i64 0, .int .i64 0, .int .i64 0, .string ⟨#[106, 117, 109, 112]⟩, .string ⟨#[108]⟩, .int .i64 11, .int .i64 0, .int .i64 0, .int .i64 0, .int .i64 0, .int .i64 0, .string ⟨#[122, 101, 114, 111]⟩, .string ⟨#[97, 108]⟩, .int .i64 12, .int .i64 0, .int .i64 0, .int .i64 0, .int .i64 0, .int .i64 0, .string ⟨#[111, 116, 104, 101, 114]⟩, .string ⟨#[97, 108]⟩, .int .i64 13, .int .i64 0, .int .i64 0, .int .i64 0, .int .i64 0, .int .i64 0, .string ⟨#[102, 97, 105, 108]⟩, .string ⟨#[97]⟩]
set_option maxRecDepth 100000 in
theorem saysA_size : saysA.size = 256 := by rfl
set_option maxRecDepth 100000 in
theorem sy0 (W : World) : (Instr.index 86 (.agg saysA) (.int .i64 ((0 : Nat) : Int))).run Tryz.prog W = .ok (.agg (sayC (say 0)).toArray) W := by kernel_rfl
set_option maxRecDepth 100000 in
theorem sy1 (W : World) : (Instr.index 86 (.agg saysA) (.int .i64 ((1 : Nat) : Int))).run Tryz.prog W = .ok (.agg (sayC (say 1)).toArray) W := by kernel_rfl
set_option maxRecDepth 100000 in
theorem sy2 (W : World) : (Instr.index 86 (.agg saysA) (.int .i64 ((2 : Nat) : Int))).run Tryz.prog W = .ok (.agg (sayC (say 2)).toArray) W := by kernel_rfl
set_option maxRecDepth 100000 in
theorem sy3 (W : World) : (Instr.index 86 (.agg saysA) (.int .i64 ((3 : Nat) : Int))).run Tryz.prog W = .ok (.agg (sayC (say 3)).toArray) W := by kernel_rfl
set_option maxRecDepth 100000 in
theorem sy4 (W : World) : (Instr.index 86 (.agg saysA) (.int .i64 ((4 : Nat) : Int))).run Tryz.prog W = .ok (.agg (sayC (say 4)).toArray) W := by kernel_rfl
set_option maxRecDepth 100000 in
theorem sy5 (W : World) : (Instr.index 86 (.agg saysA) (.int .i64 ((5 : Nat) : Int))).run Tryz.prog W = .ok (.agg (sayC (say 5)).toArray) W := by kernel_rfl
set_option maxRecDepth 100000 in
theorem sy6 (W : World) : (Instr.index 86 (.agg saysA) (.int .i64 ((6 : Nat) : Int))).run Tryz.prog W = .ok (.agg (sayC (say 6)).toArray) W := by kernel_rfl
set_option maxRecDepth 100000 in
theorem sy7 (W : World) : (Instr.index 86 (.agg saysA) (.int .i64 ((7 : Nat) : Int))).run Tryz.prog W = .ok (.agg (sayC (say 7)).toArray) W := by kernel_rfl
set_option maxRecDepth 100000 in
theorem sy8 (W : World) : (Instr.index 86 (.agg saysA) (.int .i64 ((8 : Nat) : Int))).run Tryz.prog W = .ok (.agg (sayC (say 8)).toArray) W := by kernel_rfl
set_option maxRecDepth 100000 in
theorem sy9 (W : World) : (Instr.index 86 (.agg saysA) (.int .i64 ((9 : Nat) : Int))).run Tryz.prog W = .ok (.agg (sayC (say 9)).toArray) W := by kernel_rfl
set_option maxRecDepth 100000 in
theorem sy10 (W : World) : (Instr.index 86 (.agg saysA) (.int .i64 ((10 : Nat) : Int))).run Tryz.prog W = .ok (.agg (sayC (say 10)).toArray) W := by kernel_rfl
set_option maxRecDepth 100000 in
theorem sy11 (W : World) : (Instr.index 86 (.agg saysA) (.int .i64 ((11 : Nat) : Int))).run Tryz.prog W = .ok (.agg (sayC (say 11)).toArray) W := by kernel_rfl
set_option maxRecDepth 100000 in
theorem sy12 (W : World) : (Instr.index 86 (.agg saysA) (.int .i64 ((12 : Nat) : Int))).run Tryz.prog W = .ok (.agg (sayC (say 12)).toArray) W := by kernel_rfl
set_option maxRecDepth 100000 in
theorem sy13 (W : World) : (Instr.index 86 (.agg saysA) (.int .i64 ((13 : Nat) : Int))).run Tryz.prog W = .ok (.agg (sayC (say 13)).toArray) W := by kernel_rfl
set_option maxRecDepth 100000 in
theorem sy14 (W : World) : (Instr.index 86 (.agg saysA) (.int .i64 ((14 : Nat) : Int))).run Tryz.prog W = .ok (.agg (sayC (say 14)).toArray) W := by kernel_rfl
set_option maxRecDepth 100000 in
theorem sy15 (W : World) : (Instr.index 86 (.agg saysA) (.int .i64 ((15 : Nat) : Int))).run Tryz.prog W = .ok (.agg (sayC (say 15)).toArray) W := by kernel_rfl
set_option maxRecDepth 100000 in
theorem sy16 (W : World) : (Instr.index 86 (.agg saysA) (.int .i64 ((16 : Nat) : Int))).run Tryz.prog W = .ok (.agg (sayC (say 16)).toArray) W := by kernel_rfl
set_option maxRecDepth 100000 in
theorem sy17 (W : World) : (Instr.index 86 (.agg saysA) (.int .i64 ((17 : Nat) : Int))).run Tryz.prog W = .ok (.agg (sayC (say 17)).toArray) W := by kernel_rfl
set_option maxRecDepth 100000 in
theorem sy18 (W : World) : (Instr.index 86 (.agg saysA) (.int .i64 ((18 : Nat) : Int))).run Tryz.prog W = .ok (.agg (sayC (say 18)).toArray) W := by kernel_rfl
set_option maxRecDepth 100000 in
theorem sy19 (W : World) : (Instr.index 86 (.agg saysA) (.int .i64 ((19 : Nat) : Int))).run Tryz.prog W = .ok (.agg (sayC (say 19)).toArray) W := by kernel_rfl
set_option maxRecDepth 100000 in
theorem sy20 (W : World) : (Instr.index 86 (.agg saysA) (.int .i64 ((20 : Nat) : Int))).run Tryz.prog W = .ok (.agg (sayC (say 20)).toArray) W := by kernel_rfl
set_option maxRecDepth 100000 in
theorem sy21 (W : World) : (Instr.index 86 (.agg saysA) (.int .i64 ((21 : Nat) : Int))).run Tryz.prog W = .ok (.agg (sayC (say 21)).toArray) W := by kernel_rfl
set_option maxRecDepth 100000 in
theorem sy22 (W : World) : (Instr.index 86 (.agg saysA) (.int .i64 ((22 : Nat) : Int))).run Tryz.prog W = .ok (.agg (sayC (say 22)).toArray) W := by kernel_rfl
set_option maxRecDepth 100000 in
theorem sy23 (W : World) : (Instr.index 86 (.agg saysA) (.int .i64 ((23 : Nat) : Int))).run Tryz.prog W = .ok (.agg (sayC (say 23)).toArray) W := by kernel_rfl
set_option maxRecDepth 100000 in
theorem sy24 (W : World) : (Instr.index 86 (.agg saysA) (.int .i64 ((24 : Nat) : Int))).run Tryz.prog W = .ok (.agg (sayC (say 24)).toArray) W := by kernel_rfl
set_option maxRecDepth 100000 in
theorem sy25 (W : World) : (Instr.index 86 (.agg saysA) (.int .i64 ((25 : Nat) : Int))).run Tryz.prog W = .ok (.agg (sayC (say 25)).toArray) W := by kernel_rfl
set_option maxRecDepth 100000 in
theorem sy26 (W : World) : (Instr.index 86 (.agg saysA) (.int .i64 ((26 : Nat) : Int))).run Tryz.prog W = .ok (.agg (sayC (say 26)).toArray) W := by kernel_rfl
set_option maxRecDepth 100000 in
theorem sy27 (W : World) : (Instr.index 86 (.agg saysA) (.int .i64 ((27 : Nat) : Int))).run Tryz.prog W = .ok (.agg (sayC (say 27)).toArray) W := by kernel_rfl
set_option maxRecDepth 100000 in
theorem sy28 (W : World) : (Instr.index 86 (.agg saysA) (.int .i64 ((28 : Nat) : Int))).run Tryz.prog W = .ok (.agg (sayC (say 28)).toArray) W := by kernel_rfl
set_option maxRecDepth 100000 in
theorem sy29 (W : World) : (Instr.index 86 (.agg saysA) (.int .i64 ((29 : Nat) : Int))).run Tryz.prog W = .ok (.agg (sayC (say 29)).toArray) W := by kernel_rfl
set_option maxRecDepth 100000 in
theorem sy30 (W : World) : (Instr.index 86 (.agg saysA) (.int .i64 ((30 : Nat) : Int))).run Tryz.prog W = .ok (.agg (sayC (say 30)).toArray) W := by kernel_rfl
set_option maxRecDepth 100000 in
theorem sy31 (W : World) : (Instr.index 86 (.agg saysA) (.int .i64 ((31 : Nat) : Int))).run Tryz.prog W = .ok (.agg (sayC (say 31)).toArray) W := by kernel_rfl
set_option maxRecDepth 100000 in
theorem says_at (k : Nat) (hk : k < 32) (W : World) : (Instr.index 86 (.agg saysA) (.int .i64 (k : Int))).run Tryz.prog W = .ok (.agg (sayC (say k)).toArray) W := by
  match k, hk with
  | 0, _ => exact sy0 W
  | 1, _ => exact sy1 W
  | 2, _ => exact sy2 W
  | 3, _ => exact sy3 W
  | 4, _ => exact sy4 W
  | 5, _ => exact sy5 W
  | 6, _ => exact sy6 W
  | 7, _ => exact sy7 W
  | 8, _ => exact sy8 W
  | 9, _ => exact sy9 W
  | 10, _ => exact sy10 W
  | 11, _ => exact sy11 W
  | 12, _ => exact sy12 W
  | 13, _ => exact sy13 W
  | 14, _ => exact sy14 W
  | 15, _ => exact sy15 W
  | 16, _ => exact sy16 W
  | 17, _ => exact sy17 W
  | 18, _ => exact sy18 W
  | 19, _ => exact sy19 W
  | 20, _ => exact sy20 W
  | 21, _ => exact sy21 W
  | 22, _ => exact sy22 W
  | 23, _ => exact sy23 W
  | 24, _ => exact sy24 W
  | 25, _ => exact sy25 W
  | 26, _ => exact sy26 W
  | 27, _ => exact sy27 W
  | 28, _ => exact sy28 W
  | 29, _ => exact sy29 W
  | 30, _ => exact sy30 W
  | 31, _ => exact sy31 W
  | j + 32, h => exact absurd h (by omega)

set_option maxRecDepth 1000000 in
set_option maxHeartbeats 4000000 in
theorem sayings_any (w : World) : Calls Tryz.prog 43 #[] w fun e w' => e = .returned (.agg saysA) ∧ Below w.heap.size w w' := by
  go_enter Tryz.func43, Tryz.ntmps43
  go_wp2_with (first | (refine wpList_buildTo rfl 44 _ rfl _ rfl saysA (by kernel_rfl) ?_) | (refine wpList_store_rowTo rfl 86 _ _ rfl rfl w.heap.size saysA rfl rfl 86 _ (heap_alloc_new _ _) (by kernel_rfl) (by kernel_rfl) (by kernel_rfl) ?_))
  rw [World.setRow_alloc_new]
  refine bodyPost_ret (results_cell_row Tryz.results43 _ _ w.heap.size 86 saysA (0, 0) _ rfl (heap_alloc_new _ _) Tryz.underlying86 rfl (by kernel_rfl)) rfl ?_
  exact ⟨rfl, (Below.refl _ _).alloc (Nat.le_refl _) _⟩
end Go.Proofs.YthcidcfaodjbjabGreatDoor
