/- AsmWrites: the walk. -/
import Derived.Test.YthcidcfaodjbjabGreatDoorTxE
import Derived.Test.YthcidcfaodjbjabGreatDoorRTe
import Derived.Test.YthcidcfaodjbjabGreatDoorAlive
namespace Go.Proofs.YthcidcfaodjbjabGreatDoor
open Go.RowKit
set_option linter.unusedVariables false
set_option maxRecDepth 100000 in
set_option maxHeartbeats 4000000 in
theorem writes_walk (l : List In) (cells m : Int) (v : Value) (w : World) (hv : ISl w v l) (hW : ∀ x ∈ l, InW x) (hm : w.cell? ⟨0, 0, none⟩ = some (.int .i64 m)) :
    Calls Tryz.prog 3 #[v, .int .i64 cells] w fun e w' => e = .returned (.bool true) ∧ Below w.heap.size w w' := by
  have hm0 : 0 < w.heap.size := World.block_lt_of_cell? w ⟨0, 0, none⟩ hm
  obtain ⟨S, hS⟩ : ∃ S : ByteArray, ⟨(textA l cells).1.toArray⟩ = S := ⟨_, rfl⟩
  obtain ⟨E, hE⟩ : ∃ E, (textA l cells).2 = E := ⟨_, rfl⟩
  have C4 : Hid (Calls Tryz.prog 4 #[v, .int .i64 cells] w fun e w' => e = .returned (.tuple #[.string S, .int .i64 E]) ∧ Below w.heap.size w w') := by rw [← hS, ← hE]; exact asmText_any l cells v w hW hv
  have C5 : Hid (∀ W, Below w.heap.size w W → Calls Tryz.prog 5 #[v, .int .i64 cells] W fun e w' => e = .returned (.tuple #[.string S, .int .i64 E]) ∧ Below W.heap.size W w') := fun W hb => by rw [← hS, ← hE]; exact rtext_any l cells v W hW (hv.below hb)
  have C6 : Hid (∀ W, Below w.heap.size w W → Calls Tryz.prog 6 #[] W fun e w' => e = .returned (.bool true) ∧ Below W.heap.size W w') := fun W hb => alive_any m W ((hb.cell (p := ⟨0, 0, none⟩) hm0).trans hm)
  obtain ⟨ad, cap, b, o, rfl, h2, h3, h4, h5⟩ := hv
  obtain ⟨N, hN⟩ : ∃ N, l.length = N := ⟨_, rfl⟩
  rw [hN] at C4 C5 h2 ⊢
  unfold maxLen at h3
  clear h4 h5 hN hS hE hm hm0 hW
  by_cases h7 : 700 < N
  · have e1 : decide (700 < (N : Int)) = true := by simp; omega
    go_enter Tryz.func3, Tryz.ntmps3
    go_wp2
    go_ret
    exact ⟨rfl, Below.refl _ _⟩
  have e1 : decide (700 < (N : Int)) = false := by simp; omega
  go_enter Tryz.func3, Tryz.ntmps3
  go_wp2_with fail
  refine C4.out.mono ?_
  rintro e w1 ⟨rfl, b1⟩
  have B1 : Hid (Below w.heap.size w w1) := b1
  clear b1
  go_wp2_with fail
  refine (C5.out w1 B1.out).mono ?_
  rintro e w2 ⟨rfl, b2⟩
  have B2 : Hid (Below w.heap.size w w2) := B1.out.trans (b2.mono B1.out.size)
  clear b2
  go_wp2_with fail
  refine (C6.out w2 B2.out).mono ?_
  rintro e w3 ⟨rfl, b3⟩
  have B3 : Hid (Below w.heap.size w w3) := B2.out.trans (b3.mono B2.out.size)
  clear b3
  go_wp2
  go_ret
  exact ⟨rfl, B3.out⟩
end Go.Proofs.YthcidcfaodjbjabGreatDoor
