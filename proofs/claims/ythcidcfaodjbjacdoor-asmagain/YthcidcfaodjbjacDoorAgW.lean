/- AsmAgain: the walk. -/
import Derived.Test.YthcidcfaodjbjacDoorTxE
import Derived.Test.YthcidcfaodjbjacDoorAgP
import Derived.Test.YthcidcfaodjbjacDoorPar
import Derived.Test.YthcidcfaodjbjacDoorAlive
import Derived.Test.YthcidcfaodjbjacDoorQSa
namespace Go.Proofs.YthcidcfaodjbjacDoor
open Go.RowKit
set_option linter.unusedVariables false

set_option maxRecDepth 100000 in
set_option maxHeartbeats 4000000 in
theorem again_walk (s : ByteArray) (hs : s.size ≤ maxLen) (cells m : Int) (w : World) (hm : w.cell? ⟨0, 0, none⟩ = some (.int .i64 m)) :
    Calls Tryd.prog 3 #[.string s, .int .i64 cells] w fun e w' => e = .returned (.bool true) ∧ Below w.heap.size w w' := by
  have hm0 : 0 < w.heap.size := World.block_lt_of_cell? w ⟨0, 0, none⟩ hm
  have C6 : Hid (∀ W, W.cell? ⟨0, 0, none⟩ = some (.int .i64 m) → Calls Tryd.prog 6 #[] W fun e w' => e = .returned (.bool true) ∧ Below W.heap.size W w') := fun W hW => alive_any m W hW
  have C5 : Hid (Calls Tryd.prog 5 #[.string s, .int .i64 cells] w (ParseP w (parseA s.data.toList cells))) := parse_list s hs cells m w hm
  rcases parse_cases s.data.toList cells with ⟨nn, ee, he, hp⟩ | ⟨l, hp, hc, hW⟩
  · rw [hp] at C5
    have ee0 : (ee == 0) = false := by simpa using he
    clear hp hs
    go_enter Tryd.func3, Tryd.ntmps3
    go_wp2_with fail
    refine C5.out.mono ?_
    rintro e w1 ⟨va, rfl, hia, hb1⟩
    have HM1 : w1.cell? ⟨0, 0, none⟩ = some (.int .i64 m) := (hb1.cell (p := ⟨0, 0, none⟩) hm0).trans hm
    have HB1 : Hid (Below w.heap.size w w1) := hb1
    obtain ⟨ad, cap, b, o, rfl, _⟩ := hia.isl
    have ez : (([] : List In).length) = 0 := rfl
    rw [ez]
    clear hia hb1
    go_wp2_with (first | (go_at_call 6; refine (C6.out _ HM1).mono ?_; rintro e w4 ⟨rfl, hb4⟩))
    go_ret
    exact ⟨rfl, HB1.out.trans (hb4.mono HB1.out.size)⟩
  · rw [hp] at C5
    clear hp hs
    have HWW : Hid (∀ x ∈ l, InW x) := hW
    have C7 : Hid (∀ v W, ISl W v l → Calls Tryd.prog 7 #[v, .int .i64 cells] W fun e w' => e = .returned (.tuple #[.string ⟨(textA l cells).1.toArray⟩, .int .i64 (textA l cells).2]) ∧ Below W.heap.size W w') := fun v W hv => asmText_any l cells v W HWW.out hv
    by_cases hn : 8192 < (textN l l.length).length
    · have ht : textA l cells = ([], 30) := by unfold textA; rw [if_pos hc, if_pos hn]
      rw [ht] at C7
      clear ht hn hc
      go_enter Tryd.func3, Tryd.ntmps3
      go_wp2_with fail
      refine C5.out.mono ?_
      rintro e w1 ⟨va, rfl, hia, hb1⟩
      have HM1 : w1.cell? ⟨0, 0, none⟩ = some (.int .i64 m) := (hb1.cell (p := ⟨0, 0, none⟩) hm0).trans hm
      have HB1 : Hid (Below w.heap.size w w1) := hb1
      have HI1 : Hid (ISl w1 va l) := hia.isl
      have hm1 : 0 < w1.heap.size := Nat.lt_of_lt_of_le hm0 hb1.size
      clear hia hb1
      go_wp2_with (first | (go_at_call 7; refine (C7.out _ _ HI1.out).mono ?_; rintro e w2 ⟨rfl, hb2⟩; have HM2 : w2.cell? ⟨0, 0, none⟩ = some (.int .i64 m) := (hb2.cell (p := ⟨0, 0, none⟩) hm1).trans HM1; have HB2 : Hid (Below w.heap.size w w2) := HB1.out.trans (hb2.mono HB1.out.size); clear hb2) | (go_at_call 6; refine (C6.out _ HM2).mono ?_; rintro e w4 ⟨rfl, hb4⟩))
      go_ret
      exact ⟨rfl, HB2.out.trans (hb4.mono HB2.out.size)⟩
    · have ht : textA l cells = (textN l l.length, 0) := by unfold textA; rw [if_pos hc, if_neg hn]
      have hb := parse_back hc HWW.out (by omega)
      obtain ⟨S, hS⟩ : ∃ S : ByteArray, ⟨(textN l l.length).toArray⟩ = S := ⟨_, rfl⟩
      have C5b : Hid (∀ W, W.cell? ⟨0, 0, none⟩ = some (.int .i64 m) → Calls Tryd.prog 5 #[.string S, .int .i64 cells] W (ParseP W (l, 0, 0))) := fun W hW => by
        have h := parse_list S (by rw [← hS]; show (textN l l.length).length ≤ _; unfold maxLen; omega) cells m W hW
        rw [← hS] at h ⊢
        have e : (ByteArray.mk (textN l l.length).toArray).data.toList = textN l l.length := rfl
        rw [e, hb] at h
        exact h
      rw [ht] at C7
      dsimp only at C7
      rw [hS] at C7
      clear ht hn hc hb hS
      go_enter Tryd.func3, Tryd.ntmps3
      go_wp2_with fail
      refine C5.out.mono ?_
      rintro e w1 ⟨va, rfl, hia, hb1⟩
      have HM1 : w1.cell? ⟨0, 0, none⟩ = some (.int .i64 m) := (hb1.cell (p := ⟨0, 0, none⟩) hm0).trans hm
      have HB1 : Hid (Below w.heap.size w w1) := hb1
      have HI1 : Hid (ISl w1 va l) := hia.isl
      have hm1 : 0 < w1.heap.size := Nat.lt_of_lt_of_le hm0 hb1.size
      clear hia hb1
      go_wp2_with fail
      refine (C7.out _ _ HI1.out).mono ?_
      rintro e w2 ⟨rfl, hb2⟩
      have HM2 : w2.cell? ⟨0, 0, none⟩ = some (.int .i64 m) := (hb2.cell (p := ⟨0, 0, none⟩) hm1).trans HM1
      have HB2 : Hid (Below w.heap.size w w2) := HB1.out.trans (hb2.mono HB1.out.size)
      have HI2 : Hid (ISl w2 va l) := HI1.out.below hb2
      have hm2 : 0 < w2.heap.size := Nat.lt_of_lt_of_le hm1 hb2.size
      clear hb2
      go_wp2_with fail
      refine (C5b.out _ HM2).mono ?_
      rintro e w3 ⟨vb, rfl, hib, hb3⟩
      have HM3 : w3.cell? ⟨0, 0, none⟩ = some (.int .i64 m) := (hb3.cell (p := ⟨0, 0, none⟩) hm2).trans HM2
      have HB3 : Hid (Below w.heap.size w w3) := HB2.out.trans (hb3.mono HB2.out.size)
      have HI3 : Hid (ISl w3 va l) := HI2.out.below hb3
      have HJ3 : Hid (ISl w3 vb l) := hib.isl
      have hm3 : 0 < w3.heap.size := Nat.lt_of_lt_of_le hm2 hb3.size
      clear hib hb3
      go_wp2_with fail
      refine (C7.out _ _ HJ3.out).mono ?_
      rintro e w4 ⟨rfl, hb4⟩
      have HM4 : w4.cell? ⟨0, 0, none⟩ = some (.int .i64 m) := (hb4.cell (p := ⟨0, 0, none⟩) hm3).trans HM3
      have HB4 : Hid (Below w.heap.size w w4) := HB3.out.trans (hb4.mono HB3.out.size)
      have HSM : Hid (Calls Tryd.prog 8 #[va, vb] w4 fun e w' => e = .returned (.bool true) ∧ Below w4.heap.size w4 w') := refSame_true l va vb w4 (HI3.out.below hb4) (HJ3.out.below hb4)
      have hm4 : 0 < w4.heap.size := Nat.lt_of_lt_of_le hm3 hb4.size
      clear hb4
      go_wp2_with (first | (go_at_call 8; refine HSM.out.mono ?_; rintro e w5 ⟨rfl, hb5⟩; have HM5 : w5.cell? ⟨0, 0, none⟩ = some (.int .i64 m) := (hb5.cell (p := ⟨0, 0, none⟩) hm4).trans HM4; have HB5 : Hid (Below w.heap.size w w5) := HB4.out.trans (hb5.mono HB4.out.size); clear hb5) | (go_at_call 6; refine (C6.out _ HM5).mono ?_; rintro e w6 ⟨rfl, hb6⟩))
      go_ret
      exact ⟨rfl, HB5.out.trans (hb6.mono HB5.out.size)⟩
end Go.Proofs.YthcidcfaodjbjacDoor
