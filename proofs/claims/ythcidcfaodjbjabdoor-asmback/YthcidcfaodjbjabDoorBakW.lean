/- AsmBack: the walk. -/
import Derived.Test.YthcidcfaodjbjabDoorTxE
import Derived.Test.YthcidcfaodjbjabDoorBkC
import Derived.Test.YthcidcfaodjbjabDoorAlive
import Derived.Test.YthcidcfaodjbjabDoorQSa
namespace Go.Proofs.YthcidcfaodjbjabDoor
open Go.RowKit
set_option linter.unusedVariables false
theorem text_cases (l : List In) (cells : Int) (hW : ∀ x ∈ l, InW x) : (∃ e, e ≠ 0 ∧ textA l cells = ([], e)) ∨ ((checkL l cells).2 = 0 ∧ textA l cells = (textN l l.length, 0) ∧ (textN l l.length).length ≤ 8192 ∧ parseA (textN l l.length) cells = (l, 0, 0)) := by
  unfold textA
  by_cases hc : (checkL l cells).2 = 0
  · rw [if_pos hc]
    by_cases hn : 8192 < (textN l l.length).length
    · rw [if_pos hn]
      exact Or.inl ⟨30, by decide, rfl⟩
    · rw [if_neg hn]
      exact Or.inr ⟨hc, rfl, by omega, parse_back hc hW (by omega)⟩
  · rw [if_neg hc]
    exact Or.inl ⟨_, hc, rfl⟩

set_option maxRecDepth 100000 in
set_option maxHeartbeats 4000000 in
theorem back_walk (l : List In) (cells m : Int) (v : Value) (w : World) (hv : ISl w v l) (hW : ∀ x ∈ l, InW x) (hm : w.cell? ⟨0, 0, none⟩ = some (.int .i64 m)) :
    Calls Tryd.prog 5 #[v, .int .i64 cells] w fun e w' => e = .returned (.bool true) ∧ Below w.heap.size w w' := by
  have hm0 : 0 < w.heap.size := World.block_lt_of_cell? w ⟨0, 0, none⟩ hm
  have C14 : Hid (Calls Tryd.prog 14 #[v, .int .i64 cells] w fun e w' => e = .returned (.tuple #[.string ⟨(textA l cells).1.toArray⟩, .int .i64 (textA l cells).2]) ∧ Below w.heap.size w w') := asmText_any l cells v w hW hv
  have C10 : Hid (∀ W, W.cell? ⟨0, 0, none⟩ = some (.int .i64 m) → Calls Tryd.prog 10 #[] W fun e w' => e = .returned (.bool true) ∧ Below W.heap.size W w') := fun W hW => alive_any m W hW
  have HV : Hid (ISl w v l) := hv
  obtain ⟨ad, cap, b, o, rfl, h2, h3, h4, h5⟩ := hv
  obtain ⟨N, hN⟩ : ∃ N, l.length = N := ⟨_, rfl⟩
  unfold maxLen at h3
  by_cases h7 : 700 < l.length
  · rw [hN] at h7 h2 HV C14 ⊢
    have e7 : decide ((700 : Int) < (N : Int)) = true := by simp; omega
    clear h4 h5
    go_enter Tryd.func5, Tryd.ntmps5
    go_wp2_with fail
    go_ret
    exact ⟨rfl, Below.refl _ _⟩
  · rcases text_cases l cells hW with ⟨ee, he, ht⟩ | ⟨hc, ht, hl, hp⟩
    · rw [ht] at C14
      rw [hN] at h7 h2 HV C14 ⊢
      have e7 : decide ((700 : Int) < (N : Int)) = false := by simp; omega
      have ee0 : (ee == 0) = false := by simpa using he
      have ez : ([] : List UInt8).toArray = #[] := rfl
      rw [ez] at C14
      clear h4 h5 ht
      go_enter Tryd.func5, Tryd.ntmps5
      go_wp2_with (first | (go_at_call 14; refine C14.out.mono ?_; rintro e w1 ⟨rfl, hb1⟩; have HM1 : w1.cell? ⟨0, 0, none⟩ = some (.int .i64 m) := (hb1.cell (p := ⟨0, 0, none⟩) hm0).trans hm; have HB1 : Hid (Below w.heap.size w w1) := hb1; clear hb1) | (go_at_call 10; refine (C10.out _ HM1).mono ?_; rintro e w4 ⟨rfl, hb4⟩))
      go_ret
      exact ⟨rfl, HB1.out.trans (hb4.mono HB1.out.size)⟩
    · rw [ht] at C14
      obtain ⟨S, hS⟩ : ∃ S : ByteArray, ⟨(textN l l.length).toArray⟩ = S := ⟨_, rfl⟩
      have C11 : Hid (∀ W, W.cell? ⟨0, 0, none⟩ = some (.int .i64 m) → Calls Tryd.prog 11 #[.string S, .int .i64 cells] W (ParseP W (l, 0, 0))) := fun W hW => by
        have h := parse_list S (by rw [← hS]; show (textN l l.length).length ≤ _; unfold maxLen; omega) cells m W hW
        rw [← hS] at h ⊢
        have e : (ByteArray.mk (textN l l.length).toArray).data.toList = textN l l.length := rfl
        rw [e, hp] at h
        exact h
      dsimp only at C14
      rw [hS] at C14
      rw [hN] at h7 h2 HV C14 ⊢
      have e7 : decide ((700 : Int) < (N : Int)) = false := by simp; omega
      clear h4 h5 ht hp hl hc hS
      go_enter Tryd.func5, Tryd.ntmps5
      go_upto_region 6 with (first | (go_at_call 14; refine C14.out.mono ?_; rintro e w1 ⟨rfl, hb1⟩; have HM1 : w1.cell? ⟨0, 0, none⟩ = some (.int .i64 m) := (hb1.cell (p := ⟨0, 0, none⟩) hm0).trans hm; have HB1 : Hid (Below w.heap.size w w1) := hb1; have hm1 : 0 < w1.heap.size := Nat.lt_of_lt_of_le hm0 hb1.size; clear hb1))
      go_wp2_with fail
      refine (C11.out _ HM1).mono ?_
      rintro e w2 ⟨vb, rfl, hib, hb2⟩
      have HM2 : w2.cell? ⟨0, 0, none⟩ = some (.int .i64 m) := (hb2.cell (p := ⟨0, 0, none⟩) hm1).trans HM1
      have HB2 : Hid (Below w.heap.size w w2) := HB1.out.trans (hb2.mono HB1.out.size)
      have HSM : Hid (Calls Tryd.prog 13 #[.slice ad N cap, vb] w2 fun e w' => e = .returned (.bool true) ∧ Below w2.heap.size w2 w') := refSame_true l _ vb w2 (HV.out.below HB2.out) hib.isl
      have hm2 : 0 < w2.heap.size := Nat.lt_of_lt_of_le hm1 hb2.size
      clear hib hb2
      go_wp2_with (first | (go_at_call 13; refine HSM.out.mono ?_; rintro e w3 ⟨rfl, hb3⟩; have HM3 : w3.cell? ⟨0, 0, none⟩ = some (.int .i64 m) := (hb3.cell (p := ⟨0, 0, none⟩) hm2).trans HM2; have HB3 : Hid (Below w.heap.size w w3) := HB2.out.trans (hb3.mono HB2.out.size); clear hb3) | (go_at_call 10; refine (C10.out _ HM3).mono ?_; rintro e w4 ⟨rfl, hb4⟩))
      go_ret
      exact ⟨rfl, HB3.out.trans (hb4.mono HB3.out.size)⟩
end Go.Proofs.YthcidcfaodjbjabDoor
