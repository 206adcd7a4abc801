/- AsmLines: the walk. -/
import Derived.Test.YthcidcfaodjbjacDoorLinP
import Derived.Test.YthcidcfaodjbjacDoorAlive
import Derived.Test.YthcidcfaodjbjacDoorQSa
namespace Go.Proofs.YthcidcfaodjbjacDoor
open Go.RowKit
set_option linter.unusedVariables false
theorem tmod_in (a b : Int) (hb : 0 < b) : -b < Int.tmod a b ∧ Int.tmod a b < b := by
  constructor
  · have := Int.lt_tmod_of_pos a hb
    exact this
  · exact Int.tmod_lt_of_pos a hb

set_option maxRecDepth 100000 in
set_option maxHeartbeats 4000000 in
theorem lines_walk (s : ByteArray) (hs : s.size ≤ maxLen) (cells many m : Int) (w : World) (hm : w.cell? ⟨0, 0, none⟩ = some (.int .i64 m)) :
    Calls Tryd.prog 4 #[.string s, .int .i64 cells, .int .i64 many] w fun e w' => e = .returned (.bool true) ∧ Below w.heap.size w w' := by
  have hm0 : 0 < w.heap.size := World.block_lt_of_cell? w ⟨0, 0, none⟩ hm
  obtain ⟨r, hr1⟩ : ∃ r, Int.tmod many 20 = r := ⟨_, rfl⟩
  have hr2 : -20 < r ∧ r < 20 := by rw [← hr1]; exact tmod_in many 20 (by decide)
  obtain ⟨K, hr3, hK⟩ : ∃ t : Nat, Int.tmod (r + 20) 20 = t ∧ t < 20 := ⟨((r + 20) % 20).toNat, by rw [Int.tmod_eq_emod_of_nonneg (by omega)]; omega, by omega⟩
  unfold maxLen at hs
  go_enter Tryd.func4, Tryd.ntmps4
  go_wp2_with fail
  go_loopw [7, 8] (fun tv iv wr => ∃ (q : Nat) (T : ByteArray), tv = .string T ∧ iv = .int .i64 q ∧ q ≤ K ∧ Hid (T.data.toList = cmts q) ∧ wr = w) (fun _ i _ => K - (intOf i).toNat)
  case atStart => exact ⟨0, ⟨#[]⟩, rfl, rfl, Nat.zero_le _, rfl, rfl⟩
  case round =>
    obtain ⟨q, T, rfl, rfl, hq, HT, rfl⟩ := hrel
    have hTs : T.size = 11 * q := by
      have h1 : T.data.toList.length = T.size := by simp
      rw [← h1, HT.out, cmts_len]
    by_cases hlt : q < K
    · have e1 : decide ((q : Int) < (K : Int)) = true := by simp; omega
      have HT2 : Hid ((T ++ ⟨#[32, 32, 35, 32, 106, 117, 109, 112, 32, 120, 10]⟩ : ByteArray).data.toList = cmts (q + 1)) := by
        show _ = cmts q ++ (cmt ++ [10])
        rw [← HT.out]
        simp [cmt]
      go_wp2_with fail
      go_roundw
      case rel => exact ⟨q + 1, _, rfl, by go_num, by omega, HT2, trivial⟩
      case measure => simp [intOf]; omega
    · have e1 : decide ((q : Int) < (K : Int)) = false := by simp; omega
      obtain rfl : q = K := by omega
      by_cases h8 : 8192 < s.size
      · have e2 : decide ((8192 : Int) < (s.size : Int)) = true := by simp; omega
        go_wp2_with fail
        go_ret
        exact ⟨rfl, Below.refl _ _⟩
      have e2 : decide ((8192 : Int) < (s.size : Int)) = false := by simp; omega
      by_cases h9 : 8192 < 11 * q + s.size
      · have e3 : decide ((8192 : Int) < 11 * (q : Int) + (s.size : Int)) = true := by simp; omega
        go_wp2_with fail
        go_ret
        exact ⟨rfl, Below.refl _ _⟩
      have e3 : decide ((8192 : Int) < 11 * (q : Int) + (s.size : Int)) = false := by simp; omega
      obtain ⟨l, nn, ee, hA⟩ : ∃ l nn ee, parseA s.data.toList cells = (l, nn, ee) := ⟨_, _, _, rfl⟩
      have hhi : nn ≤ 8193 := by have := parse_hi s.data.toList cells; rw [hA] at this; exact this
      have hcat : (T ++ s).data.toList = cmts q ++ s.data.toList := by rw [← HT.out]; simp
      have hB : parseA (T ++ s).data.toList cells = (l, if 0 < nn then nn + q else nn, ee) := by
        rw [hcat, parse_cmts q _ cells (by rw [cmts_len]; simp; omega), hA]
        rfl
      have hsz : (T ++ s).size = 11 * q + s.size := by rw [← hTs]; simp
      have C5 : Hid (Calls Tryd.prog 5 #[.string s, .int .i64 cells] wr (ParseP wr (l, nn, ee))) := by rw [← hA]; exact parse_list s (by unfold maxLen; omega) cells m wr hm
      have C5b : Hid (∀ W, W.cell? ⟨0, 0, none⟩ = some (.int .i64 m) → Calls Tryd.prog 5 #[.string (T ++ s), .int .i64 cells] W (ParseP W (l, if 0 < nn then nn + q else nn, ee))) := fun W hW => by rw [← hB]; exact parse_list _ (by rw [hsz]; unfold maxLen; omega) cells m W hW
      have C6 : Hid (∀ W, W.cell? ⟨0, 0, none⟩ = some (.int .i64 m) → Calls Tryd.prog 6 #[] W fun e w' => e = .returned (.bool true) ∧ Below W.heap.size W w') := fun W hW => alive_any m W hW
      have hee : (ee == ee) = true := by simp
      have hs8 : s.size ≤ 8192 := by omega
      clear hA hcat hB hsz h8 h9 HT
      go_wp2_with fail
      refine C5.out.mono ?_
      rintro e w1 ⟨va, rfl, hia, hb1⟩
      have HM1 : w1.cell? ⟨0, 0, none⟩ = some (.int .i64 m) := (hb1.cell (p := ⟨0, 0, none⟩) hm0).trans hm
      have HB1 : Hid (Below wr.heap.size wr w1) := hb1
      have HI1 : Hid (ISl w1 va l) := hia.isl
      have hm1 : 0 < w1.heap.size := Nat.lt_of_lt_of_le hm0 hb1.size
      have HC5 := C5b.out w1 HM1
      clear hia hb1
      by_cases hpos : 0 < nn
      · have e4 : decide ((0 : Int) < nn) = true := by simpa using hpos
        rw [if_pos hpos] at HC5
        have HC : Hid (Calls Tryd.prog 5 #[.string (T ++ s), .int .i64 cells] w1 (ParseP w1 (l, nn + q, ee))) := HC5
        have hnq : (nn + (q : Int) == nn + q) = true := by simp
        clear HC5
        go_wp2_with fail
        refine HC.out.mono ?_
        rintro e w2 ⟨vb, rfl, hib, hb2⟩
        have HM2 : w2.cell? ⟨0, 0, none⟩ = some (.int .i64 m) := (hb2.cell (p := ⟨0, 0, none⟩) hm1).trans HM1
        have HB2 : Hid (Below wr.heap.size wr w2) := HB1.out.trans (hb2.mono HB1.out.size)
        have HSM : Hid (Calls Tryd.prog 8 #[va, vb] w2 fun e w' => e = .returned (.bool true) ∧ Below w2.heap.size w2 w') := refSame_true l va vb w2 (HI1.out.below hb2) hib.isl
        have hm2 : 0 < w2.heap.size := Nat.lt_of_lt_of_le hm1 hb2.size
        clear hib hb2
        go_wp2_with (first | (go_at_call 8; refine HSM.out.mono ?_; rintro e w3 ⟨rfl, hb3⟩; have HM3 : w3.cell? ⟨0, 0, none⟩ = some (.int .i64 m) := (hb3.cell (p := ⟨0, 0, none⟩) hm2).trans HM2; have HB3 : Hid (Below wr.heap.size wr w3) := HB2.out.trans (hb3.mono HB2.out.size); clear hb3) | (go_at_call 6; refine (C6.out _ HM3).mono ?_; rintro e w4 ⟨rfl, hb4⟩))
        go_ret
        exact ⟨rfl, HB3.out.trans (hb4.mono HB3.out.size)⟩
      · have e4 : decide ((0 : Int) < nn) = false := by simpa using hpos
        rw [if_neg hpos] at HC5
        have HC : Hid (Calls Tryd.prog 5 #[.string (T ++ s), .int .i64 cells] w1 (ParseP w1 (l, nn, ee))) := HC5
        have hnq : (nn == nn) = true := by simp
        clear HC5
        go_wp2_with fail
        refine HC.out.mono ?_
        rintro e w2 ⟨vb, rfl, hib, hb2⟩
        have HM2 : w2.cell? ⟨0, 0, none⟩ = some (.int .i64 m) := (hb2.cell (p := ⟨0, 0, none⟩) hm1).trans HM1
        have HB2 : Hid (Below wr.heap.size wr w2) := HB1.out.trans (hb2.mono HB1.out.size)
        have HSM : Hid (Calls Tryd.prog 8 #[va, vb] w2 fun e w' => e = .returned (.bool true) ∧ Below w2.heap.size w2 w') := refSame_true l va vb w2 (HI1.out.below hb2) hib.isl
        have hm2 : 0 < w2.heap.size := Nat.lt_of_lt_of_le hm1 hb2.size
        clear hib hb2
        go_wp2_with (first | (go_at_call 8; refine HSM.out.mono ?_; rintro e w3 ⟨rfl, hb3⟩; have HM3 : w3.cell? ⟨0, 0, none⟩ = some (.int .i64 m) := (hb3.cell (p := ⟨0, 0, none⟩) hm2).trans HM2; have HB3 : Hid (Below wr.heap.size wr w3) := HB2.out.trans (hb3.mono HB2.out.size); clear hb3) | (go_at_call 6; refine (C6.out _ HM3).mono ?_; rintro e w4 ⟨rfl, hb4⟩))
        go_ret
        exact ⟨rfl, HB3.out.trans (hb4.mono HB3.out.size)⟩
end Go.Proofs.YthcidcfaodjbjacDoor
