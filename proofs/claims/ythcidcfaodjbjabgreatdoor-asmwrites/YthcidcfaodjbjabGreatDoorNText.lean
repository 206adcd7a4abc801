/- What num.Text and num.size answer, in whatever world. -/
import Derived.Test.YthcidcfaodjbjabGreatDoorRows
import Derived.Test.YthcidcfaodjbjabGreatDoorNPlain
import Derived.WalkKit
import Derived.WalkSpells
import Derived.WalkLawsBesides
import Derived.Handy
import Derived.Laws.BytesArg
namespace Go.Proofs.YthcidcfaodjbjabGreatDoor
open Go.RowKit
set_option maxRecDepth 100000

set_option maxHeartbeats 400000 in
theorem size_any (n : Int) (h1 : -9223372036854775808 ≤ n) (h2 : n ≤ 9223372036854775807) (w : World) :
    Calls Tryz.prog 47 #[.int .i64 n] w fun e w' => e = .returned (.int .u64 (mag n)) ∧ w' = w := by
  by_cases h : n < 0
  · go_enter Tryz.func47, Tryz.ntmps47
    go_wp2
    go_ret
    exact ⟨by unfold mag; simp [h]; go_arith, rfl⟩
  · go_enter Tryz.func47, Tryz.ntmps47
    go_wp2
    go_ret
    exact ⟨by unfold mag; rw [if_neg (by omega)]; rfl, rfl⟩

theorem mag_nat (n : Int) (h1 : -9223372036854775808 ≤ n) (h2 : n ≤ 9223372036854775807) : ∃ u : Nat, mag n = u ∧ u < 10 ^ 19 ∧ u ≤ 9223372036854775808 := by
  refine ⟨(mag n).toNat, ?_, ?_, ?_⟩ <;> unfold mag <;> split <;> omega

theorem al123 : Tryz.prog.arrayLen 92 = 20 := by kernel_rfl
theorem el123 : Tryz.prog.elem 92 = 5 := by kernel_rfl
theorem sz5 (w : World) : (sizeOf 5).run Tryz.prog w = .ok 1 w := by kernel_rfl

theorem slice123 (W : World) (b k : Nat) (l : Int) (hl : l = k) (hk : k < 20) :
    (Instr.sliceAt 92 (.pointer (some ⟨b, 0, none⟩)) (some (.int .i64 l)) none none).run Tryz.prog W = .ok (.slice (some ⟨b, k, none⟩) (20 - k) (20 - k)) W := by
  subst hl
  rw [run_sliceAt_array_l (P := Tryz.prog) W 92 ⟨b, 0, none⟩ (by kernel_rfl) .i64 k (by omega) (by rw [al123]; omega), al123, el123, sz5]
  have e : ¬ (20 = k) := by omega
  simp [slicedAt, Addr.add, Result.andThen, e]
  omega

theorem str_of (L : List UInt8) : strOfNums (L.map fun c => (c.toNat : Int)) = ⟨L.toArray⟩ := by
  apply ByteArray.ext
  apply Array.toList_inj.1
  rw [strOfNums_data, List.map_map]
  show _ = L
  conv => rhs; rw [← List.map_id L]
  apply List.map_congr_left
  intro x _
  simp

theorem conv73 (W : World) (b off : Nat) (L : List UInt8) (c n : Nat) (hn : n = L.length) (h : ∀ i, i < n → W.cell? ⟨b, off + i, none⟩ = some (.int .u8 ((L.map fun c => (c.toNat : Int)).getD i 0))) :
    (convert 35 9 (.slice (some ⟨b, off, none⟩) n c)).run Tryz.prog W = .ok (.string ⟨L.toArray⟩) W := by
  rw [run_convert_bytes_arg W 35 5 (by kernel_rfl) (by kernel_rfl) b off n c (L.map fun c => (c.toNat : Int)) (by simp [hn]) h 9 (by kernel_rfl), str_of]

set_option maxHeartbeats 400000 in
theorem text_any (n : Int) (h1 : -9223372036854775808 ≤ n) (h2 : n ≤ 9223372036854775807) (w : World) :
    Calls Tryz.prog 25 #[.int .i64 n] w fun e w' => e = .returned (.string ⟨(text n).toArray⟩) ∧ Grown w w' := by
  obtain ⟨u, hu, hu19, hu63⟩ := mag_nat n h1 h2
  have HU : Hid (mag n = u) := hu
  have T0 := TI.start u (Array.replicate 20 (Value.int .u8 0)) hu19 rfl
  go_enter Tryz.func25, Tryz.ntmps25
  go_wp2_with (first | (go_at_call 47; refine (size_any _ h1 h2 _).mono ?_; rintro e w' ⟨rfl, rfl⟩))
  go_loopw [4, 5] (fun a l wr => ∃ (k m : Nat) (C : Array Value), a = .int .i64 k ∧ l = .int .u64 m ∧ wr = w.alloc (.cells C 92) ∧ TI u k m C ∧ m ≤ 9223372036854775808 ∧ 1 ≤ k ∧ k ≤ 20) (fun a _ _ => (intOf a).toNat)
  case atStart => exact ⟨20, u, _, rfl, rfl, rfl, T0, by omega, by omega, by omega⟩
  case round =>
    obtain ⟨k, m, C, rfl, rfl, rfl, hT, hm, hk1, hk2⟩ := hrel
    have HT : Hid (TI u k m C) := hT
    clear hT T0
    by_cases hc : 0 < m ∨ k = 20
    · have hs := HT.out.step hc
      have hk := hs.1
      have HS : Hid _ := hs.2
      have hsz := HT.out.2.2.2.1
      clear hs
      obtain ⟨v0, hv0⟩ : ∃ v, C[k - 1]? = some v := ⟨C[k - 1]'(by omega), Array.getElem?_eq_getElem (by omega)⟩
      by_cases hm0 : 0 < m
      all_goals
        go_wp2
        go_roundw
        case rel => exact ⟨k - 1, m / 10, _, by go_num, by go_num, rfl, HS.out, by omega, by omega, by omega⟩
        case measure => simp [intOf]; omega
    · have hm0 : m = 0 := by omega
      subst hm0
      have hk : k < 20 := by omega
      have hd := HT.out.done hk
      have hlen := hd.1
      have HD : Hid _ := hd.2
      have hsz := HT.out.2.2.2.1
      clear hd
      obtain ⟨v0, hv0⟩ : ∃ v, C[k - 1]? = some v := ⟨C[k - 1]'(by omega), Array.getElem?_eq_getElem (by omega)⟩
      have eu : (mag n).toNat = u := by have := HU.out; omega
      by_cases hn : n < 0
      · go_wp2
        have et : text n = 45 :: digsF 20 u := by unfold text; rw [if_pos hn, eu]; rfl
        rw [slice123 _ _ (k - 1) _ (by omega) (by omega)]
        go_wp2
        rw [conv73 _ _ _ (45 :: digsF 20 u) _ _ (by simp; omega) ?hc]
        · go_wp2
          go_ret
          exact ⟨by rw [et]; rfl, by go_grown⟩
        case hc =>
          intro i hi
          rw [World.cell?_alloc_new, Array.getElem?_setIfInBounds]
          rcases i with _ | i
          · rw [if_pos (by omega), if_pos (by omega)]
            rfl
          · rw [if_neg (by omega), show k - 1 + (i + 1) = k + i by omega]
            exact HD.out i (by omega)
      · go_wp2
        have et : text n = digsF 20 u := by unfold text; rw [if_neg (by omega), eu]; rfl
        rw [slice123 _ _ k _ (by omega) (by omega)]
        go_wp2
        rw [conv73 _ _ _ (digsF 20 u) _ _ (by omega) ?hc]
        · go_wp2
          go_ret
          exact ⟨by rw [et]; rfl, by go_grown⟩
        case hc =>
          intro i hi
          rw [World.cell?_alloc_new]
          exact HD.out i (by omega)
end Go.Proofs.YthcidcfaodjbjabGreatDoor
