/- asm.labelOf, asm.piece. -/
import Derived.Test.YthcidcfaodjbjabGreatDoorNText
import Derived.Test.YthcidcfaodjbjabGreatDoorIIns
namespace Go.Proofs.YthcidcfaodjbjabGreatDoor
open Go.RowKit
set_option linter.unusedVariables false
set_option maxRecDepth 100000

set_option maxHeartbeats 400000 in
theorem textB_any (n : Int) (h1 : -9223372036854775808 ≤ n) (h2 : n ≤ 9223372036854775807) (w : World) :
    Calls Tryz.prog 25 #[.int .i64 n] w fun e w' => e = .returned (.string ⟨(text n).toArray⟩) ∧ Below w.heap.size w w' := by
  obtain ⟨u, hu, hu19, hu63⟩ := mag_nat n h1 h2
  have HU : Hid (mag n = u) := hu
  have T0 := TI.start u (Array.replicate 20 (Value.int .u8 0)) hu19 rfl
  go_enter Tryz.func25, Tryz.ntmps25
  go_wp2_with (first | (go_at_call 47; refine (size_any _ h1 h2 _).mono ?_; rintro e w' ⟨rfl, rfl⟩))
  go_loopw [4, 5] (fun a l wr => ∃ (k m : Nat) (C : Array Value), a = .int .i64 k ∧ l = .int .u64 m ∧ wr = w.alloc (.cells C 92) ∧ TI u k m C ∧ m ≤ 9223372036854775808 ∧ 1 ≤ k ∧ k ≤ 20) (fun a _ _ => (intOf a).toNat)
  case atStart => exact ⟨20, u, _, rfl, rfl, rfl, T0, by omega, by omega, by omega⟩
  case round =>
    obtain ⟨k, m, C, rfl, rfl, rfl, hT, hm, hk1, hk2⟩ := hrel
    have HT : Hid (TI u k m C) := hT
    clear hT T0
    by_cases hc : 0 < m ∨ k = 20
    · have hs := HT.out.step hc
      have hk := hs.1
      have HS : Hid _ := hs.2
      have hsz := HT.out.2.2.2.1
      clear hs
      obtain ⟨v0, hv0⟩ : ∃ v, C[k - 1]? = some v := ⟨C[k - 1]'(by omega), Array.getElem?_eq_getElem (by omega)⟩
      by_cases hm0 : 0 < m
      all_goals
        go_wp2
        go_roundw
        case rel => exact ⟨k - 1, m / 10, _, by go_num, by go_num, rfl, HS.out, by omega, by omega, by omega⟩
        case measure => simp [intOf]; omega
    · have hm0 : m = 0 := by omega
      subst hm0
      have hk : k < 20 := by omega
      have hd := HT.out.done hk
      have hlen := hd.1
      have HD : Hid _ := hd.2
      have hsz := HT.out.2.2.2.1
      clear hd
      obtain ⟨v0, hv0⟩ : ∃ v, C[k - 1]? = some v := ⟨C[k - 1]'(by omega), Array.getElem?_eq_getElem (by omega)⟩
      have eu : (mag n).toNat = u := by have := HU.out; omega
      by_cases hn : n < 0
      · go_wp2
        have et : text n = 45 :: digsF 20 u := by unfold text; rw [if_pos hn, eu]; rfl
        rw [slice123 _ _ (k - 1) _ (by omega) (by omega)]
        go_wp2
        rw [conv73 _ _ _ (45 :: digsF 20 u) _ _ (by simp; omega) ?hc]
        · go_wp2
          go_ret
          exact ⟨by rw [et]; rfl, (Below.refl _ _).alloc (Nat.le_refl _) _⟩
        case hc =>
          intro i hi
          rw [World.cell?_alloc_new, Array.getElem?_setIfInBounds]
          rcases i with _ | i
          · rw [if_pos (by omega), if_pos (by omega)]
            rfl
          · rw [if_neg (by omega), show k - 1 + (i + 1) = k + i by omega]
            exact HD.out i (by omega)
      · go_wp2
        have et : text n = digsF 20 u := by unfold text; rw [if_neg (by omega), eu]; rfl
        rw [slice123 _ _ k _ (by omega) (by omega)]
        go_wp2
        rw [conv73 _ _ _ (digsF 20 u) _ _ (by omega) ?hc]
        · go_wp2
          go_ret
          exact ⟨by rw [et]; rfl, (Below.refl _ _).alloc (Nat.le_refl _) _⟩
        case hc =>
          intro i hi
          rw [World.cell?_alloc_new]
          exact HD.out i (by omega)

/-- a label of a place -/
def labelT (n : Int) : List UInt8 := 108 :: text n
/-- a part of an instruction, written -/
def pieceT (x : In) (c : UInt8) : List UInt8 :=
  if c = 97 then 114 :: text x.a else if c = 98 then 114 :: text x.b else if c = 99 then 114 :: text x.c else if c = 114 then text x.c else if c = 108 then labelT x.k else text x.k
theorem cons_str (b : UInt8) (l : List UInt8) : (⟨#[b]⟩ ++ ⟨l.toArray⟩ : ByteArray) = ⟨(b :: l).toArray⟩ := by
  apply ByteArray.ext
  simp
theorem digsF_len : ∀ f u : Nat, (digsF f u).length ≤ f + 1
  | 0, u => by unfold digsF; simp
  | f + 1, u => by
    have := digsF_len f (u / 10)
    unfold digsF
    split <;> simp <;> omega
theorem text_len (n : Int) : (text n).length ≤ 22 := by
  unfold text
  have := digsF_len 20 (mag n).toNat
  split <;> simp <;> omega

set_option maxHeartbeats 1000000 in
theorem labelOf_any (n : Int) (h1 : -9223372036854775808 ≤ n) (h2 : n ≤ 9223372036854775807) (w : World) : Calls Tryz.prog 10 #[.int .i64 n] w fun e w' => e = .returned (.string ⟨(labelT n).toArray⟩) ∧ Below w.heap.size w w' := by
  have HT : Hid (∀ W, Calls Tryz.prog 25 #[.int .i64 n] W fun e w' => e = .returned (.string ⟨(text n).toArray⟩) ∧ Below W.heap.size W w') := fun W => textB_any n h1 h2 W
  have hl := text_len n
  obtain ⟨S, hS⟩ : ∃ S : ByteArray, ⟨(text n).toArray⟩ = S := ⟨_, rfl⟩
  have hSs : S.size ≤ 22 := by rw [← hS]; exact hl
  have HC : Hid ((⟨#[108]⟩ ++ S : ByteArray) = ⟨(labelT n).toArray⟩) := by rw [← hS]; exact cons_str 108 (text n)
  rw [hS] at HT
  rw [← HC.out]
  clear hS hl
  go_enter Tryz.func10, Tryz.ntmps10
  go_wp2_with (go_at_call 25; refine (HT.out _).mono ?_; rintro e w1 ⟨rfl, hb⟩)
  go_ret
  exact ⟨rfl, hb⟩
/-- an instruction whose numbers are words -/
structure InW (x : In) : Prop where
  a : -9223372036854775808 ≤ x.a ∧ x.a ≤ 9223372036854775807
  b : -9223372036854775808 ≤ x.b ∧ x.b ≤ 9223372036854775807
  c : -9223372036854775808 ≤ x.c ∧ x.c ≤ 9223372036854775807
  k : -9223372036854775808 ≤ x.k ∧ x.k ≤ 9223372036854775807

set_option maxHeartbeats 2000000 in
theorem piece_any (x : In) (hx : InW x) (c : UInt8) (w : World) : Calls Tryz.prog 26 #[iv x, .int .i32 (c.toNat : Int)] w fun e w' => e = .returned (.string ⟨(pieceT x c).toArray⟩) ∧ Below w.heap.size w w' := by
  have HT : Hid (∀ n : Int, -9223372036854775808 ≤ n ∧ n ≤ 9223372036854775807 → ∀ W, Calls Tryz.prog 25 #[.int .i64 n] W fun e w' => e = .returned (.string ⟨(text n).toArray⟩) ∧ Below W.heap.size W w') := fun n hn W => textB_any n hn.1 hn.2 W
  have HL : Hid (∀ n : Int, -9223372036854775808 ≤ n ∧ n ≤ 9223372036854775807 → ∀ W, Calls Tryz.prog 10 #[.int .i64 n] W fun e w' => e = .returned (.string ⟨(labelT n).toArray⟩) ∧ Below W.heap.size W w') := fun n hn W => labelOf_any n hn.1 hn.2 W
  obtain ⟨xk, xo, xa, xb, xc, xz⟩ := x
  obtain ⟨ha, hb, hc, hk⟩ := hx
  dsimp only at ha hb hc hk
  have B0 : Hid (∀ o, Below w.heap.size w (w.alloc o)) := fun o => (Below.refl _ _).alloc (Nat.le_refl _) o
  unfold iv
  by_cases c1 : c = 97
  · subst c1
    obtain ⟨S, hS⟩ : ∃ S : ByteArray, ⟨(text xa).toArray⟩ = S := ⟨_, rfl⟩
    have hSs : S.size ≤ 22 := by rw [← hS]; exact text_len xa
    have HC : Hid ((⟨#[114]⟩ ++ S : ByteArray) = ⟨(pieceT ⟨xk, xo, xa, xb, xc, xz⟩ 97).toArray⟩) := by rw [← hS]; exact cons_str 114 (text xa)
    rw [← HC.out]
    have HT2 : Hid (∀ W, Calls Tryz.prog 25 #[.int .i64 xa] W fun e w' => e = .returned (.string S) ∧ Below W.heap.size W w') := fun W => by rw [← hS]; exact HT.out xa ha W
    clear hS HC
    go_enter Tryz.func26, Tryz.ntmps26
    go_wp2_with (go_at_call 25; refine (HT2.out _).mono ?_; rintro e w1 ⟨rfl, hb1⟩)
    go_ret
    exact ⟨rfl, (B0.out _).trans (hb1.mono (B0.out _).size)⟩
  by_cases c2 : c = 98
  · subst c2
    obtain ⟨S, hS⟩ : ∃ S : ByteArray, ⟨(text xb).toArray⟩ = S := ⟨_, rfl⟩
    have hSs : S.size ≤ 22 := by rw [← hS]; exact text_len xb
    have HC : Hid ((⟨#[114]⟩ ++ S : ByteArray) = ⟨(pieceT ⟨xk, xo, xa, xb, xc, xz⟩ 98).toArray⟩) := by rw [← hS]; exact cons_str 114 (text xb)
    rw [← HC.out]
    have HT2 : Hid (∀ W, Calls Tryz.prog 25 #[.int .i64 xb] W fun e w' => e = .returned (.string S) ∧ Below W.heap.size W w') := fun W => by rw [← hS]; exact HT.out xb hb W
    clear hS HC
    go_enter Tryz.func26, Tryz.ntmps26
    go_wp2_with (go_at_call 25; refine (HT2.out _).mono ?_; rintro e w1 ⟨rfl, hb1⟩)
    go_ret
    exact ⟨rfl, (B0.out _).trans (hb1.mono (B0.out _).size)⟩
  by_cases c3 : c = 99
  · subst c3
    obtain ⟨S, hS⟩ : ∃ S : ByteArray, ⟨(text xc).toArray⟩ = S := ⟨_, rfl⟩
    have hSs : S.size ≤ 22 := by rw [← hS]; exact text_len xc
    have HC : Hid ((⟨#[114]⟩ ++ S : ByteArray) = ⟨(pieceT ⟨xk, xo, xa, xb, xc, xz⟩ 99).toArray⟩) := by rw [← hS]; exact cons_str 114 (text xc)
    rw [← HC.out]
    have HT2 : Hid (∀ W, Calls Tryz.prog 25 #[.int .i64 xc] W fun e w' => e = .returned (.string S) ∧ Below W.heap.size W w') := fun W => by rw [← hS]; exact HT.out xc hc W
    clear hS HC
    go_enter Tryz.func26, Tryz.ntmps26
    go_wp2_with (go_at_call 25; refine (HT2.out _).mono ?_; rintro e w1 ⟨rfl, hb1⟩)
    go_ret
    exact ⟨rfl, (B0.out _).trans (hb1.mono (B0.out _).size)⟩
  by_cases c4 : c = 114
  · subst c4
    have HT2 : Hid (∀ W, Calls Tryz.prog 25 #[.int .i64 xc] W fun e w' => e = .returned (.string ⟨(pieceT ⟨xk, xo, xa, xb, xc, xz⟩ 114).toArray⟩) ∧ Below W.heap.size W w') := fun W => HT.out xc hc W
    generalize pieceT ⟨xk, xo, xa, xb, xc, xz⟩ 114 = P at *
    go_enter Tryz.func26, Tryz.ntmps26
    go_wp2_with (go_at_call 25; refine (HT2.out _).mono ?_; rintro e w1 ⟨rfl, hb1⟩)
    go_ret
    exact ⟨rfl, (B0.out _).trans (hb1.mono (B0.out _).size)⟩
  by_cases c5 : c = 108
  · subst c5
    have HT2 : Hid (∀ W, Calls Tryz.prog 10 #[.int .i64 xz] W fun e w' => e = .returned (.string ⟨(pieceT ⟨xk, xo, xa, xb, xc, xz⟩ 108).toArray⟩) ∧ Below W.heap.size W w') := fun W => HL.out xz hk W
    generalize pieceT ⟨xk, xo, xa, xb, xc, xz⟩ 108 = P at *
    go_enter Tryz.func26, Tryz.ntmps26
    go_wp2_with (go_at_call 10; refine (HT2.out _).mono ?_; rintro e w1 ⟨rfl, hb1⟩)
    go_ret
    exact ⟨rfl, (B0.out _).trans (hb1.mono (B0.out _).size)⟩
  · have HT2 : Hid (∀ W, Calls Tryz.prog 25 #[.int .i64 xz] W fun e w' => e = .returned (.string ⟨(pieceT ⟨xk, xo, xa, xb, xc, xz⟩ c).toArray⟩) ∧ Below W.heap.size W w') := fun W => by
      have : pieceT ⟨xk, xo, xa, xb, xc, xz⟩ c = text xz := by unfold pieceT; rw [if_neg c1, if_neg c2, if_neg c3, if_neg c4, if_neg c5]
      rw [this]
      exact HT.out xz hk W
    generalize pieceT ⟨xk, xo, xa, xb, xc, xz⟩ c = P at *
    have hne : ∀ b : UInt8, c ≠ b → ((c.toNat : Int) == (b.toNat : Int)) = false := fun b hb => by
      have : c.toNat ≠ b.toNat := fun e => hb (UInt8.toNat_inj.1 e)
      simp; omega
    have d1 : ((c.toNat : Int) == 97) = false := hne 97 c1
    have d2 : ((c.toNat : Int) == 98) = false := hne 98 c2
    have d3 : ((c.toNat : Int) == 99) = false := hne 99 c3
    have d4 : ((c.toNat : Int) == 114) = false := hne 114 c4
    have d5 : ((c.toNat : Int) == 108) = false := hne 108 c5
    clear c1 c2 c3 c4 c5 hne
    generalize (c.toNat : Int) = ci at *
    go_enter Tryz.func26, Tryz.ntmps26
    go_wp2_with (go_at_call 25; refine (HT2.out _).mono ?_; rintro e w1 ⟨rfl, hb1⟩)
    go_ret
    exact ⟨rfl, (B0.out _).trans (hb1.mono (B0.out _).size)⟩
end Go.Proofs.YthcidcfaodjbjabGreatDoor
