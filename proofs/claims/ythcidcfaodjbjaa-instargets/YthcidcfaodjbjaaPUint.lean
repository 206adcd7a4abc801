/- What a writer's Uint, Int and Text lay down. -/
import Derived.Test.YthcidcfaodjbjaaPMem
namespace Go.Proofs.Ythcidcfaodjbjaa
open Go.RowKit
set_option linter.unusedVariables false

/-- a number's bytes, seven bits each, the lowest first -/
def uintF : Nat → Nat → List UInt8
  | 0, n => [UInt8.ofNat n]
  | f + 1, n => if n < 128 then [UInt8.ofNat n] else UInt8.ofNat (n % 128 + 128) :: uintF f (n / 128)
def uintB (n : Nat) : List UInt8 := uintF 9 n

set_option maxRecDepth 100000 in
theorem uintF_low (f n : Nat) (h : n < 128) : uintF f n = [UInt8.ofNat n] := by
  cases f with
  | zero => rfl
  | succ f => unfold uintF; rw [if_pos h]
set_option maxRecDepth 100000 in
theorem uintF_high (f n : Nat) (h : ¬ n < 128) : uintF (f + 1) n = UInt8.ofNat (n % 128 + 128) :: uintF f (n / 128) := by
  conv => lhs; unfold uintF
  rw [if_neg h]
set_option maxRecDepth 100000 in
theorem uintF_len : ∀ f n, (uintF f n).length ≤ f + 1
  | 0, n => by simp [uintF]
  | f + 1, n => by
    unfold uintF
    split
    · simp
    · have := uintF_len f (n / 128); simp; omega

set_option maxRecDepth 100000 in
theorem or_128 (m : Nat) : bits .or .u8 ((m : Int) % 256) 128 = ((m % 128 + 128 : Nat) : Int) := by
  have e : (m : Int) % 256 = ((m % 256 : Nat) : Int) := by omega
  rw [e]
  have h := u8_or_nat (m % 256) 128 (by omega) (by omega)
  have e2 : m % 256 ||| 128 = m % 128 + 128 := by
    have h3 := nat_join 7 128 (m % 128) (by decide) (by omega)
    have h4 : m % 256 ||| 128 = 128 ||| m % 128 := by
      rcases Nat.lt_or_ge (m % 256) 128 with h | h
      · rw [show m % 256 = m % 128 by omega, Nat.or_comm]
      · have h5 := nat_join 7 128 (m % 128) (by decide) (by omega)
        rw [show m % 256 = 128 + m % 128 by omega, ← h5, Nat.or_comm, ← Nat.or_assoc, Nat.or_self]
    rw [h4, h3]; omega
  rw [e2] at h
  exact h

/-- what is so at each round's head: P is laid down, m is left -/
def UI (n : Nat) (L : List UInt8) (P : List UInt8) (m f : Nat) : Prop := P ++ uintF f m = uintB n ∧ m < 128 ^ (f + 1) ∧ P.length + f = 9

set_option maxRecDepth 100000 in
theorem UI.start (n : Nat) (L : List UInt8) (h : n ≤ 18446744073709551615) : UI n L [] n 9 := ⟨rfl, by omega, rfl⟩
set_option maxRecDepth 100000 in
theorem UI.step {n m f : Nat} {L P : List UInt8} (h : UI n L P m f) (hm : ¬ m < 128) : ∃ f', f = f' + 1 ∧ UI n L (P ++ [UInt8.ofNat (m % 128 + 128)]) (m / 128) f' := by
  obtain ⟨h1, h2, h3⟩ := h
  cases f with
  | zero => simp at h2; omega
  | succ f =>
    refine ⟨f, rfl, ?_, ?_, ?_⟩
    · rw [List.append_assoc, ← h1, uintF_high f m hm]; rfl
    · rw [Nat.pow_succ] at h2; omega
    · simp; omega
set_option maxRecDepth 100000 in
theorem UI.done {n m f : Nat} {L P : List UInt8} (h : UI n L P m f) (hm : m < 128) : P ++ [UInt8.ofNat m] = uintB n := by
  rw [← h.1, uintF_low f m hm]

set_option maxRecDepth 100000 in
theorem byte_of (m : Nat) (h : m < 256) : ((UInt8.ofNat m).toNat : Int) = (m : Int) := by simp [UInt8.toNat_ofNat']; omega

set_option maxRecDepth 100000 in
theorem info5 : (Try.prog.info? 5).map (fun i => (i.zero, i.size, i.bytes)) = some (some (.int .u8 0), 1, 1) := by kernel_rfl

set_option maxRecDepth 100000 in
set_option maxHeartbeats 1000000 in
theorem uint_any (pb n : Nat) (L : List UInt8) (w : World) (hn : n ≤ 18446744073709551615) (hL : L.length ≤ 1000000000) (hw : WS w pb L) :
    Calls Try.prog 38 #[.pointer (some ⟨pb, 0, none⟩), .int .u64 (n : Int)] w fun e w' => e = .returned (.tuple #[]) ∧ WS w' pb (L ++ uintB n) ∧ Below pb w w' ∧ Lib.OthersKept 5 (some pb) w w' := by
  have S : Hid _ := UI.start n L hn
  have HW : Hid _ := hw
  have hpb : pb < w.heap.size := by obtain ⟨_, _, _, _, h⟩ := hw; exact h
  clear hw
  obtain ⟨i0, hi, hz0, hz1, hz2⟩ := info_parts info5
  go_enter Try.func38, Try.ntmps38
  go_wp2
  go_loopw [1] (fun t wr => ∃ (P : List UInt8) (m f : Nat), t = .int .u64 (m : Int) ∧ m ≤ 18446744073709551615 ∧ Hid (UI n L P m f) ∧ Hid (WS wr pb (L ++ P)) ∧ Hid (Below pb w wr) ∧ Hid (Lib.OthersKept 5 (some pb) w wr)) (fun t _ => (intOf t).toNat)
  case atStart => exact ⟨[], n, 9, rfl, hn, S, by rw [List.append_nil]; exact HW, Below.refl _ _, Lib.OthersKept.refl _ _ _⟩
  case round =>
    obtain ⟨P, m, f, rfl, hm64, HU, HWr, HB, HQK⟩ := hrel
    have hlen0 : (L ++ P).length ≤ 1000000010 := by have := HU.out.2.2; simp; omega
    have hwr := HWr.out
    obtain ⟨Q, hQ⟩ : ∃ Q, L ++ P = Q := ⟨_, rfl⟩
    rw [hQ] at hlen0 hwr
    obtain ⟨v, c0, f0, o0, p0⟩ := hwr
    have HO : Hid _ := o0
    have HQ : Hid _ := hQ
    have hlen : Q.length ≤ 1000000010 := hlen0
    clear o0 hQ hlen0 HWr
    by_cases hm : m < 128
    · have HF : Hid _ := HU.out.done hm
      obtain ⟨c, hc⟩ : ∃ c, UInt8.ofNat m = c := ⟨_, rfl⟩
      have hb1 : (m : Int) = (c.toNat : Int) := by rw [← hc]; exact (byte_of m (by omega)).symm
      have HB1 : Hid _ := hb1
      have HC : Hid _ := hc
      clear hb1 hc
      go_wp2_with (at_builtin; refine wpList_append_own _ rfl _ _ 40 rfl (pb + 1) 5 i0 (.int .u8 0) 1 1 Try.underlying40 hi hz0 hz1 hz2 rfl (by decide) _ _ _ rfl (HO.out.alloc _) ⟨wr.heap.size, 0, none⟩ 1 1 (bc [c]) rfl rfl ?c1 ?c2 ?c3 ?c4 ?c5 ?_)
      case c1 =>
        intro j u hj
        match j, hj with
        | 0, hj => simp [bc] at hj; subst hj; simp [Addr.add]; have := HB1.out; omega
      case c2 => exact bc_one _
      case c3 => unfold maxLen; omega
      case c4 => omega
      case c5 => simp; omega
      · intro v' w1 hown' hgrow _
        obtain ⟨k1, k2, k3, k4, k5⟩ := WS.after (M := [c]) c0 f0 HO.out p0 ((Below.refl _ _).alloc (Nat.le_refl _) _) hown' hgrow
        obtain ⟨g, cap', rfl⟩ : ∃ g cap', v' = .slice (some ⟨g, 0, none⟩) (Q.length + 1) cap' := by
          rcases hown'.2 with ⟨_, h⟩ | ⟨g, cap', _, h, _⟩
          · omega
          · exact ⟨g, cap', h⟩
        have K6 : Hid (Lib.OthersKept 5 (some pb) w _) := HQK.out.trans (WS.kept (v' := .slice (some ⟨g, 0, none⟩) (Q.length + 1) cap') HO.out ((Below.refl _ _).alloc (Nat.le_refl _) _) hgrow)
        have K4 : Hid _ := k4
        have K5 : Hid _ := k5
        clear k4 k5 hown' hgrow c0 f0 p0
        go_wp2
        go_end0
        exact ⟨rfl, by rw [← HF.out, ← List.append_assoc, HQ.out, HC.out]; exact K4.out, HB.out.trans K5.out, K6.out⟩
    · obtain ⟨f', ef, hst⟩ := HU.out.step hm
      have HS : Hid _ := hst
      have ho := or_128 m
      obtain ⟨c, hc⟩ : ∃ c, UInt8.ofNat (m % 128 + 128) = c := ⟨_, rfl⟩
      have HB1 : Hid (((m % 128 + 128 : Nat) : Int) = (c.toNat : Int)) := by show _ = _; rw [← hc]; exact (byte_of (m % 128 + 128) (by omega)).symm
      have HC : Hid _ := hc
      clear hc
      clear hst ef
      go_wp2_with (at_builtin; refine wpList_append_own _ rfl _ _ 40 rfl (pb + 1) 5 i0 (.int .u8 0) 1 1 Try.underlying40 hi hz0 hz1 hz2 rfl (by decide) _ _ _ rfl (HO.out.alloc _) ⟨wr.heap.size, 0, none⟩ 1 1 (bc [c]) rfl rfl ?c1 ?c2 ?c3 ?c4 ?c5 ?_)
      case c1 =>
        intro j u hj
        match j, hj with
        | 0, hj => simp [bc] at hj; subst hj; simp [Addr.add]; have := HB1.out; omega
      case c2 => exact bc_one _
      case c3 => unfold maxLen; omega
      case c4 => omega
      case c5 => simp; omega
      · intro v' w1 hown' hgrow _
        obtain ⟨k1, k2, k3, k4, k5⟩ := WS.after (M := [c]) c0 f0 HO.out p0 ((Below.refl _ _).alloc (Nat.le_refl _) _) hown' hgrow
        obtain ⟨g, cap', rfl⟩ : ∃ g cap', v' = .slice (some ⟨g, 0, none⟩) (Q.length + 1) cap' := by
          rcases hown'.2 with ⟨_, h⟩ | ⟨g, cap', _, h, _⟩
          · omega
          · exact ⟨g, cap', h⟩
        have K6 : Hid (Lib.OthersKept 5 (some pb) w _) := HQK.out.trans (WS.kept (v' := .slice (some ⟨g, 0, none⟩) (Q.length + 1) cap') HO.out ((Below.refl _ _).alloc (Nat.le_refl _) _) hgrow)
        have K4 : Hid _ := k4
        have K5 : Hid _ := k5
        clear k4 k5 hown' hgrow c0 f0 p0
        go_wp2
        go_roundw
        case rel => exact ⟨P ++ [UInt8.ofNat (m % 128 + 128)], m / 128, f', by go_num, by omega, HS, by rw [← List.append_assoc, HQ.out, HC.out]; exact K4, HB.out.trans K5.out, K6⟩
        case measure => simp [intOf]; omega
end Go.Proofs.Ythcidcfaodjbjaa
