/- The document's text of a number. -/
import Derived.Test.YthcidcfaodjbjabGreatDoorNLong
import Derived.Test.YthcidcfaodjbjabGreatDoorTxA
import Derived.Test.YthcidcfaodjbjabGreatDoorNParse
namespace Go.Proofs.YthcidcfaodjbjabGreatDoor
open Go.RowKit
set_option linter.unusedVariables false

/-- what is left of a number, and the digits behind -/
def DI (U m : Nat) (L : List UInt8) : Prop := L.length ≤ 19 ∧ m < 10 ^ (19 - L.length) ∧ digsF 20 U = (if m = 0 ∧ L ≠ [] then [] else digsF (20 - L.length) m) ++ L
theorem DI.start (U : Nat) (h : U < 10 ^ 19) : DI U U [] := ⟨by simp, by simpa using h, by simp⟩
theorem DI.step {U m : Nat} {L : List UInt8} (h : DI U m L) (hm : 0 < m ∨ L = []) : DI U (m / 10) (UInt8.ofNat (48 + m % 10) :: L) := by
  obtain ⟨h1, h2, h3⟩ := h
  have hl : L.length ≤ 18 := by
    rcases hm with hm | rfl
    · rcases Nat.lt_or_ge L.length 19 with h | h
      · omega
      · have : L.length = 19 := by omega
        rw [this] at h2
        simp at h2
        omega
    · simp
  refine ⟨by simp; omega, ?_, ?_⟩
  · have e : 10 ^ (19 - L.length) = 10 ^ (19 - (UInt8.ofNat (48 + m % 10) :: L).length) * 10 := by
      rw [← Nat.pow_succ]; congr 1; simp; omega
    rw [e] at h2
    omega
  · rw [h3]
    have hc : ¬ (m = 0 ∧ L ≠ []) := by rintro ⟨a, b⟩; rcases hm with hm | hm; omega; exact b hm
    rw [if_neg hc]
    obtain ⟨g, hg⟩ : ∃ g, 20 - L.length = g + 1 := ⟨19 - L.length, by omega⟩
    have hg2 : 20 - (UInt8.ofNat (48 + m % 10) :: L).length = g := by simp; omega
    rw [hg, hg2, digsF, List.append_assoc, List.singleton_append]
    by_cases h10 : m < 10
    · rw [if_pos h10, if_pos ⟨by omega, by simp⟩]
    · rw [if_neg h10, if_neg (by rintro ⟨a, _⟩; omega)]
theorem DI.done {U : Nat} {L : List UInt8} (h : DI U 0 L) (hL : L ≠ []) : digsF 20 U = L := by
  have := h.2.2
  rw [if_pos ⟨rfl, hL⟩] at this
  simpa using this
def strE : Value → Nat
  | .string b => if b.size = 0 then 1 else 0
  | _ => 0

set_option maxRecDepth 100000 in
set_option maxHeartbeats 2000000 in
theorem rtxt_any (n : Int) (h1 : -9223372036854775808 ≤ n) (h2 : n ≤ 9223372036854775807) (w : World) : Calls Tryz.prog 30 #[.int .i64 n] w fun e w' => e = .returned (.string ⟨(text n).toArray⟩) ∧ Below w.heap.size w w' := by
  obtain ⟨U, hU⟩ : ∃ U : Nat, n.natAbs = U := ⟨_, rfl⟩
  have HZ : Hid (∀ W, Calls Tryz.prog 50 #[.int .i64 n] W fun e w' => e = .returned (.int .u64 (U : Int)) ∧ w' = W) := fun W => by rw [← hU]; exact rsize_any n h1 h2 W
  have HT : Hid (text n = (if n < 0 then [45] else []) ++ digsF 20 U) := by
    show _ = _
    unfold text
    congr 2
    rw [← hU]
    unfold mag
    split <;> omega
  have hU63 : U ≤ 9223372036854775808 := by omega
  clear hU
  go_enter Tryz.func30, Tryz.ntmps30
  go_wp2_with (go_at_call 50; refine (HZ.out _).mono ?_; rintro e w4 ⟨rfl, hw4⟩; rw [hw4]; clear hw4 w4)
  go_loopw [3, 4] (fun u s wr => ∃ (m : Nat) (L : List UInt8), u = .int .u64 (m : Int) ∧ s = .string ⟨L.toArray⟩ ∧ m ≤ 9223372036854775808 ∧ Hid (DI U m L) ∧ Hid (Below w.heap.size w wr)) (fun u s _ => (intOf u).toNat + strE s)
  case atStart => exact ⟨U, [], rfl, rfl, hU63, DI.start U (by omega), Below.refl _ _⟩
  case round =>
    obtain ⟨m, L, rfl, rfl, hm, HD, HB⟩ := hrel
    obtain ⟨S, hS⟩ : ∃ S : ByteArray, ⟨L.toArray⟩ = S := ⟨_, rfl⟩
    have HS : Hid ((⟨L.toArray⟩ : ByteArray) = S) := hS
    have hSs : S.size ≤ 19 := by rw [← hS]; exact HD.out.1
    have HSE : Hid (S.size = L.length) := by rw [← hS]; rfl
    rw [hS]
    clear hS
    by_cases hz : m = 0 ∧ L = []
    · obtain ⟨rfl, rfl⟩ := hz
      have hS0 : S = ⟨#[]⟩ := HS.out.symm
      subst hS0
      have HD2 : Hid (DI U 0 [48]) := HD.out.step (.inr rfl)
      have HLL : Hid (∀ W, Calls Tryz.prog 51 #[.int .u64 0, .int .u64 10] W fun e w' => e = .returned (.tuple #[.int .u64 0, .int .u64 0]) ∧ w' = W) := fun W => long_any 0 10 (by omega) (by omega) (by omega) W
      have hcv : (convert 35 9 (.slice (some ⟨wr.heap.size, 0, none⟩) 1 1)).run Tryz.prog (wr.alloc (Obj.cells #[Value.int .u8 48] 5)) = .ok (.string ⟨#[48]⟩) (wr.alloc (Obj.cells #[Value.int .u8 48] 5)) := by
        refine conv73 _ wr.heap.size 0 [48] 1 1 rfl (fun i hi => ?_)
        have : i = 0 := by omega
        subst this
        simp
      have HB2 : Hid (Below w.heap.size w (wr.alloc (Obj.cells #[Value.int .u8 48] 5))) := HB.out.alloc HB.out.size _
      clear HD HS HSE hSs
      go_wp2_with (first | (go_at_call 51; refine (HLL.out _).mono ?_; rintro e w4 ⟨rfl, hw4⟩; rw [hw4]; clear hw4 w4) | fail)
      go_roundw
      case rel => exact ⟨0, [48], rfl, rfl, by omega, HD2, HB2⟩
      case measure => simp [strE, intOf, ByteArray.size]
    by_cases hgo : 0 < m
    · have HL := fun W => long_any m 10 (by omega) (by omega) (by omega) W
      have HLL : Hid (∀ W, Calls Tryz.prog 51 #[.int .u64 (m : Int), .int .u64 10] W fun e w' => e = .returned (.tuple #[.int .u64 ((m / 10 : Nat) : Int), .int .u64 ((m % 10 : Nat) : Int)]) ∧ w' = W) := HL
      have HD2 : Hid (DI U (m / 10) (UInt8.ofNat (48 + m % 10) :: L)) := HD.out.step (.inl hgo)
      obtain ⟨r, hr⟩ : ∃ r, m % 10 = r := ⟨_, rfl⟩
      obtain ⟨m2, hm2⟩ : ∃ m2, m / 10 = m2 := ⟨_, rfl⟩
      have hr10 : r < 10 := by omega
      have hmm : m2 ≤ m := by omega
      have hmm2 : 0 < m → m2 < m := by omega
      rw [hr, hm2] at HLL HD2
      obtain ⟨cb, hcb⟩ : ∃ cb, UInt8.ofNat (48 + r) = cb := ⟨_, rfl⟩
      have hcn : (cb.toNat : Int) = 48 + (r : Int) := by rw [← hcb]; simp; omega
      rw [hcb] at HD2
      have HCS : Hid ((⟨#[cb]⟩ ++ S : ByteArray) = ⟨(cb :: L).toArray⟩) := by rw [← HS.out]; exact cons_str _ _
      have ec : IntKind.u8.wrap (48 + (r : Int)) = 48 + (r : Int) := by rw [IntKind.wrap_u8]; omega
      have hcv : (convert 35 9 (.slice (some ⟨wr.heap.size, 0, none⟩) 1 1)).run Tryz.prog (wr.alloc (Obj.cells #[Value.int .u8 (48 + (r : Int))] 5)) = .ok (.string ⟨#[cb]⟩) (wr.alloc (Obj.cells #[Value.int .u8 (48 + (r : Int))] 5)) := by
        refine conv73 _ wr.heap.size 0 [cb] 1 1 rfl (fun i hi => ?_)
        have : i = 0 := by omega
        subst this
        simp [hcn]
      have HB2 : Hid (Below w.heap.size w (wr.alloc (Obj.cells #[Value.int .u8 (48 + (r : Int))] 5))) := HB.out.alloc HB.out.size _
      have HME : Hid ((⟨(cb :: L).toArray⟩ : ByteArray).size ≠ 0) := by show _ ≠ _; simp [ByteArray.size]
      clear hr hm2 HL hcb hcn hz
      have e1 : decide (0 < (m : Int)) = true := by simp; omega
      go_wp2_with (first | (go_at_call 51; refine (HLL.out _).mono ?_; rintro e w4 ⟨rfl, hw4⟩; rw [hw4]; clear hw4 w4) | fail)
      go_roundw
      case rel => exact ⟨m2, cb :: L, rfl, by rw [HCS.out], by omega, HD2, HB2⟩
      case measure =>
        rw [HCS.out]
        have := hmm2 hgo
        simp only [strE, intOf, if_neg HME.out]
        omega
    · have hm00 : m = 0 := by omega
      have hLn : L ≠ [] := fun h => hz ⟨hm00, h⟩
      clear hz hgo
      subst hm00
      have e1 : decide (0 < ((0 : Nat) : Int)) = false := by simp
      have hSe : S.toList.isEmpty = false := ne_empty S (by rw [HSE.out]; exact List.length_pos_iff.2 hLn)
      have HDD : Hid (digsF 20 U = L) := HD.out.done hLn
      by_cases hn : n < 0
      · have e2 : decide (n < 0) = true := by simp [hn]
        have HF : Hid ((⟨#[45]⟩ ++ S : ByteArray) = ⟨(text n).toArray⟩) := by
          rw [← HS.out, HT.out, HDD.out, if_pos hn]
          exact cons_str 45 L
        go_wp2
        go_ret
        exact ⟨by rw [← HF.out]; rfl, HB.out⟩
      · have e2 : decide (n < 0) = false := by simp; omega
        have HF : Hid (S = ⟨(text n).toArray⟩) := by
          rw [← HS.out, HT.out, HDD.out, if_neg hn]
          rfl
        go_wp2
        go_ret
        exact ⟨by rw [← HF.out]; rfl, HB.out⟩
end Go.Proofs.YthcidcfaodjbjabGreatDoor
