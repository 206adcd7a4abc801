/- What pack.Open answers of any bytes. -/
import Derived.Test.YtjdcoiekbnefkacAlive
namespace Go.Proofs.Ytjdcoiekbnefkac
open Go.RowKit
set_option linter.unusedVariables false

/-- the error that Open tells of bytes; 0: they are a seal -/
def openE (B : List UInt8) : Nat :=
  if B.length < 16 then 20
  else if B.take 4 ≠ outr ∨ lowN ((B.drop 4).take 4) ≠ B.length - 16 ∨ 1048576 < B.length - 16 then 21
  else if lowN ((B.drop 8).take 8) ≠ sumB (B.drop 16) then 22 else 0
/-- the body that it tells -/
def openB (B : List UInt8) : List UInt8 := if openE B = 0 then B.drop 16 else []
def OpenPost (w : World) (B : List UInt8) (e : Ending) (w' : World) : Prop := ∃ v', e = .returned (.tuple #[v', .int .i64 (openE B : Nat)]) ∧ Rd w' v' (openB B) ∧ Below w.heap.size w w'

theorem openB_bad {B : List UInt8} {x : Nat} (h : openE B = x) (hx : x ≠ 0) : openB B = [] := by unfold openB; rw [if_neg (by rw [h]; exact hx)]

set_option maxHeartbeats 400000 in
theorem open_short (a : Option Addr) (n c : Nat) (B : List UInt8) (w : World) (hn : n < 16) (hB : Hid (B.length = n)) :
    Calls Try.prog 27 #[.slice a n c] w fun e w' => OpenPost w B e w' := by
  have HE : Hid (openE B = 20) := by show _ = _; unfold openE; rw [if_pos (by rw [hB.out]; exact hn)]
  go_enter Try.func27, Try.ntmps27
  go_wp2
  go_ret2
  exact ⟨_, by rw [HE.out]; rfl, Or.inl ⟨rfl, openB_bad HE.out (by decide)⟩, Below.refl _ _⟩

/-- a part of a slice that is read -/
theorem part_cells {w : World} {b off : Nat} {B : List UInt8} (hc : ∀ i (h : i < B.length), w.cell? ⟨b, off + i, none⟩ = some (.int .u8 (B[i].toNat : Int))) (o n : Nat) (h : o + n ≤ B.length) :
    ((B.drop o).take n).length = n ∧ ∀ i (h : i < ((B.drop o).take n).length), w.cell? ⟨b, off + o + i, none⟩ = some (.int .u8 ((((B.drop o).take n)[i]).toNat : Int)) := by
  have hl : ((B.drop o).take n).length = n := by simp; omega
  refine ⟨hl, fun i hi => ?_⟩
  rw [Nat.add_assoc, hc (o + i) (by omega)]
  simp

set_option maxRecDepth 100000 in
set_option maxHeartbeats 2000000 in
theorem open_head (b off n c : Nat) (B : List UInt8) (w : World) (hn : 16 ≤ n) (hnc : n ≤ c) (hcm : c ≤ maxLen) (hB : Hid (B.length = n)) (hc : Hid (∀ i (h : i < B.length), w.cell? ⟨b, off + i, none⟩ = some (.int .u8 (B[i].toNat : Int)))) (hb : b < w.heap.size)
    (hbad : Hid (B.take 4 ≠ outr)) :
    Calls Try.prog 27 #[.slice (some ⟨b, off, none⟩) n c] w fun e w' => OpenPost w B e w' := by
  have HE : Hid (openE B = 21) := by show _ = _; unfold openE; rw [if_neg (by rw [hB.out]; omega), if_pos (Or.inl hbad.out)]
  obtain ⟨p4, q4⟩ := part_cells hc.out 0 4 (by rw [hB.out]; omega)
  obtain ⟨S, hS⟩ : ∃ S : ByteArray, (⟨((B.drop 0).take 4).toArray⟩ : ByteArray) = S := ⟨_, rfl⟩
  have r4 : (convert 26 9 (.slice (some ⟨b, off, none⟩) 4 c)).run Try.prog w = .ok (.string S) w := by
    rw [← hS]
    have hr : Rd w (.slice (some ⟨b, off, none⟩) 4 c) ((B.drop 0).take 4) := Or.inr ⟨b, off, c, by rw [p4], by rw [p4]; omega, hcm, hb, q4⟩
    exact hr.str
  have hs : (S.toList == [111, 117, 116, 114]) = false := by
    rw [← hS, ByteArray.toList_eq]
    have := hbad.out
    simp only [beq_eq_false_iff_ne, ne_eq]
    exact this
  unfold maxLen at hcm
  clear p4 q4 hS
  by_cases h16 : c = 16
  · subst h16
    obtain rfl : n = 16 := by omega
    go_enter Try.func27, Try.ntmps27
    go_wp2
    go_ret2
    exact ⟨_, by rw [HE.out]; rfl, Or.inl ⟨rfl, openB_bad HE.out (by decide)⟩, Below.refl _ _⟩
  · go_enter Try.func27, Try.ntmps27
    go_wp2
    go_ret2
    exact ⟨_, by rw [HE.out]; rfl, Or.inl ⟨rfl, openB_bad HE.out (by decide)⟩, Below.refl _ _⟩

theorem from16 (v : Value) (B : List UInt8) (w : World) (base : Nat) (hB : 16 ≤ B.length) (h : Own w base v B) :
    Calls Try.prog 46 #[v, .int .i64 16] w fun e w' => (∃ v', e = .returned v' ∧ Rd w v' (B.drop 16)) ∧ w' = w := by
  have hr := h.rd
  rcases hr with ⟨rfl, rfl⟩ | ⟨b, off, cap, rfl, e2, e2', e3, e4⟩
  · simp at hB
  · refine (from_some b off B.length cap 16 w hB e2 e2').mono ?_
    rintro e w' ⟨rfl, rfl⟩
    obtain ⟨p1, q1⟩ := part_cells e4 16 (B.length - 16) (by omega)
    have eb : (B.drop 16).take (B.length - 16) = B.drop 16 := List.take_of_length_le (by rw [List.length_drop]; exact Nat.le_refl _)
    rw [eb] at p1 q1
    refine ⟨⟨_, rfl, ?_⟩, rfl⟩
    by_cases hl : B.length = 16
    · rw [if_pos hl]
      right
      refine ⟨b, off, B.length - 16, by rw [p1], by rw [p1]; exact Nat.le_refl _, by omega, e3, fun i hi => ?_⟩
      rw [p1] at hi; omega
    · rw [if_neg hl]
      right
      exact ⟨b, off + 16, B.length - 16, by rw [p1], by rw [p1]; exact Nat.le_refl _, by omega, e3, q1⟩

theorem low_is (b off k cap x : Nat) (L : List UInt8) (w : World) (hk : L.length = k) (h8 : k ≤ 8) (hcap : k ≤ cap) (hm : cap ≤ maxLen) (hx : Hid (lowN L = x)) (hc : Hid (∀ i (h : i < L.length), w.cell? ⟨b, off + i, none⟩ = some (.int .u8 (L[i].toNat : Int)))) :
    Calls Try.prog 49 #[.slice (some ⟨b, off, none⟩) k cap] w fun e w' => e = .returned (.int .u64 (x : Int)) ∧ w' = w := by
  subst hk
  rw [← hx.out]
  exact low_any b off cap L w h8 hcap hm hc
theorem sum_is (v : Value) (L : List UInt8) (x : Nat) (w : World) (hx : Hid (sumB L = x)) (h : Rd w v L) :
    Calls Try.prog 29 #[v] w fun e w' => e = .returned (.int .u64 (x : Int)) ∧ w' = w := by
  rw [← hx.out]; exact sum_any v L w h

set_option maxRecDepth 100000 in
set_option maxHeartbeats 2000000 in
theorem open_len (b off n c x : Nat) (B : List UInt8) (w : World) (hn : 16 ≤ n) (hnc : n ≤ c) (hcm : c ≤ maxLen) (hB : Hid (B.length = n)) (hc : Hid (∀ i (h : i < B.length), w.cell? ⟨b, off + i, none⟩ = some (.int .u8 (B[i].toNat : Int)))) (hb : b < w.heap.size)
    (hok : Hid (B.take 4 = outr)) (hx : Hid (lowN ((B.drop 4).take 4) = x)) (hbad : ¬ x = n - 16) :
    Calls Try.prog 27 #[.slice (some ⟨b, off, none⟩) n c] w fun e w' => OpenPost w B e w' := by
  have HE : Hid (openE B = 21) := by show _ = _; unfold openE; rw [if_neg (by rw [hB.out]; omega), if_pos (Or.inr (Or.inl (by rw [hx.out, hB.out]; exact hbad)))]
  have hcm' := hcm
  obtain ⟨p4, q4⟩ := part_cells hc.out 0 4 (by rw [hB.out]; omega)
  obtain ⟨p8, q8⟩ := part_cells hc.out 4 4 (by rw [hB.out]; omega)
  obtain ⟨p16, q16⟩ := part_cells hc.out 8 8 (by rw [hB.out]; omega)
  obtain ⟨pb, qb⟩ := part_cells hc.out 16 (n - 16) (by rw [hB.out]; omega)
  have eb : (B.drop 16).take (n - 16) = B.drop 16 := List.take_of_length_le (by rw [List.length_drop, hB.out]; exact Nat.le_refl _)
  rw [eb] at pb qb
  have Q8 : Hid _ := q8
  have Q16 : Hid _ := q16
  have QB : Hid _ := qb
  obtain ⟨S, hS⟩ : ∃ S : ByteArray, (⟨((B.drop 0).take 4).toArray⟩ : ByteArray) = S := ⟨_, rfl⟩
  have r4 : (convert 26 9 (.slice (some ⟨b, off, none⟩) 4 c)).run Try.prog w = .ok (.string S) w := by
    rw [← hS]
    have hr : Rd w (.slice (some ⟨b, off, none⟩) 4 c) ((B.drop 0).take 4) := Or.inr ⟨b, off, c, by rw [p4], by rw [p4]; omega, hcm, hb, q4⟩
    exact hr.str
  have hs : (S.toList == [111, 117, 116, 114]) = true := by
    rw [← hS, ByteArray.toList_eq]
    have := hok.out
    simp only [beq_iff_eq]
    exact this
  have PB : Hid _ := pb
  have P8 : Hid _ := p8
  have P16 : Hid _ := p16
  have HM : Hid (c ≤ maxLen) := hcm
  have HM4 : Hid (c - 4 ≤ maxLen) := by show _ ≤ _; unfold maxLen at hcm ⊢; omega
  have HM8 : Hid (c - 8 ≤ maxLen) := by show _ ≤ _; unfold maxLen at hcm ⊢; omega
  unfold maxLen at hcm
  clear p4 q4 hS q8 q16 qb eb pb p8 p16 hcm'
  by_cases h16 : c = 16
  · subst h16
    obtain rfl : n = 16 := by omega
    have HRB : Hid (Rd w (.slice (some ⟨b, off, none⟩) (16 - 16) (16 - 16)) (B.drop 16)) := by
      right
      refine ⟨b, off, 0, by rw [PB.out], by rw [PB.out]; omega, by unfold maxLen; omega, hb, fun i hi => ?_⟩
      rw [PB.out] at hi; omega
    go_enter Try.func27, Try.ntmps27
    go_wp2_with fail
    refine (low_is b (off + 4) 4 _ x _ w P8.out (by omega) (by omega) HM4.out hx Q8.out).mono ?_
    rintro e w' ⟨rfl, hw⟩
    rw [hw]
    clear hw w'
    go_wp2
    go_ret2
    exact ⟨_, by rw [HE.out]; rfl, Or.inl ⟨rfl, openB_bad HE.out (by decide)⟩, Below.refl _ _⟩
  · have HRB : Hid (Rd w (.slice (some ⟨b, off + 16, none⟩) (n - 16) (c - 16)) (B.drop 16)) := by
      right
      exact ⟨b, off + 16, c - 16, by rw [PB.out], by rw [PB.out]; omega, by unfold maxLen; omega, hb, QB.out⟩
    go_enter Try.func27, Try.ntmps27
    go_wp2_with fail
    refine (low_is b (off + 4) 4 _ x _ w P8.out (by omega) (by omega) HM4.out hx Q8.out).mono ?_
    rintro e w' ⟨rfl, hw⟩
    rw [hw]
    clear hw w'
    go_wp2
    go_ret2
    exact ⟨_, by rw [HE.out]; rfl, Or.inl ⟨rfl, openB_bad HE.out (by decide)⟩, Below.refl _ _⟩

set_option maxRecDepth 100000 in
set_option maxHeartbeats 2000000 in
theorem open_big (b off n c x : Nat) (B : List UInt8) (w : World) (hn : 16 ≤ n) (hnc : n ≤ c) (hcm : c ≤ maxLen) (hB : Hid (B.length = n)) (hc : Hid (∀ i (h : i < B.length), w.cell? ⟨b, off + i, none⟩ = some (.int .u8 (B[i].toNat : Int)))) (hb : b < w.heap.size)
    (hok : Hid (B.take 4 = outr)) (hx : Hid (lowN ((B.drop 4).take 4) = x)) (heq : Hid (x = n - 16)) (hbad : 1048576 < n - 16) :
    Calls Try.prog 27 #[.slice (some ⟨b, off, none⟩) n c] w fun e w' => OpenPost w B e w' := by
  have HE : Hid (openE B = 21) := by show _ = _; unfold openE; rw [if_neg (by rw [hB.out]; omega), if_pos (Or.inr (Or.inr (by rw [hB.out]; exact hbad)))]
  have hx1 : x ≤ n - 16 := by have := heq.out; omega
  have hx2 : n - 16 ≤ x := by have := heq.out; omega
  have hcm' := hcm
  obtain ⟨p4, q4⟩ := part_cells hc.out 0 4 (by rw [hB.out]; omega)
  obtain ⟨p8, q8⟩ := part_cells hc.out 4 4 (by rw [hB.out]; omega)
  obtain ⟨p16, q16⟩ := part_cells hc.out 8 8 (by rw [hB.out]; omega)
  obtain ⟨pb, qb⟩ := part_cells hc.out 16 (n - 16) (by rw [hB.out]; omega)
  have eb : (B.drop 16).take (n - 16) = B.drop 16 := List.take_of_length_le (by rw [List.length_drop, hB.out]; exact Nat.le_refl _)
  rw [eb] at pb qb
  have Q8 : Hid _ := q8
  have Q16 : Hid _ := q16
  have QB : Hid _ := qb
  obtain ⟨S, hS⟩ : ∃ S : ByteArray, (⟨((B.drop 0).take 4).toArray⟩ : ByteArray) = S := ⟨_, rfl⟩
  have r4 : (convert 26 9 (.slice (some ⟨b, off, none⟩) 4 c)).run Try.prog w = .ok (.string S) w := by
    rw [← hS]
    have hr : Rd w (.slice (some ⟨b, off, none⟩) 4 c) ((B.drop 0).take 4) := Or.inr ⟨b, off, c, by rw [p4], by rw [p4]; omega, hcm, hb, q4⟩
    exact hr.str
  have hs : (S.toList == [111, 117, 116, 114]) = true := by
    rw [← hS, ByteArray.toList_eq]
    have := hok.out
    simp only [beq_iff_eq]
    exact this
  have PB : Hid _ := pb
  have P8 : Hid _ := p8
  have P16 : Hid _ := p16
  have HM : Hid (c ≤ maxLen) := hcm
  have HM4 : Hid (c - 4 ≤ maxLen) := by show _ ≤ _; unfold maxLen at hcm ⊢; omega
  have HM8 : Hid (c - 8 ≤ maxLen) := by show _ ≤ _; unfold maxLen at hcm ⊢; omega
  unfold maxLen at hcm
  clear p4 q4 hS q8 q16 qb eb pb p8 p16 hcm'
  by_cases h16 : c = 16
  · exfalso; omega
  · have HRB : Hid (Rd w (.slice (some ⟨b, off + 16, none⟩) (n - 16) (c - 16)) (B.drop 16)) := by
      right
      exact ⟨b, off + 16, c - 16, by rw [PB.out], by rw [PB.out]; omega, by unfold maxLen; omega, hb, QB.out⟩
    go_enter Try.func27, Try.ntmps27
    go_wp2_with fail
    refine (low_is b (off + 4) 4 _ x _ w P8.out (by omega) (by omega) HM4.out hx Q8.out).mono ?_
    rintro e w' ⟨rfl, hw⟩
    rw [hw]
    clear hw w'
    go_wp2
    go_ret2
    exact ⟨_, by rw [HE.out]; rfl, Or.inl ⟨rfl, openB_bad HE.out (by decide)⟩, Below.refl _ _⟩

set_option maxRecDepth 100000 in
set_option maxHeartbeats 2000000 in
theorem open_sum (b off n c x : Nat) (y z : Nat) (B : List UInt8) (w : World) (hn : 16 ≤ n) (hnc : n ≤ c) (hcm : c ≤ maxLen) (hB : Hid (B.length = n)) (hc : Hid (∀ i (h : i < B.length), w.cell? ⟨b, off + i, none⟩ = some (.int .u8 (B[i].toNat : Int)))) (hb : b < w.heap.size)
    (hok : Hid (B.take 4 = outr)) (hx : Hid (lowN ((B.drop 4).take 4) = x)) (heq : Hid (x = n - 16)) (hle : n - 16 ≤ 1048576) (hy : Hid (lowN ((B.drop 8).take 8) = y)) (hz : Hid (sumB (B.drop 16) = z)) (hbad : ¬ y = z) :
    Calls Try.prog 27 #[.slice (some ⟨b, off, none⟩) n c] w fun e w' => OpenPost w B e w' := by
  have hx1 : x ≤ n - 16 := by have := heq.out; omega
  have hx2 : n - 16 ≤ x := by have := heq.out; omega
  have HE0 : Hid (¬ (B.take 4 ≠ outr ∨ lowN ((B.drop 4).take 4) ≠ B.length - 16 ∨ 1048576 < B.length - 16)) := by
    show ¬ _
    rintro (h | h | h)
    · exact h hok.out
    · exact h (by rw [hx.out, hB.out]; exact heq.out)
    · rw [hB.out] at h; omega
  have HE : Hid (openE B = 22) := by show _ = _; unfold openE; rw [if_neg (by rw [hB.out]; omega), if_neg HE0.out, if_pos (by rw [hy.out, hz.out]; exact hbad)]
  have hbad' : ((y : Int) != (z : Int)) = true := by simp; omega
  have hcm' := hcm
  obtain ⟨p4, q4⟩ := part_cells hc.out 0 4 (by rw [hB.out]; omega)
  obtain ⟨p8, q8⟩ := part_cells hc.out 4 4 (by rw [hB.out]; omega)
  obtain ⟨p16, q16⟩ := part_cells hc.out 8 8 (by rw [hB.out]; omega)
  obtain ⟨pb, qb⟩ := part_cells hc.out 16 (n - 16) (by rw [hB.out]; omega)
  have eb : (B.drop 16).take (n - 16) = B.drop 16 := List.take_of_length_le (by rw [List.length_drop, hB.out]; exact Nat.le_refl _)
  rw [eb] at pb qb
  have Q8 : Hid _ := q8
  have Q16 : Hid _ := q16
  have QB : Hid _ := qb
  obtain ⟨S, hS⟩ : ∃ S : ByteArray, (⟨((B.drop 0).take 4).toArray⟩ : ByteArray) = S := ⟨_, rfl⟩
  have r4 : (convert 26 9 (.slice (some ⟨b, off, none⟩) 4 c)).run Try.prog w = .ok (.string S) w := by
    rw [← hS]
    have hr : Rd w (.slice (some ⟨b, off, none⟩) 4 c) ((B.drop 0).take 4) := Or.inr ⟨b, off, c, by rw [p4], by rw [p4]; omega, hcm, hb, q4⟩
    exact hr.str
  have hs : (S.toList == [111, 117, 116, 114]) = true := by
    rw [← hS, ByteArray.toList_eq]
    have := hok.out
    simp only [beq_iff_eq]
    exact this
  have PB : Hid _ := pb
  have P8 : Hid _ := p8
  have P16 : Hid _ := p16
  have HM : Hid (c ≤ maxLen) := hcm
  have HM4 : Hid (c - 4 ≤ maxLen) := by show _ ≤ _; unfold maxLen at hcm ⊢; omega
  have HM8 : Hid (c - 8 ≤ maxLen) := by show _ ≤ _; unfold maxLen at hcm ⊢; omega
  unfold maxLen at hcm
  clear p4 q4 hS q8 q16 qb eb pb p8 p16 hcm'
  by_cases h16 : c = 16
  · subst h16
    obtain rfl : n = 16 := by omega
    have HRB : Hid (Rd w (.slice (some ⟨b, off, none⟩) (16 - 16) (16 - 16)) (B.drop 16)) := by
      right
      refine ⟨b, off, 0, by rw [PB.out], by rw [PB.out]; omega, by unfold maxLen; omega, hb, fun i hi => ?_⟩
      rw [PB.out] at hi; omega
    go_enter Try.func27, Try.ntmps27
    go_wp2_with fail
    refine (low_is b (off + 4) 4 _ x _ w P8.out (by omega) (by omega) HM4.out hx Q8.out).mono ?_
    rintro e w' ⟨rfl, hw⟩
    rw [hw]
    clear hw w'
    go_wp2_with fail
    refine (low_is b (off + 8) 8 _ y _ w P16.out (by omega) (by omega) HM8.out hy Q16.out).mono ?_
    rintro e w' ⟨rfl, hw⟩
    rw [hw]
    clear hw w'
    go_wp2_with fail
    refine (sum_is _ (B.drop 16) z _ hz HRB.out).mono ?_
    rintro e w' ⟨rfl, hw⟩
    rw [hw]
    clear hw w'
    go_wp2
    go_ret2
    exact ⟨_, by rw [HE.out]; rfl, Or.inl ⟨rfl, openB_bad HE.out (by decide)⟩, Below.refl _ _⟩
  · have HRB : Hid (Rd w (.slice (some ⟨b, off + 16, none⟩) (n - 16) (c - 16)) (B.drop 16)) := by
      right
      exact ⟨b, off + 16, c - 16, by rw [PB.out], by rw [PB.out]; omega, by unfold maxLen; omega, hb, QB.out⟩
    go_enter Try.func27, Try.ntmps27
    go_wp2_with fail
    refine (low_is b (off + 4) 4 _ x _ w P8.out (by omega) (by omega) HM4.out hx Q8.out).mono ?_
    rintro e w' ⟨rfl, hw⟩
    rw [hw]
    clear hw w'
    go_wp2_with fail
    refine (low_is b (off + 8) 8 _ y _ w P16.out (by omega) (by omega) HM8.out hy Q16.out).mono ?_
    rintro e w' ⟨rfl, hw⟩
    rw [hw]
    clear hw w'
    go_wp2_with fail
    refine (sum_is _ (B.drop 16) z _ hz HRB.out).mono ?_
    rintro e w' ⟨rfl, hw⟩
    rw [hw]
    clear hw w'
    go_wp2
    go_ret2
    exact ⟨_, by rw [HE.out]; rfl, Or.inl ⟨rfl, openB_bad HE.out (by decide)⟩, Below.refl _ _⟩

set_option maxRecDepth 100000 in
set_option maxHeartbeats 2000000 in
theorem open_good (b off n c x : Nat) (y : Nat) (B : List UInt8) (w : World) (hn : 16 ≤ n) (hnc : n ≤ c) (hcm : c ≤ maxLen) (hB : Hid (B.length = n)) (hc : Hid (∀ i (h : i < B.length), w.cell? ⟨b, off + i, none⟩ = some (.int .u8 (B[i].toNat : Int)))) (hb : b < w.heap.size)
    (hok : Hid (B.take 4 = outr)) (hx : Hid (lowN ((B.drop 4).take 4) = x)) (heq : Hid (x = n - 16)) (hle : n - 16 ≤ 1048576) (hy : Hid (lowN ((B.drop 8).take 8) = y)) (hz : Hid (sumB (B.drop 16) = y)) :
    Calls Try.prog 27 #[.slice (some ⟨b, off, none⟩) n c] w fun e w' => OpenPost w B e w' := by
  have hx1 : x ≤ n - 16 := by have := heq.out; omega
  have hx2 : n - 16 ≤ x := by have := heq.out; omega
  have HE0 : Hid (¬ (B.take 4 ≠ outr ∨ lowN ((B.drop 4).take 4) ≠ B.length - 16 ∨ 1048576 < B.length - 16)) := by
    show ¬ _
    rintro (h | h | h)
    · exact h hok.out
    · exact h (by rw [hx.out, hB.out]; exact heq.out)
    · rw [hB.out] at h; omega
  have HE : Hid (openE B = 0) := by show _ = _; unfold openE; rw [if_neg (by rw [hB.out]; omega), if_neg HE0.out, if_neg (by rw [hy.out, hz.out]; exact fun h => h rfl)]
  have HRW : Hid (Rd w (.slice (some ⟨b, off, none⟩) n c) B) := Or.inr ⟨b, off, c, by rw [hB.out], by rw [hB.out]; exact hnc, hcm, hb, hc.out⟩
  have HLB : Hid (B.length ≤ 1000000000) := by show _ ≤ _; rw [hB.out]; omega
  have hcm' := hcm
  obtain ⟨p4, q4⟩ := part_cells hc.out 0 4 (by rw [hB.out]; omega)
  obtain ⟨p8, q8⟩ := part_cells hc.out 4 4 (by rw [hB.out]; omega)
  obtain ⟨p16, q16⟩ := part_cells hc.out 8 8 (by rw [hB.out]; omega)
  obtain ⟨pb, qb⟩ := part_cells hc.out 16 (n - 16) (by rw [hB.out]; omega)
  have eb : (B.drop 16).take (n - 16) = B.drop 16 := List.take_of_length_le (by rw [List.length_drop, hB.out]; exact Nat.le_refl _)
  rw [eb] at pb qb
  have Q8 : Hid _ := q8
  have Q16 : Hid _ := q16
  have QB : Hid _ := qb
  obtain ⟨S, hS⟩ : ∃ S : ByteArray, (⟨((B.drop 0).take 4).toArray⟩ : ByteArray) = S := ⟨_, rfl⟩
  have r4 : (convert 26 9 (.slice (some ⟨b, off, none⟩) 4 c)).run Try.prog w = .ok (.string S) w := by
    rw [← hS]
    have hr : Rd w (.slice (some ⟨b, off, none⟩) 4 c) ((B.drop 0).take 4) := Or.inr ⟨b, off, c, by rw [p4], by rw [p4]; omega, hcm, hb, q4⟩
    exact hr.str
  have hs : (S.toList == [111, 117, 116, 114]) = true := by
    rw [← hS, ByteArray.toList_eq]
    have := hok.out
    simp only [beq_iff_eq]
    exact this
  have PB : Hid _ := pb
  have P8 : Hid _ := p8
  have P16 : Hid _ := p16
  have HM : Hid (c ≤ maxLen) := hcm
  have HM4 : Hid (c - 4 ≤ maxLen) := by show _ ≤ _; unfold maxLen at hcm ⊢; omega
  have HM8 : Hid (c - 8 ≤ maxLen) := by show _ ≤ _; unfold maxLen at hcm ⊢; omega
  unfold maxLen at hcm
  clear p4 q4 hS q8 q16 qb eb pb p8 p16 hcm'
  by_cases h16 : c = 16
  · subst h16
    obtain rfl : n = 16 := by omega
    have HRB : Hid (Rd w (.slice (some ⟨b, off, none⟩) (16 - 16) (16 - 16)) (B.drop 16)) := by
      right
      refine ⟨b, off, 0, by rw [PB.out], by rw [PB.out]; omega, by unfold maxLen; omega, hb, fun i hi => ?_⟩
      rw [PB.out] at hi; omega
    go_enter Try.func27, Try.ntmps27
    go_wp2_with fail
    refine (low_is b (off + 4) 4 _ x _ w P8.out (by omega) (by omega) HM4.out hx Q8.out).mono ?_
    rintro e w' ⟨rfl, hw⟩
    rw [hw]
    clear hw w'
    go_wp2_with fail
    refine (low_is b (off + 8) 8 _ y _ w P16.out (by omega) (by omega) HM8.out hy Q16.out).mono ?_
    rintro e w' ⟨rfl, hw⟩
    rw [hw]
    clear hw w'
    go_wp2_with fail
    refine (sum_is _ (B.drop 16) y _ hz HRB.out).mono ?_
    rintro e w' ⟨rfl, hw⟩
    rw [hw]
    clear hw w'
    go_wp2_with fail
    refine (clone_any _ B w HLB.out HRW.out).mono ?_
    rintro e w1 ⟨v1, rfl, o1, b1⟩
    have O1 : Hid (Own w1 w.heap.size v1 B) := o1
    have B1 : Hid (Below w.heap.size w w1) := b1
    obtain ⟨a1, c1, rfl⟩ := own_slice o1
    clear o1 b1
    go_wp2_with fail
    refine (from16 _ B w1 _ (by rw [hB.out]; omega) O1.out).mono ?_
    rintro e w2 ⟨⟨v2, rfl, r2⟩, rfl⟩
    have R2 : Hid (Rd _ v2 (B.drop 16)) := r2
    obtain ⟨a2, c2, rfl⟩ := rd_slice r2
    clear r2
    go_wp2
    go_ret2
    exact ⟨_, by rw [HE.out]; rfl, by unfold openB; rw [if_pos HE.out]; have h9 := R2.out; rw [List.length_drop] at h9; exact h9, B1.out⟩
  · have HRB : Hid (Rd w (.slice (some ⟨b, off + 16, none⟩) (n - 16) (c - 16)) (B.drop 16)) := by
      right
      exact ⟨b, off + 16, c - 16, by rw [PB.out], by rw [PB.out]; omega, by unfold maxLen; omega, hb, QB.out⟩
    go_enter Try.func27, Try.ntmps27
    go_wp2_with fail
    refine (low_is b (off + 4) 4 _ x _ w P8.out (by omega) (by omega) HM4.out hx Q8.out).mono ?_
    rintro e w' ⟨rfl, hw⟩
    rw [hw]
    clear hw w'
    go_wp2_with fail
    refine (low_is b (off + 8) 8 _ y _ w P16.out (by omega) (by omega) HM8.out hy Q16.out).mono ?_
    rintro e w' ⟨rfl, hw⟩
    rw [hw]
    clear hw w'
    go_wp2_with fail
    refine (sum_is _ (B.drop 16) y _ hz HRB.out).mono ?_
    rintro e w' ⟨rfl, hw⟩
    rw [hw]
    clear hw w'
    go_wp2_with fail
    refine (clone_any _ B w HLB.out HRW.out).mono ?_
    rintro e w1 ⟨v1, rfl, o1, b1⟩
    have O1 : Hid (Own w1 w.heap.size v1 B) := o1
    have B1 : Hid (Below w.heap.size w w1) := b1
    obtain ⟨a1, c1, rfl⟩ := own_slice o1
    clear o1 b1
    go_wp2_with fail
    refine (from16 _ B w1 _ (by rw [hB.out]; omega) O1.out).mono ?_
    rintro e w2 ⟨⟨v2, rfl, r2⟩, rfl⟩
    have R2 : Hid (Rd _ v2 (B.drop 16)) := r2
    obtain ⟨a2, c2, rfl⟩ := rd_slice r2
    clear r2
    go_wp2
    go_ret2
    exact ⟨_, by rw [HE.out]; rfl, by unfold openB; rw [if_pos HE.out]; have h9 := R2.out; rw [List.length_drop] at h9; exact h9, B1.out⟩

/-- what Open answers of any bytes -/
theorem open_any (v : Value) (B : List UInt8) (w : World) (h : Rd w v B) : Calls Try.prog 27 #[v] w fun e w' => OpenPost w B e w' := by
  by_cases hn : B.length < 16
  · obtain ⟨a, c, rfl⟩ := rd_slice h
    exact open_short a _ c B w hn rfl
  · rcases h with ⟨rfl, rfl⟩ | ⟨b, off, cap, rfl, e2, e2', e3, e4⟩
    · simp at hn
    · by_cases h1 : B.take 4 = outr
      · by_cases h2 : lowN ((B.drop 4).take 4) = B.length - 16
        · by_cases h3 : 1048576 < B.length - 16
          · exact open_big b off _ cap _ B w (by omega) e2 e2' rfl e4 e3 h1 rfl h2 h3
          · by_cases h4 : lowN ((B.drop 8).take 8) = sumB (B.drop 16)
            · exact open_good b off _ cap _ _ B w (by omega) e2 e2' rfl e4 e3 h1 rfl h2 (by omega) rfl h4.symm
            · exact open_sum b off _ cap _ _ _ B w (by omega) e2 e2' rfl e4 e3 h1 rfl h2 (by omega) rfl rfl h4
        · exact open_len b off _ cap _ B w (by omega) e2 e2' rfl e4 e3 h1 rfl h2
      · exact open_head b off _ cap B w (by omega) e2 e2' rfl e4 e3 h1
end Go.Proofs.Ytjdcoiekbnefkac
