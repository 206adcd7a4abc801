/- The statement NameWithin: all within an if, or within a while: the names have the same registers, and as many are there at one time. Up to 1048576 values and letters in what comes in. -/
import Derived.Test.YtiafdlebggegfabMay
import Derived.Test.YtiafdlebggegfabAlive
import Derived.Test.YtiafdlebggegfabOpen
namespace Go.Proofs.Ytiafdlebggegfab
open Go.RowKit Go.Maps Go.WideMaps
set_option linter.unusedVariables false

def arg1 : EL := .cons 1 1 ⟨#[]⟩ 0 .nil .nil
def wrapS (k : Int) (l : SL) : SL := .cons k ⟨#[]⟩ 0 arg1 l .nil .nil
theorem arg1_in (V : World) : ESl (V.alloc (.cells #[.int .i64 1, .int .i64 1, .string ⟨#[]⟩, .int .i64 0, .slice none 0 0] 41)) (.slice (some ⟨V.heap.size, 0, none⟩) 1 1) arg1 := by
  refine ⟨_, 1, V.heap.size, 0, rfl, Nat.le_refl _, by unfold maxLen; decide, fun _ => rfl, ?_⟩
  exact ⟨cell_new _ _ rfl _ _ _ _ rfl, cell_new _ _ rfl _ _ _ _ rfl, cell_new _ _ rfl _ _ _ _ rfl, cell_new _ _ rfl _ _ _ _ rfl, by unfold maxLen; decide, ⟨none, 0, 0, 0, cell_new _ _ rfl _ _ _ _ rfl, Nat.le_refl _, Nat.zero_le _, fun h => absurd h (by simp [EL.len]), trivial⟩, trivial⟩
theorem wrap_in (V : World) (n : Nat) (hn : V.heap.size = n) (k : Int) (l : SL) (vA : Value) (ad : Option Addr) (cap : Nat) (hA : ESl V vA arg1) (hB : SSl V (.slice ad l.len cap) l) :
    SSl (V.alloc (.cells #[.int .i64 k, .string ⟨#[]⟩, .int .i64 0, vA, .slice ad l.len cap, .slice none 0 0] 43)) (.slice (some ⟨n, 0, none⟩) 1 1) (wrapS k l) := by
  have hb : Below V.heap.size V (V.alloc (.cells #[.int .i64 k, .string ⟨#[]⟩, .int .i64 0, vA, .slice ad l.len cap, .slice none 0 0] 43)) := (Below.refl _ _).alloc (Nat.le_refl _) _
  obtain ⟨ad', cap', b', o', e0, g1, g2, g3, g4⟩ := hB.below hb
  cases e0
  refine ⟨_, 1, n, 0, rfl, Nat.le_refl _, by unfold maxLen; decide, fun _ => rfl, ?_⟩
  exact ⟨cell_new _ _ hn _ _ _ _ rfl, cell_new _ _ hn _ _ _ _ rfl, cell_new _ _ hn _ _ _ _ rfl, by unfold maxLen; decide, ⟨vA, cell_new _ _ hn _ _ _ _ rfl, hA.below hb⟩, ⟨ad, cap, b', o', cell_new _ _ hn _ _ _ _ rfl, g1, g2, g3, g4⟩, ⟨none, 0, 0, 0, cell_new _ _ hn _ _ _ _ rfl, Nat.le_refl _, Nat.zero_le _, fun h => absurd h (by simp [SL.len]), trivial⟩, trivial⟩

set_option maxRecDepth 100000 in
set_option maxHeartbeats 4000000 in
theorem within_walk (l : SL) (ad : Option Addr) (cap : Nat) (c : Int) (q : Bool) (w : World) (hE : SSl w (.slice ad l.len cap) l) (h9 : l.cnt ≤ 1048576) :
    Calls Try.prog 5 #[.slice ad l.len cap, .int .i64 c, .bool q] w fun e w' => e = .returned (.bool true) ∧ Below w.heap.size w w' := by
  have HE : Hid (SSl w (.slice ad l.len cap) l) := hE
  have HG : Hid _ := great_any l _ w hE (by omega)
  clear hE
  obtain ⟨gb, hgb⟩ : ∃ b, decide (5000 < (l.cnt : Int)) = b := ⟨_, rfl⟩
  have HGB : Hid (decide (5000 < (l.cnt : Int)) = gb) := hgb
  clear hgb
  go_enter Try.func5, Try.ntmps5
  go_wp2_with fail
  refine Calls.mono HG.out ?_
  rw [HGB.out]
  rintro e w1 ⟨rfl, hb1⟩
  have HB1 : Hid (Below w.heap.size w w1) := hb1
  have HE1 : Hid (SSl w1 (.slice ad l.len cap) l) := HE.out.below hb1
  clear hb1
  rcases gb with _ | _
  case true =>
    go_wp2_with fail
    refine (alive_any _).mono ?_
    rintro e w9 ⟨rfl, hb9⟩
    have HB9 : Hid (Below w.heap.size w w9) := HB1.out.trans (hb9.mono HB1.out.size)
    clear hb9
    go_wp2
    go_ret
    exact ⟨rfl, HB9.out⟩
  go_wp2_with fail
  refine Calls.mono (right_any l _ w1 HE1.out (by omega)) ?_
  rintro e w2 ⟨rb, rfl, hb2⟩
  have HB2 : Hid (Below w.heap.size w w2) := HB1.out.trans (hb2.mono HB1.out.size)
  have HE2 : Hid (SSl w2 (.slice ad l.len cap) l) := HE1.out.below hb2
  clear hb2
  rcases rb with _ | _
  case false =>
    go_wp2_with fail
    refine (alive_any _).mono ?_
    rintro e w9 ⟨rfl, hb9⟩
    have HB9 : Hid (Below w.heap.size w w9) := HB2.out.trans (hb9.mono HB2.out.size)
    clear hb9
    go_wp2
    go_ret
    exact ⟨rfl, HB9.out⟩
  go_wp2_with fail
  · have HX : Hid (Below w2.heap.size w2 ((w2.alloc (.cells #[.int .i64 1, .int .i64 1, .string ⟨#[]⟩, .int .i64 0, .slice none 0 0] 41)).alloc (.cells #[.int .i64 7, .string ⟨#[]⟩, .int .i64 0, .slice (some ⟨w2.heap.size, 0, none⟩) 1 1, .slice ad l.len cap, .slice none 0 0] 43))) := ((Below.refl _ _).alloc (Nat.le_refl _) _).alloc (by simp) _
    have HXs : Hid (((w2.alloc (.cells #[.int .i64 1, .int .i64 1, .string ⟨#[]⟩, .int .i64 0, .slice none 0 0] 41)).alloc (.cells #[.int .i64 7, .string ⟨#[]⟩, .int .i64 0, .slice (some ⟨w2.heap.size, 0, none⟩) 1 1, .slice ad l.len cap, .slice none 0 0] 43)).heap.size = w2.heap.size + 1 + 1) := by show _ = _; simp
    have HW : Hid (SSl (((w2.alloc (.cells #[.int .i64 1, .int .i64 1, .string ⟨#[]⟩, .int .i64 0, .slice none 0 0] 41)).alloc (.cells #[.int .i64 7, .string ⟨#[]⟩, .int .i64 0, .slice (some ⟨w2.heap.size, 0, none⟩) 1 1, .slice ad l.len cap, .slice none 0 0] 43)).alloc (.cells #[.int .i64 7, .string ⟨#[]⟩, .int .i64 0, .slice (some ⟨w2.heap.size, 0, none⟩) 1 1, .slice ad l.len cap, .slice none 0 0] 43)) (.slice (some ⟨w2.heap.size + 1 + 1, 0, none⟩) 1 1) (wrapS 7 l)) := wrap_in _ _ HXs.out 7 l _ ad cap ((arg1_in w2).below ((Below.refl _ _).alloc (Nat.le_refl _) _)) (HE2.out.below HX.out)
    have HXX : Hid (Below ((w2.alloc (.cells #[.int .i64 1, .int .i64 1, .string ⟨#[]⟩, .int .i64 0, .slice none 0 0] 41)).alloc (.cells #[.int .i64 7, .string ⟨#[]⟩, .int .i64 0, .slice (some ⟨w2.heap.size, 0, none⟩) 1 1, .slice ad l.len cap, .slice none 0 0] 43)).heap.size ((w2.alloc (.cells #[.int .i64 1, .int .i64 1, .string ⟨#[]⟩, .int .i64 0, .slice none 0 0] 41)).alloc (.cells #[.int .i64 7, .string ⟨#[]⟩, .int .i64 0, .slice (some ⟨w2.heap.size, 0, none⟩) 1 1, .slice ad l.len cap, .slice none 0 0] 43)) (((w2.alloc (.cells #[.int .i64 1, .int .i64 1, .string ⟨#[]⟩, .int .i64 0, .slice none 0 0] 41)).alloc (.cells #[.int .i64 7, .string ⟨#[]⟩, .int .i64 0, .slice (some ⟨w2.heap.size, 0, none⟩) 1 1, .slice ad l.len cap, .slice none 0 0] 43)).alloc (.cells #[.int .i64 7, .string ⟨#[]⟩, .int .i64 0, .slice (some ⟨w2.heap.size, 0, none⟩) 1 1, .slice ad l.len cap, .slice none 0 0] 43))) := (Below.refl _ _).alloc (Nat.le_refl _) _
    have HS0 : Hid (Six ((w2.alloc (.cells #[.int .i64 1, .int .i64 1, .string ⟨#[]⟩, .int .i64 0, .slice none 0 0] 41)).alloc (.cells #[.int .i64 7, .string ⟨#[]⟩, .int .i64 0, .slice (some ⟨w2.heap.size, 0, none⟩) 1 1, .slice ad l.len cap, .slice none 0 0] 43)) (w2.heap.size + 1) (.int .i64 7) (.string ⟨#[]⟩) (.int .i64 0) (.slice (some ⟨w2.heap.size, 0, none⟩) 1 1) (.slice ad l.len cap) (.slice none 0 0)) := by have := Six.new (w2.alloc (.cells #[.int .i64 1, .int .i64 1, .string ⟨#[]⟩, .int .i64 0, .slice none 0 0] 41)) (.int .i64 7) (.string ⟨#[]⟩) (.int .i64 0) (.slice (some ⟨w2.heap.size, 0, none⟩) 1 1) (.slice ad l.len cap) (.slice none 0 0) 43; rw [show (w2.alloc (.cells #[.int .i64 1, .int .i64 1, .string ⟨#[]⟩, .int .i64 0, .slice none 0 0] 41)).heap.size = w2.heap.size + 1 by simp] at this; exact this
    refine Calls.mono (right_any (wrapS 7 l) _ _ HW.out (by simp [wrapS, arg1, SL.cnt, EL.cnt]; omega)) ?_
    rintro e w3 ⟨rb, rfl, hc3⟩
    have hd3 : Below ((w2.alloc (.cells #[.int .i64 1, .int .i64 1, .string ⟨#[]⟩, .int .i64 0, .slice none 0 0] 41)).alloc (.cells #[.int .i64 7, .string ⟨#[]⟩, .int .i64 0, .slice (some ⟨w2.heap.size, 0, none⟩) 1 1, .slice ad l.len cap, .slice none 0 0] 43)).heap.size ((w2.alloc (.cells #[.int .i64 1, .int .i64 1, .string ⟨#[]⟩, .int .i64 0, .slice none 0 0] 41)).alloc (.cells #[.int .i64 7, .string ⟨#[]⟩, .int .i64 0, .slice (some ⟨w2.heap.size, 0, none⟩) 1 1, .slice ad l.len cap, .slice none 0 0] 43)) w3 := HXX.out.trans (hc3.mono HXX.out.size)
    have hb3 : Below w2.heap.size w2 w3 := HX.out.trans (hd3.mono HX.out.size)
    have HB3 : Hid (Below w.heap.size w w3) := HB2.out.trans (hb3.mono HB2.out.size)
    have HE3 : Hid (SSl w3 (.slice ad l.len cap) l) := HE2.out.below hb3
    have HA3 : Hid (ESl w3 (.slice (some ⟨w2.heap.size, 0, none⟩) 1 1) arg1) := ((arg1_in w2).below ((Below.refl _ _).alloc (Nat.le_refl _) (.cells #[.int .i64 7, .string ⟨#[]⟩, .int .i64 0, .slice (some ⟨w2.heap.size, 0, none⟩) 1 1, .slice ad l.len cap, .slice none 0 0] 43))).below hd3
    have HS3 : Hid (Six w3 (w2.heap.size + 1) (.int .i64 7) (.string ⟨#[]⟩) (.int .i64 0) (.slice (some ⟨w2.heap.size, 0, none⟩) 1 1) (.slice ad l.len cap) (.slice none 0 0)) := HS0.out.keep (hd3.block _ (by have := HXs.out; omega))
    have hz3 : w2.heap.size + 1 < w3.heap.size := by have := hd3.size; have := HXs.out; omega
    clear hc3 hd3 hb3 HX HXX HW HS0
    rcases rb with _ | _
    case false =>
      go_wp2_with fail
      refine (alive_any _).mono ?_
      rintro e w9 ⟨rfl, hb9⟩
      have HB9 : Hid (Below w.heap.size w w9) := HB3.out.trans (hb9.mono HB3.out.size)
      clear hb9
      go_wp2
      go_ret
      exact ⟨rfl, HB9.out⟩
    obtain ⟨res, hres⟩ : ∃ r, slots l (min c 4) = r := ⟨_, rfl⟩
    have HRES : Hid (slots l (min c 4) = res) := hres
    have HRW : Hid (slots (wrapS 7 l) (min c 4) = res) := (slots_within l (min c 4) 7 1 (by omega)).trans hres
    rcases res with x | st
    · clear hres
      go_wp2_with fail
      refine (slots_any l c _ w3 HE3.out (by omega)).mono ?_
      rw [HRES.out]
      rintro e w4 ⟨rfl, hx, hb4⟩
      have HB4 : Hid (Below w.heap.size w w4) := HB3.out.trans (hb4.mono HB3.out.size)
      have HE4 : Hid (SSl w4 (.slice ad l.len cap) l) := HE3.out.below hb4
      have HA4 : Hid (ESl w4 (.slice (some ⟨w2.heap.size, 0, none⟩) 1 1) arg1) := HA3.out.below hb4
      have HS4 : Hid (Six w4 (w2.heap.size + 1) (.int .i64 7) (.string ⟨#[]⟩) (.int .i64 0) (.slice (some ⟨w2.heap.size, 0, none⟩) 1 1) (.slice ad l.len cap) (.slice none 0 0)) := HS3.out.keep (hb4.block _ hz3)
      have hz4 : w2.heap.size + 1 < w4.heap.size := Nat.lt_of_lt_of_le hz3 hb4.size
      clear hb4
      obtain ⟨x0, x1, x2, x3, x4, x5⟩ := HS4.out
      go_wp2_with fail
      refine (slots_any (wrapS 7 l) c _ _ (wrap_in w4 _ rfl 7 l _ ad cap HA4.out HE4.out) (by simp [wrapS, arg1, SL.cnt, EL.cnt]; omega)).mono ?_
      rw [HRW.out]
      rintro e w5 ⟨rfl, _, hc5⟩
      have hb5 : Below w4.heap.size w4 w5 := ((Below.refl _ w4).alloc (Nat.le_refl _) _).trans (hc5.mono (by simp))
      have HB5 : Hid (Below w.heap.size w w5) := HB4.out.trans (hb5.mono HB4.out.size)
      have HE5 : Hid (SSl w5 (.slice ad l.len cap) l) := HE4.out.below hb5
      have HA5 : Hid (ESl w5 (.slice (some ⟨w2.heap.size, 0, none⟩) 1 1) arg1) := HA4.out.below hb5
      have HS5 : Hid (Six w5 (w2.heap.size + 1) (.int .i64 7) (.string ⟨#[]⟩) (.int .i64 0) (.slice (some ⟨w2.heap.size, 0, none⟩) 1 1) (.slice ad l.len cap) (.slice none 0 0)) := HS4.out.keep (hb5.block _ hz4)
      have hz5 : w2.heap.size + 1 < w5.heap.size := Nat.lt_of_lt_of_le hz4 hb5.size
      clear hb5 hc5 x0 x1 x2 x3 x4 x5
      go_wp2_with fail
      refine (most_any l c _ w5 HE5.out (by omega)).mono ?_
      rw [HRES.out]
      rintro e w6 ⟨rfl, _, hb6⟩
      have HB6 : Hid (Below w.heap.size w w6) := HB5.out.trans (hb6.mono HB5.out.size)
      have HE6 : Hid (SSl w6 (.slice ad l.len cap) l) := HE5.out.below hb6
      have HA6 : Hid (ESl w6 (.slice (some ⟨w2.heap.size, 0, none⟩) 1 1) arg1) := HA5.out.below hb6
      have HS6 : Hid (Six w6 (w2.heap.size + 1) (.int .i64 7) (.string ⟨#[]⟩) (.int .i64 0) (.slice (some ⟨w2.heap.size, 0, none⟩) 1 1) (.slice ad l.len cap) (.slice none 0 0)) := HS5.out.keep (hb6.block _ hz5)
      have hz6 : w2.heap.size + 1 < w6.heap.size := Nat.lt_of_lt_of_le hz5 hb6.size
      clear hb6
      obtain ⟨x0, x1, x2, x3, x4, x5⟩ := HS6.out
      go_wp2_with fail
      refine (most_any (wrapS 7 l) c _ _ (wrap_in w6 _ rfl 7 l _ ad cap HA6.out HE6.out) (by simp [wrapS, arg1, SL.cnt, EL.cnt]; omega)).mono ?_
      rw [HRW.out]
      rintro e w7 ⟨rfl, _, hc7⟩
      have hb7 : Below w6.heap.size w6 w7 := ((Below.refl _ w6).alloc (Nat.le_refl _) _).trans (hc7.mono (by simp))
      have HB7 : Hid (Below w.heap.size w w7) := HB6.out.trans (hb7.mono HB6.out.size)
      clear hb7 hc7 x0 x1 x2 x3 x4 x5
      go_wp2_with fail
      refine (row_same _ _ [] w7 (by decide) (IRd.nil _) (IRd.nil _)).mono ?_
      rintro e w8 ⟨rfl, hb8⟩
      have HB8 : Hid (Below w.heap.size w w8) := HB7.out.trans (hb8.mono HB7.out.size)
      clear hb8
      go_wp2_with fail
      refine (alive_any _).mono ?_
      rintro e w9 ⟨rfl, hb9⟩
      have HB9 : Hid (Below w.heap.size w w9) := HB8.out.trans (hb9.mono HB8.out.size)
      clear hb9
      go_wp2
      go_ret
      exact ⟨rfl, HB9.out⟩
    · have HOL : Hid (st.out.length ≤ 1000000000) := by
        show _ ≤ _
        obtain ⟨s1, e1, rfl⟩ := shut_ok hres
        obtain ⟨x, y, e2, l2, _⟩ := runL_pre _ l _ _ e1
        show s1.out.length ≤ _
        rw [e2]
        simp [st0]
        omega
      clear hres
      go_wp2_with fail
      refine (slots_any l c _ w3 HE3.out (by omega)).mono ?_
      rw [HRES.out]
      rintro e w4 ⟨v4, rfl, hi4, hb4⟩
      have HI4 : Hid (IRd w4 v4 st.out) := hi4.rd
      obtain ⟨a4, c4, rfl⟩ := hi4.form
      clear hi4
      have HB4 : Hid (Below w.heap.size w w4) := HB3.out.trans (hb4.mono HB3.out.size)
      have HE4 : Hid (SSl w4 (.slice ad l.len cap) l) := HE3.out.below hb4
      have HA4 : Hid (ESl w4 (.slice (some ⟨w2.heap.size, 0, none⟩) 1 1) arg1) := HA3.out.below hb4
      have HS4 : Hid (Six w4 (w2.heap.size + 1) (.int .i64 7) (.string ⟨#[]⟩) (.int .i64 0) (.slice (some ⟨w2.heap.size, 0, none⟩) 1 1) (.slice ad l.len cap) (.slice none 0 0)) := HS3.out.keep (hb4.block _ hz3)
      have hz4 : w2.heap.size + 1 < w4.heap.size := Nat.lt_of_lt_of_le hz3 hb4.size
      clear hb4
      obtain ⟨x0, x1, x2, x3, x4, x5⟩ := HS4.out
      go_wp2_with fail
      refine (slots_any (wrapS 7 l) c _ _ (wrap_in w4 _ rfl 7 l _ ad cap HA4.out HE4.out) (by simp [wrapS, arg1, SL.cnt, EL.cnt]; omega)).mono ?_
      rw [HRW.out]
      rintro e w5 ⟨v5, rfl, hi5, hc5⟩
      have HI5 : Hid (IRd w5 v5 st.out) := hi5.rd
      obtain ⟨a5, c5, rfl⟩ := hi5.form
      clear hi5
      have hb5 : Below w4.heap.size w4 w5 := ((Below.refl _ w4).alloc (Nat.le_refl _) _).trans (hc5.mono (by simp))
      have HB5 : Hid (Below w.heap.size w w5) := HB4.out.trans (hb5.mono HB4.out.size)
      have HE5 : Hid (SSl w5 (.slice ad l.len cap) l) := HE4.out.below hb5
      have HA5 : Hid (ESl w5 (.slice (some ⟨w2.heap.size, 0, none⟩) 1 1) arg1) := HA4.out.below hb5
      have HS5 : Hid (Six w5 (w2.heap.size + 1) (.int .i64 7) (.string ⟨#[]⟩) (.int .i64 0) (.slice (some ⟨w2.heap.size, 0, none⟩) 1 1) (.slice ad l.len cap) (.slice none 0 0)) := HS4.out.keep (hb5.block _ hz4)
      have hz5 : w2.heap.size + 1 < w5.heap.size := Nat.lt_of_lt_of_le hz4 hb5.size
      have HI4b : Hid (IRd w5 (.slice a4 st.out.length c4) st.out) := HI4.out.below hb5
      clear hb5 hc5 x0 x1 x2 x3 x4 x5
      go_wp2_with fail
      refine (most_any l c _ w5 HE5.out (by omega)).mono ?_
      rw [HRES.out]
      rintro e w6 ⟨rfl, hb6⟩
      have HB6 : Hid (Below w.heap.size w w6) := HB5.out.trans (hb6.mono HB5.out.size)
      have HE6 : Hid (SSl w6 (.slice ad l.len cap) l) := HE5.out.below hb6
      have HA6 : Hid (ESl w6 (.slice (some ⟨w2.heap.size, 0, none⟩) 1 1) arg1) := HA5.out.below hb6
      have HS6 : Hid (Six w6 (w2.heap.size + 1) (.int .i64 7) (.string ⟨#[]⟩) (.int .i64 0) (.slice (some ⟨w2.heap.size, 0, none⟩) 1 1) (.slice ad l.len cap) (.slice none 0 0)) := HS5.out.keep (hb6.block _ hz5)
      have hz6 : w2.heap.size + 1 < w6.heap.size := Nat.lt_of_lt_of_le hz5 hb6.size
      have HI4c : Hid (IRd w6 (.slice a4 st.out.length c4) st.out) := HI4b.out.below hb6
      have HI5c : Hid (IRd w6 (.slice a5 st.out.length c5) st.out) := HI5.out.below hb6
      clear hb6
      obtain ⟨x0, x1, x2, x3, x4, x5⟩ := HS6.out
      go_wp2_with fail
      refine (most_any (wrapS 7 l) c _ _ (wrap_in w6 _ rfl 7 l _ ad cap HA6.out HE6.out) (by simp [wrapS, arg1, SL.cnt, EL.cnt]; omega)).mono ?_
      rw [HRW.out]
      rintro e w7 ⟨rfl, hc7⟩
      have hb7 : Below w6.heap.size w6 w7 := ((Below.refl _ w6).alloc (Nat.le_refl _) _).trans (hc7.mono (by simp))
      have HB7 : Hid (Below w.heap.size w w7) := HB6.out.trans (hb7.mono HB6.out.size)
      have HI4d : Hid (IRd w7 (.slice a4 st.out.length c4) st.out) := HI4c.out.below hb7
      have HI5d : Hid (IRd w7 (.slice a5 st.out.length c5) st.out) := HI5c.out.below hb7
      clear hb7 hc7 x0 x1 x2 x3 x4 x5
      go_wp2_with fail
      refine (row_same _ _ st.out w7 HOL.out HI4d.out HI5d.out).mono ?_
      rintro e w8 ⟨rfl, hb8⟩
      have HB8 : Hid (Below w.heap.size w w8) := HB7.out.trans (hb8.mono HB7.out.size)
      clear hb8
      go_wp2_with fail
      refine (alive_any _).mono ?_
      rintro e w9 ⟨rfl, hb9⟩
      have HB9 : Hid (Below w.heap.size w w9) := HB8.out.trans (hb9.mono HB8.out.size)
      clear hb9
      go_wp2
      go_ret
      exact ⟨rfl, HB9.out⟩
  · have HX : Hid (Below w2.heap.size w2 ((w2.alloc (.cells #[.int .i64 1, .int .i64 1, .string ⟨#[]⟩, .int .i64 0, .slice none 0 0] 41)).alloc (.cells #[.int .i64 6, .string ⟨#[]⟩, .int .i64 0, .slice (some ⟨w2.heap.size, 0, none⟩) 1 1, .slice ad l.len cap, .slice none 0 0] 43))) := ((Below.refl _ _).alloc (Nat.le_refl _) _).alloc (by simp) _
    have HXs : Hid (((w2.alloc (.cells #[.int .i64 1, .int .i64 1, .string ⟨#[]⟩, .int .i64 0, .slice none 0 0] 41)).alloc (.cells #[.int .i64 6, .string ⟨#[]⟩, .int .i64 0, .slice (some ⟨w2.heap.size, 0, none⟩) 1 1, .slice ad l.len cap, .slice none 0 0] 43)).heap.size = w2.heap.size + 1 + 1) := by show _ = _; simp
    have HW : Hid (SSl (((w2.alloc (.cells #[.int .i64 1, .int .i64 1, .string ⟨#[]⟩, .int .i64 0, .slice none 0 0] 41)).alloc (.cells #[.int .i64 6, .string ⟨#[]⟩, .int .i64 0, .slice (some ⟨w2.heap.size, 0, none⟩) 1 1, .slice ad l.len cap, .slice none 0 0] 43)).alloc (.cells #[.int .i64 6, .string ⟨#[]⟩, .int .i64 0, .slice (some ⟨w2.heap.size, 0, none⟩) 1 1, .slice ad l.len cap, .slice none 0 0] 43)) (.slice (some ⟨w2.heap.size + 1 + 1, 0, none⟩) 1 1) (wrapS 6 l)) := wrap_in _ _ HXs.out 6 l _ ad cap ((arg1_in w2).below ((Below.refl _ _).alloc (Nat.le_refl _) _)) (HE2.out.below HX.out)
    have HXX : Hid (Below ((w2.alloc (.cells #[.int .i64 1, .int .i64 1, .string ⟨#[]⟩, .int .i64 0, .slice none 0 0] 41)).alloc (.cells #[.int .i64 6, .string ⟨#[]⟩, .int .i64 0, .slice (some ⟨w2.heap.size, 0, none⟩) 1 1, .slice ad l.len cap, .slice none 0 0] 43)).heap.size ((w2.alloc (.cells #[.int .i64 1, .int .i64 1, .string ⟨#[]⟩, .int .i64 0, .slice none 0 0] 41)).alloc (.cells #[.int .i64 6, .string ⟨#[]⟩, .int .i64 0, .slice (some ⟨w2.heap.size, 0, none⟩) 1 1, .slice ad l.len cap, .slice none 0 0] 43)) (((w2.alloc (.cells #[.int .i64 1, .int .i64 1, .string ⟨#[]⟩, .int .i64 0, .slice none 0 0] 41)).alloc (.cells #[.int .i64 6, .string ⟨#[]⟩, .int .i64 0, .slice (some ⟨w2.heap.size, 0, none⟩) 1 1, .slice ad l.len cap, .slice none 0 0] 43)).alloc (.cells #[.int .i64 6, .string ⟨#[]⟩, .int .i64 0, .slice (some ⟨w2.heap.size, 0, none⟩) 1 1, .slice ad l.len cap, .slice none 0 0] 43))) := (Below.refl _ _).alloc (Nat.le_refl _) _
    have HS0 : Hid (Six ((w2.alloc (.cells #[.int .i64 1, .int .i64 1, .string ⟨#[]⟩, .int .i64 0, .slice none 0 0] 41)).alloc (.cells #[.int .i64 6, .string ⟨#[]⟩, .int .i64 0, .slice (some ⟨w2.heap.size, 0, none⟩) 1 1, .slice ad l.len cap, .slice none 0 0] 43)) (w2.heap.size + 1) (.int .i64 6) (.string ⟨#[]⟩) (.int .i64 0) (.slice (some ⟨w2.heap.size, 0, none⟩) 1 1) (.slice ad l.len cap) (.slice none 0 0)) := by have := Six.new (w2.alloc (.cells #[.int .i64 1, .int .i64 1, .string ⟨#[]⟩, .int .i64 0, .slice none 0 0] 41)) (.int .i64 6) (.string ⟨#[]⟩) (.int .i64 0) (.slice (some ⟨w2.heap.size, 0, none⟩) 1 1) (.slice ad l.len cap) (.slice none 0 0) 43; rw [show (w2.alloc (.cells #[.int .i64 1, .int .i64 1, .string ⟨#[]⟩, .int .i64 0, .slice none 0 0] 41)).heap.size = w2.heap.size + 1 by simp] at this; exact this
    refine Calls.mono (right_any (wrapS 6 l) _ _ HW.out (by simp [wrapS, arg1, SL.cnt, EL.cnt]; omega)) ?_
    rintro e w3 ⟨rb, rfl, hc3⟩
    have hd3 : Below ((w2.alloc (.cells #[.int .i64 1, .int .i64 1, .string ⟨#[]⟩, .int .i64 0, .slice none 0 0] 41)).alloc (.cells #[.int .i64 6, .string ⟨#[]⟩, .int .i64 0, .slice (some ⟨w2.heap.size, 0, none⟩) 1 1, .slice ad l.len cap, .slice none 0 0] 43)).heap.size ((w2.alloc (.cells #[.int .i64 1, .int .i64 1, .string ⟨#[]⟩, .int .i64 0, .slice none 0 0] 41)).alloc (.cells #[.int .i64 6, .string ⟨#[]⟩, .int .i64 0, .slice (some ⟨w2.heap.size, 0, none⟩) 1 1, .slice ad l.len cap, .slice none 0 0] 43)) w3 := HXX.out.trans (hc3.mono HXX.out.size)
    have hb3 : Below w2.heap.size w2 w3 := HX.out.trans (hd3.mono HX.out.size)
    have HB3 : Hid (Below w.heap.size w w3) := HB2.out.trans (hb3.mono HB2.out.size)
    have HE3 : Hid (SSl w3 (.slice ad l.len cap) l) := HE2.out.below hb3
    have HA3 : Hid (ESl w3 (.slice (some ⟨w2.heap.size, 0, none⟩) 1 1) arg1) := ((arg1_in w2).below ((Below.refl _ _).alloc (Nat.le_refl _) (.cells #[.int .i64 6, .string ⟨#[]⟩, .int .i64 0, .slice (some ⟨w2.heap.size, 0, none⟩) 1 1, .slice ad l.len cap, .slice none 0 0] 43))).below hd3
    have HS3 : Hid (Six w3 (w2.heap.size + 1) (.int .i64 6) (.string ⟨#[]⟩) (.int .i64 0) (.slice (some ⟨w2.heap.size, 0, none⟩) 1 1) (.slice ad l.len cap) (.slice none 0 0)) := HS0.out.keep (hd3.block _ (by have := HXs.out; omega))
    have hz3 : w2.heap.size + 1 < w3.heap.size := by have := hd3.size; have := HXs.out; omega
    clear hc3 hd3 hb3 HX HXX HW HS0
    rcases rb with _ | _
    case false =>
      go_wp2_with fail
      refine (alive_any _).mono ?_
      rintro e w9 ⟨rfl, hb9⟩
      have HB9 : Hid (Below w.heap.size w w9) := HB3.out.trans (hb9.mono HB3.out.size)
      clear hb9
      go_wp2
      go_ret
      exact ⟨rfl, HB9.out⟩
    obtain ⟨res, hres⟩ : ∃ r, slots l (min c 4) = r := ⟨_, rfl⟩
    have HRES : Hid (slots l (min c 4) = res) := hres
    have HRW : Hid (slots (wrapS 6 l) (min c 4) = res) := (slots_within l (min c 4) 6 1 (by omega)).trans hres
    rcases res with x | st
    · clear hres
      go_wp2_with fail
      refine (slots_any l c _ w3 HE3.out (by omega)).mono ?_
      rw [HRES.out]
      rintro e w4 ⟨rfl, hx, hb4⟩
      have HB4 : Hid (Below w.heap.size w w4) := HB3.out.trans (hb4.mono HB3.out.size)
      have HE4 : Hid (SSl w4 (.slice ad l.len cap) l) := HE3.out.below hb4
      have HA4 : Hid (ESl w4 (.slice (some ⟨w2.heap.size, 0, none⟩) 1 1) arg1) := HA3.out.below hb4
      have HS4 : Hid (Six w4 (w2.heap.size + 1) (.int .i64 6) (.string ⟨#[]⟩) (.int .i64 0) (.slice (some ⟨w2.heap.size, 0, none⟩) 1 1) (.slice ad l.len cap) (.slice none 0 0)) := HS3.out.keep (hb4.block _ hz3)
      have hz4 : w2.heap.size + 1 < w4.heap.size := Nat.lt_of_lt_of_le hz3 hb4.size
      clear hb4
      obtain ⟨x0, x1, x2, x3, x4, x5⟩ := HS4.out
      go_wp2_with fail
      refine (slots_any (wrapS 6 l) c _ _ (wrap_in w4 _ rfl 6 l _ ad cap HA4.out HE4.out) (by simp [wrapS, arg1, SL.cnt, EL.cnt]; omega)).mono ?_
      rw [HRW.out]
      rintro e w5 ⟨rfl, _, hc5⟩
      have hb5 : Below w4.heap.size w4 w5 := ((Below.refl _ w4).alloc (Nat.le_refl _) _).trans (hc5.mono (by simp))
      have HB5 : Hid (Below w.heap.size w w5) := HB4.out.trans (hb5.mono HB4.out.size)
      have HE5 : Hid (SSl w5 (.slice ad l.len cap) l) := HE4.out.below hb5
      have HA5 : Hid (ESl w5 (.slice (some ⟨w2.heap.size, 0, none⟩) 1 1) arg1) := HA4.out.below hb5
      have HS5 : Hid (Six w5 (w2.heap.size + 1) (.int .i64 6) (.string ⟨#[]⟩) (.int .i64 0) (.slice (some ⟨w2.heap.size, 0, none⟩) 1 1) (.slice ad l.len cap) (.slice none 0 0)) := HS4.out.keep (hb5.block _ hz4)
      have hz5 : w2.heap.size + 1 < w5.heap.size := Nat.lt_of_lt_of_le hz4 hb5.size
      clear hb5 hc5 x0 x1 x2 x3 x4 x5
      go_wp2_with fail
      refine (most_any l c _ w5 HE5.out (by omega)).mono ?_
      rw [HRES.out]
      rintro e w6 ⟨rfl, _, hb6⟩
      have HB6 : Hid (Below w.heap.size w w6) := HB5.out.trans (hb6.mono HB5.out.size)
      have HE6 : Hid (SSl w6 (.slice ad l.len cap) l) := HE5.out.below hb6
      have HA6 : Hid (ESl w6 (.slice (some ⟨w2.heap.size, 0, none⟩) 1 1) arg1) := HA5.out.below hb6
      have HS6 : Hid (Six w6 (w2.heap.size + 1) (.int .i64 6) (.string ⟨#[]⟩) (.int .i64 0) (.slice (some ⟨w2.heap.size, 0, none⟩) 1 1) (.slice ad l.len cap) (.slice none 0 0)) := HS5.out.keep (hb6.block _ hz5)
      have hz6 : w2.heap.size + 1 < w6.heap.size := Nat.lt_of_lt_of_le hz5 hb6.size
      clear hb6
      obtain ⟨x0, x1, x2, x3, x4, x5⟩ := HS6.out
      go_wp2_with fail
      refine (most_any (wrapS 6 l) c _ _ (wrap_in w6 _ rfl 6 l _ ad cap HA6.out HE6.out) (by simp [wrapS, arg1, SL.cnt, EL.cnt]; omega)).mono ?_
      rw [HRW.out]
      rintro e w7 ⟨rfl, _, hc7⟩
      have hb7 : Below w6.heap.size w6 w7 := ((Below.refl _ w6).alloc (Nat.le_refl _) _).trans (hc7.mono (by simp))
      have HB7 : Hid (Below w.heap.size w w7) := HB6.out.trans (hb7.mono HB6.out.size)
      clear hb7 hc7 x0 x1 x2 x3 x4 x5
      go_wp2_with fail
      refine (row_same _ _ [] w7 (by decide) (IRd.nil _) (IRd.nil _)).mono ?_
      rintro e w8 ⟨rfl, hb8⟩
      have HB8 : Hid (Below w.heap.size w w8) := HB7.out.trans (hb8.mono HB7.out.size)
      clear hb8
      go_wp2_with fail
      refine (alive_any _).mono ?_
      rintro e w9 ⟨rfl, hb9⟩
      have HB9 : Hid (Below w.heap.size w w9) := HB8.out.trans (hb9.mono HB8.out.size)
      clear hb9
      go_wp2
      go_ret
      exact ⟨rfl, HB9.out⟩
    · have HOL : Hid (st.out.length ≤ 1000000000) := by
        show _ ≤ _
        obtain ⟨s1, e1, rfl⟩ := shut_ok hres
        obtain ⟨x, y, e2, l2, _⟩ := runL_pre _ l _ _ e1
        show s1.out.length ≤ _
        rw [e2]
        simp [st0]
        omega
      clear hres
      go_wp2_with fail
      refine (slots_any l c _ w3 HE3.out (by omega)).mono ?_
      rw [HRES.out]
      rintro e w4 ⟨v4, rfl, hi4, hb4⟩
      have HI4 : Hid (IRd w4 v4 st.out) := hi4.rd
      obtain ⟨a4, c4, rfl⟩ := hi4.form
      clear hi4
      have HB4 : Hid (Below w.heap.size w w4) := HB3.out.trans (hb4.mono HB3.out.size)
      have HE4 : Hid (SSl w4 (.slice ad l.len cap) l) := HE3.out.below hb4
      have HA4 : Hid (ESl w4 (.slice (some ⟨w2.heap.size, 0, none⟩) 1 1) arg1) := HA3.out.below hb4
      have HS4 : Hid (Six w4 (w2.heap.size + 1) (.int .i64 6) (.string ⟨#[]⟩) (.int .i64 0) (.slice (some ⟨w2.heap.size, 0, none⟩) 1 1) (.slice ad l.len cap) (.slice none 0 0)) := HS3.out.keep (hb4.block _ hz3)
      have hz4 : w2.heap.size + 1 < w4.heap.size := Nat.lt_of_lt_of_le hz3 hb4.size
      clear hb4
      obtain ⟨x0, x1, x2, x3, x4, x5⟩ := HS4.out
      go_wp2_with fail
      refine (slots_any (wrapS 6 l) c _ _ (wrap_in w4 _ rfl 6 l _ ad cap HA4.out HE4.out) (by simp [wrapS, arg1, SL.cnt, EL.cnt]; omega)).mono ?_
      rw [HRW.out]
      rintro e w5 ⟨v5, rfl, hi5, hc5⟩
      have HI5 : Hid (IRd w5 v5 st.out) := hi5.rd
      obtain ⟨a5, c5, rfl⟩ := hi5.form
      clear hi5
      have hb5 : Below w4.heap.size w4 w5 := ((Below.refl _ w4).alloc (Nat.le_refl _) _).trans (hc5.mono (by simp))
      have HB5 : Hid (Below w.heap.size w w5) := HB4.out.trans (hb5.mono HB4.out.size)
      have HE5 : Hid (SSl w5 (.slice ad l.len cap) l) := HE4.out.below hb5
      have HA5 : Hid (ESl w5 (.slice (some ⟨w2.heap.size, 0, none⟩) 1 1) arg1) := HA4.out.below hb5
      have HS5 : Hid (Six w5 (w2.heap.size + 1) (.int .i64 6) (.string ⟨#[]⟩) (.int .i64 0) (.slice (some ⟨w2.heap.size, 0, none⟩) 1 1) (.slice ad l.len cap) (.slice none 0 0)) := HS4.out.keep (hb5.block _ hz4)
      have hz5 : w2.heap.size + 1 < w5.heap.size := Nat.lt_of_lt_of_le hz4 hb5.size
      have HI4b : Hid (IRd w5 (.slice a4 st.out.length c4) st.out) := HI4.out.below hb5
      clear hb5 hc5 x0 x1 x2 x3 x4 x5
      go_wp2_with fail
      refine (most_any l c _ w5 HE5.out (by omega)).mono ?_
      rw [HRES.out]
      rintro e w6 ⟨rfl, hb6⟩
      have HB6 : Hid (Below w.heap.size w w6) := HB5.out.trans (hb6.mono HB5.out.size)
      have HE6 : Hid (SSl w6 (.slice ad l.len cap) l) := HE5.out.below hb6
      have HA6 : Hid (ESl w6 (.slice (some ⟨w2.heap.size, 0, none⟩) 1 1) arg1) := HA5.out.below hb6
      have HS6 : Hid (Six w6 (w2.heap.size + 1) (.int .i64 6) (.string ⟨#[]⟩) (.int .i64 0) (.slice (some ⟨w2.heap.size, 0, none⟩) 1 1) (.slice ad l.len cap) (.slice none 0 0)) := HS5.out.keep (hb6.block _ hz5)
      have hz6 : w2.heap.size + 1 < w6.heap.size := Nat.lt_of_lt_of_le hz5 hb6.size
      have HI4c : Hid (IRd w6 (.slice a4 st.out.length c4) st.out) := HI4b.out.below hb6
      have HI5c : Hid (IRd w6 (.slice a5 st.out.length c5) st.out) := HI5.out.below hb6
      clear hb6
      obtain ⟨x0, x1, x2, x3, x4, x5⟩ := HS6.out
      go_wp2_with fail
      refine (most_any (wrapS 6 l) c _ _ (wrap_in w6 _ rfl 6 l _ ad cap HA6.out HE6.out) (by simp [wrapS, arg1, SL.cnt, EL.cnt]; omega)).mono ?_
      rw [HRW.out]
      rintro e w7 ⟨rfl, hc7⟩
      have hb7 : Below w6.heap.size w6 w7 := ((Below.refl _ w6).alloc (Nat.le_refl _) _).trans (hc7.mono (by simp))
      have HB7 : Hid (Below w.heap.size w w7) := HB6.out.trans (hb7.mono HB6.out.size)
      have HI4d : Hid (IRd w7 (.slice a4 st.out.length c4) st.out) := HI4c.out.below hb7
      have HI5d : Hid (IRd w7 (.slice a5 st.out.length c5) st.out) := HI5c.out.below hb7
      clear hb7 hc7 x0 x1 x2 x3 x4 x5
      go_wp2_with fail
      refine (row_same _ _ st.out w7 HOL.out HI4d.out HI5d.out).mono ?_
      rintro e w8 ⟨rfl, hb8⟩
      have HB8 : Hid (Below w.heap.size w w8) := HB7.out.trans (hb8.mono HB7.out.size)
      clear hb8
      go_wp2_with fail
      refine (alive_any _).mono ?_
      rintro e w9 ⟨rfl, hb9⟩
      have HB9 : Hid (Below w.heap.size w w9) := HB8.out.trans (hb9.mono HB8.out.size)
      clear hb9
      go_wp2
      go_ret
      exact ⟨rfl, HB9.out⟩
end Go.Proofs.Ytiafdlebggegfab
