/- The document's registers of all names, and NameSlots walked. -/
import Derived.Test.YtiafdlebggegfabRBlk
import Derived.Test.YtiafdlebggegfabMay
import Derived.Test.YtiafdlebggegfabAlive
import Derived.Test.YtiafdlebggegfabOpen
import Derived.Test.YtiafdlebggegfabRow
namespace Go.Proofs.Ytiafdlebggegfab
open Go.RowKit Go.Maps Go.WideMaps
set_option linter.unusedVariables false

def RSlots (w : World) : Res → Ending → World → Prop
  | .err x, e, w' => e = .returned (.tuple #[.slice none 0 0, .int .i64 0, .int .i64 x]) ∧ (x == 0) = false ∧ Below w.heap.size w w'
  | .ok st, e, w' => ∃ oa oc, e = .returned (.tuple #[.slice oa st.out.length oc, .int .i64 st.most, .int .i64 0]) ∧ Ints w' w.heap.size (.slice oa st.out.length oc) st.out ∧ Below w.heap.size w w'
theorem goodT : Good ⟨tabOf [], [], 0⟩ := ⟨by decide, by decide, by decide, by decide, by decide⟩

set_option maxRecDepth 100000 in
set_option maxHeartbeats 1000000 in
theorem rslots_any (l : SL) (c : Int) (va : Value) (w : World) (hE : SSl w va l) (hl : l.cnt ≤ 1000000000) : Calls Try.prog 12 #[va, .int .i64 c] w (RSlots w (slots l (min c 4))) := by
  have HC : Hid (Calls Try.prog 18 #[va, .slice none 0 0, .int .i64 c, .slice none 0 0, .int .i64 0] w (OPost w.heap.size w (.slice none 0 0) (runL (min c 4) l ⟨tabOf [], [], 0⟩))) :=
    rblock_any w w.heap.size c (Nat.le_refl _) _ l (Nat.le_refl _) va w [] none 0 none 0 [] 0 hE ⟨TRd.nil _ _, fun _ => rfl⟩ (World.ownsRow_nil _ _ _ _) (Nat.le_refl _) goodT (Below.refl _ _) (by simpa using hl)
  obtain ⟨ad, cap, b, o, rfl, _⟩ := hE
  obtain ⟨res, hres⟩ : ∃ r, slots l (min c 4) = r := ⟨_, rfl⟩
  have HRES : Hid ((runL (min c 4) l ⟨tabOf [], [], 0⟩).shut st0.T = res) := hres
  rw [hres]
  clear hres
  go_enter Try.func12, Try.ntmps12
  go_wp2_with fail
  refine HC.out.mono ?_
  intro e1 w2 hp
  rcases r1 : runL (min c 4) l ⟨tabOf [], [], 0⟩ with x | st
  · rw [r1] at hp
    obtain ⟨⟨ta5, tn5, tc5, m5, rfl⟩, hx, v', hq⟩ := hp
    have HB : Hid (Below w.heap.size w w2) := hq.below (Nat.le_refl _) (fun k hk => by cases hk)
    have HRR : Hid (res = .err x) := by show _ = _; rw [← HRES.out, r1]; rfl
    clear r1 hq
    go_wp2
    go_ret3
    rw [HRR.out]
    exact ⟨rfl, hx, HB.out⟩
  · rw [r1] at hp
    obtain ⟨th5, ta5, tc5, oa5, oc5, rfl, hT5, hO5, hR5, hG5⟩ := hp
    have HB : Hid (Below w.heap.size w w2) := hG5.below (Nat.le_refl _) (fun k hk => by cases hk)
    have HRR : Hid (res = .ok ⟨st0.T, st.out, st.most⟩) := by show _ = _; rw [← HRES.out, r1]; rfl
    have HO : Hid (Ints w2 w.heap.size (.slice oa5 st.out.length oc5) st.out) := hO5
    clear r1 hT5 hO5 hR5 hG5
    go_wp2
    go_ret3
    rw [HRR.out]
    exact ⟨oa5, oc5, rfl, HO.out, HB.out⟩

set_option maxRecDepth 100000 in
set_option maxHeartbeats 4000000 in
theorem slots_walk (l : SL) (ad : Option Addr) (cap : Nat) (c : Int) (w : World) (hE : SSl w (.slice ad l.len cap) l) (h9 : l.cnt ≤ 1048576) :
    Calls Try.prog 3 #[.slice ad l.len cap, .int .i64 c] w fun e w' => e = .returned (.bool true) ∧ Below w.heap.size w w' := by
  have HE : Hid (SSl w (.slice ad l.len cap) l) := hE
  have HG : Hid _ := great_any l _ w hE (by omega)
  clear hE
  obtain ⟨gb, hgb⟩ : ∃ b, decide (5000 < (l.cnt : Int)) = b := ⟨_, rfl⟩
  have HGB : Hid (decide (5000 < (l.cnt : Int)) = gb) := hgb
  clear hgb
  go_enter Try.func3, Try.ntmps3
  go_wp2_with fail
  refine Calls.mono HG.out ?_
  rw [HGB.out]
  rintro e w1 ⟨rfl, hb1⟩
  have HB1 : Hid (Below w.heap.size w w1) := hb1
  have HE1 : Hid (SSl w1 (.slice ad l.len cap) l) := HE.out.below hb1
  clear hb1
  rcases gb with _ | _
  case true =>
    go_wp2_with fail
    refine (alive_any _).mono ?_
    rintro e w9 ⟨rfl, hb9⟩
    have HB9 : Hid (Below w.heap.size w w9) := HB1.out.trans (hb9.mono HB1.out.size)
    clear hb9
    go_wp2
    go_ret
    exact ⟨rfl, HB9.out⟩
  go_wp2_with fail
  refine Calls.mono (right_any l _ w1 HE1.out (by omega)) ?_
  rintro e w2 ⟨rb, rfl, hb2⟩
  have HB2 : Hid (Below w.heap.size w w2) := HB1.out.trans (hb2.mono HB1.out.size)
  have HE2 : Hid (SSl w2 (.slice ad l.len cap) l) := HE1.out.below hb2
  clear hb2
  rcases rb with _ | _
  case false =>
    go_wp2_with fail
    refine (alive_any _).mono ?_
    rintro e w9 ⟨rfl, hb9⟩
    have HB9 : Hid (Below w.heap.size w w9) := HB2.out.trans (hb9.mono HB2.out.size)
    clear hb9
    go_wp2
    go_ret
    exact ⟨rfl, HB9.out⟩
  obtain ⟨res, hres⟩ : ∃ r, slots l (min c 4) = r := ⟨_, rfl⟩
  have HRES : Hid (slots l (min c 4) = res) := hres
  have HLO : Hid (∀ st, res = .ok st → st.out.length ≤ l.cnt) := by
    intro st e9
    rw [← hres] at e9
    have := (shutL_good (st := st0) (l := l) (cells := min c 4) goodT e9).2.2
    simpa [st0] using this
  clear hres
  rcases res with x | st
  · go_wp2_with fail
    refine (slots_any l c _ w2 HE2.out (by omega)).mono ?_
    rw [HRES.out]
    rintro e w4 ⟨rfl, hx, hb4⟩
    have HB4 : Hid (Below w.heap.size w w4) := HB2.out.trans (hb4.mono HB2.out.size)
    have HE4 : Hid (SSl w4 (.slice ad l.len cap) l) := HE2.out.below hb4
    clear hb4
    go_wp2_with fail
    refine (most_any l c _ w4 HE4.out (by omega)).mono ?_
    rw [HRES.out]
    rintro e w5 ⟨rfl, _, hb5⟩
    have HB5 : Hid (Below w.heap.size w w5) := HB4.out.trans (hb5.mono HB4.out.size)
    have HE5 : Hid (SSl w5 (.slice ad l.len cap) l) := HE4.out.below hb5
    clear hb5
    go_wp2_with fail
    refine (rslots_any l c _ w5 HE5.out (by omega)).mono ?_
    rw [HRES.out]
    rintro e w6 ⟨rfl, _, hb6⟩
    have HB6 : Hid (Below w.heap.size w w6) := HB5.out.trans (hb6.mono HB5.out.size)
    clear hb6
    go_wp2_with fail
    refine (row_same _ _ [] w6 (by decide) (IRd.nil _) (IRd.nil _)).mono ?_
    rintro e w8 ⟨rfl, hb8⟩
    have HB8 : Hid (Below w.heap.size w w8) := HB6.out.trans (hb8.mono HB6.out.size)
    clear hb8
    go_wp2_with fail
    refine (alive_any _).mono ?_
    rintro e w9 ⟨rfl, hb9⟩
    have HB9 : Hid (Below w.heap.size w w9) := HB8.out.trans (hb9.mono HB8.out.size)
    clear hb9
    go_wp2
    go_ret
    exact ⟨rfl, HB9.out⟩
  · have hol : st.out.length ≤ 1048576 := by have := HLO.out st rfl; omega
    go_wp2_with fail
    refine (slots_any l c _ w2 HE2.out (by omega)).mono ?_
    rw [HRES.out]
    rintro e w4 ⟨v4, rfl, hi4, hb4⟩
    have HB4 : Hid (Below w.heap.size w w4) := HB2.out.trans (hb4.mono HB2.out.size)
    have HE4 : Hid (SSl w4 (.slice ad l.len cap) l) := HE2.out.below hb4
    have HR4 : Hid (IRd w4 v4 st.out) := hi4.rd
    obtain ⟨a4, c4, rfl⟩ := hi4.form
    clear hb4 hi4
    go_wp2_with fail
    refine (most_any l c _ w4 HE4.out (by omega)).mono ?_
    rw [HRES.out]
    rintro e w5 ⟨rfl, hb5⟩
    have HB5 : Hid (Below w.heap.size w w5) := HB4.out.trans (hb5.mono HB4.out.size)
    have HE5 : Hid (SSl w5 (.slice ad l.len cap) l) := HE4.out.below hb5
    have HR5 : Hid (IRd w5 (.slice a4 st.out.length c4) st.out) := HR4.out.below hb5
    clear hb5
    go_wp2_with fail
    refine (rslots_any l c _ w5 HE5.out (by omega)).mono ?_
    rw [HRES.out]
    rintro e w6 ⟨oa, oc, rfl, hi6, hb6⟩
    have HB6 : Hid (Below w.heap.size w w6) := HB5.out.trans (hb6.mono HB5.out.size)
    have HR6 : Hid (IRd w6 (.slice a4 st.out.length c4) st.out) := HR5.out.below hb6
    have HQ6 : Hid (IRd w6 (.slice oa st.out.length oc) st.out) := hi6.rd
    clear hb6 hi6
    go_wp2_with fail
    refine (row_same _ _ st.out w6 (by omega) HR6.out HQ6.out).mono ?_
    rintro e w8 ⟨rfl, hb8⟩
    have HB8 : Hid (Below w.heap.size w w8) := HB6.out.trans (hb8.mono HB6.out.size)
    clear hb8
    go_wp2_with fail
    refine (alive_any _).mono ?_
    rintro e w9 ⟨rfl, hb9⟩
    have HB9 : Hid (Below w.heap.size w w9) := HB8.out.trans (hb9.mono HB8.out.size)
    clear hb9
    go_wp2
    go_ret
    exact ⟨rfl, HB9.out⟩
end Go.Proofs.Ytiafdlebggegfab
