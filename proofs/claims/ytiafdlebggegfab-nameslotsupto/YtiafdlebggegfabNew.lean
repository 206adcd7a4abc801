/- A walker that is new; Slots and Most. -/
import Derived.Test.YtiafdlebggegfabBlock
namespace Go.Proofs.Ytiafdlebggegfab
open Go.RowKit Go.Maps Go.WideMaps
set_option linter.unusedVariables false

theorem rep0 : Rep [] (.map [] : DataW Unit) := ⟨fun s => rfl, fun s r h => (by cases h), rfl, tidy_empty⟩
theorem rep3 : Rep st0.T ((((DataW.map [] : DataW Unit).put (kl [110]) (rl 0)).put (kl [105]) (rl 1)).put (kl [107]) (rl 2)) :=
  ((rep0.put [110] rfl 0).put [105] (by decide) 1).put [107] (by decide) 2

/-- what a new walker is -/
def NewPost (c : Int) (w : World) (e : Ending) (w' : World) : Prop := ∃ pb mb base, e = .returned (.pointer (some ⟨pb, 0, none⟩)) ∧ WSt w' pb mb base (min c 4) (.slice none 0 0) st0 ∧ Ctx w pb mb base ∧ Below w.heap.size w w'

set_option maxRecDepth 100000 in
set_option maxHeartbeats 1000000 in
theorem new_any (c : Int) (w : World) : Calls Try.prog 16 #[.int .i64 c] w (NewPost c w) := by
  have hmm := @run_makeMap Try.prog
  have o0 : (w.alloc (.map #[] 0)).ownsMap Try.prog 9 (plainElem Try.prog 3) w.heap.size 0 (.map [] : DataW Unit) := World.ownsMap_made w Try.prog 9 _
  have K1 : keyOf Try.prog 9 (.string ⟨#[110]⟩) = some (kl [110]) := keyOf_string_mk Try.underlying9 (by unfold maxLen; decide)
  have K2 : keyOf Try.prog 9 (.string ⟨#[105]⟩) = some (kl [105]) := keyOf_string_mk Try.underlying9 (by unfold maxLen; decide)
  have K3 : keyOf Try.prog 9 (.string ⟨#[107]⟩) = some (kl [107]) := keyOf_string_mk Try.underlying9 (by unfold maxLen; decide)
  obtain ⟨w1, e1, o1, g1⟩ := o0.update law9 Try.underlying51 (by unfold maxLen; decide) K1 (plainElem_int Try.underlying3 (WalkArith.wf_i64 (n := 0) (by omega)))
  obtain ⟨w2, e2, o2, g2⟩ := o1.update law9 Try.underlying51 (by unfold maxLen; decide) K2 (plainElem_int Try.underlying3 (WalkArith.wf_i64 (n := 1) (by omega)))
  obtain ⟨w3, e3, o3, g3⟩ := o2.update law9 Try.underlying51 (by unfold maxLen; decide) K3 (plainElem_int Try.underlying3 (WalkArith.wf_i64 (n := 2) (by omega)))
  have g13 : (w.alloc (.map #[] 0)).grownBy w3 (some w.heap.size) := (g1.trans g2).trans g3
  have hs0 : (w.alloc (.map #[] 0)).heap.size = w.heap.size + 1 := by simp
  have hs3 : w.heap.size + 1 ≤ w3.heap.size := hs0 ▸ g13.size
  have HB3 : Hid (Below w.heap.size w w3) := ((Below.refl _ w).alloc (Nat.le_refl _) (.map #[] 0)).grown g13 (by omega) (fun k hk => by cases hk; exact Nat.le_refl _)
  have HO3 : Hid (w3.ownsMap Try.prog 9 (plainElem Try.prog 3) w.heap.size st0.T.length ((((DataW.map [] : DataW Unit).put (kl [110]) (rl 0)).put (kl [105]) (rl 1)).put (kl [107]) (rl 2))) := o3
  have HFin : Hid (∀ m : Int, WSt (w3.alloc (.cells #[.map (some w.heap.size), .int .i64 m, .slice none 0 0, .int .i64 0] 53)) w3.heap.size w.heap.size (w3.heap.size + 1) m (.slice none 0 0) st0 ∧ Ctx w w3.heap.size w.heap.size (w3.heap.size + 1) ∧ Below w.heap.size w (w3.alloc (.cells #[.map (some w.heap.size), .int .i64 m, .slice none 0 0, .int .i64 0] 53))) := by
    intro m
    refine ⟨⟨by simp, by simp, by simp, by simp [st0], by simp, by simp, ⟨rfl, Or.inl ⟨rfl, rfl⟩⟩, ⟨_, HO3.out.alloc _, rep3⟩, by omega, by omega, by omega, by simp⟩, ⟨by omega, by omega, by omega⟩, HB3.out.alloc HB3.out.size _⟩
  clear o0 o1 o2 o3 g1 g2 g3 g13 K1 K2 K3 hs0
  by_cases hc : c ≤ 4
  · have hmin : min c 4 = c := by omega
    have HMN : Hid (min c 4 = c) := hmin
    clear hmin
    go_enter Try.func16, Try.ntmps16
    go_wp2
    go_ret
    obtain ⟨q1, q2, q3⟩ := HFin.out c
    exact ⟨_, _, _, rfl, by rw [HMN.out]; exact q1, q2, q3⟩
  · have hmin : min c 4 = 4 := by omega
    have HMN : Hid (min c 4 = 4) := hmin
    clear hmin
    go_enter Try.func16, Try.ntmps16
    go_wp2
    go_ret
    obtain ⟨q1, q2, q3⟩ := HFin.out 4
    exact ⟨_, _, _, rfl, by rw [HMN.out]; exact q1, q2, q3⟩

/-- what Slots answers -/
def SlotsPost (w : World) : Res → Ending → World → Prop
  | .err x, e, w' => e = .returned (.tuple #[.slice none 0 0, .int .i64 x]) ∧ (x == 0) = false ∧ Below w.heap.size w w'
  | .ok st, e, w' => ∃ v, e = .returned (.tuple #[v, .int .i64 0]) ∧ Ints w' w.heap.size v st.out ∧ Below w.heap.size w w'
def MostPost (w : World) : Res → Ending → World → Prop
  | .err x, e, w' => e = .returned (.tuple #[.int .i64 0, .int .i64 x]) ∧ (x == 0) = false ∧ Below w.heap.size w w'
  | .ok st, e, w' => e = .returned (.tuple #[.int .i64 st.most, .int .i64 0]) ∧ Below w.heap.size w w'
theorem Ints.mono {w : World} {base base' : Nat} {v : Value} {l : List Int} (h : Ints w base v l) (hb : base' ≤ base) : Ints w base' v l := by
  obtain ⟨h1, h2⟩ := h
  refine ⟨h1, ?_⟩
  rcases h2 with h2 | ⟨g, cap, cur, e1, e2, e3⟩
  · exact Or.inl h2
  · exact Or.inr ⟨g, cap, cur, e1, by omega, e3⟩
theorem Ints.form {w : World} {base : Nat} {v : Value} {l : List Int} (h : Ints w base v l) : ∃ a c, v = .slice a l.length c := by
  rcases h.2 with ⟨h, h0⟩ | ⟨g, cap, _, h, _⟩
  · exact ⟨none, 0, by rw [h0]; exact h⟩
  · exact ⟨_, _, h⟩

set_option maxRecDepth 100000 in
set_option maxHeartbeats 1000000 in
theorem slots_any (l : SL) (c : Int) (va : Value) (w : World) (hE : SSl w va l) (hl : l.cnt ≤ 1000000000) : Calls Try.prog 10 #[va, .int .i64 c] w (SlotsPost w (slots l (min c 4))) := by
  have HE : Hid (SSl w va l) := hE
  obtain ⟨ad, cap, b, o, rfl, _⟩ := hE
  obtain ⟨res, hres⟩ : ∃ r, slots l (min c 4) = r := ⟨_, rfl⟩
  have HRES : Hid ((runL (min c 4) l st0).shut st0.T = res) := hres
  rw [hres]
  clear hres
  go_enter Try.func10, Try.ntmps10
  go_wp2_with fail
  refine (new_any c w).mono ?_
  rintro e w1 ⟨pb, mb, base, rfl, hw1, hcx, hb1⟩
  have HW1 : Hid (WSt w1 pb mb base (min c 4) (.slice none 0 0) st0) := hw1
  have HCX : Hid (Ctx w pb mb base) := hcx
  have HB1 : Hid (Below w.heap.size w w1) := hb1
  clear hw1 hcx hb1
  go_wp2_with fail
  refine (block_any w pb mb base (min c 4) HCX.out _ l (Nat.le_refl _) _ w1 _ st0 HE.out HW1.out good0 HB1.out (by show 0 + l.cnt ≤ _; omega)).mono ?_
  intro e w2 hp
  rw [HRES.out] at hp
  rcases res with x | st
  · obtain ⟨rfl, hx, v2, hf2⟩ := hp
    have HB2 : Hid (Below w.heap.size w w2) := HCX.out.below HW1.out hf2 HB1.out
    clear hf2
    go_wp2
    go_ret2
    exact ⟨rfl, hx, HB2.out⟩
  · obtain ⟨rfl, v2, hw2, hf2⟩ := hp
    have HB2 : Hid (Below w.heap.size w w2) := HCX.out.below HW1.out hf2 HB1.out
    have HI2 : Hid (Ints w2 w.heap.size v2 st.out) := hw2.ints.mono HCX.out.b
    have c2 := hw2.c2
    obtain ⟨a2, cc2, rfl⟩ := hw2.ints.form
    clear hf2 hw2
    go_wp2
    go_ret2
    exact ⟨_, rfl, HI2.out, HB2.out⟩

set_option maxRecDepth 100000 in
set_option maxHeartbeats 1000000 in
theorem most_any (l : SL) (c : Int) (va : Value) (w : World) (hE : SSl w va l) (hl : l.cnt ≤ 1000000000) : Calls Try.prog 11 #[va, .int .i64 c] w (MostPost w (slots l (min c 4))) := by
  have HE : Hid (SSl w va l) := hE
  obtain ⟨ad, cap, b, o, rfl, _⟩ := hE
  obtain ⟨res, hres⟩ : ∃ r, slots l (min c 4) = r := ⟨_, rfl⟩
  have HRES : Hid ((runL (min c 4) l st0).shut st0.T = res) := hres
  rw [hres]
  clear hres
  go_enter Try.func11, Try.ntmps11
  go_wp2_with fail
  refine (new_any c w).mono ?_
  rintro e w1 ⟨pb, mb, base, rfl, hw1, hcx, hb1⟩
  have HW1 : Hid (WSt w1 pb mb base (min c 4) (.slice none 0 0) st0) := hw1
  have HCX : Hid (Ctx w pb mb base) := hcx
  have HB1 : Hid (Below w.heap.size w w1) := hb1
  clear hw1 hcx hb1
  go_wp2_with fail
  refine (block_any w pb mb base (min c 4) HCX.out _ l (Nat.le_refl _) _ w1 _ st0 HE.out HW1.out good0 HB1.out (by show 0 + l.cnt ≤ _; omega)).mono ?_
  intro e w2 hp
  rw [HRES.out] at hp
  rcases res with x | st
  · obtain ⟨rfl, hx, v2, hf2⟩ := hp
    have HB2 : Hid (Below w.heap.size w w2) := HCX.out.below HW1.out hf2 HB1.out
    clear hf2
    go_wp2
    go_ret2
    exact ⟨rfl, hx, HB2.out⟩
  · obtain ⟨rfl, v2, hw2, hf2⟩ := hp
    have HB2 : Hid (Below w.heap.size w w2) := HCX.out.below HW1.out hf2 HB1.out
    have c3 := hw2.c3
    clear hf2 hw2
    go_wp2
    go_ret2
    exact ⟨rfl, HB2.out⟩
end Go.Proofs.Ytiafdlebggegfab
