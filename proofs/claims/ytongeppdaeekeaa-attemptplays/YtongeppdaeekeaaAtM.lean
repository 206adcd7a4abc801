/- What went into reductions, joined onto numbers; two rows that are the same. -/
import Derived.Test.YtongeppdaeekeaaAtL
import Derived.Test.YtongeppdaeekeaaAtJ
namespace Go.Proofs.Ytongeppdaeekeaa
open Go.RowKit Go.Maps
set_option linter.unusedVariables false

section
variable {w w' V w4 : World} {lab lab' : Nat → Nat} {c lb hb bo bn : Nat} {rv wv ov : Value} {many : Int} {s : Lg}
set_option maxRecDepth 100000 in
set_option maxHeartbeats 4000000 in
theorem lonto_any (h : LV w lab c lb s) (v : Value) (A : List Int) (hv : GSl w v A) : Calls Try.prog 21 #[.pointer (some ⟨lb, 0, none⟩), v] w (OntoP s.ops s.now A w) := by
  obtain ⟨hb, bo, bn, rv, wv, ov, many, h⟩ := h
  have HC : Hid (Calls Try.prog 66 #[.pointer (some ⟨hb, 0, none⟩), v] w (OntoP s.ops s.now A w)) := onto_any A v w h.hp hv
  have HP : Hid (∀ e W, OntoP s.ops s.now A w e W → ∃ x y, e = .returned (.tuple #[x, .bool y])) := fun e W h => by
    rcases h with ⟨_, h, _⟩ | ⟨_, h, _⟩
    · exact ⟨_, _, h⟩
    · exact ⟨_, _, h⟩
  have c6 := h.cell.2.2.2.2.2.2
  obtain ⟨a1, k1, e1⟩ := hv.form
  subst e1
  clear h hv
  generalize OntoP s.ops s.now A w = P at *
  generalize A.length = n at *
  go_enter Try.func21, Try.ntmps21
  go_wp2_with fail
  refine HC.out.mono ?_
  rintro e w2 hq
  obtain ⟨x, y, rfl⟩ := HP.out _ _ hq
  have HQ : Hid (P (.returned (.tuple #[x, .bool y])) w2) := hq
  go_wp2
  first | exact HQ.out | (go_ret2; exact HQ.out)
end
set_option maxRecDepth 100000 in
set_option maxHeartbeats 4000000 in
theorem rsame_true {w : World} {v1 v2 : Value} {l : List (Int × Int)} (h1 : RS kC w v1 l) (h2 : RS kC w v2 l) (hl : l.length ≤ 1000) : Calls Try.prog 16 #[v1, v2] w (AN w (.bool true)) := by
  obtain ⟨m, hm⟩ : ∃ m, l.length = m := ⟨_, rfl⟩
  have HM : Hid (l.length = m) := hm
  have H1 : Hid (RS kC w v1 l) := h1
  have H2 : Hid (RS kC w v2 l) := h2
  obtain ⟨a1, c1, e1⟩ := h1.form
  obtain ⟨a2, c2, e2⟩ := h2.form
  rw [hm] at hl e1 e2
  subst e1 e2
  clear hm h1 h2
  have HF : Hid (∀ W, Below w.heap.size w W → AN w (.bool true) (.returned (.bool true)) W) := fun W hW => ⟨rfl, hW⟩
  generalize AN w _ = P at *
  go_enter Try.func16, Try.ntmps16
  go_wp2_with fail
  go_loopw [5] (fun i wr => ∃ q : Nat, i = .int .i64 (q : Int) ∧ q ≤ m ∧ Hid (Below w.heap.size w wr)) (fun i _ => m - (intOf i).toNat)
  case atStart => exact ⟨0, rfl, Nat.zero_le _, Below.refl _ _⟩
  case round =>
    obtain ⟨q, rfl, hq, HB⟩ := hrel
    by_cases hlt : q < m
    · have d1 : decide (q < m) = true := by simp; omega
      have hq' : q < l.length := by rw [HM.out]; exact hlt
      obtain ⟨b, o, n, c', hg, hcl⟩ := (H1.out.below HB.out).cell hq'
      simp only [Value.slice.injEq] at hg
      obtain ⟨rfl, rfl, rfl⟩ := hg
      obtain ⟨b', o', n', c2', hg, hcl2⟩ := (H2.out.below HB.out).cell hq'
      simp only [Value.slice.injEq] at hg
      obtain ⟨rfl, rfl, rfl⟩ := hg
      obtain ⟨⟨z0, z1⟩, hz⟩ : ∃ x, l[q]'hq' = x := ⟨_, rfl⟩
      rw [hz] at hcl hcl2
      obtain ⟨y0, y1⟩ := duo_cells rfl rfl hcl
      obtain ⟨x0, x1⟩ := duo_cells rfl rfl hcl2
      have i1 : (0 : Int) ≤ (q : Int) := by omega
      have i2 : (q : Int) < (m : Int) := by omega
      clear hcl hcl2 hz hq'
      go_wp2_with fail
      go_quiet (fail)
      go_wp2_with fail
      go_roundw
      case rel => exact ⟨q + 1, by go_num, by omega, Below.dN HB.out _⟩
      case measure => simp [intOf]; omega
    · have d1 : decide (q < m) = false := by simp; omega
      have hqm : q = m := by omega
      subst hqm
      have HQ : Hid (P (.returned (.bool true)) wr) := HF.out _ HB.out
      go_wp2
      first | exact HQ.out | (go_ret; exact HQ.out)
set_option maxRecDepth 100000 in
set_option maxHeartbeats 4000000 in
theorem rrow_true {w : World} {v1 v2 : Value} {l : List Int} (h1 : RS kN w v1 l) (h2 : RS kN w v2 l) (hl : l.length ≤ 1000) : Calls Try.prog 18 #[v1, v2] w (AN w (.bool true)) := by
  obtain ⟨m, hm⟩ : ∃ m, l.length = m := ⟨_, rfl⟩
  have HM : Hid (l.length = m) := hm
  have H1 : Hid (RS kN w v1 l) := h1
  have H2 : Hid (RS kN w v2 l) := h2
  obtain ⟨a1, c1, e1⟩ := h1.form
  obtain ⟨a2, c2, e2⟩ := h2.form
  rw [hm] at hl e1 e2
  subst e1 e2
  clear hm h1 h2
  have HF : Hid (∀ W, Below w.heap.size w W → AN w (.bool true) (.returned (.bool true)) W) := fun W hW => ⟨rfl, hW⟩
  generalize AN w _ = P at *
  go_enter Try.func18, Try.ntmps18
  go_wp2_with fail
  go_loopw [5] (fun i wr => ∃ q : Nat, i = .int .i64 (q : Int) ∧ q ≤ m ∧ Hid (Below w.heap.size w wr)) (fun i _ => m - (intOf i).toNat)
  case atStart => exact ⟨0, rfl, Nat.zero_le _, Below.refl _ _⟩
  case round =>
    obtain ⟨q, rfl, hq, HB⟩ := hrel
    by_cases hlt : q < m
    · have d1 : decide (q < m) = true := by simp; omega
      have hq' : q < l.length := by rw [HM.out]; exact hlt
      obtain ⟨b, o, n, c', hg, hcl⟩ := (H1.out.below HB.out).cell hq'
      simp only [Value.slice.injEq] at hg
      obtain ⟨rfl, rfl, rfl⟩ := hg
      obtain ⟨b', o', n', c2', hg, hcl2⟩ := (H2.out.below HB.out).cell hq'
      simp only [Value.slice.injEq] at hg
      obtain ⟨rfl, rfl, rfl⟩ := hg
      obtain ⟨z0, hz⟩ : ∃ x, l[q]'hq' = x := ⟨_, rfl⟩
      rw [hz] at hcl hcl2
      have y0 := uno_cell rfl rfl hcl
      have x0 := uno_cell rfl rfl hcl2
      have i1 : (0 : Int) ≤ (q : Int) := by omega
      have i2 : (q : Int) < (m : Int) := by omega
      clear hcl hcl2 hz hq'
      go_wp2_with fail
      go_quiet (fail)
      go_wp2_with fail
      go_roundw
      case rel => exact ⟨q + 1, by go_num, by omega, Below.dN HB.out _⟩
      case measure => simp [intOf]; omega
    · have d1 : decide (q < m) = false := by simp; omega
      have hqm : q = m := by omega
      subst hqm
      have HQ : Hid (P (.returned (.bool true)) wr) := HF.out _ HB.out
      go_wp2
      first | exact HQ.out | (go_ret; exact HQ.out)
end Go.Proofs.Ytongeppdaeekeaa
