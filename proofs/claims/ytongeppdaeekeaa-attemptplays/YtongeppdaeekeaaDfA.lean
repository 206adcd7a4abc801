/- The document's log as a value; which place a word's read has, its write. -/
import Derived.Test.YtongeppdaeekeaaAtD
import Derived.Test.YtongeppdaeekeaaFldA
import Derived.Deep.RegionHeldLaw
namespace Go.Proofs.Ytongeppdaeekeaa
open Go.RowKit Go.Maps
set_option linter.unusedVariables false

/-- the document's log -/
structure Dg where
  R : Int
  W : Int
  O : Int
  Rd : List (Int × Int)
  Rs : List (Int × Int × Int)
  Ws : List (Int × Int)
  Os : List Int
  Is : List (Int × Int)
/-- its eight cells -/
structure DX (w : World) (d : Dg) (dv rv wv ov iv : Value) : Prop where
  dd : RS kD w dv d.Rd
  rr : RS kQ w rv d.Rs
  ww : RS kC w wv d.Ws
  oo : RS kN w ov d.Os
  ii : RS kI w iv d.Is
def DV (w : World) (v : Value) (d : Dg) : Prop := ∃ dv rv wv ov iv, v = .agg #[.int .i64 d.R, .int .i64 d.W, .int .i64 d.O, dv, rv, wv, ov, iv] ∧ DX w d dv rv wv ov iv
section
variable {w w' : World} {v dv rv wv ov iv : Value} {d : Dg}
theorem DX.below (h : DX w d dv rv wv ov iv) (b : Below w.heap.size w w') : DX w' d dv rv wv ov iv := ⟨h.dd.below b, h.rr.below b, h.ww.below b, h.oo.below b, h.ii.below b⟩
theorem DV.below (h : DV w v d) (b : Below w.heap.size w w') : DV w' v d := by
  obtain ⟨_, _, _, _, _, e, h⟩ := h
  exact ⟨_, _, _, _, _, e, h.below b⟩
/-- how the box that holds it lies -/
def dcs (d : Dg) (dv rv wv ov iv : Value) : Array Value := #[.int .i64 d.R, .int .i64 d.W, .int .i64 d.O, dv, rv, wv, ov, iv]
theorem box_cell {g : Nat} {a0 a1 a2 a3 a4 a5 a6 a7 : Value} (h : w.heap[g]? = some (.cells #[a0, a1, a2, a3, a4, a5, a6, a7] 35)) :
    w.cell? ⟨g, 0, none⟩ = some a0 ∧ w.cell? ⟨g, 1, none⟩ = some a1 ∧ w.cell? ⟨g, 2, none⟩ = some a2 ∧ w.cell? ⟨g, 3, none⟩ = some a3 ∧ w.cell? ⟨g, 4, none⟩ = some a4 ∧ w.cell? ⟨g, 5, none⟩ = some a5 ∧ w.cell? ⟨g, 6, none⟩ = some a6 ∧ w.cell? ⟨g, 7, none⟩ = some a7 := by
  refine ⟨?_, ?_, ?_, ?_, ?_, ?_, ?_, ?_⟩ <;> (rw [cell_of_row w g _ _ _ _ h]; rfl)
def idxI (k n : Nat) : Int := if k < n then (k : Int) else -1
end
set_option maxRecDepth 100000 in
set_option maxHeartbeats 4000000 in
theorem rread_any {w : World} {v : Value} {d : Dg} (h : DV w v d) (at' : Int) (hl : d.Rs.length ≤ 1000) : Calls Try.prog 57 #[v, .int .i64 at'] w (AN w (.int .i64 (idxI (d.Rs.findIdx (isR at')) d.Rs.length))) := by
  obtain ⟨dv, rv, wv, ov, iv, rfl, h⟩ := h
  obtain ⟨m, hm⟩ : ∃ m, d.Rs.length = m := ⟨_, rfl⟩
  have HM : Hid (d.Rs.length = m) := hm
  have HX : Hid (∀ A, RS kQ (w.alloc A) rv d.Rs) := fun A => h.rr.below (bl1 w A)
  have HF : Hid (∀ A, (∀ j (hj : j < d.Rs.length), isR at' d.Rs[j] = false) → AN w (.int .i64 (idxI (d.Rs.findIdx (isR at')) d.Rs.length)) (.returned (.int .i64 (-1))) (w.alloc A)) := fun A h => by
    rw [findIdx_none _ _ h, idxI, if_neg (Nat.lt_irrefl _)]
    exact ⟨rfl, bl1 w A⟩
  have HT : Hid (∀ A q, ∀ hq : q < d.Rs.length, (∀ j (hj : j < d.Rs.length), j < q → isR at' d.Rs[j] = false) → isR at' d.Rs[q] = true → AN w (.int .i64 (idxI (d.Rs.findIdx (isR at')) d.Rs.length)) (.returned (.int .i64 (q : Int))) (w.alloc A)) := fun A q hq h hp => by
    rw [findIdx_at _ _ q hq h hp, idxI, if_pos hq]
    exact ⟨rfl, bl1 w A⟩
  generalize AN w (.int .i64 (idxI (d.Rs.findIdx (isR at')) d.Rs.length)) = P at *
  obtain ⟨a, c, e⟩ := h.rr.form
  rw [hm] at hl e
  subst e
  clear h hm
  have hb : (w.alloc (.cells #[.int .i64 d.R, .int .i64 d.W, .int .i64 d.O, dv, .slice a m c, wv, ov, iv] 35)).cell? ⟨w.heap.size, 4, none⟩ = some (.slice a m c) := by simp
  go_enter Try.func57, Try.ntmps57
  go_wp2_with fail
  obtain ⟨B, hB⟩ : ∃ B, Obj.cells #[.int .i64 d.R, .int .i64 d.W, .int .i64 d.O, dv, .slice a m c, wv, ov, iv] 35 = B := ⟨_, rfl⟩
  simp only [hB] at hb ⊢
  have HX2 := HX.out B
  have HF2 : Hid _ := HF.out B
  have HT2 : Hid _ := HT.out B
  clear hB HX HF HT
  generalize w.alloc B = V at *
  have HV : Hid (RS kQ V (.slice a m c) d.Rs) := HX2
  clear HX2
  go_loop [5] (fun i => ∃ q : Nat, i = .int .i64 (q : Int) ∧ q ≤ m ∧ Hid (∀ j (hj : j < d.Rs.length), j < q → isR at' d.Rs[j] = false)) (fun i => m - (intOf i).toNat)
  case atStart => exact ⟨0, rfl, Nat.zero_le _, fun j hj h => absurd h (by omega)⟩
  case round =>
    obtain ⟨q, rfl, hq, HN⟩ := hrel
    by_cases hlt : q < m
    · have e1 : decide (q < m) = true := by simp; omega
      have hq' : q < d.Rs.length := by rw [HM.out]; exact hlt
      obtain ⟨b, o, n, c', hg, hcl⟩ := HV.out.cell hq'
      simp only [Value.slice.injEq] at hg
      obtain ⟨rfl, _, rfl⟩ := hg
      obtain ⟨z0, z1, z2, hz⟩ : ∃ z0 z1 z2, d.Rs[q] = (z0, z1, z2) := ⟨d.Rs[q].1, d.Rs[q].2.1, d.Rs[q].2.2, rfl⟩
      rw [hz] at hcl
      obtain ⟨c0, c1, c2⟩ := tri_cells rfl rfl hcl
      clear hcl
      by_cases hp : z0 = at'
      · have hp' : (z0 == at') = true := by simp [hp]
        have HZ : Hid (isR at' d.Rs[q] = true) := by rw [hz]; exact hp'
        have HQ : Hid (P (.returned (.int .i64 (q : Int))) V) := HT2.out q hq' HN.out HZ.out
        clear hz
        go_wp2
        first | exact HQ.out | (go_ret; exact HQ.out)
      · have hp' : (z0 == at') = false := by simp [hp]
        have HZ : Hid (isR at' d.Rs[q] = false) := by rw [hz]; exact hp'
        have HN2 : Hid (∀ j (hj : j < d.Rs.length), j < q + 1 → isR at' d.Rs[j] = false) := fun j hj h => by
          rcases Nat.lt_or_ge j q with r | r
          · exact HN.out j hj r
          · have : j = q := by omega
            subst this
            exact HZ.out
        clear hz
        go_wp2_with fail
        go_round
        case rel => exact ⟨q + 1, by go_num, by omega, HN2⟩
        case measure => simp [intOf]; omega
    · have e1 : decide (q < m) = false := by simp; omega
      have hqm : q = m := by omega
      subst hqm
      have HQ : Hid (P (.returned (.int .i64 (-1))) V) := HF2.out (fun j hj => HN.out j hj (by rw [HM.out] at hj; exact hj))
      go_wp2
      first | exact HQ.out | (go_ret; exact HQ.out)
set_option maxRecDepth 100000 in
set_option maxHeartbeats 4000000 in
theorem rwritten_any {w : World} {v : Value} {d : Dg} (h : DV w v d) (at' : Int) (hl : d.Ws.length ≤ 1000) : Calls Try.prog 59 #[v, .int .i64 at'] w (AN w (.int .i64 (idxI (d.Ws.findIdx (isC at')) d.Ws.length))) := by
  obtain ⟨dv, rv, wv, ov, iv, rfl, h⟩ := h
  obtain ⟨m, hm⟩ : ∃ m, d.Ws.length = m := ⟨_, rfl⟩
  have HM : Hid (d.Ws.length = m) := hm
  have HX : Hid (∀ A, RS kC (w.alloc A) wv d.Ws) := fun A => h.ww.below (bl1 w A)
  have HF : Hid (∀ A, (∀ j (hj : j < d.Ws.length), isC at' d.Ws[j] = false) → AN w (.int .i64 (idxI (d.Ws.findIdx (isC at')) d.Ws.length)) (.returned (.int .i64 (-1))) (w.alloc A)) := fun A h => by
    rw [findIdx_none _ _ h, idxI, if_neg (Nat.lt_irrefl _)]
    exact ⟨rfl, bl1 w A⟩
  have HT : Hid (∀ A q, ∀ hq : q < d.Ws.length, (∀ j (hj : j < d.Ws.length), j < q → isC at' d.Ws[j] = false) → isC at' d.Ws[q] = true → AN w (.int .i64 (idxI (d.Ws.findIdx (isC at')) d.Ws.length)) (.returned (.int .i64 (q : Int))) (w.alloc A)) := fun A q hq h hp => by
    rw [findIdx_at _ _ q hq h hp, idxI, if_pos hq]
    exact ⟨rfl, bl1 w A⟩
  generalize AN w (.int .i64 (idxI (d.Ws.findIdx (isC at')) d.Ws.length)) = P at *
  obtain ⟨a, c, e⟩ := h.ww.form
  rw [hm] at hl e
  subst e
  clear h hm
  have hb : (w.alloc (.cells #[.int .i64 d.R, .int .i64 d.W, .int .i64 d.O, dv, rv, .slice a m c, ov, iv] 35)).cell? ⟨w.heap.size, 5, none⟩ = some (.slice a m c) := by simp
  go_enter Try.func59, Try.ntmps59
  go_wp2_with fail
  obtain ⟨B, hB⟩ : ∃ B, Obj.cells #[.int .i64 d.R, .int .i64 d.W, .int .i64 d.O, dv, rv, .slice a m c, ov, iv] 35 = B := ⟨_, rfl⟩
  simp only [hB] at hb ⊢
  have HX2 := HX.out B
  have HF2 : Hid _ := HF.out B
  have HT2 : Hid _ := HT.out B
  clear hB HX HF HT
  generalize w.alloc B = V at *
  have HV : Hid (RS kC V (.slice a m c) d.Ws) := HX2
  clear HX2
  go_loop [5] (fun i => ∃ q : Nat, i = .int .i64 (q : Int) ∧ q ≤ m ∧ Hid (∀ j (hj : j < d.Ws.length), j < q → isC at' d.Ws[j] = false)) (fun i => m - (intOf i).toNat)
  case atStart => exact ⟨0, rfl, Nat.zero_le _, fun j hj h => absurd h (by omega)⟩
  case round =>
    obtain ⟨q, rfl, hq, HN⟩ := hrel
    by_cases hlt : q < m
    · have e1 : decide (q < m) = true := by simp; omega
      have hq' : q < d.Ws.length := by rw [HM.out]; exact hlt
      obtain ⟨b, o, n, c', hg, hcl⟩ := HV.out.cell hq'
      simp only [Value.slice.injEq] at hg
      obtain ⟨rfl, _, rfl⟩ := hg
      obtain ⟨z0, z1, hz⟩ : ∃ z0 z1, d.Ws[q] = (z0, z1) := ⟨d.Ws[q].1, d.Ws[q].2, rfl⟩
      rw [hz] at hcl
      obtain ⟨c0, c1⟩ := duo_cells rfl rfl hcl
      clear hcl
      by_cases hp : z0 = at'
      · have hp' : (z0 == at') = true := by simp [hp]
        have HZ : Hid (isC at' d.Ws[q] = true) := by rw [hz]; exact hp'
        have HQ : Hid (P (.returned (.int .i64 (q : Int))) V) := HT2.out q hq' HN.out HZ.out
        clear hz
        go_wp2
        first | exact HQ.out | (go_ret; exact HQ.out)
      · have hp' : (z0 == at') = false := by simp [hp]
        have HZ : Hid (isC at' d.Ws[q] = false) := by rw [hz]; exact hp'
        have HN2 : Hid (∀ j (hj : j < d.Ws.length), j < q + 1 → isC at' d.Ws[j] = false) := fun j hj h => by
          rcases Nat.lt_or_ge j q with r | r
          · exact HN.out j hj r
          · have : j = q := by omega
            subst this
            exact HZ.out
        clear hz
        go_wp2_with fail
        go_round
        case rel => exact ⟨q + 1, by go_num, by omega, HN2⟩
        case measure => simp [intOf]; omega
    · have e1 : decide (q < m) = false := by simp; omega
      have hqm : q = m := by omega
      subst hqm
      have HQ : Hid (P (.returned (.int .i64 (-1))) V) := HF2.out (fun j hj => HN.out j hj (by rw [HM.out] at hj; exact hj))
      go_wp2
      first | exact HQ.out | (go_ret; exact HQ.out)
end Go.Proofs.Ytongeppdaeekeaa
