/- How edges are held against one another. -/
import Derived.Test.YtongeppdaeekeaaGrR
import Derived.Test.YtongeppdaeekeaaAtI
import Derived.Deep.CutRange
import Derived.Deep.RegionHeld3
namespace Go.Proofs.Ytongeppdaeekeaa
open Go.RowKit Go.Maps
set_option linter.unusedVariables false

/-- edges -/
def kE : RK (Int × Int) := { st := 86, et := 90, k := 2, bytes := 16, cl := duo, len := fun _ => rfl, one := duo_one, pos := by decide, zero := .agg #[.int .i64 0, .int .i64 0], und := Try.underlying86, inf := by kernel_rfl, zs := rfl, bd := by decide }
def SameW (w : World) (v : Value) (e : Ending) (w' : World) : Prop := e = .returned v ∧ w' = w
set_option maxRecDepth 100000 in
theorem nan_any (a : Int) (w : World) : Calls Try.prog 112 #[.int .i64 a] w (SameW w (.bool false)) := by
  have HF : Hid (SameW w (.bool false) (.returned (.bool false)) w) := ⟨rfl, rfl⟩
  generalize SameW w (.bool false) = P at *
  go_enter Try.func112, Try.ntmps112
  go_wp2
  first | exact HF.out | (go_ret; exact HF.out)
set_option maxRecDepth 100000 in
set_option maxHeartbeats 2000000 in
theorem cmp_any (a b : Int) (w : World) : Calls Try.prog 105 #[.int .i64 a, .int .i64 b] w (SameW w (.int .i64 (cmpI a b))) := by
  have HN : Hid (∀ (a : Int) (w : World), Calls Try.prog 112 #[.int .i64 a] w (SameW w (.bool false))) := nan_any
  have HF : Hid (SameW w (.int .i64 (cmpI a b)) (.returned (.int .i64 (cmpI a b))) w) := ⟨rfl, rfl⟩
  have HC : Hid (cmpI a b = if a < b then -1 else if b < a then 1 else 0) := rfl
  generalize SameW w (.int .i64 (cmpI a b)) = P at *
  by_cases h1 : a < b
  · rw [HC.out, if_pos h1] at HF
    go_enter Try.func105, Try.ntmps105
    go_wp2_with fail
    refine (HN.out _ _).mono ?_
    rintro e w1 ⟨rfl, rfl⟩
    go_wp2_with fail
    refine (HN.out _ _).mono ?_
    rintro e w2 ⟨rfl, hw2⟩
    subst hw2
    go_wp2
    first | exact HF.out | (go_ret; exact HF.out)
  · by_cases h2 : b < a
    · rw [HC.out, if_neg h1, if_pos h2] at HF
      go_enter Try.func105, Try.ntmps105
      go_wp2_with fail
      refine (HN.out _ _).mono ?_
      rintro e w1 ⟨rfl, rfl⟩
      go_wp2_with fail
      refine (HN.out _ _).mono ?_
      rintro e w2 ⟨rfl, hw2⟩
      subst hw2
      go_wp2
      first | exact HF.out | (go_ret; exact HF.out)
    · rw [HC.out, if_neg h1, if_neg h2] at HF
      go_enter Try.func105, Try.ntmps105
      go_wp2_with fail
      refine (HN.out _ _).mono ?_
      rintro e w1 ⟨rfl, rfl⟩
      go_wp2_with fail
      refine (HN.out _ _).mono ?_
      rintro e w2 ⟨rfl, hw2⟩
      subst hw2
      go_wp2
      first | exact HF.out | (go_ret; exact HF.out)
def orI (a b : Int) : Int := if a ≠ 0 then a else b
set_option maxRecDepth 100000 in
set_option maxHeartbeats 2000000 in
/-- the first of two numbers that isn't 0 -/
theorem or_any (w : World) (g : Nat) (a b : Int) (h0 : w.cell? ⟨g, 0, none⟩ = some (.int .i64 a)) (h1 : w.cell? ⟨g, 1, none⟩ = some (.int .i64 b)) : Calls Try.prog 104 #[.slice (some ⟨g, 0, none⟩) 2 2] w (SameW w (.int .i64 (orI a b))) := by
  have HF : Hid (∀ x, x = (orI a b) → SameW w (.int .i64 (orI a b)) (.returned (.int .i64 x)) w) := fun x h => ⟨by rw [h], rfl⟩
  generalize SameW w (.int .i64 (orI a b)) = P at *
  go_enter Try.func104, Try.ntmps104
  go_wp2_with fail
  go_loopw [5, 8] (fun _ i wr => wr = w ∧ ∃ q : Nat, i = .int .i64 (q : Int) ∧ q ≤ 2 ∧ Hid ((1 ≤ q → a = 0) ∧ (2 ≤ q → b = 0))) (fun _ i _ => 2 - (intOf i).toNat)
  case atStart => exact ⟨rfl, 0, rfl, by omega, fun h => absurd h (by omega), fun h => absurd h (by omega)⟩
  case round =>
    obtain ⟨rfl, q, rfl, hq, HI⟩ := hrel
    have hc : q = 0 ∨ q = 1 ∨ q = 2 := by omega
    rcases hc with rfl | rfl | rfl
    · by_cases ha : a = 0
      · have t : (a != 0) = false := by simp [ha]
        have HI2 : Hid ((1 ≤ 1 → a = 0) ∧ (2 ≤ 1 → b = 0)) := ⟨fun _ => ha, fun h => absurd h (by omega)⟩
        clear ha HI
        go_wp2_with fail
        go_roundw
        case rel => exact ⟨trivial, 1, by go_num, by omega, HI2⟩
        case measure => simp [intOf]
      · have t : (a != 0) = true := by simp [ha]
        have HR : Hid (P (.returned (.int .i64 a)) wr) := HF.out a (by unfold orI; rw [if_pos ha])
        go_wp2
        first | exact HR.out | (go_ret; exact HR.out)
    · have ha : a = 0 := HI.out.1 (Nat.le_refl _)
      by_cases hb : b = 0
      · have t : (b != 0) = false := by simp [hb]
        have HI2 : Hid ((1 ≤ 2 → a = 0) ∧ (2 ≤ 2 → b = 0)) := ⟨fun _ => ha, fun _ => hb⟩
        clear ha hb HI
        go_wp2_with fail
        go_roundw
        case rel => exact ⟨trivial, 2, by go_num, by omega, HI2⟩
        case measure => simp [intOf]
      · have t : (b != 0) = true := by simp [hb]
        have HR : Hid (P (.returned (.int .i64 b)) wr) := HF.out b (by unfold orI; rw [ha, if_neg (by decide)])
        clear ha
        go_wp2
        first | exact HR.out | (go_ret; exact HR.out)
    · have ha : a = 0 := HI.out.1 (by omega)
      have hb : b = 0 := HI.out.2 (by omega)
      have HR : Hid (P (.returned (.int .i64 0)) wr) := HF.out 0 (by rw [ha, hb]; rfl)
      clear ha hb
      go_wp2
      first | exact HR.out | (go_ret; exact HR.out)
def edA (z : Int × Int) : Value := .agg #[.int .i64 z.1, .int .i64 z.2]
set_option maxRecDepth 100000 in
set_option maxHeartbeats 4000000 in
theorem order_any (a b : Int × Int) (w : World) : Calls Try.prog 94 #[edA a, edA b] w (AN w (.int .i64 (ordI a b))) := by
  obtain ⟨a0, a1⟩ := a
  obtain ⟨b0, b1⟩ := b
  have HC : Hid (∀ x y W, Calls Try.prog 105 #[.int .i64 x, .int .i64 y] W (SameW W (.int .i64 (cmpI x y)))) := fun x y W => cmp_any x y W
  have HO : Hid (∀ (W : World) x y, Calls Try.prog 104 #[.slice (some ⟨W.heap.size, 0, none⟩) 2 2] (W.alloc (.cells #[.int .i64 x, .int .i64 y] 3)).drew (SameW (W.alloc (.cells #[.int .i64 x, .int .i64 y] 3)).drew (.int .i64 (orI x y)))) := fun W x y => or_any _ _ x y (by simp) (by simp)
  have HF : Hid (∀ W, Below w.heap.size w W → AN w (.int .i64 (ordI (a0, a1) (b0, b1))) (.returned (.int .i64 (orI (cmpI a1 b1) (cmpI a0 b0)))) W) := fun W h => ⟨rfl, h⟩
  have hU : ∃ U, (w.alloc (.cells #[.int .i64 a0, .int .i64 a1] 90)).alloc (.cells #[.int .i64 b0, .int .i64 b1] 90) = U := ⟨_, rfl⟩
  obtain ⟨U, hU⟩ := hU
  have HU : Hid ((w.alloc (.cells #[.int .i64 a0, .int .i64 a1] 90)).alloc (.cells #[.int .i64 b0, .int .i64 b1] 90) = U) := hU
  obtain ⟨g, hg⟩ : ∃ g, w.heap.size = g := ⟨_, rfl⟩
  have HG : Hid (w.heap.size = g) := hg
  have hbU : Below g w U := by rw [← hU, ← hg]; exact (bl1 w _).alloc (bl1 w _).size _
  have hsU : U.heap.size = g + 2 := by rw [← hU, ← hg]; simp
  have cU : ∀ W, Below U.heap.size U W → W.cell? ⟨g, 0, none⟩ = some (.int .i64 a0) ∧ W.cell? ⟨g, 1, none⟩ = some (.int .i64 a1) ∧ W.cell? ⟨g + 1, 0, none⟩ = some (.int .i64 b0) ∧ W.cell? ⟨g + 1, 1, none⟩ = some (.int .i64 b1) := by
    intro W hW
    have e1 : W.heap[g]? = some (.cells #[.int .i64 a0, .int .i64 a1] 90) := (hW.block g (by omega)).trans (by rw [← hU, ← hg, heap_alloc_old _ _ (by simp)]; exact heap_alloc_new _ _)
    have e2 : W.heap[g + 1]? = some (.cells #[.int .i64 b0, .int .i64 b1] 90) := (hW.block (g + 1) (by omega)).trans (by rw [← hU, ← hg]; exact heap_alloc2_new _ _ _)
    exact ⟨by rw [cell_of_row W g _ _ _ _ e1]; rfl, by rw [cell_of_row W g _ _ _ _ e1]; rfl, by rw [cell_of_row W (g + 1) _ _ _ _ e2]; rfl, by rw [cell_of_row W (g + 1) _ _ _ _ e2]; rfl⟩
  have HCU : Hid (∀ W, Below U.heap.size U W → W.cell? ⟨g, 0, none⟩ = some (.int .i64 a0) ∧ W.cell? ⟨g, 1, none⟩ = some (.int .i64 a1) ∧ W.cell? ⟨g + 1, 0, none⟩ = some (.int .i64 b0) ∧ W.cell? ⟨g + 1, 1, none⟩ = some (.int .i64 b1)) := cU
  have HB : Hid (Below w.heap.size w U) := by rw [← hg] at hbU; exact hbU
  clear hU hg hbU hsU cU
  generalize AN w (.int .i64 (ordI (a0, a1) (b0, b1))) = P at *
  unfold edA
  go_enter Try.func94, Try.ntmps94
  go_upto_region 1 with fail
  rw [HU.out, HG.out]
  clear HU
  have hSd := HCU.out U.drew (Below.refl _ _).drew
  have hSA := fun A => HCU.out (U.alloc A).drew (bl1 U A).drew
  have HR : Hid (∀ A, P (.returned (.int .i64 (orI (cmpI a1 b1) (cmpI a0 b0)))) (U.alloc A).drew) := fun A => HF.out _ (HB.out.trans ((bl1 U A).drew.mono HB.out.size))
  go_region_held3 (fun W => W.cell? ⟨g, 0, none⟩ = some (.int .i64 a0) ∧ W.cell? ⟨g, 1, none⟩ = some (.int .i64 a1) ∧ W.cell? ⟨g + 1, 0, none⟩ = some (.int .i64 b0) ∧ W.cell? ⟨g + 1, 1, none⟩ = some (.int .i64 b1))
    (first | with_reducible exact hSd | with_reducible exact hSA _)
    (first
      | (go_at_call 105; refine (HC.out _ _ _).mono ?_; rintro e w3 ⟨rfl, hw3⟩; rw [hw3]; clear hw3)
      | (go_at_call 104; refine (HO.out U _ _).mono ?_; rintro e w3 ⟨rfl, hw3⟩; rw [hw3]; clear hw3))
  clear hSd hSA
  go_wp2
  first | exact HR.out _ | (go_ret; exact HR.out _)
end Go.Proofs.Ytongeppdaeekeaa
