/- Ages in a heap: what their methods do. -/
import Derived.Test.YtongeppdaeekeaaGrJ
import Derived.Test.YtongeppdaeekeaaGrP
namespace Go.Proofs.Ytongeppdaeekeaa
open Go.RowKit Go.Maps
set_option linter.unusedVariables false

def kG : RK Int := { st := 159, et := 3, k := 1, bytes := 8, cl := uno, len := fun _ => rfl, one := uno_one, pos := by decide, zero := .int .i64 0, und := Try.underlying159, inf := by kernel_rfl, zs := rfl, bd := by decide }
structure AV (w : World) (ab : Nat) (hv : Value) (H : List Int) : Prop where
  bl : w.heap[ab]? = some (.cells #[hv] 159)
  rz : RZ kG w hv H
  ne : hv.ownBlock ≠ some ab
  ll : H.length ≤ 2000
section
variable {w w' : World} {ab : Nat} {hv : Value} {H : List Int}
theorem AV.lt (h : AV w ab hv H) : ab < w.heap.size := (Array.getElem?_eq_some_iff.1 h.bl).1
theorem AV.below (h : AV w ab hv H) (b : Below w.heap.size w w') : AV w' ab hv H := ⟨(b.block ab h.lt).trans h.bl, h.rz.below b, h.ne, h.ll⟩
theorem AV.cell (h : AV w ab hv H) : w.cell? ⟨ab, 0, none⟩ = some hv := by rw [cell_of_row w ab _ _ _ _ h.bl]; rfl
theorem AV.fr (h : AV w ab hv H) : w.frozen? ⟨ab, 0, none⟩ = false := frozen_of_row w ab 0 _ _ h.bl
theorem AV.num (h : AV w ab hv H) {i : Nat} (hi : i < H.length) : ∃ g c, hv = .slice (some ⟨g, 0, none⟩) H.length c ∧ w.cell? ⟨g, i, none⟩ = some (.int .i64 (at0 H i)) ∧ w.frozen? ⟨g, i, none⟩ = false := by
  obtain ⟨g, c, e, h1, h2⟩ := h.rz.cell hi
  refine ⟨g, c, e, ?_, h2 i⟩
  have := h1 0 (by decide)
  have e1 : i * kG.k + 0 = i := by show i * 1 + 0 = i; omega
  rw [e1] at this
  rw [this, at0_get H i hi]
  rfl
set_option maxRecDepth 100000 in
theorem alen_any (h : AV w ab hv H) : Calls Try.prog 76 #[.pointer (some ⟨ab, 0, none⟩)] w (SameW w (.int .i64 (H.length : Int))) := by
  have c1 := h.cell
  have HF : Hid (SameW w (.int .i64 (H.length : Int)) (.returned (.int .i64 (H.length : Int))) w) := ⟨rfl, rfl⟩
  obtain ⟨a, c, e⟩ := h.rz.sl
  subst e
  clear h
  generalize SameW w (.int .i64 (H.length : Int)) = P at *
  generalize H.length = n at *
  go_enter Try.func76, Try.ntmps76
  go_wp2
  first | exact HF.out | (go_ret; exact HF.out)
set_option maxRecDepth 100000 in
set_option maxHeartbeats 4000000 in
theorem less_any (h : AV w ab hv H) (i j : Nat) (hi : i < H.length) (hj : j < H.length) : Calls Try.prog 146 #[.pointer (some ⟨ab, 0, none⟩), .int .i64 (i : Int), .int .i64 (j : Int)] w (AN w (.bool (decide (at0 H i < at0 H j)))) := by
  have c1 := h.cell
  obtain ⟨g, c, e, x0, _⟩ := h.num hi
  obtain ⟨g', c', e', x1, _⟩ := h.num hj
  have hl := h.ll
  subst e
  injection e' with e1 e2 e3
  injection e1 with e1
  injection e1 with e1
  subst e1 e3
  have HF : Hid (∀ W, Below w.heap.size w W → AN w (.bool (decide (at0 H i < at0 H j))) (.returned (.bool (decide (at0 H i < at0 H j)))) W) := fun W hW => ⟨rfl, hW⟩
  have HR : Hid (∀ k, AN w (.bool (decide (at0 H i < at0 H j))) (.returned (.bool (decide (at0 H i < at0 H j)))) (w.drewN k)) := fun k => ⟨rfl, Go.Proofs.Ytongeppdaeekeaa.Below.dN (Below.refl _ w) k⟩
  have HR1 : Hid (AN w (.bool (decide (at0 H i < at0 H j))) (.returned (.bool (decide (at0 H i < at0 H j)))) w.drew) := ⟨rfl, (Below.refl _ w).drew⟩
  clear h HF
  generalize AN w (.bool (decide (at0 H i < at0 H j))) = P at *
  generalize at0 H i = a at *
  generalize at0 H j = b at *
  generalize H.length = n at *
  have i1 : (0 : Int) ≤ (i : Int) := by omega
  have i2 : (i : Int) < (n : Int) := by omega
  have j1 : (0 : Int) ≤ (j : Int) := by omega
  have j2 : (j : Int) < (n : Int) := by omega
  go_enter Try.func146, Try.ntmps146
  go_upto_region 1 with fail
  go_region_held3 (fun W => W.cell? ⟨ab, 0, none⟩ = some (.slice (some ⟨g, 0, none⟩) n c) ∧ W.cell? ⟨g, i, none⟩ = some (.int .i64 a) ∧ W.cell? ⟨g, j, none⟩ = some (.int .i64 b)) (exact ⟨c1, x0, x1⟩) (fail)
  go_wp2
  first | exact HR1.out | (go_ret; exact HR1.out) | exact HR.out _ | (go_ret; exact HR.out _)
/-- what a call leaves of the ages -/
def AQ (w : World) (ab : Nat) (hv : Value) (H' : List Int) (x : Value) (e : Ending) (w' : World) : Prop :=
  ∃ hv', e = .returned x ∧ AV w' ab hv' H' ∧ Ch (fun k => k = ab ∨ hv.ownBlock = some k) w w' ∧ (hv'.ownBlock = hv.ownBlock ∨ ∃ n, w.heap.size ≤ n ∧ hv'.ownBlock = some n)
end
/-- new ages -/
def ANewQ (age : Int) (w : World) (e : Ending) (w' : World) : Prop := ∃ ab hv, e = .returned (.pointer (some ⟨ab, 0, none⟩)) ∧ AV w' ab hv [age] ∧ Below w.heap.size w w' ∧ w.heap.size ≤ ab ∧ ∀ g, hv.ownBlock = some g → w.heap.size ≤ g
set_option maxRecDepth 100000 in
set_option maxHeartbeats 2000000 in
theorem anew_any (age : Int) (w : World) : Calls Try.prog 75 #[.int .i64 age] w (ANewQ age w) := by
  have hown : RZ kG (w.alloc (.cells #[.int .i64 age] 3)) (.slice (some ⟨w.heap.size, 0, none⟩) 1 1) [age] :=
    ⟨by simp [RK.flat, kG, uno], .inr ⟨w.heap.size, 1, #[.int .i64 age], rfl, Nat.zero_le _, heap_alloc_new _ _, Nat.le_refl _, by unfold maxLen; omega, rfl, by simp [RK.flat, kG, uno]⟩⟩
  have HO : Hid (ANewQ age w (.returned (.pointer (some ⟨w.heap.size + 1, 0, none⟩))) ((w.alloc (.cells #[.int .i64 age] 3)).alloc (.cells #[.slice (some ⟨w.heap.size, 0, none⟩) 1 1] 159))) := by
    refine ⟨w.heap.size + 1, .slice (some ⟨w.heap.size, 0, none⟩) 1 1, rfl, ⟨?_, hown.below (bl1 _ _), ?_, by simp⟩, (bl1 w _).alloc (bl1 w _).size _, by omega, fun g hg => by simp [Value.ownBlock] at hg; omega⟩
    · have := heap_alloc_new (w.alloc (.cells #[.int .i64 age] 3)) (.cells #[.slice (some ⟨w.heap.size, 0, none⟩) 1 1] 159)
      simpa using this
    · simp [Value.ownBlock]
  generalize ANewQ age w = P at *
  clear hown
  go_enter Try.func75, Try.ntmps75
  go_wp2
  first | exact HO.out | (go_ret; exact HO.out)
end Go.Proofs.Ytongeppdaeekeaa
