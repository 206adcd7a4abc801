/- An arena beside blocks that it leaves alone; the chapter's example. -/
import Derived.Test.YtdohclnmcdempaaArD
namespace Go.Proofs.Ytdohclnmcdempaa
open Go.RowKit Go.Maps
set_option linter.unusedVariables false

/-- an arena that leaves the blocks of X alone -/
structure AB (X : Nat → Prop) (ab ub n : Nat) (L : List Nat) (w : World) : Prop where
  aa : ∃ ob, AA w ab ub ob n L ∧ ∀ g, ob = some g → ¬ X g
  x1 : ¬ X ab
  x2 : ¬ X ub
  xs : ∀ k, X k → k < w.heap.size
def no (X : Nat → Prop) : Nat → Prop := fun k => ¬ X k
section
variable {X : Nat → Prop} {ab ub n : Nat} {L : List Nat} {w w' : World}
theorem AB.ok (h : AB X ab ub n L w) : OkL n L := by obtain ⟨ob, h1, _⟩ := h.aa; exact h1.ok
theorem AB.below (h : AB X ab ub n L w) (c : Below w.heap.size w w') : AB X ab ub n L w' := by
  obtain ⟨ob, h1, h2⟩ := h.aa
  exact ⟨⟨ob, h1.below c, h2⟩, h.x1, h.x2, fun k hk => Nat.lt_of_lt_of_le (h.xs k hk) c.size⟩
theorem AB.drewN (h : AB X ab ub n L w) (k : Nat) : AB X ab ub n L (w.drewN k) := h.below (Below.dN (Below.refl _ _) k)
theorem AB.alloc (h : AB X ab ub n L w) (A : Obj) : AB X ab ub n L (w.alloc A) := h.below (bl1 w A)
/-- more that it leaves alone: what is new -/
theorem AB.more (h : AB X ab ub n L w) (c : Below w.heap.size w w') {X' : Nat → Prop} (hx : ∀ k, X' k → (X k ∨ w.heap.size ≤ k) ∧ k < w'.heap.size) : AB X' ab ub n L w' := by
  obtain ⟨ob, h1, h2⟩ := h.aa
  have hl := h1.lt
  refine ⟨⟨ob, h1.below c, fun g hg q => ?_⟩, fun q => ?_, fun q => ?_, fun k hk => (hx k hk).2⟩
  · rcases (hx g q).1 with r | r
    · exact h2 g hg r
    · have := hl.2.2 g hg; omega
  · rcases (hx ab q).1 with r | r
    · exact h.x1 r
    · omega
  · rcases (hx ub q).1 with r | r
    · exact h.x2 r
    · omega
theorem AB.set (h : AB X ab ub n L w) {g : Nat} (hg : X g) (i : Nat) (z : Value) : AB X ab ub n L (w.setCell ⟨g, i, none⟩ z) := by
  obtain ⟨ob, h1, h2⟩ := h.aa
  refine ⟨⟨ob, h1.set (fun e => h.x1 (e ▸ hg)) (fun e => h.x2 (e ▸ hg)) (fun e => h2 g e hg) i z, h2⟩, h.x1, h.x2, fun k hk => by simpa [World.setCell] using h.xs k hk⟩
theorem AB.live (h : AB X ab ub n L w) : Calls Try.prog 17 #[.pointer (some ⟨ab, 0, none⟩)] w (QD w (.int .i64 ((n : Int) - (L.length : Int)))) := by obtain ⟨ob, h1, _⟩ := h.aa; exact h1.live
theorem AB.free (h : AB X ab ub n L w) : Calls Try.prog 16 #[.pointer (some ⟨ab, 0, none⟩)] w (QD w (.int .i64 (L.length : Int))) := by obtain ⟨ob, h1, _⟩ := h.aa; exact h1.free
theorem AB.used (h : AB X ab ub n L w) (s : Int) : Calls Try.prog 18 #[.pointer (some ⟨ab, 0, none⟩), .int .i64 s] w (QD w (.bool (usedB n L s))) := by obtain ⟨ob, h1, _⟩ := h.aa; exact h1.used s
theorem AB.order (h : AB X ab ub n L w) : Calls Try.prog 15 #[.pointer (some ⟨ab, 0, none⟩)] w (OrderQ w L) := by obtain ⟨ob, h1, _⟩ := h.aa; exact h1.order
def TakeX (X : Nat → Prop) (ab ub n : Nat) (L : List Nat) (w : World) (e : Ending) (w' : World) : Prop :=
  e = .returned (.tuple #[.int .i64 ((L.headD 0 : Nat) : Int), .int .i64 (if L.isEmpty then 200 else 0)]) ∧ AB X ab ub n L.tail w' ∧ Ch (no X) w w'
theorem AB.take (h : AB X ab ub n L w) : Calls Try.prog 11 #[.pointer (some ⟨ab, 0, none⟩)] w (TakeX X ab ub n L w) := by
  obtain ⟨ob, h1, h2⟩ := h.aa
  refine (take_any w h1).mono ?_
  rintro e w' ⟨rfl, a, c⟩
  refine ⟨rfl, ⟨⟨ob, a, h2⟩, h.x1, h.x2, fun k hk => Nat.lt_of_lt_of_le (h.xs k hk) c.size⟩, c.mono (fun k hk q => ?_)⟩
  rcases hk with rfl | rfl
  · exact h.x1 q
  · exact h.x2 q
def BackX (X : Nat → Prop) (ab ub n : Nat) (L : List Nat) (s : Int) (w : World) (e : Ending) (w' : World) : Prop :=
  e = .returned (.int .i64 (if usedB n L s then 0 else 201)) ∧ AB X ab ub n (backL n L s) w' ∧ Ch (no X) w w'
theorem AB.back (h : AB X ab ub n L w) (s : Int) : Calls Try.prog 13 #[.pointer (some ⟨ab, 0, none⟩), .int .i64 s] w (BackX X ab ub n L s w) := by
  obtain ⟨ob, h1, h2⟩ := h.aa
  refine (back_any w h1 s).mono ?_
  rintro e w' ⟨rfl, c, ob', a, ho⟩
  refine ⟨rfl, ⟨⟨ob', a, fun g hg q => ?_⟩, h.x1, h.x2, fun k hk => Nat.lt_of_lt_of_le (h.xs k hk) c.size⟩, c.mono (fun k hk q => ?_)⟩
  · rcases ho with e | ⟨g', e, hl⟩
    · exact h2 g (e ▸ hg) q
    · have := h.xs g q
      rw [e] at hg
      injection hg with hg
      omega
  · rcases hk with rfl | rfl | hk
    · exact h.x1 q
    · exact h.x2 q
    · exact h2 k hk q
/-- a new arena leaves alone what was -/
theorem AB.first {w : World} {w' : World} {ab ub n : Nat} {L : List Nat} (h : AA w' ab ub none n L) (h1 : w.heap.size ≤ ab) (h2 : w.heap.size ≤ ub) (hs : w.heap.size ≤ w'.heap.size) : AB (fun k => k < w.heap.size) ab ub n L w' :=
  ⟨⟨none, h, fun g hg => by cases hg⟩, by omega, by omega, fun k hk => by omega⟩
theorem Ch.noB {X : Nat → Prop} {a b : World} (h : Ch (no X) a b) {B : Nat} (hB : B ≤ a.heap.size) (hX : ∀ k, k < B → X k) : Below B a b :=
  ⟨h.os, h.tape, h.output, h.size, fun k hk => h.block k (by omega) (fun q => q (hX k hk))⟩
set_option maxRecDepth 100000 in
set_option maxHeartbeats 2000000 in
theorem alive_any (w : World) : Calls Try.prog 19 #[] w fun e w' => e = .returned (.bool true) ∧ Below w.heap.size w w' := by
  have HX : Hid (∀ k, k < w.heap.size → (fun k => k < w.heap.size) k) := fun k hk => hk
  go_enter Try.func19, Try.ntmps19
  go_wp2_with fail
  refine (new_any 3 _).mono ?_
  rintro e w1 ⟨b1, h1⟩
  rw [if_pos (by omega)] at h1
  obtain ⟨ab, ub, rfl, A1, l1, l2⟩ := h1
  have A1 : Hid (AB (fun k => k < w.heap.size) ab ub 3 [0, 1, 2] w1) := AB.first A1 l1 l2 b1.size
  have B1 : Hid (Below w.heap.size w w1) := b1
  clear b1 l1 l2
  go_wp2_with fail
  refine (A1.out.take).mono ?_
  rintro e w2 ⟨rfl, A2, C2⟩
  have A2 : Hid (AB (fun k => k < w.heap.size) ab ub 3 [1, 2] w2) := A2
  have B2 : Hid (Below w.heap.size w w2) := B1.out.trans (C2.noB B1.out.size HX.out)
  clear C2
  go_wp2_with fail
  refine (A2.out.take).mono ?_
  rintro e w3 ⟨rfl, A3, C3⟩
  have A3 : Hid (AB (fun k => k < w.heap.size) ab ub 3 [2] w3) := A3
  have B3 : Hid (Below w.heap.size w w3) := B2.out.trans (C3.noB B2.out.size HX.out)
  clear C3
  go_wp2_with fail
  refine (A3.out.back 0).mono ?_
  rintro e w4 ⟨rfl, A4, C4⟩
  have A4 : Hid (AB (fun k => k < w.heap.size) ab ub 3 [0, 2] w4) := A4
  have B4 : Hid (Below w.heap.size w w4) := B3.out.trans (C4.noB B3.out.size HX.out)
  have e1 : usedB 3 [2] 0 = true := by decide
  rw [e1]
  clear C4 e1
  go_wp2_with fail
  refine (A4.out.take).mono ?_
  rintro e w5 ⟨rfl, A5, C5⟩
  have A5 : Hid (AB (fun k => k < w.heap.size) ab ub 3 [2] w5) := A5
  have B5 : Hid (Below w.heap.size w w5) := B4.out.trans (C5.noB B4.out.size HX.out)
  clear C5
  go_wp2_with fail
  refine (A5.out.live).mono ?_
  rintro e w6 ⟨rfl, k6, rfl⟩
  have A6 : Hid (AB (fun k => k < w.heap.size) ab ub 3 [2] (w5.drewN k6)) := A5.out.drewN _
  have B6 : Hid (Below w.heap.size w (w5.drewN k6)) := Below.dN B5.out _
  go_wp2_with fail
  refine (A6.out.free).mono ?_
  rintro e w7 ⟨rfl, k7, rfl⟩
  have A7 : Hid (AB (fun k => k < w.heap.size) ab ub 3 [2] ((w5.drewN k6).drewN k7)) := A6.out.drewN _
  have B7 : Hid (Below w.heap.size w ((w5.drewN k6).drewN k7)) := Below.dN B6.out _
  generalize (w5.drewN k6).drewN k7 = W7 at *
  go_wp2_with fail
  refine (A7.out.back 7).mono ?_
  rintro e w8 ⟨rfl, A8, C8⟩
  have B8 : Hid (Below w.heap.size w w8) := B7.out.trans (C8.noB B7.out.size HX.out)
  have e1 : usedB 3 [2] 7 = false := by decide
  rw [e1]
  clear C8 A8 e1
  go_wp2
  first | exact ⟨rfl, B8.out⟩ | (go_ret; exact ⟨rfl, B8.out⟩)
end
end Go.Proofs.Ytdohclnmcdempaa
