/- Numbers go into a heap, and are joined onto others. -/
import Derived.Test.YtongeppdaeekeaaHp
import Derived.StillTailTactics
namespace Go.Proofs.Ytongeppdaeekeaa
open Go.RowKit Go.Maps
set_option linter.unusedVariables false

/-- a slice of numbers -/
def GSl (w : World) (v : Value) (G : List Int) : Prop :=
  ∃ a c b o, v = .slice a G.length c ∧ G.length ≤ c ∧ c ≤ maxLen ∧ (0 < G.length → a = some ⟨b, o, none⟩) ∧ ∀ i (h : i < G.length), w.cell? ⟨b, o + i, none⟩ = some (.int .i64 G[i])
theorem GSl.below {w w' : World} {v : Value} {G : List Int} (h : GSl w v G) (hb : Below w.heap.size w w') : GSl w' v G := by
  obtain ⟨a, c, b, o, h1, h2, h3, h4, h5⟩ := h
  exact ⟨a, c, b, o, h1, h2, h3, h4, fun i hi => (hb.cell (p := ⟨b, o + i, none⟩) (World.block_lt_of_cell? w _ (h5 i hi))).trans (h5 i hi)⟩
theorem GSl.ch {w w' : World} {v : Value} {G : List Int} {p : Nat → Prop} (h : GSl w v G) {W : World} (hW : Below w.heap.size w W) (hc : Ch p W w') (hp : ∀ k, p k → w.heap.size ≤ k) : GSl w' v G := by
  obtain ⟨a, c, b, o, h1, h2, h3, h4, h5⟩ := h
  refine ⟨a, c, b, o, h1, h2, h3, h4, fun i hi => ?_⟩
  have hlt : b < w.heap.size := World.block_lt_of_cell? w _ (h5 i hi)
  have h6 := (hW.cell (p := ⟨b, o + i, none⟩) hlt).trans (h5 i hi)
  have hs := hW.size
  exact (World.cell?_of_block (a := ⟨b, o + i, none⟩) (hc.block b (by omega) (fun q => by have := hp b q; omega))).trans h6
theorem GSl.nil (w : World) : GSl w (.slice none 0 0) [] := ⟨none, 0, 0, 0, rfl, Nat.le_refl _, Nat.zero_le _, fun h => absurd h (by simp), fun i hi => absurd hi (by simp)⟩

def inB (N : Nat) (c : Int) : Bool := decide (0 ≤ c ∧ c < N)
def addL (ops now : List Int) (c n : Int) : List Int := if inB ops.length c then now.set c.toNat (joinI (ops.getD c.toNat 0) (now.getD c.toNat 0) n) else now
def addM (N : Nat) (many c : Int) : Int := if inB N c then (if many < 9223372036854775807 then many + 1 else many) else many
def AddP (hb bo bn : Nat) (ops now : List Int) (many c n : Int) (w : World) (e : Ending) (w' : World) : Prop :=
  e = .returned (.bool (inB ops.length c)) ∧ HP w' hb bo bn ops (addL ops now c n) (addM ops.length many c) ∧ Ch (hw hb bn) w w'

set_option maxRecDepth 100000 in
set_option maxHeartbeats 2000000 in
theorem hadd_any {hb bo bn : Nat} {ops now : List Int} {many : Int} (c n : Int) (hm : 0 ≤ many ∧ many ≤ 9223372036854775807) (w : World) (h : HP w hb bo bn ops now many) : Calls Try.prog 87 #[.pointer (some ⟨hb, 0, none⟩), .int .i64 c, .int .i64 n] w (AddP hb bo bn ops now many c n w) := by
  have H : Hid (HP w hb bo bn ops now many) := h
  obtain ⟨N, hN⟩ : ∃ N, ops.length = N := ⟨_, rfl⟩
  have HN : Hid (ops.length = N) := hN
  have HS : N ≤ 4 := by rw [← hN]; exact h.short
  have c0 := h.c0
  have c1 := h.c1
  rw [hN] at c0 c1
  obtain ⟨P, hP⟩ : ∃ P, AddP hb bo bn ops now many c n w = P := ⟨_, rfl⟩
  have HQ : Hid (AddP hb bo bn ops now many c n w = P) := hP
  rw [hP]
  clear h hN hP
  by_cases h1 : c < 0
  · have e1 : decide (c < 0) = true := by simp [h1]
    have HF : Hid (P (.returned (.bool false)) w) := by
      have hi : inB ops.length c = false := by unfold inB; simp; omega
      show P _ _
      rw [← HQ.out]
      unfold AddP addL addM
      rw [hi]
      exact ⟨rfl, H.out, Ch.refl _ _⟩
    go_enter Try.func87, Try.ntmps87
    go_wp2
    first | exact HF.out | (go_ret; exact HF.out)
  have e1 : decide (c < 0) = false := by simp; omega
  by_cases h2 : (N : Int) ≤ c
  · have e2 : decide ((N : Int) ≤ c) = true := by simp [h2]
    have HF : Hid (P (.returned (.bool false)) w) := by
      have hi : inB ops.length c = false := by unfold inB; rw [HN.out]; simp; omega
      show P _ _
      rw [← HQ.out]
      unfold AddP addL addM
      rw [hi]
      exact ⟨rfl, H.out, Ch.refl _ _⟩
    go_enter Try.func87, Try.ntmps87
    go_wp2
    first | exact HF.out | (go_ret; exact HF.out)
  have e2 : decide ((N : Int) ≤ c) = false := by simp; omega
  obtain ⟨q, rfl⟩ : ∃ q : Nat, c = (q : Int) := ⟨c.toNat, by omega⟩
  have hlt : q < N := by omega
  have hq : q < ops.length := by rw [HN.out]; exact hlt
  have hq2 : q < now.length := by rw [H.out.len]; exact hq
  obtain ⟨z, hz⟩ : ∃ z, ops[q] = z := ⟨_, rfl⟩
  obtain ⟨y, hy⟩ : ∃ y, now[q] = y := ⟨_, rfl⟩
  have d1 : w.cell? ⟨bo, q, none⟩ = some (.int .i64 z) := by rw [H.out.cO q hq, hz]
  have d3 : w.cell? ⟨bn, q, none⟩ = some (.int .i64 y) := by rw [H.out.cN q hq2, hy]
  have f3 := H.out.fN q
  have HX : Hid (HP ((w.setCell ⟨bn, q, none⟩ (.int .i64 (joinI z y n))).drew) hb bo bn ops (now.set q (joinI z y n)) many) := (H.out.setN q _).drew
  have HY : Hid (Ch (hw hb bn) w ((w.setCell ⟨bn, q, none⟩ (.int .i64 (joinI z y n))).drew)) := ((Ch.refl _ _).set (.inl (.inr rfl)) _ _).drew
  have HL : Hid (addL ops now (q : Int) n = now.set q (joinI z y n)) := by
    show _ = _
    unfold addL
    rw [show inB ops.length (q : Int) = true by unfold inB; simp; exact hq, if_pos rfl]
    simp [List.getD, hq, hq2, hz, hy]
  have HM : Hid (addM ops.length many (q : Int) = if many < 9223372036854775807 then many + 1 else many) := by
    show _ = _
    unfold addM
    rw [show inB ops.length (q : Int) = true by unfold inB; simp; exact hq, if_pos rfl]
  have HI : Hid (inB ops.length (q : Int) = true) := by unfold inB; show _ = _; simp; exact hq
  have HK : Hid ((w.setCell ⟨bn, q, none⟩ (.int .i64 (joinI z y n))).drew.cell? ⟨hb, 0, none⟩ = some (.slice (some ⟨bo, 0, none⟩) N N) ∧ (w.setCell ⟨bn, q, none⟩ (.int .i64 (joinI z y n))).drew.cell? ⟨hb, 1, none⟩ = some (.slice (some ⟨bn, 0, none⟩) N N) ∧ (w.setCell ⟨bn, q, none⟩ (.int .i64 (joinI z y n))).drew.cell? ⟨bo, q, none⟩ = some (.int .i64 z)) := by
    have k0 := HX.out.c0
    have k1 := HX.out.c1
    have k2 := HX.out.cO q hq
    rw [HN.out] at k0 k1
    rw [hz] at k2
    exact ⟨k0, k1, k2⟩
  clear hz hy hq hq2
  have m2 := HX.out.c2
  have g2 := HX.out.f2 2
  by_cases h3 : many < 9223372036854775807
  · have e3 : decide (many < 9223372036854775807) = true := by simp [h3]
    have HF : Hid (P (.returned (.bool true)) ((w.setCell ⟨bn, q, none⟩ (.int .i64 (joinI z y n))).drew.setCell ⟨hb, 2, none⟩ (.int .i64 (many + 1)))) := by
      show P _ _
      rw [← HQ.out]
      unfold AddP
      rw [HL.out, HM.out, HI.out, if_pos h3]
      exact ⟨rfl, HX.out.setM _, HY.out.set (.inl (.inl rfl)) _ _⟩
    go_enter Try.func87, Try.ntmps87
    go_wp2_with fail
    refine wp_region_still_tail 22 (by kernel_rfl) (by kernel_rfl) ?_
    simp only [List.take_succ_cons, List.take_zero, List.drop_succ_cons, List.drop_zero]
    repeat still_step
    still_call (join_any _ _ _ _)
    repeat still_step
    refine wpStill_nil ?_
    go_wp2
    first | exact HF.out | (go_ret; exact HF.out)
  · have e3 : decide (many < 9223372036854775807) = false := by simp; omega
    have HF : Hid (P (.returned (.bool true)) (w.setCell ⟨bn, q, none⟩ (.int .i64 (joinI z y n))).drew) := by
      show P _ _
      rw [← HQ.out]
      unfold AddP
      rw [HL.out, HM.out, HI.out, if_neg h3]
      exact ⟨rfl, HX.out, HY.out⟩
    go_enter Try.func87, Try.ntmps87
    go_wp2_with fail
    refine wp_region_still_tail 22 (by kernel_rfl) (by kernel_rfl) ?_
    simp only [List.take_succ_cons, List.take_zero, List.drop_succ_cons, List.drop_zero]
    repeat still_step
    still_call (join_any _ _ _ _)
    repeat still_step
    refine wpStill_nil ?_
    go_wp2
    first | exact HF.out | (go_ret; exact HF.out)

end Go.Proofs.Ytongeppdaeekeaa
