/- alive: the chapter's first examples. -/
import Derived.Test.YtkcncngcmhldpaaEq
namespace Go.Proofs.Ytkcncngcmhldpaa
open Go.RowKit Go.Maps
set_option linter.unusedVariables false

def C0 : List In := [⟨2, 0, 3, 0, 0, 5⟩, ⟨6, 0, 4, 1, 0, 0⟩, ⟨1, 0, 0, 0, 0, 0⟩]
def S1 : St := ⟨[0, 2, 0, 5, 0, 0, 0, 0, 0, 0, 0, 0, 0, 0, 0, 0], 1, 1, 0, 0⟩
def S2 : St := ⟨[0, 2, 0, 5, 7, 0, 0, 0, 0, 0, 0, 0, 0, 0, 0, 0], 2, 2, 0, 0⟩
theorem new0 : newE C0 0 4 9 = 0 := by decide +kernel
theorem step0 : stepS C0 4 9 (St0 0 2 0) 0 = S1 := by simp [stepS, doS, C0, St0, S1, giveS]
theorem step1 : stepS C0 4 9 S1 7 = S2 := by simp [stepS, doS, C0, S1, S2, giveS, insideB, addrS, rg, wrap64]
theorem want1 : wantS C0 4 9 S1 = ⟨1, 2, 0⟩ := by simp [wantS, wantI, C0, S1, insideB, addrS, rg, wrap64]
theorem ok0 : ∀ x ∈ C0, OkI x := by
  intro x hx
  simp [C0] at hx
  rcases hx with rfl | rfl | rfl <;> exact ⟨by decide, by decide, by decide, by decide⟩
theorem reg_small (s : St) (h : ∀ x ∈ s.regs, -100 ≤ x ∧ x ≤ 100) : ∀ r < 16, R64 (rg s r) := by
  intro r hr
  unfold rg R64
  rw [List.getD]
  cases e : s.regs[r]? with
  | none => simp
  | some x => have := h x (List.mem_of_getElem? e); simp; omega
theorem okS0 : Ok C0 9 (St0 0 2 0) := ⟨reg_small _ (by decide), by decide, by decide, by decide⟩
theorem okS1 : Ok C0 9 S1 := ⟨reg_small _ (by decide), by decide, by decide, by decide⟩

theorem Ch.toBelow {vb B : Nat} {a b : World} (h : Ch vb a b) (h1 : B ≤ vb) (h2 : B ≤ a.heap.size) : Below B a b := ⟨h.os, h.tape, h.output, h.size, fun k hk => h.block k (by omega) (by omega)⟩
theorem C0_in {W : World} {b : Nat} (h : W.heap[b]? = some (.cells (ics C0).toArray 76)) : ISl W (.slice (some ⟨b, 0, none⟩) 3 3) C0 := by
  refine ⟨_, 3, b, 0, rfl, by decide, by unfold maxLen; omega, fun _ => rfl, fun i hi => ?_⟩
  have hc : ∀ j, W.cell? ⟨b, j, none⟩ = (ics C0)[j]? := fun j => by rw [cell_of_row W b j _ _ _ h]; simp
  match i, hi with
  | 0, _ => exact ⟨hc 0, hc 1, hc 2, hc 3, hc 4, hc 5⟩
  | 1, _ => exact ⟨hc 6, hc 7, hc 8, hc 9, hc 10, hc 11⟩
  | 2, _ => exact ⟨hc 12, hc 13, hc 14, hc 15, hc 16, hc 17⟩

set_option maxRecDepth 100000 in
set_option maxHeartbeats 2000000 in
theorem alive_any (w : World) : Calls Try.prog 9 #[] w fun e w' => e = .returned (.bool true) ∧ Below w.heap.size w w' := by
  have HN : Hid (∀ W v, ISl W v C0 → Calls Try.prog 21 #[v, .int .i64 0, .int .i64 4, .int .i64 9, .int .i64 0, .int .i64 2, .int .i64 0] W (NewP C0 0 4 9 0 2 0 W)) := fun W v hv => new_any C0 v 0 4 9 0 2 0 W hv
  go_enter Try.func9, Try.ntmps9
  go_wp2_with fail
  refine (HN.out _ _ (C0_in (heap_alloc_new w _))).mono ?_
  rintro e w1 (⟨er, rfl, hr, h0, hb⟩ | ⟨vb, g, cap, m, rfl, hr, hv, hg, hm, hc, hb⟩)
  · exact absurd (hr.symm.trans new0) h0
  have HB1 : Hid (Below w.heap.size w w1) := ((Below.refl _ _).alloc (Nat.le_refl _) _).trans (hb.mono (by simp))
  have hvb : w.heap.size ≤ vb := by simp at hv; omega
  have hw : m.words = 4 := by rw [hm]
  have hf : m.fuel = 9 := by rw [hm]
  have HM1 : Hid (MC w1 vb g cap m C0 (St0 0 2 0)) := hc
  have HST : Hid (∀ W s got, MC W vb g cap m C0 s → Ok C0 9 s → Calls Try.prog 12 #[.pointer (some ⟨vb, 0, none⟩), .int .i64 got] W (StepP vb m (stepS C0 4 9 s got) (s.over == 0) W)) := fun W s got hW ho => by have := step_any vb g cap m C0 s got ok0 (by rw [hf]; exact ho) W hW; rw [hw, hf] at this; exact this
  have HWT : Hid (∀ W s, MC W vb g cap m C0 s → Ok C0 9 s → Calls Try.prog 11 #[.pointer (some ⟨vb, 0, none⟩)] W (WantP (wantS C0 4 9 s) W)) := fun W s hW ho => by have := want_any vb g cap m C0 s ok0 (by rw [hf]; exact ho) W hW; rw [hw, hf] at this; exact this
  clear hr hv hg hm hc hb hw hf HN
  go_wp2_with fail
  refine (HST.out _ _ _ HM1.out okS0).mono ?_
  rintro e w2 ⟨rfl, hv2, hc2⟩
  rw [step0] at hv2
  have HM2 : Hid (MC w2 vb g cap m C0 S1) := HM1.out.ch hc2 hv2
  have HB2 : Hid (Below w.heap.size w w2) := HB1.out.trans (hc2.toBelow hvb HB1.out.size)
  clear hv2 hc2
  rw [show ((St0 0 2 0).over == 0) = true from rfl]
  have h35 : ∀ W, (binOp .neq 35 (.agg #[.int .i64 1, .int .i64 2, .int .i64 0]) (.agg #[.int .i64 1, .int .i64 2, .int .i64 0])).run Try.prog W = .ok (.bool false) W := fun W => neq_wt ⟨1, 2, 0⟩ W
  go_wp2_with fail
  refine (HWT.out _ _ HM2.out okS1).mono ?_
  rintro e w3 ⟨rfl, hb3⟩
  have HM3 : Hid (MC w3 vb g cap m C0 S1) := HM2.out.below hb3
  have HB3 : Hid (Below w.heap.size w w3) := HB2.out.trans (hb3.mono HB2.out.size)
  clear hb3
  rw [want1]
  unfold wtV
  dsimp only
  go_wp2_with fail
  refine (HST.out _ _ _ HM3.out okS1).mono ?_
  rintro e w4 ⟨rfl, hv4, hc4⟩
  rw [step1] at hv4
  have HM4 : Hid (MC w4 vb g cap m C0 S2) := HM3.out.ch hc4 hv4
  have HB4 : Hid (Below w.heap.size w w4) := HB3.out.trans (hc4.toBelow hvb HB3.out.size)
  clear hv4 hc4
  rw [show (S1.over == 0) = true from rfl]
  go_wp2_with fail
  refine (now_any vb m S2 _ HM4.out.vm).mono ?_
  rintro e w5 ⟨rfl, hb5⟩
  have HB5 : Hid (Below w.heap.size w w5) := HB4.out.trans (hb5.mono HB4.out.size)
  clear hb5
  unfold stV
  have hs4 : (stC S2).toArray[4]? = some (.int .i64 7) := rfl
  have hs16 : (stC S2).toArray[16]? = some (.int .i64 2) := rfl
  have hs17 : (stC S2).toArray[17]? = some (.int .i64 2) := rfl
  have hs18 : (stC S2).toArray[18]? = some (.int .i64 0) := rfl
  have HSZ : Hid ((stC S2).toArray.size = 20) := rfl
  have HON : Hid ((stC S2).toArray.all (·.oneCell') = true) := all_oneCell_toArray (stC_one S2)
  have HI : Hid ((Try.prog.info? 45).map (·.size) = some (stC S2).toArray.size) := by show _ = _; rw [HSZ.out]; exact size45
  generalize (stC S2).toArray = cs at hs4 hs16 hs17 hs18 HSZ HON HI ⊢
  have g4 : ∀ o : Array Value, ((w5.alloc (.cells o 45)).setRow w5.heap.size cs).cell? ⟨w5.heap.size, 4, none⟩ = some (.int .i64 7) := fun o => (cell_setRow_same _ _ 4 _ _ _ _ (heap_alloc_new w5 _)).trans hs4
  have g16 : ∀ o : Array Value, ((w5.alloc (.cells o 45)).setRow w5.heap.size cs).cell? ⟨w5.heap.size, 16, none⟩ = some (.int .i64 2) := fun o => (cell_setRow_same _ _ 16 _ _ _ _ (heap_alloc_new w5 _)).trans hs16
  have g17 : ∀ o : Array Value, ((w5.alloc (.cells o 45)).setRow w5.heap.size cs).cell? ⟨w5.heap.size, 17, none⟩ = some (.int .i64 2) := fun o => (cell_setRow_same _ _ 17 _ _ _ _ (heap_alloc_new w5 _)).trans hs17
  have g18 : ∀ o : Array Value, ((w5.alloc (.cells o 45)).setRow w5.heap.size cs).cell? ⟨w5.heap.size, 18, none⟩ = some (.int .i64 0) := fun o => (cell_setRow_same _ _ 18 _ _ _ _ (heap_alloc_new w5 _)).trans hs18
  go_wp2_with (refine wpList_store_row rfl 45 _ _ rfl w5.heap.size cs rfl rfl 45 _ (heap_alloc_new w5 _) HI.out ?c1 HON.out ?_)
  case c1 => rw [HSZ.out]; rfl
  go_ret
  exact ⟨rfl, below_setRow (HB5.out.alloc HB5.out.size _) HB5.out.size _⟩
end Go.Proofs.Ytkcncngcmhldpaa
