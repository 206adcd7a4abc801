/- Both machines are made. -/
import Derived.Test.YtkcncngcmhldpaaAlive
namespace Go.Proofs.Ytkcncngcmhldpaa
open Go.RowKit Go.Maps
set_option linter.unusedVariables false

theorem ret_m3 {fn : Func} {q a b : Nat} (h : fn.results = #[.tmp a, .cell q 29, .tmp b]) (tmps : Array Value) (g : Nat) (hb : tmps.getD q undef = .pointer (some ⟨g, 0, none⟩)) (v : Value) (ht : tmps.getD a undef = v) (u : Value) (hu : tmps.getD b undef = u) (W : World) (cs : Array Value) (hl : cs.size = 8) (hg : W.heap[g]? = some (.cells cs 29)) :
    (results fn tmps).run Try.prog W = .ok (.tuple #[v, .agg cs, u]) W := by
  have hp' : tmps[q]?.getD undef = .pointer (some ⟨g, 0, none⟩) := by simpa using hb
  have ht' : tmps[a]?.getD undef = v := by simpa using ht
  have hu' : tmps[b]?.getD undef = u := by simpa using hu
  simp [results, h, hp', ht', hu', asAddr, run_loadVar_row W g 29 29 cs _ _ hg Try.underlying29 rfl (by rw [hl]; exact size29)]
theorem below_setCells {B b : Nat} {w W : World} (o : Nat) (vs : List Value) (h : Below B w W) (hg : B ≤ b) : Below B w (W.setCells b o vs) := by
  obtain ⟨h1, h2, h3, h4⟩ := setCells_os b vs o W
  exact ⟨h1.trans h.os, h2.trans h.tape, h3.trans h.output, by rw [h4]; exact h.size, fun k hk => (setCells_other b vs o W k (by omega)).trans (h.block k hk)⟩
theorem set8 {W : World} {g : Nat} {a : Array Value} (vs : List Value) (ha : a.size = vs.length) (h : W.heap[g]? = some (.cells a 29)) : (W.setCells g 0 vs).heap[g]? = some (.cells vs.toArray 29) := by
  have := setCells_row g 29 vs [] a.toList W (by simpa using h) (by simpa using ha)
  simpa using this
theorem store8 {W : World} {g : Nat} {a : Array Value} (vs : List Value) (ha : a.size = 8) (hv : vs.length = 8) (h1 : ∀ u ∈ vs, u.oneCell' = true) (h : W.heap[g]? = some (.cells a 29)) : (Instr.storeAt 29 (.pointer (some ⟨g, 0, none⟩)) (.agg vs.toArray)).run Try.prog W = .ok () (W.setCells g 0 vs) := by
  have := run_storeAt_mid (P := Try.prog) W g 0 29 vs.toArray (fun j hj => ⟨by rw [cell_of_row W g _ _ _ _ h, Nat.zero_add, Array.getElem?_eq_getElem (by simp at hj; omega)]; rfl, frozen_of_row W g _ _ _ h⟩) (by rw [List.size_toArray, hv]; exact size29) (all_oneCell_toArray h1)
  simpa using this
theorem load8 {W : World} {g : Nat} {a : Array Value} (ha : a.size = 8) (h : W.heap[g]? = some (.cells a 29)) : (Instr.loadAt 29 (.pointer (some ⟨g, 0, none⟩))).run Try.prog W = .ok (.agg a) W := by
  simp only [Instr.loadAt, Instr.sureAddr, Sem.run_bind, Sem.run_pure, Result.andThen_ok, run_loadVar_row W g 29 29 a _ _ h Try.underlying29 rfl (by rw [ha]; exact size29)]
/-- what made leaves -/
def MadeP (C : List In) (v : Value) (cells words fuel n i k : Int) (w : World) (e : Ending) (w' : World) : Prop :=
  (e = .returned (.tuple #[.pointer none, mZ, .bool true]) ∧ Below w.heap.size w w') ∨
  (∃ (vb g cap : Nat) (m : Fx) (rv : Value), e = .returned (.tuple #[.pointer (some ⟨vb, 0, none⟩), mV v rv words fuel (St0 n i k), .bool true]) ∧ newE C cells words fuel = 0 ∧ w.heap.size ≤ vb ∧ w.heap.size ≤ g ∧ m = ⟨.slice (some ⟨g, 0, none⟩) C.length cap, words, fuel, n, i, k⟩ ∧ MC w' vb g cap m C (St0 n i k) ∧ RRg w' rv (St0 n i k) ∧ Below w.heap.size w w')

/-- a load, a store of a document's machine that no step looks into -/
def ld29 (x : Value) : Sem Value := Instr.loadAt 29 x
@[local go_sem ↓] theorem ld_hold (x : Value) : Instr.loadAt 29 x = ld29 x := rfl
def st29 (x y : Value) : Sem Unit := Instr.storeAt 29 x y
@[local go_sem ↓] theorem st_hold (x y : Value) : Instr.storeAt 29 x y = st29 x y := rfl

set_option maxRecDepth 100000 in
set_option maxHeartbeats 2000000 in
theorem made_any (C : List In) (v : Value) (cells words fuel n i k : Int) (w : World) (hv : ISl w v C) : Calls Try.prog 8 #[.agg #[v, .int .i64 cells, .int .i64 words, .int .i64 fuel, .int .i64 n, .int .i64 i, .int .i64 k]] w (MadeP C v cells words fuel n i k w) := by
  have HN : Hid (∀ W, Below w.heap.size w W → Calls Try.prog 21 #[v, .int .i64 cells, .int .i64 words, .int .i64 fuel, .int .i64 n, .int .i64 i, .int .i64 k] W (NewP C cells words fuel n i k W)) := fun W hb => new_any C v cells words fuel n i k W (hv.below hb)
  have HR : Hid (∀ W, Below w.heap.size w W → Calls Try.prog 25 #[v, .int .i64 cells, .int .i64 words, .int .i64 fuel, .int .i64 n, .int .i64 i, .int .i64 k] W (RNewP C v cells words fuel n i k W)) := fun W hb => rnew_any C v cells words fuel n i k W (hv.below hb)
  obtain ⟨ad, cp, vb0, vo0, rfl, hv2⟩ := hv
  clear hv2
  generalize C.length = cl at HN HR ⊢
  go_enter Try.func8, Try.ntmps8
  go_wp2_with fail
  obtain ⟨A, hA⟩ : ∃ A : Obj, .cells #[Value.slice ad cl cp, .int .i64 cells, .int .i64 words, .int .i64 fuel, .int .i64 n, .int .i64 i, .int .i64 k] 24 = A := ⟨_, rfl⟩
  obtain ⟨Z, hZ⟩ : ∃ Z : Obj, .cells mZa 29 = Z := ⟨_, rfl⟩
  have hZ2 : Obj.cells #[Value.slice none 0 0, Value.int IntKind.i64 0, Value.int IntKind.i64 0, Value.slice none 0 0, Value.int IntKind.i64 0, Value.int IntKind.i64 0, Value.int IntKind.i64 0, Value.int IntKind.i64 0] 29 = Z := hZ
  rw [hA, hZ2]
  have HB0 : Hid (Below w.heap.size w ((w.alloc A).alloc Z)) := ((Below.refl _ _).alloc (Nat.le_refl _) _).alloc (by simp) _
  have HA0 : Hid (((w.alloc A).alloc Z).heap[w.heap.size]? = some (.cells #[Value.slice ad cl cp, .int .i64 cells, .int .i64 words, .int .i64 fuel, .int .i64 n, .int .i64 i, .int .i64 k] 24)) := by show _ = _; rw [hA]; exact (Below.heap_alloc _ _ _ (by simp)).trans (heap_alloc_new w A)
  have HZ0 : Hid (((w.alloc A).alloc Z).heap[w.heap.size + 1]? = some (.cells mZa 29)) := by show _ = _; rw [hZ]; have := heap_alloc_new (w.alloc A) Z; rw [show (w.alloc A).heap.size = w.heap.size + 1 by simp] at this; exact this
  obtain ⟨w0, hw0⟩ : ∃ w0, (w.alloc A).alloc Z = w0 := ⟨_, rfl⟩
  rw [hw0] at HB0 HA0 HZ0 ⊢
  have HC : Hid (∀ W, Below w0.heap.size w0 W → ∀ j, W.cell? ⟨w.heap.size, j, none⟩ = #[Value.slice ad cl cp, .int .i64 cells, .int .i64 words, .int .i64 fuel, .int .i64 n, .int .i64 i, .int .i64 k][j]?) := fun W hb j => cell_of_row W _ j _ _ _ ((hb.block _ (Array.getElem?_eq_some_iff.1 HA0.out).1).trans HA0.out)
  have HZC : Hid (∀ W, Below w0.heap.size w0 W → W.heap[w.heap.size + 1]? = some (.cells mZa 29)) := fun W hb => (hb.block _ (Array.getElem?_eq_some_iff.1 HZ0.out).1).trans HZ0.out
  clear hA hZ hZ2 hw0 HA0 HZ0
  refine (HN.out _ HB0.out).mono ?_
  intro e w1 hnew
  have hb1 : Below w0.heap.size w0 w1 := by rcases hnew with ⟨_, _, _, _, h⟩ | ⟨_, _, _, _, _, _, _, _, _, _, h⟩ <;> exact h
  have HB1 : Hid (Below w0.heap.size w0 w1) := hb1
  have HBW1 : Hid (Below w.heap.size w w1) := HB0.out.trans (hb1.mono HB0.out.size)
  have c0 : w1.cell? ⟨w.heap.size, 0, none⟩ = some (.slice ad cl cp) := (HC.out w1 hb1 0).trans rfl
  have c1 : w1.cell? ⟨w.heap.size, 1, none⟩ = some (.int .i64 cells) := (HC.out w1 hb1 1).trans rfl
  have c2 : w1.cell? ⟨w.heap.size, 2, none⟩ = some (.int .i64 words) := (HC.out w1 hb1 2).trans rfl
  have c3 : w1.cell? ⟨w.heap.size, 3, none⟩ = some (.int .i64 fuel) := (HC.out w1 hb1 3).trans rfl
  have c4 : w1.cell? ⟨w.heap.size, 4, none⟩ = some (.int .i64 n) := (HC.out w1 hb1 4).trans rfl
  have c5 : w1.cell? ⟨w.heap.size, 5, none⟩ = some (.int .i64 i) := (HC.out w1 hb1 5).trans rfl
  have c6 : w1.cell? ⟨w.heap.size, 6, none⟩ = some (.int .i64 k) := (HC.out w1 hb1 6).trans rfl
  clear hb1
  rcases hnew with ⟨er, rfl, hr, h0, hb⟩ | ⟨vb, g, cap, m, rfl, hr, hv, hg, hm, hc, hb⟩
  · have HER : Hid (newE C cells words fuel = er) := hr
    clear hr hb
    go_wp2_with fail
    refine (HR.out _ HBW1.out).mono ?_
    rintro e w2 (⟨er2, rfl, hr2, h02, hb2⟩ | ⟨rv, rfl, hr2, hrr, hb2⟩)
    · obtain rfl : er = er2 := HER.out.symm.trans hr2
      have HB2 : Hid (Below w.heap.size w w2) := HBW1.out.trans (hb2.mono HBW1.out.size)
      have HZ2 : Hid (w2.heap[w.heap.size + 1]? = some (.cells mZa 29)) := HZC.out w2 (HB1.out.trans (hb2.mono HB1.out.size))
      have ee : (er == 0) = false := by simp [h0]
      clear hr2 hb2 c0 c1 c2 c3 c4 c5 c6
      unfold mZ
      have HON : Hid (#[Value.slice none 0 0, Value.int .i64 0, Value.int .i64 0, Value.slice none 0 0, Value.int .i64 0, Value.int .i64 0, Value.int .i64 0, Value.int .i64 0].all (·.oneCell') = true) := all_oneCell_toArray (cs := [Value.slice none 0 0, Value.int .i64 0, Value.int .i64 0, Value.slice none 0 0, Value.int .i64 0, Value.int .i64 0, Value.int .i64 0, Value.int .i64 0]) (by intro u hu; simp at hu; rcases hu with rfl | rfl | rfl | rfl <;> rfl)
      go_wp2_with (refine wpList_store_row rfl 29 _ _ rfl w2.heap.size #[Value.slice none 0 0, Value.int .i64 0, Value.int .i64 0, Value.slice none 0 0, Value.int .i64 0, Value.int .i64 0, Value.int .i64 0, Value.int .i64 0] rfl rfl 29 _ (heap_alloc_new w2 _) size29 rfl HON.out ?_)
      obtain ⟨W3, hW3⟩ : ∃ W3, (w2.alloc (Obj.cells #[Value.slice none 0 0, Value.int .i64 0, Value.int .i64 0, Value.slice none 0 0, Value.int .i64 0, Value.int .i64 0, Value.int .i64 0, Value.int .i64 0] 29)).setRow w2.heap.size #[Value.slice none 0 0, Value.int .i64 0, Value.int .i64 0, Value.slice none 0 0, Value.int .i64 0, Value.int .i64 0, Value.int .i64 0, Value.int .i64 0] = W3 := ⟨_, rfl⟩
      obtain ⟨A3, hA3⟩ : ∃ A3, [Value.slice none 0 0, Value.int .i64 0, Value.int .i64 0, Value.slice none 0 0, Value.int .i64 0, Value.int .i64 0, Value.int .i64 0, Value.int .i64 0] = A3 := ⟨_, rfl⟩
      have HAL : Hid ([Value.slice none 0 0, Value.int .i64 0, Value.int .i64 0, Value.slice none 0 0, Value.int .i64 0, Value.int .i64 0, Value.int .i64 0, Value.int .i64 0] = A3) := hA3
      have hX3 : W3.drew.heap[w2.heap.size]? = some (.cells A3.toArray 29) := by rw [← hA3, ← hW3]; exact setRow_heap _ _ _ _ _ _ (heap_alloc_new w2 _)
      have HB3 : Hid (Below w2.heap.size w2 W3) := by rw [← hW3]; exact below_setRow ((Below.refl _ _).alloc (Nat.le_refl _) _) (Nat.le_refl _) _
      have hlt2 : w.heap.size + 1 < w2.heap.size := (Array.getElem?_eq_some_iff.1 HZ2.out).1
      have HZ3 : Hid (W3.drew.heap[w.heap.size + 1]? = some (.cells mZa 29)) := (HB3.out.block _ hlt2).trans HZ2.out
      have HL8 : Hid (A3.length = 8) := by rw [← hA3]; rfl
      have hld : ∀ w' : World, w'.heap[w2.heap.size]? = some (.cells A3.toArray 29) → (ld29 (.pointer (some ⟨w2.heap.size, 0, none⟩))).run Try.prog w' = .ok (.agg A3.toArray) w' := fun w' h => load8 (by simpa using HL8.out) h
      have hst : (st29 (.pointer (some ⟨w.heap.size + 1, 0, none⟩)) (.agg A3.toArray)).run Try.prog W3.drew = .ok () (W3.drew.setCells (w.heap.size + 1) 0 A3) := store8 (a := mZa) A3 rfl HL8.out (by rw [← hA3]; intro u hu; simp at hu; rcases hu with rfl | rfl | rfl | rfl <;> rfl) HZ3.out
      have hk3 : (W3.drew.setCells (w.heap.size + 1) 0 A3).heap[w2.heap.size]? = some (.cells A3.toArray 29) := (setCells_other _ _ _ _ _ (by omega)).trans hX3
      rw [hW3]
      clear hW3 hA3
      go_region_held3 (fun w' => w'.heap[w2.heap.size]? = some (.cells A3.toArray 29)) (first | assumption | go_keep) (fail)
      go_wp2
      refine bodyPost_ret (ret_m3 Try.results8 _ (w.heap.size + 1) rfl _ rfl _ rfl _ A3.toArray (by simpa using HL8.out) (set8 A3 (by rw [HL8.out]; rfl) HZ3.out)) rfl ?_
      rw [← HAL.out]
      exact Or.inl ⟨rfl, (below_setCells _ _ (HB2.out.trans (HB3.out.mono HB2.out.size)).drew (by omega))⟩
    · exact absurd (HER.out.symm.trans hr2) h0
  · have HER : Hid (newE C cells words fuel = 0) := hr
    have HMM : Hid (m = ⟨.slice (some ⟨g, 0, none⟩) C.length cap, words, fuel, n, i, k⟩) := hm
    have HMC1 : Hid (MC w1 vb g cap m C (St0 n i k)) := hc
    clear hr hb hm hc
    go_wp2_with fail
    refine (HR.out _ HBW1.out).mono ?_
    rintro e w2 (⟨er2, rfl, hr2, h02, hb2⟩ | ⟨rv, rfl, hr2, hrr, hb2⟩)
    · exact absurd (hr2.symm.trans HER.out) h02
    · obtain ⟨rg0, rc0, rfl, hr16, hrm, hrc⟩ := hrr
      have HRC : Hid (∀ r, r < 16 → w2.cell? ⟨rg0, r, none⟩ = some (.int .i64 (rg (St0 n i k) r))) := hrc
      have HB2 : Hid (Below w.heap.size w w2) := HBW1.out.trans (hb2.mono HBW1.out.size)
      have HMC : Hid (MC w2 vb g cap m C (St0 n i k)) := HMC1.out.below hb2
      have HZ2 : Hid (w2.heap[w.heap.size + 1]? = some (.cells mZa 29)) := HZC.out w2 (HB1.out.trans (hb2.mono HB1.out.size))
      have hw0s : w.heap.size + 2 ≤ w0.heap.size := by have := (Array.getElem?_eq_some_iff.1 (HZC.out w0 (Below.refl _ _))).1; omega
      have hrg : rg0 ≠ w.heap.size + 1 := by
        intro e
        have h1 := hrc 0 (by omega)
        rw [e, cell_of_row w2 _ 0 _ _ _ HZ2.out] at h1
        cases h1
      clear hr2 hb2 c0 c1 c2 c3 c4 c5 c6 hrc HMC1
      unfold mV mC St0
      dsimp only
      have HON : Hid (#[Value.slice ad cl cp, Value.int .i64 words, Value.int .i64 fuel, Value.slice (some ⟨rg0, 0, none⟩) 16 rc0, Value.int .i64 0, Value.int .i64 0, Value.int .i64 0, Value.int .i64 0].all (·.oneCell') = true) := all_oneCell_toArray (cs := [Value.slice ad cl cp, Value.int .i64 words, Value.int .i64 fuel, Value.slice (some ⟨rg0, 0, none⟩) 16 rc0, Value.int .i64 0, Value.int .i64 0, Value.int .i64 0, Value.int .i64 0]) (by intro u hu; simp at hu; rcases hu with rfl | rfl | rfl | rfl | rfl | rfl | rfl | rfl <;> rfl)
      go_wp2_with (refine wpList_store_row rfl 29 _ _ rfl w2.heap.size #[Value.slice ad cl cp, Value.int .i64 words, Value.int .i64 fuel, Value.slice (some ⟨rg0, 0, none⟩) 16 rc0, Value.int .i64 0, Value.int .i64 0, Value.int .i64 0, Value.int .i64 0] rfl rfl 29 _ (heap_alloc_new w2 _) size29 rfl HON.out ?_)
      obtain ⟨W3, hW3⟩ : ∃ W3, (w2.alloc (Obj.cells #[Value.slice none 0 0, Value.int .i64 0, Value.int .i64 0, Value.slice none 0 0, Value.int .i64 0, Value.int .i64 0, Value.int .i64 0, Value.int .i64 0] 29)).setRow w2.heap.size #[Value.slice ad cl cp, Value.int .i64 words, Value.int .i64 fuel, Value.slice (some ⟨rg0, 0, none⟩) 16 rc0, Value.int .i64 0, Value.int .i64 0, Value.int .i64 0, Value.int .i64 0] = W3 := ⟨_, rfl⟩
      obtain ⟨A3, hA3⟩ : ∃ A3, [Value.slice ad cl cp, Value.int .i64 words, Value.int .i64 fuel, Value.slice (some ⟨rg0, 0, none⟩) 16 rc0, Value.int .i64 0, Value.int .i64 0, Value.int .i64 0, Value.int .i64 0] = A3 := ⟨_, rfl⟩
      have HAL : Hid ([Value.slice ad cl cp, Value.int .i64 words, Value.int .i64 fuel, Value.slice (some ⟨rg0, 0, none⟩) 16 rc0, Value.int .i64 0, Value.int .i64 0, Value.int .i64 0, Value.int .i64 0] = A3) := hA3
      have hX3 : W3.drew.heap[w2.heap.size]? = some (.cells A3.toArray 29) := by rw [← hA3, ← hW3]; exact setRow_heap _ _ _ _ _ _ (heap_alloc_new w2 _)
      have HB3 : Hid (Below w2.heap.size w2 W3) := by rw [← hW3]; exact below_setRow ((Below.refl _ _).alloc (Nat.le_refl _) _) (Nat.le_refl _) _
      have hlt2 : w.heap.size + 1 < w2.heap.size := (Array.getElem?_eq_some_iff.1 HZ2.out).1
      have HZ3 : Hid (W3.drew.heap[w.heap.size + 1]? = some (.cells mZa 29)) := (HB3.out.block _ hlt2).trans HZ2.out
      have HL8 : Hid (A3.length = 8) := by rw [← hA3]; rfl
      have hld : ∀ w' : World, w'.heap[w2.heap.size]? = some (.cells A3.toArray 29) → (ld29 (.pointer (some ⟨w2.heap.size, 0, none⟩))).run Try.prog w' = .ok (.agg A3.toArray) w' := fun w' h => load8 (by simpa using HL8.out) h
      have hst : (st29 (.pointer (some ⟨w.heap.size + 1, 0, none⟩)) (.agg A3.toArray)).run Try.prog W3.drew = .ok () (W3.drew.setCells (w.heap.size + 1) 0 A3) := store8 (a := mZa) A3 rfl HL8.out (by rw [← hA3]; intro u hu; simp at hu; rcases hu with rfl | rfl | rfl | rfl | rfl | rfl | rfl | rfl <;> rfl) HZ3.out
      have hk3 : (W3.drew.setCells (w.heap.size + 1) 0 A3).heap[w2.heap.size]? = some (.cells A3.toArray 29) := (setCells_other _ _ _ _ _ (by omega)).trans hX3
      rw [hW3]
      clear hW3 hA3
      go_region_held3 (fun w' => w'.heap[w2.heap.size]? = some (.cells A3.toArray 29)) (first | assumption | go_keep) (fail)
      go_wp2
      refine bodyPost_ret (ret_m3 Try.results8 _ (w.heap.size + 1) rfl _ rfl _ rfl _ A3.toArray (by simpa using HL8.out) (set8 A3 (by rw [HL8.out]; rfl) HZ3.out)) rfl ?_
      have hb4 : Below w2.heap.size w2 W3.drew := HB3.out.drew
      have hkeep : ∀ j, j < w2.heap.size → j ≠ w.heap.size + 1 → _ = w2.heap[j]? := fun j hj hn => (setCells_other (w.heap.size + 1) A3 0 W3.drew j hn).trans (hb4.block j hj)
      rw [← HAL.out] at hkeep ⊢
      refine Or.inr ⟨vb, g, cap, m, _, rfl, HER.out, by have := HB0.out.size; omega, by have := HB0.out.size; omega, HMM.out, ?_, ?_, (below_setCells _ _ (HB2.out.trans (hb4.mono HB2.out.size)) (by omega))⟩
      · exact ⟨HMC.out.vm.keep (hkeep vb HMC.out.vm.lt (by omega)), HMC.out.cv, HMC.out.cap, HMC.out.len, fun j hj => (HMC.out.row j hj).block (hkeep g (HMC.out.row j hj).lt (by omega)), HMC.out.ne⟩
      · exact ⟨rg0, rc0, rfl, hr16, hrm, fun r hr => (World.cell?_of_block (w := w2) (a := ⟨rg0, r, none⟩) (hkeep rg0 (World.block_lt_of_cell? w2 ⟨rg0, r, none⟩ (HRC.out r hr)) (by omega))).trans (HRC.out r hr)⟩
end Go.Proofs.Ytkcncngcmhldpaa
