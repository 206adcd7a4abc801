/- VmSets: the walk. -/
import Derived.Test.YtkcncngcmhldpaaMade
namespace Go.Proofs.Ytkcncngcmhldpaa
open Go.RowKit Go.Maps
set_option linter.unusedVariables false

/-- a case as a value -/
def caV (v : Value) (cells words fuel n i k : Int) : Value := .agg #[v, .int .i64 cells, .int .i64 words, .int .i64 fuel, .int .i64 n, .int .i64 i, .int .i64 k]
def TrueP (w : World) (e : Ending) (w' : World) : Prop := e = .returned (.bool true) ∧ Below w.heap.size w w'

set_option maxRecDepth 100000 in
set_option maxHeartbeats 2000000 in
theorem sets_long (C : List In) (v : Value) (cells words fuel n i k : Int) (s : St) (hl : s.regs.length = 16) (hlong : 1000 < C.length) (w : World) (hv : ISl w v C) : Calls Try.prog 6 #[caV v cells words fuel n i k, stV s] w (TrueP w) := by
  obtain ⟨ad, cp, vb0, vo0, rfl, _, h3, _⟩ := hv
  unfold maxLen at h3
  unfold caV stV
  generalize (stC s).toArray = sa
  go_enter Try.func6, Try.ntmps6
  go_wp2
  go_ret
  exact ⟨rfl, ((Below.refl _ _).alloc (Nat.le_refl _) _).alloc (by simp) _⟩

/-- a load of a state that no step looks into -/
def ld45 (x : Value) : Sem Value := Instr.loadAt 45 x
theorem load45 {W : World} {g : Nat} {a : Array Value} (ha : a.size = 20) (h : W.heap[g]? = some (.cells a 45)) : (ld45 (.pointer (some ⟨g, 0, none⟩))).run Try.prog W = .ok (.agg a) W := by
  show (Instr.loadAt 45 _).run _ _ = _
  simp only [Instr.loadAt, Instr.sureAddr, Sem.run_bind, Sem.run_pure, Result.andThen_ok, run_loadVar_row W g 45 45 a _ _ h Try.underlying45 rfl (by rw [ha]; exact size45)]
@[local go_sem ↓] theorem ld45_hold (x : Value) : Instr.loadAt 45 x = ld45 x := rfl

set_option maxRecDepth 100000 in
set_option maxHeartbeats 4000000 in
theorem sets_walk (C : List In) (v : Value) (cells words fuel n i k : Int) (s : St) (hl : s.regs.length = 16) (hlong : C.length ≤ 1000) (w : World) (hv : ISl w v C) : Calls Try.prog 6 #[caV v cells words fuel n i k, stV s] w (TrueP w) := by
  have HMD : Hid (∀ W, Below w.heap.size w W → Calls Try.prog 8 #[.agg #[v, .int .i64 cells, .int .i64 words, .int .i64 fuel, .int .i64 n, .int .i64 i, .int .i64 k]] W (MadeP C v cells words fuel n i k W)) := fun W hb => made_any C v cells words fuel n i k W (hv.below hb)
  obtain ⟨ad, cp, vb0, vo0, rfl, hv2, hv3, _⟩ := hv
  have HL : Hid (s.regs.length = 16) := hl
  obtain ⟨cl, hcl⟩ : ∃ cl, C.length = cl := ⟨_, rfl⟩
  have HCL : Hid (C.length = cl) := hcl
  rw [hcl] at hlong HMD ⊢
  unfold caV stV
  have d16 := stC_pc s hl 16 (by omega)
  have d17 := stC_pc s hl 17 (by omega)
  have d18 := stC_pc s hl 18 (by omega)
  have HS45 : Hid ((Try.prog.info? 45).map (·.size) = some (stC s).toArray.size) := by show _ = _; rw [show (stC s).toArray.size = 20 by have := stC_len s hl; simpa using this]; exact size45
  go_enter Try.func6, Try.ntmps6
  go_wp2_with fail
  obtain ⟨w0, hw0⟩ : ∃ w0, (w.alloc (.cells #[Value.slice ad cl cp, .int .i64 cells, .int .i64 words, .int .i64 fuel, .int .i64 n, .int .i64 i, .int .i64 k] 24)).alloc (.cells (stC s).toArray 45) = w0 := ⟨_, rfl⟩
  have HB0 : Hid (Below w.heap.size w w0) := by rw [← hw0]; exact ((Below.refl _ _).alloc (Nat.le_refl _) _).alloc (by simp) _
  have HO0 : Hid (w0.heap[w.heap.size + 1]? = some (.cells (stC s).toArray 45)) := by show _ = _; rw [← hw0]; have := heap_alloc_new (w.alloc (.cells #[Value.slice ad cl cp, .int .i64 cells, .int .i64 words, .int .i64 fuel, .int .i64 n, .int .i64 i, .int .i64 k] 24)) (.cells (stC s).toArray 45); rw [show (w.alloc (.cells #[Value.slice ad cl cp, .int .i64 cells, .int .i64 words, .int .i64 fuel, .int .i64 n, .int .i64 i, .int .i64 k] 24)).heap.size = w.heap.size + 1 by simp] at this; exact this
  have hw0s : w0.heap.size = w.heap.size + 2 := by rw [← hw0]; simp
  rw [hw0]
  clear hw0
  refine (HMD.out _ HB0.out).mono ?_
  rintro e w1 (⟨rfl, hb⟩ | ⟨vb, g, cap, m, rv, rfl, hr, hv, hg, hm, hc, hrr, hb⟩)
  · have HB1 : Hid (Below w.heap.size w w1) := HB0.out.trans (hb.mono HB0.out.size)
    clear hb
    unfold mZ
    have HAL : Hid (∀ W, Below w.heap.size w W → Calls Try.prog 9 #[] W fun e w' => e = .returned (.bool true) ∧ Below w.heap.size w w') := fun W hb => (alive_any W).mono fun e w' ⟨h1, h2⟩ => ⟨h1, hb.trans (h2.mono hb.size)⟩
    have HB2 : Hid (∀ a, Below w.heap.size w (w1.alloc a)) := fun a => HB1.out.alloc HB1.out.size _
    go_wp2_with (go_at_call 9; refine (HAL.out _ (HB2.out _)).mono ?_; rintro e w3 ⟨rfl, hb3⟩)
    go_ret
    exact ⟨rfl, hb3⟩
  · have HB1 : Hid (Below w.heap.size w w1) := HB0.out.trans (hb.mono HB0.out.size)
    have HS1 : Hid (∀ W, Below w1.heap.size w1 W → W.heap[w.heap.size + 1]? = some (.cells (stC s).toArray 45)) := fun W hW => (hW.block _ (by have := hb.size; omega)).trans ((hb.block _ (by omega)).trans HO0.out)
    have HMC : Hid (MC w1 vb g cap m C (St0 n i k)) := hc
    have hvb : w.heap.size + 2 ≤ vb := by omega
    obtain ⟨rg0, rc0, rfl, hr16, hrm, hrc⟩ := hrr
    have HCV : Hid (m.cv = .slice (some ⟨g, 0, none⟩) cl cap) := by rw [← HCL.out]; exact hc.cv
    have hmf : m.fuel = fuel := by rw [hm]
    clear hr hv hg hm hc hrc hb hrm hr16
    unfold mV mC St0
    dsimp only
    go_upto_region 6 with fail
    obtain ⟨W4, hW4⟩ : ∃ W4, w1.alloc (Obj.cells #[Value.slice ad cl cp, Value.int .i64 words, Value.int .i64 fuel, Value.slice (some ⟨rg0, 0, none⟩) 16 rc0, Value.int .i64 0, Value.int .i64 0, Value.int .i64 0, Value.int .i64 0] 29) = W4 := ⟨_, rfl⟩
    have hM4 : W4.heap[w1.heap.size]? = some (.cells #[Value.slice ad cl cp, Value.int .i64 words, Value.int .i64 fuel, Value.slice (some ⟨rg0, 0, none⟩) 16 rc0, Value.int .i64 0, Value.int .i64 0, Value.int .i64 0, Value.int .i64 0] 29) := by rw [← hW4]; exact heap_alloc_new w1 _
    have HB14 : Hid (Below w1.heap.size w1 W4) := by rw [← hW4]; exact (Below.refl _ _).alloc (Nat.le_refl _) _
    have HB4 : Hid (Below w.heap.size w W4) := HB1.out.trans (HB14.out.mono HB1.out.size)
    have HV4 : Hid (VM W4 vb m (St0 n i k)) := HMC.out.vm.below HB14.out
    have HS4 : Hid (W4.heap[w.heap.size + 1]? = some (.cells (stC s).toArray 45)) := HS1.out W4 HB14.out
    have s16 : W4.cell? ⟨w.heap.size + 1, 16, none⟩ = some (.int .i64 s.pc) := (cell_of_row W4 _ 16 _ _ _ HS4.out).trans (by simpa using d16)
    have s17 : W4.cell? ⟨w.heap.size + 1, 17, none⟩ = some (.int .i64 s.steps) := (cell_of_row W4 _ 17 _ _ _ HS4.out).trans (by simpa using d17)
    have s18 : W4.cell? ⟨w.heap.size + 1, 18, none⟩ = some (.int .i64 s.over) := (cell_of_row W4 _ 18 _ _ _ HS4.out).trans (by simpa using d18)
    have q0 : W4.cell? ⟨w1.heap.size, 0, none⟩ = some (.slice ad cl cp) := (cell_of_row W4 _ 0 _ _ _ hM4).trans rfl
    have q2 : W4.cell? ⟨w1.heap.size, 2, none⟩ = some (.int .i64 fuel) := (cell_of_row W4 _ 2 _ _ _ hM4).trans rfl
    rw [hW4]
    have HLEN : Hid ((stC (St0 n i k)).toArray.size = 20) := rfl
    have HON0 : Hid ((stC (St0 n i k)).toArray.all (·.oneCell') = true) := all_oneCell_toArray (stC_one _)
    have HI0 : Hid ((Try.prog.info? 45).map (·.size) = some (stC (St0 n i k)).toArray.size) := size45
    have HSZ : Hid ((stC s).toArray.size = 20) := by show _ = _; have := stC_len s HL.out; simpa using this
    have HIS : Hid ((Try.prog.info? 45).map (·.size) = some (stC s).length) := by show _ = _; rw [stC_len s HL.out]; exact size45
    have HAL : Hid (∀ W, Below w.heap.size w W → Calls Try.prog 9 #[] W fun e w' => e = .returned (.bool true) ∧ Below W.heap.size W w') := fun W hb => alive_any W
    have HNOW : Hid (∀ W x, VM W vb m x → Calls Try.prog 16 #[.pointer (some ⟨vb, 0, none⟩)] W fun e w' => e = .returned (.agg (stC x).toArray) ∧ Below W.heap.size W w') := fun W x hx => now_any vb m x W hx
    have HSET : Hid (∀ W, VM W vb m (St0 n i k) → Calls Try.prog 23 #[.pointer (some ⟨vb, 0, none⟩), .agg (stC s).toArray] W (SetP vb m (St0 n i k) s (mayS m cl s) W)) := fun W hx => set_any vb cl m (St0 n i k) s _ _ HCV.out HL.out W hx
    have heqs : ∀ W, (binOp .eql 45 (.agg (stC s).toArray) (.agg (stC s).toArray)).run Try.prog W = .ok (.bool true) W := fun W => eql_st s HL.out W
    have heq0 : ∀ W, (binOp .eql 45 (.agg (stC (St0 n i k)).toArray) (.agg (stC (St0 n i k)).toArray)).run Try.prog W = .ok (.bool true) W := fun W => eql_st (St0 n i k) rfl W
    obtain ⟨b, hb⟩ : ∃ b, mayS m cl s = b := ⟨_, rfl⟩
    rw [hb] at HSET
    unfold mayS at hb
    rw [hmf] at hb
    clear hW4 hM4 hmf d16 d17 d18 HO0 hw0s HMD
    have HRS : Hid (∀ W : World, W.heap[w.heap.size + 1]? = some (.cells (stC s).toArray 45) → W.rangeAt (w.heap.size + 1) 0 (stC s)) := fun W h j v hv => by rw [Nat.zero_add, cell_of_row W _ j _ _ _ h]; simpa using hv
    generalize hss : (stC s) = ss at *
    generalize s.pc = p at *
    generalize s.steps = q at *
    generalize s.over = o at *
    by_cases h0 : 0 ≤ p
    rotate_left
    · have e0 : decide (0 ≤ p) = false := by simp; omega
      have f0 : p < 0 := by omega
      have hb0 : b = false := by rw [← hb]; simp; omega
      subst hb0
      clear hb
      go_wp2_with fail
      refine (HNOW.out _ _ HV4.out).mono ?_
      rintro e w5 ⟨rfl, hb5⟩
      have HB5 : Hid (Below w.heap.size w w5) := HB4.out.trans (hb5.mono HB4.out.size)
      have hv5 : VM w5 vb m (St0 n i k) := HV4.out.below hb5
      have hs5 : w5.heap[w.heap.size + 1]? = some (.cells ss.toArray 45) := (hb5.block _ (Array.getElem?_eq_some_iff.1 HS4.out).1).trans HS4.out
      have HV6 : Hid (∀ a, VM ((w5.alloc a).setRow w5.heap.size (stC (St0 n i k)).toArray) vb m (St0 n i k)) := fun a => (hv5.alloc a).keep (setRow_other _ _ _ _ (by have := hv5.lt; omega))
      have HS6 : Hid (∀ a, ((w5.alloc a).setRow w5.heap.size (stC (St0 n i k)).toArray).heap[w.heap.size + 1]? = some (.cells ss.toArray 45)) := fun a => (setRow_other _ _ _ _ (by have := (Array.getElem?_eq_some_iff.1 hs5).1; omega)).trans ((Below.heap_alloc _ _ _ (Array.getElem?_eq_some_iff.1 hs5).1).trans hs5)
      have HW6 : Hid (∀ a : Array Value, ((w5.alloc (.cells a 45)).setRow w5.heap.size (stC (St0 n i k)).toArray).heap[w5.heap.size]? = some (.cells (stC (St0 n i k)).toArray 45)) := fun a => setRow_heap _ _ _ _ _ _ (heap_alloc_new w5 _)
      have HB6 : Hid (∀ a, Below w.heap.size w ((w5.alloc a).setRow w5.heap.size (stC (St0 n i k)).toArray)) := fun a => below_setRow (HB5.out.alloc HB5.out.size _) HB5.out.size _
      have hsz6 : w.heap.size + 1 < w5.heap.size := (Array.getElem?_eq_some_iff.1 hs5).1
      clear hb5 hs5
      go_wp2_with (first | (refine wpList_store_row rfl 45 _ _ rfl w5.heap.size (stC (St0 n i k)).toArray rfl rfl 45 _ (heap_alloc_new w5 _) HI0.out rfl HON0.out ?_) | (refine wpList_load_mid rfl 45 _ rfl (w.heap.size + 1) 0 rfl ss _ (HRS.out _ (HS6.out _)) Try.underlying45 rfl HIS.out ?_))
      refine (HSET.out _ (HV6.out _)).mono ?_
      rintro e w7 ⟨rfl, hv7, hc7⟩
      have HV7 : Hid (VM w7 vb m (St0 n i k)) := hv7
      have HK7 : Hid (w7.heap[w5.heap.size]? = some (.cells (stC (St0 n i k)).toArray 45)) := (hc7.block _ (by simp [World.setRow]) (by have := hv5.lt; omega)).trans (HW6.out _)
      have HB7 : Hid (Below w.heap.size w w7) := (HB6.out _).trans (hc7.toBelow (by omega) (HB6.out _).size)
      clear hv7 hc7 hv5
      have hld : ∀ w' : World, w'.heap[w5.heap.size]? = some (.cells (stC (St0 n i k)).toArray 45) → (ld45 (.pointer (some ⟨w5.heap.size, 0, none⟩))).run Try.prog w' = .ok (.agg (stC (St0 n i k)).toArray) w' := fun w' h => load45 rfl h
      have hk7 : w7.drew.heap[w5.heap.size]? = some (.cells (stC (St0 n i k)).toArray 45) := HK7.out
      have HN7 : Hid (Calls Try.prog 16 #[.pointer (some ⟨vb, 0, none⟩)] w7.drew fun e w' => e = .returned (.agg (stC (St0 n i k)).toArray) ∧ Below w7.drew.heap.size w7.drew w') := HNOW.out w7.drew _ HV7.out.drew
      go_wp2_with fail
      go_region_held3 (fun w' => w'.heap[w5.heap.size]? = some (.cells (stC (St0 n i k)).toArray 45)) (first | assumption | go_keep) (first | (go_at_call 16; refine HN7.out.mono ?_; rintro e w8 ⟨rfl, hb8⟩; have hk8 : w8.heap[w5.heap.size]? = some (.cells (stC (St0 n i k)).toArray 45) := (hb8.block _ (Array.getElem?_eq_some_iff.1 hk7).1).trans hk7; have HB8 : Hid (Below w.heap.size w w8) := HB7.out.drew.trans (hb8.mono HB7.out.drew.size); clear hb8) | (go_at_call 9; refine (HAL.out w8 HB8.out).mono ?_; rintro e w9 ⟨rfl, hb9⟩; have hk9 : w9.heap[w5.heap.size]? = some (.cells (stC (St0 n i k)).toArray 45) := (hb9.block _ (Array.getElem?_eq_some_iff.1 hk8).1).trans hk8; have HB9 : Hid (Below w.heap.size w w9) := HB8.out.trans (hb9.mono HB8.out.size); clear hb9))
      go_wp2
      go_ret
      exact ⟨rfl, HB9.out⟩
    have e0 : decide (0 ≤ p) = true := by simp [h0]
    by_cases h1 : p < (cl : Int)
    rotate_left
    · have e1 : decide (p < (cl : Int)) = false := by simp; omega
      have f1 : (cl : Int) ≤ p := by omega
      have hb0 : b = false := by rw [← hb]; simp; omega
      subst hb0
      clear hb
      go_wp2_with fail
      refine (HNOW.out _ _ HV4.out).mono ?_
      rintro e w5 ⟨rfl, hb5⟩
      have HB5 : Hid (Below w.heap.size w w5) := HB4.out.trans (hb5.mono HB4.out.size)
      have hv5 : VM w5 vb m (St0 n i k) := HV4.out.below hb5
      have hs5 : w5.heap[w.heap.size + 1]? = some (.cells ss.toArray 45) := (hb5.block _ (Array.getElem?_eq_some_iff.1 HS4.out).1).trans HS4.out
      have HV6 : Hid (∀ a, VM ((w5.alloc a).setRow w5.heap.size (stC (St0 n i k)).toArray) vb m (St0 n i k)) := fun a => (hv5.alloc a).keep (setRow_other _ _ _ _ (by have := hv5.lt; omega))
      have HS6 : Hid (∀ a, ((w5.alloc a).setRow w5.heap.size (stC (St0 n i k)).toArray).heap[w.heap.size + 1]? = some (.cells ss.toArray 45)) := fun a => (setRow_other _ _ _ _ (by have := (Array.getElem?_eq_some_iff.1 hs5).1; omega)).trans ((Below.heap_alloc _ _ _ (Array.getElem?_eq_some_iff.1 hs5).1).trans hs5)
      have HW6 : Hid (∀ a : Array Value, ((w5.alloc (.cells a 45)).setRow w5.heap.size (stC (St0 n i k)).toArray).heap[w5.heap.size]? = some (.cells (stC (St0 n i k)).toArray 45)) := fun a => setRow_heap _ _ _ _ _ _ (heap_alloc_new w5 _)
      have HB6 : Hid (∀ a, Below w.heap.size w ((w5.alloc a).setRow w5.heap.size (stC (St0 n i k)).toArray)) := fun a => below_setRow (HB5.out.alloc HB5.out.size _) HB5.out.size _
      have hsz6 : w.heap.size + 1 < w5.heap.size := (Array.getElem?_eq_some_iff.1 hs5).1
      clear hb5 hs5
      go_wp2_with (first | (refine wpList_store_row rfl 45 _ _ rfl w5.heap.size (stC (St0 n i k)).toArray rfl rfl 45 _ (heap_alloc_new w5 _) HI0.out rfl HON0.out ?_) | (refine wpList_load_mid rfl 45 _ rfl (w.heap.size + 1) 0 rfl ss _ (HRS.out _ (HS6.out _)) Try.underlying45 rfl HIS.out ?_))
      refine (HSET.out _ (HV6.out _)).mono ?_
      rintro e w7 ⟨rfl, hv7, hc7⟩
      have HV7 : Hid (VM w7 vb m (St0 n i k)) := hv7
      have HK7 : Hid (w7.heap[w5.heap.size]? = some (.cells (stC (St0 n i k)).toArray 45)) := (hc7.block _ (by simp [World.setRow]) (by have := hv5.lt; omega)).trans (HW6.out _)
      have HB7 : Hid (Below w.heap.size w w7) := (HB6.out _).trans (hc7.toBelow (by omega) (HB6.out _).size)
      clear hv7 hc7 hv5
      have hld : ∀ w' : World, w'.heap[w5.heap.size]? = some (.cells (stC (St0 n i k)).toArray 45) → (ld45 (.pointer (some ⟨w5.heap.size, 0, none⟩))).run Try.prog w' = .ok (.agg (stC (St0 n i k)).toArray) w' := fun w' h => load45 rfl h
      have hk7 : w7.drew.heap[w5.heap.size]? = some (.cells (stC (St0 n i k)).toArray 45) := HK7.out
      have HN7 : Hid (Calls Try.prog 16 #[.pointer (some ⟨vb, 0, none⟩)] w7.drew fun e w' => e = .returned (.agg (stC (St0 n i k)).toArray) ∧ Below w7.drew.heap.size w7.drew w') := HNOW.out w7.drew _ HV7.out.drew
      go_wp2_with fail
      go_region_held3 (fun w' => w'.heap[w5.heap.size]? = some (.cells (stC (St0 n i k)).toArray 45)) (first | assumption | go_keep) (first | (go_at_call 16; refine HN7.out.mono ?_; rintro e w8 ⟨rfl, hb8⟩; have hk8 : w8.heap[w5.heap.size]? = some (.cells (stC (St0 n i k)).toArray 45) := (hb8.block _ (Array.getElem?_eq_some_iff.1 hk7).1).trans hk7; have HB8 : Hid (Below w.heap.size w w8) := HB7.out.drew.trans (hb8.mono HB7.out.drew.size); clear hb8) | (go_at_call 9; refine (HAL.out w8 HB8.out).mono ?_; rintro e w9 ⟨rfl, hb9⟩; have hk9 : w9.heap[w5.heap.size]? = some (.cells (stC (St0 n i k)).toArray 45) := (hb9.block _ (Array.getElem?_eq_some_iff.1 hk8).1).trans hk8; have HB9 : Hid (Below w.heap.size w w9) := HB8.out.trans (hb9.mono HB8.out.size); clear hb9))
      go_wp2
      go_ret
      exact ⟨rfl, HB9.out⟩
    have e1 : decide (p < (cl : Int)) = true := by simp [h1]
    by_cases h2 : 0 ≤ q
    rotate_left
    · have e2 : decide (0 ≤ q) = false := by simp; omega
      have f2 : q < 0 := by omega
      have hb0 : b = false := by rw [← hb]; simp; omega
      subst hb0
      clear hb
      go_wp2_with fail
      refine (HNOW.out _ _ HV4.out).mono ?_
      rintro e w5 ⟨rfl, hb5⟩
      have HB5 : Hid (Below w.heap.size w w5) := HB4.out.trans (hb5.mono HB4.out.size)
      have hv5 : VM w5 vb m (St0 n i k) := HV4.out.below hb5
      have hs5 : w5.heap[w.heap.size + 1]? = some (.cells ss.toArray 45) := (hb5.block _ (Array.getElem?_eq_some_iff.1 HS4.out).1).trans HS4.out
      have HV6 : Hid (∀ a, VM ((w5.alloc a).setRow w5.heap.size (stC (St0 n i k)).toArray) vb m (St0 n i k)) := fun a => (hv5.alloc a).keep (setRow_other _ _ _ _ (by have := hv5.lt; omega))
      have HS6 : Hid (∀ a, ((w5.alloc a).setRow w5.heap.size (stC (St0 n i k)).toArray).heap[w.heap.size + 1]? = some (.cells ss.toArray 45)) := fun a => (setRow_other _ _ _ _ (by have := (Array.getElem?_eq_some_iff.1 hs5).1; omega)).trans ((Below.heap_alloc _ _ _ (Array.getElem?_eq_some_iff.1 hs5).1).trans hs5)
      have HW6 : Hid (∀ a : Array Value, ((w5.alloc (.cells a 45)).setRow w5.heap.size (stC (St0 n i k)).toArray).heap[w5.heap.size]? = some (.cells (stC (St0 n i k)).toArray 45)) := fun a => setRow_heap _ _ _ _ _ _ (heap_alloc_new w5 _)
      have HB6 : Hid (∀ a, Below w.heap.size w ((w5.alloc a).setRow w5.heap.size (stC (St0 n i k)).toArray)) := fun a => below_setRow (HB5.out.alloc HB5.out.size _) HB5.out.size _
      have hsz6 : w.heap.size + 1 < w5.heap.size := (Array.getElem?_eq_some_iff.1 hs5).1
      clear hb5 hs5
      go_wp2_with (first | (refine wpList_store_row rfl 45 _ _ rfl w5.heap.size (stC (St0 n i k)).toArray rfl rfl 45 _ (heap_alloc_new w5 _) HI0.out rfl HON0.out ?_) | (refine wpList_load_mid rfl 45 _ rfl (w.heap.size + 1) 0 rfl ss _ (HRS.out _ (HS6.out _)) Try.underlying45 rfl HIS.out ?_))
      refine (HSET.out _ (HV6.out _)).mono ?_
      rintro e w7 ⟨rfl, hv7, hc7⟩
      have HV7 : Hid (VM w7 vb m (St0 n i k)) := hv7
      have HK7 : Hid (w7.heap[w5.heap.size]? = some (.cells (stC (St0 n i k)).toArray 45)) := (hc7.block _ (by simp [World.setRow]) (by have := hv5.lt; omega)).trans (HW6.out _)
      have HB7 : Hid (Below w.heap.size w w7) := (HB6.out _).trans (hc7.toBelow (by omega) (HB6.out _).size)
      clear hv7 hc7 hv5
      have hld : ∀ w' : World, w'.heap[w5.heap.size]? = some (.cells (stC (St0 n i k)).toArray 45) → (ld45 (.pointer (some ⟨w5.heap.size, 0, none⟩))).run Try.prog w' = .ok (.agg (stC (St0 n i k)).toArray) w' := fun w' h => load45 rfl h
      have hk7 : w7.drew.heap[w5.heap.size]? = some (.cells (stC (St0 n i k)).toArray 45) := HK7.out
      have HN7 : Hid (Calls Try.prog 16 #[.pointer (some ⟨vb, 0, none⟩)] w7.drew fun e w' => e = .returned (.agg (stC (St0 n i k)).toArray) ∧ Below w7.drew.heap.size w7.drew w') := HNOW.out w7.drew _ HV7.out.drew
      go_wp2_with fail
      go_region_held3 (fun w' => w'.heap[w5.heap.size]? = some (.cells (stC (St0 n i k)).toArray 45)) (first | assumption | go_keep) (first | (go_at_call 16; refine HN7.out.mono ?_; rintro e w8 ⟨rfl, hb8⟩; have hk8 : w8.heap[w5.heap.size]? = some (.cells (stC (St0 n i k)).toArray 45) := (hb8.block _ (Array.getElem?_eq_some_iff.1 hk7).1).trans hk7; have HB8 : Hid (Below w.heap.size w w8) := HB7.out.drew.trans (hb8.mono HB7.out.drew.size); clear hb8) | (go_at_call 9; refine (HAL.out w8 HB8.out).mono ?_; rintro e w9 ⟨rfl, hb9⟩; have hk9 : w9.heap[w5.heap.size]? = some (.cells (stC (St0 n i k)).toArray 45) := (hb9.block _ (Array.getElem?_eq_some_iff.1 hk8).1).trans hk8; have HB9 : Hid (Below w.heap.size w w9) := HB8.out.trans (hb9.mono HB8.out.size); clear hb9))
      go_wp2
      go_ret
      exact ⟨rfl, HB9.out⟩
    have e2 : decide (0 ≤ q) = true := by simp [h2]
    by_cases h3 : q ≤ fuel
    rotate_left
    · have e3 : decide (q ≤ fuel) = false := by simp; omega
      have f3 : fuel < q := by omega
      have hb0 : b = false := by rw [← hb]; simp; omega
      subst hb0
      clear hb
      go_wp2_with fail
      refine (HNOW.out _ _ HV4.out).mono ?_
      rintro e w5 ⟨rfl, hb5⟩
      have HB5 : Hid (Below w.heap.size w w5) := HB4.out.trans (hb5.mono HB4.out.size)
      have hv5 : VM w5 vb m (St0 n i k) := HV4.out.below hb5
      have hs5 : w5.heap[w.heap.size + 1]? = some (.cells ss.toArray 45) := (hb5.block _ (Array.getElem?_eq_some_iff.1 HS4.out).1).trans HS4.out
      have HV6 : Hid (∀ a, VM ((w5.alloc a).setRow w5.heap.size (stC (St0 n i k)).toArray) vb m (St0 n i k)) := fun a => (hv5.alloc a).keep (setRow_other _ _ _ _ (by have := hv5.lt; omega))
      have HS6 : Hid (∀ a, ((w5.alloc a).setRow w5.heap.size (stC (St0 n i k)).toArray).heap[w.heap.size + 1]? = some (.cells ss.toArray 45)) := fun a => (setRow_other _ _ _ _ (by have := (Array.getElem?_eq_some_iff.1 hs5).1; omega)).trans ((Below.heap_alloc _ _ _ (Array.getElem?_eq_some_iff.1 hs5).1).trans hs5)
      have HW6 : Hid (∀ a : Array Value, ((w5.alloc (.cells a 45)).setRow w5.heap.size (stC (St0 n i k)).toArray).heap[w5.heap.size]? = some (.cells (stC (St0 n i k)).toArray 45)) := fun a => setRow_heap _ _ _ _ _ _ (heap_alloc_new w5 _)
      have HB6 : Hid (∀ a, Below w.heap.size w ((w5.alloc a).setRow w5.heap.size (stC (St0 n i k)).toArray)) := fun a => below_setRow (HB5.out.alloc HB5.out.size _) HB5.out.size _
      have hsz6 : w.heap.size + 1 < w5.heap.size := (Array.getElem?_eq_some_iff.1 hs5).1
      clear hb5 hs5
      go_wp2_with (first | (refine wpList_store_row rfl 45 _ _ rfl w5.heap.size (stC (St0 n i k)).toArray rfl rfl 45 _ (heap_alloc_new w5 _) HI0.out rfl HON0.out ?_) | (refine wpList_load_mid rfl 45 _ rfl (w.heap.size + 1) 0 rfl ss _ (HRS.out _ (HS6.out _)) Try.underlying45 rfl HIS.out ?_))
      refine (HSET.out _ (HV6.out _)).mono ?_
      rintro e w7 ⟨rfl, hv7, hc7⟩
      have HV7 : Hid (VM w7 vb m (St0 n i k)) := hv7
      have HK7 : Hid (w7.heap[w5.heap.size]? = some (.cells (stC (St0 n i k)).toArray 45)) := (hc7.block _ (by simp [World.setRow]) (by have := hv5.lt; omega)).trans (HW6.out _)
      have HB7 : Hid (Below w.heap.size w w7) := (HB6.out _).trans (hc7.toBelow (by omega) (HB6.out _).size)
      clear hv7 hc7 hv5
      have hld : ∀ w' : World, w'.heap[w5.heap.size]? = some (.cells (stC (St0 n i k)).toArray 45) → (ld45 (.pointer (some ⟨w5.heap.size, 0, none⟩))).run Try.prog w' = .ok (.agg (stC (St0 n i k)).toArray) w' := fun w' h => load45 rfl h
      have hk7 : w7.drew.heap[w5.heap.size]? = some (.cells (stC (St0 n i k)).toArray 45) := HK7.out
      have HN7 : Hid (Calls Try.prog 16 #[.pointer (some ⟨vb, 0, none⟩)] w7.drew fun e w' => e = .returned (.agg (stC (St0 n i k)).toArray) ∧ Below w7.drew.heap.size w7.drew w') := HNOW.out w7.drew _ HV7.out.drew
      go_wp2_with fail
      go_region_held3 (fun w' => w'.heap[w5.heap.size]? = some (.cells (stC (St0 n i k)).toArray 45)) (first | assumption | go_keep) (first | (go_at_call 16; refine HN7.out.mono ?_; rintro e w8 ⟨rfl, hb8⟩; have hk8 : w8.heap[w5.heap.size]? = some (.cells (stC (St0 n i k)).toArray 45) := (hb8.block _ (Array.getElem?_eq_some_iff.1 hk7).1).trans hk7; have HB8 : Hid (Below w.heap.size w w8) := HB7.out.drew.trans (hb8.mono HB7.out.drew.size); clear hb8) | (go_at_call 9; refine (HAL.out w8 HB8.out).mono ?_; rintro e w9 ⟨rfl, hb9⟩; have hk9 : w9.heap[w5.heap.size]? = some (.cells (stC (St0 n i k)).toArray 45) := (hb9.block _ (Array.getElem?_eq_some_iff.1 hk8).1).trans hk8; have HB9 : Hid (Below w.heap.size w w9) := HB8.out.trans (hb9.mono HB8.out.size); clear hb9))
      go_wp2
      go_ret
      exact ⟨rfl, HB9.out⟩
    have e3 : decide (q ≤ fuel) = true := by simp [h3]
    by_cases h4 : 0 ≤ o
    rotate_left
    · have e4 : decide (0 ≤ o) = false := by simp; omega
      have f4 : o < 0 := by omega
      have hb0 : b = false := by rw [← hb]; simp; omega
      subst hb0
      clear hb
      go_wp2_with fail
      refine (HNOW.out _ _ HV4.out).mono ?_
      rintro e w5 ⟨rfl, hb5⟩
      have HB5 : Hid (Below w.heap.size w w5) := HB4.out.trans (hb5.mono HB4.out.size)
      have hv5 : VM w5 vb m (St0 n i k) := HV4.out.below hb5
      have hs5 : w5.heap[w.heap.size + 1]? = some (.cells ss.toArray 45) := (hb5.block _ (Array.getElem?_eq_some_iff.1 HS4.out).1).trans HS4.out
      have HV6 : Hid (∀ a, VM ((w5.alloc a).setRow w5.heap.size (stC (St0 n i k)).toArray) vb m (St0 n i k)) := fun a => (hv5.alloc a).keep (setRow_other _ _ _ _ (by have := hv5.lt; omega))
      have HS6 : Hid (∀ a, ((w5.alloc a).setRow w5.heap.size (stC (St0 n i k)).toArray).heap[w.heap.size + 1]? = some (.cells ss.toArray 45)) := fun a => (setRow_other _ _ _ _ (by have := (Array.getElem?_eq_some_iff.1 hs5).1; omega)).trans ((Below.heap_alloc _ _ _ (Array.getElem?_eq_some_iff.1 hs5).1).trans hs5)
      have HW6 : Hid (∀ a : Array Value, ((w5.alloc (.cells a 45)).setRow w5.heap.size (stC (St0 n i k)).toArray).heap[w5.heap.size]? = some (.cells (stC (St0 n i k)).toArray 45)) := fun a => setRow_heap _ _ _ _ _ _ (heap_alloc_new w5 _)
      have HB6 : Hid (∀ a, Below w.heap.size w ((w5.alloc a).setRow w5.heap.size (stC (St0 n i k)).toArray)) := fun a => below_setRow (HB5.out.alloc HB5.out.size _) HB5.out.size _
      have hsz6 : w.heap.size + 1 < w5.heap.size := (Array.getElem?_eq_some_iff.1 hs5).1
      clear hb5 hs5
      go_wp2_with (first | (refine wpList_store_row rfl 45 _ _ rfl w5.heap.size (stC (St0 n i k)).toArray rfl rfl 45 _ (heap_alloc_new w5 _) HI0.out rfl HON0.out ?_) | (refine wpList_load_mid rfl 45 _ rfl (w.heap.size + 1) 0 rfl ss _ (HRS.out _ (HS6.out _)) Try.underlying45 rfl HIS.out ?_))
      refine (HSET.out _ (HV6.out _)).mono ?_
      rintro e w7 ⟨rfl, hv7, hc7⟩
      have HV7 : Hid (VM w7 vb m (St0 n i k)) := hv7
      have HK7 : Hid (w7.heap[w5.heap.size]? = some (.cells (stC (St0 n i k)).toArray 45)) := (hc7.block _ (by simp [World.setRow]) (by have := hv5.lt; omega)).trans (HW6.out _)
      have HB7 : Hid (Below w.heap.size w w7) := (HB6.out _).trans (hc7.toBelow (by omega) (HB6.out _).size)
      clear hv7 hc7 hv5
      have hld : ∀ w' : World, w'.heap[w5.heap.size]? = some (.cells (stC (St0 n i k)).toArray 45) → (ld45 (.pointer (some ⟨w5.heap.size, 0, none⟩))).run Try.prog w' = .ok (.agg (stC (St0 n i k)).toArray) w' := fun w' h => load45 rfl h
      have hk7 : w7.drew.heap[w5.heap.size]? = some (.cells (stC (St0 n i k)).toArray 45) := HK7.out
      have HN7 : Hid (Calls Try.prog 16 #[.pointer (some ⟨vb, 0, none⟩)] w7.drew fun e w' => e = .returned (.agg (stC (St0 n i k)).toArray) ∧ Below w7.drew.heap.size w7.drew w') := HNOW.out w7.drew _ HV7.out.drew
      go_wp2_with fail
      go_region_held3 (fun w' => w'.heap[w5.heap.size]? = some (.cells (stC (St0 n i k)).toArray 45)) (first | assumption | go_keep) (first | (go_at_call 16; refine HN7.out.mono ?_; rintro e w8 ⟨rfl, hb8⟩; have hk8 : w8.heap[w5.heap.size]? = some (.cells (stC (St0 n i k)).toArray 45) := (hb8.block _ (Array.getElem?_eq_some_iff.1 hk7).1).trans hk7; have HB8 : Hid (Below w.heap.size w w8) := HB7.out.drew.trans (hb8.mono HB7.out.drew.size); clear hb8) | (go_at_call 9; refine (HAL.out w8 HB8.out).mono ?_; rintro e w9 ⟨rfl, hb9⟩; have hk9 : w9.heap[w5.heap.size]? = some (.cells (stC (St0 n i k)).toArray 45) := (hb9.block _ (Array.getElem?_eq_some_iff.1 hk8).1).trans hk8; have HB9 : Hid (Below w.heap.size w w9) := HB8.out.trans (hb9.mono HB8.out.size); clear hb9))
      go_wp2
      go_ret
      exact ⟨rfl, HB9.out⟩
    have e4 : decide (0 ≤ o) = true := by simp [h4]
    by_cases h5 : o ≤ 5
    rotate_left
    · have e5 : decide (o ≤ 5) = false := by simp; omega
      have f5 : 5 < o := by omega
      have hb0 : b = false := by rw [← hb]; simp; omega
      subst hb0
      clear hb
      go_wp2_with fail
      refine (HNOW.out _ _ HV4.out).mono ?_
      rintro e w5 ⟨rfl, hb5⟩
      have HB5 : Hid (Below w.heap.size w w5) := HB4.out.trans (hb5.mono HB4.out.size)
      have hv5 : VM w5 vb m (St0 n i k) := HV4.out.below hb5
      have hs5 : w5.heap[w.heap.size + 1]? = some (.cells ss.toArray 45) := (hb5.block _ (Array.getElem?_eq_some_iff.1 HS4.out).1).trans HS4.out
      have HV6 : Hid (∀ a, VM ((w5.alloc a).setRow w5.heap.size (stC (St0 n i k)).toArray) vb m (St0 n i k)) := fun a => (hv5.alloc a).keep (setRow_other _ _ _ _ (by have := hv5.lt; omega))
      have HS6 : Hid (∀ a, ((w5.alloc a).setRow w5.heap.size (stC (St0 n i k)).toArray).heap[w.heap.size + 1]? = some (.cells ss.toArray 45)) := fun a => (setRow_other _ _ _ _ (by have := (Array.getElem?_eq_some_iff.1 hs5).1; omega)).trans ((Below.heap_alloc _ _ _ (Array.getElem?_eq_some_iff.1 hs5).1).trans hs5)
      have HW6 : Hid (∀ a : Array Value, ((w5.alloc (.cells a 45)).setRow w5.heap.size (stC (St0 n i k)).toArray).heap[w5.heap.size]? = some (.cells (stC (St0 n i k)).toArray 45)) := fun a => setRow_heap _ _ _ _ _ _ (heap_alloc_new w5 _)
      have HB6 : Hid (∀ a, Below w.heap.size w ((w5.alloc a).setRow w5.heap.size (stC (St0 n i k)).toArray)) := fun a => below_setRow (HB5.out.alloc HB5.out.size _) HB5.out.size _
      have hsz6 : w.heap.size + 1 < w5.heap.size := (Array.getElem?_eq_some_iff.1 hs5).1
      clear hb5 hs5
      go_wp2_with (first | (refine wpList_store_row rfl 45 _ _ rfl w5.heap.size (stC (St0 n i k)).toArray rfl rfl 45 _ (heap_alloc_new w5 _) HI0.out rfl HON0.out ?_) | (refine wpList_load_mid rfl 45 _ rfl (w.heap.size + 1) 0 rfl ss _ (HRS.out _ (HS6.out _)) Try.underlying45 rfl HIS.out ?_))
      refine (HSET.out _ (HV6.out _)).mono ?_
      rintro e w7 ⟨rfl, hv7, hc7⟩
      have HV7 : Hid (VM w7 vb m (St0 n i k)) := hv7
      have HK7 : Hid (w7.heap[w5.heap.size]? = some (.cells (stC (St0 n i k)).toArray 45)) := (hc7.block _ (by simp [World.setRow]) (by have := hv5.lt; omega)).trans (HW6.out _)
      have HB7 : Hid (Below w.heap.size w w7) := (HB6.out _).trans (hc7.toBelow (by omega) (HB6.out _).size)
      clear hv7 hc7 hv5
      have hld : ∀ w' : World, w'.heap[w5.heap.size]? = some (.cells (stC (St0 n i k)).toArray 45) → (ld45 (.pointer (some ⟨w5.heap.size, 0, none⟩))).run Try.prog w' = .ok (.agg (stC (St0 n i k)).toArray) w' := fun w' h => load45 rfl h
      have hk7 : w7.drew.heap[w5.heap.size]? = some (.cells (stC (St0 n i k)).toArray 45) := HK7.out
      have HN7 : Hid (Calls Try.prog 16 #[.pointer (some ⟨vb, 0, none⟩)] w7.drew fun e w' => e = .returned (.agg (stC (St0 n i k)).toArray) ∧ Below w7.drew.heap.size w7.drew w') := HNOW.out w7.drew _ HV7.out.drew
      go_wp2_with fail
      go_region_held3 (fun w' => w'.heap[w5.heap.size]? = some (.cells (stC (St0 n i k)).toArray 45)) (first | assumption | go_keep) (first | (go_at_call 16; refine HN7.out.mono ?_; rintro e w8 ⟨rfl, hb8⟩; have hk8 : w8.heap[w5.heap.size]? = some (.cells (stC (St0 n i k)).toArray 45) := (hb8.block _ (Array.getElem?_eq_some_iff.1 hk7).1).trans hk7; have HB8 : Hid (Below w.heap.size w w8) := HB7.out.drew.trans (hb8.mono HB7.out.drew.size); clear hb8) | (go_at_call 9; refine (HAL.out w8 HB8.out).mono ?_; rintro e w9 ⟨rfl, hb9⟩; have hk9 : w9.heap[w5.heap.size]? = some (.cells (stC (St0 n i k)).toArray 45) := (hb9.block _ (Array.getElem?_eq_some_iff.1 hk8).1).trans hk8; have HB9 : Hid (Below w.heap.size w w9) := HB8.out.trans (hb9.mono HB8.out.size); clear hb9))
      go_wp2
      go_ret
      exact ⟨rfl, HB9.out⟩
    have e5 : decide (o ≤ 5) = true := by simp [h5]
    have hb0 : b = true := by rw [← hb]; simp; omega
    subst hb0
    clear hb
    go_wp2_with fail
    refine (HNOW.out _ _ HV4.out).mono ?_
    rintro e w5 ⟨rfl, hb5⟩
    have HB5 : Hid (Below w.heap.size w w5) := HB4.out.trans (hb5.mono HB4.out.size)
    have hv5 : VM w5 vb m (St0 n i k) := HV4.out.below hb5
    have hs5 : w5.heap[w.heap.size + 1]? = some (.cells ss.toArray 45) := (hb5.block _ (Array.getElem?_eq_some_iff.1 HS4.out).1).trans HS4.out
    have HV6 : Hid (∀ a, VM ((w5.alloc a).setRow w5.heap.size (stC (St0 n i k)).toArray) vb m (St0 n i k)) := fun a => (hv5.alloc a).keep (setRow_other _ _ _ _ (by have := hv5.lt; omega))
    have HS6 : Hid (∀ a, ((w5.alloc a).setRow w5.heap.size (stC (St0 n i k)).toArray).heap[w.heap.size + 1]? = some (.cells ss.toArray 45)) := fun a => (setRow_other _ _ _ _ (by have := (Array.getElem?_eq_some_iff.1 hs5).1; omega)).trans ((Below.heap_alloc _ _ _ (Array.getElem?_eq_some_iff.1 hs5).1).trans hs5)
    have HW6 : Hid (∀ a : Array Value, ((w5.alloc (.cells a 45)).setRow w5.heap.size (stC (St0 n i k)).toArray).heap[w5.heap.size]? = some (.cells (stC (St0 n i k)).toArray 45)) := fun a => setRow_heap _ _ _ _ _ _ (heap_alloc_new w5 _)
    have HB6 : Hid (∀ a, Below w.heap.size w ((w5.alloc a).setRow w5.heap.size (stC (St0 n i k)).toArray)) := fun a => below_setRow (HB5.out.alloc HB5.out.size _) HB5.out.size _
    have hsz6 : w.heap.size + 1 < w5.heap.size := (Array.getElem?_eq_some_iff.1 hs5).1
    clear hb5 hs5
    go_wp2_with (first | (refine wpList_store_row rfl 45 _ _ rfl w5.heap.size (stC (St0 n i k)).toArray rfl rfl 45 _ (heap_alloc_new w5 _) HI0.out rfl HON0.out ?_) | (refine wpList_load_mid rfl 45 _ rfl (w.heap.size + 1) 0 rfl ss _ (HRS.out _ (HS6.out _)) Try.underlying45 rfl HIS.out ?_))
    refine (HSET.out _ (HV6.out _)).mono ?_
    rintro e w7 ⟨rfl, hv7, hc7⟩
    have HV7 : Hid (VM w7 vb m s) := hv7
    have HK7 : Hid (w7.heap[w.heap.size + 1]? = some (.cells ss.toArray 45)) := (hc7.block _ (by simp [World.setRow]; omega) (by omega)).trans (HS6.out _)
    have HB7 : Hid (Below w.heap.size w w7) := (HB6.out _).trans (hc7.toBelow (by omega) (HB6.out _).size)
    clear hv7 hc7 hv5
    have hld : ∀ w' : World, w'.heap[w.heap.size + 1]? = some (.cells ss.toArray 45) → (ld45 (.pointer (some ⟨w.heap.size + 1, 0, none⟩))).run Try.prog w' = .ok (.agg ss.toArray) w' := fun w' h => load45 HSZ.out h
    have hk7 : w7.drew.heap[w.heap.size + 1]? = some (.cells ss.toArray 45) := HK7.out
    have HN7 : Hid (Calls Try.prog 16 #[.pointer (some ⟨vb, 0, none⟩)] w7.drew fun e w' => e = .returned (.agg ss.toArray) ∧ Below w7.drew.heap.size w7.drew w') := by have := HNOW.out w7.drew s HV7.out.drew; rw [hss] at this; exact this
    go_wp2_with fail
    go_region_held3 (fun w' => w'.heap[w.heap.size + 1]? = some (.cells ss.toArray 45)) (first | assumption | go_keep) (first | (go_at_call 16; refine HN7.out.mono ?_; rintro e w8 ⟨rfl, hb8⟩; have hk8 : w8.heap[w.heap.size + 1]? = some (.cells ss.toArray 45) := (hb8.block _ (Array.getElem?_eq_some_iff.1 hk7).1).trans hk7; have HB8 : Hid (Below w.heap.size w w8) := HB7.out.drew.trans (hb8.mono HB7.out.drew.size); clear hb8) | (go_at_call 9; refine (HAL.out w8 HB8.out).mono ?_; rintro e w9 ⟨rfl, hb9⟩; have hk9 : w9.heap[w.heap.size + 1]? = some (.cells ss.toArray 45) := (hb9.block _ (Array.getElem?_eq_some_iff.1 hk8).1).trans hk8; have HB9 : Hid (Below w.heap.size w w9) := HB8.out.trans (hb9.mono HB8.out.size); clear hb9))
    go_wp2
    go_ret
    exact ⟨rfl, HB9.out⟩
end Go.Proofs.Ytkcncngcmhldpaa
