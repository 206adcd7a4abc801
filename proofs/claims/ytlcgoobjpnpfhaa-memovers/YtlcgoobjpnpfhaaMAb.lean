/- All that is laid over, and that nothing is. -/
import Derived.Test.YtlcgoobjpnpfhaaMAa
namespace Go.Proofs.Ytlcgoobjpnpfhaa
open Go.RowKit Go.Maps
set_option linter.unusedVariables false

theorem allX_some {S : List (Int × Int)} {q : Nat} {y : Int} (h : lastC S (q : Int) = some y) : allX S q = [((q : Int), y)] := by simp [allX, h]
theorem allX_none {S : List (Int × Int)} {q : Nat} (h : lastC S (q : Int) = none) : allX S q = [] := by simp [allX, h]
set_option maxRecDepth 100000 in
set_option maxHeartbeats 2000000 in
theorem olen_any (ob : Nat) (S : List (Int × Int)) (w : World) (h : OV w ob S) : Calls Try.prog 25 #[.pointer (some ⟨ob, 0, none⟩)] w fun e w' => e = .returned (.int .i64 ((allL S).length : Int)) ∧ w' = w := by
  have HR : Hid (w.rangeAt ob 64 ((toldM S).map Value.bool)) := h.rng
  have HI : Hid ((Try.prog.info? 40).map (·.size) = some ((toldM S).map Value.bool).length) := by show _ = _; rw [List.length_map, toldM_len]; exact size40
  have HX : Hid (∀ q : Nat, q < 64 → ∀ W, (Instr.index 40 (.agg (bools (toldM S))) (.int .i64 (q : Int))).run Try.prog W = .ok (.bool (lastC S (q : Int)).isSome) W) := fun q hq W => by
    rw [idx40 (toldM S) (toldM_len S) q hq W]
    simp [toldM]
  have HE : Hid (((toldM S).map Value.bool).toArray = bools (toldM S)) := rfl
  obtain ⟨R, hR⟩ : ∃ R : Nat, (allL S).length = R := ⟨_, rfl⟩
  have HRR : Hid ((allQ S 64).length = R) := hR
  rw [hR]
  clear h hR
  go_enter Try.func25, Try.ntmps25
  go_wp2_with (refine wpList_load_mid rfl 40 _ rfl ob 64 rfl ((toldM S).map Value.bool) _ HR.out Try.underlying40 rfl HI.out ?_)
  rw [HE.out]
  obtain ⟨AR, hAR⟩ : ∃ AR, bools (toldM S) = AR := ⟨_, rfl⟩
  rw [hAR]
  rw [hAR] at HX
  clear hAR HR HI HE
  go_wp2_with fail
  go_loopw [3, 10] (fun n i wr => ∃ q : Nat, i = .int .i64 (q : Int) ∧ q ≤ 64 ∧ n = .int .i64 (((allQ S q).length : Nat) : Int) ∧ Hid (wr = w)) (fun _ i _ => 64 - (intOf i).toNat)
  case atStart => exact ⟨0, rfl, Nat.zero_le _, rfl, rfl⟩
  case round =>
    obtain ⟨q, rfl, hq, rfl, HW⟩ := hrel
    rw [HW.out]
    by_cases hlt : q < 64
    · have e1 : decide ((q : Int) < 64) = true := by simp; omega
      have hx := HX.out q hlt w
      have HL := allQ_len S q
      obtain ⟨m, hm⟩ : ∃ m, (allQ S q).length = m := ⟨_, rfl⟩
      have HM : Hid ((allQ S q).length = m) := hm
      rw [hm] at HL
      rw [hm]
      clear hm
      cases hlc : lastC S (q : Int) with
      | none =>
        rw [hlc] at hx
        have HS : Hid (m = (allQ S (q + 1)).length) := by show _ = _; rw [allQ_succ, allX_none hlc, List.append_nil]; exact HM.out.symm
        have hx2 : (Instr.index 40 (.agg AR) (.int .i64 (q : Int))).run Try.prog w = .ok (.bool false) w := hx
        clear hlc hx
        go_wp2_with fail
        go_roundw
        case rel => exact ⟨q + 1, by go_num, by omega, by rw [← HS.out], trivial⟩
        case measure => simp [intOf]; omega
      | some y =>
        rw [hlc] at hx
        have HS : Hid (m + 1 = (allQ S (q + 1)).length) := by show _ = _; rw [allQ_succ, allX_some hlc, List.length_append, HM.out]; rfl
        have hx2 : (Instr.index 40 (.agg AR) (.int .i64 (q : Int))).run Try.prog w = .ok (.bool true) w := hx
        clear hlc hx
        go_wp2_with fail
        go_roundw
        case rel => exact ⟨q + 1, by go_num, by omega, by rw [← HS.out]; go_num, trivial⟩
        case measure => simp [intOf]; omega
    · have e1 : decide ((q : Int) < 64) = false := by simp; omega
      have hq64 : q = 64 := by omega
      subst hq64
      rw [HRR.out]
      go_wp2
      go_ret
      exact ⟨rfl, rfl⟩

set_option maxRecDepth 100000 in
set_option maxHeartbeats 2000000 in
theorem ocells_any (ob : Nat) (S : List (Int × Int)) (w : World) (h : OV w ob S) : Calls Try.prog 26 #[.pointer (some ⟨ob, 0, none⟩)] w (DiffP (allL S) w) := by
  have H : Hid (OV w ob S) := h
  have HR : Hid (w.rangeAt ob 64 ((toldM S).map Value.bool)) := h.rng
  have HI : Hid ((Try.prog.info? 40).map (·.size) = some ((toldM S).map Value.bool).length) := by show _ = _; rw [List.length_map, toldM_len]; exact size40
  have HX : Hid (∀ q : Nat, q < 64 → ∀ W, (Instr.index 40 (.agg (bools (toldM S))) (.int .i64 (q : Int))).run Try.prog W = .ok (.bool (lastC S (q : Int)).isSome) W) := fun q hq W => by
    rw [idx40 (toldM S) (toldM_len S) q hq W]
    simp [toldM]
  have HE : Hid (((toldM S).map Value.bool).toArray = bools (toldM S)) := rfl
  obtain ⟨P, hP⟩ : ∃ P, DiffP (allL S) w = P := ⟨_, rfl⟩
  have HQ : Hid (DiffP (allL S) w = P) := hP
  rw [hP]
  clear h hP
  go_enter Try.func26, Try.ntmps26
  go_wp2_with (refine wpList_load_mid rfl 40 _ rfl ob 64 rfl ((toldM S).map Value.bool) _ HR.out Try.underlying40 rfl HI.out ?_)
  rw [HE.out]
  obtain ⟨AR, hAR⟩ : ∃ AR, bools (toldM S) = AR := ⟨_, rfl⟩
  rw [hAR]
  rw [hAR] at HX
  clear hAR HR HI HE
  go_wp2_with fail
  go_loopw [3, 10] (fun av i wr => ∃ (q : Nat) (oa : Option Addr) (oc : Nat) (m : Nat), i = .int .i64 (q : Int) ∧ av = .slice oa m oc ∧ q ≤ 64 ∧ Hid (m = (allQ S q).length) ∧ Hid (PZ wr w.heap.size (.slice oa m oc) (allQ S q)) ∧ Hid (Below w.heap.size w wr)) (fun _ i _ => 64 - (intOf i).toNat)
  case atStart => exact ⟨0, none, 0, 0, rfl, rfl, Nat.zero_le _, rfl, PZ.nil _ _, Below.refl _ _⟩
  case round =>
    obtain ⟨q, oa, oc, m, rfl, rfl, hq, HML, HI, HB⟩ := hrel
    by_cases hlt : q < 64
    · have e1 : decide ((q : Int) < 64) = true := by simp; omega
      have hqi : (q : Int) < 64 := by omega
      have hx := HX.out q hlt wr
      cases hlc : lastC S (q : Int) with
      | none =>
        rw [hlc] at hx
        have HS : Hid (allQ S (q + 1) = allQ S q) := by show _ = _; rw [allQ_succ, allX_none hlc, List.append_nil]
        have HM2 : Hid (m = (allQ S (q + 1)).length) := by show _ = _; rw [HS.out]; exact HML.out
        have HI2 : Hid (PZ wr w.heap.size (.slice oa m oc) (allQ S (q + 1))) := by show PZ _ _ _ _; rw [HS.out]; exact HI.out
        have hx2 : (Instr.index 40 (.agg AR) (.int .i64 (q : Int))).run Try.prog wr = .ok (.bool false) wr := hx
        clear hlc hx
        go_wp2_with fail
        go_roundw
        case rel => exact ⟨q + 1, oa, oc, m, by go_num, rfl, by omega, HM2, HI2, HB⟩
        case measure => simp [intOf]; omega
      | some y =>
        rw [hlc] at hx
        have d1 : wr.cell? ⟨ob, q, none⟩ = some (.int .i64 y) := by
          have h8 := H.out.word q hlt
          rw [hlc] at h8
          exact (HB.out.cell (p := ⟨ob, q, none⟩) H.out.lt).trans h8
        have HS : Hid (allQ S q ++ [((q : Int), y)] = allQ S (q + 1)) := by show _ = _; rw [allQ_succ, allX_some hlc]
        have HLQ : Hid ((allQ S q).length ≤ 100000) := by have := allQ_len S q; show _ ≤ _; omega
        have hx2 : (Instr.index 40 (.agg AR) (.int .i64 (q : Int))).run Try.prog wr = .ok (.bool true) wr := hx
        clear hlc hx
        have HIA : Hid (PZ (wr.alloc (Obj.cells #[Value.int .i64 (q : Int), Value.int .i64 y] 47)) w.heap.size (.slice oa m oc) (allQ S q)) := HI.out.below ((Below.refl _ _).alloc (Nat.le_refl _) _)
        have HCL : Hid ((wr.alloc (Obj.cells #[Value.int .i64 (q : Int), Value.int .i64 y] 47)).cell? ⟨wr.heap.size, 0, none⟩ = some (.int .i64 (q : Int)) ∧ (wr.alloc (Obj.cells #[Value.int .i64 (q : Int), Value.int .i64 y] 47)).cell? ⟨wr.heap.size, 1, none⟩ = some (.int .i64 y)) := by show _ ∧ _; constructor <;> simp
        have HBA : Hid (Below w.heap.size w (wr.alloc (Obj.cells #[Value.int .i64 (q : Int), Value.int .i64 y] 47))) := HB.out.alloc HB.out.size _
        go_wp2_with (at_builtin; refine push_pair _ rfl _ _ rfl w.heap.size _ (allQ S q) (q : Int) y rfl HIA.out wr.heap.size rfl HCL.out HLQ.out HBA.out.size ?_)
        intro v' w' hi' hb'
        rw [HS.out] at hi'
        obtain ⟨oa', oc', rfl⟩ := hi'.sl
        obtain ⟨m', hm'⟩ : ∃ m', (allQ S (q + 1)).length = m' := ⟨_, rfl⟩
        rw [hm'] at hi' ⊢
        have HM2 : Hid (m' = (allQ S (q + 1)).length) := hm'.symm
        have HI2 : Hid (PZ w' w.heap.size (.slice oa' m' oc') (allQ S (q + 1))) := hi'
        have HB2 : Hid (Below w.heap.size w w') := HBA.out.trans hb'
        clear hi' hb' hm'
        go_wp2_with fail
        go_roundw
        case rel => exact ⟨q + 1, oa', oc', m', by go_num, rfl, by omega, HM2, HI2, HB2⟩
        case measure => simp [intOf]; omega
    · have e1 : decide ((q : Int) < 64) = false := by simp; omega
      have hq64 : q = 64 := by omega
      subst hq64
      have HF : Hid (P (.returned (.slice oa m oc)) wr) := by
        show P _ _
        rw [← HQ.out]
        have h8 := HI.out
        have h9 := HML.out
        subst h9
        exact ⟨oa, oc, rfl, h8, HB.out⟩
      go_wp2
      first | exact HF.out | (go_ret; exact HF.out)

set_option maxRecDepth 100000 in
set_option maxHeartbeats 2000000 in
theorem rall_any (S : List (Int × Int)) (v : Value) (hl : S.length ≤ 100000) (w : World) (hv : PSl w v S) : Calls Try.prog 24 #[v] w (DiffP (allL S) w) := by
  have HL : Hid (∀ W q, Below w.heap.size w W → Calls Try.prog 35 #[v, .int .i64 ((q : Nat) : Int)] W fun e w' => e = .returned (.tuple #[.int .i64 ((lastC S ((q : Nat) : Int)).getD 0), .bool (lastC S ((q : Nat) : Int)).isSome]) ∧ w' = W) := fun W q hW => last_any S v _ hl W (hv.below hW)
  obtain ⟨a, c, _, _, rfl, hh⟩ := hv
  clear hh
  obtain ⟨P, hP⟩ : ∃ P, DiffP (allL S) w = P := ⟨_, rfl⟩
  have HQ : Hid (DiffP (allL S) w = P) := hP
  rw [hP]
  generalize S.length = n at *
  clear hP
  go_enter Try.func24, Try.ntmps24
  go_wp2_with fail
  go_loopw [3, 4] (fun av i wr => ∃ (q : Nat) (oa : Option Addr) (oc : Nat) (m : Nat), i = .int .i64 (q : Int) ∧ av = .slice oa m oc ∧ q ≤ 64 ∧ Hid (m = (allQ S q).length) ∧ Hid (PZ wr w.heap.size (.slice oa m oc) (allQ S q)) ∧ Hid (Below w.heap.size w wr)) (fun _ i _ => 64 - (intOf i).toNat)
  case atStart => exact ⟨0, none, 0, 0, rfl, rfl, Nat.zero_le _, rfl, PZ.nil _ _, Below.refl _ _⟩
  case round =>
    obtain ⟨q, oa, oc, m, rfl, rfl, hq, HML, HI, HB⟩ := hrel
    by_cases hlt : q < 64
    · have e1 : decide ((q : Int) < 64) = true := by simp; omega
      have hc := HL.out wr q HB.out
      cases hlc : lastC S (q : Int) with
      | none =>
        rw [hlc] at hc
        have HS : Hid (allQ S (q + 1) = allQ S q) := by show _ = _; rw [allQ_succ, allX_none hlc, List.append_nil]
        have HM2 : Hid (m = (allQ S (q + 1)).length) := by show _ = _; rw [HS.out]; exact HML.out
        have HI2 : Hid (PZ wr w.heap.size (.slice oa m oc) (allQ S (q + 1))) := by show PZ _ _ _ _; rw [HS.out]; exact HI.out
        have HC : Hid (Calls Try.prog 35 #[.slice a n c, .int .i64 (q : Int)] wr fun e w' => e = .returned (.tuple #[.int .i64 0, .bool false]) ∧ w' = wr) := hc
        clear hlc hc
        go_wp2_with fail
        refine HC.out.mono ?_
        rintro e w5 ⟨rfl, hw5⟩
        rw [hw5]
        clear hw5 w5
        go_wp2_with fail
        go_roundw
        case rel => exact ⟨q + 1, oa, oc, m, by go_num, rfl, by omega, HM2, HI2, HB⟩
        case measure => simp [intOf]; omega
      | some y =>
        rw [hlc] at hc
        have HS : Hid (allQ S q ++ [((q : Int), y)] = allQ S (q + 1)) := by show _ = _; rw [allQ_succ, allX_some hlc]
        have HLQ : Hid ((allQ S q).length ≤ 100000) := by have := allQ_len S q; show _ ≤ _; omega
        have HC : Hid (Calls Try.prog 35 #[.slice a n c, .int .i64 (q : Int)] wr fun e w' => e = .returned (.tuple #[.int .i64 y, .bool true]) ∧ w' = wr) := hc
        clear hlc hc
        have HIA : Hid (PZ (wr.alloc (Obj.cells #[Value.int .i64 (q : Int), Value.int .i64 y] 47)) w.heap.size (.slice oa m oc) (allQ S q)) := HI.out.below ((Below.refl _ _).alloc (Nat.le_refl _) _)
        have HCL : Hid ((wr.alloc (Obj.cells #[Value.int .i64 (q : Int), Value.int .i64 y] 47)).cell? ⟨wr.heap.size, 0, none⟩ = some (.int .i64 (q : Int)) ∧ (wr.alloc (Obj.cells #[Value.int .i64 (q : Int), Value.int .i64 y] 47)).cell? ⟨wr.heap.size, 1, none⟩ = some (.int .i64 y)) := by show _ ∧ _; constructor <;> simp
        have HBA : Hid (Below w.heap.size w (wr.alloc (Obj.cells #[Value.int .i64 (q : Int), Value.int .i64 y] 47))) := HB.out.alloc HB.out.size _
        go_wp2_with fail
        refine HC.out.mono ?_
        rintro e w5 ⟨rfl, hw5⟩
        rw [hw5]
        clear hw5 w5
        go_wp2_with (at_builtin; refine push_pair _ rfl _ _ rfl w.heap.size _ (allQ S q) (q : Int) y rfl HIA.out wr.heap.size rfl HCL.out HLQ.out HBA.out.size ?_)
        intro v' w' hi' hb'
        rw [HS.out] at hi'
        obtain ⟨oa', oc', rfl⟩ := hi'.sl
        obtain ⟨m', hm'⟩ : ∃ m', (allQ S (q + 1)).length = m' := ⟨_, rfl⟩
        rw [hm'] at hi' ⊢
        have HM2 : Hid (m' = (allQ S (q + 1)).length) := hm'.symm
        have HI2 : Hid (PZ w' w.heap.size (.slice oa' m' oc') (allQ S (q + 1))) := hi'
        have HB2 : Hid (Below w.heap.size w w') := HBA.out.trans hb'
        clear hi' hb' hm'
        go_wp2_with fail
        go_roundw
        case rel => exact ⟨q + 1, oa', oc', m', by go_num, rfl, by omega, HM2, HI2, HB2⟩
        case measure => simp [intOf]; omega
    · have e1 : decide ((q : Int) < 64) = false := by simp; omega
      have hq64 : q = 64 := by omega
      subst hq64
      have HF : Hid (P (.returned (.slice oa m oc)) wr) := by
        show P _ _
        rw [← HQ.out]
        have h8 := HI.out
        have h9 := HML.out
        subst h9
        exact ⟨oa, oc, rfl, h8, HB.out⟩
      go_wp2
      first | exact HF.out | (go_ret; exact HF.out)
end Go.Proofs.Ytlcgoobjpnpfhaa
