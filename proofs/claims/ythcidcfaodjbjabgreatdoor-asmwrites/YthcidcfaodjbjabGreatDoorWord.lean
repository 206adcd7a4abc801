/- What asm.Word and asm.meaning answer. -/
import Derived.Test.YthcidcfaodjbjabGreatDoorSay
import Derived.Laws.Tables
import Derived.Laws.Rows
import Derived.Great.BuildSlice
import Derived.Deep.WholeRow
import Derived.Laws.CopyOwn
import Derived.BigQuiet
import Derived.Deep.RegionWith
import Derived.Deep.RegionHeld3
namespace Go.Proofs.YthcidcfaodjbjabGreatDoor
open Go.RowKit
set_option linter.unusedVariables false
/-- a saying's cells -/
def sayV (s : Say) : Array Value := #[.int .i64 s.kind, .int .i64 s.op, .int .i64 0, .int .i64 0, .int .i64 0, .int .i64 0, .string ⟨s.word.toArray⟩, .string ⟨s.parts.toArray⟩]
/-- what meaning answers -/
def meanP (w : World) (e : Ending) (w' : World) : Option Say → Prop
  | some s => e = .returned (.tuple #[.agg (sayV s), .bool true]) ∧ Below w.heap.size w w'
  | none => e = .returned (.tuple #[.agg (sayV ⟨0, 0, [], []⟩), .bool false]) ∧ Below w.heap.size w w'
theorem results_row_tmp {P : Program} {fn : Func} {p j : Tmp} {ty : TypeId} (h : fn.results = #[.cell p ty, .tmp j]) (tmps : Array Value) (w : World) (g : Nat) (t : TypeId) (cs : Array Value) (fr : Nat × Nat) (d : TypeDesc) (v : Value)
    (hp : tmps[p]?.getD undef = .pointer (some ⟨g, 0, none⟩)) (hv : tmps[j]?.getD undef = v) (hg : w.heap[g]? = some (.cells cs t fr))
    (hu : P.underlying ty = some d) (hd : (match d with | .struct _ | .array _ _ => true | _ => false) = true) (hi : (P.info? ty).map (·.size) = some cs.size) :
    (results fn tmps).run P w = .ok (.tuple #[.agg cs, v]) w := by
  simp [results, h, hp, hv, asAddr, run_loadVar_row w g t ty cs fr d hg hu hd hi]
theorem info43 : (Tryz.prog.info? 85).map (·.size) = some 8 := by kernel_rfl
theorem str_eq (a : List UInt8) (t : ByteArray) : (a == t.toList) = decide (a = t.data.toList) := by
  rw [ByteArray.toList_eq]
  by_cases h : a = t.data.toList
  · rw [decide_eq_true h]; simpa using h
  · rw [decide_eq_false h]; simpa using h
theorem sayV_one (s : Say) : (sayV s).all (·.oneCell') = true := by simp [sayV, Value.oneCell']

set_option maxRecDepth 100000 in
set_option maxHeartbeats 4000000 in
theorem meaning_any (t : ByteArray) (w : World) : Calls Tryz.prog 73 #[.string t] w fun e w' => meanP w e w' (meanL t.data.toList) := by
  obtain ⟨out, hout⟩ : ∃ o, meanL t.data.toList = o := ⟨_, rfl⟩
  have HO : Hid (meanGo t.data.toList saysL = out) := hout
  rw [hout]
  clear hout
  go_enter Tryz.func73, Tryz.ntmps73
  go_wp2_with (go_at_call 43; refine (sayings_any _).mono ?_; rintro e w1 ⟨rfl, b1⟩; have HB1 : Hid (Below w.heap.size w w1) := ((Below.refl _ _).alloc (Nat.le_refl _) _).trans (b1.mono (by simp)); have HG1 : Hid (∃ c, c.size = 8 ∧ w1.heap[w.heap.size]? = some (.cells c 85 (0, 0))) := ⟨_, rfl, (b1.block w.heap.size (by simp)).trans (heap_alloc_new _ _)⟩; clear b1)
  go_loopw [7] (fun i wr => ∃ k : Nat, k ≤ 32 ∧ i = .int .i64 k ∧ Hid (meanGo t.data.toList (saysL.drop k) = out) ∧ Hid (Below w.heap.size w wr) ∧ Hid (w.heap.size < wr.heap.size) ∧ Hid (∃ c, c.size = 8 ∧ wr.heap[w.heap.size]? = some (.cells c 85 (0, 0)))) (fun i _ => 32 - (intOf i).toNat)
  case atStart =>
    refine ⟨0, Nat.zero_le _, rfl, HO, HB1, ?_, HG1⟩
    obtain ⟨c, _, hc⟩ := HG1.out
    exact (Array.getElem?_eq_some_iff.1 hc).1
  case round =>
    obtain ⟨k, hk, rfl, HK, HB, HL, HG⟩ := hrel
    by_cases hlt : k < 32
    · have hix : ∀ W, (Instr.index 86 (.agg saysA) (.int .i64 (k : Int))).run Tryz.prog W = .ok (.agg (sayV (say k))) W := fun W => says_at k hlt W
      have HN : Hid _ := (meanGo_drop t.data.toList k hlt).symm.trans HK.out
      obtain ⟨s, hs⟩ : ∃ s, say k = s := ⟨_, rfl⟩
      rw [hs] at hix HN
      clear hs HK
      unfold sayV at hix
      by_cases he : s.word = t.data.toList
      · have heq : (s.word == t.toList) = true := by rw [str_eq, decide_eq_true he]
        have HN2 : Hid (out = some s) := by have := HN.out; rw [if_pos he] at this; exact this.symm
        clear he HN
        obtain ⟨c, hc8, hc⟩ := HG.out
        have hlw := HL.out
        have HB2 : Hid (∀ o, Below w.heap.size w ((wr.alloc o).setRow w.heap.size (sayV s))) := fun o => below_setRow (HB.out.alloc HB.out.size _) (Nat.le_refl _) _
        have HG2 : Hid (∀ o, ((wr.alloc o).setRow w.heap.size (sayV s)).heap[w.heap.size]? = some (.cells (sayV s) 85 (0, 0))) := fun o => setRow_heap _ _ c _ 85 (0, 0) ((Below.heap_alloc wr o _ hlw).trans hc)
        go_wp2_with (refine wpList_store_rowTo rfl 85 _ _ rfl rfl w.heap.size (sayV s) rfl rfl 85 c ((Below.heap_alloc wr _ _ hlw).trans hc) info43 hc8 (sayV_one s) ?_)
        refine bodyPost_ret (results_row_tmp Tryz.results73 _ _ w.heap.size 85 (sayV s) (0, 0) _ (.bool true) rfl rfl (HG2.out _) Tryz.underlying85 rfl info43) rfl ?_
        rw [HN2.out]
        exact ⟨rfl, HB2.out _⟩
      · have heq : (s.word == t.toList) = false := by rw [str_eq, decide_eq_false he]
        have HN2 : Hid (meanGo t.data.toList (saysL.drop (k + 1)) = out) := by have := HN.out; rw [if_neg he] at this; exact this
        have hlw := HL.out
        have HB2 : Hid (∀ o, Below w.heap.size w (wr.alloc o)) := fun o => HB.out.alloc HB.out.size _
        have HG2 : Hid (∀ o, ∃ c, c.size = 8 ∧ (wr.alloc o).heap[w.heap.size]? = some (.cells c 85 (0, 0))) := fun o => by obtain ⟨c, hc8, hc⟩ := HG.out; exact ⟨c, hc8, (Below.heap_alloc wr o _ hlw).trans hc⟩
        go_wp2
        go_roundw
        case rel => exact ⟨k + 1, hlt, by go_num, HN2, HB2.out _, by show _ < _; simp; omega, HG2.out _⟩
        case measure => simp [intOf]; omega
    · have hke : k = 32 := by omega
      subst hke
      have HN2 : Hid (out = none) := by have := HK.out; exact this.symm
      obtain ⟨c, hc8, hc⟩ := HG.out
      have HB2 : Hid (Below w.heap.size w (wr.setRow w.heap.size (sayV ⟨0, 0, [], []⟩))) := below_setRow HB.out (Nat.le_refl _) _
      have HG2 : Hid ((wr.setRow w.heap.size (sayV ⟨0, 0, [], []⟩)).heap[w.heap.size]? = some (.cells (sayV ⟨0, 0, [], []⟩) 85 (0, 0))) := setRow_heap _ _ c _ 85 (0, 0) hc
      go_wp2_with (refine wpList_store_rowTo rfl 85 _ _ rfl rfl w.heap.size (sayV ⟨0, 0, [], []⟩) rfl rfl 85 c hc info43 hc8 (sayV_one _) ?_)
      refine bodyPost_ret (results_row_tmp Tryz.results73 _ _ w.heap.size 85 (sayV ⟨0, 0, [], []⟩) (0, 0) _ (.bool false) rfl rfl HG2.out Tryz.underlying85 rfl info43) rfl ?_
      rw [HN2.out]
      exact ⟨rfl, HB2.out⟩
theorem below_drewN {B : Nat} {w w' : World} (h : Below B w w') (n : Nat) : Below B w (w'.drewN n) := ⟨h.os, h.tape, h.output, h.size, h.block⟩
theorem inEq_bare (a b : Int) (x : In) : inEq ⟨a, b, 0, 0, 0, 0⟩ (bareI x) = decide (a = (bareI x).kind ∧ b = (bareI x).op) := by
  rw [Bool.eq_iff_iff]
  unfold inEq bareI
  split <;> simp
theorem Six.new43 (w : World) (s : Say) : Six (w.alloc (.cells (sayV s) 85)) w.heap.size ⟨s.kind, s.op, 0, 0, 0, 0⟩ := by
  unfold sayV
  exact ⟨by simp, by simp, by simp, by simp, by simp, by simp, by simp, by simp, by simp, by simp, by simp, by simp, by simp⟩

set_option maxRecDepth 100000 in
set_option maxHeartbeats 4000000 in
theorem word_any (x : In) (w : World) : Calls Tryz.prog 22 #[iv x] w fun e w' => e = .returned (.tuple #[.string ⟨(wordOf x).1.toArray⟩, .string ⟨(wordOf x).2.toArray⟩]) ∧ Below w.heap.size w w' := by
  obtain ⟨S1, hS1⟩ : ∃ S : ByteArray, ⟨(wordOf x).1.toArray⟩ = S := ⟨_, rfl⟩
  obtain ⟨S2, hS2⟩ : ∃ S : ByteArray, ⟨(wordOf x).2.toArray⟩ = S := ⟨_, rfl⟩
  rw [hS1, hS2]
  obtain ⟨y, hy⟩ : ∃ y, bareI x = y := ⟨_, rfl⟩
  have HO : Hid (∀ a, wordGo y.kind y.op saysL = a → ⟨a.1.toArray⟩ = S1 ∧ ⟨a.2.toArray⟩ = S2) := by
    intro a ha
    rw [← hS1, ← hS2, ← ha, ← hy]
    exact ⟨rfl, rfl⟩
  have HE0 : Hid (∀ a b, inEq ⟨a, b, 0, 0, 0, 0⟩ y = decide (a = y.kind ∧ b = y.op)) := fun a b => by rw [← hy]; exact inEq_bare a b x
  have C1 : Hid (∀ w, Calls Tryz.prog 44 #[iv x] w fun e w' => e = .returned (.agg #[.int .i64 y.kind, .int .i64 y.op, .int .i64 y.a, .int .i64 y.b, .int .i64 y.c, .int .i64 y.k]) ∧ Below w.heap.size w w') := fun w => by rw [← hy]; exact bare_any x w
  have hg := guard25
  clear hS1 hS2 hy
  have HI : Hid (iv x = .agg #[.int .i64 x.kind, .int .i64 x.op, .int .i64 x.a, .int .i64 x.b, .int .i64 x.c, .int .i64 x.k]) := rfl
  rw [HI.out]
  go_enter Tryz.func22, Tryz.ntmps22
  have S0 : Hid (Six _ w.heap.size x) := Six.new w x
  have B0 : Hid (Below w.heap.size w _) := (Below.refl _ _).alloc (Nat.le_refl _) (.cells #[.int .i64 x.kind, .int .i64 x.op, .int .i64 x.a, .int .i64 x.b, .int .i64 x.c, .int .i64 x.k] 41)
  go_wp2_with (go_at_call 43; refine (sayings_any _).mono ?_; rintro e w1 ⟨rfl, b1⟩; have HB1 : Hid (Below w.heap.size w w1) := B0.out.trans (b1.mono B0.out.size); have HS1 : Hid (Six w1 w.heap.size x) := S0.out.block (b1.block _ S0.out.lt) b1.size; clear b1)
  clear S0 B0
  go_loopw [7] (fun i wr => ∃ k : Nat, k ≤ 32 ∧ i = .int .i64 k ∧ Hid (wordGo y.kind y.op saysL = wordGo y.kind y.op (saysL.drop k)) ∧ Hid (Below w.heap.size w wr) ∧ Hid (Six wr w.heap.size x)) (fun i _ => 32 - (intOf i).toNat)
  case atStart => exact ⟨0, Nat.zero_le _, rfl, rfl, HB1, HS1⟩
  case round =>
    obtain ⟨k, hk, rfl, HK, HB, HS⟩ := hrel
    by_cases hlt : k < 32
    · have hix : ∀ W, (Instr.index 86 (.agg saysA) (.int .i64 (k : Int))).run Tryz.prog W = .ok (.agg (sayV (say k))) W := fun W => says_at k hlt W
      have HN : Hid _ := HK.out.trans (wordGo_drop y.kind y.op k hlt)
      obtain ⟨s, hs⟩ : ∃ s, say k = s := ⟨_, rfl⟩
      rw [hs] at hix HN
      clear hs HK
      obtain ⟨be, hbe⟩ : ∃ b, inEq ⟨s.kind, s.op, 0, 0, 0, 0⟩ y = b := ⟨_, rfl⟩
      have HE : ∀ w, (binOp .eql 41 (.agg #[.int .i64 s.kind, .int .i64 s.op, .int .i64 0, .int .i64 0, .int .i64 0, .int .i64 0]) (.agg #[.int .i64 y.kind, .int .i64 y.op, .int .i64 y.a, .int .i64 y.b, .int .i64 y.c, .int .i64 y.k])).run Tryz.prog w = .ok (.bool be) w := fun w => by rw [← hbe]; exact eql_in ⟨s.kind, s.op, 0, 0, 0, 0⟩ y w
      have HBE : Hid (be = decide (s.kind = y.kind ∧ s.op = y.op)) := by show _ = _; rw [← hbe, HE0.out]
      have FX : Hid (∀ W, wr.alloc (.cells (sayV s) 85) = W → Six W w.heap.size x ∧ Six W wr.heap.size ⟨s.kind, s.op, 0, 0, 0, 0⟩ ∧ Below w.heap.size w W ∧ W.cell? ⟨wr.heap.size, 6, none⟩ = some (.string ⟨s.word.toArray⟩) ∧ W.cell? ⟨wr.heap.size, 7, none⟩ = some (.string ⟨s.parts.toArray⟩)) := by
        rintro W rfl
        exact ⟨HS.out.alloc _, Six.new43 wr s, HB.out.alloc HB.out.size _, by simp [sayV], by simp [sayV]⟩
      unfold sayV at hix FX
      clear hbe
      go_wp2_with fail
      generalize hW : wr.alloc _ = W
      obtain ⟨sx, sy, by_, c6, c7⟩ := FX.out W hW
      have SX : Hid (Six W w.heap.size x) := sx
      have SY : Hid (Six W wr.heap.size ⟨s.kind, s.op, 0, 0, 0, 0⟩) := sy
      have BY : Hid (Below w.heap.size w W) := by_
      have HWL : Hid (wr.heap.size < W.heap.size) := by show _ < _; rw [← hW]; simp
      clear FX hW sx sy by_
      obtain ⟨x0, x1, x2, x3, x4, x5, _, _, _, _, _, _, _⟩ := SX.out
      obtain ⟨y0, y1, y2, y3, y4, y5, _, _, _, _, _, _, _⟩ := SY.out
      go_region_held3 (fun w' => (w'.cell? ⟨w.heap.size, 0, none⟩ = some (.int .i64 x.kind) ∧ w'.cell? ⟨w.heap.size, 1, none⟩ = some (.int .i64 x.op) ∧ w'.cell? ⟨w.heap.size, 2, none⟩ = some (.int .i64 x.a) ∧ w'.cell? ⟨w.heap.size, 3, none⟩ = some (.int .i64 x.b) ∧ w'.cell? ⟨w.heap.size, 4, none⟩ = some (.int .i64 x.c) ∧ w'.cell? ⟨w.heap.size, 5, none⟩ = some (.int .i64 x.k)) ∧ (w'.cell? ⟨wr.heap.size, 0, none⟩ = some (.int .i64 s.kind) ∧ w'.cell? ⟨wr.heap.size, 1, none⟩ = some (.int .i64 s.op) ∧ w'.cell? ⟨wr.heap.size, 2, none⟩ = some (.int .i64 0) ∧ w'.cell? ⟨wr.heap.size, 3, none⟩ = some (.int .i64 0) ∧ w'.cell? ⟨wr.heap.size, 4, none⟩ = some (.int .i64 0) ∧ w'.cell? ⟨wr.heap.size, 5, none⟩ = some (.int .i64 0))) (go_keep) (first | (go_at_call 44; refine (C1.out W.drew).mono ?_; rintro e w3 ⟨rfl, b3⟩; have S3 : Hid (Six w3 w.heap.size x) := SX.out.drew.block (b3.block _ SX.out.drew.lt) b3.size; have T3 : Hid (Six w3 wr.heap.size ⟨s.kind, s.op, 0, 0, 0, 0⟩) := SY.out.drew.block (b3.block _ SY.out.drew.lt) b3.size; obtain ⟨z0, z1, z2, z3, z4, z5, _⟩ := S3.out; obtain ⟨q0, q1, q2, q3, q4, q5, _⟩ := T3.out))
      have B3 : Hid (Below w.heap.size w w3) := BY.out.drew.trans (b3.mono BY.out.drew.size)
      have d6 : w3.cell? ⟨wr.heap.size, 6, none⟩ = some (.string ⟨s.word.toArray⟩) := (b3.cell (p := ⟨wr.heap.size, 6, none⟩) HWL.out).trans c6
      have d7 : w3.cell? ⟨wr.heap.size, 7, none⟩ = some (.string ⟨s.parts.toArray⟩) := (b3.cell (p := ⟨wr.heap.size, 7, none⟩) HWL.out).trans c7
      clear b3 SX SY BY x0 x1 x2 x3 x4 x5 y0 y1 y2 y3 y4 y5 c6 c7 z0 z1 z2 z3 z4 z5 q0 q1 q2 q3 q4 q5
      cases be with
      | true =>
        have HR : Hid ((⟨s.word.toArray⟩ : ByteArray) = S1 ∧ (⟨s.parts.toArray⟩ : ByteArray) = S2) := by
          have h1 := of_decide_eq_true HBE.out.symm
          have h2 := HN.out
          rw [if_pos h1] at h2
          exact HO.out _ h2
        go_wp2_with fail
        go_quiet (fail)
        go_wp2
        go_ret2
        exact ⟨by rw [← HR.out.1, ← HR.out.2]; rfl, below_drewN B3.out _⟩
      | false =>
        have HN2 : Hid (wordGo y.kind y.op saysL = wordGo y.kind y.op (saysL.drop (k + 1))) := by
          have h1 := of_decide_eq_false HBE.out.symm
          have h2 := HN.out
          rw [if_neg h1] at h2
          exact h2
        clear d6 d7
        go_wp2
        go_roundw
        case rel => exact ⟨k + 1, hlt, by go_num, HN2, B3, S3⟩
        case measure => simp [intOf]; omega
    · have hke : k = 32 := by omega
      subst hke
      have HR : Hid ((⟨#[]⟩ : ByteArray) = S1 ∧ (⟨#[]⟩ : ByteArray) = S2) := HO.out ([], []) HK.out
      go_wp2
      go_ret2
      exact ⟨by rw [← HR.out.1, ← HR.out.2]; rfl, HB.out⟩
end Go.Proofs.YthcidcfaodjbjabGreatDoor
