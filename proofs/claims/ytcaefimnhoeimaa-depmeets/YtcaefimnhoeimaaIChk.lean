/- What Check answers. -/
import Derived.Test.YtcaefimnhoeimaaIRow
namespace Go.Proofs.Ytcaefimnhoeimaa
open Go.RowKit
set_option linter.unusedVariables false
set_option linter.unusedSimpArgs false

/-- the first one that may not be, from place i on -/
def firstBad (cells long : Int) : Nat → List In → Option (Nat × Int)
  | _, [] => none
  | i, x :: l => if oneC x cells long = 0 then firstBad cells long (i + 1) l else some (i, oneC x cells long)
/-- what Check answers: the place, and the error -/
def checkL (l : List In) (cells : Int) : Int × Int :=
  if l.length = 0 ∨ 600 < l.length then (0, 80) else
  match firstBad cells (l.length : Int) 0 l with
  | some (i, e) => ((i : Int), e)
  | none => match l.getLast? with
    | some x => if fallsB x = true then ((l.length : Int) - 1, 85) else (0, 0)
    | none => (0, 80)

theorem firstBad_next (cells long : Int) (l : List In) (i : Nat) (h : i < l.length) : firstBad cells long i (l.drop i) = if oneC l[i] cells long = 0 then firstBad cells long (i + 1) (l.drop (i + 1)) else some (i, oneC l[i] cells long) := by
  rw [List.drop_eq_getElem_cons h]; rfl
theorem checkL_len (l : List In) (cells : Int) (h : l.length = 0 ∨ 600 < l.length) : checkL l cells = (0, 80) := by unfold checkL; rw [if_pos h]
theorem checkL_bad (l : List In) (cells : Int) (h : ¬ (l.length = 0 ∨ 600 < l.length)) (i : Nat) (e : Int) (hb : firstBad cells (l.length : Int) 0 l = some (i, e)) : checkL l cells = ((i : Int), e) := by unfold checkL; rw [if_neg h, hb]
theorem checkL_good (l : List In) (cells : Int) (h : ¬ (l.length = 0 ∨ 600 < l.length)) (hb : firstBad cells (l.length : Int) 0 l = none) (hl : l.length - 1 < l.length) : checkL l cells = if fallsB l[l.length - 1] = true then ((l.length : Int) - 1, 85) else (0, 0) := by
  unfold checkL
  rw [if_neg h, hb, List.getLast?_eq_getElem?, List.getElem?_eq_getElem hl]

set_option maxRecDepth 100000 in
set_option maxHeartbeats 4000000 in
theorem check_any (l : List In) (cells : Int) (v : Value) (w : World) (hv : ISl w v l) : Calls Try.prog 10 #[v, .int .i64 cells] w fun e w' => e = .returned (.tuple #[.int .i64 (checkL l cells).1, .int .i64 (checkL l cells).2]) ∧ Below w.heap.size w w' := by
  obtain ⟨ad, cap, b, o, rfl, h2, h3, h4, h5⟩ := hv
  have H5 : Hid _ := h5
  unfold maxLen at h3
  by_cases hlen : l.length = 0 ∨ 600 < l.length
  · rw [checkL_len l cells hlen]
    clear h4 h5 H5
    rcases hlen with h0 | h600
    · rw [h0]
      go_enter Try.func10, Try.ntmps10
      go_wp2
      go_ret2
      exact ⟨rfl, Below.refl _ _⟩
    · go_enter Try.func10, Try.ntmps10
      go_wp2
      all_goals first | (go_ret2; exact ⟨rfl, Below.refl _ _⟩) | (exfalso; rename_i h; simp only [beq_eq_false_iff_ne, ne_eq] at h; omega)
  · rw [h4 (by omega)]
    obtain ⟨R1, hR1⟩ : ∃ R, (checkL l cells).1 = R := ⟨_, rfl⟩
    obtain ⟨R2, hR2⟩ : ∃ R, (checkL l cells).2 = R := ⟨_, rfl⟩
    rw [hR1, hR2]
    have HR : Hid (checkL l cells = (R1, R2)) := by show _ = _; rw [← hR1, ← hR2]
    have HL : Hid (¬ (l.length = 0 ∨ 600 < l.length)) := hlen
    have h0 : ¬ l.length = 0 := by omega
    have h600 : ¬ 600 < l.length := by omega
    clear h4 h5 hR1 hR2 hlen
    go_enter Try.func10, Try.ntmps10
    go_wp2
    · exfalso
      rename_i h
      have := HL.out
      rcases h with h | h <;> first | omega | (simp only [beq_iff_eq] at h; omega)
    · have e0 : ((l.length : Int) == 0) = false := by rw [beq_eq_false_iff_ne]; omega
      have e6 : decide (600 < (l.length : Int)) = false := by rw [decide_eq_false_iff_not]; omega
      simp only [e0, e6, Bool.or_false]
      go_loopw [20] (fun i wr => ∃ k : Nat, k ≤ l.length ∧ i = .int .i64 k ∧ Hid (firstBad cells (l.length : Int) 0 l = firstBad cells (l.length : Int) k (l.drop k)) ∧ Hid (Below w.heap.size w wr)) (fun i _ => l.length - (intOf i).toNat)
      case atStart => exact ⟨0, Nat.zero_le _, rfl, rfl, Below.refl _ _⟩
      case round =>
        obtain ⟨k, hk, rfl, HF, HB⟩ := hrel
        by_cases hlt : k < l.length
        · have hx : IAt wr b (o + k * 6) l[k] := (H5.out k hlt).block (HB.out.block b (H5.out k hlt).lt)
          have HN : Hid (firstBad cells (l.length : Int) 0 l = _) := HF.out.trans (firstBad_next cells _ l k hlt)
          obtain ⟨x, hxe⟩ : ∃ x, l[k] = x := ⟨_, rfl⟩
          rw [hxe] at hx HN
          obtain ⟨x0, x1, x2, x3, x4, x5⟩ := hx
          have hwr : w.heap.size ≤ wr.heap.size := HB.out.size
          go_wp2_with fail
          refine (one_any x cells (l.length : Int) _).mono ?_
          rintro e w2 ⟨rfl, b2⟩
          have HB2 : Hid (Below w.heap.size w w2) := (HB.out.alloc hwr _).trans (b2.mono (by simp; omega))
          clear b2 x0 x1 x2 x3 x4 x5
          obtain ⟨r, hr⟩ : ∃ r, oneC x cells (l.length : Int) = r := ⟨_, rfl⟩
          rw [hr]
          rw [hr] at HN
          clear hr
          by_cases hr0 : r = 0
          · subst hr0
            have HN2 : Hid (firstBad cells (l.length : Int) 0 l = firstBad cells (l.length : Int) (k + 1) (l.drop (k + 1))) := by have := HN.out; rw [if_pos rfl] at this; exact this
            go_wp2
            go_roundw
            case rel => exact ⟨k + 1, hlt, by go_num, HN2, HB2⟩
            case measure => simp [intOf]; omega
          · have HN2 : Hid (checkL l cells = ((k : Int), r)) := checkL_bad l cells HL.out k r (by have := HN.out; rw [if_neg hr0] at this; exact this)
            have HRR : Hid ((k : Int) = R1 ∧ r = R2) := Prod.mk.inj (HN2.out.symm.trans HR.out)
            go_wp2
            all_goals first | (exfalso; simp_all; done) | skip
            go_ret2
            exact ⟨by rw [← HRR.out.1, ← HRR.out.2]; rfl, HB2.out⟩
        · have hke : k = l.length := by omega
          subst hke
          have HN : Hid (firstBad cells (l.length : Int) 0 l = none) := by have := HF.out; rw [List.drop_length] at this; exact this
          have hl0 : 0 < l.length := by have := HL.out; omega
          have hl1 : l.length - 1 < l.length := by omega
          have HG : Hid _ := (checkL_good l cells HL.out HN.out hl1).symm.trans HR.out
          have hx : IAt wr b (o + (l.length - 1) * 6) l[l.length - 1] := (H5.out _ hl1).block (HB.out.block b (H5.out _ hl1).lt)
          obtain ⟨x, hxe⟩ : ∃ x, l[l.length - 1] = x := ⟨_, rfl⟩
          rw [hxe] at hx HG
          obtain ⟨x0, x1, x2, x3, x4, x5⟩ := hx
          have hsub : ((l.length : Int) - 1) = ((l.length - 1 : Nat) : Int) := by omega
          go_wp2_with fail
          refine (falls_any x wr).mono ?_
          rintro e w2 ⟨rfl, b2⟩
          have HB2 : Hid (Below w.heap.size w w2) := HB.out.trans (b2.mono HB.out.size)
          clear b2 x0 x1 x2 x3 x4 x5
          cases hf : fallsB x with
          | true =>
            have HG2 : Hid (((l.length - 1 : Nat) : Int) = R1 ∧ (85 : Int) = R2) := by
              have := HG.out
              rw [hf, if_pos rfl, hsub] at this
              exact Prod.mk.inj this
            go_wp2
            go_ret2
            exact ⟨by rw [← HG2.out.1, ← HG2.out.2]; rfl, HB2.out⟩
          | false =>
            have HG2 : Hid ((0 : Int) = R1 ∧ (0 : Int) = R2) := by
              have := HG.out
              rw [hf, if_neg (by simp)] at this
              exact Prod.mk.inj this
            go_wp2
            go_ret2
            exact ⟨by rw [← HG2.out.1, ← HG2.out.2]; rfl, HB2.out⟩
end Go.Proofs.Ytcaefimnhoeimaa
