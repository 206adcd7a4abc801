/- The document's tasks of a loop. -/
import Derived.Test.YtamlnagipmomgaaTkA
namespace Go.Proofs.Ytamlnagipmomgaa
open Go.RowKit Go.Maps
set_option linter.unusedVariables false

set_option maxRecDepth 100000 in
set_option maxHeartbeats 4000000 in
theorem tkF_neg (lo hi st : Int) (b0 : R64 lo) (b1 : R64 hi) (b2 : R64 st) (hs : st < 0) (n : Nat) (er : Int) (hn : countI 1 lo hi st 0 0 = ((n : Int), er)) (w : World) : Calls Try.prog 10 #[shV 1 lo hi st 0 0] w (TkQ w 1 lo st 0 n er) := by
  have h3 : st ≠ 0 := by omega
  have hw := (wide_bd st b2 h3).1
  have HC : Hid (∀ q : Nat, (q : Int) < forN lo hi st ↔ (if st < 0 then hi < lo + (q : Int) * st else lo + (q : Int) * st < hi)) := for_cond lo hi st b0 b1 b2 h3
  have HB : Hid (∀ q : Nat, (q : Int) < forN lo hi st → R64 (lo + (q : Int) * st)) := fun q hq => at_bd lo hi st q b0 b1 b2 h3 (by omega) hq
  have HN : Hid ((200 < forN lo hi st → n = 0 ∧ er = 151) ∧ (forN lo hi st ≤ 200 → (n : Int) = forN lo hi st ∧ er = 0)) := by
    show _ ∧ _
    have e : countI 1 lo hi st 0 0 = if 200 < forN lo hi st then (0, 151) else (forN lo hi st, 0) := by unfold countI countF; rw [if_pos rfl, if_neg (by omega), if_neg h3]
    rw [e] at hn
    split at hn <;> (rw [Prod.mk.injEq] at hn; omega)
  have HF0 : Hid (0 ≤ forN lo hi st) := (for_spec lo hi st b0 b1 b2 h3).1
  obtain ⟨P, hP⟩ : ∃ P, TkQ w 1 lo st 0 n er = P := ⟨_, rfl⟩
  have HP : Hid (TkQ w 1 lo st 0 n er = P) := hP
  have HS0 : Hid (SH (w.alloc (.cells #[.int .i64 1, .int .i64 lo, .int .i64 hi, .int .i64 st, .int .i64 0, .int .i64 0] 24)) w.heap.size 1 lo hi st 0 0) := SH.new w 1 lo hi st 0 0
  have HB0 : Hid (Below w.heap.size w (w.alloc (.cells #[.int .i64 1, .int .i64 lo, .int .i64 hi, .int .i64 st, .int .i64 0, .int .i64 0] 24))) := bl1 w _
  have HZ0 : Hid (w.heap.size + 1 ≤ (w.alloc (.cells #[.int .i64 1, .int .i64 lo, .int .i64 hi, .int .i64 st, .int .i64 0, .int .i64 0] 24)).heap.size) := by show _ ≤ _; simp
  rw [hP]
  unfold shV
  have g0 : (st == 0) = false := by simp [h3]
  clear hP hn
  have g1 : decide (0 < st) = false := by simp; omega
  have g2 : decide (st < 0) = true := by simp; omega
  go_enter Try.func10, Try.ntmps10
  go_wp2_with fail
  generalize (w.alloc (.cells #[.int .i64 1, .int .i64 lo, .int .i64 hi, .int .i64 st, .int .i64 0, .int .i64 0] 24)) = U at *
  obtain ⟨B, hB⟩ : ∃ B, w.heap.size = B := ⟨_, rfl⟩
  have HBE : Hid (w.heap.size = B) := hB
  rw [hB] at HS0 HZ0
  rw [hB]
  clear hB
  go_loopw [4, 5, 6] (fun out i nx wr => ∃ (q : Nat) (a : Option Addr) (c : Nat), out = .slice a q c ∧ i = .int .i64 (lo + (q : Int) * st) ∧ q ≤ 200 ∧ R64 (lo + (q : Int) * st) ∧ Hid ((q : Int) ≤ forN lo hi st) ∧ Hid (PZ wr (B + 1) (.slice a q c) (tasksN 1 lo st 0 q)) ∧ Hid (SH wr B 1 lo hi st 0 0) ∧ Hid (Below B w wr) ∧ Hid (B + 1 ≤ wr.heap.size)) (fun out i nx _ => (intOf i - hi).toNat)
  case atStart => exact ⟨0, none, 0, rfl, by simp, Nat.zero_le _, by simpa using b0, HF0.out, PZ.nil _ _, HS0, by show Below _ _ _; rw [← HBE.out]; exact HB0.out, HZ0⟩
  case round =>
    obtain ⟨q, a, c, rfl, rfl, hq, hr, HQ, HZ, HS, HBL, HSZ⟩ := hrel
    obtain ⟨c0, c1, c2, c3, c4, c5⟩ := HS.out.all
    obtain ⟨z, hz⟩ : ∃ z, lo + (q : Int) * st = z := ⟨_, rfl⟩
    have HZE : Hid (lo + (q : Int) * st = z) := hz
    rw [hz] at hr ⊢
    by_cases hlt : hi < z
    · have hqf : (q : Int) < forN lo hi st := (HC.out q).2 (by rw [hz]; rw [if_pos hs]; exact hlt)
      have HQF : Hid ((q : Int) < forN lo hi st) := hqf
      have e1 : decide (hi < z) = true := by simp; omega
      have HCA : ∀ A, Hid (SH (wr.alloc A) B 1 lo hi st 0 0) := fun A => HS.out.below (bl1 _ _)
      clear hz hqf
      go_wp2_with (at_builtin; refine push_pair _ rfl _ _ rfl (B + 1) _ (tasksN 1 lo st 0 q) z 0 rfl ?p1 _ rfl ?p2 ?p3 ?p4 ?_)
      case p1 => exact HZ.out.below (bl1 _ _)
      case p2 => exact ⟨by simp, by simp⟩
      case p3 => rw [tasksN_len]; omega
      case p4 => simp; have := HSZ.out; omega
      intro v' w' hv' hb'
      have HV : Hid (PZ w' (B + 1) v' (tasksN 1 lo st 0 (q + 1))) := by
        show PZ _ _ _ _
        rw [← tasksN_snoc]
        have : taskI 1 lo st 0 q = (z, 0) := by unfold taskI; rw [if_neg (by omega), HZE.out]
        rw [this]; exact hv'
      have HS' : Hid (SH w' B 1 lo hi st 0 0) := (hb'.block B (by omega)).trans (HCA _).out
      have HBL' : Hid (Below B w w') := (HBL.out.alloc (by have := HSZ.out; omega) _).trans (hb'.mono (by omega))
      have HSZ' : Hid (B + 1 ≤ w'.heap.size) := Nat.le_trans (by simp; have := HSZ.out; omega) hb'.size
      obtain ⟨a', c', hv2⟩ := hv'.sl
      rw [List.length_append, tasksN_len] at hv2
      clear hv' hb'
      rw [hv2] at HV ⊢
      clear hv2 c0 c1 c2 c3 c4 c5 HCA
      obtain ⟨c0, c1, c2, c3, c4, c5⟩ := HS'.out.all
      simp only [List.length_singleton] at HV ⊢
      by_cases hmany : q = 200
      · subst hmany
        have HFF : Hid (P (.returned (.tuple #[.slice none 0 0, .int .i64 151])) w') := by
          show P _ _
          obtain ⟨rfl, rfl⟩ := HN.out.1 (by have := HQF.out; omega)
          rw [← HP.out]
          exact TkQ.nil _ _ _ _ _ _ _ (by rw [HBE.out]; exact HBL'.out)
        go_wp2
        first | exact HFF.out | (go_ret2; exact HFF.out)
      have e2 : decide (200 < (q : Int) + 1) = false := by simp; omega
      by_cases hov : R64 (z + st)
      · have wz : wrap64 (z + st) = z + st := w64in _ hov
        have HWZ : Hid (wrap64 (z + st) = z + st) := wz
        have e3 : decide (z < z + st) = false := by simp; omega

        go_wp2_with fail
        go_roundw
        case rel => exact ⟨q + 1, a', c', rfl, by rw [HWZ.out, ← HZE.out]; congr 1; simp [Int.add_mul]; omega, by omega, by rw [show lo + ((q + 1 : Nat) : Int) * st = z + st by rw [← HZE.out]; simp [Int.add_mul]; omega]; exact hov, by show _ ≤ _; have := HQF.out; omega, HV, HS', HBL', HSZ'⟩
        case measure => simp [intOf]; omega
      · have HFF : Hid (P (.returned (.tuple #[.slice a' (q + 1) c', .int .i64 0])) w') := by
          show P _ _
          have hle : forN lo hi st ≤ (q : Int) + 1 := by
            refine Int.not_lt.1 fun hl => hov ?_
            have := HB.out (q + 1) (by simpa using hl)
            rw [show lo + ((q + 1 : Nat) : Int) * st = z + st by rw [← HZE.out]; simp [Int.add_mul]; omega] at this
            exact this
          have hqf := HQF.out
          obtain ⟨h5, rfl⟩ := HN.out.2 (by omega)
          have : n = q + 1 := by omega
          subst this
          rw [← HP.out]
          exact ⟨_, rfl, by rw [HBE.out]; exact HV.out, by rw [HBE.out]; exact HBL'.out⟩
        have e3 : decide (z < wrap64 (z + st)) = true := by unfold R64 at hov hr b2; unfold wrap64; simp; omega
        go_wp2
        first | exact HFF.out | (go_ret2; exact HFF.out)
    · have HFF : Hid (P (.returned (.tuple #[.slice a q c, .int .i64 0])) wr) := by
        show P _ _
        have hle : ¬ ((q : Int) < forN lo hi st) := fun h => hlt (by have := (HC.out q).1 h; rw [hz] at this; rw [if_pos hs] at this; exact this)
        have hq2 := HQ.out
        obtain ⟨h5, rfl⟩ := HN.out.2 (by omega)
        have : n = q := by omega
        subst this
        rw [← HP.out]
        exact ⟨_, rfl, by rw [HBE.out]; exact HZ.out, by rw [HBE.out]; exact HBL.out⟩
      have e1 : decide (hi < z) = false := by simp; omega
      clear hz
      go_wp2
      first | exact HFF.out | (go_ret2; exact HFF.out)
end Go.Proofs.Ytamlnagipmomgaa
