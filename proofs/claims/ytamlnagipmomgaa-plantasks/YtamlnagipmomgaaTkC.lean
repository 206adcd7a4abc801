/- The document's tasks of a pipeline, and of any shape. -/
import Derived.Test.YtamlnagipmomgaaTkB
namespace Go.Proofs.Ytamlnagipmomgaa
open Go.RowKit Go.Maps
set_option linter.unusedVariables false

theorem task_pipe (sg : Int) (q j : Nat) (h : (j : Int) < sg) : taskI 2 0 0 sg (q * sg.toNat + j) = ((q : Int), (j : Int)) := by
  unfold taskI
  rw [if_pos rfl]
  have e : ((q * sg.toNat + j : Nat) : Int) = (j : Int) + sg * (q : Int) := by
    simp only [Int.natCast_add, Int.natCast_mul, Int.toNat_of_nonneg (show 0 ≤ sg by omega)]
    rw [Int.mul_comm]; omega
  rw [e, Int.add_mul_ediv_left _ _ (by omega), Int.add_mul_emod_self_left, Int.ediv_eq_zero_of_lt (by omega) h, Int.emod_eq_of_lt (by omega) h]
  simp
set_option maxRecDepth 100000 in
set_option maxHeartbeats 4000000 in
theorem tkP (it sg : Int) (hi0 : 0 ≤ it) (hg1 : 1 ≤ sg) (hg6 : sg ≤ 6) (hir : R64 it) (n : Nat) (er : Int) (hn : countI 2 0 0 0 it sg = ((n : Int), er)) (w : World) : Calls Try.prog 10 #[shV 2 0 0 0 it sg] w (TkQ w 2 0 0 sg n er) := by
  obtain ⟨G, hG⟩ : ∃ G : Nat, sg = (G : Int) := ⟨sg.toNat, by omega⟩
  subst hG
  have HN : Hid ((200 < it * (G : Int) → n = 0 ∧ er = 151) ∧ (it * (G : Int) ≤ 200 → (n : Int) = it * (G : Int) ∧ er = 0)) := by
    show _ ∧ _
    have hd := Int.lt_ediv_add_one_mul_self 200 (show 0 < (G : Int) by omega)
    have hd2 := Int.ediv_mul_le 200 (show (G : Int) ≠ 0 by omega)
    have e : countI 2 0 0 0 it (G : Int) = if 200 / (G : Int) < it then (0, 151) else (it * (G : Int), 0) := by unfold countI countP; rw [if_neg (by omega), if_pos rfl, if_neg (by omega), if_neg (by omega)]
    rw [e] at hn
    constructor
    · intro h
      by_cases h7 : 200 / (G : Int) < it
      · rw [if_pos h7, Prod.mk.injEq] at hn; omega
      · have := Int.mul_le_mul_of_nonneg_right (show it ≤ 200 / (G : Int) by omega) (show 0 ≤ (G : Int) by omega)
        omega
    · intro h
      by_cases h7 : 200 / (G : Int) < it
      · have := Int.mul_le_mul_of_nonneg_right (show 200 / (G : Int) + 1 ≤ it by omega) (show 0 ≤ (G : Int) by omega)
        omega
      · rw [if_neg h7, Prod.mk.injEq] at hn; omega
  obtain ⟨P, hP⟩ : ∃ P, TkQ w 2 0 0 (G : Int) n er = P := ⟨_, rfl⟩
  have HP : Hid (TkQ w 2 0 0 (G : Int) n er = P) := hP
  have HS0 : Hid (SH (w.alloc (.cells #[.int .i64 2, .int .i64 0, .int .i64 0, .int .i64 0, .int .i64 it, .int .i64 (G : Int)] 24)) w.heap.size 2 0 0 0 it (G : Int)) := SH.new w 2 0 0 0 it (G : Int)
  have HB0 : Hid (Below w.heap.size w (w.alloc (.cells #[.int .i64 2, .int .i64 0, .int .i64 0, .int .i64 0, .int .i64 it, .int .i64 (G : Int)] 24))) := bl1 w _
  have HZ0 : Hid (w.heap.size + 1 ≤ (w.alloc (.cells #[.int .i64 2, .int .i64 0, .int .i64 0, .int .i64 0, .int .i64 it, .int .i64 (G : Int)] 24)).heap.size) := by show _ ≤ _; simp
  rw [hP]
  unfold shV
  have g1 : decide (0 ≤ it) = true := by simp; omega
  have g2 : decide (1 ≤ (G : Int)) = true := by simp; omega
  have g3 : decide ((G : Int) ≤ 6) = true := by simp; omega
  unfold R64 at hir
  clear hP hn
  go_enter Try.func10, Try.ntmps10
  go_wp2_with fail
  generalize (w.alloc (.cells #[.int .i64 2, .int .i64 0, .int .i64 0, .int .i64 0, .int .i64 it, .int .i64 (G : Int)] 24)) = U at *
  obtain ⟨B, hB⟩ : ∃ B, w.heap.size = B := ⟨_, rfl⟩
  have HBE : Hid (w.heap.size = B) := hB
  rw [hB] at HS0 HZ0
  rw [hB]
  clear hB
  go_loopw [4, 7, 8] (fun out i kk wr => ∃ (q : Nat) (a : Option Addr) (c : Nat), out = .slice a (q * G) c ∧ i = .int .i64 (q : Int) ∧ (q : Int) ≤ it ∧ q * G ≤ 200 ∧ Hid (PZ wr (B + 1) (.slice a (q * G) c) (tasksN 2 0 0 (G : Int) (q * G))) ∧ Hid (SH wr B 2 0 0 0 it (G : Int)) ∧ Hid (Below B w wr) ∧ Hid (B + 1 ≤ wr.heap.size)) (fun out i kk _ => (it - intOf i).toNat)
  case atStart => exact ⟨0, none, 0, by simp, rfl, hi0, by omega, (by show PZ _ _ _ _; simpa [tasksN] using PZ.nil U (B + 1)), HS0, by show Below _ _ _; rw [← HBE.out]; exact HB0.out, HZ0⟩
  case round =>
    obtain ⟨q, a, c, rfl, rfl, hq, hq2, HZ, HS, HBL, HSZ⟩ := hrel
    obtain ⟨c0, c1, c2, c3, c4, c5⟩ := HS.out.all
    by_cases hlt : (q : Int) < it
    · have e1 : decide ((q : Int) < it) = true := by simp; omega
      have hqG : q ≤ 200 := by
        have := Nat.le_mul_of_pos_right q (show 0 < G by omega)
        omega
      go_wp2_with fail
      go_loopw [4, 8] (fun out kk wx => ∃ (j : Nat) (a2 : Option Addr) (k2 : Nat), out = .slice a2 (q * G + j) k2 ∧ kk = .int .i64 (j : Int) ∧ j ≤ G ∧ Hid (PZ wx (B + 1) (.slice a2 (q * G + j) k2) (tasksN 2 0 0 (G : Int) (q * G + j))) ∧ Hid (SH wx B 2 0 0 0 it (G : Int)) ∧ Hid (Below B w wx) ∧ Hid (B + 1 ≤ wx.heap.size)) (fun out kk _ => G - (intOf kk).toNat)
      case atStart => exact ⟨0, a, c, rfl, rfl, Nat.zero_le _, HZ, HS, HBL, HSZ⟩
      case round =>
        clear c0 c1 c2 c3 c4 c5
        obtain ⟨j, a2, k2, rfl, rfl, hj, JZ, JS, JBL, JSZ⟩ := hrel
        obtain ⟨c0, c1, c2, c3, c4, c5⟩ := JS.out.all
        by_cases hjt : j < G
        · have e2 : decide ((j : Int) < (G : Int)) = true := by simp; omega
          have HCA : ∀ A, Hid (SH (wr.alloc A) B 2 0 0 0 it (G : Int)) := fun A => JS.out.below (bl1 _ _)
          go_wp2_with (at_builtin; refine push_pair _ rfl _ _ rfl (B + 1) _ (tasksN 2 0 0 (G : Int) (q * G + j)) (q : Int) (j : Int) rfl ?p1 _ rfl ?p2 ?p3 ?p4 ?_)
          case p1 => exact JZ.out.below (bl1 _ _)
          case p2 => exact ⟨by simp, by simp⟩
          case p3 => rw [tasksN_len]; omega
          case p4 => simp; have := JSZ.out; omega
          intro v' w' hv' hb'
          have HV : Hid (PZ w' (B + 1) v' (tasksN 2 0 0 (G : Int) (q * G + (j + 1)))) := by
            show PZ _ _ _ _
            rw [← Nat.add_assoc, ← tasksN_snoc]
            have := task_pipe (G : Int) q j (by omega)
            rw [show ((G : Int)).toNat = G by omega] at this
            rw [this]; exact hv'
          have HS' : Hid (SH w' B 2 0 0 0 it (G : Int)) := (hb'.block B (by omega)).trans (HCA _).out
          have HBL' : Hid (Below B w w') := (JBL.out.alloc (by have := JSZ.out; omega) _).trans (hb'.mono (by omega))
          have HSZ' : Hid (B + 1 ≤ w'.heap.size) := Nat.le_trans (by simp; have := JSZ.out; omega) hb'.size
          obtain ⟨a', c', hv2⟩ := hv'.sl
          rw [List.length_append, tasksN_len] at hv2
          clear hv' hb'
          rw [hv2] at HV ⊢
          clear hv2 c0 c1 c2 c3 c4 c5 HCA
          simp only [List.length_singleton] at HV ⊢
          go_wp2_with fail
          go_roundw
          case rel => exact ⟨j + 1, a', c', rfl, by go_num, by omega, HV, HS', HBL', HSZ'⟩
          case measure => simp [intOf]; omega
        · have e2 : decide ((j : Int) < (G : Int)) = false := by simp; omega
          have hjG : j = G := by omega
          obtain ⟨M, hM⟩ : ∃ M, q * G + j = M := ⟨_, rfl⟩
          have HM : Hid (q * G + j = M) := hM
          have hM2 : (M : Int) = (q : Int) * (G : Int) + G := by rw [← hM, hjG]; simp
          have hM3 : M = (q + 1) * G := by rw [← hM, hjG, Nat.add_mul]; omega
          have HM2 : Hid ((M : Int) = (q : Int) * (G : Int) + G) := hM2
          have HM3 : Hid (M = (q + 1) * G) := hM3
          rw [hM] at JZ ⊢
          clear hM hM2 hM3
          by_cases hmany : 200 < M
          · have HFF : Hid (P (.returned (.tuple #[.slice none 0 0, .int .i64 151])) wr) := by
              show P _ _
              have hm : 200 < it * (G : Int) := by
                have := Int.mul_le_mul_of_nonneg_right (show (q : Int) + 1 ≤ it by omega) (show 0 ≤ (G : Int) by omega)
                rw [Int.add_mul] at this
                have e := HM2.out
                omega
              obtain ⟨rfl, rfl⟩ := HN.out.1 hm
              rw [← HP.out]
              exact TkQ.nil _ _ _ _ _ _ _ (by rw [HBE.out]; exact JBL.out)
            have e3 : decide (200 < (M : Int)) = true := by simp; omega
            go_wp2
            first | exact HFF.out | (go_ret2; exact HFF.out)
          · have e3 : decide (200 < (M : Int)) = false := by simp; omega
            go_wp2_with fail
            go_roundw
            case rel => exact ⟨q + 1, a2, k2, by rw [← HM3.out], by go_num, by omega, by rw [← HM3.out]; omega, by rw [← HM3.out]; exact JZ, JS, JBL, JSZ⟩
            case measure => simp [intOf]; omega
    · have HFF : Hid (P (.returned (.tuple #[.slice a (q * G) c, .int .i64 0])) wr) := by
        show P _ _
        have hqi : (q : Int) = it := by omega
        have e : ((q * G : Nat) : Int) = it * (G : Int) := by rw [← hqi]; simp
        obtain ⟨h5, rfl⟩ := HN.out.2 (by omega)
        have : n = q * G := by omega
        subst this
        rw [← HP.out]
        exact ⟨_, rfl, by rw [HBE.out]; exact HZ.out, by rw [HBE.out]; exact HBL.out⟩
      have e1 : decide ((q : Int) < it) = false := by simp; omega
      go_wp2
      first | exact HFF.out | (go_ret2; exact HFF.out)
end Go.Proofs.Ytamlnagipmomgaa
