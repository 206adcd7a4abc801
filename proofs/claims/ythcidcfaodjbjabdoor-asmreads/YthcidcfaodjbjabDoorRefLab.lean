/- What the document's Label answers, in whatever world. -/
import Derived.Test.YthcidcfaodjbjabDoorLab
namespace Go.Proofs.YthcidcfaodjbjabDoor
open Go.RowKit
set_option linter.unusedVariables false

set_option maxRecDepth 100000 in
set_option maxHeartbeats 1000000 in
theorem refLabel_any (s : ByteArray) (hm : s.size ≤ maxLen) (w : World) :
    Calls Tryd.prog 9 #[.string s] w fun e w' => e = .returned (.bool (labB s.data.toList)) ∧ w' = w := by
  unfold maxLen at hm
  have hl : s.data.toList.length = s.size := by simp
  obtain ⟨r, hr⟩ : ∃ r, labB s.data.toList = r := ⟨_, rfl⟩
  have HR : Hid (labB s.data.toList = r) := hr
  have HL9 : Hid (s.data.toList.length = s.size) := hl
  rw [hr]
  clear hr hl
  go_enter Tryd.func9, Tryd.ntmps9
  go_wp2
  go_loop [3] (fun i => ∃ k : Nat, k ≤ s.size ∧ i = .int .i64 k ∧ Hid ((s.data.toList.take k).all isA = true ∧ (0 < k → headS s.data.toList = true))) (fun i => s.size - (intOf i).toNat)
  case atStart => exact ⟨0, Nat.zero_le _, rfl, rfl, fun h => by omega⟩
  case round =>
    obtain ⟨k, hk, rfl, HA⟩ := hrel
    by_cases hlt : k < s.size
    · obtain ⟨t, ht⟩ : ∃ t, s[k].toNat = t := ⟨_, rfl⟩
      have HT : Hid (s[k].toNat = t) := ht
      obtain h | h | h | h | h : t < 48 ∨ (48 ≤ t ∧ t ≤ 57) ∨ (58 ≤ t ∧ t ≤ 96) ∨ (97 ≤ t ∧ t ≤ 122) ∨ 123 ≤ t := by omega
      · have f0 : ¬ (97 : Int) ≤ (s[k].toNat : Int) := by rw [HT.out]; omega
        have f1 : (s[k].toNat : Int) ≤ 122 := by rw [HT.out]; omega
        have f2 : ¬ (48 : Int) ≤ (s[k].toNat : Int) := by rw [HT.out]; omega
        have f3 : (s[k].toNat : Int) ≤ 57 := by rw [HT.out]; omega
        have HF : Hid (r = false) := by
          show _ = _
          rw [← HR.out]
          unfold labB
          rw [all_take_not s k hlt isA (by unfold isA isS isD; rw [HT.out]; simp; omega)]
          simp
        clear h ht
        go_wp2
        go_ret
        exact ⟨by rw [HF.out]; rfl, rfl⟩
      · have f0 : ¬ (97 : Int) ≤ (s[k].toNat : Int) := by rw [HT.out]; omega
        have f1 : (s[k].toNat : Int) ≤ 122 := by rw [HT.out]; omega
        have f2 : (48 : Int) ≤ (s[k].toNat : Int) := by rw [HT.out]; omega
        have f3 : (s[k].toNat : Int) ≤ 57 := by rw [HT.out]; omega
        by_cases hk0 : k = 0
        · subst hk0
          have HF : Hid (r = false) := by
            show _ = _
            rw [← HR.out]
            unfold labB
            rw [headS_at s hlt, show isS s[0] = false by unfold isS; rw [HT.out]; simp; omega]
            simp
          clear h ht
          go_wp2
          go_ret
          exact ⟨by rw [HF.out]; rfl, rfl⟩
        · have HN : Hid ((s.data.toList.take (k + 1)).all isA = true ∧ (0 < k + 1 → headS s.data.toList = true)) := ⟨all_take_snoc s k hlt isA HA.out.1 (by unfold isA isS isD; rw [HT.out]; simp; omega), fun _ => HA.out.2 (by omega)⟩
          clear h ht
          go_wp2
          go_round
          case rel => exact ⟨k + 1, by omega, by go_num, HN⟩
          case measure => simp [intOf]; omega
      · have f0 : ¬ (97 : Int) ≤ (s[k].toNat : Int) := by rw [HT.out]; omega
        have f1 : (s[k].toNat : Int) ≤ 122 := by rw [HT.out]; omega
        have f2 : (48 : Int) ≤ (s[k].toNat : Int) := by rw [HT.out]; omega
        have f3 : ¬ (s[k].toNat : Int) ≤ 57 := by rw [HT.out]; omega
        have HF : Hid (r = false) := by
          show _ = _
          rw [← HR.out]
          unfold labB
          rw [all_take_not s k hlt isA (by unfold isA isS isD; rw [HT.out]; simp; omega)]
          simp
        clear h ht
        go_wp2
        go_ret
        exact ⟨by rw [HF.out]; rfl, rfl⟩
      · have f0 : (97 : Int) ≤ (s[k].toNat : Int) := by rw [HT.out]; omega
        have f1 : (s[k].toNat : Int) ≤ 122 := by rw [HT.out]; omega
        have f2 : (48 : Int) ≤ (s[k].toNat : Int) := by rw [HT.out]; omega
        have f3 : ¬ (s[k].toNat : Int) ≤ 57 := by rw [HT.out]; omega
        have HN : Hid ((s.data.toList.take (k + 1)).all isA = true ∧ (0 < k + 1 → headS s.data.toList = true)) := ⟨all_take_snoc s k hlt isA HA.out.1 (by unfold isA isS isD; rw [HT.out]; simp; omega), fun _ => by
          by_cases hk0 : k = 0
          · subst hk0
            rw [headS_at s hlt]; unfold isS; rw [HT.out]; simp; omega
          · exact HA.out.2 (by omega)⟩
        clear h ht
        go_wp2
        go_round
        case rel => exact ⟨k + 1, by omega, by go_num, HN⟩
        case measure => simp [intOf]; omega
      · have f0 : (97 : Int) ≤ (s[k].toNat : Int) := by rw [HT.out]; omega
        have f1 : ¬ (s[k].toNat : Int) ≤ 122 := by rw [HT.out]; omega
        have f2 : (48 : Int) ≤ (s[k].toNat : Int) := by rw [HT.out]; omega
        have f3 : ¬ (s[k].toNat : Int) ≤ 57 := by rw [HT.out]; omega
        have HF : Hid (r = false) := by
          show _ = _
          rw [← HR.out]
          unfold labB
          rw [all_take_not s k hlt isA (by unfold isA isS isD; rw [HT.out]; simp; omega)]
          simp
        clear h ht
        go_wp2
        go_ret
        exact ⟨by rw [HF.out]; rfl, rfl⟩
    · have he : k = s.size := by omega
      have HF : Hid (r = decide (1 ≤ s.size ∧ s.size ≤ 12)) := by
        show _ = _
        have h9 := HA.out
        rw [List.take_of_length_le (by simp; omega)] at h9
        rw [← HR.out]
        unfold labB
        rw [h9.1, HL9.out]
        by_cases h0 : 0 < s.size
        · rw [h9.2 (by omega)]
          by_cases h12 : s.size ≤ 12
          · rw [decide_eq_true h12, decide_eq_true (by omega)]; rfl
          · rw [decide_eq_false h12, decide_eq_false (by omega)]; rfl
        · have e0 : s.data.toList = [] := List.eq_nil_of_length_eq_zero (by rw [HL9.out]; omega)
          rw [e0, decide_eq_false (show ¬ (1 ≤ s.size ∧ s.size ≤ 12) by omega)]
          simp [headS]
      subst he
      go_wp2
      all_goals (go_ret; exact ⟨congrArg (fun x => Ending.returned (Value.bool x)) (by rw [HF.out, Bool.eq_iff_iff]; simp; omega), rfl⟩)
end Go.Proofs.YthcidcfaodjbjabDoor
