/- The statement LexNames: whatever the text, it is a name, and one of the language's own words, just where the document says so. No condition. -/
import Derived.Test.YtnofibjchhcmeaaRows
import Derived.Test.YtnofibjchhcmeaaRefN
import Derived.WalkKit
import Derived.ProofKit
import Derived.OpenShut
import Derived.ShutString
import Derived.ChangeOld
import Derived.Below
namespace Go.Proofs.Ytnofibjchhcmeaa.lexNames
open Go.ChangeShapes Go.WideShapes Go.ChangeAt Go.RowKit
open Go.ChangeMaps (open_string shut_string)
set_option linter.unusedVariables false

theorem own : ownKnob Try.prog.godebug = none := by kernel_rfl
theorem laidOut : laidOutB Try.prog = true := by kernel_rfl

/-- letters and digits alone, a letter ahead -/
def rowB (l : List UInt8) : Bool := !l.isEmpty && (!headD l && l.all isA)

set_option maxHeartbeats 2000000 in
theorem row_any (s : ByteArray) (hm : s.size ≤ maxLen) (w : World) :
    Calls Try.prog 25 #[.string s] w fun e w' => e = .returned (.bool (rowB s.data.toList)) ∧ w' = w := by
  unfold maxLen at hm
  have hl : s.data.toList.length = s.size := by simp
  by_cases h0 : s.size = 0
  · obtain rfl : s = ByteArray.empty := by apply ByteArray.ext; exact Array.eq_empty_of_size_eq_zero h0
    go_enter Try.func25, Try.ntmps25
    go_wp2
    go_rounds 1
    go_ret
    exact ⟨rfl, rfl⟩
  have hne' : s.data.toList.isEmpty = false := by
    rcases e : s.data.toList with _ | ⟨a, r⟩
    · rw [e] at hl; simp at hl; omega
    · rfl
  obtain ⟨r, hr⟩ : ∃ r, rowB s.data.toList = r := ⟨_, rfl⟩
  have hr2 : r = (!isD s[0] && s.data.toList.all isA) := by
    rw [← hr]; unfold rowB; rw [hne', head_at s (by omega)]; rfl
  have HR : Hid (r = (!isD s[0] && s.data.toList.all isA)) := hr2
  rw [hr]
  clear hr hr2 hne'
  go_enter Try.func25, Try.ntmps25
  go_wp2
  go_loop [3] (fun i => ∃ k : Nat, k ≤ s.size ∧ i = .int .i64 k ∧ Hid ((s.data.toList.take k).all isA = true) ∧ Hid (0 < k → isD s[0] = false)) (fun i => s.size - (intOf i).toNat)
  case atStart => exact ⟨0, Nat.zero_le _, rfl, rfl, fun h => absurd h (by omega)⟩
  case round =>
    obtain ⟨k, hk, rfl, HA, HH⟩ := hrel
    by_cases hlt : k < s.size
    · rcases hL : isL s[k] with _ | _
      · have HL : Hid (isL s[k] = false) := hL
        rcases hD : isD s[k] with _ | _
        · have HDk : Hid (isD s[k] = false) := hD
          have HF : Hid (r = false) := by
            show _ = _
            rw [HR.out, all_take_not s k hlt isA (by unfold isA; rw [hL, hD]; rfl)]; simp
          clear hL hD
          go_wp2_with (first | (go_at_call 24; refine (rletter_any s[k] _).mono ?_; rintro e w' ⟨rfl, rfl⟩; rw [HL.out]) | (go_at_call 33; refine (rdigit_any s[k] _).mono ?_; rintro e w' ⟨rfl, rfl⟩; rw [HDk.out]))
          go_ret
          exact ⟨by rw [HF.out]; rfl, rfl⟩
        · have HDk : Hid (isD s[k] = true) := hD
          by_cases hk0 : k = 0
          · subst hk0
            have HF : Hid (r = false) := by
              show _ = _
              rw [HR.out, hD]; rfl
            clear hL hD
            go_wp2_with (first | (go_at_call 24; refine (rletter_any s[0] _).mono ?_; rintro e w' ⟨rfl, rfl⟩; rw [HL.out]) | (go_at_call 33; refine (rdigit_any s[0] _).mono ?_; rintro e w' ⟨rfl, rfl⟩; rw [HDk.out]))
            go_ret
            exact ⟨by rw [HF.out]; rfl, rfl⟩
          · have HN : Hid ((s.data.toList.take (k + 1)).all isA = true) := all_take_snoc s k hlt isA HA.out (by unfold isA; rw [hD]; simp)
            have HH2 : Hid (0 < k + 1 → isD s[0] = false) := fun _ => HH.out (by omega)
            have hk1 : ((k : Int) == 0) = false := by simp; omega
            clear hL hD
            go_wp2_with (first | (go_at_call 24; refine (rletter_any s[k] _).mono ?_; rintro e w' ⟨rfl, rfl⟩; rw [HL.out]) | (go_at_call 33; refine (rdigit_any s[k] _).mono ?_; rintro e w' ⟨rfl, rfl⟩; rw [HDk.out]))
            go_round
            case rel => exact ⟨k + 1, by omega, by go_num, HN, HH2⟩
            case measure => simp [intOf]; omega
      · have HL : Hid (isL s[k] = true) := hL
        have HN : Hid ((s.data.toList.take (k + 1)).all isA = true) := all_take_snoc s k hlt isA HA.out (by unfold isA; rw [hL]; rfl)
        have HH2 : Hid (0 < k + 1 → isD s[0] = false) := by
          intro _
          by_cases hk0 : k = 0
          · subst hk0
            rw [Bool.eq_false_iff]
            intro hd
            simp [isL, isD] at hL hd
            omega
          · exact HH.out (by omega)
        clear hL
        go_wp2_with (first | (go_at_call 24; refine (rletter_any s[k] _).mono ?_; rintro e w' ⟨rfl, rfl⟩; rw [HL.out]))
        go_round
        case rel => exact ⟨k + 1, by omega, by go_num, HN, HH2⟩
        case measure => simp [intOf]; omega
    · have HF : Hid (r = true) := by
        show _ = _
        have := HA.out
        rw [List.take_of_length_le (by simp; omega)] at this
        rw [HR.out, this, HH.out (by omega)]; rfl
      have hpos : 0 < s.size := by omega
      go_wp2
      go_ret
      refine ⟨?_, rfl⟩
      rw [HF.out]
      first | rfl | (refine congrArg (fun x => Ending.returned (Value.bool x)) ?_; exact decide_eq_true (by omega))

set_option maxHeartbeats 1000000 in
theorem rname_any (s : ByteArray) (hm : s.size ≤ maxLen) (w : World) :
    Calls Try.prog 13 #[.string s] w fun e w' => e = .returned (.bool (nmB s.data.toList)) ∧ Below w.heap.size w w' := by
  have hl : s.data.toList.length = s.size := by simp
  have hm' := hm
  unfold maxLen at hm
  by_cases h12 : s.size ≤ 12
  · rcases hr : rowB s.data.toList with _ | _
    · have h : nmB s.data.toList = false := by
        unfold nmB
        unfold rowB at hr
        rw [Bool.and_eq_false_iff] at hr ⊢
        rcases hr with h | h
        · exact Or.inl h
        · right
          rw [hl, decide_eq_true h12, Bool.true_and]
          rcases hd : headD s.data.toList with _ | _
          · rw [hd] at h
            simp at h
            simp [h]
          · rfl
      have HRO : Hid (rowB s.data.toList = false) := hr
      rw [h]
      clear h hr
      go_enter Try.func13, Try.ntmps13
      go_wp2_with (go_at_call 25; refine (row_any s hm' _).mono ?_; rintro e w' ⟨rfl, hw⟩; rw [hw]; clear hw; rw [HRO.out])
      go_ret
      exact ⟨rfl, Below.refl _ _⟩
    · have h : nmB s.data.toList = !isW s.toList := by
        unfold nmB
        unfold rowB at hr
        rw [Bool.and_eq_true, Bool.and_eq_true] at hr
        rw [hr.1, hr.2.1, hr.2.2, hl, decide_eq_true h12, ByteArray.toList_eq]; rfl
      have HRO : Hid (rowB s.data.toList = true) := hr
      rw [h]
      clear h hr
      go_enter Try.func13, Try.ntmps13
      go_wp2_with (go_at_call 25; refine (row_any s hm' _).mono ?_; rintro e w' ⟨rfl, hw⟩; rw [hw]; clear hw; rw [HRO.out])
      refine (rwords_any s _).mono ?_
      rintro e w1 ⟨rfl, hb⟩
      have HB : Hid (Below w.heap.size w w1) := hb
      clear hb
      go_wp2
      go_ret
      exact ⟨rfl, HB.out⟩
  · have h : nmB s.data.toList = false := by
      unfold nmB
      rw [hl, decide_eq_false h12]; simp
    rw [h]
    clear h
    go_enter Try.func13, Try.ntmps13
    go_wp2
    go_ret
    exact ⟨rfl, Below.refl _ _⟩

set_option maxHeartbeats 2000000 in
theorem walk (s : ByteArray) (w0 : s.size ≤ maxLen) (w : World) :
    Calls Try.prog 4 #[.string s] w fun e w' => e = .returned (.bool true) ∧ Below w.heap.size w w' := by
  have hm' := w0
  unfold maxLen at w0
  by_cases h4 : 8192 < s.size
  · go_enter Try.func4, Try.ntmps4
    go_wp2
    go_ret
    exact ⟨rfl, Below.refl _ _⟩
  obtain ⟨nb, hnb⟩ : ∃ b, nmB s.data.toList = b := ⟨_, rfl⟩
  obtain ⟨wb, hwb⟩ : ∃ b, isW s.toList = b := ⟨_, rfl⟩
  have hex : (nb && wb) = false := by
    rw [← hnb, ← hwb, ByteArray.toList_eq]
    unfold nmB
    rcases isW s.data.toList <;> simp
  have c12 : ∀ w : World, Calls Try.prog 12 #[.string s] w fun e w' => e = .returned (.bool nb) ∧ w' = w := fun w => hnb ▸ name_any s hm' w
  have c13 : ∀ w : World, Calls Try.prog 13 #[.string s] w fun e w' => e = .returned (.bool nb) ∧ Below w.heap.size w w' := fun w => hnb ▸ rname_any s hm' w
  have c14 : ∀ w : World, Calls Try.prog 14 #[.string s] w fun e w' => e = .returned (.bool wb) ∧ w' = w := fun w => hwb ▸ words_any s w
  have c15 : ∀ w : World, Calls Try.prog 15 #[.string s] w fun e w' => e = .returned (.bool wb) ∧ Below w.heap.size w w' := fun w => hwb ▸ rwords_any s w
  have C12 : Hid (∀ w : World, Calls Try.prog 12 #[.string s] w fun e w' => e = .returned (.bool nb) ∧ w' = w) := c12
  have C13 : Hid (∀ w : World, Calls Try.prog 13 #[.string s] w fun e w' => e = .returned (.bool nb) ∧ Below w.heap.size w w') := c13
  have C14 : Hid (∀ w : World, Calls Try.prog 14 #[.string s] w fun e w' => e = .returned (.bool wb) ∧ w' = w) := c14
  have C15 : Hid (∀ w : World, Calls Try.prog 15 #[.string s] w fun e w' => e = .returned (.bool wb) ∧ Below w.heap.size w w') := c15
  clear c12 c13 c14 c15 hnb hwb
  rcases nb with _ | _ <;> rcases wb with _ | _
  case true.true => cases hex
  all_goals
    clear hex
    go_enter Try.func4, Try.ntmps4
    go_wp2_with (go_at_call 12; refine (C12.out _).mono ?_; rintro e w' ⟨rfl, hw⟩; rw [hw]; clear hw)
    refine (C13.out _).mono ?_
    rintro e w1 ⟨rfl, hb1⟩
    have HB1 : Hid (Below w.heap.size w w1) := hb1
    clear hb1
    go_wp2_with (go_at_call 14; refine (C14.out _).mono ?_; rintro e w' ⟨rfl, hw⟩; rw [hw]; clear hw)
    refine (C15.out _).mono ?_
    rintro e w2 ⟨rfl, hb2⟩
    have HB2 : Hid (Below w.heap.size w w2) := HB1.out.trans (hb2.mono HB1.out.size)
    clear hb2
    go_wp2_with (first | (go_at_call 12; refine (C12.out _).mono ?_; rintro e w' ⟨rfl, hw⟩; rw [hw]; clear hw) | (go_at_call 14; refine (C14.out _).mono ?_; rintro e w' ⟨rfl, hw⟩; rw [hw]; clear hw))
    refine (alive_any _).mono ?_
    rintro e w3 ⟨rfl, hb3⟩
    have HB3 : Hid (Below w.heap.size w w3) := HB2.out.trans (hb3.mono HB2.out.size)
    clear hb3
    go_wp2
    go_ret
    exact ⟨rfl, HB3.out⟩

/-! ### THE ROW's STEP: WRITTEN OUT -/
set_option maxRecDepth 100000 in
theorem lifted (os : Os) (started : os.Started) (H : Type) (enc : TypeId × Value → H) :
    ReturnsInHanded {} Try.checked os 4 .any (Rows.lexNamesSpec.pre6 enc Try.prog Try.f4 Rows.lexNamesRow.domain false) (Rows.lexNamesSpec.post enc Try.prog Try.f4 false true false false) := by
  refine returnsInHanded_of_change (C := Try.checked) own started (by kernel_rfl) Try.func4
    (ChangeSpec.witness6 (enc := enc) (C := Try.checked) false ⟨#[], #[.string ByteArray.empty], []⟩ 8 (by kernel_rfl) (by kernel_rfl) (by kernel_rfl) (by kernel_rfl)) ?_
  intro W base args ds gs before hval0 hW hcnd _
  have hval : ∀ (j : Nat) t v, Try.f4.params[j]? = some t → args[j]? = some v → Value.okWide Try.prog W .any base t v := hval0
  have hW' := hW
  obtain ⟨p, q, hA0, hV, rfl, hfz, hnd⟩ := hW
  have hA : DataW.TrodAll enc Try.prog W 0 (fun _ => true) true Try.f4.params.toList args.toList ds p := hA0
  rw [Try.params4] at hA hval
  obtain ⟨v0, vs0, d0, ds0, p0, q0, hargs, rfl, rfl, h0, r0⟩ := trodAll_cons hA
  obtain ⟨rfl, rfl, rfl⟩ := trodAll_nil r0
  obtain rfl : args = #[v0] := by cases args; simp_all
  obtain ⟨rfl, rfl⟩ := trodVars_none hV
  obtain ⟨a0, rfl, rfl, rfl, w0⟩ := open_string Try.underlying9 (hval 0 9 v0 rfl rfl) h0
  clear hA0 hval0
  refine (walk a0 w0 W).mono fun e W' ⟨he, bel⟩ => ?_
  subst he
  exact ⟨_, rfl, _, _, _, [], _, [], hW', trodAll_mk1 (shut_bool Try.underlying4 _), (trodAll_cons_mk (shut_string Try.underlying9 w0) trodAll_mk0), rfl, bel.frame _, fun h => by cases h⟩

theorem over : Rows.lexNamesRow.holds Try.pinned (OpenSpec.ofChange Rows.lexNamesSpec) :=
  OpenClaim.holds_of_wide 4 Try.f4 rfl rfl rfl rfl rfl rfl rfl ⟨rfl, rfl, rfl, rfl, rfl⟩ rfl rfl rfl rfl rfl (by kernel_rfl) Try.func4 (by kernel_rfl)
    (of_decide_eq_true (by kernel_rfl)) (by unfold Func.isWrapper; first | (rw [if_pos (by decide +kernel)]; kernel_rfl) | (rw [if_neg (by decide +kernel)]; exact ⟨rfl, rfl⟩))
    (fun os started H enc _ => lifted os started H enc)

/-- ████ THE STATEMENT ████ -/
theorem proved : Rows.LexNamesSaid := over
#print axioms proved
end Go.Proofs.Ytnofibjchhcmeaa.lexNames
