/- The document's longest: how many bytes the longest token's text has from a place on. -/
import Derived.Test.YtnofibjchhcmeaaRefL
namespace Go.Proofs.Ytnofibjchhcmeaa
open Go.RowKit
set_option linter.unusedVariables false

theorem longL_le (R : List UInt8) : longL R ≤ R.length := by
  cases R with
  | nil => exact Nat.le_refl _
  | cons b T =>
    rw [longL_cons]
    repeat' split
    all_goals exact ga_le _ _ _

set_option maxHeartbeats 4000000 in
theorem longest_any (s : ByteArray) (p : Nat) (hp : p < s.size) (hs : s.size ≤ 1000000) (w : World) :
    Calls Try.prog 21 #[.string s, .int .i64 (p : Int)] w fun e w' => e = .returned (.int .i64 ((longL (s.data.toList.drop p) : Nat) : Int)) ∧ ∃ n, w' = w.drewN n := by
  obtain ⟨K, hK⟩ : ∃ K, longL (s.data.toList.drop p) = K := ⟨_, rfl⟩
  have hdr : s.data.toList.drop p = s[p] :: s.data.toList.drop (p + 1) := List.drop_eq_getElem_cons (by simpa using hp)
  have hKl : K ≤ s.size - p := by have := longL_le (s.data.toList.drop p); rw [hK] at this; simpa using this
  have yes : ∀ n, 1 ≤ n → n ≤ K → anyT ((s.data.toList.drop p).take n) = true := by
    intro n h1 h2; rw [hdr] at hK ⊢; exact anyT_yes _ _ n h1 (by rw [hK]; exact h2)
  have no : K < s.size - p → anyT ((s.data.toList.drop p).take (K + 1)) = false := by
    intro h
    have hl : (s.data.toList.drop p).length = s.size - p := by simp
    rw [hdr] at hK hl ⊢
    rw [← hK]
    exact anyT_no _ _ (by rw [hK, hl]; exact h)
  have none : K = 0 → ∀ n, 1 ≤ n → anyT ((s.data.toList.drop p).take n) = false := by
    intro h n hn; rw [hdr] at hK ⊢; exact anyT_none _ _ (by rw [hK, h]) n hn
  rw [hK]
  have HY : Hid (∀ n, 1 ≤ n → n ≤ K → anyT ((s.data.toList.drop p).take n) = true) := yes
  have HNo : Hid (K < s.size - p → anyT ((s.data.toList.drop p).take (K + 1)) = false) := no
  have HZ : Hid (K = 0 → ∀ n, 1 ≤ n → anyT ((s.data.toList.drop p).take n) = false) := none
  clear yes no none hK hdr
  go_enter Try.func21, Try.ntmps21
  go_wp2
  go_loopw [5, 6] (fun t i wr => ∃ (bs n : Nat), 1 ≤ n ∧ n ≤ s.size - p + 1 ∧ t = .int .i64 (bs : Int) ∧ i = .int .i64 (n : Int) ∧ Hid ((bs + 1 = n ∧ n ≤ K + 1) ∨ (K = 0 ∧ bs = 0)) ∧ Hid (∃ m, wr = w.drewN m)) (fun _ i _ => s.size - p + 1 - (intOf i).toNat)
  case atStart => exact ⟨0, 1, by omega, by omega, rfl, rfl, Or.inl ⟨rfl, by omega⟩, 0, rfl⟩
  case round =>
    obtain ⟨bs, n, hn1, hn2, rfl, rfl, HI, HW⟩ := hrel
    have hdw : ∀ j, ∃ m, wr.drewN j = w.drewN m := by
      intro j
      obtain ⟨m, rfl⟩ := HW.out
      exact ⟨m + j, World.drewN_drewN _ _ _⟩
    have HDW : Hid (∀ j, ∃ m, wr.drewN j = w.drewN m) := hdw
    clear hdw
    by_cases hlt : p + n ≤ s.size
    · obtain ⟨T, hT⟩ : ∃ T, s.extract p (p + n) = T := ⟨_, rfl⟩
      have hTl : T.data.toList = (s.data.toList.drop p).take n := by rw [← hT, extract_list]
      have hTs : T.size ≤ 1000000 := by
        have e1 : T.data.toList.length = T.size := by simp
        rw [← e1, hTl]; simp; omega
      obtain ⟨da, hda⟩ : ∃ x, areD T.data.toList = x := ⟨_, rfl⟩
      obtain ⟨ra, hra⟩ : ∃ x, rowC T.data.toList = x := ⟨_, rfl⟩
      obtain ⟨sa, hsa⟩ : ∃ x, isS T.toList = x := ⟨_, rfl⟩
      have hany : anyT ((s.data.toList.drop p).take n) = (da || (ra || sa)) := by
        rw [← hTl]; unfold anyT; rw [hda, hra, ← hsa, ByteArray.toList_eq]
      have CD : Hid (∀ w : World, Calls Try.prog 22 #[.string T] w fun e w' => e = .returned (.bool da) ∧ w' = w) := fun w => hda ▸ rdigits_any T (by unfold maxLen; omega) w
      have CR : Hid (∀ w : World, Calls Try.prog 25 #[.string T] w fun e w' => e = .returned (.bool ra) ∧ w' = w) := fun w => hra ▸ rrow_any T (by unfold maxLen; omega) w
      have CSg : Hid (∀ w : World, Calls Try.prog 32 #[.string T] w fun e w' => e = .returned (.bool sa) ∧ ∃ n, w' = w.drewN n) := fun w => hsa ▸ rsign_any T hTs w
      have HT : Hid (s.extract p (p + n) = T) := hT
      obtain ⟨q, hq⟩ : ∃ q, p + n = q := ⟨_, rfl⟩
      have hx : s.extract p q = T := hq ▸ hT
      clear hda hra hsa hTl hT hTs
      rcases hv : (da || (ra || sa)) with _ | _
      · -- no token's text
        rw [hv] at hany
        have HB : Hid (K = bs ∧ (n = 1 → K = 0)) := by
          rcases HI.out with ⟨h1, h2⟩ | ⟨h1, h2⟩
          · by_cases hnK : n ≤ K
            · rw [HY.out n hn1 hnK] at hany; cases hany
            · exact ⟨by omega, fun e => by omega⟩
          · exact ⟨by omega, fun _ => h1⟩
        have hd0 : da = false := by cases da <;> simp_all
        have hr0 : ra = false := by cases ra <;> simp_all
        have hs0 : sa = false := by cases sa <;> simp_all
        subst hd0 hr0 hs0
        clear hany hv
        by_cases hn : n = 1
        · subst hn
          go_wp2_with (first | (go_at_call 22; refine (CD.out _).mono ?_; rintro e w' ⟨rfl, hw⟩; rw [hw]; clear hw) | (go_at_call 25; refine (CR.out _).mono ?_; rintro e w' ⟨rfl, hw⟩; rw [hw]; clear hw) | (go_at_call 32; refine (CSg.out _).mono ?_; rintro e w' ⟨rfl, j, hw⟩; rw [hw]; clear hw))
          go_roundw
          case rel => exact ⟨bs, 2, by omega, by omega, rfl, by go_num, Or.inr ⟨HB.out.2 trivial, by have := HB.out.1; have := HB.out.2 trivial; omega⟩, HDW.out _⟩
          case measure => simp [intOf]; omega
        · have hn' : 1 < n := by omega
          go_wp2_with (first | (go_at_call 22; refine (CD.out _).mono ?_; rintro e w' ⟨rfl, hw⟩; rw [hw]; clear hw) | (go_at_call 25; refine (CR.out _).mono ?_; rintro e w' ⟨rfl, hw⟩; rw [hw]; clear hw) | (go_at_call 32; refine (CSg.out _).mono ?_; rintro e w' ⟨rfl, j, hw⟩; rw [hw]; clear hw))
          go_ret
          exact ⟨by rw [HB.out.1]; rfl, HDW.out _⟩
      · rw [hv] at hany
        have HB : Hid (n ≤ K) := by
          show _ ≤ _
          rcases HI.out with ⟨h1, h2⟩ | ⟨h1, h2⟩
          · by_cases hnK : n ≤ K
            · exact hnK
            · have e : n = K + 1 := by omega
              rw [e, HNo.out (by omega)] at hany; cases hany
          · rw [HZ.out h1 n hn1] at hany; cases hany
        clear hany
        rcases da with _ | _
        · rcases ra with _ | _
          · have hs1 : sa = true := by simpa using hv
            subst hs1
            clear hv
            go_wp2_with (first | (go_at_call 22; refine (CD.out _).mono ?_; rintro e w' ⟨rfl, hw⟩; rw [hw]; clear hw) | (go_at_call 25; refine (CR.out _).mono ?_; rintro e w' ⟨rfl, hw⟩; rw [hw]; clear hw) | (go_at_call 32; refine (CSg.out _).mono ?_; rintro e w' ⟨rfl, j, hw⟩; rw [hw]; clear hw))
            go_roundw
            case rel => exact ⟨n, n + 1, by omega, by omega, rfl, by go_num, Or.inl ⟨rfl, by have := HB.out; omega⟩, HDW.out _⟩
            case measure => simp [intOf]; omega
          · clear hv
            go_wp2_with (first | (go_at_call 22; refine (CD.out _).mono ?_; rintro e w' ⟨rfl, hw⟩; rw [hw]; clear hw) | (go_at_call 25; refine (CR.out _).mono ?_; rintro e w' ⟨rfl, hw⟩; rw [hw]; clear hw))
            go_roundw
            case rel => exact ⟨n, n + 1, by omega, by omega, rfl, by go_num, Or.inl ⟨rfl, by have := HB.out; omega⟩, HDW.out 0⟩
            case measure => simp [intOf]; omega
        · clear hv
          go_wp2_with (first | (go_at_call 22; refine (CD.out _).mono ?_; rintro e w' ⟨rfl, hw⟩; rw [hw]; clear hw))
          go_roundw
          case rel => exact ⟨n, n + 1, by omega, by omega, rfl, by go_num, Or.inl ⟨rfl, by have := HB.out; omega⟩, HDW.out 0⟩
          case measure => simp [intOf]; omega
    · have HB : Hid (K = bs) := by
        show _ = _
        rcases HI.out with ⟨h1, h2⟩ | ⟨h1, h2⟩
        · omega
        · omega
      go_wp2
      go_ret
      exact ⟨by rw [HB.out]; rfl, HDW.out 0⟩
end Go.Proofs.Ytnofibjchhcmeaa
