/- What the document's small and register answer. -/
import Derived.Test.YthcidcfaodjbjabDoorNRefR
import Derived.Test.YthcidcfaodjbjabDoorAsmM
import Derived.Test.YthcidcfaodjbjabDoorRd
namespace Go.Proofs.YthcidcfaodjbjabDoor
open Go.RowKit
set_option linter.unusedVariables false

set_option maxRecDepth 100000 in
set_option maxHeartbeats 1000000 in
theorem rsmall_any (s : ByteArray) (hs : s.size ≤ 8192) (w : World) :
    Calls Tryd.prog 68 #[.string s] w fun e w' => e = .returned (.int .i64 ((smallL s.data.toList).getD (-1))) ∧ ∃ n, w' = w.drewN n := by
  unfold smallL
  obtain ⟨n, hn⟩ : ∃ n, (parse s.data.toList).1 = n := ⟨_, rfl⟩
  obtain ⟨f, hf⟩ : ∃ f, (parse s.data.toList).2 = f := ⟨_, rfl⟩
  have HP : Hid (∀ w, Calls Tryd.prog 69 #[.string s] w fun e w' => e = .returned (.tuple #[.int .i64 n, .int .i64 f]) ∧ ∃ n, w' = w.drewN n) := fun w => by rw [← hn, ← hf]; exact rparse_any s hs w
  rw [hn, hf]
  clear hn hf
  by_cases h0 : f = 0
  · subst h0
    by_cases h1 : 0 ≤ n
    · by_cases h2 : n ≤ 255
      · rw [if_pos ⟨rfl, h1, h2⟩]
        go_enter Tryd.func68, Tryd.ntmps68
        go_wp2_with (go_at_call 69; refine (HP.out _).mono ?_; rintro e w' ⟨rfl, k, rfl⟩)
        go_ret
        exact ⟨rfl, k, rfl⟩
      · rw [if_neg (by omega)]
        have h2' : (255 : Int) < n := by omega
        go_enter Tryd.func68, Tryd.ntmps68
        go_wp2_with (go_at_call 69; refine (HP.out _).mono ?_; rintro e w' ⟨rfl, k, rfl⟩)
        go_ret
        exact ⟨rfl, k, rfl⟩
    · rw [if_neg (by omega)]
      have h1' : n < 0 := by omega
      go_enter Tryd.func68, Tryd.ntmps68
      go_wp2_with (go_at_call 69; refine (HP.out _).mono ?_; rintro e w' ⟨rfl, k, rfl⟩)
      go_ret
      exact ⟨rfl, k, rfl⟩
  · rw [if_neg (fun h => h0 h.1)]
    have e0 : (f == 0) = false := by simpa using h0
    go_enter Tryd.func68, Tryd.ntmps68
    go_wp2_with (go_at_call 69; refine (HP.out _).mono ?_; rintro e w' ⟨rfl, k, rfl⟩)
    go_ret
    exact ⟨rfl, k, rfl⟩

set_option maxRecDepth 100000 in
set_option maxHeartbeats 1000000 in
theorem rregister_any (s : ByteArray) (hs : s.size ≤ 8192) (h0 : 0 < s.size) (w : World) :
    Calls Tryd.prog 67 #[.string s] w fun e w' => e = .returned (.int .i64 ((regL s.data.toList).getD (-1))) ∧ ∃ n, w' = w.drewN n := by
  have hh := head_is s h0
  rcases e : s.data.toList with _ | ⟨b, r⟩
  · have : s.data.toList.length = s.size := by simp
    rw [e] at this; simp at this; omega
  · rw [e] at hh
    have hc : b = s[0] := by simpa using hh
    rw [show regL (b :: r) = if b = 114 then smallL r else none from rfl]
    obtain ⟨t, ht⟩ : ∃ t, s.extract 1 s.size = t := ⟨_, rfl⟩
    have et : t.data.toList = r := by
      rw [← ht]
      have : (s.extract 1 s.size).data.toList = s.data.toList.tail := by
        rw [ByteArray.data_extract, Array.toList_extract, List.extract_eq_take_drop, List.take_of_length_le (by simp), List.drop_one]
      rw [this, e]; rfl
    have hts : t.size ≤ 8192 := by rw [← ht]; simp; omega
    have HS : Hid (∀ w, Calls Tryd.prog 68 #[.string t] w fun e w' => e = .returned (.int .i64 ((smallL r).getD (-1))) ∧ ∃ n, w' = w.drewN n) := fun w => by rw [← et]; exact rsmall_any t hts w
    obtain ⟨o, ho⟩ : ∃ o, (smallL r).getD (-1) = o := ⟨_, rfl⟩
    by_cases hb : b = 114
    · rw [if_pos hb]
      rw [ho] at HS ⊢
      have h114 : (s[0].toNat : Int) = 114 := by rw [← hc, hb]; rfl
      clear ho et hts hh hc hb e
      go_enter Tryd.func67, Tryd.ntmps67
      go_wp2_with (go_at_call 68; refine (HS.out _).mono ?_; rintro e w' ⟨rfl, k, rfl⟩)
      go_ret
      exact ⟨rfl, k, rfl⟩
    · rw [if_neg hb]
      have h114 : ((s[0].toNat : Int) == 114) = false := by
        rw [← hc]
        have : b.toNat ≠ 114 := fun e => hb (UInt8.toNat_inj.1 e)
        simp; omega
      clear ho et hts hh hc hb e HS
      go_enter Tryd.func67, Tryd.ntmps67
      go_wp2
      go_ret
      exact ⟨rfl, 0, rfl⟩
end Go.Proofs.YthcidcfaodjbjabDoor
