/- What asm.pieces, asm.register answer. -/
import Derived.Test.YthcidcfaodjbjabGreatDoorRead
import Derived.Test.YthcidcfaodjbjabGreatDoorShfP
namespace Go.Proofs.YthcidcfaodjbjabGreatDoor
open Go.RowKit
set_option linter.unusedVariables false

set_option maxRecDepth 100000 in
set_option maxHeartbeats 1000000 in
theorem blank_any (x : Nat) (w : World) : Calls Tryz.prog 58 #[.int .i32 (x : Int)] w fun e w' => e = .returned (.bool (sepR x)) ∧ w' = w := by
  have h : sepR x = (((x : Int) == 32) || (((x : Int) == 9) || ((x : Int) == 13))) := by
    unfold sepR
    rw [Bool.eq_iff_iff]
    simp only [Bool.or_eq_true, beq_iff_eq]
    omega
  rw [h]
  clear h
  by_cases h32 : (x : Int) = 32
  · have e1 : ((x : Int) == 32) = true := by simpa using h32
    rw [e1]
    clear h32
    go_enter Tryz.func58, Tryz.ntmps58
    go_wp2
    go_ret
    exact ⟨rfl, rfl⟩
  · have e1 : ((x : Int) == 32) = false := by simpa using h32
    rw [e1]
    clear h32
    by_cases h9 : (x : Int) = 9
    · have e2 : ((x : Int) == 9) = true := by simpa using h9
      rw [e2]
      clear h9
      go_enter Tryz.func58, Tryz.ntmps58
      go_wp2
      go_ret
      exact ⟨rfl, rfl⟩
    · have e2 : ((x : Int) == 9) = false := by simpa using h9
      rw [e2]
      clear h9
      go_enter Tryz.func58, Tryz.ntmps58
      go_wp2
      go_ret
      exact ⟨by simp, rfl⟩

set_option maxRecDepth 100000 in
set_option maxHeartbeats 1000000 in
theorem register_any (s : ByteArray) (hs : s.size ≤ maxLen) (w : World) :
    Calls Tryz.prog 87 #[.string s] w fun e w' => e = .returned (smallA (regL s.data.toList)) ∧ w' = w := by
  have HC : Hid (∀ w, Calls Tryz.prog 95 #[.string s, .string ⟨#[114]⟩] w fun e w' => e = .returned (.tuple #[.string ⟨(Lib.trimPrefix s.data.toList [114]).toArray⟩, .bool (Lib.hasPrefix s.data.toList [114])]) ∧ w' = w) := fun w => Tryz.strings_CutPrefix s ⟨#[114]⟩ w
  rcases e : s.data.toList with _ | ⟨b, r⟩
  · rw [e] at HC
    show Calls Tryz.prog 87 #[.string s] w fun e w' => e = .returned (.tuple #[.int .i64 0, .bool false]) ∧ w' = w
    have HC2 : Hid (∀ w, Calls Tryz.prog 95 #[.string s, .string ⟨#[114]⟩] w fun e w' => e = .returned (.tuple #[.string ⟨#[]⟩, .bool false]) ∧ w' = w) := HC.out
    clear HC e
    go_enter Tryz.func87, Tryz.ntmps87
    go_wp2_with (go_at_call 95; refine (HC2.out _).mono ?_; rintro e w' ⟨rfl, rfl⟩)
    go_ret2
    exact ⟨rfl, rfl⟩
  · rw [e] at HC
    rw [show regL (b :: r) = if b = 114 then smallL r else none from rfl]
    by_cases hb : b = 114
    · subst hb
      rw [if_pos rfl]
      have HC2 : Hid (∀ w, Calls Tryz.prog 95 #[.string s, .string ⟨#[114]⟩] w fun e w' => e = .returned (.tuple #[.string ⟨r.toArray⟩, .bool true]) ∧ w' = w) := HC.out
      have hr : (⟨r.toArray⟩ : ByteArray).size ≤ maxLen := by
        have : s.data.toList.length = s.size := by simp
        rw [e] at this
        show r.toArray.size ≤ maxLen
        simp at this ⊢
        omega
      have HS : Hid (∀ w, Calls Tryz.prog 88 #[.string ⟨r.toArray⟩] w fun e w' => e = .returned (smallA (smallL r)) ∧ w' = w) := fun w => small_any ⟨r.toArray⟩ hr w
      obtain ⟨o, ho⟩ : ∃ o, smallL r = o := ⟨_, rfl⟩
      rw [ho] at HS ⊢
      unfold smallA at HS ⊢
      clear HC e ho hr
      go_enter Tryz.func87, Tryz.ntmps87
      go_wp2_with (first | (go_at_call 95; refine (HC2.out _).mono ?_; rintro e w' ⟨rfl, rfl⟩) | (go_at_call 88; refine (HS.out _).mono ?_; rintro e w' ⟨rfl, rfl⟩))
      go_ret2
      exact ⟨rfl, rfl⟩
    · rw [if_neg hb]
      have hp : Lib.hasPrefix (b :: r) [114] = false := by
        have : ([114] : List UInt8).isPrefixOf (b :: r) = false := by simp [List.isPrefixOf]; exact fun e => hb e.symm
        simpa [Lib.hasPrefix] using this
      rw [hp] at HC
      obtain ⟨t, ht⟩ : ∃ t, Lib.trimPrefix (b :: r) [114] = t := ⟨_, rfl⟩
      rw [ht] at HC
      show Calls Tryz.prog 87 #[.string s] w fun e w' => e = .returned (.tuple #[.int .i64 0, .bool false]) ∧ w' = w
      clear ht hp hb e
      go_enter Tryz.func87, Tryz.ntmps87
      go_wp2_with (go_at_call 95; refine (HC.out _).mono ?_; rintro e w' ⟨rfl, rfl⟩)
      go_ret2
      exact ⟨rfl, rfl⟩

/-- what pieces answers -/
def PcsP (w : World) (L : List (List UInt8)) (e : Ending) (w' : World) : Prop :=
  ∃ (A : Nat) (P : List ByteArray), P.map (·.data.toList) = L ∧ e = .returned (.slice (some ⟨A, 0, none⟩) P.length P.length) ∧ w.heap.size ≤ A ∧ w'.ownsRow w.heap.size 9 1 (.slice (some ⟨A, 0, none⟩) P.length P.length) P.length (P.map Value.string) ∧ Below w.heap.size w w'
set_option maxRecDepth 100000 in
set_option maxHeartbeats 1000000 in
theorem pieces_any (s : ByteArray) (hs : s.size ≤ 8192) (m : Int) (w : World) (hm : w.cell? ⟨0, 0, none⟩ = some (.int .i64 m)) :
    Calls Tryz.prog 35 #[.string s] w (PcsP w (fieldsL (saidL s.data.toList))) := by
  obtain ⟨t, ht⟩ : ∃ t : ByteArray, ⟨(Lib.cut s.data.toList [35]).1.toArray⟩ = t := ⟨_, rfl⟩
  obtain ⟨u, hu⟩ : ∃ t : ByteArray, ⟨(Lib.cut s.data.toList [35]).2.1.toArray⟩ = t := ⟨_, rfl⟩
  obtain ⟨b, hb⟩ : ∃ t, (Lib.cut s.data.toList [35]).2.2 = t := ⟨_, rfl⟩
  have htl : t.data.toList = saidL s.data.toList := by
    rw [← ht]
    show (Lib.cut s.data.toList [35]).1.toArray.toList = _
    rw [List.toList_toArray, cut_said]
  have hsz : t.size ≤ 8192 := by
    have h1 : t.size = (saidL s.data.toList).length := by rw [← htl]; simp
    have h2 : ∀ l : List UInt8, (saidL l).length ≤ l.length := by
      intro l
      induction l with
      | nil => exact Nat.le_refl _
      | cons c l ih => unfold saidL; split <;> simp; exact ih
    have h3 := h2 s.data.toList
    have h4 : s.data.toList.length = s.size := by simp
    omega
  have HC : Hid (Calls Tryz.prog 56 #[.string s, .string ⟨#[35]⟩] w fun e w' => e = .returned (.tuple #[.string t, .string u, .bool b]) ∧ ∃ n, w' = w.drewN n) := by
    rw [← ht, ← hu, ← hb]
    exact Tryz.strings_Cut s ⟨#[35]⟩ m w (by omega) hm
  have HF : Hid (∀ w, Calls Tryz.prog 57 #[.string t, .func (.func 58) #[] #[]] w (PcsP w (fieldsL (saidL s.data.toList)))) := by
    intro w
    refine (Tryz.strings_FieldsFunc 58 #[] (fun args w => by kernel_rfl) sepR t w (by omega) (fun W x _ => ?_)).mono ?_
    · exact (blank_any x W).mono fun e w' ⟨h1, h2⟩ => ⟨h1, 0, h2⟩
    · rintro e w' ⟨A, h1, h2, h3, h4⟩
      exact ⟨A, Lib.goFieldsP sepR t, by rw [fields_eq, htl], h1, h2, h3, h4⟩
  obtain ⟨L, hL⟩ : ∃ L, fieldsL (saidL s.data.toList) = L := ⟨_, rfl⟩
  rw [hL] at HF ⊢
  clear ht hu hb htl hsz hL hm
  go_enter Tryz.func35, Tryz.ntmps35
  go_wp2_with (first | (go_at_call 56; refine HC.out.mono ?_; rintro e w' ⟨rfl, n, rfl⟩) | (go_at_call 57; refine (HF.out _).mono ?_; rintro e w' ⟨A, P, h1, rfl, h3, h4, h5⟩; have H1 : Hid _ := h1; have H3 : Hid _ := h3; have H4 : Hid _ := h4; have H5 : Hid _ := h5; clear h1 h3 h4 h5))
  go_ret
  exact ⟨A, P, H1.out, rfl, H3.out, H4.out, ⟨H5.out.os, H5.out.tape, H5.out.output, H5.out.size, H5.out.block⟩⟩
end Go.Proofs.YthcidcfaodjbjabGreatDoor
