/- Has an expression what its kind says? -/
import Derived.Test.YtnofibjchhcmeabDoorLChars
import Derived.Test.YtnofibjchhcmeabDoorEq
import Derived.Test.YtnofibjchhcmeabDoorCn
namespace Go.Proofs.YtnofibjchhcmeabDoor
open Go.RowKit
set_option linter.unusedVariables false

/-- is it a name? -/
def headD : List UInt8 → Bool
  | [] => false
  | b :: _ => isD b
def nmB (l : List UInt8) : Bool := !l.isEmpty && (decide (l.length ≤ 12) && (!headD l && (l.all isA && !isW l)))

theorem all_take_snoc (s : ByteArray) (k : Nat) (h : k < s.size) (P : UInt8 → Bool) (ha : (s.data.toList.take k).all P = true) (h1 : P s[k] = true) : (s.data.toList.take (k + 1)).all P = true := by
  rw [take_snoc s k h, List.all_append, ha]
  simp [h1]
theorem all_take_not (s : ByteArray) (k : Nat) (h : k < s.size) (P : UInt8 → Bool) (h1 : P s[k] = false) : s.data.toList.all P = false := by
  have hm : s[k] ∈ s.data.toList := List.getElem_mem (l := s.data.toList) (n := k) (by simpa using h)
  rw [Bool.eq_false_iff]
  intro hall
  have := List.all_eq_true.1 hall _ hm
  rw [h1] at this; cases this
theorem head_at (s : ByteArray) (h : 0 < s.size) : headD s.data.toList = isD s[0] := by
  have : s.data.toList = s[0] :: s.data.toList.drop 1 := List.drop_eq_getElem_cons (l := s.data.toList) (i := 0) (by simpa using h)
  rw [this]; rfl

set_option maxHeartbeats 1000000 in
theorem name_any (s : ByteArray) (hm : s.size ≤ maxLen) (w : World) :
    Calls Tryd.prog 64 #[.string s] w fun e w' => e = .returned (.bool (nmB s.data.toList)) ∧ w' = w := by
  unfold maxLen at hm
  have hl : s.data.toList.length = s.size := by simp
  by_cases h0 : s.size = 0
  · obtain rfl : s = ByteArray.empty := by apply ByteArray.ext; exact Array.eq_empty_of_size_eq_zero h0
    go_enter Tryd.func64, Tryd.ntmps64
    go_wp2
    go_ret
    exact ⟨rfl, rfl⟩
  have hne : s.toList.isEmpty = false := by
    rw [ByteArray.toList_eq]
    rcases e : s.data.toList with _ | ⟨a, r⟩
    · rw [e] at hl; simp at hl; omega
    · rfl
  have hne' : s.data.toList.isEmpty = false := by rw [← ByteArray.toList_eq]; exact hne
  by_cases h12 : 12 < s.size
  · have h : nmB s.data.toList = false := by
      unfold nmB
      rw [hne', hl, decide_eq_false (by omega)]; rfl
    rw [h]
    clear h
    go_enter Tryd.func64, Tryd.ntmps64
    go_wp2
    go_ret
    exact ⟨rfl, rfl⟩
  have h : nmB s.data.toList = (!isD s[0] && (s.data.toList.all isA && !isW s.data.toList)) := by
    unfold nmB
    rw [hne', hl, decide_eq_true (by omega), head_at s (by omega)]; rfl
  rw [h]
  clear h hne'
  rcases hd : isD s[0] with _ | _
  · have HD : Hid (isD s[0] = false) := hd
    show Calls Tryd.prog 64 #[.string s] w fun e w' => e = .returned (.bool (s.data.toList.all isA && !isW s.data.toList)) ∧ w' = w
    obtain ⟨r, hr⟩ : ∃ r, (s.data.toList.all isA && !isW s.data.toList) = r := ⟨_, rfl⟩
    have HR : Hid ((s.data.toList.all isA && !isW s.data.toList) = r) := hr
    rw [hr]
    clear hr hd
    go_enter Tryd.func64, Tryd.ntmps64
    go_wp2_with (go_at_call 70; refine (isDigit_any s[0] _).mono ?_; rintro e w' ⟨rfl, rfl⟩; rw [HD.out])
    go_loop [18] (fun i => ∃ k : Nat, k ≤ s.size ∧ i = .int .i64 k ∧ Hid ((s.data.toList.take k).all isA = true)) (fun i => s.size - (intOf i).toNat)
    case atStart => exact ⟨0, Nat.zero_le _, rfl, rfl⟩
    case round =>
      obtain ⟨k, hk, rfl, HA⟩ := hrel
      by_cases hlt : k < s.size
      · rcases hL : isL s[k] with _ | _
        · have HL : Hid (isL s[k] = false) := hL
          rcases hD : isD s[k] with _ | _
          · have HDk : Hid (isD s[k] = false) := hD
            have HF : Hid (r = false) := by
              show _ = _
              rw [← HR.out, all_take_not s k hlt isA (by unfold isA; rw [hL, hD]; rfl)]; rfl
            clear hL hD
            go_wp2_with (first | (go_at_call 72; refine (isLetter_any s[k] _).mono ?_; rintro e w' ⟨rfl, rfl⟩; rw [HL.out]) | (go_at_call 70; refine (isDigit_any s[k] _).mono ?_; rintro e w' ⟨rfl, rfl⟩; rw [HDk.out]))
            go_ret
            exact ⟨by rw [HF.out]; rfl, rfl⟩
          · have HDk : Hid (isD s[k] = true) := hD
            have HN : Hid ((s.data.toList.take (k + 1)).all isA = true) := all_take_snoc s k hlt isA HA.out (by unfold isA; rw [hD]; simp)
            clear hL hD
            go_wp2_with (first | (go_at_call 72; refine (isLetter_any s[k] _).mono ?_; rintro e w' ⟨rfl, rfl⟩; rw [HL.out]) | (go_at_call 70; refine (isDigit_any s[k] _).mono ?_; rintro e w' ⟨rfl, rfl⟩; rw [HDk.out]))
            go_round
            case rel => exact ⟨k + 1, by omega, by go_num, HN⟩
            case measure => simp [intOf]; omega
        · have HL : Hid (isL s[k] = true) := hL
          have HN : Hid ((s.data.toList.take (k + 1)).all isA = true) := all_take_snoc s k hlt isA HA.out (by unfold isA; rw [hL]; rfl)
          clear hL
          go_wp2_with (first | (go_at_call 72; refine (isLetter_any s[k] _).mono ?_; rintro e w' ⟨rfl, rfl⟩; rw [HL.out]))
          go_round
          case rel => exact ⟨k + 1, by omega, by go_num, HN⟩
          case measure => simp [intOf]; omega
      · have HF : Hid (r = !isW s.toList) := by
          show _ = _
          have := HA.out
          rw [List.take_of_length_le (by simp; omega)] at this
          rw [← HR.out, this, ByteArray.toList_eq]; rfl
        go_wp2_with (go_at_call 86; refine (words_any s _).mono ?_; rintro e w' ⟨rfl, rfl⟩)
        go_ret
        exact ⟨by rw [HF.out]; rfl, rfl⟩
  · have HD : Hid (isD s[0] = true) := hd
    show Calls Tryd.prog 64 #[.string s] w fun e w' => e = .returned (.bool false) ∧ w' = w
    clear hd
    go_enter Tryd.func64, Tryd.ntmps64
    go_wp2_with (go_at_call 70; refine (isDigit_any s[0] _).mono ?_; rintro e w' ⟨rfl, rfl⟩; rw [HD.out])
    go_ret
    exact ⟨rfl, rfl⟩

end Go.Proofs.YtnofibjchhcmeabDoor
namespace Go.Proofs.YtnofibjchhcmeabDoor
open Go.RowKit
set_option linter.unusedVariables false

def nameF (s : ByteArray) (has : Bool) : Bool := if has then nmB s.data.toList else s.toList == []
set_option maxRecDepth 100000 in
theorem nameFits_any (s : ByteArray) (has : Bool) (hm : s.size ≤ maxLen) (w : World) : Calls Tryd.prog 48 #[.string s, .bool has] w (QB w (nameF s has)) := by
  have HN := name_any s hm w
  cases has with
  | true =>
    go_enter Tryd.func48, Tryd.ntmps48
    go_wp2_with fail
    refine HN.mono ?_
    rintro e w' ⟨rfl, rfl⟩
    go_wp2
    first | exact ⟨rfl, Below.refl _ _⟩ | (go_ret; exact ⟨rfl, Below.refl _ _⟩)
  | false =>
    have hf : nameF s false = (s.toList == []) := rfl
    rw [hf]
    go_enter Tryd.func48, Tryd.ntmps48
    go_wp2
    first | exact ⟨by simp, Below.refl _ _⟩ | (go_ret; exact ⟨by simp, Below.refl _ _⟩)
/-- the looker: how many nodes it has come to -/
def LK (w : World) (kb n : Nat) : Prop := w.heap[kb]? = some (.cells #[.int .i64 (n : Int)] 51)
set_option maxRecDepth 100000 in
theorem another_any (kb n : Nat) (w : World) (h : LK w kb n) (hn : n ≤ 1000000) : Calls Tryd.prog 34 #[.pointer (some ⟨kb, 0, none⟩)] w fun e w' => e = .returned (.bool (decide ((n : Int) + 1 ≤ 600))) ∧ w' = w.setCell ⟨kb, 0, none⟩ (.int .i64 ((n + 1 : Nat) : Int)) := by
  have c0 : w.cell? ⟨kb, 0, none⟩ = some (.int .i64 (n : Int)) := by rw [cell_of_row w kb 0 _ _ _ h]; rfl
  have f0 := frozen_of_row w kb 0 _ _ h
  have hc : ((n + 1 : Nat) : Int) = (n : Int) + 1 := by omega
  rw [hc]
  have hlt : kb < w.heap.size := (Array.getElem?_eq_some_iff.1 h).1
  by_cases h6 : (n : Int) + 1 ≤ 600
  · rw [decide_eq_true h6]
    go_enter Tryd.func34, Tryd.ntmps34
    go_wp2
    first | exact ⟨rfl, rfl⟩ | (go_ret; exact ⟨rfl, rfl⟩)
  · rw [decide_eq_false h6]
    go_enter Tryd.func34, Tryd.ntmps34
    go_wp2
    first | exact ⟨rfl, rfl⟩ | (go_ret; exact ⟨rfl, rfl⟩)
end Go.Proofs.YtnofibjchhcmeabDoor
namespace Go.Proofs.YtnofibjchhcmeabDoor
open Go.RowKit Go.Maps
set_option linter.unusedVariables false
set_option linter.unusedSimpArgs false

/-- the table's row of a kind -/
structure HasE where
  num : Bool
  name : Bool
  first : Int
  last : Int
  args : Int
def exprB (h : HasE) (n : Int) (s : ByteArray) (p : Int) (m : Nat) : Bool := (n == 0 || (h.num && decide (0 < n))) && nameF s h.name && decide (h.first ≤ p) && decide (p ≤ h.last) && decide ((m : Int) = h.args)
def RowE (w : World) (k : Nat) (h : HasE) : Prop := w.cell? ⟨2, k * 5, none⟩ = some (.bool h.num) ∧ w.cell? ⟨2, k * 5 + 1, none⟩ = some (.bool h.name) ∧ w.cell? ⟨2, k * 5 + 2, none⟩ = some (.int .i64 h.first) ∧ w.cell? ⟨2, k * 5 + 3, none⟩ = some (.int .i64 h.last) ∧ w.cell? ⟨2, k * 5 + 4, none⟩ = some (.int .i64 h.args)

set_option maxRecDepth 100000 in
set_option maxHeartbeats 8000000 in
theorem exprFits_out (k n : Int) (s : ByteArray) (p : Int) (ad : Option Addr) (m cap : Nat) (w : World) (hk : k < 1 ∨ 5 < k) : Calls Tryd.prog 49 #[.agg #[.int .i64 k, .int .i64 n, .string s, .int .i64 p, .slice ad m cap]] w (QB w false) := by
  have HB : Hid (∀ o, Below w.heap.size w (w.alloc o)) := fun o => (Below.refl _ _).alloc (Nat.le_refl _) _
  by_cases h1 : k < 1
  · go_enter Tryd.func49, Tryd.ntmps49
    go_wp2
    first | exact ⟨rfl, HB.out _⟩ | (go_ret; exact ⟨rfl, HB.out _⟩)
  · have h5 : 5 < k := by omega
    go_enter Tryd.func49, Tryd.ntmps49
    go_wp2
    first | exact ⟨rfl, HB.out _⟩ | (go_ret; exact ⟨rfl, HB.out _⟩)
end Go.Proofs.YtnofibjchhcmeabDoor
