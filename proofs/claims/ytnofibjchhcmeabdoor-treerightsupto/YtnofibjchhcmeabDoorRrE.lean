/- What the document's Deep answers; which expressions may be, kind by kind. -/
import Derived.Test.YtnofibjchhcmeabDoorRtB
import Derived.Below
import Derived.Test.YtnofibjchhcmeabDoorRrP
import Derived.Test.YtnofibjchhcmeabDoorCn
namespace Go.Proofs.YtnofibjchhcmeabDoor
open Go.RowKit
set_option linter.unusedVariables false

theorem rdigit_any (b : UInt8) (w : World) :
    Calls Tryd.prog 66 #[.int .u8 (b.toNat : Int)] w fun e w' => e = .returned (.bool (isD b)) ∧ w' = w := by
  by_cases h1 : 48 ≤ b.toNat
  · have h : isD b = decide ((b.toNat : Int) ≤ 57) := by
      by_cases h2 : b.toNat ≤ 57
      · rw [show isD b = true by simp [isD]; omega]; symm; exact decide_eq_true (by omega)
      · rw [show isD b = false by simp [isD]; omega]; symm; exact decide_eq_false (by omega)
    rw [h]
    clear h
    go_enter Tryd.func66, Tryd.ntmps66
    go_wp2
    go_ret
    exact ⟨rfl, rfl⟩
  · have h : isD b = false := by simp [isD]; omega
    rw [h]
    clear h
    go_enter Tryd.func66, Tryd.ntmps66
    go_wp2
    go_ret
    refine ⟨congrArg (fun x => Ending.returned (Value.bool x)) ?_, rfl⟩
    first | rfl | exact decide_eq_true (by omega) | exact decide_eq_false (by omega)

theorem rletter_any (b : UInt8) (w : World) :
    Calls Tryd.prog 65 #[.int .u8 (b.toNat : Int)] w fun e w' => e = .returned (.bool (isL b)) ∧ w' = w := by
  have key : isL b = true ∨ isL b = false := by cases isL b <;> simp
  by_cases h1 : (97 : Int) ≤ b.toNat
  · by_cases h2 : (b.toNat : Int) ≤ 122
    · have h : isL b = true := by simp [isL]; omega
      rw [h]
      clear h
      go_enter Tryd.func65, Tryd.ntmps65
      go_wp2
      go_ret
      refine ⟨congrArg (fun x => Ending.returned (Value.bool x)) ?_, rfl⟩
      first | rfl | exact decide_eq_true (by omega) | exact decide_eq_false (by omega)
    · have h3 : (65 : Int) ≤ b.toNat := by omega
      have h4 : ¬ (b.toNat : Int) ≤ 90 := by omega
      have h5 : ((b.toNat : Int) == 95) = false := by simp; omega
      have h6 : decide ((b.toNat : Int) ≤ 122) = false := decide_eq_false h2
      have h7 : decide ((b.toNat : Int) ≤ 90) = false := decide_eq_false h4
      have h : isL b = false := by simp [isL]; omega
      rw [h]
      clear h
      go_enter Tryd.func65, Tryd.ntmps65
      go_wp2
      go_ret
      refine ⟨congrArg (fun x => Ending.returned (Value.bool x)) ?_, rfl⟩
      first | rfl | (simp only [h5, h6, h7]; rfl)
  · by_cases h3 : (65 : Int) ≤ b.toNat
    · by_cases h4 : (b.toNat : Int) ≤ 90
      · have h : isL b = true := by simp [isL]; omega
        rw [h]
        clear h
        go_enter Tryd.func65, Tryd.ntmps65
        go_wp2
        go_ret
        refine ⟨congrArg (fun x => Ending.returned (Value.bool x)) ?_, rfl⟩
        first | rfl | exact decide_eq_true (by omega) | exact decide_eq_false (by omega)
      · have h7 : decide ((b.toNat : Int) ≤ 90) = false := decide_eq_false h4
        have h : isL b = ((b.toNat : Int) == 95) := by
          by_cases h5 : b.toNat = 95
          · rw [h5, show isL b = true by simp [isL]; omega]; rfl
          · rw [show isL b = false by simp [isL]; omega]; symm; simp; omega
        rw [h]
        clear h
        go_enter Tryd.func65, Tryd.ntmps65
        go_wp2
        go_ret
        refine ⟨congrArg (fun x => Ending.returned (Value.bool x)) ?_, rfl⟩
        first | rfl | (simp only [h7]; rfl)
    · have h5 : ((b.toNat : Int) == 95) = false := by simp; omega
      have h : isL b = false := by simp [isL]; omega
      rw [h]
      clear h
      go_enter Tryd.func65, Tryd.ntmps65
      go_wp2
      go_ret
      refine ⟨congrArg (fun x => Ending.returned (Value.bool x)) ?_, rfl⟩
      first | rfl | exact h5


set_option maxHeartbeats 4000000 in
theorem rwords_yes (s : ByteArray) (w : World) (h : isW s.toList = true) :
    Calls Tryd.prog 51 #[.string s] w fun e w' => e = .returned (.bool true) ∧ Below w.heap.size w w' := by
  have hm : s.toList ∈ wordsL := List.contains_iff_mem.1 h
  unfold wordsL at hm
  simp only [List.mem_cons, List.not_mem_nil, or_false] at hm
  clear h
  rcases hm with e | e | e | e | e | e | e | e | e | e | e
  · have e2 := ba_of _ _ e
    clear e
    subst e2
    go_enter Tryd.func51, Tryd.ntmps51
    go_wp2
    go_rounds 3
    go_ret
    exact ⟨rfl, (Below.refl _ _).alloc (Nat.le_refl _) _⟩
  · have e2 := ba_of _ _ e
    clear e
    subst e2
    go_enter Tryd.func51, Tryd.ntmps51
    go_wp2
    go_rounds 2
    go_ret
    exact ⟨rfl, (Below.refl _ _).alloc (Nat.le_refl _) _⟩
  · have e2 := ba_of _ _ e
    clear e
    subst e2
    go_enter Tryd.func51, Tryd.ntmps51
    go_wp2
    go_rounds 6
    go_ret
    exact ⟨rfl, (Below.refl _ _).alloc (Nat.le_refl _) _⟩
  · have e2 := ba_of _ _ e
    clear e
    subst e2
    go_enter Tryd.func51, Tryd.ntmps51
    go_wp2
    go_rounds 11
    go_ret
    exact ⟨rfl, (Below.refl _ _).alloc (Nat.le_refl _) _⟩
  · have e2 := ba_of _ _ e
    clear e
    subst e2
    go_enter Tryd.func51, Tryd.ntmps51
    go_wp2
    go_rounds 7
    go_ret
    exact ⟨rfl, (Below.refl _ _).alloc (Nat.le_refl _) _⟩
  · have e2 := ba_of _ _ e
    clear e
    subst e2
    go_enter Tryd.func51, Tryd.ntmps51
    go_wp2
    go_rounds 8
    go_ret
    exact ⟨rfl, (Below.refl _ _).alloc (Nat.le_refl _) _⟩
  · have e2 := ba_of _ _ e
    clear e
    subst e2
    go_enter Tryd.func51, Tryd.ntmps51
    go_wp2
    go_rounds 9
    go_ret
    exact ⟨rfl, (Below.refl _ _).alloc (Nat.le_refl _) _⟩
  · have e2 := ba_of _ _ e
    clear e
    subst e2
    go_enter Tryd.func51, Tryd.ntmps51
    go_wp2
    go_rounds 10
    go_ret
    exact ⟨rfl, (Below.refl _ _).alloc (Nat.le_refl _) _⟩
  · have e2 := ba_of _ _ e
    clear e
    subst e2
    go_enter Tryd.func51, Tryd.ntmps51
    go_wp2
    go_rounds 1
    go_ret
    exact ⟨rfl, (Below.refl _ _).alloc (Nat.le_refl _) _⟩
  · have e2 := ba_of _ _ e
    clear e
    subst e2
    go_enter Tryd.func51, Tryd.ntmps51
    go_wp2
    go_rounds 4
    go_ret
    exact ⟨rfl, (Below.refl _ _).alloc (Nat.le_refl _) _⟩
  · have e2 := ba_of _ _ e
    clear e
    subst e2
    go_enter Tryd.func51, Tryd.ntmps51
    go_wp2
    go_rounds 5
    go_ret
    exact ⟨rfl, (Below.refl _ _).alloc (Nat.le_refl _) _⟩

set_option maxHeartbeats 4000000 in
theorem rwords_no (s : ByteArray) (w : World) (h : isW s.toList = false) :
    Calls Tryd.prog 51 #[.string s] w fun e w' => e = .returned (.bool false) ∧ Below w.heap.size w w' := by
  have hn : ∀ l, l ∈ wordsL → (l == s.toList) = false := by
    intro l hl
    rw [beq_eq_false_iff_ne]
    intro e
    have : isW s.toList = true := by rw [← e]; exact List.contains_iff_mem.2 hl
    rw [h] at this; cases this
  have t0 := hn [118, 97, 114] (by decide)
  have t1 := hn [105, 102] (by decide)
  have t2 := hn [101, 108, 115, 101] (by decide)
  have t3 := hn [119, 104, 105, 108, 101] (by decide)
  have t4 := hn [101, 109, 105, 116] (by decide)
  have t5 := hn [105, 110, 116, 111] (by decide)
  have t6 := hn [102, 97, 105, 108] (by decide)
  have t7 := hn [115, 116, 111, 112] (by decide)
  have t8 := hn [109] (by decide)
  have t9 := hn [109, 105, 110] (by decide)
  have t10 := hn [109, 97, 120] (by decide)
  clear hn h
  go_enter Tryd.func51, Tryd.ntmps51
  go_wp2
  go_rounds 12
  go_ret
  exact ⟨rfl, (Below.refl _ _).alloc (Nat.le_refl _) _⟩

theorem rwords_any (s : ByteArray) (w : World) :
    Calls Tryd.prog 51 #[.string s] w fun e w' => e = .returned (.bool (isW s.toList)) ∧ Below w.heap.size w w' := by
  rcases h : isW s.toList with _ | _
  · exact rwords_no s w h
  · exact rwords_yes s w h
/-- letters and digits alone, a letter ahead -/
def rowC (l : List UInt8) : Bool := !l.isEmpty && (!headD l && l.all isA)

set_option maxHeartbeats 2000000 in
theorem rrow_any (s : ByteArray) (hm : s.size ≤ maxLen) (w : World) :
    Calls Tryd.prog 50 #[.string s] w fun e w' => e = .returned (.bool (rowC s.data.toList)) ∧ w' = w := by
  unfold maxLen at hm
  have hl : s.data.toList.length = s.size := by simp
  by_cases h0 : s.size = 0
  · obtain rfl : s = ByteArray.empty := by apply ByteArray.ext; exact Array.eq_empty_of_size_eq_zero h0
    go_enter Tryd.func50, Tryd.ntmps50
    go_wp2
    go_rounds 1
    go_ret
    exact ⟨rfl, rfl⟩
  have hne' : s.data.toList.isEmpty = false := by
    rcases e : s.data.toList with _ | ⟨a, r⟩
    · rw [e] at hl; simp at hl; omega
    · rfl
  obtain ⟨r, hr⟩ : ∃ r, rowC s.data.toList = r := ⟨_, rfl⟩
  have hr2 : r = (!isD s[0] && s.data.toList.all isA) := by
    rw [← hr]; unfold rowC; rw [hne', head_at s (by omega)]; rfl
  have HR : Hid (r = (!isD s[0] && s.data.toList.all isA)) := hr2
  rw [hr]
  clear hr hr2 hne'
  go_enter Tryd.func50, Tryd.ntmps50
  go_wp2
  go_loop [3] (fun i => ∃ k : Nat, k ≤ s.size ∧ i = .int .i64 k ∧ Hid ((s.data.toList.take k).all isA = true) ∧ Hid (0 < k → isD s[0] = false)) (fun i => s.size - (intOf i).toNat)
  case atStart => exact ⟨0, Nat.zero_le _, rfl, rfl, fun h => absurd h (by omega)⟩
  case round =>
    obtain ⟨k, hk, rfl, HA, HH⟩ := hrel
    by_cases hlt : k < s.size
    · rcases hL : isL s[k] with _ | _
      · have HL : Hid (isL s[k] = false) := hL
        rcases hD : isD s[k] with _ | _
        · have HDk : Hid (isD s[k] = false) := hD
          have HF : Hid (r = false) := by
            show _ = _
            rw [HR.out, all_take_not s k hlt isA (by unfold isA; rw [hL, hD]; rfl)]; simp
          clear hL hD
          go_wp2_with (first | (go_at_call 65; refine (rletter_any s[k] _).mono ?_; rintro e w' ⟨rfl, rfl⟩; rw [HL.out]) | (go_at_call 66; refine (rdigit_any s[k] _).mono ?_; rintro e w' ⟨rfl, rfl⟩; rw [HDk.out]))
          go_ret
          exact ⟨by rw [HF.out]; rfl, rfl⟩
        · have HDk : Hid (isD s[k] = true) := hD
          by_cases hk0 : k = 0
          · subst hk0
            have HF : Hid (r = false) := by
              show _ = _
              rw [HR.out, hD]; rfl
            clear hL hD
            go_wp2_with (first | (go_at_call 65; refine (rletter_any s[0] _).mono ?_; rintro e w' ⟨rfl, rfl⟩; rw [HL.out]) | (go_at_call 66; refine (rdigit_any s[0] _).mono ?_; rintro e w' ⟨rfl, rfl⟩; rw [HDk.out]))
            go_ret
            exact ⟨by rw [HF.out]; rfl, rfl⟩
          · have HN : Hid ((s.data.toList.take (k + 1)).all isA = true) := all_take_snoc s k hlt isA HA.out (by unfold isA; rw [hD]; simp)
            have HH2 : Hid (0 < k + 1 → isD s[0] = false) := fun _ => HH.out (by omega)
            have hk1 : ((k : Int) == 0) = false := by simp; omega
            clear hL hD
            go_wp2_with (first | (go_at_call 65; refine (rletter_any s[k] _).mono ?_; rintro e w' ⟨rfl, rfl⟩; rw [HL.out]) | (go_at_call 66; refine (rdigit_any s[k] _).mono ?_; rintro e w' ⟨rfl, rfl⟩; rw [HDk.out]))
            go_round
            case rel => exact ⟨k + 1, by omega, by go_num, HN, HH2⟩
            case measure => simp [intOf]; omega
      · have HL : Hid (isL s[k] = true) := hL
        have HN : Hid ((s.data.toList.take (k + 1)).all isA = true) := all_take_snoc s k hlt isA HA.out (by unfold isA; rw [hL]; rfl)
        have HH2 : Hid (0 < k + 1 → isD s[0] = false) := by
          intro _
          by_cases hk0 : k = 0
          · subst hk0
            rw [Bool.eq_false_iff]
            intro hd
            simp [isL, isD] at hL hd
            omega
          · exact HH.out (by omega)
        clear hL
        go_wp2_with (first | (go_at_call 65; refine (rletter_any s[k] _).mono ?_; rintro e w' ⟨rfl, rfl⟩; rw [HL.out]))
        go_round
        case rel => exact ⟨k + 1, by omega, by go_num, HN, HH2⟩
        case measure => simp [intOf]; omega
    · have HF : Hid (r = true) := by
        show _ = _
        have := HA.out
        rw [List.take_of_length_le (by simp; omega)] at this
        rw [HR.out, this, HH.out (by omega)]; rfl
      have hpos : 0 < s.size := by omega
      go_wp2
      go_ret
      refine ⟨?_, rfl⟩
      rw [HF.out]
      first | rfl | (refine congrArg (fun x => Ending.returned (Value.bool x)) ?_; exact decide_eq_true (by omega))




set_option maxHeartbeats 1000000 in
theorem rname_any (s : ByteArray) (hm : s.size ≤ maxLen) (w : World) :
    Calls Tryd.prog 38 #[.string s] w fun e w' => e = .returned (.bool (nmB s.data.toList)) ∧ Below w.heap.size w w' := by
  have hl : s.data.toList.length = s.size := by simp
  have hm' := hm
  unfold maxLen at hm
  by_cases h12 : s.size ≤ 12
  · rcases hr : rowC s.data.toList with _ | _
    · have h : nmB s.data.toList = false := by
        unfold nmB
        unfold rowC at hr
        rw [Bool.and_eq_false_iff] at hr ⊢
        rcases hr with h | h
        · exact Or.inl h
        · right
          rw [hl, decide_eq_true h12, Bool.true_and]
          rcases hd : headD s.data.toList with _ | _
          · rw [hd] at h
            simp at h
            simp [h]
          · rfl
      have HRO : Hid (rowC s.data.toList = false) := hr
      rw [h]
      clear h hr
      go_enter Tryd.func38, Tryd.ntmps38
      go_wp2_with (go_at_call 50; refine (rrow_any s hm' _).mono ?_; rintro e w' ⟨rfl, hw⟩; rw [hw]; clear hw; rw [HRO.out])
      go_ret
      exact ⟨rfl, Below.refl _ _⟩
    · have h : nmB s.data.toList = !isW s.toList := by
        unfold nmB
        unfold rowC at hr
        rw [Bool.and_eq_true, Bool.and_eq_true] at hr
        rw [hr.1, hr.2.1, hr.2.2, hl, decide_eq_true h12, ByteArray.toList_eq]; rfl
      have HRO : Hid (rowC s.data.toList = true) := hr
      rw [h]
      clear h hr
      go_enter Tryd.func38, Tryd.ntmps38
      go_wp2_with (go_at_call 50; refine (rrow_any s hm' _).mono ?_; rintro e w' ⟨rfl, hw⟩; rw [hw]; clear hw; rw [HRO.out])
      refine (rwords_any s _).mono ?_
      rintro e w1 ⟨rfl, hb⟩
      have HB : Hid (Below w.heap.size w w1) := hb
      clear hb
      go_wp2
      go_ret
      exact ⟨rfl, HB.out⟩
  · have h : nmB s.data.toList = false := by
      unfold nmB
      rw [hl, decide_eq_false h12]; simp
    rw [h]
    clear h
    go_enter Tryd.func38, Tryd.ntmps38
    go_wp2
    go_ret
    exact ⟨rfl, Below.refl _ _⟩


end Go.Proofs.YtnofibjchhcmeabDoor
namespace Go.Proofs.YtnofibjchhcmeabDoor
open Go.RowKit Go.Maps
set_option linter.unusedVariables false
set_option linter.unusedSimpArgs false

theorem ok_1 (n : Int) (s : ByteArray) (p : Int) (m : Nat) : exprOk 1 n s p m = (decide (0 ≤ n) && (s.toList == []) && decide (p = 0) && decide (m = 0)) := by
  unfold exprOk exprB hasE nameF
  rw [Bool.eq_iff_iff]
  by_cases hs : s.toList = [] <;> simp [hs] <;> omega
theorem ok_2 (n : Int) (s : ByteArray) (p : Int) (m : Nat) : exprOk 2 n s p m = (decide (n = 0) && nmB s.data.toList && decide (p = 0) && decide (m = 0)) := by
  unfold exprOk exprB hasE nameF
  rw [Bool.eq_iff_iff]
  by_cases hs : nmB s.data.toList = true <;> simp [hs] <;> omega
theorem ok_3 (n : Int) (s : ByteArray) (p : Int) (m : Nat) : exprOk 3 n s p m = (decide (n = 0) && (s.toList == []) && decide (p = 0) && decide (m = 1)) := by
  unfold exprOk exprB hasE nameF
  rw [Bool.eq_iff_iff]
  by_cases hs : s.toList = [] <;> simp [hs] <;> omega
theorem ok_4 (n : Int) (s : ByteArray) (p : Int) (m : Nat) : exprOk 4 n s p m = (decide (n = 0) && (s.toList == []) && decide (19 ≤ p) && decide (p ≤ 21) && decide (m = 1)) := by
  unfold exprOk exprB hasE nameF
  rw [Bool.eq_iff_iff]
  by_cases hs : s.toList = [] <;> simp [hs] <;> omega
theorem ok_5 (n : Int) (s : ByteArray) (p : Int) (m : Nat) : exprOk 5 n s p m = (decide (n = 0) && (s.toList == []) && decide (1 ≤ p) && decide (p ≤ 18) && decide (m = 2)) := by
  unfold exprOk exprB hasE nameF
  rw [Bool.eq_iff_iff]
  by_cases hs : s.toList = [] <;> simp [hs] <;> omega
theorem ok_no (k n : Int) (s : ByteArray) (p : Int) (m : Nat) (hk : k < 1 ∨ 5 < k) : exprOk k n s p m = false := by
  unfold exprOk; rw [Bool.and_eq_false_iff]; left; simp; omega

/-- what Deep answers -/
def dpC (l : EL) : Nat := if 100 ≤ dpE l then 100 else dpE l + 1
def DeepC (l : EL) : Prop := ∀ (k n : Int) (s : ByteArray) (p : Int) (ad : Option Addr) (cap : Nat) (w : World), ESx w (.slice ad (elen l) cap) l → Calls Tryd.prog 39 #[.agg #[.int .i64 k, .int .i64 n, .string s, .int .i64 p, .slice ad (elen l) cap]] w fun e w' => e = .returned (.int .i64 ((dpC l : Nat) : Int)) ∧ Below w.heap.size w w'
/-- the greatest of those so far, of all: as far as 100 -/
def dpM (x : Nat) (r : EL) : Nat := max x (min 100 (dpE r))
theorem dpM_next (x : Nat) (i : Nat) (d : Int × Int × ByteArray × Int) (u : Unit) (a r : EL) (hx : x ≤ 100) : dpM x (.inner i d u a r) = dpM (max x (dpC a)) r := by
  unfold dpM dpC
  simp only [dpE]
  split <;> omega
theorem dpC_of (l : EL) (m : Nat) (h : m = min 100 (dpE l)) : dpC l = if 100 ≤ m then 100 else m + 1 := by
  unfold dpC; subst h; split <;> split <;> omega

set_option maxRecDepth 100000 in
set_option maxHeartbeats 2000000 in
theorem deep_any : ∀ (N : Nat) (l : EL), ecnt l ≤ N → ecnt l ≤ 1000000000 → DeepC l := by
  intro N
  induction N with
  | zero =>
    intro l hN h9 k n s p ad cap w hE
    have : l = .leaf := by cases l with
      | leaf => rfl
      | inner i d u a r => simp only [ecnt] at hN; omega
    subst this
    go_enter Tryd.func39, Tryd.ntmps39
    go_wp2
    go_rounds 1
    go_ret
    exact ⟨rfl, (Below.refl _ _).alloc (Nat.le_refl _) _⟩
  | succ N ih =>
    intro l hN h9 k n s p ad cap w hE
    obtain ⟨ad', cap', b, o, e0, h1, h2, h3, h4⟩ := hE
    cases e0
    have HI : Hid (∀ l : EL, ecnt l ≤ N → ecnt l ≤ 1000000000 → DeepC l) := ih
    have HE0 : Hid (EAx w l b o) := h4
    obtain ⟨m, hm⟩ : ∃ m, elen l = m := ⟨_, rfl⟩
    have HLM : Hid (elen l = m) := hm
    obtain ⟨R, hR⟩ : ∃ R, dpC l = R := ⟨_, rfl⟩
    have HR : Hid (∀ x, dpM 0 l = x → R = if 100 ≤ x then 100 else x + 1) := fun x hx => by rw [← hR]; exact dpC_of l x (by rw [← hx]; unfold dpM; omega)
    rw [hm] at h1 h3 ⊢
    rw [hR]
    have hm9 : m ≤ 1000000000 := by have := elen_le l; omega
    have HN : Hid (ecnt l ≤ N + 1) := hN
    have H9 : Hid (ecnt l ≤ 1000000000) := h9
    clear ih h4 hm hN hR h9
    unfold maxLen at h2
    have HBX : Hid (∀ o, Below w.heap.size w (w.alloc o)) := fun o => (Below.refl _ _).alloc (Nat.le_refl _) o
    go_enter Tryd.func39, Tryd.ntmps39
    go_wp2
    go_loopw [3, 4] (fun t i wr => ∃ (j x : Nat) (r : EL), j ≤ m ∧ x ≤ 100 ∧ i = .int .i64 (j : Int) ∧ t = .int .i64 (x : Int) ∧ Hid (j + elen r = m) ∧ Hid (EAx w r b (o + 5 * j)) ∧ Hid (dpM 0 l = dpM x r) ∧ Hid (ecnt r ≤ N + 1 ∧ ecnt r ≤ 1000000000) ∧ Hid (Below (w.heap.size + 1) (w.alloc (.cells #[.int .i64 k, .int .i64 n, .string s, .int .i64 p, .slice ad m cap] 42)) wr)) (fun _ i _ => m - (intOf i).toNat)
    case atStart => exact ⟨0, 0, l, Nat.zero_le _, by omega, rfl, rfl, by show _ = _; rw [Nat.zero_add]; exact HLM.out, HE0, rfl, ⟨HN.out, H9.out⟩, Below.refl _ _⟩
    case round =>
      obtain ⟨j, x, r, hj, hx9, rfl, rfl, HJ, HE, HX, HQ, HB⟩ := hrel
      have HBw : Hid (Below w.heap.size w wr) := (HBX.out _).trans (HB.out.mono (Nat.le_succ _))
      have F0 := (Five.new w (.int .i64 k) (.int .i64 n) (.string s) (.int .i64 p) (.slice ad m cap) 42).keep (HB.out.block w.heap.size (Nat.lt_succ_self _))
      have y4 := F0.c4
      have hsw : w.heap.size < wr.heap.size := by have := HB.out.size; simp at this; omega
      clear F0
      by_cases hlt : j < m
      · have e0 := (h3 (by omega)).1
        subst e0
        cases r with
        | leaf => have := HJ.out; simp only [elen] at this; omega
        | inner i0 d0 u0 a r =>
          obtain ⟨kd, nm, s', p'⟩ := d0
          obtain ⟨ad2, cap2, hrd, hsl, hrest⟩ := EAx.read HE.out HBw.out
          rw [Nat.mul_comm 5 j] at hrd
          obtain ⟨z0, z1, z2, z3, z4, z5⟩ := hrd
          have HSl : Hid (ESx wr (.slice ad2 (elen a) cap2) a) := hsl
          have HRest : Hid (EAx w r b (o + 5 * (j + 1))) := by rw [show o + 5 * (j + 1) = o + 5 * j + 5 by omega]; exact hrest
          have HC : Hid (DeepC a) := HI.out a (by have := HQ.out.1; simp only [ecnt] at this; omega) (by have := HQ.out.2; simp only [ecnt] at this; omega)
          have hda : dpC a ≤ 100 := by unfold dpC; split <;> omega
          have HX2 : Hid (dpM 0 l = dpM (max x (dpC a)) r) := HX.out.trans (dpM_next x _ _ _ _ _ hx9)
          have HQ2 : Hid (ecnt r ≤ N + 1 ∧ ecnt r ≤ 1000000000) := by have := HQ.out; simp only [ecnt] at this; exact ⟨by omega, by omega⟩
          obtain ⟨y, hy⟩ : ∃ y, dpC a = y := ⟨_, rfl⟩
          have HY : Hid (dpC a = y) := hy
          rw [hy] at hda HX2
          clear hsl hrest hy
          go_wp2_with fail
          refine (HC.out kd nm s' p' ad2 cap2 wr HSl.out).mono ?_
          rintro e w2 ⟨rfl, hb2⟩
          rw [HY.out]
          have HB2 : Hid _ := HB.out.trans (hb2.mono hsw)
          clear hb2
          by_cases hgt : x < y
          · rw [Nat.max_eq_right (by omega)] at HX2
            go_wp2
            go_roundw
            case rel => exact ⟨j + 1, y, r, by omega, hda, by go_num, rfl, by have := HJ.out; simp only [elen] at this; show _ = _; omega, HRest, HX2, HQ2, HB2⟩
            case measure => simp [intOf]; omega
          · rw [Nat.max_eq_left (by omega)] at HX2
            go_wp2
            go_roundw
            case rel => exact ⟨j + 1, x, r, by omega, hx9, by go_num, rfl, by have := HJ.out; simp only [elen] at this; show _ = _; omega, HRest, HX2, HQ2, HB2⟩
            case measure => simp [intOf]; omega
      · have hr : r = .leaf := by cases r with
          | leaf => rfl
          | inner i0 d0 u0 a r => have := HJ.out; simp only [elen] at this; omega
        subst hr
        have HXX : Hid (R = if 100 ≤ x then 100 else x + 1) := HR.out x (by rw [HX.out]; unfold dpM; simp [dpE])
        by_cases h100 : 100 ≤ x
        · go_wp2
          go_ret
          exact ⟨ret_i (by rw [HXX.out, if_pos h100]; rfl), HBw.out⟩
        · go_wp2
          go_ret
          exact ⟨ret_i (by rw [HXX.out, if_neg h100]; omega), HBw.out⟩
end Go.Proofs.YtnofibjchhcmeabDoor
