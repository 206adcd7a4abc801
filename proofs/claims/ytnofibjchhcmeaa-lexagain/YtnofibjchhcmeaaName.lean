/- What lex.Name answers; and the law's own look at some texts. -/
import Derived.Test.YtnofibjchhcmeaaCut
namespace Go.Proofs.Ytnofibjchhcmeaa
open Go.RowKit
set_option linter.unusedVariables false

/-- is it a name? -/
def headD : List UInt8 → Bool
  | [] => false
  | b :: _ => isD b
def nmB (l : List UInt8) : Bool := !l.isEmpty && (decide (l.length ≤ 12) && (!headD l && (l.all isA && !isW l)))

theorem all_take_snoc (s : ByteArray) (k : Nat) (h : k < s.size) (P : UInt8 → Bool) (ha : (s.data.toList.take k).all P = true) (h1 : P s[k] = true) : (s.data.toList.take (k + 1)).all P = true := by
  rw [take_snoc s k h, List.all_append, ha]
  simp [h1]
theorem all_take_not (s : ByteArray) (k : Nat) (h : k < s.size) (P : UInt8 → Bool) (h1 : P s[k] = false) : s.data.toList.all P = false := by
  have hm : s[k] ∈ s.data.toList := List.getElem_mem (l := s.data.toList) (n := k) (by simpa using h)
  rw [Bool.eq_false_iff]
  intro hall
  have := List.all_eq_true.1 hall _ hm
  rw [h1] at this; cases this
theorem head_at (s : ByteArray) (h : 0 < s.size) : headD s.data.toList = isD s[0] := by
  have : s.data.toList = s[0] :: s.data.toList.drop 1 := List.drop_eq_getElem_cons (l := s.data.toList) (i := 0) (by simpa using h)
  rw [this]; rfl

set_option maxHeartbeats 1000000 in
theorem name_any (s : ByteArray) (hm : s.size ≤ maxLen) (w : World) :
    Calls Try.prog 12 #[.string s] w fun e w' => e = .returned (.bool (nmB s.data.toList)) ∧ w' = w := by
  unfold maxLen at hm
  have hl : s.data.toList.length = s.size := by simp
  by_cases h0 : s.size = 0
  · obtain rfl : s = ByteArray.empty := by apply ByteArray.ext; exact Array.eq_empty_of_size_eq_zero h0
    go_enter Try.func12, Try.ntmps12
    go_wp2
    go_ret
    exact ⟨rfl, rfl⟩
  have hne : s.toList.isEmpty = false := by
    rw [ByteArray.toList_eq]
    rcases e : s.data.toList with _ | ⟨a, r⟩
    · rw [e] at hl; simp at hl; omega
    · rfl
  have hne' : s.data.toList.isEmpty = false := by rw [← ByteArray.toList_eq]; exact hne
  by_cases h12 : 12 < s.size
  · have h : nmB s.data.toList = false := by
      unfold nmB
      rw [hne', hl, decide_eq_false (by omega)]; rfl
    rw [h]
    clear h
    go_enter Try.func12, Try.ntmps12
    go_wp2
    go_ret
    exact ⟨rfl, rfl⟩
  have h : nmB s.data.toList = (!isD s[0] && (s.data.toList.all isA && !isW s.data.toList)) := by
    unfold nmB
    rw [hne', hl, decide_eq_true (by omega), head_at s (by omega)]; rfl
  rw [h]
  clear h hne'
  rcases hd : isD s[0] with _ | _
  · have HD : Hid (isD s[0] = false) := hd
    show Calls Try.prog 12 #[.string s] w fun e w' => e = .returned (.bool (s.data.toList.all isA && !isW s.data.toList)) ∧ w' = w
    obtain ⟨r, hr⟩ : ∃ r, (s.data.toList.all isA && !isW s.data.toList) = r := ⟨_, rfl⟩
    have HR : Hid ((s.data.toList.all isA && !isW s.data.toList) = r) := hr
    rw [hr]
    clear hr hd
    go_enter Try.func12, Try.ntmps12
    go_wp2_with (go_at_call 26; refine (isDigit_any s[0] _).mono ?_; rintro e w' ⟨rfl, rfl⟩; rw [HD.out])
    go_loop [18] (fun i => ∃ k : Nat, k ≤ s.size ∧ i = .int .i64 k ∧ Hid ((s.data.toList.take k).all isA = true)) (fun i => s.size - (intOf i).toNat)
    case atStart => exact ⟨0, Nat.zero_le _, rfl, rfl⟩
    case round =>
      obtain ⟨k, hk, rfl, HA⟩ := hrel
      by_cases hlt : k < s.size
      · rcases hL : isL s[k] with _ | _
        · have HL : Hid (isL s[k] = false) := hL
          rcases hD : isD s[k] with _ | _
          · have HDk : Hid (isD s[k] = false) := hD
            have HF : Hid (r = false) := by
              show _ = _
              rw [← HR.out, all_take_not s k hlt isA (by unfold isA; rw [hL, hD]; rfl)]; rfl
            clear hL hD
            go_wp2_with (first | (go_at_call 27; refine (isLetter_any s[k] _).mono ?_; rintro e w' ⟨rfl, rfl⟩; rw [HL.out]) | (go_at_call 26; refine (isDigit_any s[k] _).mono ?_; rintro e w' ⟨rfl, rfl⟩; rw [HDk.out]))
            go_ret
            exact ⟨by rw [HF.out]; rfl, rfl⟩
          · have HDk : Hid (isD s[k] = true) := hD
            have HN : Hid ((s.data.toList.take (k + 1)).all isA = true) := all_take_snoc s k hlt isA HA.out (by unfold isA; rw [hD]; simp)
            clear hL hD
            go_wp2_with (first | (go_at_call 27; refine (isLetter_any s[k] _).mono ?_; rintro e w' ⟨rfl, rfl⟩; rw [HL.out]) | (go_at_call 26; refine (isDigit_any s[k] _).mono ?_; rintro e w' ⟨rfl, rfl⟩; rw [HDk.out]))
            go_round
            case rel => exact ⟨k + 1, by omega, by go_num, HN⟩
            case measure => simp [intOf]; omega
        · have HL : Hid (isL s[k] = true) := hL
          have HN : Hid ((s.data.toList.take (k + 1)).all isA = true) := all_take_snoc s k hlt isA HA.out (by unfold isA; rw [hL]; rfl)
          clear hL
          go_wp2_with (first | (go_at_call 27; refine (isLetter_any s[k] _).mono ?_; rintro e w' ⟨rfl, rfl⟩; rw [HL.out]))
          go_round
          case rel => exact ⟨k + 1, by omega, by go_num, HN⟩
          case measure => simp [intOf]; omega
      · have HF : Hid (r = !isW s.toList) := by
          show _ = _
          have := HA.out
          rw [List.take_of_length_le (by simp; omega)] at this
          rw [← HR.out, this, ByteArray.toList_eq]; rfl
        go_wp2_with (go_at_call 14; refine (words_any s _).mono ?_; rintro e w' ⟨rfl, rfl⟩)
        go_ret
        exact ⟨by rw [HF.out]; rfl, rfl⟩
  · have HD : Hid (isD s[0] = true) := hd
    show Calls Try.prog 12 #[.string s] w fun e w' => e = .returned (.bool false) ∧ w' = w
    clear hd
    go_enter Try.func12, Try.ntmps12
    go_wp2_with (go_at_call 26; refine (isDigit_any s[0] _).mono ?_; rintro e w' ⟨rfl, rfl⟩; rw [HD.out])
    go_ret
    exact ⟨rfl, rfl⟩

/-- tokens that are read -/
theorem TOwn.read {w : World} {base : Nat} {v : Value} {l : List Tok} (h : TOwn w base v l) (hne : l ≠ []) : ∃ g cap, v = .slice (some ⟨g, 0, none⟩) l.length cap ∧ l.length ≤ cap ∧ cap ≤ maxLen ∧ base ≤ g ∧ g < w.heap.size ∧ ∀ i (hi : i < l.length), w.cell? ⟨g, i * 4, none⟩ = some (.int .i64 l[i].kind) ∧ w.cell? ⟨g, i * 4 + 1, none⟩ = some (.string ⟨l[i].text.toArray⟩) ∧ w.cell? ⟨g, i * 4 + 2, none⟩ = some (.int .i64 l[i].num) ∧ w.cell? ⟨g, i * 4 + 3, none⟩ = some (.int .i64 (l[i].pos : Int)) := by
  have hlt := World.ownsRow.lt h
  have hce := fun g => World.ownsRow.cells h (g := g)
  obtain ⟨h1, h2⟩ := h
  rcases h2 with ⟨h2, h3⟩ | ⟨g, cap, cur, e1, e2, e3, e4, e5, e6, e7⟩
  · exact absurd (List.eq_nil_of_length_eq_zero h3) hne
  · have hg := hlt g (by rw [e1]; rfl)
    refine ⟨g, cap, e1, e4, e5, e2, hg.2, fun i hi => ?_⟩
    have key : ∀ (l : List Tok) (i : Nat) (hi : i < l.length) (j : Nat) (u : Value), (tc l[i])[j]? = some u → (tcs l)[i * 4 + j]? = some u := by
      intro l
      induction l with
      | nil => intro i hi; simp at hi
      | cons t l ih =>
        intro i hi j u hj
        cases i with
        | zero =>
          simp only [Nat.zero_mul, Nat.zero_add, tcs]
          have hj' : j < (tc t).length := by
            rcases Nat.lt_or_ge j (tc t).length with h | h
            · exact h
            · rw [List.getElem_cons_zero, List.getElem?_eq_none h] at hj; cases hj
          rw [List.getElem?_append_left hj']; exact hj
        | succ i =>
          have := ih i (by simpa using hi) j u (by simpa using hj)
          simp only [tcs]
          rw [List.getElem?_append_right (by simp [tc]; omega)]
          rw [← this]
          congr 1
          simp [tc]; omega
    have rd : ∀ (j : Nat) (u : Value), (tc l[i])[j]? = some u → w.cell? ⟨g, i * 4 + j, none⟩ = some u := by
      intro j u hj
      have := hce g (by rw [e1]; rfl) (i * 4 + j) u (key l i hi j u hj)
      rw [← this]
      congr 1
      unfold Addr.add
      split <;> simp_all
    exact ⟨rd 0 _ rfl, rd 1 _ rfl, rd 2 _ rfl, rd 3 _ rfl⟩

theorem cut_a : cut [120, 61, 49, 50, 59] = .ok [⟨2, [120], 0, 0⟩, ⟨4, [61], 0, 1⟩, ⟨1, [49, 50], 12, 2⟩, ⟨4, [59], 0, 4⟩, ⟨0, [], 0, 5⟩] := by decide
theorem cut_b : cut [97, 32, 36] = .err 2 31 := by decide

set_option maxRecDepth 100000 in
set_option maxHeartbeats 2000000 in
theorem alive_any (w : World) : Calls Try.prog 11 #[] w fun e w' => e = .returned (.bool true) ∧ Below w.heap.size w w' := by
  have n1 : ∀ w : World, Calls Try.prog 12 #[.string ⟨#[97, 98, 99]⟩] w fun e w' => e = .returned (.bool true) ∧ w' = w := by
    intro w
    have h := name_any ⟨#[97, 98, 99]⟩ (by unfold maxLen; decide) w
    rw [show nmB (⟨#[97, 98, 99]⟩ : ByteArray).data.toList = true by decide] at h
    exact h
  have n2 : ∀ w : World, Calls Try.prog 12 #[.string ⟨#[109, 105, 110]⟩] w fun e w' => e = .returned (.bool false) ∧ w' = w := by
    intro w
    have h := name_any ⟨#[109, 105, 110]⟩ (by unfold maxLen; decide) w
    rw [show nmB (⟨#[109, 105, 110]⟩ : ByteArray).data.toList = false by decide] at h
    exact h
  have n3 : ∀ w : World, Calls Try.prog 14 #[.string ⟨#[109, 105, 110]⟩] w fun e w' => e = .returned (.bool true) ∧ w' = w := fun w => words_yes ⟨#[109, 105, 110]⟩ w (by rw [ByteArray.toList_eq]; decide)
  have N1 : Hid (∀ w : World, Calls Try.prog 12 #[.string ⟨#[97, 98, 99]⟩] w fun e w' => e = .returned (.bool true) ∧ w' = w) := n1
  have N2 : Hid (∀ w : World, Calls Try.prog 12 #[.string ⟨#[109, 105, 110]⟩] w fun e w' => e = .returned (.bool false) ∧ w' = w) := n2
  have N3 : Hid (∀ w : World, Calls Try.prog 14 #[.string ⟨#[109, 105, 110]⟩] w fun e w' => e = .returned (.bool true) ∧ w' = w) := n3
  clear n1 n2 n3
  go_enter Try.func11, Try.ntmps11
  go_wp2_with fail
  refine (cut_any ⟨#[120, 61, 49, 50, 59]⟩ w (by unfold maxLen; decide)).mono ?_
  rw [show (⟨#[120, 61, 49, 50, 59]⟩ : ByteArray).data.toList = [120, 61, 49, 50, 59] from rfl, cut_a]
  rintro e w1 ⟨v, rfl, hto, hb1⟩
  obtain ⟨g, cap, rfl, hc1, hc2, hg1, hg2, hcell⟩ := hto.read (by simp)
  have k2 := hcell 2 (by decide)
  have HB1 : Hid (Below w.heap.size w w1) := hb1
  clear hto hb1 hcell
  simp only [List.length_cons, List.length_nil] at hc1 ⊢
  go_wp2_with fail
  refine (cut_any ⟨#[97, 32, 36]⟩ w1 (by unfold maxLen; decide)).mono ?_
  rw [show (⟨#[97, 32, 36]⟩ : ByteArray).data.toList = [97, 32, 36] from rfl, cut_b]
  rintro e w2 ⟨rfl, hb2⟩
  have HB2 : Hid (Below w.heap.size w w2) := HB1.out.trans (hb2.mono HB1.out.size)
  have d0 : w2.cell? ⟨g, 8, none⟩ = some (.int .i64 1) := (hb2.cell (p := ⟨g, 8, none⟩) hg2).trans k2.1
  have d1 : w2.cell? ⟨g, 9, none⟩ = some (.string ⟨#[49, 50]⟩) := (hb2.cell (p := ⟨g, 9, none⟩) hg2).trans k2.2.1
  have d2 : w2.cell? ⟨g, 10, none⟩ = some (.int .i64 12) := (hb2.cell (p := ⟨g, 10, none⟩) hg2).trans k2.2.2.1
  have d3 : w2.cell? ⟨g, 11, none⟩ = some (.int .i64 2) := (hb2.cell (p := ⟨g, 11, none⟩) hg2).trans k2.2.2.2
  clear hb2 k2
  go_wp2_with fail
  refine (N1.out _).mono ?_
  rintro e w' ⟨rfl, rfl⟩
  go_wp2_with fail
  refine (N2.out _).mono ?_
  rintro e w' ⟨rfl, rfl⟩
  go_wp2_with fail
  refine (N3.out _).mono ?_
  rintro e w' ⟨rfl, rfl⟩
  go_wp2
  go_ret
  exact ⟨rfl, HB2.out⟩
end Go.Proofs.Ytnofibjchhcmeaa
