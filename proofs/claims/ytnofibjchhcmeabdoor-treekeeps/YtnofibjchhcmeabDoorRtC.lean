/- Has an expression, a statement what its kind says? -/
import Derived.Test.YtnofibjchhcmeabDoorLChars
import Derived.Test.YtnofibjchhcmeabDoorNd
import Derived.Deep.RegionHeld3
namespace Go.Proofs.YtnofibjchhcmeabDoor
open Go.RowKit
set_option linter.unusedVariables false

/-- is it a name? -/
def headD : List UInt8 → Bool
  | [] => false
  | b :: _ => isD b
def nmB (l : List UInt8) : Bool := !l.isEmpty && (decide (l.length ≤ 12) && (!headD l && (l.all isA && !isW l)))

theorem all_take_snoc (s : ByteArray) (k : Nat) (h : k < s.size) (P : UInt8 → Bool) (ha : (s.data.toList.take k).all P = true) (h1 : P s[k] = true) : (s.data.toList.take (k + 1)).all P = true := by
  rw [take_snoc s k h, List.all_append, ha]
  simp [h1]
theorem all_take_not (s : ByteArray) (k : Nat) (h : k < s.size) (P : UInt8 → Bool) (h1 : P s[k] = false) : s.data.toList.all P = false := by
  have hm : s[k] ∈ s.data.toList := List.getElem_mem (l := s.data.toList) (n := k) (by simpa using h)
  rw [Bool.eq_false_iff]
  intro hall
  have := List.all_eq_true.1 hall _ hm
  rw [h1] at this; cases this
theorem head_at (s : ByteArray) (h : 0 < s.size) : headD s.data.toList = isD s[0] := by
  have : s.data.toList = s[0] :: s.data.toList.drop 1 := List.drop_eq_getElem_cons (l := s.data.toList) (i := 0) (by simpa using h)
  rw [this]; rfl

set_option maxHeartbeats 1000000 in
theorem name_any (s : ByteArray) (hm : s.size ≤ maxLen) (w : World) :
    Calls Tryd.prog 64 #[.string s] w fun e w' => e = .returned (.bool (nmB s.data.toList)) ∧ w' = w := by
  unfold maxLen at hm
  have hl : s.data.toList.length = s.size := by simp
  by_cases h0 : s.size = 0
  · obtain rfl : s = ByteArray.empty := by apply ByteArray.ext; exact Array.eq_empty_of_size_eq_zero h0
    go_enter Tryd.func64, Tryd.ntmps64
    go_wp2
    go_ret
    exact ⟨rfl, rfl⟩
  have hne : s.toList.isEmpty = false := by
    rw [ByteArray.toList_eq]
    rcases e : s.data.toList with _ | ⟨a, r⟩
    · rw [e] at hl; simp at hl; omega
    · rfl
  have hne' : s.data.toList.isEmpty = false := by rw [← ByteArray.toList_eq]; exact hne
  by_cases h12 : 12 < s.size
  · have h : nmB s.data.toList = false := by
      unfold nmB
      rw [hne', hl, decide_eq_false (by omega)]; rfl
    rw [h]
    clear h
    go_enter Tryd.func64, Tryd.ntmps64
    go_wp2
    go_ret
    exact ⟨rfl, rfl⟩
  have h : nmB s.data.toList = (!isD s[0] && (s.data.toList.all isA && !isW s.data.toList)) := by
    unfold nmB
    rw [hne', hl, decide_eq_true (by omega), head_at s (by omega)]; rfl
  rw [h]
  clear h hne'
  rcases hd : isD s[0] with _ | _
  · have HD : Hid (isD s[0] = false) := hd
    show Calls Tryd.prog 64 #[.string s] w fun e w' => e = .returned (.bool (s.data.toList.all isA && !isW s.data.toList)) ∧ w' = w
    obtain ⟨r, hr⟩ : ∃ r, (s.data.toList.all isA && !isW s.data.toList) = r := ⟨_, rfl⟩
    have HR : Hid ((s.data.toList.all isA && !isW s.data.toList) = r) := hr
    rw [hr]
    clear hr hd
    go_enter Tryd.func64, Tryd.ntmps64
    go_wp2_with (go_at_call 70; refine (isDigit_any s[0] _).mono ?_; rintro e w' ⟨rfl, rfl⟩; rw [HD.out])
    go_loop [18] (fun i => ∃ k : Nat, k ≤ s.size ∧ i = .int .i64 k ∧ Hid ((s.data.toList.take k).all isA = true)) (fun i => s.size - (intOf i).toNat)
    case atStart => exact ⟨0, Nat.zero_le _, rfl, rfl⟩
    case round =>
      obtain ⟨k, hk, rfl, HA⟩ := hrel
      by_cases hlt : k < s.size
      · rcases hL : isL s[k] with _ | _
        · have HL : Hid (isL s[k] = false) := hL
          rcases hD : isD s[k] with _ | _
          · have HDk : Hid (isD s[k] = false) := hD
            have HF : Hid (r = false) := by
              show _ = _
              rw [← HR.out, all_take_not s k hlt isA (by unfold isA; rw [hL, hD]; rfl)]; rfl
            clear hL hD
            go_wp2_with (first | (go_at_call 72; refine (isLetter_any s[k] _).mono ?_; rintro e w' ⟨rfl, rfl⟩; rw [HL.out]) | (go_at_call 70; refine (isDigit_any s[k] _).mono ?_; rintro e w' ⟨rfl, rfl⟩; rw [HDk.out]))
            go_ret
            exact ⟨by rw [HF.out]; rfl, rfl⟩
          · have HDk : Hid (isD s[k] = true) := hD
            have HN : Hid ((s.data.toList.take (k + 1)).all isA = true) := all_take_snoc s k hlt isA HA.out (by unfold isA; rw [hD]; simp)
            clear hL hD
            go_wp2_with (first | (go_at_call 72; refine (isLetter_any s[k] _).mono ?_; rintro e w' ⟨rfl, rfl⟩; rw [HL.out]) | (go_at_call 70; refine (isDigit_any s[k] _).mono ?_; rintro e w' ⟨rfl, rfl⟩; rw [HDk.out]))
            go_round
            case rel => exact ⟨k + 1, by omega, by go_num, HN⟩
            case measure => simp [intOf]; omega
        · have HL : Hid (isL s[k] = true) := hL
          have HN : Hid ((s.data.toList.take (k + 1)).all isA = true) := all_take_snoc s k hlt isA HA.out (by unfold isA; rw [hL]; rfl)
          clear hL
          go_wp2_with (first | (go_at_call 72; refine (isLetter_any s[k] _).mono ?_; rintro e w' ⟨rfl, rfl⟩; rw [HL.out]))
          go_round
          case rel => exact ⟨k + 1, by omega, by go_num, HN⟩
          case measure => simp [intOf]; omega
      · have HF : Hid (r = !isW s.toList) := by
          show _ = _
          have := HA.out
          rw [List.take_of_length_le (by simp; omega)] at this
          rw [← HR.out, this, ByteArray.toList_eq]; rfl
        go_wp2_with (go_at_call 86; refine (words_any s _).mono ?_; rintro e w' ⟨rfl, rfl⟩)
        go_ret
        exact ⟨by rw [HF.out]; rfl, rfl⟩
  · have HD : Hid (isD s[0] = true) := hd
    show Calls Tryd.prog 64 #[.string s] w fun e w' => e = .returned (.bool false) ∧ w' = w
    clear hd
    go_enter Tryd.func64, Tryd.ntmps64
    go_wp2_with (go_at_call 70; refine (isDigit_any s[0] _).mono ?_; rintro e w' ⟨rfl, rfl⟩; rw [HD.out])
    go_ret
    exact ⟨rfl, rfl⟩

end Go.Proofs.YtnofibjchhcmeabDoor
namespace Go.Proofs.YtnofibjchhcmeabDoor
open Go.RowKit Go.Maps
set_option linter.unusedVariables false

def eqE : EL → EL → Bool
  | .leaf, .leaf => true
  | .inner _ (k, n, s, p) _ a r, .inner _ (k', n', s', p') _ a' r' => decide (k = k') && decide (n = n') && decide (s = s') && decide (p = p') && eqE a a' && eqE r r'
  | .leaf, .inner .. => false
  | .inner .., .leaf => false
theorem eqE_len (l : EL) : ∀ l', eqE l l' = true → elen l = elen l' := by
  induction l with
  | leaf => intro l' h; cases l' with
    | leaf => rfl
    | inner => simp [eqE] at h
  | inner i d v a r _ ih =>
    obtain ⟨k, n, s, p⟩ := d
    intro l' h
    cases l' with
    | leaf => simp [eqE] at h
    | inner i' d' v' a' r' =>
      obtain ⟨k', n', s', p'⟩ := d'
      simp only [eqE, Bool.and_eq_true] at h
      simp only [elen]
      rw [ih r' h.2]
theorem eqE_refl (l : EL) : eqE l l = true := by
  induction l with
  | leaf => rfl
  | inner i d v a r iha ihr => obtain ⟨k, n, s, p⟩ := d; simp [eqE, iha, ihr]
def eqS : SL → SL → Bool
  | .leaf, .leaf => true
  | .leaf, .inner .. => false
  | .inner .., .leaf => false
  | .inner _ (k, s, c, a) _ .leaf r, .inner _ (k', s', c', a') _ x' r' => decide (k = k') && decide (s = s') && decide (c = c') && eqE a a' && decide (slen (slft x') = 0) && decide (slen (srgt x') = 0) && eqS r r'
  | .inner _ (k, s, c, a) _ (.inner _ _ _ d e) r, .inner _ (k', s', c', a') _ x' r' => decide (k = k') && decide (s = s') && decide (c = c') && eqE a a' && eqS d (slft x') && eqS e (srgt x') && eqS r r'
theorem eqS_leaf (l : SL) : eqS .leaf l = decide (slen l = 0) := by
  cases l with
  | leaf => rfl
  | inner => simp [eqS, slen]
theorem eqS_inner (i i' : Nat) (k k' : Int) (s s' : ByteArray) (c c' : Int) (a a' : EL) (v v' : Unit) (x x' r r' : SL) : eqS (.inner i (k, s, c, a) v x r) (.inner i' (k', s', c', a') v' x' r') = (decide (k = k') && decide (s = s') && decide (c = c') && eqE a a' && eqS (slft x) (slft x') && eqS (srgt x) (srgt x') && eqS r r') := by
  cases x with
  | leaf => show eqS _ _ = (_ && _ && _ && _ && eqS .leaf _ && eqS .leaf _ && _); rw [eqS_leaf, eqS_leaf]; rfl
  | inner => rfl
theorem eqS_len (l : SL) : ∀ l', eqS l l' = true → slen l = slen l' := by
  induction l with
  | leaf => intro l' h; rw [eqS_leaf] at h; exact (of_decide_eq_true h).symm
  | inner i d v a r _ ih =>
    obtain ⟨k, s, c, e⟩ := d
    intro l' h
    cases l' with
    | leaf => cases a <;> simp [eqS] at h
    | inner i' d' v' a' r' =>
      obtain ⟨k', s', c', e'⟩ := d'
      rw [eqS_inner] at h
      simp only [Bool.and_eq_true] at h
      simp only [slen]
      rw [ih r' h.2]
theorem eqS_refl (l : SL) : eqS l l = true := by
  induction l using sl_ind with
  | h0 => rfl
  | h1 i d v x r ihl ihr ih => obtain ⟨k, s, c, a⟩ := d; rw [eqS_inner, ihl, ihr, ih, eqE_refl]; simp
def QB (w : World) (x : Bool) (e : Ending) (w' : World) : Prop := e = .returned (.bool x) ∧ Below w.heap.size w w'
end Go.Proofs.YtnofibjchhcmeabDoor
namespace Go.Proofs.YtnofibjchhcmeabDoor
open Go.RowKit
set_option linter.unusedVariables false

def nameF (s : ByteArray) (has : Bool) : Bool := if has then nmB s.data.toList else s.toList == []
set_option maxRecDepth 100000 in
theorem nameFits_any (s : ByteArray) (has : Bool) (hm : s.size ≤ maxLen) (w : World) : Calls Tryd.prog 48 #[.string s, .bool has] w (QB w (nameF s has)) := by
  have HN := name_any s hm w
  cases has with
  | true =>
    go_enter Tryd.func48, Tryd.ntmps48
    go_wp2_with fail
    refine HN.mono ?_
    rintro e w' ⟨rfl, rfl⟩
    go_wp2
    first | exact ⟨rfl, Below.refl _ _⟩ | (go_ret; exact ⟨rfl, Below.refl _ _⟩)
  | false =>
    have hf : nameF s false = (s.toList == []) := rfl
    rw [hf]
    go_enter Tryd.func48, Tryd.ntmps48
    go_wp2
    first | exact ⟨by simp, Below.refl _ _⟩ | (go_ret; exact ⟨by simp, Below.refl _ _⟩)
/-- the looker: how many nodes it has come to -/
def LK (w : World) (kb n : Nat) : Prop := w.heap[kb]? = some (.cells #[.int .i64 (n : Int)] 51)
set_option maxRecDepth 100000 in
theorem another_any (kb n : Nat) (w : World) (h : LK w kb n) (hn : n ≤ 1000000) : Calls Tryd.prog 34 #[.pointer (some ⟨kb, 0, none⟩)] w fun e w' => e = .returned (.bool (decide ((n : Int) + 1 ≤ 600))) ∧ w' = w.setCell ⟨kb, 0, none⟩ (.int .i64 ((n + 1 : Nat) : Int)) := by
  have c0 : w.cell? ⟨kb, 0, none⟩ = some (.int .i64 (n : Int)) := by rw [cell_of_row w kb 0 _ _ _ h]; rfl
  have f0 := frozen_of_row w kb 0 _ _ h
  have hc : ((n + 1 : Nat) : Int) = (n : Int) + 1 := by omega
  rw [hc]
  have hlt : kb < w.heap.size := (Array.getElem?_eq_some_iff.1 h).1
  by_cases h6 : (n : Int) + 1 ≤ 600
  · rw [decide_eq_true h6]
    go_enter Tryd.func34, Tryd.ntmps34
    go_wp2
    first | exact ⟨rfl, rfl⟩ | (go_ret; exact ⟨rfl, rfl⟩)
  · rw [decide_eq_false h6]
    go_enter Tryd.func34, Tryd.ntmps34
    go_wp2
    first | exact ⟨rfl, rfl⟩ | (go_ret; exact ⟨rfl, rfl⟩)
end Go.Proofs.YtnofibjchhcmeabDoor
namespace Go.Proofs.YtnofibjchhcmeabDoor
open Go.RowKit Go.Maps
set_option linter.unusedVariables false

structure Five (w : World) (b : Nat) (v0 v1 v2 v3 v4 : Value) : Prop where
  c0 : w.cell? ⟨b, 0, none⟩ = some v0
  c1 : w.cell? ⟨b, 1, none⟩ = some v1
  c2 : w.cell? ⟨b, 2, none⟩ = some v2
  c3 : w.cell? ⟨b, 3, none⟩ = some v3
  c4 : w.cell? ⟨b, 4, none⟩ = some v4
theorem Five.keep {w w' : World} {b : Nat} {v0 v1 v2 v3 v4 : Value} (h : Five w b v0 v1 v2 v3 v4) (hb : w'.heap[b]? = w.heap[b]?) : Five w' b v0 v1 v2 v3 v4 :=
  ⟨(World.cell?_of_block (w := w) (a := ⟨b, 0, none⟩) hb).trans h.c0, (World.cell?_of_block (w := w) (a := ⟨b, 1, none⟩) hb).trans h.c1, (World.cell?_of_block (w := w) (a := ⟨b, 2, none⟩) hb).trans h.c2, (World.cell?_of_block (w := w) (a := ⟨b, 3, none⟩) hb).trans h.c3, (World.cell?_of_block (w := w) (a := ⟨b, 4, none⟩) hb).trans h.c4⟩
theorem Five.new (w : World) (v0 v1 v2 v3 v4 : Value) (t : TypeId) : Five (w.alloc (.cells #[v0, v1, v2, v3, v4] t)) w.heap.size v0 v1 v2 v3 v4 := ⟨by simp, by simp, by simp, by simp, by simp⟩

/-- an expression of a row, read -/
structure ERd (w : World) (b o : Nat) (k n : Int) (s : ByteArray) (p : Int) (ad : Option Addr) (m cap : Nat) : Prop where
  lt : b < w.heap.size
  x0 : w.cell? ⟨b, o, none⟩ = some (.int .i64 k)
  x1 : w.cell? ⟨b, o + 1, none⟩ = some (.int .i64 n)
  x2 : w.cell? ⟨b, o + 2, none⟩ = some (.string s)
  x3 : w.cell? ⟨b, o + 3, none⟩ = some (.int .i64 p)
  x4 : w.cell? ⟨b, o + 4, none⟩ = some (.slice ad m cap)
abbrev EAx (w : World) (l : EL) (b o : Nat) : Prop := EAt w (fun _ => True) l b o
abbrev ESx (w : World) (v : Value) (l : EL) : Prop := ESlP w (fun _ => True) v l
abbrev SAx (w : World) (l : SL) (b o : Nat) : Prop := SAt w (fun _ => True) l b o
abbrev SSx (w : World) (v : Value) (l : SL) : Prop := SSlP w (fun _ => True) v l
theorem SSlP.below {w w' : World} {ok : Nat → Prop} {v : Value} {l : SL} (h : SSlP w ok v l) (hb : Below w.heap.size w w') : SSlP w' ok v l := h.keep fun k _ hs => hb.block k hs
theorem EAx.read {w w' : World} {i : Nat} {u : Unit} {k n : Int} {s : ByteArray} {p : Int} {a r : EL} {b o : Nat} (h : EAx w (.inner i (k, n, s, p) u a r) b o) (hb : Below w.heap.size w w') :
    ∃ ad cap, ERd w' b o k n s p ad (elen a) cap ∧ ESx w' (.slice ad (elen a) cap) a ∧ EAx w r b (o + 5) := by
  obtain ⟨h1, h2, h3, h4, ⟨ad, cap, b', o', g1, g2, g3, g4, g5⟩, h7⟩ := h
  have hlt : b < w.heap.size := World.block_lt_of_cell? w ⟨b, o, none⟩ h1
  exact ⟨ad, cap, ⟨Nat.lt_of_lt_of_le hlt hb.size, (hb.cell (p := ⟨b, o, none⟩) hlt).trans h1, (hb.cell (p := ⟨b, o + 1, none⟩) hlt).trans h2, (hb.cell (p := ⟨b, o + 2, none⟩) hlt).trans h3, (hb.cell (p := ⟨b, o + 3, none⟩) hlt).trans h4, (hb.cell (p := ⟨b, o + 4, none⟩) hlt).trans g1⟩, ESlP.below ⟨ad, cap, b', o', rfl, g2, g3, g4, g5⟩ hb, h7⟩

theorem ret_i {a b : Int} (h : a = b) : Ending.returned (.int .i64 a) = .returned (.int .i64 b) := by rw [h]
def CountC (l : EL) : Prop := ∀ (k n : Int) (s : ByteArray) (p : Int) (ad : Option Addr) (cap : Nat) (w : World), ESx w (.slice ad (elen l) cap) l → Calls Tryd.prog 25 #[.agg #[.int .i64 k, .int .i64 n, .string s, .int .i64 p, .slice ad (elen l) cap]] w fun e w' => e = .returned (.int .i64 ((ecnt l + 1 : Nat) : Int)) ∧ Below w.heap.size w w'

set_option maxRecDepth 100000 in
set_option maxHeartbeats 2000000 in
theorem count_any : ∀ (N : Nat) (l : EL), ecnt l ≤ N → ecnt l ≤ 1000000000 → CountC l := by
  intro N
  induction N with
  | zero =>
    intro l hN h9 k n s p ad cap w hE
    have : l = .leaf := by cases l with
      | leaf => rfl
      | inner i d u a r => simp only [ecnt] at hN; omega
    subst this
    go_enter Tryd.func25, Tryd.ntmps25
    go_wp2
    go_rounds 1
    go_ret
    exact ⟨rfl, (Below.refl _ _).alloc (Nat.le_refl _) _⟩
  | succ N ih =>
    intro l hN h9 k n s p ad cap w hE
    obtain ⟨ad', cap', b, o, e0, h1, h2, h3, h4⟩ := hE
    cases e0
    have HI : Hid (∀ l : EL, ecnt l ≤ N → ecnt l ≤ 1000000000 → CountC l) := ih
    have HE0 : Hid (EAx w l b o) := h4
    obtain ⟨m, hm⟩ : ∃ m, elen l = m := ⟨_, rfl⟩
    have HLM : Hid (elen l = m) := hm
    rw [hm] at h1 h3 ⊢
    have hm9 : m ≤ 1000000000 := by have := elen_le l; omega
    have HN : Hid (ecnt l ≤ N + 1) := hN
    clear ih h4 hm hN
    unfold maxLen at h2
    have HBX : Hid (∀ o, Below w.heap.size w (w.alloc o)) := fun o => (Below.refl _ _).alloc (Nat.le_refl _) o
    go_enter Tryd.func25, Tryd.ntmps25
    go_wp2
    go_loopw [3, 4] (fun t i wr => ∃ (j x : Nat) (r : EL), j ≤ m ∧ x ≤ 1000000001 ∧ i = .int .i64 (j : Int) ∧ t = .int .i64 (x : Int) ∧ Hid (j + elen r = m) ∧ Hid (EAx w r b (o + 5 * j)) ∧ Hid (x + ecnt r = ecnt l + 1) ∧ Hid (ecnt r ≤ N + 1 ∧ ecnt r ≤ 1000000000) ∧ Hid (Below (w.heap.size + 1) (w.alloc (.cells #[.int .i64 k, .int .i64 n, .string s, .int .i64 p, .slice ad m cap] 42)) wr)) (fun _ i _ => m - (intOf i).toNat)
    case atStart => exact ⟨0, 1, l, Nat.zero_le _, by omega, rfl, rfl, by show _ = _; rw [Nat.zero_add]; exact HLM.out, HE0, by show _ = _; omega, ⟨HN.out, h9⟩, Below.refl _ _⟩
    case round =>
      obtain ⟨j, x, r, hj, hx9, rfl, rfl, HJ, HE, HX, HR, HB⟩ := hrel
      have HBw : Hid (Below w.heap.size w wr) := (HBX.out _).trans (HB.out.mono (Nat.le_succ _))
      have F0 := (Five.new w (.int .i64 k) (.int .i64 n) (.string s) (.int .i64 p) (.slice ad m cap) 42).keep (HB.out.block w.heap.size (Nat.lt_succ_self _))
      have y4 := F0.c4
      have hsw : w.heap.size < wr.heap.size := by have := HB.out.size; simp at this; omega
      clear F0
      by_cases hlt : j < m
      · have e0 := (h3 (by omega)).1
        subst e0
        cases r with
        | leaf => have := HJ.out; simp only [elen] at this; omega
        | inner i0 d0 u0 a r =>
          obtain ⟨kd, nm, s', p'⟩ := d0
          obtain ⟨ad2, cap2, hrd, hsl, hrest⟩ := EAx.read HE.out HBw.out
          rw [Nat.mul_comm 5 j] at hrd
          obtain ⟨z0, z1, z2, z3, z4, z5⟩ := hrd
          have HSl : Hid (ESx wr (.slice ad2 (elen a) cap2) a) := hsl
          have HRest : Hid (EAx w r b (o + 5 * (j + 1))) := by rw [show o + 5 * (j + 1) = o + 5 * j + 5 by omega]; exact hrest
          have HC : Hid (CountC a) := HI.out a (by have := HR.out.1; simp only [ecnt] at this; omega) (by have := HR.out.2; simp only [ecnt] at this; omega)
          have hxa : x + (ecnt a + 1) ≤ 1000000001 := by have := HX.out; simp only [ecnt] at this; omega
          have HX2 : Hid (x + (ecnt a + 1) + ecnt r = ecnt l + 1) := by have := HX.out; simp only [ecnt] at this; show _ = _; omega
          have HR2 : Hid (ecnt r ≤ N + 1 ∧ ecnt r ≤ 1000000000) := by have := HR.out; simp only [ecnt] at this; exact ⟨by omega, by omega⟩
          clear hsl hrest
          go_wp2_with fail
          refine (HC.out kd nm s' p' ad2 cap2 wr HSl.out).mono ?_
          rintro e w2 ⟨rfl, hb2⟩
          have HB2 : Hid _ := HB.out.trans (hb2.mono hsw)
          clear hb2
          go_wp2
          go_roundw
          case rel => exact ⟨j + 1, x + (ecnt a + 1), r, by omega, hxa, by go_num, by go_num, by have := HJ.out; simp only [elen] at this; show _ = _; omega, HRest, HX2, HR2, HB2⟩
          case measure => simp [intOf]; omega
      · have hr : r = .leaf := by cases r with
          | leaf => rfl
          | inner i0 d0 u0 a r => have := HJ.out; simp only [elen] at this; omega
        subst hr
        have HXX : Hid (x = ecnt l + 1) := HX.out
        go_wp2
        go_ret
        exact ⟨ret_i (by have := HXX.out; omega), HBw.out⟩

/-- a statement of a row, read -/
structure SRd (w : World) (b o : Nat) (k : Int) (s : ByteArray) (c : Int) (ad : Option Addr) (m cap : Nat) (bd : Option Addr) (bm bcap : Nat) (ed : Option Addr) (em ecap : Nat) : Prop where
  lt : b < w.heap.size
  x0 : w.cell? ⟨b, o, none⟩ = some (.int .i64 k)
  x1 : w.cell? ⟨b, o + 1, none⟩ = some (.string s)
  x2 : w.cell? ⟨b, o + 2, none⟩ = some (.int .i64 c)
  x3 : w.cell? ⟨b, o + 3, none⟩ = some (.slice ad m cap)
  x4 : w.cell? ⟨b, o + 4, none⟩ = some (.slice bd bm bcap)
  x5 : w.cell? ⟨b, o + 5, none⟩ = some (.slice ed em ecap)
theorem SRd.below {w w' : World} {b o : Nat} {k : Int} {s : ByteArray} {c : Int} {ad : Option Addr} {m cap : Nat} {bd : Option Addr} {bm bcap : Nat} {ed : Option Addr} {em ecap : Nat} (h : SRd w b o k s c ad m cap bd bm bcap ed em ecap) (hb : Below w.heap.size w w') : SRd w' b o k s c ad m cap bd bm bcap ed em ecap :=
  ⟨Nat.lt_of_lt_of_le h.lt hb.size, (hb.cell (p := ⟨b, o, none⟩) h.lt).trans h.x0, (hb.cell (p := ⟨b, o + 1, none⟩) h.lt).trans h.x1, (hb.cell (p := ⟨b, o + 2, none⟩) h.lt).trans h.x2, (hb.cell (p := ⟨b, o + 3, none⟩) h.lt).trans h.x3, (hb.cell (p := ⟨b, o + 4, none⟩) h.lt).trans h.x4, (hb.cell (p := ⟨b, o + 5, none⟩) h.lt).trans h.x5⟩
theorem SAx.read {w w' : World} {i : Nat} {u : Unit} {k : Int} {s : ByteArray} {c : Int} {a : EL} {x r : SL} {b o : Nat} (h : SAx w (.inner i (k, s, c, a) u x r) b o) (hb : Below w.heap.size w w') :
    ∃ ad cap bd bcap ed ecap, SRd w' b o k s c ad (elen a) cap bd (slen (slft x)) bcap ed (slen (srgt x)) ecap ∧ ESx w' (.slice ad (elen a) cap) a ∧ SSx w' (.slice bd (slen (slft x)) bcap) (slft x) ∧ SSx w' (.slice ed (slen (srgt x)) ecap) (srgt x) ∧ SAx w r b (o + 6) := by
  obtain ⟨h1, h2, h3, va, vb, ve, h4, h5, h6, pa, pb, pe, hr⟩ := SAt.parts h
  have qa := pa.below hb
  have qb := pb.below hb
  have qe := pe.below hb
  obtain ⟨ad, cap, _, _, rfl, _⟩ := pa
  obtain ⟨bd, bcap, _, _, rfl, _⟩ := pb
  obtain ⟨ed, ecap, _, _, rfl, _⟩ := pe
  have hlt : b < w.heap.size := World.block_lt_of_cell? w ⟨b, o, none⟩ h1
  exact ⟨ad, cap, bd, bcap, ed, ecap, ⟨Nat.lt_of_lt_of_le hlt hb.size, (hb.cell (p := ⟨b, o, none⟩) hlt).trans h1, (hb.cell (p := ⟨b, o + 1, none⟩) hlt).trans h2, (hb.cell (p := ⟨b, o + 2, none⟩) hlt).trans h3, (hb.cell (p := ⟨b, o + 3, none⟩) hlt).trans h4, (hb.cell (p := ⟨b, o + 4, none⟩) hlt).trans h5, (hb.cell (p := ⟨b, o + 5, none⟩) hlt).trans h6⟩, qa, qb, qe, hr⟩

def NodesC (l : SL) : Prop := ∀ (va : Value) (w : World), SSx w va l → Calls Tryd.prog 16 #[va] w fun e w' => e = .returned (.int .i64 (scnt l : Int)) ∧ Below w.heap.size w w'

set_option maxRecDepth 100000 in
set_option maxHeartbeats 1000000 in
theorem rnodes_any : ∀ (N : Nat) (l : SL), scnt l ≤ N → scnt l ≤ 1000000000 → NodesC l := by
  intro N
  induction N with
  | zero =>
    intro l hN h9 va w hE
    have : l = .leaf := by cases l with
      | leaf => rfl
      | inner i0 d0 u0 x0 r => obtain ⟨k, s, c, a⟩ := d0; rw [scnt_inner] at hN; omega
    subst this
    obtain ⟨ad, cap, b, o, rfl, h1, h2, h3, h4⟩ := hE
    go_enter Tryd.func16, Tryd.ntmps16
    go_wp2
    go_rounds 1
    go_ret
    exact ⟨rfl, Below.refl _ _⟩
  | succ N ih =>
    intro l hN h9 va w hE
    obtain ⟨ad, cap, b, o, rfl, h1, h2, h3, h4⟩ := hE
    have HI : Hid (∀ l : SL, scnt l ≤ N → scnt l ≤ 1000000000 → NodesC l) := ih
    have HE0 : Hid (SAx w l b o) := h4
    obtain ⟨m, hm⟩ : ∃ m, slen l = m := ⟨_, rfl⟩
    have HLM : Hid (slen l = m) := hm
    rw [hm] at h1 h3 ⊢
    have hm9 : m ≤ 1000000000 := by have := slen_le l; omega
    have HN : Hid (scnt l ≤ N + 1) := hN
    obtain ⟨C, hC⟩ : ∃ C, scnt l = C := ⟨_, rfl⟩
    have HCl : Hid (scnt l = C) := hC
    rw [hC] at h9 ⊢
    clear ih h4 hm hN hC
    unfold maxLen at h2
    go_enter Tryd.func16, Tryd.ntmps16
    go_wp2
    go_loopw [3, 4, 5] (fun t i _ wr => ∃ (j x : Nat) (r : SL), j ≤ m ∧ x ≤ C ∧ i = .int .i64 (j : Int) ∧ t = .int .i64 (x : Int) ∧ Hid (j + slen r = m) ∧ Hid (SAx w r b (o + 6 * j)) ∧ Hid (x + scnt r = C + slen r) ∧ Hid (scnt r ≤ N + 1) ∧ Hid (Below w.heap.size w wr)) (fun _ i _ _ => m - (intOf i).toNat)
    case atStart => exact ⟨0, m, l, Nat.zero_le _, by have := slen_le l; have := HLM.out; have := HCl.out; omega, rfl, rfl, by show _ = _; rw [Nat.zero_add]; exact HLM.out, HE0, by have := HLM.out; have := HCl.out; show _ = _; omega, HN.out, Below.refl _ _⟩
    case round =>
      obtain ⟨j, x, r, hj, hx9, rfl, rfl, HJ, HE, HX, HR, HB⟩ := hrel
      by_cases hlt : j < m
      · have e0 := (h3 (by omega)).1
        subst e0
        cases r with
        | leaf => have := HJ.out; simp only [slen] at this; omega
        | inner i0 d0 u0 x0 r =>
          obtain ⟨kd, s, c, a⟩ := d0
          obtain ⟨ad1, cap1, bd, bcap, ed, ecap, hrd, hsa, hsd, hse, hrest⟩ := SAx.read HE.out HB.out
          rw [Nat.mul_comm 6 j] at hrd
          have HRD : Hid (SRd wr b (o + j * 6) kd s c ad1 (elen a) cap1 bd (slen (slft x0)) bcap ed (slen (srgt x0)) ecap) := hrd
          obtain ⟨z0, _, _, _, z3, z4, z5⟩ := hrd
          obtain ⟨ad1', cap1', b1, o1, e1, g1, g2, g3, g4⟩ := hsa
          cases e1
          have HSA : Hid (EAx wr a b1 o1) := g4
          have HSD : Hid (SSx wr (.slice bd (slen (slft x0)) bcap) (slft x0)) := hsd
          have HSE : Hid (SSx wr (.slice ed (slen (srgt x0)) ecap) (srgt x0)) := hse
          have HRest : Hid (SAx w r b (o + 6 * (j + 1))) := by rw [show o + 6 * (j + 1) = o + 6 * j + 6 by omega]; exact hrest
          have hcs : ecnt a + scnt (slft x0) + scnt (srgt x0) + x + scnt r = C + slen r ∧ ecnt a + scnt (slft x0) + scnt (srgt x0) ≤ N ∧ scnt r ≤ N + 1 ∧ slen r ≤ scnt r := by
            have h5 := HX.out
            have h6 := HR.out
            have h7 := slen_le r
            rw [scnt_inner] at h5 h6; simp only [slen] at h5
            exact ⟨by omega, by omega, by omega, h7⟩
          have HCS : Hid (ecnt a + scnt (slft x0) + scnt (srgt x0) + x + scnt r = C + slen r ∧ ecnt a + scnt (slft x0) + scnt (srgt x0) ≤ N ∧ scnt r ≤ N + 1 ∧ slen r ≤ scnt r) := hcs
          have hsum : ecnt a + scnt (slft x0) + scnt (srgt x0) + x ≤ C := by omega
          obtain ⟨na, hna⟩ : ∃ na, elen a = na := ⟨_, rfl⟩
          have HNA : Hid (elen a = na) := hna
          rw [hna] at z3 g1 g3
          have hna9 : na ≤ 1000000000 := by have := elen_le a; omega
          have HCd : Hid (NodesC (slft x0)) := HI.out (slft x0) (by omega) (by omega)
          have HCe : Hid (NodesC (srgt x0)) := HI.out (srgt x0) (by omega) (by omega)
          unfold maxLen at g2
          clear hsd hse hrest hcs hna g4
          go_wp2
          go_loopw [3, 5] (fun t i wq => ∃ (j2 y : Nat) (ra : EL), j2 ≤ na ∧ y ≤ C ∧ i = .int .i64 (j2 : Int) ∧ t = .int .i64 (y : Int) ∧ Hid (j2 + elen ra = na) ∧ Hid (EAx wr ra b1 (o1 + 5 * j2)) ∧ Hid (y + ecnt ra = x + ecnt a) ∧ Hid (Below wr.heap.size wr wq)) (fun _ i _ => na - (intOf i).toNat)
          case atStart => exact ⟨0, x, a, Nat.zero_le _, hx9, rfl, rfl, by show _ = _; rw [Nat.zero_add]; exact HNA.out, HSA, rfl, Below.refl _ _⟩
          case round =>
            obtain ⟨j2, y, ra, hj2, hy9, rfl, rfl, HJ2, HE2, HX2, HB2⟩ := hrel
            have HRD2 : Hid (SRd wr b (o + j * 6) kd s c ad1 na cap1 bd (slen (slft x0)) bcap ed (slen (srgt x0)) ecap) := HNA.out ▸ HRD.out.below HB2.out
            clear z0 z3 z4 z5
            obtain ⟨z0, _, _, _, z3, z4, z5⟩ := HRD2.out
            by_cases hlt2 : j2 < na
            · have e1 := (g3 (by omega)).1
              subst e1
              cases ra with
              | leaf => have := HJ2.out; simp only [elen] at this; omega
              | inner i1 d1 u1 a' ra =>
                obtain ⟨kd', nm, s', p'⟩ := d1
                obtain ⟨ad2, cap2, hrd2, hsl2, hrest2⟩ := EAx.read HE2.out HB2.out
                rw [Nat.mul_comm 5 j2] at hrd2
                obtain ⟨q0, q1, q2, q3, q4, q5⟩ := hrd2
                have HSl : Hid (ESx wr (.slice ad2 (elen a') cap2) a') := hsl2
                have HRest2 : Hid _ := hrest2
                have hy2 : y + (ecnt a' + 1) ≤ C ∧ ecnt a' ≤ 1000000000 := by
                  have h5 := HX2.out
                  simp only [ecnt] at h5
                  exact ⟨by omega, by omega⟩
                have HC : Hid (CountC a') := count_any _ a' (Nat.le_refl _) hy2.2
                have hyy := hy2.1
                have HX3 : Hid (y + (ecnt a' + 1) + ecnt ra = x + ecnt a) := by have := HX2.out; simp only [ecnt] at this; show _ = _; omega
                clear hsl2 hrest2 hy2
                go_wp2_with fail
                refine (HC.out kd' nm s' p' ad2 cap2 wr HSl.out).mono ?_
                rintro e w2 ⟨rfl, hb2⟩
                have HB3 : Hid _ := HB2.out.trans (hb2.mono HB2.out.size)
                clear hb2
                go_wp2
                go_roundw
                case rel => exact ⟨j2 + 1, y + (ecnt a' + 1), ra, by omega, hyy, by go_num, by go_num, by have := HJ2.out; simp only [elen] at this; show _ = _; omega, by have := HRest2.out; rw [show o1 + 5 * (j2 + 1) = o1 + 5 * j2 + 5 by omega]; exact this, HX3, HB3⟩
                case measure => simp [intOf]; omega
            · have hr : ra = .leaf := by cases ra with
                | leaf => rfl
                | inner i1 d1 u1 a r => have := HJ2.out; simp only [elen] at this; omega
              subst hr
              have HYY : Hid (y = x + ecnt a) := HX2.out
              have hyx : y + scnt (slft x0) + scnt (srgt x0) ≤ C := by have := HYY.out; omega
              have HSD2 : Hid (∀ w', Below wr.heap.size wr w' → SSx w' (.slice bd (slen (slft x0)) bcap) (slft x0)) := fun w' hb => (HSD.out.below HB2.out).below hb
              have HSE2 : Hid (∀ w', Below wr.heap.size wr w' → SSx w' (.slice ed (slen (srgt x0)) ecap) (srgt x0)) := fun w' hb => (HSE.out.below HB2.out).below hb
              have HB0 : Hid (Below wr.heap.size wr wr.drew) := (Below.refl _ _).drew
              have HSC : Hid (∀ w', Below wr.heap.size wr w' → w'.cell? ⟨b, o + j * 6 + 4, none⟩ = some (.slice bd (slen (slft x0)) bcap) ∧ w'.cell? ⟨b, o + j * 6 + 5, none⟩ = some (.slice ed (slen (srgt x0)) ecap)) := fun w' hb => ⟨(HRD2.out.below hb).x4, (HRD2.out.below hb).x5⟩
              go_wp2
              go_region_held3 (fun w' => w'.cell? ⟨b, o + j * 6 + 4, none⟩ = some (.slice bd (slen (slft x0)) bcap) ∧ w'.cell? ⟨b, o + j * 6 + 5, none⟩ = some (.slice ed (slen (srgt x0)) ecap)) (go_keep) (first | (go_at_call 16; have hq4 := HB4; refine (HCe.out _ w4 (HSE2.out w4 HB4.out)).mono ?_; rintro e w5 ⟨rfl, hb5⟩; have HB5 : Hid (Below wr.heap.size wr w5) := HB4.out.trans (hb5.mono HB4.out.size); obtain ⟨p7, p8⟩ := HSC.out w5 HB5.out; clear hb5) | (go_at_call 16; refine (HCd.out _ wr.drew (HSD2.out wr.drew HB0.out)).mono ?_; rintro e w4 ⟨rfl, hb4⟩; have HB4 : Hid (Below wr.heap.size wr w4) := HB0.out.trans hb4; obtain ⟨p5, p6⟩ := HSC.out w4 HB4.out; clear hb4))
              have ew1 : IntKind.i64.wrap (((scnt (slft x0) : Nat) : Int) + (scnt (srgt x0) : Int)) = ((scnt (slft x0) + scnt (srgt x0) : Nat) : Int) := by rw [IntKind.wrap_i64]; omega
              have ew2 : IntKind.i64.wrap ((y : Int) + ((scnt (slft x0) + scnt (srgt x0) : Nat) : Int)) = ((y + scnt (slft x0) + scnt (srgt x0) : Nat) : Int) := by rw [IntKind.wrap_i64]; omega
              rw [ew1, ew2]
              clear ew1 ew2
              go_wp2
              go_roundw
              case rel =>
                refine ⟨j + 1, y + scnt (slft x0) + scnt (srgt x0), r, by omega, hyx, by go_num, by go_num, by have := HJ.out; simp only [slen] at this; show _ = _; omega, HRest, ?_, HCS.out.2.2.1, HB.out.trans ((HB2.out.trans (HB5.out.mono HB2.out.size)).mono HB.out.size)⟩
                have := HCS.out.1
                have := HYY.out
                show _ = _
                omega
              case measure => simp [intOf]; omega
      · have hr : r = .leaf := by cases r with
          | leaf => rfl
          | inner i0 d0 u0 x0 r => have := HJ.out; simp only [slen] at this; omega
        subst hr
        have HXX : Hid (x = C) := HX.out
        go_wp2
        go_ret
        exact ⟨ret_i (by have := HXX.out; omega), HB.out⟩

theorem great_any (l : SL) (va : Value) (w : World) (hE : SSx w va l) (h9 : scnt l ≤ 1000000000) :
    Calls Tryd.prog 12 #[va] w fun e w' => e = .returned (.bool (decide (5000 < (scnt l : Int)))) ∧ Below w.heap.size w w' := by
  have HN : Hid (NodesC l)   := rnodes_any _ l (Nat.le_refl _) h9
  have HE : Hid (SSx w va l) := hE
  obtain ⟨ad, cap, b, o, rfl, _⟩ := hE
  go_enter Tryd.func12, Tryd.ntmps12
  go_wp2_with fail
  refine (HN.out _ w HE.out).mono ?_
  rintro e w2 ⟨rfl, hb2⟩
  have HB2 : Hid _ := hb2
  clear hb2
  go_wp2
  all_goals
    go_ret
    exact ⟨by simp [*], HB2.out⟩
end Go.Proofs.YtnofibjchhcmeabDoor
namespace Go.Proofs.YtnofibjchhcmeabDoor
open Go.RowKit Go.Maps
set_option linter.unusedVariables false
set_option linter.unusedSimpArgs false

/-- the table's row of a kind -/
structure HasE where
  num : Bool
  name : Bool
  first : Int
  last : Int
  args : Int
def exprB (h : HasE) (n : Int) (s : ByteArray) (p : Int) (m : Nat) : Bool := (n == 0 || (h.num && decide (0 < n))) && nameF s h.name && decide (h.first ≤ p) && decide (p ≤ h.last) && decide ((m : Int) = h.args)
def RowE (w : World) (k : Nat) (h : HasE) : Prop := w.cell? ⟨2, k * 5, none⟩ = some (.bool h.num) ∧ w.cell? ⟨2, k * 5 + 1, none⟩ = some (.bool h.name) ∧ w.cell? ⟨2, k * 5 + 2, none⟩ = some (.int .i64 h.first) ∧ w.cell? ⟨2, k * 5 + 3, none⟩ = some (.int .i64 h.last) ∧ w.cell? ⟨2, k * 5 + 4, none⟩ = some (.int .i64 h.args)

set_option maxRecDepth 100000 in
set_option maxHeartbeats 8000000 in
theorem exprFits_out (k n : Int) (s : ByteArray) (p : Int) (ad : Option Addr) (m cap : Nat) (w : World) (hk : k < 1 ∨ 5 < k) : Calls Tryd.prog 49 #[.agg #[.int .i64 k, .int .i64 n, .string s, .int .i64 p, .slice ad m cap]] w (QB w false) := by
  have HB : Hid (∀ o, Below w.heap.size w (w.alloc o)) := fun o => (Below.refl _ _).alloc (Nat.le_refl _) _
  by_cases h1 : k < 1
  · go_enter Tryd.func49, Tryd.ntmps49
    go_wp2
    first | exact ⟨rfl, HB.out _⟩ | (go_ret; exact ⟨rfl, HB.out _⟩)
  · have h5 : 5 < k := by omega
    go_enter Tryd.func49, Tryd.ntmps49
    go_wp2
    first | exact ⟨rfl, HB.out _⟩ | (go_ret; exact ⟨rfl, HB.out _⟩)
end Go.Proofs.YtnofibjchhcmeabDoor
namespace Go.Proofs.YtnofibjchhcmeabDoor
open Go.RowKit Go.Maps
set_option linter.unusedVariables false
set_option linter.unusedSimpArgs false

def exprTb : Array Value := #[.bool false, .bool false, .int .i64 0, .int .i64 0, .int .i64 0, .bool true, .bool false, .int .i64 0, .int .i64 0, .int .i64 0, .bool false, .bool true, .int .i64 0, .int .i64 0, .int .i64 0, .bool false, .bool false, .int .i64 0, .int .i64 0, .int .i64 1, .bool false, .bool false, .int .i64 19, .int .i64 21, .int .i64 1, .bool false, .bool false, .int .i64 1, .int .i64 18, .int .i64 2]
def stmtTb : Array Value := #[.bool false, .bool false, .bool false, .bool false, .int .i64 0, .bool true, .bool false, .bool false, .bool false, .int .i64 1, .bool true, .bool false, .bool false, .bool false, .int .i64 1, .bool false, .bool false, .bool false, .bool false, .int .i64 2, .bool false, .bool false, .bool false, .bool false, .int .i64 1, .bool false, .bool true, .bool false, .bool false, .int .i64 1, .bool false, .bool false, .bool true, .bool true, .int .i64 1, .bool false, .bool false, .bool true, .bool false, .int .i64 1, .bool false, .bool false, .bool false, .bool false, .int .i64 1, .bool false, .bool false, .bool false, .bool false, .int .i64 0]
/-- the two tables -/
structure TB (w : World) : Prop where
  e : ∃ t fr, w.heap[2]? = some (.cells exprTb t fr)
  s : ∃ t fr, w.heap[1]? = some (.cells stmtTb t fr)
theorem TB.below {w w' : World} (h : TB w) (hb : Below w.heap.size w w') : TB w' := by
  obtain ⟨⟨t, fr, h1⟩, ⟨t', fr', h2⟩⟩ := h
  exact ⟨⟨t, fr, (hb.block 2 (Array.getElem?_eq_some_iff.1 h1).1).trans h1⟩, ⟨t', fr', (hb.block 1 (Array.getElem?_eq_some_iff.1 h2).1).trans h2⟩⟩
def hasE (k : Int) : HasE := if k = 1 then ⟨true, false, 0, 0, 0⟩ else if k = 2 then ⟨false, true, 0, 0, 0⟩ else if k = 3 then ⟨false, false, 0, 0, 1⟩ else if k = 4 then ⟨false, false, 19, 21, 1⟩ else ⟨false, false, 1, 18, 2⟩
def exprOk (k n : Int) (s : ByteArray) (p : Int) (m : Nat) : Bool := decide (1 ≤ k ∧ k ≤ 5) && exprB (hasE k) n s p m

set_option maxRecDepth 100000 in
set_option maxHeartbeats 8000000 in
theorem exprFits_1 (n : Int) (s : ByteArray) (p : Int) (ad : Option Addr) (m cap : Nat) (hm : m ≤ 9223372036854775807) (hs : s.size ≤ maxLen) (w : World) (hT : TB w) : Calls Tryd.prog 49 #[.agg #[.int .i64 1, .int .i64 n, .string s, .int .i64 p, .slice ad m cap]] w (QB w (exprB ⟨true, false, 0, 0, 0⟩ n s p m)) := by
  obtain ⟨⟨ty, fr, hT⟩, _⟩ := hT
  have hlt : 2 < w.heap.size := (Array.getElem?_eq_some_iff.1 hT).1
  have t0 : ∀ A, (w.alloc A).cell? ⟨2, 5, none⟩ = some (.bool true) := fun A => by rw [World.cell?_of_block (a := ⟨2, 5, none⟩) (Below.heap_alloc _ _ _ hlt)]; exact (cell_of_row w 2 5 _ _ _ hT).trans rfl
  have t1 : ∀ A, (w.alloc A).cell? ⟨2, 6, none⟩ = some (.bool false) := fun A => by rw [World.cell?_of_block (a := ⟨2, 6, none⟩) (Below.heap_alloc _ _ _ hlt)]; exact (cell_of_row w 2 6 _ _ _ hT).trans rfl
  have t2 : ∀ A, (w.alloc A).cell? ⟨2, 7, none⟩ = some (.int .i64 0) := fun A => by rw [World.cell?_of_block (a := ⟨2, 7, none⟩) (Below.heap_alloc _ _ _ hlt)]; exact (cell_of_row w 2 7 _ _ _ hT).trans rfl
  have t3 : ∀ A, (w.alloc A).cell? ⟨2, 8, none⟩ = some (.int .i64 0) := fun A => by rw [World.cell?_of_block (a := ⟨2, 8, none⟩) (Below.heap_alloc _ _ _ hlt)]; exact (cell_of_row w 2 8 _ _ _ hT).trans rfl
  have t4 : ∀ A, (w.alloc A).cell? ⟨2, 9, none⟩ = some (.int .i64 0) := fun A => by rw [World.cell?_of_block (a := ⟨2, 9, none⟩) (Below.heap_alloc _ _ _ hlt)]; exact (cell_of_row w 2 9 _ _ _ hT).trans rfl
  have HN : Hid (∀ W, Calls Tryd.prog 48 #[.string s, .bool false] W (QB W (nameF s false))) := fun W => nameFits_any s false hs W
  obtain ⟨res, hres⟩ : ∃ r, exprB ⟨true, false, 0, 0, 0⟩ n s p m = r := ⟨_, rfl⟩
  have HR : Hid (exprB ⟨true, false, 0, 0, 0⟩ n s p m = res) := hres
  rw [hres]
  unfold exprB at HR
  simp only at HR
  obtain ⟨b2, hb2⟩ : ∃ b, nameF s false = b := ⟨_, rfl⟩
  rw [hb2] at HN HR
  clear hres hb2 hT hs
  have HB2 : Hid (Below w.heap.size w ((w.alloc (.cells #[.int .i64 1, .int .i64 n, .string s, .int .i64 p, .slice ad m cap] 42)).alloc (.cells #[.bool true, .bool false, .int .i64 0, .int .i64 0, .int .i64 0] 92))) := ((Below.refl _ _).alloc (Nat.le_refl _) _).alloc (by simp) _
  have HF : Hid (∀ w4, Below ((w.alloc (.cells #[.int .i64 1, .int .i64 n, .string s, .int .i64 p, .slice ad m cap] 42)).alloc (.cells #[.bool true, .bool false, .int .i64 0, .int .i64 0, .int .i64 0] 92)).heap.size ((w.alloc (.cells #[.int .i64 1, .int .i64 n, .string s, .int .i64 p, .slice ad m cap] 42)).alloc (.cells #[.bool true, .bool false, .int .i64 0, .int .i64 0, .int .i64 0] 92)) w4 → w4.heap[w.heap.size]? = some (.cells #[.int .i64 1, .int .i64 n, .string s, .int .i64 p, .slice ad m cap] 42) ∧ w4.heap[w.heap.size + 1]? = some (.cells #[.bool true, .bool false, .int .i64 0, .int .i64 0, .int .i64 0] 92) ∧ Below w.heap.size w w4) := by
    intro w4 hb
    refine ⟨(hb.block _ (by simp; omega)).trans ((Below.heap_alloc _ _ _ (by simp)).trans (heap_alloc_new w _)), (hb.block _ (by simp)).trans ?_, HB2.out.trans (hb.mono (by simp; omega))⟩
    have := heap_alloc_new (w.alloc (.cells #[.int .i64 1, .int .i64 n, .string s, .int .i64 p, .slice ad m cap] 42)) (.cells #[.bool true, .bool false, .int .i64 0, .int .i64 0, .int .i64 0] 92)
    rw [show (w.alloc (.cells #[.int .i64 1, .int .i64 n, .string s, .int .i64 p, .slice ad m cap] 42)).heap.size = w.heap.size + 1 by simp] at this
    exact this
  by_cases c0 : n = 0
  · subst c0
    cases b2
    · go_enter Tryd.func49, Tryd.ntmps49
      go_wp2_with fail
      refine (HN.out _).mono ?_
      rintro e w4 ⟨rfl, hb4⟩
      obtain ⟨f1, f2, f3⟩ := HF.out w4 hb4
      have F3 : Hid (Below w.heap.size w w4) := f3
      have x3 : w4.cell? ⟨w.heap.size, 3, none⟩ = some (.int .i64 p) := (cell_of_row _ _ 3 _ _ _ f1).trans rfl
      have x4 : w4.cell? ⟨w.heap.size, 4, none⟩ = some (.slice ad m cap) := (cell_of_row _ _ 4 _ _ _ f1).trans rfl
      have y2 : w4.cell? ⟨w.heap.size + 1, 2, none⟩ = some (.int .i64 0) := (cell_of_row _ _ 2 _ _ _ f2).trans rfl
      have y3 : w4.cell? ⟨w.heap.size + 1, 3, none⟩ = some (.int .i64 0) := (cell_of_row _ _ 3 _ _ _ f2).trans rfl
      have y4 : w4.cell? ⟨w.heap.size + 1, 4, none⟩ = some (.int .i64 0) := (cell_of_row _ _ 4 _ _ _ f2).trans rfl
      clear hb4 f1 f2 f3
      go_wp2_with fail
      go_ret
      exact ⟨by rw [← HR.out]; simp_all; try (intros; omega), F3.out⟩
    · by_cases d3 : (0 : Int) ≤ p
      · have g3 : decide ((0 : Int) ≤ p) = true := by simpa using d3
        by_cases d4 : p ≤ (0 : Int)
        · have g4 : decide (p ≤ (0 : Int)) = true := by simpa using d4
          by_cases d5 : (m : Int) = 0
          · have g5 : ((m : Int) == 0) = true := by simpa using d5
            go_enter Tryd.func49, Tryd.ntmps49
            go_wp2_with fail
            refine (HN.out _).mono ?_
            rintro e w4 ⟨rfl, hb4⟩
            obtain ⟨f1, f2, f3⟩ := HF.out w4 hb4
            have F3 : Hid (Below w.heap.size w w4) := f3
            have x3 : w4.cell? ⟨w.heap.size, 3, none⟩ = some (.int .i64 p) := (cell_of_row _ _ 3 _ _ _ f1).trans rfl
            have x4 : w4.cell? ⟨w.heap.size, 4, none⟩ = some (.slice ad m cap) := (cell_of_row _ _ 4 _ _ _ f1).trans rfl
            have y2 : w4.cell? ⟨w.heap.size + 1, 2, none⟩ = some (.int .i64 0) := (cell_of_row _ _ 2 _ _ _ f2).trans rfl
            have y3 : w4.cell? ⟨w.heap.size + 1, 3, none⟩ = some (.int .i64 0) := (cell_of_row _ _ 3 _ _ _ f2).trans rfl
            have y4 : w4.cell? ⟨w.heap.size + 1, 4, none⟩ = some (.int .i64 0) := (cell_of_row _ _ 4 _ _ _ f2).trans rfl
            clear hb4 f1 f2 f3
            go_wp2_with fail
            go_ret
            exact ⟨by rw [← HR.out]; simp_all; try (intros; omega), F3.out⟩
          · have g5 : ((m : Int) == 0) = false := by simpa using d5
            go_enter Tryd.func49, Tryd.ntmps49
            go_wp2_with fail
            refine (HN.out _).mono ?_
            rintro e w4 ⟨rfl, hb4⟩
            obtain ⟨f1, f2, f3⟩ := HF.out w4 hb4
            have F3 : Hid (Below w.heap.size w w4) := f3
            have x3 : w4.cell? ⟨w.heap.size, 3, none⟩ = some (.int .i64 p) := (cell_of_row _ _ 3 _ _ _ f1).trans rfl
            have x4 : w4.cell? ⟨w.heap.size, 4, none⟩ = some (.slice ad m cap) := (cell_of_row _ _ 4 _ _ _ f1).trans rfl
            have y2 : w4.cell? ⟨w.heap.size + 1, 2, none⟩ = some (.int .i64 0) := (cell_of_row _ _ 2 _ _ _ f2).trans rfl
            have y3 : w4.cell? ⟨w.heap.size + 1, 3, none⟩ = some (.int .i64 0) := (cell_of_row _ _ 3 _ _ _ f2).trans rfl
            have y4 : w4.cell? ⟨w.heap.size + 1, 4, none⟩ = some (.int .i64 0) := (cell_of_row _ _ 4 _ _ _ f2).trans rfl
            clear hb4 f1 f2 f3
            go_wp2_with fail
            go_ret
            exact ⟨by rw [← HR.out]; simp_all; try (intros; omega), F3.out⟩
        · have g4 : decide (p ≤ (0 : Int)) = false := by simpa using d4
          go_enter Tryd.func49, Tryd.ntmps49
          go_wp2_with fail
          refine (HN.out _).mono ?_
          rintro e w4 ⟨rfl, hb4⟩
          obtain ⟨f1, f2, f3⟩ := HF.out w4 hb4
          have F3 : Hid (Below w.heap.size w w4) := f3
          have x3 : w4.cell? ⟨w.heap.size, 3, none⟩ = some (.int .i64 p) := (cell_of_row _ _ 3 _ _ _ f1).trans rfl
          have x4 : w4.cell? ⟨w.heap.size, 4, none⟩ = some (.slice ad m cap) := (cell_of_row _ _ 4 _ _ _ f1).trans rfl
          have y2 : w4.cell? ⟨w.heap.size + 1, 2, none⟩ = some (.int .i64 0) := (cell_of_row _ _ 2 _ _ _ f2).trans rfl
          have y3 : w4.cell? ⟨w.heap.size + 1, 3, none⟩ = some (.int .i64 0) := (cell_of_row _ _ 3 _ _ _ f2).trans rfl
          have y4 : w4.cell? ⟨w.heap.size + 1, 4, none⟩ = some (.int .i64 0) := (cell_of_row _ _ 4 _ _ _ f2).trans rfl
          clear hb4 f1 f2 f3
          go_wp2_with fail
          go_ret
          exact ⟨by rw [← HR.out]; simp_all; try (intros; omega), F3.out⟩
      · have g3 : decide ((0 : Int) ≤ p) = false := by simpa using d3
        go_enter Tryd.func49, Tryd.ntmps49
        go_wp2_with fail
        refine (HN.out _).mono ?_
        rintro e w4 ⟨rfl, hb4⟩
        obtain ⟨f1, f2, f3⟩ := HF.out w4 hb4
        have F3 : Hid (Below w.heap.size w w4) := f3
        have x3 : w4.cell? ⟨w.heap.size, 3, none⟩ = some (.int .i64 p) := (cell_of_row _ _ 3 _ _ _ f1).trans rfl
        have x4 : w4.cell? ⟨w.heap.size, 4, none⟩ = some (.slice ad m cap) := (cell_of_row _ _ 4 _ _ _ f1).trans rfl
        have y2 : w4.cell? ⟨w.heap.size + 1, 2, none⟩ = some (.int .i64 0) := (cell_of_row _ _ 2 _ _ _ f2).trans rfl
        have y3 : w4.cell? ⟨w.heap.size + 1, 3, none⟩ = some (.int .i64 0) := (cell_of_row _ _ 3 _ _ _ f2).trans rfl
        have y4 : w4.cell? ⟨w.heap.size + 1, 4, none⟩ = some (.int .i64 0) := (cell_of_row _ _ 4 _ _ _ f2).trans rfl
        clear hb4 f1 f2 f3
        go_wp2_with fail
        go_ret
        exact ⟨by rw [← HR.out]; simp_all; try (intros; omega), F3.out⟩
  · have e0 : (n == 0) = false := by simpa using c0
    by_cases c1 : 0 < n
    · have e1 : decide (0 < n) = true := by simpa using c1
      cases b2
      · go_enter Tryd.func49, Tryd.ntmps49
        go_wp2_with fail
        refine (HN.out _).mono ?_
        rintro e w4 ⟨rfl, hb4⟩
        obtain ⟨f1, f2, f3⟩ := HF.out w4 hb4
        have F3 : Hid (Below w.heap.size w w4) := f3
        have x3 : w4.cell? ⟨w.heap.size, 3, none⟩ = some (.int .i64 p) := (cell_of_row _ _ 3 _ _ _ f1).trans rfl
        have x4 : w4.cell? ⟨w.heap.size, 4, none⟩ = some (.slice ad m cap) := (cell_of_row _ _ 4 _ _ _ f1).trans rfl
        have y2 : w4.cell? ⟨w.heap.size + 1, 2, none⟩ = some (.int .i64 0) := (cell_of_row _ _ 2 _ _ _ f2).trans rfl
        have y3 : w4.cell? ⟨w.heap.size + 1, 3, none⟩ = some (.int .i64 0) := (cell_of_row _ _ 3 _ _ _ f2).trans rfl
        have y4 : w4.cell? ⟨w.heap.size + 1, 4, none⟩ = some (.int .i64 0) := (cell_of_row _ _ 4 _ _ _ f2).trans rfl
        clear hb4 f1 f2 f3
        go_wp2_with fail
        go_ret
        exact ⟨by rw [← HR.out]; simp_all; try (intros; omega), F3.out⟩
      · by_cases d3 : (0 : Int) ≤ p
        · have g3 : decide ((0 : Int) ≤ p) = true := by simpa using d3
          by_cases d4 : p ≤ (0 : Int)
          · have g4 : decide (p ≤ (0 : Int)) = true := by simpa using d4
            by_cases d5 : (m : Int) = 0
            · have g5 : ((m : Int) == 0) = true := by simpa using d5
              go_enter Tryd.func49, Tryd.ntmps49
              go_wp2_with fail
              refine (HN.out _).mono ?_
              rintro e w4 ⟨rfl, hb4⟩
              obtain ⟨f1, f2, f3⟩ := HF.out w4 hb4
              have F3 : Hid (Below w.heap.size w w4) := f3
              have x3 : w4.cell? ⟨w.heap.size, 3, none⟩ = some (.int .i64 p) := (cell_of_row _ _ 3 _ _ _ f1).trans rfl
              have x4 : w4.cell? ⟨w.heap.size, 4, none⟩ = some (.slice ad m cap) := (cell_of_row _ _ 4 _ _ _ f1).trans rfl
              have y2 : w4.cell? ⟨w.heap.size + 1, 2, none⟩ = some (.int .i64 0) := (cell_of_row _ _ 2 _ _ _ f2).trans rfl
              have y3 : w4.cell? ⟨w.heap.size + 1, 3, none⟩ = some (.int .i64 0) := (cell_of_row _ _ 3 _ _ _ f2).trans rfl
              have y4 : w4.cell? ⟨w.heap.size + 1, 4, none⟩ = some (.int .i64 0) := (cell_of_row _ _ 4 _ _ _ f2).trans rfl
              clear hb4 f1 f2 f3
              go_wp2_with fail
              go_ret
              exact ⟨by rw [← HR.out]; simp_all; try (intros; omega), F3.out⟩
            · have g5 : ((m : Int) == 0) = false := by simpa using d5
              go_enter Tryd.func49, Tryd.ntmps49
              go_wp2_with fail
              refine (HN.out _).mono ?_
              rintro e w4 ⟨rfl, hb4⟩
              obtain ⟨f1, f2, f3⟩ := HF.out w4 hb4
              have F3 : Hid (Below w.heap.size w w4) := f3
              have x3 : w4.cell? ⟨w.heap.size, 3, none⟩ = some (.int .i64 p) := (cell_of_row _ _ 3 _ _ _ f1).trans rfl
              have x4 : w4.cell? ⟨w.heap.size, 4, none⟩ = some (.slice ad m cap) := (cell_of_row _ _ 4 _ _ _ f1).trans rfl
              have y2 : w4.cell? ⟨w.heap.size + 1, 2, none⟩ = some (.int .i64 0) := (cell_of_row _ _ 2 _ _ _ f2).trans rfl
              have y3 : w4.cell? ⟨w.heap.size + 1, 3, none⟩ = some (.int .i64 0) := (cell_of_row _ _ 3 _ _ _ f2).trans rfl
              have y4 : w4.cell? ⟨w.heap.size + 1, 4, none⟩ = some (.int .i64 0) := (cell_of_row _ _ 4 _ _ _ f2).trans rfl
              clear hb4 f1 f2 f3
              go_wp2_with fail
              go_ret
              exact ⟨by rw [← HR.out]; simp_all; try (intros; omega), F3.out⟩
          · have g4 : decide (p ≤ (0 : Int)) = false := by simpa using d4
            go_enter Tryd.func49, Tryd.ntmps49
            go_wp2_with fail
            refine (HN.out _).mono ?_
            rintro e w4 ⟨rfl, hb4⟩
            obtain ⟨f1, f2, f3⟩ := HF.out w4 hb4
            have F3 : Hid (Below w.heap.size w w4) := f3
            have x3 : w4.cell? ⟨w.heap.size, 3, none⟩ = some (.int .i64 p) := (cell_of_row _ _ 3 _ _ _ f1).trans rfl
            have x4 : w4.cell? ⟨w.heap.size, 4, none⟩ = some (.slice ad m cap) := (cell_of_row _ _ 4 _ _ _ f1).trans rfl
            have y2 : w4.cell? ⟨w.heap.size + 1, 2, none⟩ = some (.int .i64 0) := (cell_of_row _ _ 2 _ _ _ f2).trans rfl
            have y3 : w4.cell? ⟨w.heap.size + 1, 3, none⟩ = some (.int .i64 0) := (cell_of_row _ _ 3 _ _ _ f2).trans rfl
            have y4 : w4.cell? ⟨w.heap.size + 1, 4, none⟩ = some (.int .i64 0) := (cell_of_row _ _ 4 _ _ _ f2).trans rfl
            clear hb4 f1 f2 f3
            go_wp2_with fail
            go_ret
            exact ⟨by rw [← HR.out]; simp_all; try (intros; omega), F3.out⟩
        · have g3 : decide ((0 : Int) ≤ p) = false := by simpa using d3
          go_enter Tryd.func49, Tryd.ntmps49
          go_wp2_with fail
          refine (HN.out _).mono ?_
          rintro e w4 ⟨rfl, hb4⟩
          obtain ⟨f1, f2, f3⟩ := HF.out w4 hb4
          have F3 : Hid (Below w.heap.size w w4) := f3
          have x3 : w4.cell? ⟨w.heap.size, 3, none⟩ = some (.int .i64 p) := (cell_of_row _ _ 3 _ _ _ f1).trans rfl
          have x4 : w4.cell? ⟨w.heap.size, 4, none⟩ = some (.slice ad m cap) := (cell_of_row _ _ 4 _ _ _ f1).trans rfl
          have y2 : w4.cell? ⟨w.heap.size + 1, 2, none⟩ = some (.int .i64 0) := (cell_of_row _ _ 2 _ _ _ f2).trans rfl
          have y3 : w4.cell? ⟨w.heap.size + 1, 3, none⟩ = some (.int .i64 0) := (cell_of_row _ _ 3 _ _ _ f2).trans rfl
          have y4 : w4.cell? ⟨w.heap.size + 1, 4, none⟩ = some (.int .i64 0) := (cell_of_row _ _ 4 _ _ _ f2).trans rfl
          clear hb4 f1 f2 f3
          go_wp2_with fail
          go_ret
          exact ⟨by rw [← HR.out]; simp_all; try (intros; omega), F3.out⟩
    · have e1 : decide (0 < n) = false := by simpa using c1
      go_enter Tryd.func49, Tryd.ntmps49
      go_wp2_with fail
      go_ret
      exact ⟨by rw [← HR.out]; simp_all; try (intros; omega), HB2.out⟩

set_option maxRecDepth 100000 in
set_option maxHeartbeats 8000000 in
theorem exprFits_2 (n : Int) (s : ByteArray) (p : Int) (ad : Option Addr) (m cap : Nat) (hm : m ≤ 9223372036854775807) (hs : s.size ≤ maxLen) (w : World) (hT : TB w) : Calls Tryd.prog 49 #[.agg #[.int .i64 2, .int .i64 n, .string s, .int .i64 p, .slice ad m cap]] w (QB w (exprB ⟨false, true, 0, 0, 0⟩ n s p m)) := by
  obtain ⟨⟨ty, fr, hT⟩, _⟩ := hT
  have hlt : 2 < w.heap.size := (Array.getElem?_eq_some_iff.1 hT).1
  have t0 : ∀ A, (w.alloc A).cell? ⟨2, 10, none⟩ = some (.bool false) := fun A => by rw [World.cell?_of_block (a := ⟨2, 10, none⟩) (Below.heap_alloc _ _ _ hlt)]; exact (cell_of_row w 2 10 _ _ _ hT).trans rfl
  have t1 : ∀ A, (w.alloc A).cell? ⟨2, 11, none⟩ = some (.bool true) := fun A => by rw [World.cell?_of_block (a := ⟨2, 11, none⟩) (Below.heap_alloc _ _ _ hlt)]; exact (cell_of_row w 2 11 _ _ _ hT).trans rfl
  have t2 : ∀ A, (w.alloc A).cell? ⟨2, 12, none⟩ = some (.int .i64 0) := fun A => by rw [World.cell?_of_block (a := ⟨2, 12, none⟩) (Below.heap_alloc _ _ _ hlt)]; exact (cell_of_row w 2 12 _ _ _ hT).trans rfl
  have t3 : ∀ A, (w.alloc A).cell? ⟨2, 13, none⟩ = some (.int .i64 0) := fun A => by rw [World.cell?_of_block (a := ⟨2, 13, none⟩) (Below.heap_alloc _ _ _ hlt)]; exact (cell_of_row w 2 13 _ _ _ hT).trans rfl
  have t4 : ∀ A, (w.alloc A).cell? ⟨2, 14, none⟩ = some (.int .i64 0) := fun A => by rw [World.cell?_of_block (a := ⟨2, 14, none⟩) (Below.heap_alloc _ _ _ hlt)]; exact (cell_of_row w 2 14 _ _ _ hT).trans rfl
  have HN : Hid (∀ W, Calls Tryd.prog 48 #[.string s, .bool true] W (QB W (nameF s true))) := fun W => nameFits_any s true hs W
  obtain ⟨res, hres⟩ : ∃ r, exprB ⟨false, true, 0, 0, 0⟩ n s p m = r := ⟨_, rfl⟩
  have HR : Hid (exprB ⟨false, true, 0, 0, 0⟩ n s p m = res) := hres
  rw [hres]
  unfold exprB at HR
  simp only at HR
  obtain ⟨b2, hb2⟩ : ∃ b, nameF s true = b := ⟨_, rfl⟩
  rw [hb2] at HN HR
  clear hres hb2 hT hs
  have HB2 : Hid (Below w.heap.size w ((w.alloc (.cells #[.int .i64 2, .int .i64 n, .string s, .int .i64 p, .slice ad m cap] 42)).alloc (.cells #[.bool false, .bool true, .int .i64 0, .int .i64 0, .int .i64 0] 92))) := ((Below.refl _ _).alloc (Nat.le_refl _) _).alloc (by simp) _
  have HF : Hid (∀ w4, Below ((w.alloc (.cells #[.int .i64 2, .int .i64 n, .string s, .int .i64 p, .slice ad m cap] 42)).alloc (.cells #[.bool false, .bool true, .int .i64 0, .int .i64 0, .int .i64 0] 92)).heap.size ((w.alloc (.cells #[.int .i64 2, .int .i64 n, .string s, .int .i64 p, .slice ad m cap] 42)).alloc (.cells #[.bool false, .bool true, .int .i64 0, .int .i64 0, .int .i64 0] 92)) w4 → w4.heap[w.heap.size]? = some (.cells #[.int .i64 2, .int .i64 n, .string s, .int .i64 p, .slice ad m cap] 42) ∧ w4.heap[w.heap.size + 1]? = some (.cells #[.bool false, .bool true, .int .i64 0, .int .i64 0, .int .i64 0] 92) ∧ Below w.heap.size w w4) := by
    intro w4 hb
    refine ⟨(hb.block _ (by simp; omega)).trans ((Below.heap_alloc _ _ _ (by simp)).trans (heap_alloc_new w _)), (hb.block _ (by simp)).trans ?_, HB2.out.trans (hb.mono (by simp; omega))⟩
    have := heap_alloc_new (w.alloc (.cells #[.int .i64 2, .int .i64 n, .string s, .int .i64 p, .slice ad m cap] 42)) (.cells #[.bool false, .bool true, .int .i64 0, .int .i64 0, .int .i64 0] 92)
    rw [show (w.alloc (.cells #[.int .i64 2, .int .i64 n, .string s, .int .i64 p, .slice ad m cap] 42)).heap.size = w.heap.size + 1 by simp] at this
    exact this
  by_cases c0 : n = 0
  · subst c0
    cases b2
    · go_enter Tryd.func49, Tryd.ntmps49
      go_wp2_with fail
      refine (HN.out _).mono ?_
      rintro e w4 ⟨rfl, hb4⟩
      obtain ⟨f1, f2, f3⟩ := HF.out w4 hb4
      have F3 : Hid (Below w.heap.size w w4) := f3
      have x3 : w4.cell? ⟨w.heap.size, 3, none⟩ = some (.int .i64 p) := (cell_of_row _ _ 3 _ _ _ f1).trans rfl
      have x4 : w4.cell? ⟨w.heap.size, 4, none⟩ = some (.slice ad m cap) := (cell_of_row _ _ 4 _ _ _ f1).trans rfl
      have y2 : w4.cell? ⟨w.heap.size + 1, 2, none⟩ = some (.int .i64 0) := (cell_of_row _ _ 2 _ _ _ f2).trans rfl
      have y3 : w4.cell? ⟨w.heap.size + 1, 3, none⟩ = some (.int .i64 0) := (cell_of_row _ _ 3 _ _ _ f2).trans rfl
      have y4 : w4.cell? ⟨w.heap.size + 1, 4, none⟩ = some (.int .i64 0) := (cell_of_row _ _ 4 _ _ _ f2).trans rfl
      clear hb4 f1 f2 f3
      go_wp2_with fail
      go_ret
      exact ⟨by rw [← HR.out]; simp_all; try (intros; omega), F3.out⟩
    · by_cases d3 : (0 : Int) ≤ p
      · have g3 : decide ((0 : Int) ≤ p) = true := by simpa using d3
        by_cases d4 : p ≤ (0 : Int)
        · have g4 : decide (p ≤ (0 : Int)) = true := by simpa using d4
          by_cases d5 : (m : Int) = 0
          · have g5 : ((m : Int) == 0) = true := by simpa using d5
            go_enter Tryd.func49, Tryd.ntmps49
            go_wp2_with fail
            refine (HN.out _).mono ?_
            rintro e w4 ⟨rfl, hb4⟩
            obtain ⟨f1, f2, f3⟩ := HF.out w4 hb4
            have F3 : Hid (Below w.heap.size w w4) := f3
            have x3 : w4.cell? ⟨w.heap.size, 3, none⟩ = some (.int .i64 p) := (cell_of_row _ _ 3 _ _ _ f1).trans rfl
            have x4 : w4.cell? ⟨w.heap.size, 4, none⟩ = some (.slice ad m cap) := (cell_of_row _ _ 4 _ _ _ f1).trans rfl
            have y2 : w4.cell? ⟨w.heap.size + 1, 2, none⟩ = some (.int .i64 0) := (cell_of_row _ _ 2 _ _ _ f2).trans rfl
            have y3 : w4.cell? ⟨w.heap.size + 1, 3, none⟩ = some (.int .i64 0) := (cell_of_row _ _ 3 _ _ _ f2).trans rfl
            have y4 : w4.cell? ⟨w.heap.size + 1, 4, none⟩ = some (.int .i64 0) := (cell_of_row _ _ 4 _ _ _ f2).trans rfl
            clear hb4 f1 f2 f3
            go_wp2_with fail
            go_ret
            exact ⟨by rw [← HR.out]; simp_all; try (intros; omega), F3.out⟩
          · have g5 : ((m : Int) == 0) = false := by simpa using d5
            go_enter Tryd.func49, Tryd.ntmps49
            go_wp2_with fail
            refine (HN.out _).mono ?_
            rintro e w4 ⟨rfl, hb4⟩
            obtain ⟨f1, f2, f3⟩ := HF.out w4 hb4
            have F3 : Hid (Below w.heap.size w w4) := f3
            have x3 : w4.cell? ⟨w.heap.size, 3, none⟩ = some (.int .i64 p) := (cell_of_row _ _ 3 _ _ _ f1).trans rfl
            have x4 : w4.cell? ⟨w.heap.size, 4, none⟩ = some (.slice ad m cap) := (cell_of_row _ _ 4 _ _ _ f1).trans rfl
            have y2 : w4.cell? ⟨w.heap.size + 1, 2, none⟩ = some (.int .i64 0) := (cell_of_row _ _ 2 _ _ _ f2).trans rfl
            have y3 : w4.cell? ⟨w.heap.size + 1, 3, none⟩ = some (.int .i64 0) := (cell_of_row _ _ 3 _ _ _ f2).trans rfl
            have y4 : w4.cell? ⟨w.heap.size + 1, 4, none⟩ = some (.int .i64 0) := (cell_of_row _ _ 4 _ _ _ f2).trans rfl
            clear hb4 f1 f2 f3
            go_wp2_with fail
            go_ret
            exact ⟨by rw [← HR.out]; simp_all; try (intros; omega), F3.out⟩
        · have g4 : decide (p ≤ (0 : Int)) = false := by simpa using d4
          go_enter Tryd.func49, Tryd.ntmps49
          go_wp2_with fail
          refine (HN.out _).mono ?_
          rintro e w4 ⟨rfl, hb4⟩
          obtain ⟨f1, f2, f3⟩ := HF.out w4 hb4
          have F3 : Hid (Below w.heap.size w w4) := f3
          have x3 : w4.cell? ⟨w.heap.size, 3, none⟩ = some (.int .i64 p) := (cell_of_row _ _ 3 _ _ _ f1).trans rfl
          have x4 : w4.cell? ⟨w.heap.size, 4, none⟩ = some (.slice ad m cap) := (cell_of_row _ _ 4 _ _ _ f1).trans rfl
          have y2 : w4.cell? ⟨w.heap.size + 1, 2, none⟩ = some (.int .i64 0) := (cell_of_row _ _ 2 _ _ _ f2).trans rfl
          have y3 : w4.cell? ⟨w.heap.size + 1, 3, none⟩ = some (.int .i64 0) := (cell_of_row _ _ 3 _ _ _ f2).trans rfl
          have y4 : w4.cell? ⟨w.heap.size + 1, 4, none⟩ = some (.int .i64 0) := (cell_of_row _ _ 4 _ _ _ f2).trans rfl
          clear hb4 f1 f2 f3
          go_wp2_with fail
          go_ret
          exact ⟨by rw [← HR.out]; simp_all; try (intros; omega), F3.out⟩
      · have g3 : decide ((0 : Int) ≤ p) = false := by simpa using d3
        go_enter Tryd.func49, Tryd.ntmps49
        go_wp2_with fail
        refine (HN.out _).mono ?_
        rintro e w4 ⟨rfl, hb4⟩
        obtain ⟨f1, f2, f3⟩ := HF.out w4 hb4
        have F3 : Hid (Below w.heap.size w w4) := f3
        have x3 : w4.cell? ⟨w.heap.size, 3, none⟩ = some (.int .i64 p) := (cell_of_row _ _ 3 _ _ _ f1).trans rfl
        have x4 : w4.cell? ⟨w.heap.size, 4, none⟩ = some (.slice ad m cap) := (cell_of_row _ _ 4 _ _ _ f1).trans rfl
        have y2 : w4.cell? ⟨w.heap.size + 1, 2, none⟩ = some (.int .i64 0) := (cell_of_row _ _ 2 _ _ _ f2).trans rfl
        have y3 : w4.cell? ⟨w.heap.size + 1, 3, none⟩ = some (.int .i64 0) := (cell_of_row _ _ 3 _ _ _ f2).trans rfl
        have y4 : w4.cell? ⟨w.heap.size + 1, 4, none⟩ = some (.int .i64 0) := (cell_of_row _ _ 4 _ _ _ f2).trans rfl
        clear hb4 f1 f2 f3
        go_wp2_with fail
        go_ret
        exact ⟨by rw [← HR.out]; simp_all; try (intros; omega), F3.out⟩
  · have e0 : (n == 0) = false := by simpa using c0
    go_enter Tryd.func49, Tryd.ntmps49
    go_wp2_with fail
    go_ret
    exact ⟨by rw [← HR.out]; simp_all; try (intros; omega), HB2.out⟩

set_option maxRecDepth 100000 in
set_option maxHeartbeats 8000000 in
theorem exprFits_3 (n : Int) (s : ByteArray) (p : Int) (ad : Option Addr) (m cap : Nat) (hm : m ≤ 9223372036854775807) (hs : s.size ≤ maxLen) (w : World) (hT : TB w) : Calls Tryd.prog 49 #[.agg #[.int .i64 3, .int .i64 n, .string s, .int .i64 p, .slice ad m cap]] w (QB w (exprB ⟨false, false, 0, 0, 1⟩ n s p m)) := by
  obtain ⟨⟨ty, fr, hT⟩, _⟩ := hT
  have hlt : 2 < w.heap.size := (Array.getElem?_eq_some_iff.1 hT).1
  have t0 : ∀ A, (w.alloc A).cell? ⟨2, 15, none⟩ = some (.bool false) := fun A => by rw [World.cell?_of_block (a := ⟨2, 15, none⟩) (Below.heap_alloc _ _ _ hlt)]; exact (cell_of_row w 2 15 _ _ _ hT).trans rfl
  have t1 : ∀ A, (w.alloc A).cell? ⟨2, 16, none⟩ = some (.bool false) := fun A => by rw [World.cell?_of_block (a := ⟨2, 16, none⟩) (Below.heap_alloc _ _ _ hlt)]; exact (cell_of_row w 2 16 _ _ _ hT).trans rfl
  have t2 : ∀ A, (w.alloc A).cell? ⟨2, 17, none⟩ = some (.int .i64 0) := fun A => by rw [World.cell?_of_block (a := ⟨2, 17, none⟩) (Below.heap_alloc _ _ _ hlt)]; exact (cell_of_row w 2 17 _ _ _ hT).trans rfl
  have t3 : ∀ A, (w.alloc A).cell? ⟨2, 18, none⟩ = some (.int .i64 0) := fun A => by rw [World.cell?_of_block (a := ⟨2, 18, none⟩) (Below.heap_alloc _ _ _ hlt)]; exact (cell_of_row w 2 18 _ _ _ hT).trans rfl
  have t4 : ∀ A, (w.alloc A).cell? ⟨2, 19, none⟩ = some (.int .i64 1) := fun A => by rw [World.cell?_of_block (a := ⟨2, 19, none⟩) (Below.heap_alloc _ _ _ hlt)]; exact (cell_of_row w 2 19 _ _ _ hT).trans rfl
  have HN : Hid (∀ W, Calls Tryd.prog 48 #[.string s, .bool false] W (QB W (nameF s false))) := fun W => nameFits_any s false hs W
  obtain ⟨res, hres⟩ : ∃ r, exprB ⟨false, false, 0, 0, 1⟩ n s p m = r := ⟨_, rfl⟩
  have HR : Hid (exprB ⟨false, false, 0, 0, 1⟩ n s p m = res) := hres
  rw [hres]
  unfold exprB at HR
  simp only at HR
  obtain ⟨b2, hb2⟩ : ∃ b, nameF s false = b := ⟨_, rfl⟩
  rw [hb2] at HN HR
  clear hres hb2 hT hs
  have HB2 : Hid (Below w.heap.size w ((w.alloc (.cells #[.int .i64 3, .int .i64 n, .string s, .int .i64 p, .slice ad m cap] 42)).alloc (.cells #[.bool false, .bool false, .int .i64 0, .int .i64 0, .int .i64 1] 92))) := ((Below.refl _ _).alloc (Nat.le_refl _) _).alloc (by simp) _
  have HF : Hid (∀ w4, Below ((w.alloc (.cells #[.int .i64 3, .int .i64 n, .string s, .int .i64 p, .slice ad m cap] 42)).alloc (.cells #[.bool false, .bool false, .int .i64 0, .int .i64 0, .int .i64 1] 92)).heap.size ((w.alloc (.cells #[.int .i64 3, .int .i64 n, .string s, .int .i64 p, .slice ad m cap] 42)).alloc (.cells #[.bool false, .bool false, .int .i64 0, .int .i64 0, .int .i64 1] 92)) w4 → w4.heap[w.heap.size]? = some (.cells #[.int .i64 3, .int .i64 n, .string s, .int .i64 p, .slice ad m cap] 42) ∧ w4.heap[w.heap.size + 1]? = some (.cells #[.bool false, .bool false, .int .i64 0, .int .i64 0, .int .i64 1] 92) ∧ Below w.heap.size w w4) := by
    intro w4 hb
    refine ⟨(hb.block _ (by simp; omega)).trans ((Below.heap_alloc _ _ _ (by simp)).trans (heap_alloc_new w _)), (hb.block _ (by simp)).trans ?_, HB2.out.trans (hb.mono (by simp; omega))⟩
    have := heap_alloc_new (w.alloc (.cells #[.int .i64 3, .int .i64 n, .string s, .int .i64 p, .slice ad m cap] 42)) (.cells #[.bool false, .bool false, .int .i64 0, .int .i64 0, .int .i64 1] 92)
    rw [show (w.alloc (.cells #[.int .i64 3, .int .i64 n, .string s, .int .i64 p, .slice ad m cap] 42)).heap.size = w.heap.size + 1 by simp] at this
    exact this
  by_cases c0 : n = 0
  · subst c0
    cases b2
    · go_enter Tryd.func49, Tryd.ntmps49
      go_wp2_with fail
      refine (HN.out _).mono ?_
      rintro e w4 ⟨rfl, hb4⟩
      obtain ⟨f1, f2, f3⟩ := HF.out w4 hb4
      have F3 : Hid (Below w.heap.size w w4) := f3
      have x3 : w4.cell? ⟨w.heap.size, 3, none⟩ = some (.int .i64 p) := (cell_of_row _ _ 3 _ _ _ f1).trans rfl
      have x4 : w4.cell? ⟨w.heap.size, 4, none⟩ = some (.slice ad m cap) := (cell_of_row _ _ 4 _ _ _ f1).trans rfl
      have y2 : w4.cell? ⟨w.heap.size + 1, 2, none⟩ = some (.int .i64 0) := (cell_of_row _ _ 2 _ _ _ f2).trans rfl
      have y3 : w4.cell? ⟨w.heap.size + 1, 3, none⟩ = some (.int .i64 0) := (cell_of_row _ _ 3 _ _ _ f2).trans rfl
      have y4 : w4.cell? ⟨w.heap.size + 1, 4, none⟩ = some (.int .i64 1) := (cell_of_row _ _ 4 _ _ _ f2).trans rfl
      clear hb4 f1 f2 f3
      go_wp2_with fail
      go_ret
      exact ⟨by rw [← HR.out]; simp_all; try (intros; omega), F3.out⟩
    · by_cases d3 : (0 : Int) ≤ p
      · have g3 : decide ((0 : Int) ≤ p) = true := by simpa using d3
        by_cases d4 : p ≤ (0 : Int)
        · have g4 : decide (p ≤ (0 : Int)) = true := by simpa using d4
          by_cases d5 : (m : Int) = 1
          · have g5 : ((m : Int) == 1) = true := by simpa using d5
            go_enter Tryd.func49, Tryd.ntmps49
            go_wp2_with fail
            refine (HN.out _).mono ?_
            rintro e w4 ⟨rfl, hb4⟩
            obtain ⟨f1, f2, f3⟩ := HF.out w4 hb4
            have F3 : Hid (Below w.heap.size w w4) := f3
            have x3 : w4.cell? ⟨w.heap.size, 3, none⟩ = some (.int .i64 p) := (cell_of_row _ _ 3 _ _ _ f1).trans rfl
            have x4 : w4.cell? ⟨w.heap.size, 4, none⟩ = some (.slice ad m cap) := (cell_of_row _ _ 4 _ _ _ f1).trans rfl
            have y2 : w4.cell? ⟨w.heap.size + 1, 2, none⟩ = some (.int .i64 0) := (cell_of_row _ _ 2 _ _ _ f2).trans rfl
            have y3 : w4.cell? ⟨w.heap.size + 1, 3, none⟩ = some (.int .i64 0) := (cell_of_row _ _ 3 _ _ _ f2).trans rfl
            have y4 : w4.cell? ⟨w.heap.size + 1, 4, none⟩ = some (.int .i64 1) := (cell_of_row _ _ 4 _ _ _ f2).trans rfl
            clear hb4 f1 f2 f3
            go_wp2_with fail
            go_ret
            exact ⟨by rw [← HR.out]; simp_all; try (intros; omega), F3.out⟩
          · have g5 : ((m : Int) == 1) = false := by simpa using d5
            go_enter Tryd.func49, Tryd.ntmps49
            go_wp2_with fail
            refine (HN.out _).mono ?_
            rintro e w4 ⟨rfl, hb4⟩
            obtain ⟨f1, f2, f3⟩ := HF.out w4 hb4
            have F3 : Hid (Below w.heap.size w w4) := f3
            have x3 : w4.cell? ⟨w.heap.size, 3, none⟩ = some (.int .i64 p) := (cell_of_row _ _ 3 _ _ _ f1).trans rfl
            have x4 : w4.cell? ⟨w.heap.size, 4, none⟩ = some (.slice ad m cap) := (cell_of_row _ _ 4 _ _ _ f1).trans rfl
            have y2 : w4.cell? ⟨w.heap.size + 1, 2, none⟩ = some (.int .i64 0) := (cell_of_row _ _ 2 _ _ _ f2).trans rfl
            have y3 : w4.cell? ⟨w.heap.size + 1, 3, none⟩ = some (.int .i64 0) := (cell_of_row _ _ 3 _ _ _ f2).trans rfl
            have y4 : w4.cell? ⟨w.heap.size + 1, 4, none⟩ = some (.int .i64 1) := (cell_of_row _ _ 4 _ _ _ f2).trans rfl
            clear hb4 f1 f2 f3
            go_wp2_with fail
            go_ret
            exact ⟨by rw [← HR.out]; simp_all; try (intros; omega), F3.out⟩
        · have g4 : decide (p ≤ (0 : Int)) = false := by simpa using d4
          go_enter Tryd.func49, Tryd.ntmps49
          go_wp2_with fail
          refine (HN.out _).mono ?_
          rintro e w4 ⟨rfl, hb4⟩
          obtain ⟨f1, f2, f3⟩ := HF.out w4 hb4
          have F3 : Hid (Below w.heap.size w w4) := f3
          have x3 : w4.cell? ⟨w.heap.size, 3, none⟩ = some (.int .i64 p) := (cell_of_row _ _ 3 _ _ _ f1).trans rfl
          have x4 : w4.cell? ⟨w.heap.size, 4, none⟩ = some (.slice ad m cap) := (cell_of_row _ _ 4 _ _ _ f1).trans rfl
          have y2 : w4.cell? ⟨w.heap.size + 1, 2, none⟩ = some (.int .i64 0) := (cell_of_row _ _ 2 _ _ _ f2).trans rfl
          have y3 : w4.cell? ⟨w.heap.size + 1, 3, none⟩ = some (.int .i64 0) := (cell_of_row _ _ 3 _ _ _ f2).trans rfl
          have y4 : w4.cell? ⟨w.heap.size + 1, 4, none⟩ = some (.int .i64 1) := (cell_of_row _ _ 4 _ _ _ f2).trans rfl
          clear hb4 f1 f2 f3
          go_wp2_with fail
          go_ret
          exact ⟨by rw [← HR.out]; simp_all; try (intros; omega), F3.out⟩
      · have g3 : decide ((0 : Int) ≤ p) = false := by simpa using d3
        go_enter Tryd.func49, Tryd.ntmps49
        go_wp2_with fail
        refine (HN.out _).mono ?_
        rintro e w4 ⟨rfl, hb4⟩
        obtain ⟨f1, f2, f3⟩ := HF.out w4 hb4
        have F3 : Hid (Below w.heap.size w w4) := f3
        have x3 : w4.cell? ⟨w.heap.size, 3, none⟩ = some (.int .i64 p) := (cell_of_row _ _ 3 _ _ _ f1).trans rfl
        have x4 : w4.cell? ⟨w.heap.size, 4, none⟩ = some (.slice ad m cap) := (cell_of_row _ _ 4 _ _ _ f1).trans rfl
        have y2 : w4.cell? ⟨w.heap.size + 1, 2, none⟩ = some (.int .i64 0) := (cell_of_row _ _ 2 _ _ _ f2).trans rfl
        have y3 : w4.cell? ⟨w.heap.size + 1, 3, none⟩ = some (.int .i64 0) := (cell_of_row _ _ 3 _ _ _ f2).trans rfl
        have y4 : w4.cell? ⟨w.heap.size + 1, 4, none⟩ = some (.int .i64 1) := (cell_of_row _ _ 4 _ _ _ f2).trans rfl
        clear hb4 f1 f2 f3
        go_wp2_with fail
        go_ret
        exact ⟨by rw [← HR.out]; simp_all; try (intros; omega), F3.out⟩
  · have e0 : (n == 0) = false := by simpa using c0
    go_enter Tryd.func49, Tryd.ntmps49
    go_wp2_with fail
    go_ret
    exact ⟨by rw [← HR.out]; simp_all; try (intros; omega), HB2.out⟩

set_option maxRecDepth 100000 in
set_option maxHeartbeats 8000000 in
theorem exprFits_4 (n : Int) (s : ByteArray) (p : Int) (ad : Option Addr) (m cap : Nat) (hm : m ≤ 9223372036854775807) (hs : s.size ≤ maxLen) (w : World) (hT : TB w) : Calls Tryd.prog 49 #[.agg #[.int .i64 4, .int .i64 n, .string s, .int .i64 p, .slice ad m cap]] w (QB w (exprB ⟨false, false, 19, 21, 1⟩ n s p m)) := by
  obtain ⟨⟨ty, fr, hT⟩, _⟩ := hT
  have hlt : 2 < w.heap.size := (Array.getElem?_eq_some_iff.1 hT).1
  have t0 : ∀ A, (w.alloc A).cell? ⟨2, 20, none⟩ = some (.bool false) := fun A => by rw [World.cell?_of_block (a := ⟨2, 20, none⟩) (Below.heap_alloc _ _ _ hlt)]; exact (cell_of_row w 2 20 _ _ _ hT).trans rfl
  have t1 : ∀ A, (w.alloc A).cell? ⟨2, 21, none⟩ = some (.bool false) := fun A => by rw [World.cell?_of_block (a := ⟨2, 21, none⟩) (Below.heap_alloc _ _ _ hlt)]; exact (cell_of_row w 2 21 _ _ _ hT).trans rfl
  have t2 : ∀ A, (w.alloc A).cell? ⟨2, 22, none⟩ = some (.int .i64 19) := fun A => by rw [World.cell?_of_block (a := ⟨2, 22, none⟩) (Below.heap_alloc _ _ _ hlt)]; exact (cell_of_row w 2 22 _ _ _ hT).trans rfl
  have t3 : ∀ A, (w.alloc A).cell? ⟨2, 23, none⟩ = some (.int .i64 21) := fun A => by rw [World.cell?_of_block (a := ⟨2, 23, none⟩) (Below.heap_alloc _ _ _ hlt)]; exact (cell_of_row w 2 23 _ _ _ hT).trans rfl
  have t4 : ∀ A, (w.alloc A).cell? ⟨2, 24, none⟩ = some (.int .i64 1) := fun A => by rw [World.cell?_of_block (a := ⟨2, 24, none⟩) (Below.heap_alloc _ _ _ hlt)]; exact (cell_of_row w 2 24 _ _ _ hT).trans rfl
  have HN : Hid (∀ W, Calls Tryd.prog 48 #[.string s, .bool false] W (QB W (nameF s false))) := fun W => nameFits_any s false hs W
  obtain ⟨res, hres⟩ : ∃ r, exprB ⟨false, false, 19, 21, 1⟩ n s p m = r := ⟨_, rfl⟩
  have HR : Hid (exprB ⟨false, false, 19, 21, 1⟩ n s p m = res) := hres
  rw [hres]
  unfold exprB at HR
  simp only at HR
  obtain ⟨b2, hb2⟩ : ∃ b, nameF s false = b := ⟨_, rfl⟩
  rw [hb2] at HN HR
  clear hres hb2 hT hs
  have HB2 : Hid (Below w.heap.size w ((w.alloc (.cells #[.int .i64 4, .int .i64 n, .string s, .int .i64 p, .slice ad m cap] 42)).alloc (.cells #[.bool false, .bool false, .int .i64 19, .int .i64 21, .int .i64 1] 92))) := ((Below.refl _ _).alloc (Nat.le_refl _) _).alloc (by simp) _
  have HF : Hid (∀ w4, Below ((w.alloc (.cells #[.int .i64 4, .int .i64 n, .string s, .int .i64 p, .slice ad m cap] 42)).alloc (.cells #[.bool false, .bool false, .int .i64 19, .int .i64 21, .int .i64 1] 92)).heap.size ((w.alloc (.cells #[.int .i64 4, .int .i64 n, .string s, .int .i64 p, .slice ad m cap] 42)).alloc (.cells #[.bool false, .bool false, .int .i64 19, .int .i64 21, .int .i64 1] 92)) w4 → w4.heap[w.heap.size]? = some (.cells #[.int .i64 4, .int .i64 n, .string s, .int .i64 p, .slice ad m cap] 42) ∧ w4.heap[w.heap.size + 1]? = some (.cells #[.bool false, .bool false, .int .i64 19, .int .i64 21, .int .i64 1] 92) ∧ Below w.heap.size w w4) := by
    intro w4 hb
    refine ⟨(hb.block _ (by simp; omega)).trans ((Below.heap_alloc _ _ _ (by simp)).trans (heap_alloc_new w _)), (hb.block _ (by simp)).trans ?_, HB2.out.trans (hb.mono (by simp; omega))⟩
    have := heap_alloc_new (w.alloc (.cells #[.int .i64 4, .int .i64 n, .string s, .int .i64 p, .slice ad m cap] 42)) (.cells #[.bool false, .bool false, .int .i64 19, .int .i64 21, .int .i64 1] 92)
    rw [show (w.alloc (.cells #[.int .i64 4, .int .i64 n, .string s, .int .i64 p, .slice ad m cap] 42)).heap.size = w.heap.size + 1 by simp] at this
    exact this
  by_cases c0 : n = 0
  · subst c0
    cases b2
    · go_enter Tryd.func49, Tryd.ntmps49
      go_wp2_with fail
      refine (HN.out _).mono ?_
      rintro e w4 ⟨rfl, hb4⟩
      obtain ⟨f1, f2, f3⟩ := HF.out w4 hb4
      have F3 : Hid (Below w.heap.size w w4) := f3
      have x3 : w4.cell? ⟨w.heap.size, 3, none⟩ = some (.int .i64 p) := (cell_of_row _ _ 3 _ _ _ f1).trans rfl
      have x4 : w4.cell? ⟨w.heap.size, 4, none⟩ = some (.slice ad m cap) := (cell_of_row _ _ 4 _ _ _ f1).trans rfl
      have y2 : w4.cell? ⟨w.heap.size + 1, 2, none⟩ = some (.int .i64 19) := (cell_of_row _ _ 2 _ _ _ f2).trans rfl
      have y3 : w4.cell? ⟨w.heap.size + 1, 3, none⟩ = some (.int .i64 21) := (cell_of_row _ _ 3 _ _ _ f2).trans rfl
      have y4 : w4.cell? ⟨w.heap.size + 1, 4, none⟩ = some (.int .i64 1) := (cell_of_row _ _ 4 _ _ _ f2).trans rfl
      clear hb4 f1 f2 f3
      go_wp2_with fail
      go_ret
      exact ⟨by rw [← HR.out]; simp_all; try (intros; omega), F3.out⟩
    · by_cases d3 : (19 : Int) ≤ p
      · have g3 : decide ((19 : Int) ≤ p) = true := by simpa using d3
        by_cases d4 : p ≤ (21 : Int)
        · have g4 : decide (p ≤ (21 : Int)) = true := by simpa using d4
          by_cases d5 : (m : Int) = 1
          · have g5 : ((m : Int) == 1) = true := by simpa using d5
            go_enter Tryd.func49, Tryd.ntmps49
            go_wp2_with fail
            refine (HN.out _).mono ?_
            rintro e w4 ⟨rfl, hb4⟩
            obtain ⟨f1, f2, f3⟩ := HF.out w4 hb4
            have F3 : Hid (Below w.heap.size w w4) := f3
            have x3 : w4.cell? ⟨w.heap.size, 3, none⟩ = some (.int .i64 p) := (cell_of_row _ _ 3 _ _ _ f1).trans rfl
            have x4 : w4.cell? ⟨w.heap.size, 4, none⟩ = some (.slice ad m cap) := (cell_of_row _ _ 4 _ _ _ f1).trans rfl
            have y2 : w4.cell? ⟨w.heap.size + 1, 2, none⟩ = some (.int .i64 19) := (cell_of_row _ _ 2 _ _ _ f2).trans rfl
            have y3 : w4.cell? ⟨w.heap.size + 1, 3, none⟩ = some (.int .i64 21) := (cell_of_row _ _ 3 _ _ _ f2).trans rfl
            have y4 : w4.cell? ⟨w.heap.size + 1, 4, none⟩ = some (.int .i64 1) := (cell_of_row _ _ 4 _ _ _ f2).trans rfl
            clear hb4 f1 f2 f3
            go_wp2_with fail
            go_ret
            exact ⟨by rw [← HR.out]; simp_all; try (intros; omega), F3.out⟩
          · have g5 : ((m : Int) == 1) = false := by simpa using d5
            go_enter Tryd.func49, Tryd.ntmps49
            go_wp2_with fail
            refine (HN.out _).mono ?_
            rintro e w4 ⟨rfl, hb4⟩
            obtain ⟨f1, f2, f3⟩ := HF.out w4 hb4
            have F3 : Hid (Below w.heap.size w w4) := f3
            have x3 : w4.cell? ⟨w.heap.size, 3, none⟩ = some (.int .i64 p) := (cell_of_row _ _ 3 _ _ _ f1).trans rfl
            have x4 : w4.cell? ⟨w.heap.size, 4, none⟩ = some (.slice ad m cap) := (cell_of_row _ _ 4 _ _ _ f1).trans rfl
            have y2 : w4.cell? ⟨w.heap.size + 1, 2, none⟩ = some (.int .i64 19) := (cell_of_row _ _ 2 _ _ _ f2).trans rfl
            have y3 : w4.cell? ⟨w.heap.size + 1, 3, none⟩ = some (.int .i64 21) := (cell_of_row _ _ 3 _ _ _ f2).trans rfl
            have y4 : w4.cell? ⟨w.heap.size + 1, 4, none⟩ = some (.int .i64 1) := (cell_of_row _ _ 4 _ _ _ f2).trans rfl
            clear hb4 f1 f2 f3
            go_wp2_with fail
            go_ret
            exact ⟨by rw [← HR.out]; simp_all; try (intros; omega), F3.out⟩
        · have g4 : decide (p ≤ (21 : Int)) = false := by simpa using d4
          go_enter Tryd.func49, Tryd.ntmps49
          go_wp2_with fail
          refine (HN.out _).mono ?_
          rintro e w4 ⟨rfl, hb4⟩
          obtain ⟨f1, f2, f3⟩ := HF.out w4 hb4
          have F3 : Hid (Below w.heap.size w w4) := f3
          have x3 : w4.cell? ⟨w.heap.size, 3, none⟩ = some (.int .i64 p) := (cell_of_row _ _ 3 _ _ _ f1).trans rfl
          have x4 : w4.cell? ⟨w.heap.size, 4, none⟩ = some (.slice ad m cap) := (cell_of_row _ _ 4 _ _ _ f1).trans rfl
          have y2 : w4.cell? ⟨w.heap.size + 1, 2, none⟩ = some (.int .i64 19) := (cell_of_row _ _ 2 _ _ _ f2).trans rfl
          have y3 : w4.cell? ⟨w.heap.size + 1, 3, none⟩ = some (.int .i64 21) := (cell_of_row _ _ 3 _ _ _ f2).trans rfl
          have y4 : w4.cell? ⟨w.heap.size + 1, 4, none⟩ = some (.int .i64 1) := (cell_of_row _ _ 4 _ _ _ f2).trans rfl
          clear hb4 f1 f2 f3
          go_wp2_with fail
          go_ret
          exact ⟨by rw [← HR.out]; simp_all; try (intros; omega), F3.out⟩
      · have g3 : decide ((19 : Int) ≤ p) = false := by simpa using d3
        go_enter Tryd.func49, Tryd.ntmps49
        go_wp2_with fail
        refine (HN.out _).mono ?_
        rintro e w4 ⟨rfl, hb4⟩
        obtain ⟨f1, f2, f3⟩ := HF.out w4 hb4
        have F3 : Hid (Below w.heap.size w w4) := f3
        have x3 : w4.cell? ⟨w.heap.size, 3, none⟩ = some (.int .i64 p) := (cell_of_row _ _ 3 _ _ _ f1).trans rfl
        have x4 : w4.cell? ⟨w.heap.size, 4, none⟩ = some (.slice ad m cap) := (cell_of_row _ _ 4 _ _ _ f1).trans rfl
        have y2 : w4.cell? ⟨w.heap.size + 1, 2, none⟩ = some (.int .i64 19) := (cell_of_row _ _ 2 _ _ _ f2).trans rfl
        have y3 : w4.cell? ⟨w.heap.size + 1, 3, none⟩ = some (.int .i64 21) := (cell_of_row _ _ 3 _ _ _ f2).trans rfl
        have y4 : w4.cell? ⟨w.heap.size + 1, 4, none⟩ = some (.int .i64 1) := (cell_of_row _ _ 4 _ _ _ f2).trans rfl
        clear hb4 f1 f2 f3
        go_wp2_with fail
        go_ret
        exact ⟨by rw [← HR.out]; simp_all; try (intros; omega), F3.out⟩
  · have e0 : (n == 0) = false := by simpa using c0
    go_enter Tryd.func49, Tryd.ntmps49
    go_wp2_with fail
    go_ret
    exact ⟨by rw [← HR.out]; simp_all; try (intros; omega), HB2.out⟩

set_option maxRecDepth 100000 in
set_option maxHeartbeats 8000000 in
theorem exprFits_5 (n : Int) (s : ByteArray) (p : Int) (ad : Option Addr) (m cap : Nat) (hm : m ≤ 9223372036854775807) (hs : s.size ≤ maxLen) (w : World) (hT : TB w) : Calls Tryd.prog 49 #[.agg #[.int .i64 5, .int .i64 n, .string s, .int .i64 p, .slice ad m cap]] w (QB w (exprB ⟨false, false, 1, 18, 2⟩ n s p m)) := by
  obtain ⟨⟨ty, fr, hT⟩, _⟩ := hT
  have hlt : 2 < w.heap.size := (Array.getElem?_eq_some_iff.1 hT).1
  have t0 : ∀ A, (w.alloc A).cell? ⟨2, 25, none⟩ = some (.bool false) := fun A => by rw [World.cell?_of_block (a := ⟨2, 25, none⟩) (Below.heap_alloc _ _ _ hlt)]; exact (cell_of_row w 2 25 _ _ _ hT).trans rfl
  have t1 : ∀ A, (w.alloc A).cell? ⟨2, 26, none⟩ = some (.bool false) := fun A => by rw [World.cell?_of_block (a := ⟨2, 26, none⟩) (Below.heap_alloc _ _ _ hlt)]; exact (cell_of_row w 2 26 _ _ _ hT).trans rfl
  have t2 : ∀ A, (w.alloc A).cell? ⟨2, 27, none⟩ = some (.int .i64 1) := fun A => by rw [World.cell?_of_block (a := ⟨2, 27, none⟩) (Below.heap_alloc _ _ _ hlt)]; exact (cell_of_row w 2 27 _ _ _ hT).trans rfl
  have t3 : ∀ A, (w.alloc A).cell? ⟨2, 28, none⟩ = some (.int .i64 18) := fun A => by rw [World.cell?_of_block (a := ⟨2, 28, none⟩) (Below.heap_alloc _ _ _ hlt)]; exact (cell_of_row w 2 28 _ _ _ hT).trans rfl
  have t4 : ∀ A, (w.alloc A).cell? ⟨2, 29, none⟩ = some (.int .i64 2) := fun A => by rw [World.cell?_of_block (a := ⟨2, 29, none⟩) (Below.heap_alloc _ _ _ hlt)]; exact (cell_of_row w 2 29 _ _ _ hT).trans rfl
  have HN : Hid (∀ W, Calls Tryd.prog 48 #[.string s, .bool false] W (QB W (nameF s false))) := fun W => nameFits_any s false hs W
  obtain ⟨res, hres⟩ : ∃ r, exprB ⟨false, false, 1, 18, 2⟩ n s p m = r := ⟨_, rfl⟩
  have HR : Hid (exprB ⟨false, false, 1, 18, 2⟩ n s p m = res) := hres
  rw [hres]
  unfold exprB at HR
  simp only at HR
  obtain ⟨b2, hb2⟩ : ∃ b, nameF s false = b := ⟨_, rfl⟩
  rw [hb2] at HN HR
  clear hres hb2 hT hs
  have HB2 : Hid (Below w.heap.size w ((w.alloc (.cells #[.int .i64 5, .int .i64 n, .string s, .int .i64 p, .slice ad m cap] 42)).alloc (.cells #[.bool false, .bool false, .int .i64 1, .int .i64 18, .int .i64 2] 92))) := ((Below.refl _ _).alloc (Nat.le_refl _) _).alloc (by simp) _
  have HF : Hid (∀ w4, Below ((w.alloc (.cells #[.int .i64 5, .int .i64 n, .string s, .int .i64 p, .slice ad m cap] 42)).alloc (.cells #[.bool false, .bool false, .int .i64 1, .int .i64 18, .int .i64 2] 92)).heap.size ((w.alloc (.cells #[.int .i64 5, .int .i64 n, .string s, .int .i64 p, .slice ad m cap] 42)).alloc (.cells #[.bool false, .bool false, .int .i64 1, .int .i64 18, .int .i64 2] 92)) w4 → w4.heap[w.heap.size]? = some (.cells #[.int .i64 5, .int .i64 n, .string s, .int .i64 p, .slice ad m cap] 42) ∧ w4.heap[w.heap.size + 1]? = some (.cells #[.bool false, .bool false, .int .i64 1, .int .i64 18, .int .i64 2] 92) ∧ Below w.heap.size w w4) := by
    intro w4 hb
    refine ⟨(hb.block _ (by simp; omega)).trans ((Below.heap_alloc _ _ _ (by simp)).trans (heap_alloc_new w _)), (hb.block _ (by simp)).trans ?_, HB2.out.trans (hb.mono (by simp; omega))⟩
    have := heap_alloc_new (w.alloc (.cells #[.int .i64 5, .int .i64 n, .string s, .int .i64 p, .slice ad m cap] 42)) (.cells #[.bool false, .bool false, .int .i64 1, .int .i64 18, .int .i64 2] 92)
    rw [show (w.alloc (.cells #[.int .i64 5, .int .i64 n, .string s, .int .i64 p, .slice ad m cap] 42)).heap.size = w.heap.size + 1 by simp] at this
    exact this
  by_cases c0 : n = 0
  · subst c0
    cases b2
    · go_enter Tryd.func49, Tryd.ntmps49
      go_wp2_with fail
      refine (HN.out _).mono ?_
      rintro e w4 ⟨rfl, hb4⟩
      obtain ⟨f1, f2, f3⟩ := HF.out w4 hb4
      have F3 : Hid (Below w.heap.size w w4) := f3
      have x3 : w4.cell? ⟨w.heap.size, 3, none⟩ = some (.int .i64 p) := (cell_of_row _ _ 3 _ _ _ f1).trans rfl
      have x4 : w4.cell? ⟨w.heap.size, 4, none⟩ = some (.slice ad m cap) := (cell_of_row _ _ 4 _ _ _ f1).trans rfl
      have y2 : w4.cell? ⟨w.heap.size + 1, 2, none⟩ = some (.int .i64 1) := (cell_of_row _ _ 2 _ _ _ f2).trans rfl
      have y3 : w4.cell? ⟨w.heap.size + 1, 3, none⟩ = some (.int .i64 18) := (cell_of_row _ _ 3 _ _ _ f2).trans rfl
      have y4 : w4.cell? ⟨w.heap.size + 1, 4, none⟩ = some (.int .i64 2) := (cell_of_row _ _ 4 _ _ _ f2).trans rfl
      clear hb4 f1 f2 f3
      go_wp2_with fail
      go_ret
      exact ⟨by rw [← HR.out]; simp_all; try (intros; omega), F3.out⟩
    · by_cases d3 : (1 : Int) ≤ p
      · have g3 : decide ((1 : Int) ≤ p) = true := by simpa using d3
        by_cases d4 : p ≤ (18 : Int)
        · have g4 : decide (p ≤ (18 : Int)) = true := by simpa using d4
          by_cases d5 : (m : Int) = 2
          · have g5 : ((m : Int) == 2) = true := by simpa using d5
            go_enter Tryd.func49, Tryd.ntmps49
            go_wp2_with fail
            refine (HN.out _).mono ?_
            rintro e w4 ⟨rfl, hb4⟩
            obtain ⟨f1, f2, f3⟩ := HF.out w4 hb4
            have F3 : Hid (Below w.heap.size w w4) := f3
            have x3 : w4.cell? ⟨w.heap.size, 3, none⟩ = some (.int .i64 p) := (cell_of_row _ _ 3 _ _ _ f1).trans rfl
            have x4 : w4.cell? ⟨w.heap.size, 4, none⟩ = some (.slice ad m cap) := (cell_of_row _ _ 4 _ _ _ f1).trans rfl
            have y2 : w4.cell? ⟨w.heap.size + 1, 2, none⟩ = some (.int .i64 1) := (cell_of_row _ _ 2 _ _ _ f2).trans rfl
            have y3 : w4.cell? ⟨w.heap.size + 1, 3, none⟩ = some (.int .i64 18) := (cell_of_row _ _ 3 _ _ _ f2).trans rfl
            have y4 : w4.cell? ⟨w.heap.size + 1, 4, none⟩ = some (.int .i64 2) := (cell_of_row _ _ 4 _ _ _ f2).trans rfl
            clear hb4 f1 f2 f3
            go_wp2_with fail
            go_ret
            exact ⟨by rw [← HR.out]; simp_all; try (intros; omega), F3.out⟩
          · have g5 : ((m : Int) == 2) = false := by simpa using d5
            go_enter Tryd.func49, Tryd.ntmps49
            go_wp2_with fail
            refine (HN.out _).mono ?_
            rintro e w4 ⟨rfl, hb4⟩
            obtain ⟨f1, f2, f3⟩ := HF.out w4 hb4
            have F3 : Hid (Below w.heap.size w w4) := f3
            have x3 : w4.cell? ⟨w.heap.size, 3, none⟩ = some (.int .i64 p) := (cell_of_row _ _ 3 _ _ _ f1).trans rfl
            have x4 : w4.cell? ⟨w.heap.size, 4, none⟩ = some (.slice ad m cap) := (cell_of_row _ _ 4 _ _ _ f1).trans rfl
            have y2 : w4.cell? ⟨w.heap.size + 1, 2, none⟩ = some (.int .i64 1) := (cell_of_row _ _ 2 _ _ _ f2).trans rfl
            have y3 : w4.cell? ⟨w.heap.size + 1, 3, none⟩ = some (.int .i64 18) := (cell_of_row _ _ 3 _ _ _ f2).trans rfl
            have y4 : w4.cell? ⟨w.heap.size + 1, 4, none⟩ = some (.int .i64 2) := (cell_of_row _ _ 4 _ _ _ f2).trans rfl
            clear hb4 f1 f2 f3
            go_wp2_with fail
            go_ret
            exact ⟨by rw [← HR.out]; simp_all; try (intros; omega), F3.out⟩
        · have g4 : decide (p ≤ (18 : Int)) = false := by simpa using d4
          go_enter Tryd.func49, Tryd.ntmps49
          go_wp2_with fail
          refine (HN.out _).mono ?_
          rintro e w4 ⟨rfl, hb4⟩
          obtain ⟨f1, f2, f3⟩ := HF.out w4 hb4
          have F3 : Hid (Below w.heap.size w w4) := f3
          have x3 : w4.cell? ⟨w.heap.size, 3, none⟩ = some (.int .i64 p) := (cell_of_row _ _ 3 _ _ _ f1).trans rfl
          have x4 : w4.cell? ⟨w.heap.size, 4, none⟩ = some (.slice ad m cap) := (cell_of_row _ _ 4 _ _ _ f1).trans rfl
          have y2 : w4.cell? ⟨w.heap.size + 1, 2, none⟩ = some (.int .i64 1) := (cell_of_row _ _ 2 _ _ _ f2).trans rfl
          have y3 : w4.cell? ⟨w.heap.size + 1, 3, none⟩ = some (.int .i64 18) := (cell_of_row _ _ 3 _ _ _ f2).trans rfl
          have y4 : w4.cell? ⟨w.heap.size + 1, 4, none⟩ = some (.int .i64 2) := (cell_of_row _ _ 4 _ _ _ f2).trans rfl
          clear hb4 f1 f2 f3
          go_wp2_with fail
          go_ret
          exact ⟨by rw [← HR.out]; simp_all; try (intros; omega), F3.out⟩
      · have g3 : decide ((1 : Int) ≤ p) = false := by simpa using d3
        go_enter Tryd.func49, Tryd.ntmps49
        go_wp2_with fail
        refine (HN.out _).mono ?_
        rintro e w4 ⟨rfl, hb4⟩
        obtain ⟨f1, f2, f3⟩ := HF.out w4 hb4
        have F3 : Hid (Below w.heap.size w w4) := f3
        have x3 : w4.cell? ⟨w.heap.size, 3, none⟩ = some (.int .i64 p) := (cell_of_row _ _ 3 _ _ _ f1).trans rfl
        have x4 : w4.cell? ⟨w.heap.size, 4, none⟩ = some (.slice ad m cap) := (cell_of_row _ _ 4 _ _ _ f1).trans rfl
        have y2 : w4.cell? ⟨w.heap.size + 1, 2, none⟩ = some (.int .i64 1) := (cell_of_row _ _ 2 _ _ _ f2).trans rfl
        have y3 : w4.cell? ⟨w.heap.size + 1, 3, none⟩ = some (.int .i64 18) := (cell_of_row _ _ 3 _ _ _ f2).trans rfl
        have y4 : w4.cell? ⟨w.heap.size + 1, 4, none⟩ = some (.int .i64 2) := (cell_of_row _ _ 4 _ _ _ f2).trans rfl
        clear hb4 f1 f2 f3
        go_wp2_with fail
        go_ret
        exact ⟨by rw [← HR.out]; simp_all; try (intros; omega), F3.out⟩
  · have e0 : (n == 0) = false := by simpa using c0
    go_enter Tryd.func49, Tryd.ntmps49
    go_wp2_with fail
    go_ret
    exact ⟨by rw [← HR.out]; simp_all; try (intros; omega), HB2.out⟩
structure HasS where
  name : Bool
  cell : Bool
  body : Bool
  other : Bool
  args : Int
def stmtB (h : HasS) (s : ByteArray) (c : Int) (m bl el : Nat) : Bool := nameF s h.name && (c == 0 || (h.cell && decide (0 < c) && decide (c ≤ 255))) && decide ((m : Int) = h.args) && (h.body || decide (bl = 0)) && (h.other || decide (el = 0))
def hasS (k : Int) : HasS := if k = 1 ∨ k = 2 then ⟨true, false, false, false, 1⟩ else if k = 3 then ⟨false, false, false, false, 2⟩ else if k = 4 ∨ k = 8 then ⟨false, false, false, false, 1⟩ else if k = 5 then ⟨false, true, false, false, 1⟩ else if k = 6 then ⟨false, false, true, true, 1⟩ else if k = 7 then ⟨false, false, true, false, 1⟩ else ⟨false, false, false, false, 0⟩
def stmtOk (k : Int) (s : ByteArray) (c : Int) (m bl el : Nat) : Bool := decide (1 ≤ k ∧ k ≤ 9) && stmtB (hasS k) s c m bl el

theorem exprFits_any (k n : Int) (s : ByteArray) (p : Int) (ad : Option Addr) (m cap : Nat) (hm : m ≤ 9223372036854775807) (hs : s.size ≤ maxLen) (w : World) (hT : TB w) : Calls Tryd.prog 49 #[.agg #[.int .i64 k, .int .i64 n, .string s, .int .i64 p, .slice ad m cap]] w (QB w (exprOk k n s p m)) := by
  by_cases hk : k < 1 ∨ 5 < k
  · have e : exprOk k n s p m = false := by unfold exprOk; rw [show decide (1 ≤ k ∧ k ≤ 5) = false by simp; omega]; rfl
    rw [e]; exact exprFits_out k n s p ad m cap w hk
  · have e : exprOk k n s p m = exprB (hasE k) n s p m := by unfold exprOk; rw [show decide (1 ≤ k ∧ k ≤ 5) = true by simp; omega]; rfl
    rw [e]
    have hk5 : k = 1 ∨ k = 2 ∨ k = 3 ∨ k = 4 ∨ k = 5 := by omega
    rcases hk5 with rfl | rfl | rfl | rfl | rfl
    · exact exprFits_1 n s p ad m cap hm hs w hT
    · exact exprFits_2 n s p ad m cap hm hs w hT
    · exact exprFits_3 n s p ad m cap hm hs w hT
    · exact exprFits_4 n s p ad m cap hm hs w hT
    · exact exprFits_5 n s p ad m cap hm hs w hT
end Go.Proofs.YtnofibjchhcmeabDoor
