/- Which statements may be: the document's Right answers something. -/
import Derived.Test.YtiafdlebggegfabCount
import Derived.Test.YtiafdlebggegfabRefN
import Derived.Deep.QuietTactic
import Derived.BigQuiet
namespace Go.Proofs.Ytiafdlebggegfab
open Go.RowKit Go.Maps Go.WideMaps
set_option linter.unusedVariables false

set_option maxHeartbeats 1000000 in
theorem rname_any (s : ByteArray) (hm : s.size ≤ maxLen) (w : World) :
    Calls Try.prog 20 #[.string s] w fun e w' => e = .returned (.bool (nmB s.data.toList)) ∧ Below w.heap.size w w' := by
  have hl : s.data.toList.length = s.size := by simp
  have hm' := hm
  unfold maxLen at hm
  by_cases h12 : s.size ≤ 12
  · rcases hr : rowC s.data.toList with _ | _
    · have h : nmB s.data.toList = false := by
        unfold nmB
        unfold rowC at hr
        rw [Bool.and_eq_false_iff] at hr ⊢
        rcases hr with h | h
        · exact Or.inl h
        · right
          rw [hl, decide_eq_true h12, Bool.true_and]
          rcases hd : headD s.data.toList with _ | _
          · rw [hd] at h
            simp at h
            simp [h]
          · rfl
      have HRO : Hid (rowC s.data.toList = false) := hr
      rw [h]
      clear h hr
      go_enter Try.func20, Try.ntmps20
      go_wp2_with (go_at_call 25; refine (rrow_any s hm' _).mono ?_; rintro e w' ⟨rfl, hw⟩; rw [hw]; clear hw; rw [HRO.out])
      go_ret
      exact ⟨rfl, Below.refl _ _⟩
    · have h : nmB s.data.toList = !isW s.toList := by
        unfold nmB
        unfold rowC at hr
        rw [Bool.and_eq_true, Bool.and_eq_true] at hr
        rw [hr.1, hr.2.1, hr.2.2, hl, decide_eq_true h12, ByteArray.toList_eq]; rfl
      have HRO : Hid (rowC s.data.toList = true) := hr
      rw [h]
      clear h hr
      go_enter Try.func20, Try.ntmps20
      go_wp2_with (go_at_call 25; refine (rrow_any s hm' _).mono ?_; rintro e w' ⟨rfl, hw⟩; rw [hw]; clear hw; rw [HRO.out])
      refine (rwords_any s _).mono ?_
      rintro e w1 ⟨rfl, hb⟩
      have HB : Hid (Below w.heap.size w w1) := hb
      clear hb
      go_wp2
      go_ret
      exact ⟨rfl, HB.out⟩
  · have h : nmB s.data.toList = false := by
      unfold nmB
      rw [hl, decide_eq_false h12]; simp
    rw [h]
    clear h
    go_enter Try.func20, Try.ntmps20
    go_wp2
    go_ret
    exact ⟨rfl, Below.refl _ _⟩


theorem EAt.len_pos {w : World} {l : EL} {b o : Nat} : l.len = 0 → l = .nil := by
  intro h
  cases l with
  | nil => rfl
  | cons k n s p a r => simp only [EL.len] at h; omega

/-- a call that answers a truth value, and leaves all that was -/
def BoolPost (w : World) (e : Ending) (w' : World) : Prop := ∃ b, e = .returned (.bool b) ∧ Below w.heap.size w w'
def SaysB (f : Nat) (args : Array Value) (w : World) : Prop := Calls Try.prog f args w (BoolPost w)

def DeepC (l : EL) : Prop := ∀ (k n : Int) (s : ByteArray) (p : Int) (ad : Option Addr) (cap : Nat) (w : World), ESl w (.slice ad l.len cap) l → Calls Try.prog 21 #[eV k n s p (.slice ad l.len cap)] w fun e w' => ∃ d : Int, e = .returned (.int .i64 d) ∧ 0 ≤ d ∧ d ≤ 100 ∧ Below w.heap.size w w'

set_option maxRecDepth 100000 in
set_option maxHeartbeats 2000000 in
theorem deep_any : ∀ (N : Nat) (l : EL), l.cnt ≤ N → l.cnt ≤ 1000000000 → DeepC l := by
  intro N
  induction N with
  | zero =>
    intro l hN h9 k n s p ad cap w hE
    have : l = .nil := by cases l with
      | nil => rfl
      | cons k n s p a r => simp only [EL.cnt] at hN; omega
    subst this
    unfold eV
    go_enter Try.func21, Try.ntmps21
    go_wp2
    go_rounds 1
    go_ret
    exact ⟨1, rfl, by omega, by omega, (Below.refl _ _).alloc (Nat.le_refl _) _⟩
  | succ N ih =>
    intro l hN h9 k n s p ad cap w hE
    obtain ⟨ad', cap', b, o, e0, h1, h2, h3, h4⟩ := hE
    cases e0
    have HI : Hid (∀ l : EL, l.cnt ≤ N → l.cnt ≤ 1000000000 → DeepC l) := ih
    have HE0 : Hid (EAt w l b o) := h4
    obtain ⟨m, hm⟩ : ∃ m, l.len = m := ⟨_, rfl⟩
    have HLM : Hid (l.len = m) := hm
    rw [hm] at h1 h3 ⊢
    have hm9 : m ≤ 1000000000 := by have := l.len_le; omega
    have HN : Hid (l.cnt ≤ N + 1) := hN
    clear ih h4 hm hN
    unfold maxLen at h2
    unfold eV
    have HBX : Hid (∀ o, Below w.heap.size w (w.alloc o)) := fun o => (Below.refl _ _).alloc (Nat.le_refl _) o
    go_enter Try.func21, Try.ntmps21
    go_wp2
    go_loopw [3, 4, 5] (fun t i _ wr => ∃ (j : Nat) (x : Int) (r : EL), j ≤ m ∧ 0 ≤ x ∧ x ≤ 100 ∧ i = .int .i64 (j : Int) ∧ t = .int .i64 x ∧ Hid (j + r.len = m) ∧ Hid (EAt w r b (o + 5 * j)) ∧ Hid (r.cnt ≤ N + 1 ∧ r.cnt ≤ 1000000000) ∧ Hid (Below (w.heap.size + 1) (w.alloc (.cells #[.int .i64 k, .int .i64 n, .string s, .int .i64 p, .slice ad m cap] 41)) wr)) (fun _ i _ _ => m - (intOf i).toNat)
    case atStart => exact ⟨0, 0, l, Nat.zero_le _, by omega, by omega, rfl, rfl, by show _ = _; rw [Nat.zero_add]; exact HLM.out, HE0, ⟨HN.out, h9⟩, Below.refl _ _⟩
    case round =>
      obtain ⟨j, x, r, hj, hx0, hx9, rfl, rfl, HJ, HE, HR, HB⟩ := hrel
      have HBw : Hid (Below w.heap.size w wr) := (HBX.out _).trans (HB.out.mono (Nat.le_succ _))
      have F0 := (Five.new w (.int .i64 k) (.int .i64 n) (.string s) (.int .i64 p) (.slice ad m cap) 41).keep (HB.out.block w.heap.size (Nat.lt_succ_self _))
      have y4 := F0.c4
      have hsw : w.heap.size < wr.heap.size := by have := HB.out.size; simp at this; omega
      clear F0
      by_cases hlt : j < m
      · have e0 := h3 (by omega)
        subst e0
        cases r with
        | nil => have := HJ.out; simp only [EL.len] at this; omega
        | cons kd nm s' p' a r =>
          obtain ⟨ad2, cap2, hrd, hsl, _, hrest⟩ := HE.out.read HBw.out
          rw [Nat.mul_comm 5 j] at hrd
          obtain ⟨z0, z1, z2, z3, z4, z5⟩ := hrd
          have HSl : Hid (ESl wr (.slice ad2 a.len cap2) a) := hsl
          have HRest : Hid (EAt w r b (o + 5 * (j + 1))) := by rw [show o + 5 * (j + 1) = o + 5 * j + 5 by omega]; exact hrest
          have HC : Hid (DeepC a) := HI.out a (by have := HR.out.1; simp only [EL.cnt] at this; omega) (by have := HR.out.2; simp only [EL.cnt] at this; omega)
          have HR2 : Hid (r.cnt ≤ N + 1 ∧ r.cnt ≤ 1000000000) := by have := HR.out; simp only [EL.cnt] at this; exact ⟨by omega, by omega⟩
          clear hsl hrest
          go_wp2_with fail
          refine (HC.out kd nm s' p' ad2 cap2 wr HSl.out).mono ?_
          rintro e w2 ⟨dd, rfl, hd0, hd9, hb2⟩
          have HB2 : Hid _ := HB.out.trans (hb2.mono hsw)
          clear hb2
          by_cases hdx : x < dd
          · go_wp2
            go_roundw
            case rel => exact ⟨j + 1, dd, r, by omega, hd0, hd9, by go_num, rfl, by have := HJ.out; simp only [EL.len] at this; show _ = _; omega, HRest, HR2, HB2⟩
            case measure => simp [intOf]; omega
          · go_wp2
            go_roundw
            case rel => exact ⟨j + 1, x, r, by omega, hx0, hx9, by go_num, rfl, by have := HJ.out; simp only [EL.len] at this; show _ = _; omega, HRest, HR2, HB2⟩
            case measure => simp [intOf]; omega
      · by_cases h100 : (100 : Int) ≤ x
        · go_wp2
          go_ret
          exact ⟨100, rfl, by omega, by omega, HBw.out⟩
        · go_wp2
          go_ret
          exact ⟨x + 1, rfl, by omega, by omega, HBw.out⟩
end Go.Proofs.Ytiafdlebggegfab
