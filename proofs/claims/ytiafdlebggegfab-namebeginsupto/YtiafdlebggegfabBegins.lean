/- NameBegins, walked. -/
import Derived.Test.YtiafdlebggegfabMay
import Derived.Test.YtiafdlebggegfabAlive
import Derived.Test.YtiafdlebggegfabOpen
namespace Go.Proofs.Ytiafdlebggegfab
open Go.RowKit Go.Maps Go.WideMaps
set_option linter.unusedVariables false

theorem SL.take_len (n : Nat) : ∀ l : SL, n ≤ l.len → (l.take n).len = n := by
  induction n with
  | zero => intro l _; cases l <;> rfl
  | succ n ih => intro l h; cases l with
    | nil => simp only [SL.len] at h; omega
    | cons k s c a b e r => simp only [SL.len] at h; show (r.take n).len + 1 = n + 1; rw [ih r (by omega)]
theorem SL.take_cnt (n : Nat) : ∀ l : SL, (l.take n).cnt ≤ l.cnt := by
  induction n with
  | zero => intro l; cases l <;> exact Nat.zero_le _
  | succ n ih => intro l; cases l with
    | nil => exact Nat.le_refl _
    | cons k s c a b e r => have := ih r; show a.cnt + b.cnt + e.cnt + (r.take n).cnt + 1 ≤ a.cnt + b.cnt + e.cnt + r.cnt + 1; omega
theorem SAt.take {w : World} (n : Nat) : ∀ {l : SL} {b o : Nat}, SAt w l b o → SAt w (l.take n) b o := by
  induction n with
  | zero => intro l b o h; cases l <;> trivial
  | succ n ih => intro l b o h; cases l with
    | nil => trivial
    | cons k s c a d e r =>
      obtain ⟨h1, h2, h3, h4, h5, h6, h7, h8⟩ := h
      exact ⟨h1, h2, h3, h4, h5, h6, h7, ih h8⟩
theorem SSl.take {w : World} {ad : Option Addr} {n cap : Nat} {l : SL} (h : SSl w (.slice ad n cap) l) (k cap' : Nat) (hk : k ≤ n) (hc : k ≤ cap') (hc' : cap' ≤ cap) : SSl w (.slice ad k cap') (l.take k) := by
  obtain ⟨ad', c', b, o, e, h1, h2, h3, h4⟩ := h
  cases e
  have hl := SL.take_len k l hk
  exact ⟨ad, cap', b, o, by rw [hl], by omega, by omega, fun h0 => h3 (by omega), h4.take k⟩

theorem many_is (n : Int) (m : Nat) (hm : m ≤ 1048576) : ∃ k : Nat, k ≤ m ∧ (wrap64 (wrap64 (n.tmod ((m : Int) + 1) + (m : Int)) + 1)).tmod ((m : Int) + 1) = (k : Int) := by
  have hr : -(m : Int) ≤ n.tmod ((m : Int) + 1) ∧ n.tmod ((m : Int) + 1) ≤ (m : Int) := by
    rcases Int.le_total 0 n with h | h
    · rw [Int.tmod_eq_emod_of_nonneg h]
      have h1 := Int.emod_nonneg n (b := (m : Int) + 1) (by omega)
      have h2 := Int.emod_lt_of_pos n (b := (m : Int) + 1) (by omega)
      omega
    · have e : n = -(-n) := by omega
      rw [e, Int.neg_tmod, Int.tmod_eq_emod_of_nonneg (by omega : 0 ≤ -n)]
      have h1 := Int.emod_nonneg (-n) (b := (m : Int) + 1) (by omega)
      have h2 := Int.emod_lt_of_pos (-n) (b := (m : Int) + 1) (by omega)
      omega
  obtain ⟨r, hr0⟩ : ∃ r, n.tmod ((m : Int) + 1) = r := ⟨_, rfl⟩
  rw [hr0] at hr ⊢
  have e1 : wrap64 (r + (m : Int)) = r + (m : Int) := by unfold wrap64; omega
  have e2 : wrap64 (r + (m : Int) + 1) = r + (m : Int) + 1 := by unfold wrap64; omega
  rw [e1, e2, Int.tmod_eq_emod_of_nonneg (by omega)]
  have h1 := Int.emod_nonneg (r + (m : Int) + 1) (b := (m : Int) + 1) (by omega)
  have h2 := Int.emod_lt_of_pos (r + (m : Int) + 1) (b := (m : Int) + 1) (by omega)
  exact ⟨((r + (m : Int) + 1) % ((m : Int) + 1)).toNat, by omega, by omega⟩

set_option maxRecDepth 100000 in
set_option maxHeartbeats 4000000 in
theorem begins_walk (l : SL) (ad : Option Addr) (cap : Nat) (c n : Int) (w : World) (hE : SSl w (.slice ad l.len cap) l) (h9 : l.cnt ≤ 1048576) (hn : (Lit.int .i64 n).wf = true) :
    Calls Try.prog 4 #[.slice ad l.len cap, .int .i64 c, .int .i64 n] w fun e w' => e = .returned (.bool true) ∧ Below w.heap.size w w' := by
  have hx : -9223372036854775808 ≤ n ∧ n ≤ 9223372036854775807 := by simpa [Lit.wf, IntKind.min, IntKind.max, IntKind.signed, IntKind.bits] using hn
  have HE : Hid (SSl w (.slice ad l.len cap) l) := hE
  have HG : Hid _ := great_any l _ w hE (by omega)
  have hcap : l.len ≤ cap ∧ cap ≤ maxLen := by obtain ⟨_, _, _, _, e, h1, h2, _⟩ := id hE; cases e; exact ⟨h1, h2⟩
  obtain ⟨hc1, hc2⟩ := hcap
  unfold maxLen at hc2
  have hm9 : l.len ≤ 1048576 := by have := l.len_le; omega
  clear hE hn
  obtain ⟨gb, hgb⟩ : ∃ b, decide (5000 < (l.cnt : Int)) = b := ⟨_, rfl⟩
  have HGB : Hid (decide (5000 < (l.cnt : Int)) = gb) := hgb
  have H9 : Hid (l.cnt ≤ 1048576) := h9
  clear hgb h9
  obtain ⟨m, hm⟩ : ∃ m, l.len = m := ⟨_, rfl⟩
  have HM : Hid (l.len = m) := hm
  rw [hm] at HE HG hc1 hm9 ⊢
  clear hm
  go_enter Try.func4, Try.ntmps4
  go_wp2_with fail
  refine Calls.mono HG.out ?_
  rw [HGB.out]
  rintro e w1 ⟨rfl, hb1⟩
  have HB1 : Hid (Below w.heap.size w w1) := hb1
  have HE1 : Hid (SSl w1 (.slice ad m cap) l) := HE.out.below hb1
  clear hb1
  rcases gb with _ | _
  case true =>
    go_wp2_with fail
    refine (alive_any _).mono ?_
    rintro e w9 ⟨rfl, hb9⟩
    have HB9 : Hid (Below w.heap.size w w9) := HB1.out.trans (hb9.mono HB1.out.size)
    clear hb9
    go_wp2
    go_ret
    exact ⟨rfl, HB9.out⟩
  go_wp2_with fail
  refine Calls.mono (right_any l _ w1 HE1.out (by have := H9.out; omega)) ?_
  rintro e w2 ⟨rb, rfl, hb2⟩
  have HB2 : Hid (Below w.heap.size w w2) := HB1.out.trans (hb2.mono HB1.out.size)
  have HE2 : Hid (SSl w2 (.slice ad m cap) l) := HE1.out.below hb2
  clear hb2
  rcases rb with _ | _
  case false =>
    go_wp2_with fail
    refine (alive_any _).mono ?_
    rintro e w9 ⟨rfl, hb9⟩
    have HB9 : Hid (Below w.heap.size w w9) := HB2.out.trans (hb9.mono HB2.out.size)
    clear hb9
    go_wp2
    go_ret
    exact ⟨rfl, HB9.out⟩
  obtain ⟨k, hkm, hk⟩ := many_is n m hm9
  have hkc : (k : Int) ≤ (cap : Int) := by omega
  have hk0 : (0 : Int) ≤ (k : Int) := by omega
  have hkc' : k ≤ cap := by omega
  have HT : Hid (SSl w2 (.slice ad k k) (l.take k)) := HE2.out.take k k (by omega) (Nat.le_refl _) hkc'
  obtain ⟨r1, hr1⟩ : ∃ r, slots (l.take k) (min c 4) = r := ⟨_, rfl⟩
  obtain ⟨r2, hr2⟩ : ∃ r, slots l (min c 4) = r := ⟨_, rfl⟩
  have HR1 : Hid (slots (l.take k) (min c 4) = r1) := hr1
  have HR2 : Hid (slots l (min c 4) = r2) := hr2
  have HC1 : Hid ((l.take k).cnt ≤ 1000000000) := by have := SL.take_cnt k l; have := H9.out; show _ ≤ _; omega
  have hrel := slots_take l (min c 4) k
  have HREL : Hid (∀ e, slots (l.take k) (min c 4) = .err e → slots l (min c 4) = .err e) := hrel.1
  have HREL2 : Hid (∀ s1 s2, slots (l.take k) (min c 4) = .ok s1 → slots l (min c 4) = .ok s2 → ∃ x, s2.out = s1.out ++ x) := hrel.2
  have HO2 : Hid (∀ st, r2 = .ok st → st.out.length ≤ 1000000000) := by
    intro st h
    rw [h] at hr2
    obtain ⟨s1, e1, rfl⟩ := shut_ok hr2
    obtain ⟨x, y, e2, l2, _⟩ := runL_pre _ l _ _ e1
    show s1.out.length ≤ _
    rw [e2]
    have := H9.out
    simp [st0]
    omega
  clear hr1 hr2 hrel
  go_wp2_with fail
  refine (slots_any (l.take k) c _ w2 HT.out HC1.out).mono ?_
  rw [HR1.out]
  rcases r1 with x | s1
  · rintro e w3 ⟨rfl, hx, hb3⟩
    have HB3 : Hid (Below w.heap.size w w3) := HB2.out.trans (hb3.mono HB2.out.size)
    have HE3 : Hid (SSl w3 (.slice ad m cap) l) := HE2.out.below hb3
    have HR3 : Hid (slots l (min c 4) = .err x) := HREL.out x HR1.out
    clear hb3
    go_wp2_with fail
    refine (slots_any l c _ w3 HE3.out (by have := H9.out; omega)).mono ?_
    rw [HR3.out]
    rintro e w4 ⟨rfl, _, hb4⟩
    have HB4 : Hid (Below w.heap.size w w4) := HB3.out.trans (hb4.mono HB3.out.size)
    clear hb4
    go_wp2_with fail
    refine (alive_any _).mono ?_
    rintro e w9 ⟨rfl, hb9⟩
    have HB9 : Hid (Below w.heap.size w w9) := HB4.out.trans (hb9.mono HB4.out.size)
    clear hb9
    go_wp2
    go_ret
    exact ⟨rfl, HB9.out⟩
  · rintro e w3 ⟨v3, rfl, hi3, hb3⟩
    have HI3 : Hid (IRd w3 v3 s1.out) := hi3.rd
    obtain ⟨a3, c3, rfl⟩ := hi3.form
    have HB3 : Hid (Below w.heap.size w w3) := HB2.out.trans (hb3.mono HB2.out.size)
    have HE3 : Hid (SSl w3 (.slice ad m cap) l) := HE2.out.below hb3
    clear hb3 hi3
    go_wp2_with fail
    refine (slots_any l c _ w3 HE3.out (by have := H9.out; omega)).mono ?_
    rw [HR2.out]
    rcases r2 with x | s2
    · rintro e w4 ⟨rfl, hx, hb4⟩
      have HB4 : Hid (Below w.heap.size w w4) := HB3.out.trans (hb4.mono HB3.out.size)
      clear hb4
      go_wp2_with fail
      refine (alive_any _).mono ?_
      rintro e w9 ⟨rfl, hb9⟩
      have HB9 : Hid (Below w.heap.size w w9) := HB4.out.trans (hb9.mono HB4.out.size)
      clear hb9
      go_wp2
      go_ret
      exact ⟨rfl, HB9.out⟩
    · rintro e w4 ⟨v4, rfl, hi4, hb4⟩
      have HI4 : Hid (IRd w4 v4 s2.out) := hi4.rd
      obtain ⟨a4, c4, rfl⟩ := hi4.form
      have HI3b : Hid (IRd w4 (.slice a3 s1.out.length c3) s1.out) := HI3.out.below hb4
      have HB4 : Hid (Below w.heap.size w w4) := HB3.out.trans (hb4.mono HB3.out.size)
      obtain ⟨x, hx⟩ := HREL2.out s1 s2 HR1.out HR2.out
      have hle : s1.out.length ≤ s2.out.length := by rw [hx]; simp
      have htk : s2.out.take s1.out.length = s1.out := by rw [hx]; simp
      have hO2 := HO2.out s2 rfl
      have HI5 : Hid (IRd w4 (.slice a4 s1.out.length c4) s1.out) := by have := HI4.out.take s1.out.length hle; rw [htk] at this; exact this
      have hcc : s2.out.length ≤ c4 ∧ c4 ≤ maxLen := by obtain ⟨_, _, _, _, e, g1, g2, _⟩ := HI4.out; cases e; exact ⟨g1, g2⟩
      have hc4 : s1.out.length ≤ c4 := by omega
      have hc4' : c4 ≤ 9223372036854775807 := by have := hcc.2; unfold maxLen at this; omega
      have hleI : (s1.out.length : Int) ≤ (s2.out.length : Int) := by omega
      have hleC : (s1.out.length : Int) ≤ (c4 : Int) := by omega
      obtain ⟨n1, hn1⟩ : ∃ n1, s1.out.length = n1 := ⟨_, rfl⟩
      obtain ⟨n2, hn2⟩ : ∃ n2, s2.out.length = n2 := ⟨_, rfl⟩
      have HOL : Hid (s1.out.length ≤ 1000000000) := by show _ ≤ _; omega
      rw [hn1] at HI3b HI5 hle hc4 hleI hleC ⊢
      rw [hn2] at hle hleI hO2 ⊢
      clear hb4 hi4 hx htk hcc hn1 hn2
      go_wp2_with fail
      refine (row_same _ _ s1.out w4 HOL.out HI3b.out HI5.out).mono ?_
      rintro e w8 ⟨rfl, hb8⟩
      have HB8 : Hid (Below w.heap.size w w8) := HB4.out.trans (hb8.mono HB4.out.size)
      clear hb8
      go_wp2_with fail
      refine (alive_any _).mono ?_
      rintro e w9 ⟨rfl, hb9⟩
      have HB9 : Hid (Below w.heap.size w w9) := HB8.out.trans (hb9.mono HB8.out.size)
      clear hb9
      go_wp2
      go_ret
      exact ⟨rfl, HB9.out⟩
end Go.Proofs.Ytiafdlebggegfab
