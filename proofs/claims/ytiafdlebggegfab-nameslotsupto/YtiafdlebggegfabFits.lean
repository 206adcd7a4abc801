/- Which expressions may be: the document's fits answers something. -/
import Derived.Test.YtiafdlebggegfabRight
namespace Go.Proofs.Ytiafdlebggegfab
open Go.RowKit Go.Maps Go.WideMaps
set_option linter.unusedVariables false

def FitsC (l : EL) : Prop := l.cnt ≤ 1000000000 → ∀ (k n : Int) (s : ByteArray) (p : Int) (ad : Option Addr) (cap : Nat) (w : World), s.size ≤ maxLen → ESl w (.slice ad l.len cap) l → SaysB 22 #[eV k n s p (.slice ad l.len cap)] w

set_option maxRecDepth 100000 in
set_option maxHeartbeats 4000000 in
theorem fits_1 (N : Nat) (HI : Hid (∀ l : EL, l.cnt < N → FitsC l)) (l : EL) (hN : l.cnt ≤ N) (hC : l.cnt ≤ 1000000000) (n : Int) (s : ByteArray) (p : Int) (ad : Option Addr) (cap : Nat) (w : World) (hs : s.size ≤ maxLen) (hE : ESl w (.slice ad l.len cap) l) : SaysB 22 #[eV 1 n s p (.slice ad l.len cap)] w := by
  obtain ⟨ad', cap', b, o, e0, h1, h2, h3, h4⟩ := hE
  cases e0
  have HE0 : Hid (EAt w l b o) := h4
  obtain ⟨m, hm⟩ : ∃ m, l.len = m := ⟨_, rfl⟩
  have HLM : Hid (l.len = m) := hm
  rw [hm] at h1 h3 ⊢
  have h9 : m ≤ 1000000000 := by have := l.len_le; omega
  have HN : Hid (l.cnt ≤ N ∧ l.cnt ≤ 1000000000) := ⟨hN, hC⟩
  clear h4 hm hN hC
  unfold maxLen at h2
  unfold eV SaysB
  have HBX : Hid (∀ o, Below w.heap.size w (w.alloc o)) := fun o => (Below.refl _ _).alloc (Nat.le_refl _) o
  have HB2 : Hid (∀ o o', Below w.heap.size w ((w.alloc o).alloc o')) := fun o o' => ((Below.refl _ _).alloc (Nat.le_refl _) o).alloc (by simp) o'
  by_cases cs : s = ⟨#[]⟩
  case neg =>
    have cs' : ([] == s.toList) = false := by rw [beq_eq_false_iff_ne]; intro h; exact cs (ba_of s [] h.symm)
    have cs2 : ([] != s.toList) = true := by simpa using cs'
    go_enter Try.func22, Try.ntmps22
    go_wp2_with fail
    all_goals (go_ret; first | exact ⟨_, rfl, HB2.out _ _⟩ | exact ⟨rfl, HB2.out _ _⟩ | exact HB2.out _ _)
  subst cs
  by_cases cp : p = 0
  case neg =>
    have cp' : (0 != p) = true := by simpa using fun h => cp h.symm
    go_enter Try.func22, Try.ntmps22
    go_wp2_with fail
    all_goals (go_ret; first | exact ⟨_, rfl, HB2.out _ _⟩ | exact ⟨rfl, HB2.out _ _⟩ | exact HB2.out _ _)
  subst cp
  by_cases cm : m = 0
  case neg =>
    have cm' : ((m : Int) == 0) = false := by simp; omega
    go_enter Try.func22, Try.ntmps22
    go_wp2_with fail
    all_goals (go_ret; first | exact ⟨_, rfl, HB2.out _ _⟩ | exact ⟨rfl, HB2.out _ _⟩ | exact HB2.out _ _)
  subst cm
  have HL : Hid (∀ o', Below (w.heap.size + 1) (w.alloc (.cells #[.int .i64 1, .int .i64 n, .string ⟨#[]⟩, .int .i64 0, .slice ad 0 cap] 41)) ((w.alloc (.cells #[.int .i64 1, .int .i64 n, .string ⟨#[]⟩, .int .i64 0, .slice ad 0 cap] 41)).alloc o')) := fun o' => (Below.refl _ _).alloc (by simp) o'
  go_enter Try.func22, Try.ntmps22
  go_wp2_with fail
  any_goals (go_ret; first | exact ⟨_, rfl, HB2.out _ _⟩ | exact ⟨rfl, HB2.out _ _⟩ | exact HB2.out _ _)
  go_rounds 1
  go_ret
  first | exact ⟨_, rfl, HB2.out _ _⟩ | exact ⟨rfl, HB2.out _ _⟩ | exact HB2.out _ _

set_option maxRecDepth 100000 in
set_option maxHeartbeats 4000000 in
theorem fits_2 (N : Nat) (HI : Hid (∀ l : EL, l.cnt < N → FitsC l)) (l : EL) (hN : l.cnt ≤ N) (hC : l.cnt ≤ 1000000000) (n : Int) (s : ByteArray) (p : Int) (ad : Option Addr) (cap : Nat) (w : World) (hs : s.size ≤ maxLen) (hE : ESl w (.slice ad l.len cap) l) : SaysB 22 #[eV 2 n s p (.slice ad l.len cap)] w := by
  obtain ⟨ad', cap', b, o, e0, h1, h2, h3, h4⟩ := hE
  cases e0
  have HE0 : Hid (EAt w l b o) := h4
  obtain ⟨m, hm⟩ : ∃ m, l.len = m := ⟨_, rfl⟩
  have HLM : Hid (l.len = m) := hm
  rw [hm] at h1 h3 ⊢
  have h9 : m ≤ 1000000000 := by have := l.len_le; omega
  have HN : Hid (l.cnt ≤ N ∧ l.cnt ≤ 1000000000) := ⟨hN, hC⟩
  clear h4 hm hN hC
  unfold maxLen at h2
  unfold eV SaysB
  have HBX : Hid (∀ o, Below w.heap.size w (w.alloc o)) := fun o => (Below.refl _ _).alloc (Nat.le_refl _) o
  have HB2 : Hid (∀ o o', Below w.heap.size w ((w.alloc o).alloc o')) := fun o o' => ((Below.refl _ _).alloc (Nat.le_refl _) o).alloc (by simp) o'
  by_cases cn : n = 0
  case neg =>
    have cn' : (0 != n) = true := by simpa using fun h => cn h.symm
    go_enter Try.func22, Try.ntmps22
    go_wp2_with fail
    all_goals (go_ret; first | exact ⟨_, rfl, HB2.out _ _⟩ | exact ⟨rfl, HB2.out _ _⟩ | exact HB2.out _ _)
  subst cn
  by_cases cp : p = 0
  case neg =>
    have cp' : (0 != p) = true := by simpa using fun h => cp h.symm
    go_enter Try.func22, Try.ntmps22
    go_wp2_with fail
    all_goals (go_ret; first | exact ⟨_, rfl, HB2.out _ _⟩ | exact ⟨rfl, HB2.out _ _⟩ | exact HB2.out _ _)
  subst cp
  by_cases cm : m = 0
  case neg =>
    have cm' : ((m : Int) == 0) = false := by simp; omega
    go_enter Try.func22, Try.ntmps22
    go_wp2_with fail
    all_goals (go_ret; first | exact ⟨_, rfl, HB2.out _ _⟩ | exact ⟨rfl, HB2.out _ _⟩ | exact HB2.out _ _)
  subst cm
  have HL : Hid (∀ o', Below (w.heap.size + 1) (w.alloc (.cells #[.int .i64 2, .int .i64 0, .string s, .int .i64 0, .slice ad 0 cap] 41)) ((w.alloc (.cells #[.int .i64 2, .int .i64 0, .string s, .int .i64 0, .slice ad 0 cap] 41)).alloc o')) := fun o' => (Below.refl _ _).alloc (by simp) o'
  go_enter Try.func22, Try.ntmps22
  go_wp2_with fail
  refine (rname_any s hs _).mono ?_
  rintro e w1 ⟨rfl, hb1⟩
  have HL1 : Hid (Below (w.heap.size + 1) (w.alloc (.cells #[.int .i64 2, .int .i64 0, .string s, .int .i64 0, .slice ad 0 cap] 41)) w1) := (HL.out _).trans (hb1.mono (by simp))
  have HW1 : Hid (Below w.heap.size w w1) := (HB2.out _ _).trans (hb1.mono (by simp; omega))
  have F1 := (Five.new w (.int .i64 2) (.int .i64 0) (.string s) (.int .i64 0) (.slice ad 0 cap) 41).keep (HL1.out.block w.heap.size (Nat.lt_succ_self _))
  obtain ⟨y0, y1, y2, y3, y4⟩ := F1
  have hsw : w.heap.size < w1.heap.size := by have := HL1.out.size; simp at this; omega
  clear hb1
  rcases nmB s.data.toList with _ | _
  · go_wp2
    go_ret
    first | exact ⟨_, rfl, HW1.out⟩ | exact ⟨rfl, HW1.out⟩ | exact HW1.out
  · go_wp2
    go_rounds 1
    go_ret
    first | exact ⟨_, rfl, HW1.out⟩ | exact ⟨rfl, HW1.out⟩ | exact HW1.out

set_option maxRecDepth 100000 in
set_option maxHeartbeats 4000000 in
theorem fits_3 (N : Nat) (HI : Hid (∀ l : EL, l.cnt < N → FitsC l)) (l : EL) (hN : l.cnt ≤ N) (hC : l.cnt ≤ 1000000000) (n : Int) (s : ByteArray) (p : Int) (ad : Option Addr) (cap : Nat) (w : World) (hs : s.size ≤ maxLen) (hE : ESl w (.slice ad l.len cap) l) : SaysB 22 #[eV 3 n s p (.slice ad l.len cap)] w := by
  obtain ⟨ad', cap', b, o, e0, h1, h2, h3, h4⟩ := hE
  cases e0
  have HE0 : Hid (EAt w l b o) := h4
  obtain ⟨m, hm⟩ : ∃ m, l.len = m := ⟨_, rfl⟩
  have HLM : Hid (l.len = m) := hm
  rw [hm] at h1 h3 ⊢
  have h9 : m ≤ 1000000000 := by have := l.len_le; omega
  have HN : Hid (l.cnt ≤ N ∧ l.cnt ≤ 1000000000) := ⟨hN, hC⟩
  clear h4 hm hN hC
  unfold maxLen at h2
  unfold eV SaysB
  have HBX : Hid (∀ o, Below w.heap.size w (w.alloc o)) := fun o => (Below.refl _ _).alloc (Nat.le_refl _) o
  have HB2 : Hid (∀ o o', Below w.heap.size w ((w.alloc o).alloc o')) := fun o o' => ((Below.refl _ _).alloc (Nat.le_refl _) o).alloc (by simp) o'
  by_cases cn : n = 0
  case neg =>
    have cn' : (0 != n) = true := by simpa using fun h => cn h.symm
    go_enter Try.func22, Try.ntmps22
    go_wp2_with fail
    all_goals (go_ret; first | exact ⟨_, rfl, HB2.out _ _⟩ | exact ⟨rfl, HB2.out _ _⟩ | exact HB2.out _ _)
  subst cn
  by_cases cs : s = ⟨#[]⟩
  case neg =>
    have cs' : ([] == s.toList) = false := by rw [beq_eq_false_iff_ne]; intro h; exact cs (ba_of s [] h.symm)
    have cs2 : ([] != s.toList) = true := by simpa using cs'
    go_enter Try.func22, Try.ntmps22
    go_wp2_with fail
    all_goals (go_ret; first | exact ⟨_, rfl, HB2.out _ _⟩ | exact ⟨rfl, HB2.out _ _⟩ | exact HB2.out _ _)
  subst cs
  by_cases cp : p = 0
  case neg =>
    have cp' : (0 != p) = true := by simpa using fun h => cp h.symm
    go_enter Try.func22, Try.ntmps22
    go_wp2_with fail
    all_goals (go_ret; first | exact ⟨_, rfl, HB2.out _ _⟩ | exact ⟨rfl, HB2.out _ _⟩ | exact HB2.out _ _)
  subst cp
  by_cases cm : m = 1
  case neg =>
    have cm' : ((m : Int) == 1) = false := by simp; omega
    go_enter Try.func22, Try.ntmps22
    go_wp2_with fail
    all_goals (go_ret; first | exact ⟨_, rfl, HB2.out _ _⟩ | exact ⟨rfl, HB2.out _ _⟩ | exact HB2.out _ _)
  subst cm
  obtain rfl := h3 (by omega)
  have HL : Hid (∀ o', Below (w.heap.size + 1) (w.alloc (.cells #[.int .i64 3, .int .i64 0, .string ⟨#[]⟩, .int .i64 0, .slice (some ⟨b, o, none⟩) 1 cap] 41)) ((w.alloc (.cells #[.int .i64 3, .int .i64 0, .string ⟨#[]⟩, .int .i64 0, .slice (some ⟨b, o, none⟩) 1 cap] 41)).alloc o')) := fun o' => (Below.refl _ _).alloc (by simp) o'
  go_enter Try.func22, Try.ntmps22
  go_wp2_with fail
  go_loopw [5] (fun i wr => ∃ (j : Nat) (r : EL), j ≤ 1 ∧ i = .int .i64 (j : Int) ∧ Hid (j + r.len = 1) ∧ Hid (EAt w r b (o + 5 * j)) ∧ Hid (r.cnt ≤ N ∧ r.cnt ≤ 1000000000) ∧ Hid (Below (w.heap.size + 1) (w.alloc (.cells #[.int .i64 3, .int .i64 0, .string ⟨#[]⟩, .int .i64 0, .slice (some ⟨b, o, none⟩) 1 cap] 41)) wr)) (fun i _ => 1 - (intOf i).toNat)
  case atStart => exact ⟨0, l, Nat.zero_le _, rfl, by show _ = _; rw [Nat.zero_add]; exact HLM.out, HE0, HN.out, by first | exact HL1.out | exact HL.out _⟩
  case round =>
    obtain ⟨j, r, hj, rfl, HJ, HE, HR, HB⟩ := hrel
    have HBw : Hid (Below w.heap.size w wr) := (HBX.out _).trans (HB.out.mono (Nat.le_succ _))
    have F0 := (Five.new w (.int .i64 3) (.int .i64 0) (.string ⟨#[]⟩) (.int .i64 0) (.slice (some ⟨b, o, none⟩) 1 cap) 41).keep (HB.out.block w.heap.size (Nat.lt_succ_self _))
    have y4 := F0.c4
    have hsw : w.heap.size < wr.heap.size := by have := HB.out.size; simp at this; omega
    clear F0
    by_cases hlt : j < 1
    · cases r with
      | nil => have := HJ.out; simp only [EL.len] at this; omega
      | cons kd nm s' p' a r =>
        obtain ⟨ad2, cap2, hrd, hsl, hss, hrest⟩ := HE.out.read HBw.out
        rw [Nat.mul_comm 5 j] at hrd
        obtain ⟨z0, z1, z2, z3, z4, z5⟩ := hrd
        have HSl : Hid (ESl wr (.slice ad2 a.len cap2) a) := hsl
        have HRest : Hid (EAt w r b (o + 5 * (j + 1))) := by rw [show o + 5 * (j + 1) = o + 5 * j + 5 by omega]; exact hrest
        have HC : Hid _ := HI.out a (by have := HR.out.1; simp only [EL.cnt] at this; omega) (by have := HR.out.2; simp only [EL.cnt] at this; omega)
        have HR2 : Hid (r.cnt ≤ N ∧ r.cnt ≤ 1000000000) := by have := HR.out; simp only [EL.cnt] at this; exact ⟨by omega, by omega⟩
        have HSS : Hid (s'.size ≤ maxLen) := hss
        clear hsl hrest hss
        go_wp2_with fail
        refine Calls.mono (HC.out kd nm s' p' ad2 cap2 wr HSS.out HSl.out) ?_
        rintro e w2 ⟨q, rfl, hb2⟩
        have HB2 : Hid _ := HB.out.trans (hb2.mono hsw)
        have HBw2 : Hid (Below w.heap.size w w2) := (HBX.out _).trans (HB2.out.mono (Nat.le_succ _))
        clear hb2
        rcases q with _ | _
        · go_wp2
          go_ret
          first | exact ⟨_, rfl, HBw2.out⟩ | exact ⟨rfl, HBw2.out⟩ | exact HBw2.out
        · go_wp2
          go_roundw
          case rel => exact ⟨j + 1, r, by omega, by go_num, by have := HJ.out; simp only [EL.len] at this; show _ = _; omega, HRest, HR2, HB2⟩
          case measure => simp [intOf]; omega
    · go_wp2
      go_ret
      first | exact ⟨_, rfl, HBw.out⟩ | exact ⟨rfl, HBw.out⟩ | exact HBw.out

set_option maxRecDepth 100000 in
set_option maxHeartbeats 4000000 in
theorem fits_4 (N : Nat) (HI : Hid (∀ l : EL, l.cnt < N → FitsC l)) (l : EL) (hN : l.cnt ≤ N) (hC : l.cnt ≤ 1000000000) (n : Int) (s : ByteArray) (p : Int) (ad : Option Addr) (cap : Nat) (w : World) (hs : s.size ≤ maxLen) (hE : ESl w (.slice ad l.len cap) l) : SaysB 22 #[eV 4 n s p (.slice ad l.len cap)] w := by
  obtain ⟨ad', cap', b, o, e0, h1, h2, h3, h4⟩ := hE
  cases e0
  have HE0 : Hid (EAt w l b o) := h4
  obtain ⟨m, hm⟩ : ∃ m, l.len = m := ⟨_, rfl⟩
  have HLM : Hid (l.len = m) := hm
  rw [hm] at h1 h3 ⊢
  have h9 : m ≤ 1000000000 := by have := l.len_le; omega
  have HN : Hid (l.cnt ≤ N ∧ l.cnt ≤ 1000000000) := ⟨hN, hC⟩
  clear h4 hm hN hC
  unfold maxLen at h2
  unfold eV SaysB
  have HBX : Hid (∀ o, Below w.heap.size w (w.alloc o)) := fun o => (Below.refl _ _).alloc (Nat.le_refl _) o
  have HB2 : Hid (∀ o o', Below w.heap.size w ((w.alloc o).alloc o')) := fun o o' => ((Below.refl _ _).alloc (Nat.le_refl _) o).alloc (by simp) o'
  by_cases cn : n = 0
  case neg =>
    have cn' : (0 != n) = true := by simpa using fun h => cn h.symm
    go_enter Try.func22, Try.ntmps22
    go_wp2_with fail
    all_goals (go_ret; first | exact ⟨_, rfl, HB2.out _ _⟩ | exact ⟨rfl, HB2.out _ _⟩ | exact HB2.out _ _)
  subst cn
  by_cases cs : s = ⟨#[]⟩
  case neg =>
    have cs' : ([] == s.toList) = false := by rw [beq_eq_false_iff_ne]; intro h; exact cs (ba_of s [] h.symm)
    have cs2 : ([] != s.toList) = true := by simpa using cs'
    go_enter Try.func22, Try.ntmps22
    go_wp2_with fail
    all_goals (go_ret; first | exact ⟨_, rfl, HB2.out _ _⟩ | exact ⟨rfl, HB2.out _ _⟩ | exact HB2.out _ _)
  subst cs
  by_cases cm : m = 1
  case neg =>
    have cm' : ((m : Int) == 1) = false := by simp; omega
    go_enter Try.func22, Try.ntmps22
    go_wp2_with fail
    all_goals (go_ret; first | exact ⟨_, rfl, HB2.out _ _⟩ | exact ⟨rfl, HB2.out _ _⟩ | exact HB2.out _ _)
  subst cm
  obtain rfl := h3 (by omega)
  by_cases cl : p < 19
  case pos =>
    go_enter Try.func22, Try.ntmps22
    go_wp2_with fail
    all_goals (go_ret; first | exact ⟨_, rfl, HB2.out _ _⟩ | exact ⟨rfl, HB2.out _ _⟩ | exact HB2.out _ _)
  by_cases ch : 21 < p
  case pos =>
    go_enter Try.func22, Try.ntmps22
    go_wp2_with fail
    all_goals (go_ret; first | exact ⟨_, rfl, HB2.out _ _⟩ | exact ⟨rfl, HB2.out _ _⟩ | exact HB2.out _ _)
  have HL : Hid (∀ o', Below (w.heap.size + 1) (w.alloc (.cells #[.int .i64 4, .int .i64 0, .string ⟨#[]⟩, .int .i64 p, .slice (some ⟨b, o, none⟩) 1 cap] 41)) ((w.alloc (.cells #[.int .i64 4, .int .i64 0, .string ⟨#[]⟩, .int .i64 p, .slice (some ⟨b, o, none⟩) 1 cap] 41)).alloc o')) := fun o' => (Below.refl _ _).alloc (by simp) o'
  go_enter Try.func22, Try.ntmps22
  go_wp2_with fail
  go_loopw [5] (fun i wr => ∃ (j : Nat) (r : EL), j ≤ 1 ∧ i = .int .i64 (j : Int) ∧ Hid (j + r.len = 1) ∧ Hid (EAt w r b (o + 5 * j)) ∧ Hid (r.cnt ≤ N ∧ r.cnt ≤ 1000000000) ∧ Hid (Below (w.heap.size + 1) (w.alloc (.cells #[.int .i64 4, .int .i64 0, .string ⟨#[]⟩, .int .i64 p, .slice (some ⟨b, o, none⟩) 1 cap] 41)) wr)) (fun i _ => 1 - (intOf i).toNat)
  case atStart => exact ⟨0, l, Nat.zero_le _, rfl, by show _ = _; rw [Nat.zero_add]; exact HLM.out, HE0, HN.out, by first | exact HL1.out | exact HL.out _⟩
  case round =>
    obtain ⟨j, r, hj, rfl, HJ, HE, HR, HB⟩ := hrel
    have HBw : Hid (Below w.heap.size w wr) := (HBX.out _).trans (HB.out.mono (Nat.le_succ _))
    have F0 := (Five.new w (.int .i64 4) (.int .i64 0) (.string ⟨#[]⟩) (.int .i64 p) (.slice (some ⟨b, o, none⟩) 1 cap) 41).keep (HB.out.block w.heap.size (Nat.lt_succ_self _))
    have y4 := F0.c4
    have hsw : w.heap.size < wr.heap.size := by have := HB.out.size; simp at this; omega
    clear F0
    by_cases hlt : j < 1
    · cases r with
      | nil => have := HJ.out; simp only [EL.len] at this; omega
      | cons kd nm s' p' a r =>
        obtain ⟨ad2, cap2, hrd, hsl, hss, hrest⟩ := HE.out.read HBw.out
        rw [Nat.mul_comm 5 j] at hrd
        obtain ⟨z0, z1, z2, z3, z4, z5⟩ := hrd
        have HSl : Hid (ESl wr (.slice ad2 a.len cap2) a) := hsl
        have HRest : Hid (EAt w r b (o + 5 * (j + 1))) := by rw [show o + 5 * (j + 1) = o + 5 * j + 5 by omega]; exact hrest
        have HC : Hid _ := HI.out a (by have := HR.out.1; simp only [EL.cnt] at this; omega) (by have := HR.out.2; simp only [EL.cnt] at this; omega)
        have HR2 : Hid (r.cnt ≤ N ∧ r.cnt ≤ 1000000000) := by have := HR.out; simp only [EL.cnt] at this; exact ⟨by omega, by omega⟩
        have HSS : Hid (s'.size ≤ maxLen) := hss
        clear hsl hrest hss
        go_wp2_with fail
        refine Calls.mono (HC.out kd nm s' p' ad2 cap2 wr HSS.out HSl.out) ?_
        rintro e w2 ⟨q, rfl, hb2⟩
        have HB2 : Hid _ := HB.out.trans (hb2.mono hsw)
        have HBw2 : Hid (Below w.heap.size w w2) := (HBX.out _).trans (HB2.out.mono (Nat.le_succ _))
        clear hb2
        rcases q with _ | _
        · go_wp2
          go_ret
          first | exact ⟨_, rfl, HBw2.out⟩ | exact ⟨rfl, HBw2.out⟩ | exact HBw2.out
        · go_wp2
          go_roundw
          case rel => exact ⟨j + 1, r, by omega, by go_num, by have := HJ.out; simp only [EL.len] at this; show _ = _; omega, HRest, HR2, HB2⟩
          case measure => simp [intOf]; omega
    · go_wp2
      go_ret
      first | exact ⟨_, rfl, HBw.out⟩ | exact ⟨rfl, HBw.out⟩ | exact HBw.out

set_option maxRecDepth 100000 in
set_option maxHeartbeats 4000000 in
theorem fits_5 (N : Nat) (HI : Hid (∀ l : EL, l.cnt < N → FitsC l)) (l : EL) (hN : l.cnt ≤ N) (hC : l.cnt ≤ 1000000000) (n : Int) (s : ByteArray) (p : Int) (ad : Option Addr) (cap : Nat) (w : World) (hs : s.size ≤ maxLen) (hE : ESl w (.slice ad l.len cap) l) : SaysB 22 #[eV 5 n s p (.slice ad l.len cap)] w := by
  obtain ⟨ad', cap', b, o, e0, h1, h2, h3, h4⟩ := hE
  cases e0
  have HE0 : Hid (EAt w l b o) := h4
  obtain ⟨m, hm⟩ : ∃ m, l.len = m := ⟨_, rfl⟩
  have HLM : Hid (l.len = m) := hm
  rw [hm] at h1 h3 ⊢
  have h9 : m ≤ 1000000000 := by have := l.len_le; omega
  have HN : Hid (l.cnt ≤ N ∧ l.cnt ≤ 1000000000) := ⟨hN, hC⟩
  clear h4 hm hN hC
  unfold maxLen at h2
  unfold eV SaysB
  have HBX : Hid (∀ o, Below w.heap.size w (w.alloc o)) := fun o => (Below.refl _ _).alloc (Nat.le_refl _) o
  have HB2 : Hid (∀ o o', Below w.heap.size w ((w.alloc o).alloc o')) := fun o o' => ((Below.refl _ _).alloc (Nat.le_refl _) o).alloc (by simp) o'
  by_cases cn : n = 0
  case neg =>
    have cn' : (0 != n) = true := by simpa using fun h => cn h.symm
    go_enter Try.func22, Try.ntmps22
    go_wp2_with fail
    all_goals (go_ret; first | exact ⟨_, rfl, HB2.out _ _⟩ | exact ⟨rfl, HB2.out _ _⟩ | exact HB2.out _ _)
  subst cn
  by_cases cs : s = ⟨#[]⟩
  case neg =>
    have cs' : ([] == s.toList) = false := by rw [beq_eq_false_iff_ne]; intro h; exact cs (ba_of s [] h.symm)
    have cs2 : ([] != s.toList) = true := by simpa using cs'
    go_enter Try.func22, Try.ntmps22
    go_wp2_with fail
    all_goals (go_ret; first | exact ⟨_, rfl, HB2.out _ _⟩ | exact ⟨rfl, HB2.out _ _⟩ | exact HB2.out _ _)
  subst cs
  by_cases cm : m = 2
  case neg =>
    have cm' : ((m : Int) == 2) = false := by simp; omega
    go_enter Try.func22, Try.ntmps22
    go_wp2_with fail
    all_goals (go_ret; first | exact ⟨_, rfl, HB2.out _ _⟩ | exact ⟨rfl, HB2.out _ _⟩ | exact HB2.out _ _)
  subst cm
  obtain rfl := h3 (by omega)
  by_cases cl : p < 1
  case pos =>
    go_enter Try.func22, Try.ntmps22
    go_wp2_with fail
    all_goals (go_ret; first | exact ⟨_, rfl, HB2.out _ _⟩ | exact ⟨rfl, HB2.out _ _⟩ | exact HB2.out _ _)
  by_cases ch : 18 < p
  case pos =>
    go_enter Try.func22, Try.ntmps22
    go_wp2_with fail
    all_goals (go_ret; first | exact ⟨_, rfl, HB2.out _ _⟩ | exact ⟨rfl, HB2.out _ _⟩ | exact HB2.out _ _)
  have HL : Hid (∀ o', Below (w.heap.size + 1) (w.alloc (.cells #[.int .i64 5, .int .i64 0, .string ⟨#[]⟩, .int .i64 p, .slice (some ⟨b, o, none⟩) 2 cap] 41)) ((w.alloc (.cells #[.int .i64 5, .int .i64 0, .string ⟨#[]⟩, .int .i64 p, .slice (some ⟨b, o, none⟩) 2 cap] 41)).alloc o')) := fun o' => (Below.refl _ _).alloc (by simp) o'
  go_enter Try.func22, Try.ntmps22
  go_wp2_with fail
  go_loopw [5] (fun i wr => ∃ (j : Nat) (r : EL), j ≤ 2 ∧ i = .int .i64 (j : Int) ∧ Hid (j + r.len = 2) ∧ Hid (EAt w r b (o + 5 * j)) ∧ Hid (r.cnt ≤ N ∧ r.cnt ≤ 1000000000) ∧ Hid (Below (w.heap.size + 1) (w.alloc (.cells #[.int .i64 5, .int .i64 0, .string ⟨#[]⟩, .int .i64 p, .slice (some ⟨b, o, none⟩) 2 cap] 41)) wr)) (fun i _ => 2 - (intOf i).toNat)
  case atStart => exact ⟨0, l, Nat.zero_le _, rfl, by show _ = _; rw [Nat.zero_add]; exact HLM.out, HE0, HN.out, by first | exact HL1.out | exact HL.out _⟩
  case round =>
    obtain ⟨j, r, hj, rfl, HJ, HE, HR, HB⟩ := hrel
    have HBw : Hid (Below w.heap.size w wr) := (HBX.out _).trans (HB.out.mono (Nat.le_succ _))
    have F0 := (Five.new w (.int .i64 5) (.int .i64 0) (.string ⟨#[]⟩) (.int .i64 p) (.slice (some ⟨b, o, none⟩) 2 cap) 41).keep (HB.out.block w.heap.size (Nat.lt_succ_self _))
    have y4 := F0.c4
    have hsw : w.heap.size < wr.heap.size := by have := HB.out.size; simp at this; omega
    clear F0
    by_cases hlt : j < 2
    · cases r with
      | nil => have := HJ.out; simp only [EL.len] at this; omega
      | cons kd nm s' p' a r =>
        obtain ⟨ad2, cap2, hrd, hsl, hss, hrest⟩ := HE.out.read HBw.out
        rw [Nat.mul_comm 5 j] at hrd
        obtain ⟨z0, z1, z2, z3, z4, z5⟩ := hrd
        have HSl : Hid (ESl wr (.slice ad2 a.len cap2) a) := hsl
        have HRest : Hid (EAt w r b (o + 5 * (j + 1))) := by rw [show o + 5 * (j + 1) = o + 5 * j + 5 by omega]; exact hrest
        have HC : Hid _ := HI.out a (by have := HR.out.1; simp only [EL.cnt] at this; omega) (by have := HR.out.2; simp only [EL.cnt] at this; omega)
        have HR2 : Hid (r.cnt ≤ N ∧ r.cnt ≤ 1000000000) := by have := HR.out; simp only [EL.cnt] at this; exact ⟨by omega, by omega⟩
        have HSS : Hid (s'.size ≤ maxLen) := hss
        clear hsl hrest hss
        go_wp2_with fail
        refine Calls.mono (HC.out kd nm s' p' ad2 cap2 wr HSS.out HSl.out) ?_
        rintro e w2 ⟨q, rfl, hb2⟩
        have HB2 : Hid _ := HB.out.trans (hb2.mono hsw)
        have HBw2 : Hid (Below w.heap.size w w2) := (HBX.out _).trans (HB2.out.mono (Nat.le_succ _))
        clear hb2
        rcases q with _ | _
        · go_wp2
          go_ret
          first | exact ⟨_, rfl, HBw2.out⟩ | exact ⟨rfl, HBw2.out⟩ | exact HBw2.out
        · go_wp2
          go_roundw
          case rel => exact ⟨j + 1, r, by omega, by go_num, by have := HJ.out; simp only [EL.len] at this; show _ = _; omega, HRest, HR2, HB2⟩
          case measure => simp [intOf]; omega
    · go_wp2
      go_ret
      first | exact ⟨_, rfl, HBw.out⟩ | exact ⟨rfl, HBw.out⟩ | exact HBw.out

set_option maxRecDepth 100000 in
set_option maxHeartbeats 2000000 in
theorem fits_0 (l : EL) (k n : Int) (s : ByteArray) (p : Int) (ad : Option Addr) (cap : Nat) (w : World) (k1 : ¬ k = 1) (k2 : ¬ k = 2) (k3 : ¬ k = 3) (k4 : ¬ k = 4) (k5 : ¬ k = 5) : SaysB 22 #[eV k n s p (.slice ad l.len cap)] w := by
  unfold eV SaysB
  have HB2 : Hid (∀ o o', Below w.heap.size w ((w.alloc o).alloc o')) := fun o o' => ((Below.refl _ _).alloc (Nat.le_refl _) o).alloc (by simp) o'
  go_enter Try.func22, Try.ntmps22
  go_wp2
  go_ret
  first | exact ⟨_, rfl, HB2.out _ _⟩ | exact ⟨rfl, HB2.out _ _⟩ | exact HB2.out _ _

theorem fits_any (l : EL) : FitsC l := by
  have key : ∀ (M : Nat) (l : EL), l.cnt < M → FitsC l := by
    intro M
    induction M with
    | zero => intro l h; omega
    | succ M ih =>
      intro l hM hC k n s p ad cap w hs hE
      by_cases k1 : k = 1
      · subst k1; exact fits_1 M ih l (by omega) hC n s p ad cap w hs hE
      by_cases k2 : k = 2
      · subst k2; exact fits_2 M ih l (by omega) hC n s p ad cap w hs hE
      by_cases k3 : k = 3
      · subst k3; exact fits_3 M ih l (by omega) hC n s p ad cap w hs hE
      by_cases k4 : k = 4
      · subst k4; exact fits_4 M ih l (by omega) hC n s p ad cap w hs hE
      by_cases k5 : k = 5
      · subst k5; exact fits_5 M ih l (by omega) hC n s p ad cap w hs hE
      exact fits_0 l k n s p ad cap w k1 k2 k3 k4 k5
  exact key _ l (Nat.lt_succ_self _)
end Go.Proofs.Ytiafdlebggegfab
