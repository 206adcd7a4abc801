/- Which expressions may be: what the document's fits answers. -/
import Derived.Test.YtnofibjchhcmeabDoorRrE
import Derived.Deep.QuietTactic
import Derived.BigQuiet
namespace Go.Proofs.YtnofibjchhcmeabDoor
open Go.RowKit Go.Maps
set_option linter.unusedVariables false

/-- texts of expressions are no longer than any may be -/
abbrev esz (l : EL) : Prop := ESz l
def FitsC (l : EL) : Prop := ecnt l ≤ 1000000000 → ∀ (k n : Int) (s : ByteArray) (p : Int) (ad : Option Addr) (cap : Nat) (w : World), s.size ≤ maxLen → esz l → ESx w (.slice ad (elen l) cap) l → Calls Tryd.prog 40 #[.agg #[.int .i64 k, .int .i64 n, .string s, .int .i64 p, .slice ad (elen l) cap]] w (QB w (exprOk k n s p (elen l) && fitsE l))

set_option maxRecDepth 100000 in
set_option maxHeartbeats 4000000 in
theorem fits_1 (N : Nat) (HI : Hid (∀ l : EL, ecnt l < N → FitsC l)) (l : EL) (hN : ecnt l ≤ N) (hC : ecnt l ≤ 1000000000) (n : Int) (s : ByteArray) (p : Int) (ad : Option Addr) (cap : Nat) (w : World) (hs : s.size ≤ maxLen) (hz : esz l) (hE : ESx w (.slice ad (elen l) cap) l) : Calls Tryd.prog 40 #[.agg #[.int .i64 1, .int .i64 n, .string s, .int .i64 p, .slice ad (elen l) cap]] w (QB w (exprOk 1 n s p (elen l) && fitsE l)) := by
  obtain ⟨ad', cap', b, o, e0, h1, h2, h3, h4⟩ := hE
  cases e0
  have HE0 : Hid (EAx w l b o) := h4
  obtain ⟨m, hm⟩ : ∃ m, elen l = m := ⟨_, rfl⟩
  have HLM : Hid (elen l = m) := hm
  rw [hm] at h1 h3 ⊢
  have h9 : m ≤ 1000000000 := by have := elen_le l; omega
  have HN : Hid (ecnt l ≤ N ∧ ecnt l ≤ 1000000000) := ⟨hN, hC⟩
  have HZ : Hid (esz l) := hz
  obtain ⟨RR, hRR⟩ : ∃ R, (exprOk 1 n s p m && fitsE l) = R := ⟨_, rfl⟩
  have HRR0 : Hid (RR = (exprOk 1 n s p m && fitsE l)) := hRR.symm
  rw [hRR]
  clear h4 hm hN hC hz hRR
  unfold maxLen at h2
  unfold QB
  have HBX : Hid (∀ o, Below w.heap.size w (w.alloc o)) := fun o => (Below.refl _ _).alloc (Nat.le_refl _) o
  have HB2 : Hid (∀ o o', Below w.heap.size w ((w.alloc o).alloc o')) := fun o o' => ((Below.refl _ _).alloc (Nat.le_refl _) o).alloc (by simp) o'
  by_cases cs : s = ⟨#[]⟩
  case neg =>
    have cs' : ([] == s.toList) = false := by rw [beq_eq_false_iff_ne]; intro h; exact cs (ba_of s [] h.symm)
    have cs2 : ([] != s.toList) = true := by simpa using cs'
    have cs3 : (s.toList == []) = false := by rw [beq_eq_false_iff_ne]; intro h; exact cs (ba_of s [] h)
    have HRF : Hid (RR = false) := by show _ = _; rw [HRR0.out, ok_1]; rw [cs3]; simp
    go_enter Tryd.func40, Tryd.ntmps40
    go_wp2_with fail
    all_goals (go_ret; exact ⟨congrArg (fun b => Ending.returned (Value.bool b)) HRF.out.symm, HB2.out _ _⟩)
  subst cs
  by_cases cp : p = 0
  case neg =>
    have cp' : (0 != p) = true := by simpa using fun h => cp h.symm
    have HRF : Hid (RR = false) := by show _ = _; rw [HRR0.out, ok_1]; simp [cp]
    go_enter Tryd.func40, Tryd.ntmps40
    go_wp2_with fail
    all_goals (go_ret; exact ⟨congrArg (fun b => Ending.returned (Value.bool b)) HRF.out.symm, HB2.out _ _⟩)
  subst cp
  by_cases cm : m = 0
  case neg =>
    have cm' : ((m : Int) == 0) = false := by simp; omega
    have cm2 : ((m : Int) != 0) = true := by simp; omega
    have HRF : Hid (RR = false) := by show _ = _; rw [HRR0.out, ok_1]; simp [cm]
    go_enter Tryd.func40, Tryd.ntmps40
    go_wp2_with fail
    all_goals (go_ret; exact ⟨congrArg (fun b => Ending.returned (Value.bool b)) HRF.out.symm, HB2.out _ _⟩)
  subst cm
  by_cases cn : n < 0
  case pos =>
    have HRF : Hid (RR = false) := by show _ = _; rw [HRR0.out, ok_1]; rw [show decide ((0 : Int) ≤ n) = false from decide_eq_false (by omega)]; simp
    go_enter Tryd.func40, Tryd.ntmps40
    go_wp2_with fail
    all_goals (go_ret; exact ⟨congrArg (fun b => Ending.returned (Value.bool b)) HRF.out.symm, HB2.out _ _⟩)
  have HRR : Hid (RR = fitsE l) := by show _ = _; rw [HRR0.out, ok_1]; rw [show decide ((0 : Int) ≤ n) = true from decide_eq_true (by omega)]; simp
  have HL : Hid (∀ o', Below (w.heap.size + 1) (w.alloc (.cells #[.int .i64 1, .int .i64 n, .string ⟨#[]⟩, .int .i64 0, .slice ad 0 cap] 42)) ((w.alloc (.cells #[.int .i64 1, .int .i64 n, .string ⟨#[]⟩, .int .i64 0, .slice ad 0 cap] 42)).alloc o')) := fun o' => (Below.refl _ _).alloc (by simp) o'
  go_enter Tryd.func40, Tryd.ntmps40
  go_wp2_with fail
  have hl0 : l = .leaf := by cases l with
    | leaf => rfl
    | inner i d u a r => have := HLM.out; simp [elen] at this
  have HRT : Hid (RR = true) := by show _ = _; rw [HRR.out, hl0]; rfl
  go_rounds 1
  go_ret
  exact ⟨congrArg (fun b => Ending.returned (Value.bool b)) HRT.out.symm, HB2.out _ _⟩

set_option maxRecDepth 100000 in
set_option maxHeartbeats 4000000 in
theorem fits_2 (N : Nat) (HI : Hid (∀ l : EL, ecnt l < N → FitsC l)) (l : EL) (hN : ecnt l ≤ N) (hC : ecnt l ≤ 1000000000) (n : Int) (s : ByteArray) (p : Int) (ad : Option Addr) (cap : Nat) (w : World) (hs : s.size ≤ maxLen) (hz : esz l) (hE : ESx w (.slice ad (elen l) cap) l) : Calls Tryd.prog 40 #[.agg #[.int .i64 2, .int .i64 n, .string s, .int .i64 p, .slice ad (elen l) cap]] w (QB w (exprOk 2 n s p (elen l) && fitsE l)) := by
  obtain ⟨ad', cap', b, o, e0, h1, h2, h3, h4⟩ := hE
  cases e0
  have HE0 : Hid (EAx w l b o) := h4
  obtain ⟨m, hm⟩ : ∃ m, elen l = m := ⟨_, rfl⟩
  have HLM : Hid (elen l = m) := hm
  rw [hm] at h1 h3 ⊢
  have h9 : m ≤ 1000000000 := by have := elen_le l; omega
  have HN : Hid (ecnt l ≤ N ∧ ecnt l ≤ 1000000000) := ⟨hN, hC⟩
  have HZ : Hid (esz l) := hz
  obtain ⟨RR, hRR⟩ : ∃ R, (exprOk 2 n s p m && fitsE l) = R := ⟨_, rfl⟩
  have HRR0 : Hid (RR = (exprOk 2 n s p m && fitsE l)) := hRR.symm
  rw [hRR]
  clear h4 hm hN hC hz hRR
  unfold maxLen at h2
  unfold QB
  have HBX : Hid (∀ o, Below w.heap.size w (w.alloc o)) := fun o => (Below.refl _ _).alloc (Nat.le_refl _) o
  have HB2 : Hid (∀ o o', Below w.heap.size w ((w.alloc o).alloc o')) := fun o o' => ((Below.refl _ _).alloc (Nat.le_refl _) o).alloc (by simp) o'
  by_cases cn : n = 0
  case neg =>
    have cn' : (0 != n) = true := by simpa using fun h => cn h.symm
    have HRF : Hid (RR = false) := by show _ = _; rw [HRR0.out, ok_2]; simp [cn]
    go_enter Tryd.func40, Tryd.ntmps40
    go_wp2_with fail
    all_goals (go_ret; exact ⟨congrArg (fun b => Ending.returned (Value.bool b)) HRF.out.symm, HB2.out _ _⟩)
  subst cn
  by_cases cp : p = 0
  case neg =>
    have cp' : (0 != p) = true := by simpa using fun h => cp h.symm
    have HRF : Hid (RR = false) := by show _ = _; rw [HRR0.out, ok_2]; simp [cp]
    go_enter Tryd.func40, Tryd.ntmps40
    go_wp2_with fail
    all_goals (go_ret; exact ⟨congrArg (fun b => Ending.returned (Value.bool b)) HRF.out.symm, HB2.out _ _⟩)
  subst cp
  by_cases cm : m = 0
  case neg =>
    have cm' : ((m : Int) == 0) = false := by simp; omega
    have cm2 : ((m : Int) != 0) = true := by simp; omega
    have HRF : Hid (RR = false) := by show _ = _; rw [HRR0.out, ok_2]; simp [cm]
    go_enter Tryd.func40, Tryd.ntmps40
    go_wp2_with fail
    all_goals (go_ret; exact ⟨congrArg (fun b => Ending.returned (Value.bool b)) HRF.out.symm, HB2.out _ _⟩)
  subst cm
  have HL : Hid (∀ o', Below (w.heap.size + 1) (w.alloc (.cells #[.int .i64 2, .int .i64 0, .string s, .int .i64 0, .slice ad 0 cap] 42)) ((w.alloc (.cells #[.int .i64 2, .int .i64 0, .string s, .int .i64 0, .slice ad 0 cap] 42)).alloc o')) := fun o' => (Below.refl _ _).alloc (by simp) o'
  obtain ⟨nb, hnb⟩ : ∃ x, nmB s.data.toList = x := ⟨_, rfl⟩
  have HNB : Hid (nmB s.data.toList = nb) := hnb
  clear hnb
  go_enter Tryd.func40, Tryd.ntmps40
  go_wp2_with fail
  refine (rname_any s hs _).mono ?_
  rintro e w1 ⟨rfl, hb1⟩
  rw [HNB.out]
  have HL1 : Hid (Below (w.heap.size + 1) (w.alloc (.cells #[.int .i64 2, .int .i64 0, .string s, .int .i64 0, .slice ad 0 cap] 42)) w1) := (HL.out _).trans (hb1.mono (by simp))
  have HW1 : Hid (Below w.heap.size w w1) := (HB2.out _ _).trans (hb1.mono (by simp; omega))
  have F1 := (Five.new w (.int .i64 2) (.int .i64 0) (.string s) (.int .i64 0) (.slice ad 0 cap) 42).keep (HL1.out.block w.heap.size (Nat.lt_succ_self _))
  obtain ⟨y0, y1, y2, y3, y4⟩ := F1
  have hsw : w.heap.size < w1.heap.size := by have := HL1.out.size; simp at this; omega
  clear hb1
  cases nb
  · have HRF : Hid (RR = false) := by show _ = _; rw [HRR0.out, ok_2, HNB.out]; simp
    go_wp2
    go_ret
    exact ⟨congrArg (fun b => Ending.returned (Value.bool b)) HRF.out.symm, HW1.out⟩
  · have HRR : Hid (RR = fitsE l) := by show _ = _; rw [HRR0.out, ok_2, HNB.out]; simp
    go_wp2_with fail
    have hl0 : l = .leaf := by cases l with
      | leaf => rfl
      | inner i d u a r => have := HLM.out; simp [elen] at this
    have HRT : Hid (RR = true) := by show _ = _; rw [HRR.out, hl0]; rfl
    go_rounds 1
    go_ret
    exact ⟨congrArg (fun b => Ending.returned (Value.bool b)) HRT.out.symm, HW1.out⟩

set_option maxRecDepth 100000 in
set_option maxHeartbeats 4000000 in
theorem fits_3 (N : Nat) (HI : Hid (∀ l : EL, ecnt l < N → FitsC l)) (l : EL) (hN : ecnt l ≤ N) (hC : ecnt l ≤ 1000000000) (n : Int) (s : ByteArray) (p : Int) (ad : Option Addr) (cap : Nat) (w : World) (hs : s.size ≤ maxLen) (hz : esz l) (hE : ESx w (.slice ad (elen l) cap) l) : Calls Tryd.prog 40 #[.agg #[.int .i64 3, .int .i64 n, .string s, .int .i64 p, .slice ad (elen l) cap]] w (QB w (exprOk 3 n s p (elen l) && fitsE l)) := by
  obtain ⟨ad', cap', b, o, e0, h1, h2, h3, h4⟩ := hE
  cases e0
  have HE0 : Hid (EAx w l b o) := h4
  obtain ⟨m, hm⟩ : ∃ m, elen l = m := ⟨_, rfl⟩
  have HLM : Hid (elen l = m) := hm
  rw [hm] at h1 h3 ⊢
  have h9 : m ≤ 1000000000 := by have := elen_le l; omega
  have HN : Hid (ecnt l ≤ N ∧ ecnt l ≤ 1000000000) := ⟨hN, hC⟩
  have HZ : Hid (esz l) := hz
  obtain ⟨RR, hRR⟩ : ∃ R, (exprOk 3 n s p m && fitsE l) = R := ⟨_, rfl⟩
  have HRR0 : Hid (RR = (exprOk 3 n s p m && fitsE l)) := hRR.symm
  rw [hRR]
  clear h4 hm hN hC hz hRR
  unfold maxLen at h2
  unfold QB
  have HBX : Hid (∀ o, Below w.heap.size w (w.alloc o)) := fun o => (Below.refl _ _).alloc (Nat.le_refl _) o
  have HB2 : Hid (∀ o o', Below w.heap.size w ((w.alloc o).alloc o')) := fun o o' => ((Below.refl _ _).alloc (Nat.le_refl _) o).alloc (by simp) o'
  by_cases cn : n = 0
  case neg =>
    have cn' : (0 != n) = true := by simpa using fun h => cn h.symm
    have HRF : Hid (RR = false) := by show _ = _; rw [HRR0.out, ok_3]; simp [cn]
    go_enter Tryd.func40, Tryd.ntmps40
    go_wp2_with fail
    all_goals (go_ret; exact ⟨congrArg (fun b => Ending.returned (Value.bool b)) HRF.out.symm, HB2.out _ _⟩)
  subst cn
  by_cases cs : s = ⟨#[]⟩
  case neg =>
    have cs' : ([] == s.toList) = false := by rw [beq_eq_false_iff_ne]; intro h; exact cs (ba_of s [] h.symm)
    have cs2 : ([] != s.toList) = true := by simpa using cs'
    have cs3 : (s.toList == []) = false := by rw [beq_eq_false_iff_ne]; intro h; exact cs (ba_of s [] h)
    have HRF : Hid (RR = false) := by show _ = _; rw [HRR0.out, ok_3]; rw [cs3]; simp
    go_enter Tryd.func40, Tryd.ntmps40
    go_wp2_with fail
    all_goals (go_ret; exact ⟨congrArg (fun b => Ending.returned (Value.bool b)) HRF.out.symm, HB2.out _ _⟩)
  subst cs
  by_cases cp : p = 0
  case neg =>
    have cp' : (0 != p) = true := by simpa using fun h => cp h.symm
    have HRF : Hid (RR = false) := by show _ = _; rw [HRR0.out, ok_3]; simp [cp]
    go_enter Tryd.func40, Tryd.ntmps40
    go_wp2_with fail
    all_goals (go_ret; exact ⟨congrArg (fun b => Ending.returned (Value.bool b)) HRF.out.symm, HB2.out _ _⟩)
  subst cp
  by_cases cm : m = 1
  case neg =>
    have cm' : ((m : Int) == 1) = false := by simp; omega
    have cm2 : ((m : Int) != 1) = true := by simp; omega
    have HRF : Hid (RR = false) := by show _ = _; rw [HRR0.out, ok_3]; simp [cm]
    go_enter Tryd.func40, Tryd.ntmps40
    go_wp2_with fail
    all_goals (go_ret; exact ⟨congrArg (fun b => Ending.returned (Value.bool b)) HRF.out.symm, HB2.out _ _⟩)
  subst cm
  obtain ⟨rfl, _⟩ := h3 (by omega)
  have HRR : Hid (RR = fitsE l) := by show _ = _; rw [HRR0.out, ok_3]; simp
  have HL : Hid (∀ o', Below (w.heap.size + 1) (w.alloc (.cells #[.int .i64 3, .int .i64 0, .string ⟨#[]⟩, .int .i64 0, .slice (some ⟨b, o, none⟩) 1 cap] 42)) ((w.alloc (.cells #[.int .i64 3, .int .i64 0, .string ⟨#[]⟩, .int .i64 0, .slice (some ⟨b, o, none⟩) 1 cap] 42)).alloc o')) := fun o' => (Below.refl _ _).alloc (by simp) o'
  go_enter Tryd.func40, Tryd.ntmps40
  go_wp2_with fail
  go_loopw [5] (fun i wr => ∃ (j : Nat) (r : EL), j ≤ 1 ∧ i = .int .i64 (j : Int) ∧ Hid (j + elen r = 1) ∧ Hid (EAx w r b (o + 5 * j)) ∧ Hid (fitsE l = fitsE r ∧ esz r) ∧ Hid (ecnt r ≤ N ∧ ecnt r ≤ 1000000000) ∧ Hid (Below (w.heap.size + 1) (w.alloc (.cells #[.int .i64 3, .int .i64 0, .string ⟨#[]⟩, .int .i64 0, .slice (some ⟨b, o, none⟩) 1 cap] 42)) wr)) (fun i _ => 1 - (intOf i).toNat)
  case atStart => exact ⟨0, l, Nat.zero_le _, rfl, by show _ = _; rw [Nat.zero_add]; exact HLM.out, HE0, ⟨rfl, HZ.out⟩, HN.out, by first | exact HL1.out | exact HL.out _⟩
  case round =>
    obtain ⟨j, r, hj, rfl, HJ, HE, HF, HR, HB⟩ := hrel
    have HBw : Hid (Below w.heap.size w wr) := (HBX.out _).trans (HB.out.mono (Nat.le_succ _))
    have F0 := (Five.new w (.int .i64 3) (.int .i64 0) (.string ⟨#[]⟩) (.int .i64 0) (.slice (some ⟨b, o, none⟩) 1 cap) 42).keep (HB.out.block w.heap.size (Nat.lt_succ_self _))
    have y4 := F0.c4
    have hsw : w.heap.size < wr.heap.size := by have := HB.out.size; simp at this; omega
    clear F0
    by_cases hlt : j < 1
    · cases r with
      | leaf => have := HJ.out; simp only [elen] at this; omega
      | inner i0 d0 u0 a r =>
        obtain ⟨kd, nm, s', p'⟩ := d0
        obtain ⟨ad2, cap2, hrd, hsl, hrest⟩ := EAx.read HE.out HBw.out
        rw [Nat.mul_comm 5 j] at hrd
        obtain ⟨z0, z1, z2, z3, z4, z5⟩ := hrd
        have HSl : Hid (ESx wr (.slice ad2 (elen a) cap2) a) := hsl
        have HRest : Hid (EAx w r b (o + 5 * (j + 1))) := by rw [show o + 5 * (j + 1) = o + 5 * j + 5 by omega]; exact hrest
        have HC : Hid (FitsC a) := HI.out a (by have := HR.out.1; simp only [ecnt] at this; omega)
        have HC9 : Hid (ecnt a ≤ 1000000000) := by have := HR.out.2; simp only [ecnt] at this; show _ ≤ _; omega
        have HR2 : Hid (ecnt r ≤ N ∧ ecnt r ≤ 1000000000) := by have := HR.out; simp only [ecnt] at this; exact ⟨by omega, by omega⟩
        have HS3 : Hid (s'.size ≤ maxLen ∧ esz a ∧ esz r) := HF.out.2
        have HFF : Hid (fitsE l = (exprOk kd nm s' p' (elen a) && fitsE a && fitsE r)) := HF.out.1
        obtain ⟨B, hB⟩ : ∃ B, (exprOk kd nm s' p' (elen a) && fitsE a) = B := ⟨_, rfl⟩
        have HBB : Hid ((exprOk kd nm s' p' (elen a) && fitsE a) = B) := hB
        rw [hB] at HFF
        clear hsl hrest hB
        go_wp2_with fail
        refine Calls.mono (HC.out HC9.out kd nm s' p' ad2 cap2 wr HS3.out.1 HS3.out.2.1 HSl.out) ?_
        rintro e w2 ⟨rfl, hb2⟩
        rw [HBB.out]
        have HB2 : Hid _ := HB.out.trans (hb2.mono hsw)
        have HBw2 : Hid (Below w.heap.size w w2) := (HBX.out _).trans (HB2.out.mono (Nat.le_succ _))
        clear hb2
        cases B
        · have HRF : Hid (RR = false) := by show _ = _; rw [HRR.out, HFF.out]; simp
          go_wp2
          go_ret
          exact ⟨congrArg (fun b => Ending.returned (Value.bool b)) HRF.out.symm, HBw2.out⟩
        · have HFN : Hid (fitsE l = fitsE r ∧ esz r) := ⟨by rw [HFF.out]; simp, HS3.out.2.2⟩
          go_wp2
          go_roundw
          case rel => exact ⟨j + 1, r, by omega, by go_num, by have := HJ.out; simp only [elen] at this; show _ = _; omega, HRest, HFN, HR2, HB2⟩
          case measure => simp [intOf]; omega
    · have hr : r = .leaf := by cases r with
        | leaf => rfl
        | inner i0 d0 u0 a r => have := HJ.out; simp only [elen] at this; omega
      subst hr
      have HRT : Hid (RR = true) := by show _ = _; rw [HRR.out, HF.out.1]; rfl
      go_wp2
      go_ret
      exact ⟨congrArg (fun b => Ending.returned (Value.bool b)) HRT.out.symm, HBw.out⟩

set_option maxRecDepth 100000 in
set_option maxHeartbeats 4000000 in
theorem fits_4 (N : Nat) (HI : Hid (∀ l : EL, ecnt l < N → FitsC l)) (l : EL) (hN : ecnt l ≤ N) (hC : ecnt l ≤ 1000000000) (n : Int) (s : ByteArray) (p : Int) (ad : Option Addr) (cap : Nat) (w : World) (hs : s.size ≤ maxLen) (hz : esz l) (hE : ESx w (.slice ad (elen l) cap) l) : Calls Tryd.prog 40 #[.agg #[.int .i64 4, .int .i64 n, .string s, .int .i64 p, .slice ad (elen l) cap]] w (QB w (exprOk 4 n s p (elen l) && fitsE l)) := by
  obtain ⟨ad', cap', b, o, e0, h1, h2, h3, h4⟩ := hE
  cases e0
  have HE0 : Hid (EAx w l b o) := h4
  obtain ⟨m, hm⟩ : ∃ m, elen l = m := ⟨_, rfl⟩
  have HLM : Hid (elen l = m) := hm
  rw [hm] at h1 h3 ⊢
  have h9 : m ≤ 1000000000 := by have := elen_le l; omega
  have HN : Hid (ecnt l ≤ N ∧ ecnt l ≤ 1000000000) := ⟨hN, hC⟩
  have HZ : Hid (esz l) := hz
  obtain ⟨RR, hRR⟩ : ∃ R, (exprOk 4 n s p m && fitsE l) = R := ⟨_, rfl⟩
  have HRR0 : Hid (RR = (exprOk 4 n s p m && fitsE l)) := hRR.symm
  rw [hRR]
  clear h4 hm hN hC hz hRR
  unfold maxLen at h2
  unfold QB
  have HBX : Hid (∀ o, Below w.heap.size w (w.alloc o)) := fun o => (Below.refl _ _).alloc (Nat.le_refl _) o
  have HB2 : Hid (∀ o o', Below w.heap.size w ((w.alloc o).alloc o')) := fun o o' => ((Below.refl _ _).alloc (Nat.le_refl _) o).alloc (by simp) o'
  by_cases cn : n = 0
  case neg =>
    have cn' : (0 != n) = true := by simpa using fun h => cn h.symm
    have HRF : Hid (RR = false) := by show _ = _; rw [HRR0.out, ok_4]; simp [cn]
    go_enter Tryd.func40, Tryd.ntmps40
    go_wp2_with fail
    all_goals (go_ret; exact ⟨congrArg (fun b => Ending.returned (Value.bool b)) HRF.out.symm, HB2.out _ _⟩)
  subst cn
  by_cases cs : s = ⟨#[]⟩
  case neg =>
    have cs' : ([] == s.toList) = false := by rw [beq_eq_false_iff_ne]; intro h; exact cs (ba_of s [] h.symm)
    have cs2 : ([] != s.toList) = true := by simpa using cs'
    have cs3 : (s.toList == []) = false := by rw [beq_eq_false_iff_ne]; intro h; exact cs (ba_of s [] h)
    have HRF : Hid (RR = false) := by show _ = _; rw [HRR0.out, ok_4]; rw [cs3]; simp
    go_enter Tryd.func40, Tryd.ntmps40
    go_wp2_with fail
    all_goals (go_ret; exact ⟨congrArg (fun b => Ending.returned (Value.bool b)) HRF.out.symm, HB2.out _ _⟩)
  subst cs
  by_cases cm : m = 1
  case neg =>
    have cm' : ((m : Int) == 1) = false := by simp; omega
    have cm2 : ((m : Int) != 1) = true := by simp; omega
    have HRF : Hid (RR = false) := by show _ = _; rw [HRR0.out, ok_4]; simp [cm]
    go_enter Tryd.func40, Tryd.ntmps40
    go_wp2_with fail
    all_goals (go_ret; exact ⟨congrArg (fun b => Ending.returned (Value.bool b)) HRF.out.symm, HB2.out _ _⟩)
  subst cm
  obtain ⟨rfl, _⟩ := h3 (by omega)
  by_cases cl : p < 19
  case pos =>
    have HRF : Hid (RR = false) := by show _ = _; rw [HRR0.out, ok_4]; rw [show decide ((19 : Int) ≤ p) = false from decide_eq_false (by omega)]; simp
    go_enter Tryd.func40, Tryd.ntmps40
    go_wp2_with fail
    all_goals (go_ret; exact ⟨congrArg (fun b => Ending.returned (Value.bool b)) HRF.out.symm, HB2.out _ _⟩)
  by_cases ch : 21 < p
  case pos =>
    have HRF : Hid (RR = false) := by show _ = _; rw [HRR0.out, ok_4]; rw [show decide (p ≤ (21 : Int)) = false from decide_eq_false (by omega)]; simp
    go_enter Tryd.func40, Tryd.ntmps40
    go_wp2_with fail
    all_goals (go_ret; exact ⟨congrArg (fun b => Ending.returned (Value.bool b)) HRF.out.symm, HB2.out _ _⟩)
  have HRR : Hid (RR = fitsE l) := by show _ = _; rw [HRR0.out, ok_4]; rw [show decide ((19 : Int) ≤ p) = true from decide_eq_true (by omega), show decide (p ≤ (21 : Int)) = true from decide_eq_true (by omega)]; simp
  have HL : Hid (∀ o', Below (w.heap.size + 1) (w.alloc (.cells #[.int .i64 4, .int .i64 0, .string ⟨#[]⟩, .int .i64 p, .slice (some ⟨b, o, none⟩) 1 cap] 42)) ((w.alloc (.cells #[.int .i64 4, .int .i64 0, .string ⟨#[]⟩, .int .i64 p, .slice (some ⟨b, o, none⟩) 1 cap] 42)).alloc o')) := fun o' => (Below.refl _ _).alloc (by simp) o'
  go_enter Tryd.func40, Tryd.ntmps40
  go_wp2_with fail
  go_loopw [5] (fun i wr => ∃ (j : Nat) (r : EL), j ≤ 1 ∧ i = .int .i64 (j : Int) ∧ Hid (j + elen r = 1) ∧ Hid (EAx w r b (o + 5 * j)) ∧ Hid (fitsE l = fitsE r ∧ esz r) ∧ Hid (ecnt r ≤ N ∧ ecnt r ≤ 1000000000) ∧ Hid (Below (w.heap.size + 1) (w.alloc (.cells #[.int .i64 4, .int .i64 0, .string ⟨#[]⟩, .int .i64 p, .slice (some ⟨b, o, none⟩) 1 cap] 42)) wr)) (fun i _ => 1 - (intOf i).toNat)
  case atStart => exact ⟨0, l, Nat.zero_le _, rfl, by show _ = _; rw [Nat.zero_add]; exact HLM.out, HE0, ⟨rfl, HZ.out⟩, HN.out, by first | exact HL1.out | exact HL.out _⟩
  case round =>
    obtain ⟨j, r, hj, rfl, HJ, HE, HF, HR, HB⟩ := hrel
    have HBw : Hid (Below w.heap.size w wr) := (HBX.out _).trans (HB.out.mono (Nat.le_succ _))
    have F0 := (Five.new w (.int .i64 4) (.int .i64 0) (.string ⟨#[]⟩) (.int .i64 p) (.slice (some ⟨b, o, none⟩) 1 cap) 42).keep (HB.out.block w.heap.size (Nat.lt_succ_self _))
    have y4 := F0.c4
    have hsw : w.heap.size < wr.heap.size := by have := HB.out.size; simp at this; omega
    clear F0
    by_cases hlt : j < 1
    · cases r with
      | leaf => have := HJ.out; simp only [elen] at this; omega
      | inner i0 d0 u0 a r =>
        obtain ⟨kd, nm, s', p'⟩ := d0
        obtain ⟨ad2, cap2, hrd, hsl, hrest⟩ := EAx.read HE.out HBw.out
        rw [Nat.mul_comm 5 j] at hrd
        obtain ⟨z0, z1, z2, z3, z4, z5⟩ := hrd
        have HSl : Hid (ESx wr (.slice ad2 (elen a) cap2) a) := hsl
        have HRest : Hid (EAx w r b (o + 5 * (j + 1))) := by rw [show o + 5 * (j + 1) = o + 5 * j + 5 by omega]; exact hrest
        have HC : Hid (FitsC a) := HI.out a (by have := HR.out.1; simp only [ecnt] at this; omega)
        have HC9 : Hid (ecnt a ≤ 1000000000) := by have := HR.out.2; simp only [ecnt] at this; show _ ≤ _; omega
        have HR2 : Hid (ecnt r ≤ N ∧ ecnt r ≤ 1000000000) := by have := HR.out; simp only [ecnt] at this; exact ⟨by omega, by omega⟩
        have HS3 : Hid (s'.size ≤ maxLen ∧ esz a ∧ esz r) := HF.out.2
        have HFF : Hid (fitsE l = (exprOk kd nm s' p' (elen a) && fitsE a && fitsE r)) := HF.out.1
        obtain ⟨B, hB⟩ : ∃ B, (exprOk kd nm s' p' (elen a) && fitsE a) = B := ⟨_, rfl⟩
        have HBB : Hid ((exprOk kd nm s' p' (elen a) && fitsE a) = B) := hB
        rw [hB] at HFF
        clear hsl hrest hB
        go_wp2_with fail
        refine Calls.mono (HC.out HC9.out kd nm s' p' ad2 cap2 wr HS3.out.1 HS3.out.2.1 HSl.out) ?_
        rintro e w2 ⟨rfl, hb2⟩
        rw [HBB.out]
        have HB2 : Hid _ := HB.out.trans (hb2.mono hsw)
        have HBw2 : Hid (Below w.heap.size w w2) := (HBX.out _).trans (HB2.out.mono (Nat.le_succ _))
        clear hb2
        cases B
        · have HRF : Hid (RR = false) := by show _ = _; rw [HRR.out, HFF.out]; simp
          go_wp2
          go_ret
          exact ⟨congrArg (fun b => Ending.returned (Value.bool b)) HRF.out.symm, HBw2.out⟩
        · have HFN : Hid (fitsE l = fitsE r ∧ esz r) := ⟨by rw [HFF.out]; simp, HS3.out.2.2⟩
          go_wp2
          go_roundw
          case rel => exact ⟨j + 1, r, by omega, by go_num, by have := HJ.out; simp only [elen] at this; show _ = _; omega, HRest, HFN, HR2, HB2⟩
          case measure => simp [intOf]; omega
    · have hr : r = .leaf := by cases r with
        | leaf => rfl
        | inner i0 d0 u0 a r => have := HJ.out; simp only [elen] at this; omega
      subst hr
      have HRT : Hid (RR = true) := by show _ = _; rw [HRR.out, HF.out.1]; rfl
      go_wp2
      go_ret
      exact ⟨congrArg (fun b => Ending.returned (Value.bool b)) HRT.out.symm, HBw.out⟩

set_option maxRecDepth 100000 in
set_option maxHeartbeats 4000000 in
theorem fits_5 (N : Nat) (HI : Hid (∀ l : EL, ecnt l < N → FitsC l)) (l : EL) (hN : ecnt l ≤ N) (hC : ecnt l ≤ 1000000000) (n : Int) (s : ByteArray) (p : Int) (ad : Option Addr) (cap : Nat) (w : World) (hs : s.size ≤ maxLen) (hz : esz l) (hE : ESx w (.slice ad (elen l) cap) l) : Calls Tryd.prog 40 #[.agg #[.int .i64 5, .int .i64 n, .string s, .int .i64 p, .slice ad (elen l) cap]] w (QB w (exprOk 5 n s p (elen l) && fitsE l)) := by
  obtain ⟨ad', cap', b, o, e0, h1, h2, h3, h4⟩ := hE
  cases e0
  have HE0 : Hid (EAx w l b o) := h4
  obtain ⟨m, hm⟩ : ∃ m, elen l = m := ⟨_, rfl⟩
  have HLM : Hid (elen l = m) := hm
  rw [hm] at h1 h3 ⊢
  have h9 : m ≤ 1000000000 := by have := elen_le l; omega
  have HN : Hid (ecnt l ≤ N ∧ ecnt l ≤ 1000000000) := ⟨hN, hC⟩
  have HZ : Hid (esz l) := hz
  obtain ⟨RR, hRR⟩ : ∃ R, (exprOk 5 n s p m && fitsE l) = R := ⟨_, rfl⟩
  have HRR0 : Hid (RR = (exprOk 5 n s p m && fitsE l)) := hRR.symm
  rw [hRR]
  clear h4 hm hN hC hz hRR
  unfold maxLen at h2
  unfold QB
  have HBX : Hid (∀ o, Below w.heap.size w (w.alloc o)) := fun o => (Below.refl _ _).alloc (Nat.le_refl _) o
  have HB2 : Hid (∀ o o', Below w.heap.size w ((w.alloc o).alloc o')) := fun o o' => ((Below.refl _ _).alloc (Nat.le_refl _) o).alloc (by simp) o'
  by_cases cn : n = 0
  case neg =>
    have cn' : (0 != n) = true := by simpa using fun h => cn h.symm
    have HRF : Hid (RR = false) := by show _ = _; rw [HRR0.out, ok_5]; simp [cn]
    go_enter Tryd.func40, Tryd.ntmps40
    go_wp2_with fail
    all_goals (go_ret; exact ⟨congrArg (fun b => Ending.returned (Value.bool b)) HRF.out.symm, HB2.out _ _⟩)
  subst cn
  by_cases cs : s = ⟨#[]⟩
  case neg =>
    have cs' : ([] == s.toList) = false := by rw [beq_eq_false_iff_ne]; intro h; exact cs (ba_of s [] h.symm)
    have cs2 : ([] != s.toList) = true := by simpa using cs'
    have cs3 : (s.toList == []) = false := by rw [beq_eq_false_iff_ne]; intro h; exact cs (ba_of s [] h)
    have HRF : Hid (RR = false) := by show _ = _; rw [HRR0.out, ok_5]; rw [cs3]; simp
    go_enter Tryd.func40, Tryd.ntmps40
    go_wp2_with fail
    all_goals (go_ret; exact ⟨congrArg (fun b => Ending.returned (Value.bool b)) HRF.out.symm, HB2.out _ _⟩)
  subst cs
  by_cases cm : m = 2
  case neg =>
    have cm' : ((m : Int) == 2) = false := by simp; omega
    have cm2 : ((m : Int) != 2) = true := by simp; omega
    have HRF : Hid (RR = false) := by show _ = _; rw [HRR0.out, ok_5]; simp [cm]
    go_enter Tryd.func40, Tryd.ntmps40
    go_wp2_with fail
    all_goals (go_ret; exact ⟨congrArg (fun b => Ending.returned (Value.bool b)) HRF.out.symm, HB2.out _ _⟩)
  subst cm
  obtain ⟨rfl, _⟩ := h3 (by omega)
  by_cases cl : p < 1
  case pos =>
    have HRF : Hid (RR = false) := by show _ = _; rw [HRR0.out, ok_5]; rw [show decide ((1 : Int) ≤ p) = false from decide_eq_false (by omega)]; simp
    go_enter Tryd.func40, Tryd.ntmps40
    go_wp2_with fail
    all_goals (go_ret; exact ⟨congrArg (fun b => Ending.returned (Value.bool b)) HRF.out.symm, HB2.out _ _⟩)
  by_cases ch : 18 < p
  case pos =>
    have HRF : Hid (RR = false) := by show _ = _; rw [HRR0.out, ok_5]; rw [show decide (p ≤ (18 : Int)) = false from decide_eq_false (by omega)]; simp
    go_enter Tryd.func40, Tryd.ntmps40
    go_wp2_with fail
    all_goals (go_ret; exact ⟨congrArg (fun b => Ending.returned (Value.bool b)) HRF.out.symm, HB2.out _ _⟩)
  have HRR : Hid (RR = fitsE l) := by show _ = _; rw [HRR0.out, ok_5]; rw [show decide ((1 : Int) ≤ p) = true from decide_eq_true (by omega), show decide (p ≤ (18 : Int)) = true from decide_eq_true (by omega)]; simp
  have HL : Hid (∀ o', Below (w.heap.size + 1) (w.alloc (.cells #[.int .i64 5, .int .i64 0, .string ⟨#[]⟩, .int .i64 p, .slice (some ⟨b, o, none⟩) 2 cap] 42)) ((w.alloc (.cells #[.int .i64 5, .int .i64 0, .string ⟨#[]⟩, .int .i64 p, .slice (some ⟨b, o, none⟩) 2 cap] 42)).alloc o')) := fun o' => (Below.refl _ _).alloc (by simp) o'
  go_enter Tryd.func40, Tryd.ntmps40
  go_wp2_with fail
  go_loopw [5] (fun i wr => ∃ (j : Nat) (r : EL), j ≤ 2 ∧ i = .int .i64 (j : Int) ∧ Hid (j + elen r = 2) ∧ Hid (EAx w r b (o + 5 * j)) ∧ Hid (fitsE l = fitsE r ∧ esz r) ∧ Hid (ecnt r ≤ N ∧ ecnt r ≤ 1000000000) ∧ Hid (Below (w.heap.size + 1) (w.alloc (.cells #[.int .i64 5, .int .i64 0, .string ⟨#[]⟩, .int .i64 p, .slice (some ⟨b, o, none⟩) 2 cap] 42)) wr)) (fun i _ => 2 - (intOf i).toNat)
  case atStart => exact ⟨0, l, Nat.zero_le _, rfl, by show _ = _; rw [Nat.zero_add]; exact HLM.out, HE0, ⟨rfl, HZ.out⟩, HN.out, by first | exact HL1.out | exact HL.out _⟩
  case round =>
    obtain ⟨j, r, hj, rfl, HJ, HE, HF, HR, HB⟩ := hrel
    have HBw : Hid (Below w.heap.size w wr) := (HBX.out _).trans (HB.out.mono (Nat.le_succ _))
    have F0 := (Five.new w (.int .i64 5) (.int .i64 0) (.string ⟨#[]⟩) (.int .i64 p) (.slice (some ⟨b, o, none⟩) 2 cap) 42).keep (HB.out.block w.heap.size (Nat.lt_succ_self _))
    have y4 := F0.c4
    have hsw : w.heap.size < wr.heap.size := by have := HB.out.size; simp at this; omega
    clear F0
    by_cases hlt : j < 2
    · cases r with
      | leaf => have := HJ.out; simp only [elen] at this; omega
      | inner i0 d0 u0 a r =>
        obtain ⟨kd, nm, s', p'⟩ := d0
        obtain ⟨ad2, cap2, hrd, hsl, hrest⟩ := EAx.read HE.out HBw.out
        rw [Nat.mul_comm 5 j] at hrd
        obtain ⟨z0, z1, z2, z3, z4, z5⟩ := hrd
        have HSl : Hid (ESx wr (.slice ad2 (elen a) cap2) a) := hsl
        have HRest : Hid (EAx w r b (o + 5 * (j + 1))) := by rw [show o + 5 * (j + 1) = o + 5 * j + 5 by omega]; exact hrest
        have HC : Hid (FitsC a) := HI.out a (by have := HR.out.1; simp only [ecnt] at this; omega)
        have HC9 : Hid (ecnt a ≤ 1000000000) := by have := HR.out.2; simp only [ecnt] at this; show _ ≤ _; omega
        have HR2 : Hid (ecnt r ≤ N ∧ ecnt r ≤ 1000000000) := by have := HR.out; simp only [ecnt] at this; exact ⟨by omega, by omega⟩
        have HS3 : Hid (s'.size ≤ maxLen ∧ esz a ∧ esz r) := HF.out.2
        have HFF : Hid (fitsE l = (exprOk kd nm s' p' (elen a) && fitsE a && fitsE r)) := HF.out.1
        obtain ⟨B, hB⟩ : ∃ B, (exprOk kd nm s' p' (elen a) && fitsE a) = B := ⟨_, rfl⟩
        have HBB : Hid ((exprOk kd nm s' p' (elen a) && fitsE a) = B) := hB
        rw [hB] at HFF
        clear hsl hrest hB
        go_wp2_with fail
        refine Calls.mono (HC.out HC9.out kd nm s' p' ad2 cap2 wr HS3.out.1 HS3.out.2.1 HSl.out) ?_
        rintro e w2 ⟨rfl, hb2⟩
        rw [HBB.out]
        have HB2 : Hid _ := HB.out.trans (hb2.mono hsw)
        have HBw2 : Hid (Below w.heap.size w w2) := (HBX.out _).trans (HB2.out.mono (Nat.le_succ _))
        clear hb2
        cases B
        · have HRF : Hid (RR = false) := by show _ = _; rw [HRR.out, HFF.out]; simp
          go_wp2
          go_ret
          exact ⟨congrArg (fun b => Ending.returned (Value.bool b)) HRF.out.symm, HBw2.out⟩
        · have HFN : Hid (fitsE l = fitsE r ∧ esz r) := ⟨by rw [HFF.out]; simp, HS3.out.2.2⟩
          go_wp2
          go_roundw
          case rel => exact ⟨j + 1, r, by omega, by go_num, by have := HJ.out; simp only [elen] at this; show _ = _; omega, HRest, HFN, HR2, HB2⟩
          case measure => simp [intOf]; omega
    · have hr : r = .leaf := by cases r with
        | leaf => rfl
        | inner i0 d0 u0 a r => have := HJ.out; simp only [elen] at this; omega
      subst hr
      have HRT : Hid (RR = true) := by show _ = _; rw [HRR.out, HF.out.1]; rfl
      go_wp2
      go_ret
      exact ⟨congrArg (fun b => Ending.returned (Value.bool b)) HRT.out.symm, HBw.out⟩

set_option maxRecDepth 100000 in
set_option maxHeartbeats 2000000 in
theorem fits_0 (k n : Int) (s : ByteArray) (p : Int) (ad : Option Addr) (m cap : Nat) (w : World) (hk : k < 1 ∨ 5 < k) : Calls Tryd.prog 40 #[.agg #[.int .i64 k, .int .i64 n, .string s, .int .i64 p, .slice ad m cap]] w (QB w false) := by
  have HB2 : Hid (∀ o o', Below w.heap.size w ((w.alloc o).alloc o')) := fun o o' => ((Below.refl _ _).alloc (Nat.le_refl _) o).alloc (by simp) o'
  have k1 : (k == 1) = false := by simp; omega
  have k2 : (k == 2) = false := by simp; omega
  have k3 : (k == 3) = false := by simp; omega
  have k4 : (k == 4) = false := by simp; omega
  have k5 : (k == 5) = false := by simp; omega
  clear hk
  unfold QB
  go_enter Tryd.func40, Tryd.ntmps40
  go_wp2
  go_ret
  exact ⟨rfl, HB2.out _ _⟩

theorem fits_any : ∀ (N : Nat) (l : EL), ecnt l ≤ N → FitsC l := by
  intro N
  induction N with
  | zero =>
    intro l hN hC k n s p ad cap w hs hz hE
    have HI : Hid (∀ l' : EL, ecnt l' < ecnt l → FitsC l') := fun l' h => by omega
    by_cases hk : k < 1 ∨ 5 < k
    · rw [ok_no k n s p _ hk]; exact fits_0 k n s p ad _ cap w hk
    have hk' : k = 1 ∨ k = 2 ∨ k = 3 ∨ k = 4 ∨ k = 5 := by omega
    rcases hk' with rfl | rfl | rfl | rfl | rfl
    · exact fits_1 _ HI l (Nat.le_refl _) hC n s p ad cap w hs hz hE
    · exact fits_2 _ HI l (Nat.le_refl _) hC n s p ad cap w hs hz hE
    · exact fits_3 _ HI l (Nat.le_refl _) hC n s p ad cap w hs hz hE
    · exact fits_4 _ HI l (Nat.le_refl _) hC n s p ad cap w hs hz hE
    · exact fits_5 _ HI l (Nat.le_refl _) hC n s p ad cap w hs hz hE
  | succ N ih =>
    intro l hN hC k n s p ad cap w hs hz hE
    have HI : Hid (∀ l' : EL, ecnt l' < ecnt l → FitsC l') := fun l' h => ih l' (by omega)
    by_cases hk : k < 1 ∨ 5 < k
    · rw [ok_no k n s p _ hk]; exact fits_0 k n s p ad _ cap w hk
    have hk' : k = 1 ∨ k = 2 ∨ k = 3 ∨ k = 4 ∨ k = 5 := by omega
    rcases hk' with rfl | rfl | rfl | rfl | rfl
    · exact fits_1 _ HI l (Nat.le_refl _) hC n s p ad cap w hs hz hE
    · exact fits_2 _ HI l (Nat.le_refl _) hC n s p ad cap w hs hz hE
    · exact fits_3 _ HI l (Nat.le_refl _) hC n s p ad cap w hs hz hE
    · exact fits_4 _ HI l (Nat.le_refl _) hC n s p ad cap w hs hz hE
    · exact fits_5 _ HI l (Nat.le_refl _) hC n s p ad cap w hs hz hE
end Go.Proofs.YtnofibjchhcmeabDoor
