/- The document's may, of a statement of the kind 7. -/
import Derived.Test.YtnofibjchhcmeabDoorRrM
namespace Go.Proofs.YtnofibjchhcmeabDoor
open Go.RowKit Go.Maps
set_option linter.unusedVariables false

set_option maxRecDepth 100000 in
set_option maxHeartbeats 8000000 in
theorem may_7 (M : Nat) (HI : Hid (MayC M)) (hM : M ≤ 1000000000) (a : EL) (b e : SL) (hN : ecnt a + scnt b + scnt e < M + 1) (s : ByteArray) (c : Int) (aa ab ae : Option Addr) (ca cb ce : Nat) (bl : Nat) (w : World) (hs : s.size ≤ maxLen) (hza : ESz a) (hzb : SSz b) (hze : SSz e) (hb1 : bl ≤ 12) (hA : ESx w (.slice aa (elen a) ca) a) (hB : SSx w (.slice ab (slen b) cb) b) (hE : SSx w (.slice ae (slen e) ce) e) : Calls Tryd.prog 23 #[.agg #[.int .i64 7, .string s, .int .i64 c, .slice aa (elen a) ca, .slice ab (slen b) cb, .slice ae (slen e) ce], .int .i64 (bl : Int)] w (QB w (mayO 7 s c a b e bl)) := by
  obtain ⟨aa', ca', ba, oa, e0, h1, h2, h3, h4⟩ := hA
  cases e0
  obtain ⟨ab', cb', bb, ob, e0, b1, b2, b3, b4⟩ := hB
  cases e0
  obtain ⟨ae', ce', be, oe, e0, e1, e2, e3, e4⟩ := hE
  cases e0
  have HA0 : Hid (EAx w a ba oa) := h4
  have HB0 : Hid (SAx w b bb ob) := b4
  have HE0 : Hid (SAx w e be oe) := e4
  have HZA : Hid (ESz a) := hza
  have HZB : Hid (SSz b) := hzb
  have HZE : Hid (SSz e) := hze
  obtain ⟨RR, hRR⟩ : ∃ R, mayO 7 s c a b e bl = R := ⟨_, rfl⟩
  have HRR0' : Hid (RR = mayO 7 s c a b e bl) := hRR.symm
  rw [hRR]
  obtain ⟨na, hna⟩ : ∃ m, elen a = m := ⟨_, rfl⟩
  have HLA : Hid (elen a = na) := hna
  obtain ⟨nb, hnb⟩ : ∃ m, slen b = m := ⟨_, rfl⟩
  have HLB : Hid (slen b = nb) := hnb
  obtain ⟨ne, hne⟩ : ∃ m, slen e = m := ⟨_, rfl⟩
  have HLE : Hid (slen e = ne) := hne
  have HRR0 : Hid (RR = ((stmtOk 7 s c na nb ne && !((hasS 7).body && decide (12 ≤ bl))) && (argB a && (mayS b (bl + 1) && mayS e (bl + 1))))) := by show _ = _; rw [HRR0'.out, mayO_is, hna, hnb, hne]
  have g1 : na ≤ 1000000000 := by have := elen_le a; omega
  have g2 : nb ≤ 1000000000 := by have := slen_le b; omega
  have g3 : ne ≤ 1000000000 := by have := slen_le e; omega
  have HCA : Hid (ecnt a ≤ 1000000000) := by show _ ≤ _; omega
  have HCB : Hid (scnt b < M + 1) := by show _ < _; omega
  have HCE : Hid (scnt e < M + 1) := by show _ < _; omega
  rw [hna] at h1 h3 ⊢
  rw [hnb] at b1 b3 ⊢
  rw [hne] at e1 e3 ⊢
  clear h4 b4 e4 hna hnb hne hN hza hzb hze hRR HRR0'
  unfold maxLen at h2 b2 e2
  unfold QB
  have HBX : Hid (∀ o, Below w.heap.size w (w.alloc o)) := fun o => (Below.refl _ _).alloc (Nat.le_refl _) o
  have HB2 : Hid (∀ o o', Below w.heap.size w ((w.alloc o).alloc o')) := fun o o' => ((Below.refl _ _).alloc (Nat.le_refl _) o).alloc (by simp) o'
  have HBq : Hid (∀ o o' n, Below w.heap.size w (((w.alloc o).alloc o').drewN n)) := fun o o' n => below_drewN (HB2.out o o') n
  by_cases cs : s = ⟨#[]⟩
  case neg =>
    have cs' : ([] == s.toList) = false := by rw [beq_eq_false_iff_ne]; intro h; exact cs (ba_of s [] h.symm)
    have cs2 : ([] != s.toList) = true := by simpa using cs'
    have cs3 : (s.toList == []) = false := by rw [beq_eq_false_iff_ne]; intro h; exact cs (ba_of s [] h)
    have HRF : Hid (RR = false) := by show _ = _; rw [HRR0.out, sk_7]; rw [cs3]; simp
    have HL : Hid (∀ o', Below (w.heap.size + 1) (w.alloc (.cells #[.int .i64 7, .string s, .int .i64 c, .slice aa na ca, .slice ab nb cb, .slice ae ne ce] 39)) ((w.alloc (.cells #[.int .i64 7, .string s, .int .i64 c, .slice aa na ca, .slice ab nb cb, .slice ae ne ce] 39)).alloc o')) := fun o' => (Below.refl _ _).alloc (by simp) o'
    have HLq : Hid (∀ o' n, Below (w.heap.size + 1) (w.alloc (.cells #[.int .i64 7, .string s, .int .i64 c, .slice aa na ca, .slice ab nb cb, .slice ae ne ce] 39)) (((w.alloc (.cells #[.int .i64 7, .string s, .int .i64 c, .slice aa na ca, .slice ab nb cb, .slice ae ne ce] 39)).alloc o').drewN n)) := fun o' n => below_drewN (HL.out o') n
    go_enter Tryd.func23, Tryd.ntmps23
    go_wp2_with fail
    all_goals (go_ret; exact ⟨congrArg (fun b => Ending.returned (Value.bool b)) HRF.out.symm, HB2.out _ _⟩)
  subst cs
  by_cases cc : c = 0
  case neg =>
    have cc' : (0 != c) = true := by simpa using fun h => cc h.symm
    have HRF : Hid (RR = false) := by show _ = _; rw [HRR0.out, sk_7]; simp [cc]
    have HL : Hid (∀ o', Below (w.heap.size + 1) (w.alloc (.cells #[.int .i64 7, .string ⟨#[]⟩, .int .i64 c, .slice aa na ca, .slice ab nb cb, .slice ae ne ce] 39)) ((w.alloc (.cells #[.int .i64 7, .string ⟨#[]⟩, .int .i64 c, .slice aa na ca, .slice ab nb cb, .slice ae ne ce] 39)).alloc o')) := fun o' => (Below.refl _ _).alloc (by simp) o'
    have HLq : Hid (∀ o' n, Below (w.heap.size + 1) (w.alloc (.cells #[.int .i64 7, .string ⟨#[]⟩, .int .i64 c, .slice aa na ca, .slice ab nb cb, .slice ae ne ce] 39)) (((w.alloc (.cells #[.int .i64 7, .string ⟨#[]⟩, .int .i64 c, .slice aa na ca, .slice ab nb cb, .slice ae ne ce] 39)).alloc o').drewN n)) := fun o' n => below_drewN (HL.out o') n
    go_enter Tryd.func23, Tryd.ntmps23
    go_wp2_with fail
    all_goals (go_ret; exact ⟨congrArg (fun b => Ending.returned (Value.bool b)) HRF.out.symm, HB2.out _ _⟩)
  subst cc
  by_cases cm : na = 1
  case neg =>
    have cm' : ((na : Int) == 1) = false := by simp; omega
    have cm2 : ((na : Int) != 1) = true := by simp; omega
    have HRF : Hid (RR = false) := by show _ = _; rw [HRR0.out, sk_7]; simp [cm]
    have HL : Hid (∀ o', Below (w.heap.size + 1) (w.alloc (.cells #[.int .i64 7, .string ⟨#[]⟩, .int .i64 0, .slice aa na ca, .slice ab nb cb, .slice ae ne ce] 39)) ((w.alloc (.cells #[.int .i64 7, .string ⟨#[]⟩, .int .i64 0, .slice aa na ca, .slice ab nb cb, .slice ae ne ce] 39)).alloc o')) := fun o' => (Below.refl _ _).alloc (by simp) o'
    have HLq : Hid (∀ o' n, Below (w.heap.size + 1) (w.alloc (.cells #[.int .i64 7, .string ⟨#[]⟩, .int .i64 0, .slice aa na ca, .slice ab nb cb, .slice ae ne ce] 39)) (((w.alloc (.cells #[.int .i64 7, .string ⟨#[]⟩, .int .i64 0, .slice aa na ca, .slice ab nb cb, .slice ae ne ce] 39)).alloc o').drewN n)) := fun o' n => below_drewN (HL.out o') n
    go_enter Tryd.func23, Tryd.ntmps23
    go_wp2_with fail
    all_goals (go_ret; exact ⟨congrArg (fun b => Ending.returned (Value.bool b)) HRF.out.symm, HB2.out _ _⟩)
  subst cm
  obtain rfl := (h3 (by omega)).1
  by_cases ce0 : ne = 0
  case neg =>
    have ce' : ((ne : Int) == 0) = false := by simp; omega
    have ce2 : ((ne : Int) != 0) = true := by simp; omega
    have HRF : Hid (RR = false) := by show _ = _; rw [HRR0.out, sk_7]; simp [ce0]
    have HL : Hid (∀ o', Below (w.heap.size + 1) (w.alloc (.cells #[.int .i64 7, .string ⟨#[]⟩, .int .i64 0, .slice (some ⟨ba, oa, none⟩) 1 ca, .slice ab nb cb, .slice ae ne ce] 39)) ((w.alloc (.cells #[.int .i64 7, .string ⟨#[]⟩, .int .i64 0, .slice (some ⟨ba, oa, none⟩) 1 ca, .slice ab nb cb, .slice ae ne ce] 39)).alloc o')) := fun o' => (Below.refl _ _).alloc (by simp) o'
    have HLq : Hid (∀ o' n, Below (w.heap.size + 1) (w.alloc (.cells #[.int .i64 7, .string ⟨#[]⟩, .int .i64 0, .slice (some ⟨ba, oa, none⟩) 1 ca, .slice ab nb cb, .slice ae ne ce] 39)) (((w.alloc (.cells #[.int .i64 7, .string ⟨#[]⟩, .int .i64 0, .slice (some ⟨ba, oa, none⟩) 1 ca, .slice ab nb cb, .slice ae ne ce] 39)).alloc o').drewN n)) := fun o' n => below_drewN (HL.out o') n
    go_enter Tryd.func23, Tryd.ntmps23
    go_wp2_with fail
    all_goals (go_ret; exact ⟨congrArg (fun b => Ending.returned (Value.bool b)) HRF.out.symm, HB2.out _ _⟩)
  subst ce0
  by_cases cbl : bl < 12
  case neg =>
    have HRF : Hid (RR = false) := by show _ = _; rw [HRR0.out, sk_7]; rw [show (hasS 7).body = true from rfl, decide_eq_true (show 12 ≤ bl by omega)]; simp
    have HL : Hid (∀ o', Below (w.heap.size + 1) (w.alloc (.cells #[.int .i64 7, .string ⟨#[]⟩, .int .i64 0, .slice (some ⟨ba, oa, none⟩) 1 ca, .slice ab nb cb, .slice ae 0 ce] 39)) ((w.alloc (.cells #[.int .i64 7, .string ⟨#[]⟩, .int .i64 0, .slice (some ⟨ba, oa, none⟩) 1 ca, .slice ab nb cb, .slice ae 0 ce] 39)).alloc o')) := fun o' => (Below.refl _ _).alloc (by simp) o'
    have HLq : Hid (∀ o' n, Below (w.heap.size + 1) (w.alloc (.cells #[.int .i64 7, .string ⟨#[]⟩, .int .i64 0, .slice (some ⟨ba, oa, none⟩) 1 ca, .slice ab nb cb, .slice ae 0 ce] 39)) (((w.alloc (.cells #[.int .i64 7, .string ⟨#[]⟩, .int .i64 0, .slice (some ⟨ba, oa, none⟩) 1 ca, .slice ab nb cb, .slice ae 0 ce] 39)).alloc o').drewN n)) := fun o' n => below_drewN (HL.out o') n
    go_enter Tryd.func23, Tryd.ntmps23
    go_wp2_with fail
    all_goals (go_ret; exact ⟨congrArg (fun b => Ending.returned (Value.bool b)) HRF.out.symm, HB2.out _ _⟩)
  have HRR : Hid (RR = (argB a && (mayS b (bl + 1) && mayS e (bl + 1)))) := by show _ = _; rw [HRR0.out, sk_7]; rw [decide_eq_false (show ¬ 12 ≤ bl by omega)]; simp
  have HEL : Hid (e = .leaf) := slen_zero HLE.out
  have HL : Hid (∀ o', Below (w.heap.size + 1) (w.alloc (.cells #[.int .i64 7, .string ⟨#[]⟩, .int .i64 0, .slice (some ⟨ba, oa, none⟩) 1 ca, .slice ab nb cb, .slice ae 0 ce] 39)) ((w.alloc (.cells #[.int .i64 7, .string ⟨#[]⟩, .int .i64 0, .slice (some ⟨ba, oa, none⟩) 1 ca, .slice ab nb cb, .slice ae 0 ce] 39)).alloc o')) := fun o' => (Below.refl _ _).alloc (by simp) o'
  have HLq : Hid (∀ o' n, Below (w.heap.size + 1) (w.alloc (.cells #[.int .i64 7, .string ⟨#[]⟩, .int .i64 0, .slice (some ⟨ba, oa, none⟩) 1 ca, .slice ab nb cb, .slice ae 0 ce] 39)) (((w.alloc (.cells #[.int .i64 7, .string ⟨#[]⟩, .int .i64 0, .slice (some ⟨ba, oa, none⟩) 1 ca, .slice ab nb cb, .slice ae 0 ce] 39)).alloc o').drewN n)) := fun o' n => below_drewN (HL.out o') n
  go_enter Tryd.func23, Tryd.ntmps23
  go_wp2_with fail
  go_loopw [9] (fun i wr => ∃ (j : Nat) (r : EL), j ≤ 1 ∧ i = .int .i64 (j : Int) ∧ Hid (j + elen r = 1) ∧ Hid (EAx w r ba (oa + 5 * j)) ∧ Hid (RR = (argB r && (mayS b (bl + 1) && mayS e (bl + 1))) ∧ ESz r) ∧ Hid (ecnt r ≤ 1000000000) ∧ Hid (Below (w.heap.size + 1) (w.alloc (.cells #[.int .i64 7, .string ⟨#[]⟩, .int .i64 0, .slice (some ⟨ba, oa, none⟩) 1 ca, .slice ab nb cb, .slice ae 0 ce] 39)) wr)) (fun i _ => 1 - (intOf i).toNat)
  case atStart => exact ⟨0, a, Nat.zero_le _, rfl, by show _ = _; rw [Nat.zero_add]; exact HLA.out, HA0, ⟨HRR.out, HZA.out⟩, HCA.out, by first | exact HL1.out | exact HL.out _ | exact HLq.out _ _⟩
  case round =>
    obtain ⟨j, r, hj, rfl, HJ, HE, HF, HR, HB⟩ := hrel
    have HBw : Hid (Below w.heap.size w wr) := (HBX.out _).trans (HB.out.mono (Nat.le_succ _))
    have F0 := (Six.new w (.int .i64 7) (.string ⟨#[]⟩) (.int .i64 0) (.slice (some ⟨ba, oa, none⟩) 1 ca) (.slice ab nb cb) (.slice ae 0 ce) 39).keep (HB.out.block w.heap.size (Nat.lt_succ_self _))
    obtain ⟨y0, y1, y2, y3, y4, y5⟩ := F0
    have hsw : w.heap.size < wr.heap.size := by have := HB.out.size; simp at this; omega
    by_cases hlt : j < 1
    · cases r with
      | leaf => have := HJ.out; simp only [elen] at this; omega
      | inner i0 d0 u0 a' r =>
        obtain ⟨kd, nm, s', p'⟩ := d0
        obtain ⟨ad2, cap2, hrd, hsl, hrest⟩ := EAx.read HE.out HBw.out
        rw [Nat.mul_comm 5 j] at hrd
        have HRD : Hid (ERd wr ba (oa + j * 5) kd nm s' p' ad2 (elen a') cap2) := hrd
        obtain ⟨z0, z1, z2, z3, z4, z5⟩ := hrd
        have HSl : Hid (ESx wr (.slice ad2 (elen a') cap2) a') := hsl
        have HRest : Hid (EAx w r ba (oa + 5 * (j + 1))) := by rw [show oa + 5 * (j + 1) = oa + 5 * j + 5 by omega]; exact hrest
        have HC' : Hid (ecnt a' ≤ 1000000000) := by have := HR.out; simp only [ecnt] at this; show _ ≤ _; omega
        have HR2 : Hid (ecnt r ≤ 1000000000) := by have := HR.out; simp only [ecnt] at this; show _ ≤ _; omega
        have HS3 : Hid (s'.size ≤ maxLen ∧ ESz a' ∧ ESz r) := HF.out.2
        have HFF : Hid (RR = (decide (dpC a' ≤ 48) && (exprOk kd nm s' p' (elen a') && fitsE a') && argB r && (mayS b (bl + 1) && mayS e (bl + 1)))) := by have := HF.out.1; rw [argB_inner] at this; exact this
        obtain ⟨dd, hdd⟩ : ∃ x, dpC a' = x := ⟨_, rfl⟩
        have HDD : Hid (dpC a' = dd) := hdd
        have hd9 : dd ≤ 100 := by rw [← hdd]; unfold dpC; split <;> omega
        obtain ⟨B, hB⟩ : ∃ B, (exprOk kd nm s' p' (elen a') && fitsE a') = B := ⟨_, rfl⟩
        have HBB : Hid ((exprOk kd nm s' p' (elen a') && fitsE a') = B) := hB
        rw [hB, hdd] at HFF
        clear hsl hrest hdd hB
        go_wp2_with fail
        refine (deep_any _ a' (Nat.le_refl _) HC'.out kd nm s' p' ad2 cap2 wr HSl.out).mono ?_
        rintro e1 w2 ⟨rfl, hb2⟩
        rw [HDD.out]
        have HB2 : Hid (Below (w.heap.size + 1) (w.alloc (.cells #[.int .i64 7, .string ⟨#[]⟩, .int .i64 0, .slice (some ⟨ba, oa, none⟩) 1 ca, .slice ab nb cb, .slice ae 0 ce] 39)) w2) := HB.out.trans (hb2.mono hsw)
        have HBw2 : Hid (Below w.heap.size w w2) := (HBX.out _).trans (HB2.out.mono (Nat.le_succ _))
        have HSl2 : Hid (ESx w2 (.slice ad2 (elen a') cap2) a') := ESlP.below HSl.out hb2
        by_cases h48 : 48 < dd
        · have HRF : Hid (RR = false) := by show _ = _; rw [HFF.out, decide_eq_false (by omega)]; simp
          clear hb2
          go_wp2
          go_ret
          exact ⟨congrArg (fun b => Ending.returned (Value.bool b)) HRF.out.symm, HBw2.out⟩
        · have hrd2 : ERd w2 ba (oa + j * 5) kd nm s' p' ad2 (elen a') cap2 := ⟨Nat.lt_of_lt_of_le z0 hb2.size, (hb2.cell (p := ⟨ba, oa + j * 5, none⟩) z0).trans z1, (hb2.cell (p := ⟨ba, oa + j * 5 + 1, none⟩) z0).trans z2, (hb2.cell (p := ⟨ba, oa + j * 5 + 2, none⟩) z0).trans z3, (hb2.cell (p := ⟨ba, oa + j * 5 + 3, none⟩) z0).trans z4, (hb2.cell (p := ⟨ba, oa + j * 5 + 4, none⟩) z0).trans z5⟩
          have HF3 : Hid (RR = (B && argB r && (mayS b (bl + 1) && mayS e (bl + 1)))) := by show _ = _; rw [HFF.out, decide_eq_true (by omega)]; simp
          clear z0 z1 z2 z3 z4 z5 y0 y1 y2 y3 y4 y5
          obtain ⟨z0, z1, z2, z3, z4, z5⟩ := hrd2
          have F2 := (Six.new w (.int .i64 7) (.string ⟨#[]⟩) (.int .i64 0) (.slice (some ⟨ba, oa, none⟩) 1 ca) (.slice ab nb cb) (.slice ae 0 ce) 39).keep (HB2.out.block w.heap.size (Nat.lt_succ_self _))
          obtain ⟨y0, y1, y2, y3, y4, y5⟩ := F2
          have hsw2 : w.heap.size < w2.heap.size := Nat.lt_of_lt_of_le hsw hb2.size
          clear hb2
          go_wp2_with fail
          refine Calls.mono (fits_any _ a' (Nat.le_refl _) HC'.out kd nm s' p' ad2 cap2 w2 HS3.out.1 HS3.out.2.1 HSl2.out) ?_
          rintro e1 w3 ⟨rfl, hb3⟩
          rw [HBB.out]
          have HB3 : Hid (Below (w.heap.size + 1) (w.alloc (.cells #[.int .i64 7, .string ⟨#[]⟩, .int .i64 0, .slice (some ⟨ba, oa, none⟩) 1 ca, .slice ab nb cb, .slice ae 0 ce] 39)) w3) := HB2.out.trans (hb3.mono hsw2)
          have HBw3 : Hid (Below w.heap.size w w3) := (HBX.out _).trans (HB3.out.mono (Nat.le_succ _))
          clear hb3
          cases B
          · have HRF : Hid (RR = false) := by show _ = _; rw [HF3.out]; simp
            go_wp2
            go_ret
            exact ⟨congrArg (fun b => Ending.returned (Value.bool b)) HRF.out.symm, HBw3.out⟩
          · have HF4 : Hid (RR = (argB r && (mayS b (bl + 1) && mayS e (bl + 1))) ∧ ESz r) := ⟨by rw [HF3.out]; simp, HS3.out.2.2⟩
            go_wp2
            go_roundw
            case rel => exact ⟨j + 1, r, by omega, by go_num, by have := HJ.out; simp only [elen] at this; show _ = _; omega, HRest, HF4, HR2, HB3⟩
            case measure => simp [intOf]; omega
    · have hr : r = .leaf := by cases r with
        | leaf => rfl
        | inner i0 d0 u0 a r => have := HJ.out; simp only [elen] at this; omega
      subst hr
      have HRA : Hid (RR = (mayS b (bl + 1) && mayS e (bl + 1))) := by show _ = _; rw [HF.out.1]; simp [argB, dpE, fitsE]
      go_wp2
      go_loopw [10] (fun i wr => ∃ (j : Nat) (r : SL), j ≤ nb ∧ i = .int .i64 (j : Int) ∧ Hid (j + slen r = nb) ∧ Hid (SAx w r bb (ob + 6 * j)) ∧ Hid (RR = (mayS r (bl + 1) && mayS e (bl + 1)) ∧ SSz r) ∧ Hid (scnt r < M + 1) ∧ Hid (Below (w.heap.size + 1) (w.alloc (.cells #[.int .i64 7, .string ⟨#[]⟩, .int .i64 0, .slice (some ⟨ba, oa, none⟩) 1 ca, .slice ab nb cb, .slice ae 0 ce] 39)) wr)) (fun i _ => nb - (intOf i).toNat)
      case atStart => exact ⟨0, b, Nat.zero_le _, rfl, by show _ = _; rw [Nat.zero_add]; exact HLB.out, HB0, ⟨HRA.out, HZB.out⟩, HCB.out, by first | exact HB.out | exact HB.out⟩
      case round =>
        obtain ⟨j, r, hj, rfl, HJ, HE, HF, HR, HB⟩ := hrel
        have HBw : Hid (Below w.heap.size w wr) := (HBX.out _).trans (HB.out.mono (Nat.le_succ _))
        have F0 := (Six.new w (.int .i64 7) (.string ⟨#[]⟩) (.int .i64 0) (.slice (some ⟨ba, oa, none⟩) 1 ca) (.slice ab nb cb) (.slice ae 0 ce) 39).keep (HB.out.block w.heap.size (Nat.lt_succ_self _))
        obtain ⟨y0, y1, y2, y3, y4, y5⟩ := F0
        have hsw : w.heap.size < wr.heap.size := by have := HB.out.size; simp at this; omega
        by_cases hlt : j < nb
        · have e0 := (b3 (by omega)).1
          rw [e0] at y4
          clear e0
          cases r with
          | leaf => have := HJ.out; simp only [slen] at this; omega
          | inner i0 d0 u0 x r =>
            obtain ⟨kd, s', c', a'⟩ := d0
            obtain ⟨ad2, cap2, bd2, bcap2, ed2, ecap2, hrd, hsa, hsd, hse, hrest⟩ := SAx.read HE.out HBw.out
            rw [Nat.mul_comm 6 j] at hrd
            obtain ⟨z0, z1, z2, z3, z4, z5, z6⟩ := hrd
            have HRest : Hid (SAx w r bb (ob + 6 * (j + 1))) := by rw [show ob + 6 * (j + 1) = ob + 6 * j + 6 by omega]; exact hrest
            obtain ⟨hz1, hz2, hz3, hz4, hz5⟩ := SSz_inner HF.out.2
            have HC' : Hid (Calls Tryd.prog 23 #[.agg #[.int .i64 kd, .string s', .int .i64 c', .slice ad2 (elen a') cap2, .slice bd2 (slen (slft x)) bcap2, .slice ed2 (slen (srgt x)) ecap2], .int .i64 ((bl : Int) + 1)] wr (QB wr (mayO kd s' c' a' (slft x) (srgt x) (bl + 1)))) := by
              have := HI.out a' (slft x) (srgt x) (by have := HR.out; rw [scnt_inner] at this; omega) kd s' c' ad2 bd2 ed2 cap2 bcap2 ecap2 (bl + 1) wr hz1 hz2 hz3 hz4 (by omega) hsa hsd hse
              rw [show ((bl + 1 : Nat) : Int) = (bl : Int) + 1 by omega] at this
              exact this
            have HR2 : Hid (scnt r < M + 1) := by have := HR.out; rw [scnt_inner] at this; show _ < _; omega
            have HZR : Hid (SSz r) := hz5
            have HFF : Hid (RR = (mayO kd s' c' a' (slft x) (srgt x) (bl + 1) && mayS r (bl + 1) && mayS e (bl + 1))) := by have := HF.out.1; rw [mayS_O] at this; exact this
            generalize mayO kd s' c' a' (slft x) (srgt x) (bl + 1) = B at HC' HFF
            generalize slen (slft x) = q1 at z5 HC'
            generalize slen (srgt x) = q2 at z6 HC'
            clear hsa hsd hse hrest hz1 hz2 hz3 hz4 hz5
            go_wp2_with fail
            refine Calls.mono HC'.out ?_
            rintro e1 w3 ⟨rfl, hb3⟩
            have HB3 : Hid (Below (w.heap.size + 1) (w.alloc (.cells #[.int .i64 7, .string ⟨#[]⟩, .int .i64 0, .slice (some ⟨ba, oa, none⟩) 1 ca, .slice ab nb cb, .slice ae 0 ce] 39)) w3) := HB.out.trans (hb3.mono hsw)
            have HBw3 : Hid (Below w.heap.size w w3) := (HBX.out _).trans (HB3.out.mono (Nat.le_succ _))
            clear hb3
            cases B
            · have HRF : Hid (RR = false) := by show _ = _; rw [HFF.out]; simp
              go_wp2
              go_ret
              exact ⟨congrArg (fun b => Ending.returned (Value.bool b)) HRF.out.symm, HBw3.out⟩
            · have HF4 : Hid (RR = (mayS r (bl + 1) && mayS e (bl + 1)) ∧ SSz r) := ⟨by rw [HFF.out]; simp, HZR.out⟩
              go_wp2
              go_roundw
              case rel => exact ⟨j + 1, r, by omega, by go_num, by have := HJ.out; simp only [slen] at this; show _ = _; omega, HRest, HF4, HR2, HB3⟩
              case measure => simp [intOf]; omega
        · have hr : r = .leaf := slen_zero (by have := HJ.out; omega)
          subst hr
          have HRA : Hid (RR = mayS e (bl + 1)) := by show _ = _; rw [HF.out.1]; simp [mayS]
          go_wp2
          have HRT : Hid (RR = true) := by show _ = _; rw [HRA.out, HEL.out]; rfl
          go_rounds 1
          go_ret
          exact ⟨congrArg (fun b => Ending.returned (Value.bool b)) HRT.out.symm, HBw.out⟩
end Go.Proofs.YtnofibjchhcmeabDoor
