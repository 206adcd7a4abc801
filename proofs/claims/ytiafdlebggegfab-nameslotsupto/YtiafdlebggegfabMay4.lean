/- The document's may answers something, of a statement of the kind 4. -/
import Derived.Test.YtiafdlebggegfabMayB
namespace Go.Proofs.Ytiafdlebggegfab
open Go.RowKit Go.Maps Go.WideMaps
set_option linter.unusedVariables false

set_option maxRecDepth 100000 in
set_option maxHeartbeats 8000000 in
theorem may_4 (M : Nat) (HI : Hid (MayC M)) (hM : M ≤ 1000000000) (a : EL) (b e : SL) (hN : a.cnt + b.cnt + e.cnt < M + 1) (s : ByteArray) (c : Int) (aa ab ae : Option Addr) (ca cb ce : Nat) (bl : Int) (w : World) (hs : s.size ≤ maxLen) (hb0 : 0 ≤ bl) (hb1 : bl ≤ 12) (hA : ESl w (.slice aa a.len ca) a) (hB : SSl w (.slice ab b.len cb) b) (hE : SSl w (.slice ae e.len ce) e) : SaysB 15 #[sV 4 s c (.slice aa a.len ca) (.slice ab b.len cb) (.slice ae e.len ce), .int .i64 bl] w := by
  obtain ⟨aa', ca', ba, oa, e0, h1, h2, h3, h4⟩ := hA
  cases e0
  obtain ⟨ab', cb', bb, ob, e0, b1, b2, b3, b4⟩ := hB
  cases e0
  obtain ⟨ae', ce', be, oe, e0, e1, e2, e3, e4⟩ := hE
  cases e0
  have HA0 : Hid (EAt w a ba oa) := h4
  have HB0 : Hid (SAt w b bb ob) := b4
  have HE0 : Hid (SAt w e be oe) := e4
  obtain ⟨na, hna⟩ : ∃ m, a.len = m := ⟨_, rfl⟩
  have HLA : Hid (a.len = na) := hna
  obtain ⟨nb, hnb⟩ : ∃ m, b.len = m := ⟨_, rfl⟩
  have HLB : Hid (b.len = nb) := hnb
  obtain ⟨ne, hne⟩ : ∃ m, e.len = m := ⟨_, rfl⟩
  have HLE : Hid (e.len = ne) := hne
  have g1 : na ≤ 1000000000 := by have := a.len_le; omega
  have g2 : nb ≤ 1000000000 := by have := b.len_le; omega
  have g3 : ne ≤ 1000000000 := by have := e.len_le; omega
  have HCA : Hid (a.cnt ≤ 1000000000) := by show _ ≤ _; omega
  have HCB : Hid (b.cnt < M + 1) := by show _ < _; omega
  have HCE : Hid (e.cnt < M + 1) := by show _ < _; omega
  rw [hna] at h1 h3 ⊢
  rw [hnb] at b1 b3 ⊢
  rw [hne] at e1 e3 ⊢
  clear h4 b4 e4 hna hnb hne hN
  unfold maxLen at h2 b2 e2
  unfold sV SaysB
  have HBX : Hid (∀ o, Below w.heap.size w (w.alloc o)) := fun o => (Below.refl _ _).alloc (Nat.le_refl _) o
  have HB2 : Hid (∀ o o', Below w.heap.size w ((w.alloc o).alloc o')) := fun o o' => ((Below.refl _ _).alloc (Nat.le_refl _) o).alloc (by simp) o'
  have HBq : Hid (∀ o o' n, Below w.heap.size w (((w.alloc o).alloc o').drewN n)) := fun o o' n => below_drewN (HB2.out o o') n
  by_cases cs : s = ⟨#[]⟩
  case neg =>
    have cs' : ([] == s.toList) = false := by rw [beq_eq_false_iff_ne]; intro h; exact cs (ba_of s [] h.symm)
    have cs2 : ([] != s.toList) = true := by simpa using cs'
    have HL : Hid (∀ o', Below (w.heap.size + 1) (w.alloc (.cells #[.int .i64 4, .string s, .int .i64 c, .slice aa na ca, .slice ab nb cb, .slice ae ne ce] 43)) ((w.alloc (.cells #[.int .i64 4, .string s, .int .i64 c, .slice aa na ca, .slice ab nb cb, .slice ae ne ce] 43)).alloc o')) := fun o' => (Below.refl _ _).alloc (by simp) o'
    have HLq : Hid (∀ o' n, Below (w.heap.size + 1) (w.alloc (.cells #[.int .i64 4, .string s, .int .i64 c, .slice aa na ca, .slice ab nb cb, .slice ae ne ce] 43)) (((w.alloc (.cells #[.int .i64 4, .string s, .int .i64 c, .slice aa na ca, .slice ab nb cb, .slice ae ne ce] 43)).alloc o').drewN n)) := fun o' n => below_drewN (HL.out o') n
    go_enter Try.func15, Try.ntmps15
    go_wp2_with fail
    all_goals (go_ret; first | exact ⟨_, rfl, HB2.out _ _⟩ | exact ⟨rfl, HB2.out _ _⟩ | exact HB2.out _ _)
  subst cs
  by_cases cc : c = 0
  case neg =>
    have cc' : (0 != c) = true := by simpa using fun h => cc h.symm
    have HL : Hid (∀ o', Below (w.heap.size + 1) (w.alloc (.cells #[.int .i64 4, .string ⟨#[]⟩, .int .i64 c, .slice aa na ca, .slice ab nb cb, .slice ae ne ce] 43)) ((w.alloc (.cells #[.int .i64 4, .string ⟨#[]⟩, .int .i64 c, .slice aa na ca, .slice ab nb cb, .slice ae ne ce] 43)).alloc o')) := fun o' => (Below.refl _ _).alloc (by simp) o'
    have HLq : Hid (∀ o' n, Below (w.heap.size + 1) (w.alloc (.cells #[.int .i64 4, .string ⟨#[]⟩, .int .i64 c, .slice aa na ca, .slice ab nb cb, .slice ae ne ce] 43)) (((w.alloc (.cells #[.int .i64 4, .string ⟨#[]⟩, .int .i64 c, .slice aa na ca, .slice ab nb cb, .slice ae ne ce] 43)).alloc o').drewN n)) := fun o' n => below_drewN (HL.out o') n
    go_enter Try.func15, Try.ntmps15
    go_wp2_with fail
    all_goals (go_ret; first | exact ⟨_, rfl, HB2.out _ _⟩ | exact ⟨rfl, HB2.out _ _⟩ | exact HB2.out _ _)
  subst cc
  by_cases cm : na = 1
  case neg =>
    have cm' : ((na : Int) == 1) = false := by simp; omega
    have cm2 : ((na : Int) != 1) = true := by simp; omega
    have HL : Hid (∀ o', Below (w.heap.size + 1) (w.alloc (.cells #[.int .i64 4, .string ⟨#[]⟩, .int .i64 0, .slice aa na ca, .slice ab nb cb, .slice ae ne ce] 43)) ((w.alloc (.cells #[.int .i64 4, .string ⟨#[]⟩, .int .i64 0, .slice aa na ca, .slice ab nb cb, .slice ae ne ce] 43)).alloc o')) := fun o' => (Below.refl _ _).alloc (by simp) o'
    have HLq : Hid (∀ o' n, Below (w.heap.size + 1) (w.alloc (.cells #[.int .i64 4, .string ⟨#[]⟩, .int .i64 0, .slice aa na ca, .slice ab nb cb, .slice ae ne ce] 43)) (((w.alloc (.cells #[.int .i64 4, .string ⟨#[]⟩, .int .i64 0, .slice aa na ca, .slice ab nb cb, .slice ae ne ce] 43)).alloc o').drewN n)) := fun o' n => below_drewN (HL.out o') n
    go_enter Try.func15, Try.ntmps15
    go_wp2_with fail
    all_goals (go_ret; first | exact ⟨_, rfl, HB2.out _ _⟩ | exact ⟨rfl, HB2.out _ _⟩ | exact HB2.out _ _)
  subst cm
  obtain rfl := h3 (by omega)
  by_cases cb0 : nb = 0
  case neg =>
    have cb' : ((nb : Int) == 0) = false := by simp; omega
    have cb2 : ((nb : Int) != 0) = true := by simp; omega
    have HL : Hid (∀ o', Below (w.heap.size + 1) (w.alloc (.cells #[.int .i64 4, .string ⟨#[]⟩, .int .i64 0, .slice (some ⟨ba, oa, none⟩) 1 ca, .slice ab nb cb, .slice ae ne ce] 43)) ((w.alloc (.cells #[.int .i64 4, .string ⟨#[]⟩, .int .i64 0, .slice (some ⟨ba, oa, none⟩) 1 ca, .slice ab nb cb, .slice ae ne ce] 43)).alloc o')) := fun o' => (Below.refl _ _).alloc (by simp) o'
    have HLq : Hid (∀ o' n, Below (w.heap.size + 1) (w.alloc (.cells #[.int .i64 4, .string ⟨#[]⟩, .int .i64 0, .slice (some ⟨ba, oa, none⟩) 1 ca, .slice ab nb cb, .slice ae ne ce] 43)) (((w.alloc (.cells #[.int .i64 4, .string ⟨#[]⟩, .int .i64 0, .slice (some ⟨ba, oa, none⟩) 1 ca, .slice ab nb cb, .slice ae ne ce] 43)).alloc o').drewN n)) := fun o' n => below_drewN (HL.out o') n
    go_enter Try.func15, Try.ntmps15
    go_wp2_with fail
    all_goals (go_ret; first | exact ⟨_, rfl, HB2.out _ _⟩ | exact ⟨rfl, HB2.out _ _⟩ | exact HB2.out _ _)
  subst cb0
  by_cases ce0 : ne = 0
  case neg =>
    have ce' : ((ne : Int) == 0) = false := by simp; omega
    have ce2 : ((ne : Int) != 0) = true := by simp; omega
    have HL : Hid (∀ o', Below (w.heap.size + 1) (w.alloc (.cells #[.int .i64 4, .string ⟨#[]⟩, .int .i64 0, .slice (some ⟨ba, oa, none⟩) 1 ca, .slice ab 0 cb, .slice ae ne ce] 43)) ((w.alloc (.cells #[.int .i64 4, .string ⟨#[]⟩, .int .i64 0, .slice (some ⟨ba, oa, none⟩) 1 ca, .slice ab 0 cb, .slice ae ne ce] 43)).alloc o')) := fun o' => (Below.refl _ _).alloc (by simp) o'
    have HLq : Hid (∀ o' n, Below (w.heap.size + 1) (w.alloc (.cells #[.int .i64 4, .string ⟨#[]⟩, .int .i64 0, .slice (some ⟨ba, oa, none⟩) 1 ca, .slice ab 0 cb, .slice ae ne ce] 43)) (((w.alloc (.cells #[.int .i64 4, .string ⟨#[]⟩, .int .i64 0, .slice (some ⟨ba, oa, none⟩) 1 ca, .slice ab 0 cb, .slice ae ne ce] 43)).alloc o').drewN n)) := fun o' n => below_drewN (HL.out o') n
    go_enter Try.func15, Try.ntmps15
    go_wp2_with fail
    all_goals (go_ret; first | exact ⟨_, rfl, HB2.out _ _⟩ | exact ⟨rfl, HB2.out _ _⟩ | exact HB2.out _ _)
  subst ce0
  by_cases cbl : bl < 12
  all_goals
    have HL : Hid (∀ o', Below (w.heap.size + 1) (w.alloc (.cells #[.int .i64 4, .string ⟨#[]⟩, .int .i64 0, .slice (some ⟨ba, oa, none⟩) 1 ca, .slice ab 0 cb, .slice ae 0 ce] 43)) ((w.alloc (.cells #[.int .i64 4, .string ⟨#[]⟩, .int .i64 0, .slice (some ⟨ba, oa, none⟩) 1 ca, .slice ab 0 cb, .slice ae 0 ce] 43)).alloc o')) := fun o' => (Below.refl _ _).alloc (by simp) o'
    have HLq : Hid (∀ o' n, Below (w.heap.size + 1) (w.alloc (.cells #[.int .i64 4, .string ⟨#[]⟩, .int .i64 0, .slice (some ⟨ba, oa, none⟩) 1 ca, .slice ab 0 cb, .slice ae 0 ce] 43)) (((w.alloc (.cells #[.int .i64 4, .string ⟨#[]⟩, .int .i64 0, .slice (some ⟨ba, oa, none⟩) 1 ca, .slice ab 0 cb, .slice ae 0 ce] 43)).alloc o').drewN n)) := fun o' n => below_drewN (HL.out o') n
    go_enter Try.func15, Try.ntmps15
    go_wp2_with fail
    go_loopw [9] (fun i wr => ∃ (j : Nat) (r : EL), j ≤ 1 ∧ i = .int .i64 (j : Int) ∧ Hid (j + r.len = 1) ∧ Hid (EAt w r ba (oa + 5 * j)) ∧ Hid (r.cnt ≤ 1000000000) ∧ Hid (Below (w.heap.size + 1) (w.alloc (.cells #[.int .i64 4, .string ⟨#[]⟩, .int .i64 0, .slice (some ⟨ba, oa, none⟩) 1 ca, .slice ab 0 cb, .slice ae 0 ce] 43)) wr)) (fun i _ => 1 - (intOf i).toNat)
    case atStart => exact ⟨0, a, Nat.zero_le _, rfl, by show _ = _; rw [Nat.zero_add]; exact HLA.out, HA0, HCA.out, by first | exact HL1.out | exact HL.out _ | exact HLq.out _ _⟩
    case round =>
      obtain ⟨j, r, hj, rfl, HJ, HE, HR, HB⟩ := hrel
      have HBw : Hid (Below w.heap.size w wr) := (HBX.out _).trans (HB.out.mono (Nat.le_succ _))
      have F0 := (Six.new w (.int .i64 4) (.string ⟨#[]⟩) (.int .i64 0) (.slice (some ⟨ba, oa, none⟩) 1 ca) (.slice ab 0 cb) (.slice ae 0 ce) 43).keep (HB.out.block w.heap.size (Nat.lt_succ_self _))
      obtain ⟨y0, y1, y2, y3, y4, y5⟩ := F0
      have hsw : w.heap.size < wr.heap.size := by have := HB.out.size; simp at this; omega
      by_cases hlt : j < 1
      · cases r with
        | nil => have := HJ.out; simp only [EL.len] at this; omega
        | cons kd nm s' p' a' r =>
          obtain ⟨ad2, cap2, hrd, hsl, hss, hrest⟩ := HE.out.read HBw.out
          rw [Nat.mul_comm 5 j] at hrd
          have HRD : Hid (ERd wr ba (oa + j * 5) kd nm s' p' ad2 a'.len cap2) := hrd
          obtain ⟨z0, z1, z2, z3, z4, z5⟩ := hrd
          have HSl : Hid (ESl wr (.slice ad2 a'.len cap2) a') := hsl
          have HRest : Hid (EAt w r ba (oa + 5 * (j + 1))) := by rw [show oa + 5 * (j + 1) = oa + 5 * j + 5 by omega]; exact hrest
          have HC' : Hid (a'.cnt ≤ 1000000000) := by have := HR.out; simp only [EL.cnt] at this; show _ ≤ _; omega
          have HR2 : Hid (r.cnt ≤ 1000000000) := by have := HR.out; simp only [EL.cnt] at this; show _ ≤ _; omega
          have HSS : Hid (s'.size ≤ maxLen) := hss
          clear hsl hrest hss
          go_wp2_with fail
          refine (deep_any _ a' (Nat.le_refl _) HC'.out kd nm s' p' ad2 cap2 wr HSl.out).mono ?_
          rintro e1 w2 ⟨dd, rfl, hd0, hd9, hb2⟩
          have HB2 : Hid (Below (w.heap.size + 1) (w.alloc (.cells #[.int .i64 4, .string ⟨#[]⟩, .int .i64 0, .slice (some ⟨ba, oa, none⟩) 1 ca, .slice ab 0 cb, .slice ae 0 ce] 43)) w2) := HB.out.trans (hb2.mono hsw)
          have HBw2 : Hid (Below w.heap.size w w2) := (HBX.out _).trans (HB2.out.mono (Nat.le_succ _))
          have HSl2 : Hid (ESl w2 (.slice ad2 a'.len cap2) a') := HSl.out.below hb2
          by_cases h48 : 48 < dd
          · clear hb2
            go_wp2
            go_ret
            first | exact ⟨_, rfl, HBw2.out⟩ | exact ⟨rfl, HBw2.out⟩ | exact HBw2.out
          · have hrd2 : ERd w2 ba (oa + j * 5) kd nm s' p' ad2 a'.len cap2 := ⟨Nat.lt_of_lt_of_le z0 hb2.size, (hb2.cell (p := ⟨ba, oa + j * 5, none⟩) z0).trans z1, (hb2.cell (p := ⟨ba, oa + j * 5 + 1, none⟩) z0).trans z2, (hb2.cell (p := ⟨ba, oa + j * 5 + 2, none⟩) z0).trans z3, (hb2.cell (p := ⟨ba, oa + j * 5 + 3, none⟩) z0).trans z4, (hb2.cell (p := ⟨ba, oa + j * 5 + 4, none⟩) z0).trans z5⟩
            clear z0 z1 z2 z3 z4 z5 y0 y1 y2 y3 y4 y5
            obtain ⟨z0, z1, z2, z3, z4, z5⟩ := hrd2
            have F2 := (Six.new w (.int .i64 4) (.string ⟨#[]⟩) (.int .i64 0) (.slice (some ⟨ba, oa, none⟩) 1 ca) (.slice ab 0 cb) (.slice ae 0 ce) 43).keep (HB2.out.block w.heap.size (Nat.lt_succ_self _))
            obtain ⟨y0, y1, y2, y3, y4, y5⟩ := F2
            have hsw2 : w.heap.size < w2.heap.size := Nat.lt_of_lt_of_le hsw hb2.size
            clear hb2
            go_wp2_with fail
            refine Calls.mono (fits_any a' HC'.out kd nm s' p' ad2 cap2 w2 HSS.out HSl2.out) ?_
            rintro e1 w3 ⟨q, rfl, hb3⟩
            have HB3 : Hid (Below (w.heap.size + 1) (w.alloc (.cells #[.int .i64 4, .string ⟨#[]⟩, .int .i64 0, .slice (some ⟨ba, oa, none⟩) 1 ca, .slice ab 0 cb, .slice ae 0 ce] 43)) w3) := HB2.out.trans (hb3.mono hsw2)
            have HBw3 : Hid (Below w.heap.size w w3) := (HBX.out _).trans (HB3.out.mono (Nat.le_succ _))
            clear hb3
            rcases q with _ | _
            · go_wp2
              go_ret
              first | exact ⟨_, rfl, HBw3.out⟩ | exact ⟨rfl, HBw3.out⟩ | exact HBw3.out
            · go_wp2
              go_roundw
              case rel => exact ⟨j + 1, r, by omega, by go_num, by have := HJ.out; simp only [EL.len] at this; show _ = _; omega, HRest, HR2, HB3⟩
              case measure => simp [intOf]; omega
      · go_wp2
        go_rounds 1
        go_wp2
        go_rounds 1
        go_ret
        first | exact ⟨_, rfl, HBw.out⟩ | exact ⟨rfl, HBw.out⟩ | exact HBw.out

end Go.Proofs.Ytiafdlebggegfab
