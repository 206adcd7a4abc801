/- The document's may, of a statement of the kind 9. -/
import Derived.Test.YtnofibjchhcmeabDoorRrM
namespace Go.Proofs.YtnofibjchhcmeabDoor
open Go.RowKit Go.Maps
set_option linter.unusedVariables false

set_option maxRecDepth 100000 in
set_option maxHeartbeats 8000000 in
theorem may_9 (M : Nat) (HI : Hid (MayC M)) (hM : M ≤ 1000000000) (a : EL) (b e : SL) (hN : ecnt a + scnt b + scnt e < M + 1) (s : ByteArray) (c : Int) (aa ab ae : Option Addr) (ca cb ce : Nat) (bl : Nat) (w : World) (hs : s.size ≤ maxLen) (hza : ESz a) (hzb : SSz b) (hze : SSz e) (hb1 : bl ≤ 12) (hA : ESx w (.slice aa (elen a) ca) a) (hB : SSx w (.slice ab (slen b) cb) b) (hE : SSx w (.slice ae (slen e) ce) e) : Calls Tryd.prog 23 #[.agg #[.int .i64 9, .string s, .int .i64 c, .slice aa (elen a) ca, .slice ab (slen b) cb, .slice ae (slen e) ce], .int .i64 (bl : Int)] w (QB w (mayO 9 s c a b e bl)) := by
  obtain ⟨aa', ca', ba, oa, e0, h1, h2, h3, h4⟩ := hA
  cases e0
  obtain ⟨ab', cb', bb, ob, e0, b1, b2, b3, b4⟩ := hB
  cases e0
  obtain ⟨ae', ce', be, oe, e0, e1, e2, e3, e4⟩ := hE
  cases e0
  have HA0 : Hid (EAx w a ba oa) := h4
  have HB0 : Hid (SAx w b bb ob) := b4
  have HE0 : Hid (SAx w e be oe) := e4
  have HZA : Hid (ESz a) := hza
  have HZB : Hid (SSz b) := hzb
  have HZE : Hid (SSz e) := hze
  obtain ⟨RR, hRR⟩ : ∃ R, mayO 9 s c a b e bl = R := ⟨_, rfl⟩
  have HRR0' : Hid (RR = mayO 9 s c a b e bl) := hRR.symm
  rw [hRR]
  obtain ⟨na, hna⟩ : ∃ m, elen a = m := ⟨_, rfl⟩
  have HLA : Hid (elen a = na) := hna
  obtain ⟨nb, hnb⟩ : ∃ m, slen b = m := ⟨_, rfl⟩
  have HLB : Hid (slen b = nb) := hnb
  obtain ⟨ne, hne⟩ : ∃ m, slen e = m := ⟨_, rfl⟩
  have HLE : Hid (slen e = ne) := hne
  have HRR0 : Hid (RR = ((stmtOk 9 s c na nb ne && !((hasS 9).body && decide (12 ≤ bl))) && (argB a && (mayS b (bl + 1) && mayS e (bl + 1))))) := by show _ = _; rw [HRR0'.out, mayO_is, hna, hnb, hne]
  have g1 : na ≤ 1000000000 := by have := elen_le a; omega
  have g2 : nb ≤ 1000000000 := by have := slen_le b; omega
  have g3 : ne ≤ 1000000000 := by have := slen_le e; omega
  have HCA : Hid (ecnt a ≤ 1000000000) := by show _ ≤ _; omega
  have HCB : Hid (scnt b < M + 1) := by show _ < _; omega
  have HCE : Hid (scnt e < M + 1) := by show _ < _; omega
  rw [hna] at h1 h3 ⊢
  rw [hnb] at b1 b3 ⊢
  rw [hne] at e1 e3 ⊢
  clear h4 b4 e4 hna hnb hne hN hza hzb hze hRR HRR0'
  unfold maxLen at h2 b2 e2
  unfold QB
  have HBX : Hid (∀ o, Below w.heap.size w (w.alloc o)) := fun o => (Below.refl _ _).alloc (Nat.le_refl _) o
  have HB2 : Hid (∀ o o', Below w.heap.size w ((w.alloc o).alloc o')) := fun o o' => ((Below.refl _ _).alloc (Nat.le_refl _) o).alloc (by simp) o'
  have HBq : Hid (∀ o o' n, Below w.heap.size w (((w.alloc o).alloc o').drewN n)) := fun o o' n => below_drewN (HB2.out o o') n
  by_cases cs : s = ⟨#[]⟩
  case neg =>
    have cs' : ([] == s.toList) = false := by rw [beq_eq_false_iff_ne]; intro h; exact cs (ba_of s [] h.symm)
    have cs2 : ([] != s.toList) = true := by simpa using cs'
    have cs3 : (s.toList == []) = false := by rw [beq_eq_false_iff_ne]; intro h; exact cs (ba_of s [] h)
    have HRF : Hid (RR = false) := by show _ = _; rw [HRR0.out, sk_9]; rw [cs3]; simp
    have HL : Hid (∀ o', Below (w.heap.size + 1) (w.alloc (.cells #[.int .i64 9, .string s, .int .i64 c, .slice aa na ca, .slice ab nb cb, .slice ae ne ce] 39)) ((w.alloc (.cells #[.int .i64 9, .string s, .int .i64 c, .slice aa na ca, .slice ab nb cb, .slice ae ne ce] 39)).alloc o')) := fun o' => (Below.refl _ _).alloc (by simp) o'
    have HLq : Hid (∀ o' n, Below (w.heap.size + 1) (w.alloc (.cells #[.int .i64 9, .string s, .int .i64 c, .slice aa na ca, .slice ab nb cb, .slice ae ne ce] 39)) (((w.alloc (.cells #[.int .i64 9, .string s, .int .i64 c, .slice aa na ca, .slice ab nb cb, .slice ae ne ce] 39)).alloc o').drewN n)) := fun o' n => below_drewN (HL.out o') n
    go_enter Tryd.func23, Tryd.ntmps23
    go_wp2_with fail
    all_goals (go_ret; exact ⟨congrArg (fun b => Ending.returned (Value.bool b)) HRF.out.symm, HB2.out _ _⟩)
  subst cs
  by_cases cc : c = 0
  case neg =>
    have cc' : (0 != c) = true := by simpa using fun h => cc h.symm
    have HRF : Hid (RR = false) := by show _ = _; rw [HRR0.out, sk_9]; simp [cc]
    have HL : Hid (∀ o', Below (w.heap.size + 1) (w.alloc (.cells #[.int .i64 9, .string ⟨#[]⟩, .int .i64 c, .slice aa na ca, .slice ab nb cb, .slice ae ne ce] 39)) ((w.alloc (.cells #[.int .i64 9, .string ⟨#[]⟩, .int .i64 c, .slice aa na ca, .slice ab nb cb, .slice ae ne ce] 39)).alloc o')) := fun o' => (Below.refl _ _).alloc (by simp) o'
    have HLq : Hid (∀ o' n, Below (w.heap.size + 1) (w.alloc (.cells #[.int .i64 9, .string ⟨#[]⟩, .int .i64 c, .slice aa na ca, .slice ab nb cb, .slice ae ne ce] 39)) (((w.alloc (.cells #[.int .i64 9, .string ⟨#[]⟩, .int .i64 c, .slice aa na ca, .slice ab nb cb, .slice ae ne ce] 39)).alloc o').drewN n)) := fun o' n => below_drewN (HL.out o') n
    go_enter Tryd.func23, Tryd.ntmps23
    go_wp2_with fail
    all_goals (go_ret; exact ⟨congrArg (fun b => Ending.returned (Value.bool b)) HRF.out.symm, HB2.out _ _⟩)
  subst cc
  by_cases cm : na = 0
  case neg =>
    have cm' : ((na : Int) == 0) = false := by simp; omega
    have cm2 : ((na : Int) != 0) = true := by simp; omega
    have HRF : Hid (RR = false) := by show _ = _; rw [HRR0.out, sk_9]; simp [cm]
    have HL : Hid (∀ o', Below (w.heap.size + 1) (w.alloc (.cells #[.int .i64 9, .string ⟨#[]⟩, .int .i64 0, .slice aa na ca, .slice ab nb cb, .slice ae ne ce] 39)) ((w.alloc (.cells #[.int .i64 9, .string ⟨#[]⟩, .int .i64 0, .slice aa na ca, .slice ab nb cb, .slice ae ne ce] 39)).alloc o')) := fun o' => (Below.refl _ _).alloc (by simp) o'
    have HLq : Hid (∀ o' n, Below (w.heap.size + 1) (w.alloc (.cells #[.int .i64 9, .string ⟨#[]⟩, .int .i64 0, .slice aa na ca, .slice ab nb cb, .slice ae ne ce] 39)) (((w.alloc (.cells #[.int .i64 9, .string ⟨#[]⟩, .int .i64 0, .slice aa na ca, .slice ab nb cb, .slice ae ne ce] 39)).alloc o').drewN n)) := fun o' n => below_drewN (HL.out o') n
    go_enter Tryd.func23, Tryd.ntmps23
    go_wp2_with fail
    all_goals (go_ret; exact ⟨congrArg (fun b => Ending.returned (Value.bool b)) HRF.out.symm, HB2.out _ _⟩)
  subst cm
  by_cases cb0 : nb = 0
  case neg =>
    have cb' : ((nb : Int) == 0) = false := by simp; omega
    have cb2 : ((nb : Int) != 0) = true := by simp; omega
    have HRF : Hid (RR = false) := by show _ = _; rw [HRR0.out, sk_9]; simp [cb0]
    have HL : Hid (∀ o', Below (w.heap.size + 1) (w.alloc (.cells #[.int .i64 9, .string ⟨#[]⟩, .int .i64 0, .slice aa 0 ca, .slice ab nb cb, .slice ae ne ce] 39)) ((w.alloc (.cells #[.int .i64 9, .string ⟨#[]⟩, .int .i64 0, .slice aa 0 ca, .slice ab nb cb, .slice ae ne ce] 39)).alloc o')) := fun o' => (Below.refl _ _).alloc (by simp) o'
    have HLq : Hid (∀ o' n, Below (w.heap.size + 1) (w.alloc (.cells #[.int .i64 9, .string ⟨#[]⟩, .int .i64 0, .slice aa 0 ca, .slice ab nb cb, .slice ae ne ce] 39)) (((w.alloc (.cells #[.int .i64 9, .string ⟨#[]⟩, .int .i64 0, .slice aa 0 ca, .slice ab nb cb, .slice ae ne ce] 39)).alloc o').drewN n)) := fun o' n => below_drewN (HL.out o') n
    go_enter Tryd.func23, Tryd.ntmps23
    go_wp2_with fail
    all_goals (go_ret; exact ⟨congrArg (fun b => Ending.returned (Value.bool b)) HRF.out.symm, HB2.out _ _⟩)
  subst cb0
  by_cases ce0 : ne = 0
  case neg =>
    have ce' : ((ne : Int) == 0) = false := by simp; omega
    have ce2 : ((ne : Int) != 0) = true := by simp; omega
    have HRF : Hid (RR = false) := by show _ = _; rw [HRR0.out, sk_9]; simp [ce0]
    have HL : Hid (∀ o', Below (w.heap.size + 1) (w.alloc (.cells #[.int .i64 9, .string ⟨#[]⟩, .int .i64 0, .slice aa 0 ca, .slice ab 0 cb, .slice ae ne ce] 39)) ((w.alloc (.cells #[.int .i64 9, .string ⟨#[]⟩, .int .i64 0, .slice aa 0 ca, .slice ab 0 cb, .slice ae ne ce] 39)).alloc o')) := fun o' => (Below.refl _ _).alloc (by simp) o'
    have HLq : Hid (∀ o' n, Below (w.heap.size + 1) (w.alloc (.cells #[.int .i64 9, .string ⟨#[]⟩, .int .i64 0, .slice aa 0 ca, .slice ab 0 cb, .slice ae ne ce] 39)) (((w.alloc (.cells #[.int .i64 9, .string ⟨#[]⟩, .int .i64 0, .slice aa 0 ca, .slice ab 0 cb, .slice ae ne ce] 39)).alloc o').drewN n)) := fun o' n => below_drewN (HL.out o') n
    go_enter Tryd.func23, Tryd.ntmps23
    go_wp2_with fail
    all_goals (go_ret; exact ⟨congrArg (fun b => Ending.returned (Value.bool b)) HRF.out.symm, HB2.out _ _⟩)
  subst ce0
  have HRR : Hid (RR = (argB a && (mayS b (bl + 1) && mayS e (bl + 1)))) := by show _ = _; rw [HRR0.out, sk_9]; rw [show (hasS 9).body = false from rfl]; simp
  have HBL : Hid (b = .leaf) := slen_zero HLB.out
  have HEL : Hid (e = .leaf) := slen_zero HLE.out
  by_cases cbl : bl < 12
  all_goals
    have HL : Hid (∀ o', Below (w.heap.size + 1) (w.alloc (.cells #[.int .i64 9, .string ⟨#[]⟩, .int .i64 0, .slice aa 0 ca, .slice ab 0 cb, .slice ae 0 ce] 39)) ((w.alloc (.cells #[.int .i64 9, .string ⟨#[]⟩, .int .i64 0, .slice aa 0 ca, .slice ab 0 cb, .slice ae 0 ce] 39)).alloc o')) := fun o' => (Below.refl _ _).alloc (by simp) o'
    have HLq : Hid (∀ o' n, Below (w.heap.size + 1) (w.alloc (.cells #[.int .i64 9, .string ⟨#[]⟩, .int .i64 0, .slice aa 0 ca, .slice ab 0 cb, .slice ae 0 ce] 39)) (((w.alloc (.cells #[.int .i64 9, .string ⟨#[]⟩, .int .i64 0, .slice aa 0 ca, .slice ab 0 cb, .slice ae 0 ce] 39)).alloc o').drewN n)) := fun o' n => below_drewN (HL.out o') n
    go_enter Tryd.func23, Tryd.ntmps23
    go_wp2_with fail
    have HAL : Hid (a = .leaf) := elen_zero HLA.out
    have HRT : Hid (RR = true) := by show _ = _; rw [HRR.out, HBL.out, HEL.out, HAL.out]; rfl
    go_rounds 1
    go_wp2
    go_rounds 1
    go_wp2
    go_rounds 1
    go_ret
    exact ⟨congrArg (fun b => Ending.returned (Value.bool b)) HRT.out.symm, HB2.out _ _⟩
end Go.Proofs.YtnofibjchhcmeabDoor
