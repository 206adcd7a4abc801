/- What a step does: plain, and its smaller calls. -/
import Derived.Test.YtkcncngcmhldpaaSt
import Derived.Test.YtkcncngcmhldpaaOps
import Derived.Test.YtkcncngcmhldpaaIRefC
namespace Go.Proofs.Ytkcncngcmhldpaa
open Go.RowKit
set_option linter.unusedVariables false

def endS (s : St) (o v : Int) : St := { s with over := o, value := v }
def onS (s : St) : St := { s with pc := s.pc + 1 }
def giveS (s : St) (r : Int) (v : Int) : St := { s with regs := s.regs.set r.toNat v, pc := s.pc + 1 }
def jumpS (s : St) (k : Int) (goes : Bool) : St := if goes then { s with pc := k } else onS s
def addrS (s : St) (x : In) : Int := wrap64 (rg s x.b.toNat + x.k)
def insideB (words a : Int) : Bool := decide (0 ≤ a) && decide (a < words)
/-- an instruction is done -/
def doS (words : Int) (x : In) (got : Int) (s : St) : St :=
  if x.kind = 1 then endS s 1 0
  else if x.kind = 2 then giveS s x.a x.k
  else if x.kind = 3 then giveS s x.a (rg s x.b.toNat)
  else if x.kind = 4 then giveS s x.a (oneR x.op (rg s x.b.toNat)).1
  else if x.kind = 5 then (if (twoR x.op (rg s x.b.toNat) (rg s x.c.toNat)).2 then giveS s x.a (twoR x.op (rg s x.b.toNat) (rg s x.c.toNat)).1 else endS s 2 0)
  else if x.kind = 6 then (if insideB words (addrS s x) then giveS s x.a got else endS s 3 (addrS s x))
  else if x.kind = 7 then (if insideB words (addrS s x) then onS s else endS s 3 (addrS s x))
  else if x.kind = 8 then onS s
  else if x.kind = 9 then onS s
  else if x.kind = 10 then jumpS s x.k true
  else if x.kind = 11 then jumpS s x.k (rg s x.a.toNat == 0)
  else if x.kind = 12 then jumpS s x.k (rg s x.a.toNat != 0)
  else if x.kind = 13 then endS s 4 (rg s x.a.toNat)
  else s

theorem below_drewN {B : Nat} {w w' : World} (h : Below B w w') (n : Nat) : Below B w (w'.drewN n) := ⟨h.os, h.tape, h.output, h.size, h.block⟩

set_option maxRecDepth 100000 in
set_option maxHeartbeats 1000000 in
theorem give_any (vb : Nat) (m : Fx) (s : St) (r v : Int) (hr : 0 ≤ r ∧ r < 16) (hp : 0 ≤ s.pc ∧ s.pc < 1000) (w : World) (h : VM w vb m s) : Calls Try.prog 44 #[.pointer (some ⟨vb, 0, none⟩), .int .i64 r, .int .i64 v] w fun e w' => e = .returned (.tuple #[]) ∧ VM w' vb m (giveS s r v) ∧ Ch vb w w' := by
  obtain ⟨n, rfl⟩ : ∃ n : Nat, r = n := ⟨r.toNat, by omega⟩
  have hn : n < 16 := by omega
  have H : Hid (VM w vb m s) := h
  have c := h.cr n hn
  have f := h.fz (6 + n)
  have HO : Hid (∀ W, VM W vb m { s with regs := s.regs.set n v } → Calls Try.prog 48 #[.pointer (some ⟨vb, 0, none⟩)] W fun e w' => e = .returned (.tuple #[]) ∧ VM w' vb m (giveS s n v) ∧ Ch vb W w') := fun W hW => on_any vb m { s with regs := s.regs.set n v } hp W hW
  clear h
  go_enter Try.func44, Try.ntmps44
  go_wp2_with (go_at_call 48; refine (HO.out _ (H.out.setReg n hn v)).mono ?_; rintro e w' ⟨rfl, h1, h2⟩)
  go_end0
  exact ⟨rfl, h1, ((Ch.refl vb w).set _ _).trans h2⟩

set_option maxRecDepth 100000 in
set_option maxHeartbeats 1000000 in
theorem jump_any (vb : Nat) (m : Fx) (s : St) (x : In) (g : Bool) (hp : 0 ≤ s.pc ∧ s.pc < 1000) (w : World) (h : VM w vb m s) : Calls Try.prog 49 #[.pointer (some ⟨vb, 0, none⟩), iv x, .bool g] w fun e w' => e = .returned (.tuple #[]) ∧ VM w' vb m (jumpS s x.k g) ∧ Ch vb w w' := by
  obtain ⟨kd, op, xa, xb, xc, xk⟩ := x
  have H : Hid (VM w vb m s) := h
  have HO : Hid (∀ W, VM W vb m s → Calls Try.prog 48 #[.pointer (some ⟨vb, 0, none⟩)] W fun e w' => e = .returned (.tuple #[]) ∧ VM w' vb m (onS s) ∧ Ch vb W w') := fun W hW => on_any vb m _ hp W hW
  unfold iv
  cases g with
  | false =>
    show Calls Try.prog 49 _ w fun e w' => e = .returned (.tuple #[]) ∧ VM w' vb m (onS s) ∧ Ch vb w w'
    clear h
    go_enter Try.func49, Try.ntmps49
    go_wp2_with (go_at_call 48; refine (HO.out _ (H.out.alloc _)).mono ?_; rintro e w' ⟨rfl, h1, h2⟩)
    refine bodyPost_ret (results_none Try.results49 _ _ _) rfl ?_
    exact ⟨rfl, h1, ((Ch.refl vb w).alloc _).trans h2⟩
  | true =>
    show Calls Try.prog 49 _ w fun e w' => e = .returned (.tuple #[]) ∧ VM w' vb m { s with pc := xk } ∧ Ch vb w w'
    have H1 : Hid (∀ o, VM (w.alloc o) vb m s) := fun o => h.alloc o
    have c : ∀ o, (w.alloc o).cell? ⟨vb, 22, none⟩ = _ := fun o => (h.alloc o).c22
    have f : ∀ o, (w.alloc o).frozen? ⟨vb, 22, none⟩ = _ := fun o => (h.alloc o).fz 22
    clear h
    go_enter Try.func49, Try.ntmps49
    go_wp2
    go_end0
    exact ⟨rfl, (H1.out _).setPc xk, ((Ch.refl vb w).alloc _).set _ _⟩

set_option maxRecDepth 100000 in
set_option maxHeartbeats 1000000 in
theorem address_any (vb : Nat) (m : Fx) (s : St) (x : In) (hx : 0 ≤ x.b ∧ x.b < 16) (w : World) (h : VM w vb m s) : Calls Try.prog 29 #[.pointer (some ⟨vb, 0, none⟩), iv x] w fun e w' => e = .returned (.tuple #[.int .i64 (addrS s x), .bool (insideB m.words (addrS s x))]) ∧ Below w.heap.size w w' := by
  obtain ⟨kd, op, xa, xb, xc, xk⟩ := x
  obtain ⟨n, rfl⟩ : ∃ n : Nat, xb = n := ⟨xb.toNat, by simp at hx; omega⟩
  have hn : n < 16 := by simp at hx; omega
  have HR : Hid (∀ W, VM W vb m s → Calls Try.prog 30 #[.pointer (some ⟨vb, 0, none⟩), .int .i64 (n : Int)] W fun e w' => e = .returned (.int .i64 (rg s n)) ∧ w' = W) := fun W hW => reg_any vb m s n hn _ rfl W hW
  have H : Hid (∀ o, VM (w.alloc o) vb m s) := fun o => h.alloc o
  have c : ∀ o, (w.alloc o).cell? ⟨vb, 1, none⟩ = _ := fun o => (h.alloc o).c1
  obtain ⟨a, ha⟩ : ∃ a, addrS s ⟨kd, op, xa, (n : Int), xc, xk⟩ = a := ⟨_, rfl⟩
  have HA : Hid (wrap64 (rg s n + xk) = a) := ha
  rw [ha]
  clear ha
  by_cases ha0 : 0 ≤ a
  · have hd : decide (0 ≤ a) = true := by simp [ha0]
    unfold iv insideB
    clear h
    go_enter Try.func29, Try.ntmps29
    go_wp2_with fail
    go_quiet (first | (go_at_call 30; exact Calls.quiet_of_same (HR.out _ ((H.out _).drewN _))))
    rw [HA.out]
    go_wp2_with fail
    go_quiet (fail)
    go_wp2
    go_ret2
    exact ⟨by simp [ha0], below_drewN (below_drewN ((Below.refl _ _).alloc (Nat.le_refl _) _) _) _⟩
  · have hd : decide (0 ≤ a) = false := by simp [ha0]
    have ha1 : a < 0 := by omega
    unfold iv insideB
    clear h
    go_enter Try.func29, Try.ntmps29
    go_wp2_with fail
    go_quiet (first | (go_at_call 30; exact Calls.quiet_of_same (HR.out _ ((H.out _).drewN _))))
    rw [HA.out]
    go_wp2_with fail
    go_quiet (fail)
    go_wp2
    go_ret2
    exact ⟨by simp; intro h; omega, below_drewN (below_drewN ((Below.refl _ _).alloc (Nat.le_refl _) _) _) _⟩
set_option maxRecDepth 100000 in
set_option maxHeartbeats 1000000 in
theorem two_any (vb : Nat) (m : Fx) (s : St) (x : In) (hr : (0 ≤ x.a ∧ x.a < 16) ∧ (0 ≤ x.b ∧ x.b < 16) ∧ (0 ≤ x.c ∧ x.c < 16)) (hg : ∀ r < 16, R64 (rg s r)) (hp : 0 ≤ s.pc ∧ s.pc < 1000) (w : World) (h : VM w vb m s) : Calls Try.prog 46 #[.pointer (some ⟨vb, 0, none⟩), iv x] w fun e w' => e = .returned (.tuple #[]) ∧ VM w' vb m (if (twoR x.op (rg s x.b.toNat) (rg s x.c.toNat)).2 then giveS s x.a (twoR x.op (rg s x.b.toNat) (rg s x.c.toNat)).1 else endS s 2 0) ∧ Ch vb w w' := by
  obtain ⟨kd, op, xa, xb, xc, xk⟩ := x
  obtain ⟨n, rfl⟩ : ∃ n : Nat, xb = n := ⟨xb.toNat, by simp at hr; omega⟩
  obtain ⟨q, rfl⟩ : ∃ n : Nat, xc = n := ⟨xc.toNat, by simp at hr; omega⟩
  have hn : n < 16 := by simp at hr; omega
  have hq : q < 16 := by simp at hr; omega
  have ha : 0 ≤ xa ∧ xa < 16 := hr.1
  have HR : Hid (∀ (r : Nat), r < 16 → ∀ W, VM W vb m s → Calls Try.prog 30 #[.pointer (some ⟨vb, 0, none⟩), .int .i64 (r : Int)] W fun e w' => e = .returned (.int .i64 (rg s r)) ∧ w' = W) := fun r hr W hW => reg_any vb m s r hr _ rfl W hW
  have H : Hid (∀ o, VM (w.alloc o) vb m s) := fun o => h.alloc o
  have HT := (twoR_is op (rg s n) (rg s q) (hg n hn) (hg q hq)).1.1
  simp only [Int.toNat_natCast]
  generalize twoR op (rg s n) (rg s q) = t at HT ⊢
  obtain ⟨z, ok⟩ := t
  have HT' : Hid (∀ w, Calls Try.prog 66 #[.int .i64 op, .int .i64 (rg s n), .int .i64 (rg s q)] w fun e w' => e = .returned (.tuple #[.int .i64 z, .bool ok]) ∧ w' = w) := HT
  unfold iv
  clear h HT hg hr
  cases ok with
  | true =>
    simp only [if_true]
    have HG : Hid (∀ W, VM W vb m s → Calls Try.prog 44 #[.pointer (some ⟨vb, 0, none⟩), .int .i64 xa, .int .i64 z] W fun e w' => e = .returned (.tuple #[]) ∧ VM w' vb m (giveS s xa z) ∧ Ch vb W w') := fun W hW => give_any vb m s xa z ha hp W hW
    go_enter Try.func46, Try.ntmps46
    go_wp2_with fail
    go_quiet (first | (go_at_call 30; exact Calls.quiet_of_same (HR.out _ (by assumption) _ ((H.out _).drewN _))) | (go_at_call 66; exact Calls.quiet_of_same (HT'.out _)))
    go_wp2_with (go_at_call 44; refine (HG.out _ ((H.out _).drewN _)).mono ?_; rintro e w' ⟨rfl, h1, h2⟩)
    go_end0
    exact ⟨rfl, h1, (((Ch.refl vb w).alloc _).drewN _).trans h2⟩
  | false =>
    have HG : Hid (∀ W, VM W vb m s → Calls Try.prog 31 #[.pointer (some ⟨vb, 0, none⟩), .int .i64 2, .int .i64 0] W fun e w' => e = .returned (.tuple #[]) ∧ VM w' vb m (endS s 2 0) ∧ Ch vb W w') := fun W hW => end_any vb m s 2 0 W hW
    go_enter Try.func46, Try.ntmps46
    go_wp2_with fail
    go_quiet (first | (go_at_call 30; exact Calls.quiet_of_same (HR.out _ (by assumption) _ ((H.out _).drewN _))) | (go_at_call 66; exact Calls.quiet_of_same (HT'.out _)))
    go_wp2_with (go_at_call 31; refine (HG.out _ ((H.out _).drewN _)).mono ?_; rintro e w' ⟨rfl, h1, h2⟩)
    refine bodyPost_ret (results_none Try.results46 _ _ _) rfl ?_
    exact ⟨rfl, h1, (((Ch.refl vb w).alloc _).drewN _).trans h2⟩

set_option maxRecDepth 100000 in
set_option maxHeartbeats 1000000 in
theorem reach_any (vb : Nat) (m : Fx) (s : St) (x : In) (got : Int) (hk : x.kind = 6 ∨ x.kind = 7) (hr : (0 ≤ x.a ∧ x.a < 16) ∧ (0 ≤ x.b ∧ x.b < 16)) (hp : 0 ≤ s.pc ∧ s.pc < 1000) (w : World) (h : VM w vb m s) : Calls Try.prog 47 #[.pointer (some ⟨vb, 0, none⟩), iv x, .int .i64 got] w fun e w' => e = .returned (.tuple #[]) ∧ VM w' vb m (if insideB m.words (addrS s x) then (if x.kind = 6 then giveS s x.a got else onS s) else endS s 3 (addrS s x)) ∧ Ch vb w w' := by
  have HA : Hid (∀ W, VM W vb m s → Calls Try.prog 29 #[.pointer (some ⟨vb, 0, none⟩), iv x] W fun e w' => e = .returned (.tuple #[.int .i64 (addrS s x), .bool (insideB m.words (addrS s x))]) ∧ Below W.heap.size W w') := fun W hW => address_any vb m s x hr.2 W hW
  generalize addrS s x = ad at HA ⊢
  generalize insideB m.words ad = is at HA ⊢
  obtain ⟨kd, op, xa, xb, xc, xk⟩ := x
  have ha : 0 ≤ xa ∧ xa < 16 := hr.1
  have H : Hid (VM w vb m s) := h
  unfold iv at HA ⊢
  simp only at hk
  clear h hr
  cases is with
  | false =>
    have HG : Hid (∀ W, VM W vb m s → Calls Try.prog 31 #[.pointer (some ⟨vb, 0, none⟩), .int .i64 3, .int .i64 ad] W fun e w' => e = .returned (.tuple #[]) ∧ VM w' vb m (endS s 3 ad) ∧ Ch vb W w') := fun W hW => end_any vb m s 3 ad W hW
    show Calls Try.prog 47 _ w fun e w' => e = .returned (.tuple #[]) ∧ VM w' vb m (endS s 3 ad) ∧ Ch vb w w'
    go_enter Try.func47, Try.ntmps47
    go_wp2_with (first | (go_at_call 29; refine (HA.out _ (H.out.alloc _)).mono ?_; rintro e w1 ⟨rfl, hb⟩; have HB : Hid (Ch vb w w1) := (((Ch.refl vb w).alloc _).trans (Ch.of hb)); have H1 : Hid (VM w1 vb m s) := ((H.out.alloc _).below hb); clear hb) | (go_at_call 31; refine (HG.out _ H1.out).mono ?_; rintro e w' ⟨rfl, h1, h2⟩))
    go_end0
    exact ⟨rfl, h1, HB.out.trans h2⟩
  | true =>
    rcases hk with rfl | rfl
    · have HG : Hid (∀ W, VM W vb m s → Calls Try.prog 44 #[.pointer (some ⟨vb, 0, none⟩), .int .i64 xa, .int .i64 got] W fun e w' => e = .returned (.tuple #[]) ∧ VM w' vb m (giveS s xa got) ∧ Ch vb W w') := fun W hW => give_any vb m s xa got ha hp W hW
      show Calls Try.prog 47 _ w fun e w' => e = .returned (.tuple #[]) ∧ VM w' vb m (giveS s xa got) ∧ Ch vb w w'
      go_enter Try.func47, Try.ntmps47
      go_wp2_with (first | (go_at_call 29; refine (HA.out _ (H.out.alloc _)).mono ?_; rintro e w1 ⟨rfl, hb⟩; have HB : Hid (Ch vb w w1) := (((Ch.refl vb w).alloc _).trans (Ch.of hb)); have H1 : Hid (VM w1 vb m s) := ((H.out.alloc _).below hb); have g0 : w1.cell? ⟨w.heap.size, 0, none⟩ = some (.int .i64 6) := ((hb.cell (p := ⟨w.heap.size, 0, none⟩) (by simp)).trans (by simp)); have g2 : w1.cell? ⟨w.heap.size, 2, none⟩ = some (.int .i64 xa) := ((hb.cell (p := ⟨w.heap.size, 2, none⟩) (by simp)).trans (by simp)); clear hb) | (go_at_call 44; refine (HG.out _ H1.out).mono ?_; rintro e w' ⟨rfl, h1, h2⟩))
      go_end0
      exact ⟨rfl, h1, HB.out.trans h2⟩
    · have HG : Hid (∀ W, VM W vb m s → Calls Try.prog 48 #[.pointer (some ⟨vb, 0, none⟩)] W fun e w' => e = .returned (.tuple #[]) ∧ VM w' vb m (onS s) ∧ Ch vb W w') := fun W hW => on_any vb m s hp W hW
      show Calls Try.prog 47 _ w fun e w' => e = .returned (.tuple #[]) ∧ VM w' vb m (onS s) ∧ Ch vb w w'
      go_enter Try.func47, Try.ntmps47
      go_wp2_with (first | (go_at_call 29; refine (HA.out _ (H.out.alloc _)).mono ?_; rintro e w1 ⟨rfl, hb⟩; have HB : Hid (Ch vb w w1) := (((Ch.refl vb w).alloc _).trans (Ch.of hb)); have H1 : Hid (VM w1 vb m s) := ((H.out.alloc _).below hb); have g0 : w1.cell? ⟨w.heap.size, 0, none⟩ = some (.int .i64 7) := ((hb.cell (p := ⟨w.heap.size, 0, none⟩) (by simp)).trans (by simp)); clear hb) | (go_at_call 48; refine (HG.out _ H1.out).mono ?_; rintro e w' ⟨rfl, h1, h2⟩))
      go_end0
      exact ⟨rfl, h1, HB.out.trans h2⟩
end Go.Proofs.Ytkcncngcmhldpaa
