/- What a step does: an instruction is done. -/
import Derived.Test.YtkcncngcmhldpaaStep
namespace Go.Proofs.Ytkcncngcmhldpaa
open Go.RowKit
set_option linter.unusedVariables false

def ixO (x : In) : Obj := .cells #[.int .i64 x.kind, .int .i64 x.op, .int .i64 x.a, .int .i64 x.b, .int .i64 x.c, .int .i64 x.k] 76
/-- an instruction that may be -/
structure OkI (x : In) : Prop where
  kd : 1 ≤ x.kind ∧ x.kind ≤ 13
  a : 0 ≤ x.a ∧ x.a < 16
  b : 0 ≤ x.b ∧ x.b < 16
  c : 0 ≤ x.c ∧ x.c < 16
/-- what a call that does an instruction leaves -/
def DoP (vb : Nat) (m : Fx) (s : St) (w : World) (e : Ending) (w' : World) : Prop := e = .returned (.tuple #[]) ∧ VM w' vb m s ∧ Ch vb w w'
theorem Ch.cell {vb : Nat} {w w' : World} (h : Ch vb w w') {b i : Nat} (hb : b < w.heap.size) (hn : b ≠ vb) : w'.cell? ⟨b, i, none⟩ = w.cell? ⟨b, i, none⟩ := World.cell?_of_block (w := w) (a := ⟨b, i, none⟩) (h.block b hb hn)

set_option maxRecDepth 100000 in
set_option maxHeartbeats 1000000 in
theorem do_3 (vb : Nat) (m : Fx) (s : St) (op xa xb xc xk got : Int) (ha : 0 ≤ xa ∧ xa < 16) (hb : 0 ≤ xb ∧ xb < 16) (hp : 0 ≤ s.pc ∧ s.pc < 1000) (w : World) (h : VM w vb m s) : Calls Try.prog 32 #[.pointer (some ⟨vb, 0, none⟩), iv ⟨3, op, xa, xb, xc, xk⟩, .int .i64 got] w (DoP vb m (giveS s xa (rg s xb.toNat)) w) := by
  obtain ⟨n, rfl⟩ : ∃ n : Nat, xb = n := ⟨xb.toNat, by omega⟩
  have hn : n < 16 := by omega
  rw [Int.toNat_natCast]
  have HR : Hid (∀ W, VM W vb m s → Calls Try.prog 30 #[.pointer (some ⟨vb, 0, none⟩), .int .i64 (n : Int)] W fun e w' => e = .returned (.int .i64 (rg s n)) ∧ w' = W) := fun W hW => reg_any vb m s n hn _ rfl W hW
  have H : Hid (∀ o, VM (w.alloc o) vb m s) := fun o => h.alloc o
  have HG : Hid (∀ W, VM W vb m s → Calls Try.prog 44 #[.pointer (some ⟨vb, 0, none⟩), .int .i64 xa, .int .i64 (rg s n)] W fun e w' => e = .returned (.tuple #[]) ∧ VM w' vb m (giveS s xa (rg s n)) ∧ Ch vb W w') := fun W hW => give_any vb m s xa _ ha hp W hW
  have hlt := h.lt
  generalize giveS s xa (rg s n) = S' at HG ⊢
  generalize rg s n = gn at HR HG
  unfold iv
  clear h hb
  go_enter Try.func32, Try.ntmps32
  go_wp2_with fail
  go_region_held3 (fun w' => w'.cell? ⟨w.heap.size, 2, none⟩ = some (.int .i64 xa) ∧ w'.cell? ⟨w.heap.size, 3, none⟩ = some (.int .i64 (n : Int))) (go_keep) (first | (go_at_call 30; refine (HR.out _ (H.out _).drew).mono ?_; rintro e w1 ⟨rfl, rfl⟩) | (go_at_call 44; refine (HG.out _ (H.out _).drew).mono ?_; rintro e w1 ⟨rfl, h1, h2⟩; have d2 := h2.cell (b := w.heap.size) (i := 2) (by simp) (by omega); have d3 := h2.cell (b := w.heap.size) (i := 3) (by simp) (by omega)))
  go_wp2
  go_end0
  exact ⟨rfl, h1, (((Ch.refl vb w).alloc _).drew).trans h2⟩
set_option maxRecDepth 100000 in
set_option maxHeartbeats 1000000 in
theorem do_1 (vb : Nat) (m : Fx) (s : St) (op xa xb xc xk got : Int)  (hp : 0 ≤ s.pc ∧ s.pc < 1000) (w : World) (h : VM w vb m s) : Calls Try.prog 32 #[.pointer (some ⟨vb, 0, none⟩), iv ⟨1, op, xa, xb, xc, xk⟩, .int .i64 got] w (DoP vb m (endS s 1 0) w) := by
  have H : Hid (∀ o, VM (w.alloc o) vb m s) := fun o => h.alloc o
  have hlt := h.lt
  have HG : Hid (∀ W, VM W vb m s → Calls Try.prog 31 #[.pointer (some ⟨vb, 0, none⟩), .int .i64 1, .int .i64 0] W fun e w' => e = .returned (.tuple #[]) ∧ VM w' vb m (endS s 1 0) ∧ Ch vb W w') := fun W hW => end_any vb m s 1 0 W hW
  unfold iv
  clear h
  go_enter Try.func32, Try.ntmps32
  go_wp2_with (go_at_call 31; refine (HG.out _ (H.out _)).mono ?_; rintro e w1 ⟨rfl, h1, h2⟩)
  go_end0
  exact ⟨rfl, h1, ((Ch.refl vb w).alloc _).trans h2⟩

set_option maxRecDepth 100000 in
set_option maxHeartbeats 1000000 in
theorem do_2 (vb : Nat) (m : Fx) (s : St) (op xa xb xc xk got : Int) (ha : 0 ≤ xa ∧ xa < 16) (hp : 0 ≤ s.pc ∧ s.pc < 1000) (w : World) (h : VM w vb m s) : Calls Try.prog 32 #[.pointer (some ⟨vb, 0, none⟩), iv ⟨2, op, xa, xb, xc, xk⟩, .int .i64 got] w (DoP vb m (giveS s xa xk) w) := by
  have H : Hid (∀ o, VM (w.alloc o) vb m s) := fun o => h.alloc o
  have hlt := h.lt
  have HG : Hid (∀ W, VM W vb m s → Calls Try.prog 44 #[.pointer (some ⟨vb, 0, none⟩), .int .i64 xa, .int .i64 xk] W fun e w' => e = .returned (.tuple #[]) ∧ VM w' vb m (giveS s xa xk) ∧ Ch vb W w') := fun W hW => give_any vb m s xa xk ha hp W hW
  unfold iv
  clear h
  go_enter Try.func32, Try.ntmps32
  go_wp2_with (go_at_call 44; refine (HG.out _ (H.out _)).mono ?_; rintro e w1 ⟨rfl, h1, h2⟩)
  go_end0
  exact ⟨rfl, h1, ((Ch.refl vb w).alloc _).trans h2⟩

set_option maxRecDepth 100000 in
set_option maxHeartbeats 1000000 in
theorem do_4 (vb : Nat) (m : Fx) (s : St) (op xa xb xc xk got : Int) (ha : 0 ≤ xa ∧ xa < 16) (hb : 0 ≤ xb ∧ xb < 16) (hg : ∀ r < 16, R64 (rg s r)) (hp : 0 ≤ s.pc ∧ s.pc < 1000) (w : World) (h : VM w vb m s) : Calls Try.prog 32 #[.pointer (some ⟨vb, 0, none⟩), iv ⟨4, op, xa, xb, xc, xk⟩, .int .i64 got] w (DoP vb m (giveS s xa (oneR op (rg s xb.toNat)).1) w) := by
  have H : Hid (∀ o, VM (w.alloc o) vb m s) := fun o => h.alloc o
  have hlt := h.lt
  obtain ⟨n, hn0⟩ : ∃ n : Nat, xb = n := ⟨xb.toNat, by omega⟩
  subst hn0
  have hn : n < 16 := by omega
  rw [Int.toNat_natCast]
  have HR : Hid (∀ W, VM W vb m s → Calls Try.prog 30 #[.pointer (some ⟨vb, 0, none⟩), .int .i64 (n : Int)] W fun e w' => e = .returned (.int .i64 (rg s n)) ∧ w' = W) := fun W hW => reg_any vb m s n hn _ rfl W hW
  have HO : Hid (∀ w, Calls Try.prog 45 #[.int .i64 op, .int .i64 (rg s n)] w fun e w' => e = .returned (.tuple #[.int .i64 (oneR op (rg s n)).1, .bool (oneR op (rg s n)).2]) ∧ w' = w) := (oneR_is op (rg s n) (hg n hn)).1.1
  generalize oneR op (rg s n) = z at HO ⊢
  obtain ⟨z, ok⟩ := z
  dsimp only at HO ⊢
  have HG : Hid (∀ W, VM W vb m s → Calls Try.prog 44 #[.pointer (some ⟨vb, 0, none⟩), .int .i64 xa, .int .i64 z] W fun e w' => e = .returned (.tuple #[]) ∧ VM w' vb m (giveS s xa z) ∧ Ch vb W w') := fun W hW => give_any vb m s xa z ha hp W hW
  generalize giveS s xa z = S' at HG ⊢
  generalize rg s n = gn at HR HO
  unfold iv
  clear h
  go_enter Try.func32, Try.ntmps32
  go_wp2_with fail
  go_quiet (first | (go_at_call 30; exact Calls.quiet_of_same (HR.out _ ((H.out _).drewN _))) | (go_at_call 45; exact Calls.quiet_of_same (HO.out _)))
  go_wp2_with (go_at_call 44; refine (HG.out _ ((H.out _).drewN _)).mono ?_; rintro e w1 ⟨rfl, h1, h2⟩)
  go_end0
  exact ⟨rfl, h1, (((Ch.refl vb w).alloc _).drewN _).trans h2⟩

set_option maxRecDepth 100000 in
set_option maxHeartbeats 1000000 in
theorem do_5 (vb : Nat) (m : Fx) (s : St) (op xa xb xc xk got : Int) (hr : (0 ≤ xa ∧ xa < 16) ∧ (0 ≤ xb ∧ xb < 16) ∧ (0 ≤ xc ∧ xc < 16)) (hg : ∀ r < 16, R64 (rg s r)) (hp : 0 ≤ s.pc ∧ s.pc < 1000) (w : World) (h : VM w vb m s) : Calls Try.prog 32 #[.pointer (some ⟨vb, 0, none⟩), iv ⟨5, op, xa, xb, xc, xk⟩, .int .i64 got] w (DoP vb m (if (twoR op (rg s xb.toNat) (rg s xc.toNat)).2 then giveS s xa (twoR op (rg s xb.toNat) (rg s xc.toNat)).1 else endS s 2 0) w) := by
  have H : Hid (∀ o, VM (w.alloc o) vb m s) := fun o => h.alloc o
  have hlt := h.lt
  have HG : Hid (∀ W, VM W vb m s → Calls Try.prog 46 #[.pointer (some ⟨vb, 0, none⟩), .agg #[.int .i64 5, .int .i64 op, .int .i64 xa, .int .i64 xb, .int .i64 xc, .int .i64 xk]] W fun e w' => e = .returned (.tuple #[]) ∧ VM w' vb m (if (twoR op (rg s xb.toNat) (rg s xc.toNat)).2 then giveS s xa (twoR op (rg s xb.toNat) (rg s xc.toNat)).1 else endS s 2 0) ∧ Ch vb W w') := fun W hW => two_any vb m s ⟨5, op, xa, xb, xc, xk⟩ hr hg hp W hW
  generalize (if (twoR op (rg s xb.toNat) (rg s xc.toNat)).2 then giveS s xa (twoR op (rg s xb.toNat) (rg s xc.toNat)).1 else endS s 2 0) = S' at HG ⊢
  unfold iv
  clear h
  go_enter Try.func32, Try.ntmps32
  go_wp2_with (go_at_call 46; refine (HG.out _ (H.out _)).mono ?_; rintro e w1 ⟨rfl, h1, h2⟩)
  go_end0
  exact ⟨rfl, h1, ((Ch.refl vb w).alloc _).trans h2⟩

set_option maxRecDepth 100000 in
set_option maxHeartbeats 1000000 in
theorem do_6 (vb : Nat) (m : Fx) (s : St) (op xa xb xc xk got : Int) (ha : 0 ≤ xa ∧ xa < 16) (hb : 0 ≤ xb ∧ xb < 16) (hp : 0 ≤ s.pc ∧ s.pc < 1000) (w : World) (h : VM w vb m s) : Calls Try.prog 32 #[.pointer (some ⟨vb, 0, none⟩), iv ⟨6, op, xa, xb, xc, xk⟩, .int .i64 got] w (DoP vb m (if insideB m.words (addrS s ⟨6, op, xa, xb, xc, xk⟩) then giveS s xa got else endS s 3 (addrS s ⟨6, op, xa, xb, xc, xk⟩)) w) := by
  have H : Hid (∀ o, VM (w.alloc o) vb m s) := fun o => h.alloc o
  have hlt := h.lt
  have HG : Hid (∀ W, VM W vb m s → Calls Try.prog 47 #[.pointer (some ⟨vb, 0, none⟩), .agg #[.int .i64 6, .int .i64 op, .int .i64 xa, .int .i64 xb, .int .i64 xc, .int .i64 xk], .int .i64 got] W fun e w' => e = .returned (.tuple #[]) ∧ VM w' vb m (if insideB m.words (addrS s ⟨6, op, xa, xb, xc, xk⟩) then giveS s xa got else endS s 3 (addrS s ⟨6, op, xa, xb, xc, xk⟩)) ∧ Ch vb W w') := fun W hW => reach_any vb m s ⟨6, op, xa, xb, xc, xk⟩ got (by simp) ⟨ha, hb⟩ hp W hW
  generalize (if insideB m.words (addrS s ⟨6, op, xa, xb, xc, xk⟩) then giveS s xa got else endS s 3 (addrS s ⟨6, op, xa, xb, xc, xk⟩)) = S' at HG ⊢
  unfold iv
  clear h
  go_enter Try.func32, Try.ntmps32
  go_wp2_with (go_at_call 47; refine (HG.out _ (H.out _)).mono ?_; rintro e w1 ⟨rfl, h1, h2⟩)
  go_end0
  exact ⟨rfl, h1, ((Ch.refl vb w).alloc _).trans h2⟩

set_option maxRecDepth 100000 in
set_option maxHeartbeats 1000000 in
theorem do_7 (vb : Nat) (m : Fx) (s : St) (op xa xb xc xk got : Int) (ha : 0 ≤ xa ∧ xa < 16) (hb : 0 ≤ xb ∧ xb < 16) (hp : 0 ≤ s.pc ∧ s.pc < 1000) (w : World) (h : VM w vb m s) : Calls Try.prog 32 #[.pointer (some ⟨vb, 0, none⟩), iv ⟨7, op, xa, xb, xc, xk⟩, .int .i64 got] w (DoP vb m (if insideB m.words (addrS s ⟨7, op, xa, xb, xc, xk⟩) then onS s else endS s 3 (addrS s ⟨7, op, xa, xb, xc, xk⟩)) w) := by
  have H : Hid (∀ o, VM (w.alloc o) vb m s) := fun o => h.alloc o
  have hlt := h.lt
  have HG : Hid (∀ W, VM W vb m s → Calls Try.prog 47 #[.pointer (some ⟨vb, 0, none⟩), .agg #[.int .i64 7, .int .i64 op, .int .i64 xa, .int .i64 xb, .int .i64 xc, .int .i64 xk], .int .i64 got] W fun e w' => e = .returned (.tuple #[]) ∧ VM w' vb m (if insideB m.words (addrS s ⟨7, op, xa, xb, xc, xk⟩) then onS s else endS s 3 (addrS s ⟨7, op, xa, xb, xc, xk⟩)) ∧ Ch vb W w') := fun W hW => reach_any vb m s ⟨7, op, xa, xb, xc, xk⟩ got (by simp) ⟨ha, hb⟩ hp W hW
  generalize (if insideB m.words (addrS s ⟨7, op, xa, xb, xc, xk⟩) then onS s else endS s 3 (addrS s ⟨7, op, xa, xb, xc, xk⟩)) = S' at HG ⊢
  unfold iv
  clear h
  go_enter Try.func32, Try.ntmps32
  go_wp2_with (go_at_call 47; refine (HG.out _ (H.out _)).mono ?_; rintro e w1 ⟨rfl, h1, h2⟩)
  go_end0
  exact ⟨rfl, h1, ((Ch.refl vb w).alloc _).trans h2⟩

set_option maxRecDepth 100000 in
set_option maxHeartbeats 1000000 in
theorem do_8 (vb : Nat) (m : Fx) (s : St) (op xa xb xc xk got : Int)  (hp : 0 ≤ s.pc ∧ s.pc < 1000) (w : World) (h : VM w vb m s) : Calls Try.prog 32 #[.pointer (some ⟨vb, 0, none⟩), iv ⟨8, op, xa, xb, xc, xk⟩, .int .i64 got] w (DoP vb m (onS s) w) := by
  have H : Hid (∀ o, VM (w.alloc o) vb m s) := fun o => h.alloc o
  have hlt := h.lt
  have HG : Hid (∀ W, VM W vb m s → Calls Try.prog 48 #[.pointer (some ⟨vb, 0, none⟩)] W fun e w' => e = .returned (.tuple #[]) ∧ VM w' vb m (onS s) ∧ Ch vb W w') := fun W hW => on_any vb m s hp W hW
  unfold iv
  clear h
  go_enter Try.func32, Try.ntmps32
  go_wp2_with (go_at_call 48; refine (HG.out _ (H.out _)).mono ?_; rintro e w1 ⟨rfl, h1, h2⟩)
  go_end0
  exact ⟨rfl, h1, ((Ch.refl vb w).alloc _).trans h2⟩

set_option maxRecDepth 100000 in
set_option maxHeartbeats 1000000 in
theorem do_9 (vb : Nat) (m : Fx) (s : St) (op xa xb xc xk got : Int)  (hp : 0 ≤ s.pc ∧ s.pc < 1000) (w : World) (h : VM w vb m s) : Calls Try.prog 32 #[.pointer (some ⟨vb, 0, none⟩), iv ⟨9, op, xa, xb, xc, xk⟩, .int .i64 got] w (DoP vb m (onS s) w) := by
  have H : Hid (∀ o, VM (w.alloc o) vb m s) := fun o => h.alloc o
  have hlt := h.lt
  have HG : Hid (∀ W, VM W vb m s → Calls Try.prog 48 #[.pointer (some ⟨vb, 0, none⟩)] W fun e w' => e = .returned (.tuple #[]) ∧ VM w' vb m (onS s) ∧ Ch vb W w') := fun W hW => on_any vb m s hp W hW
  unfold iv
  clear h
  go_enter Try.func32, Try.ntmps32
  go_wp2_with (go_at_call 48; refine (HG.out _ (H.out _)).mono ?_; rintro e w1 ⟨rfl, h1, h2⟩)
  go_end0
  exact ⟨rfl, h1, ((Ch.refl vb w).alloc _).trans h2⟩

set_option maxRecDepth 100000 in
set_option maxHeartbeats 1000000 in
theorem do_10 (vb : Nat) (m : Fx) (s : St) (op xa xb xc xk got : Int)  (hp : 0 ≤ s.pc ∧ s.pc < 1000) (w : World) (h : VM w vb m s) : Calls Try.prog 32 #[.pointer (some ⟨vb, 0, none⟩), iv ⟨10, op, xa, xb, xc, xk⟩, .int .i64 got] w (DoP vb m (jumpS s xk true) w) := by
  have H : Hid (∀ o, VM (w.alloc o) vb m s) := fun o => h.alloc o
  have hlt := h.lt
  have HG : Hid (∀ W, VM W vb m s → Calls Try.prog 49 #[.pointer (some ⟨vb, 0, none⟩), .agg #[.int .i64 10, .int .i64 op, .int .i64 xa, .int .i64 xb, .int .i64 xc, .int .i64 xk], .bool true] W fun e w' => e = .returned (.tuple #[]) ∧ VM w' vb m (jumpS s xk true) ∧ Ch vb W w') := fun W hW => jump_any vb m s ⟨10, op, xa, xb, xc, xk⟩ true hp W hW
  unfold iv
  clear h
  go_enter Try.func32, Try.ntmps32
  go_wp2_with (go_at_call 49; refine (HG.out _ (H.out _)).mono ?_; rintro e w1 ⟨rfl, h1, h2⟩)
  go_end0
  exact ⟨rfl, h1, ((Ch.refl vb w).alloc _).trans h2⟩

set_option maxRecDepth 100000 in
set_option maxHeartbeats 1000000 in
theorem do_11 (vb : Nat) (m : Fx) (s : St) (op xa xb xc xk got : Int) (ha : 0 ≤ xa ∧ xa < 16) (hp : 0 ≤ s.pc ∧ s.pc < 1000) (w : World) (h : VM w vb m s) : Calls Try.prog 32 #[.pointer (some ⟨vb, 0, none⟩), iv ⟨11, op, xa, xb, xc, xk⟩, .int .i64 got] w (DoP vb m (jumpS s xk (rg s xa.toNat == 0)) w) := by
  have H : Hid (∀ o, VM (w.alloc o) vb m s) := fun o => h.alloc o
  have hlt := h.lt
  obtain ⟨n, hn0⟩ : ∃ n : Nat, xa = n := ⟨xa.toNat, by omega⟩
  subst hn0
  have hn : n < 16 := by omega
  rw [Int.toNat_natCast]
  have HR : Hid (∀ W, VM W vb m s → Calls Try.prog 30 #[.pointer (some ⟨vb, 0, none⟩), .int .i64 (n : Int)] W fun e w' => e = .returned (.int .i64 (rg s n)) ∧ w' = W) := fun W hW => reg_any vb m s n hn _ rfl W hW
  have HG : Hid (∀ W, VM W vb m s → Calls Try.prog 49 #[.pointer (some ⟨vb, 0, none⟩), .agg #[.int .i64 11, .int .i64 op, .int .i64 (n : Int), .int .i64 xb, .int .i64 xc, .int .i64 xk], .bool (rg s n == 0)] W fun e w' => e = .returned (.tuple #[]) ∧ VM w' vb m (jumpS s xk (rg s n == 0)) ∧ Ch vb W w') := fun W hW => jump_any vb m s ⟨11, op, (n : Int), xb, xc, xk⟩ (rg s n == 0) hp W hW
  generalize jumpS s xk (rg s n == 0) = S' at HG ⊢
  generalize rg s n = gn at HR HG
  unfold iv
  clear h
  go_enter Try.func32, Try.ntmps32
  go_wp2_with fail
  go_region_held3 (fun w' => w'.cell? ⟨w.heap.size, 0, none⟩ = some (.int .i64 11) ∧ w'.cell? ⟨w.heap.size, 1, none⟩ = some (.int .i64 op) ∧ w'.cell? ⟨w.heap.size, 2, none⟩ = some (.int .i64 (n : Int)) ∧ w'.cell? ⟨w.heap.size, 3, none⟩ = some (.int .i64 xb) ∧ w'.cell? ⟨w.heap.size, 4, none⟩ = some (.int .i64 xc) ∧ w'.cell? ⟨w.heap.size, 5, none⟩ = some (.int .i64 xk)) (go_keep) (first | (go_at_call 30; refine (HR.out _ (H.out _).drew).mono ?_; rintro e w1 ⟨rfl, rfl⟩) | (go_at_call 49; refine (HG.out _ (H.out _).drew).mono ?_; rintro e w1 ⟨rfl, h1, h2⟩; have d0 := h2.cell (b := w.heap.size) (i := 0) (by simp) (by omega); have d1 := h2.cell (b := w.heap.size) (i := 1) (by simp) (by omega); have d2 := h2.cell (b := w.heap.size) (i := 2) (by simp) (by omega); have d3 := h2.cell (b := w.heap.size) (i := 3) (by simp) (by omega); have d4 := h2.cell (b := w.heap.size) (i := 4) (by simp) (by omega); have d5 := h2.cell (b := w.heap.size) (i := 5) (by simp) (by omega)))
  go_wp2
  go_end0
  exact ⟨rfl, h1, (((Ch.refl vb w).alloc _).drew).trans h2⟩

set_option maxRecDepth 100000 in
set_option maxHeartbeats 1000000 in
theorem do_12 (vb : Nat) (m : Fx) (s : St) (op xa xb xc xk got : Int) (ha : 0 ≤ xa ∧ xa < 16) (hp : 0 ≤ s.pc ∧ s.pc < 1000) (w : World) (h : VM w vb m s) : Calls Try.prog 32 #[.pointer (some ⟨vb, 0, none⟩), iv ⟨12, op, xa, xb, xc, xk⟩, .int .i64 got] w (DoP vb m (jumpS s xk (rg s xa.toNat != 0)) w) := by
  have H : Hid (∀ o, VM (w.alloc o) vb m s) := fun o => h.alloc o
  have hlt := h.lt
  obtain ⟨n, hn0⟩ : ∃ n : Nat, xa = n := ⟨xa.toNat, by omega⟩
  subst hn0
  have hn : n < 16 := by omega
  rw [Int.toNat_natCast]
  have HR : Hid (∀ W, VM W vb m s → Calls Try.prog 30 #[.pointer (some ⟨vb, 0, none⟩), .int .i64 (n : Int)] W fun e w' => e = .returned (.int .i64 (rg s n)) ∧ w' = W) := fun W hW => reg_any vb m s n hn _ rfl W hW
  have HG : Hid (∀ W, VM W vb m s → Calls Try.prog 49 #[.pointer (some ⟨vb, 0, none⟩), .agg #[.int .i64 12, .int .i64 op, .int .i64 (n : Int), .int .i64 xb, .int .i64 xc, .int .i64 xk], .bool (rg s n != 0)] W fun e w' => e = .returned (.tuple #[]) ∧ VM w' vb m (jumpS s xk (rg s n != 0)) ∧ Ch vb W w') := fun W hW => jump_any vb m s ⟨12, op, (n : Int), xb, xc, xk⟩ (rg s n != 0) hp W hW
  generalize jumpS s xk (rg s n != 0) = S' at HG ⊢
  generalize rg s n = gn at HR HG
  unfold iv
  clear h
  go_enter Try.func32, Try.ntmps32
  go_wp2_with fail
  go_region_held3 (fun w' => w'.cell? ⟨w.heap.size, 0, none⟩ = some (.int .i64 12) ∧ w'.cell? ⟨w.heap.size, 1, none⟩ = some (.int .i64 op) ∧ w'.cell? ⟨w.heap.size, 2, none⟩ = some (.int .i64 (n : Int)) ∧ w'.cell? ⟨w.heap.size, 3, none⟩ = some (.int .i64 xb) ∧ w'.cell? ⟨w.heap.size, 4, none⟩ = some (.int .i64 xc) ∧ w'.cell? ⟨w.heap.size, 5, none⟩ = some (.int .i64 xk)) (go_keep) (first | (go_at_call 30; refine (HR.out _ (H.out _).drew).mono ?_; rintro e w1 ⟨rfl, rfl⟩) | (go_at_call 49; refine (HG.out _ (H.out _).drew).mono ?_; rintro e w1 ⟨rfl, h1, h2⟩; have d0 := h2.cell (b := w.heap.size) (i := 0) (by simp) (by omega); have d1 := h2.cell (b := w.heap.size) (i := 1) (by simp) (by omega); have d2 := h2.cell (b := w.heap.size) (i := 2) (by simp) (by omega); have d3 := h2.cell (b := w.heap.size) (i := 3) (by simp) (by omega); have d4 := h2.cell (b := w.heap.size) (i := 4) (by simp) (by omega); have d5 := h2.cell (b := w.heap.size) (i := 5) (by simp) (by omega)))
  go_wp2
  go_end0
  exact ⟨rfl, h1, (((Ch.refl vb w).alloc _).drew).trans h2⟩

set_option maxRecDepth 100000 in
set_option maxHeartbeats 1000000 in
theorem do_13 (vb : Nat) (m : Fx) (s : St) (op xa xb xc xk got : Int) (ha : 0 ≤ xa ∧ xa < 16) (hp : 0 ≤ s.pc ∧ s.pc < 1000) (w : World) (h : VM w vb m s) : Calls Try.prog 32 #[.pointer (some ⟨vb, 0, none⟩), iv ⟨13, op, xa, xb, xc, xk⟩, .int .i64 got] w (DoP vb m (endS s 4 (rg s xa.toNat)) w) := by
  have H : Hid (∀ o, VM (w.alloc o) vb m s) := fun o => h.alloc o
  have hlt := h.lt
  obtain ⟨n, hn0⟩ : ∃ n : Nat, xa = n := ⟨xa.toNat, by omega⟩
  subst hn0
  have hn : n < 16 := by omega
  rw [Int.toNat_natCast]
  have HR : Hid (∀ W, VM W vb m s → Calls Try.prog 30 #[.pointer (some ⟨vb, 0, none⟩), .int .i64 (n : Int)] W fun e w' => e = .returned (.int .i64 (rg s n)) ∧ w' = W) := fun W hW => reg_any vb m s n hn _ rfl W hW
  have HG : Hid (∀ W, VM W vb m s → Calls Try.prog 31 #[.pointer (some ⟨vb, 0, none⟩), .int .i64 4, .int .i64 (rg s n)] W fun e w' => e = .returned (.tuple #[]) ∧ VM w' vb m (endS s 4 (rg s n)) ∧ Ch vb W w') := fun W hW => end_any vb m s 4 (rg s n) W hW
  generalize endS s 4 (rg s n) = S' at HG ⊢
  generalize rg s n = gn at HR HG
  unfold iv
  clear h
  go_enter Try.func32, Try.ntmps32
  go_wp2_with (first | (go_at_call 30; refine (HR.out _ (H.out _)).mono ?_; rintro e w1 ⟨rfl, rfl⟩) | (go_at_call 31; refine (HG.out _ (H.out _)).mono ?_; rintro e w1 ⟨rfl, h1, h2⟩))
  go_end0
  exact ⟨rfl, h1, ((Ch.refl vb w).alloc _).trans h2⟩

theorem do_any (vb : Nat) (m : Fx) (s : St) (x : In) (got : Int) (hx : OkI x) (hg : ∀ r < 16, R64 (rg s r)) (hp : 0 ≤ s.pc ∧ s.pc < 1000) (w : World) (h : VM w vb m s) : Calls Try.prog 32 #[.pointer (some ⟨vb, 0, none⟩), iv x, .int .i64 got] w (DoP vb m (doS m.words x got s) w) := by
  obtain ⟨kd, op, xa, xb, xc, xk⟩ := x
  obtain ⟨h1, ha, hb, hc⟩ := hx
  dsimp only at h1 ha hb hc
  have hk : kd = 1 ∨ kd = 2 ∨ kd = 3 ∨ kd = 4 ∨ kd = 5 ∨ kd = 6 ∨ kd = 7 ∨ kd = 8 ∨ kd = 9 ∨ kd = 10 ∨ kd = 11 ∨ kd = 12 ∨ kd = 13 := by omega
  rcases hk with rfl | rfl | rfl | rfl | rfl | rfl | rfl | rfl | rfl | rfl | rfl | rfl | rfl
  · rw [show doS m.words ⟨1, op, xa, xb, xc, xk⟩ got s = _ from if_pos rfl]; exact do_1 vb m s op xa xb xc xk got hp w h
  · have e : doS m.words ⟨2, op, xa, xb, xc, xk⟩ got s = giveS s xa xk := by simp [doS]
    rw [e]; exact do_2 vb m s op xa xb xc xk got ha hp w h
  · have e : doS m.words ⟨3, op, xa, xb, xc, xk⟩ got s = giveS s xa (rg s xb.toNat) := by simp [doS]
    rw [e]; exact do_3 vb m s op xa xb xc xk got ha hb hp w h
  · have e : doS m.words ⟨4, op, xa, xb, xc, xk⟩ got s = giveS s xa (oneR op (rg s xb.toNat)).1 := by simp [doS]
    rw [e]; exact do_4 vb m s op xa xb xc xk got ha hb hg hp w h
  · have e : doS m.words ⟨5, op, xa, xb, xc, xk⟩ got s = if (twoR op (rg s xb.toNat) (rg s xc.toNat)).2 then giveS s xa (twoR op (rg s xb.toNat) (rg s xc.toNat)).1 else endS s 2 0 := by simp [doS]
    rw [e]; exact do_5 vb m s op xa xb xc xk got ⟨ha, hb, hc⟩ hg hp w h
  · have e : doS m.words ⟨6, op, xa, xb, xc, xk⟩ got s = if insideB m.words (addrS s ⟨6, op, xa, xb, xc, xk⟩) then giveS s xa got else endS s 3 (addrS s ⟨6, op, xa, xb, xc, xk⟩) := by simp [doS]
    rw [e]; exact do_6 vb m s op xa xb xc xk got ha hb hp w h
  · have e : doS m.words ⟨7, op, xa, xb, xc, xk⟩ got s = if insideB m.words (addrS s ⟨7, op, xa, xb, xc, xk⟩) then onS s else endS s 3 (addrS s ⟨7, op, xa, xb, xc, xk⟩) := by simp [doS]
    rw [e]; exact do_7 vb m s op xa xb xc xk got ha hb hp w h
  · have e : doS m.words ⟨8, op, xa, xb, xc, xk⟩ got s = onS s := by simp [doS]
    rw [e]; exact do_8 vb m s op xa xb xc xk got hp w h
  · have e : doS m.words ⟨9, op, xa, xb, xc, xk⟩ got s = onS s := by simp [doS]
    rw [e]; exact do_9 vb m s op xa xb xc xk got hp w h
  · have e : doS m.words ⟨10, op, xa, xb, xc, xk⟩ got s = jumpS s xk true := by simp [doS]
    rw [e]; exact do_10 vb m s op xa xb xc xk got hp w h
  · have e : doS m.words ⟨11, op, xa, xb, xc, xk⟩ got s = jumpS s xk (rg s xa.toNat == 0) := by simp [doS]
    rw [e]; exact do_11 vb m s op xa xb xc xk got ha hp w h
  · have e : doS m.words ⟨12, op, xa, xb, xc, xk⟩ got s = jumpS s xk (rg s xa.toNat != 0) := by simp [doS]
    rw [e]; exact do_12 vb m s op xa xb xc xk got ha hp w h
  · have e : doS m.words ⟨13, op, xa, xb, xc, xk⟩ got s = endS s 4 (rg s xa.toNat) := by simp [doS]
    rw [e]; exact do_13 vb m s op xa xb xc xk got ha hp w h
end Go.Proofs.Ytkcncngcmhldpaa
