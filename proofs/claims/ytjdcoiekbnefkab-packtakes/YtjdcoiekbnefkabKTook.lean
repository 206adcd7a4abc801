/- One call of both readers: it is answered alike. -/
import Derived.Test.YtjdcoiekbnefkabKRefY
import Derived.Test.YtjdcoiekbnefkabKCount
namespace Go.Proofs.Ytjdcoiekbnefkab
open Go.RowKit
set_option linter.unusedVariables false

/-- what one call leaves -/
def KPost (W : WG) (w : World) (pr : Nat) : Out → Ending → World → Prop
  | .ok P R, e, w' => ∃ a c, e = .returned (.tuple #[.agg #[.slice a R.length c, .int .i64 0], .bool true]) ∧ RG W (.slice a R.length c) R ∧ RS w' pr R 0 ∧ w.grownBy w' (some pr)
  | .err k, e, w' => ∃ a n c, e = .returned (.tuple #[.agg #[.slice a n c, .int .i64 k], .bool true]) ∧ (k == 0) = false ∧ RS w' pr [] k ∧ w.grownBy w' (some pr)
theorem grow_two {w w' : World} {pr b : Nat} (h : w.grownBy w' (some pr)) (hb : b < w.heap.size) (hne : b ≠ pr) : w'.heap[b]? = w.heap[b]? := h.block b hb (fun e => by injection e with e; exact hne e)
theorem RS.set_other {w : World} {pr b p : Nat} {L : List UInt8} {f : Int} (h : RS w pr L f) (hb : pr < b) (u : Value) : RS (w.setCell ⟨b, p, none⟩ u) pr L f :=
  h.belowAt (B := b) hb (Below.setCell (Below.refl b w) (p := ⟨b, p, none⟩) (show b ≤ b from Nat.le_refl _) u)
theorem grow_below' {w w' : World} {r : Option Nat} (h : Below w.heap.size w w') : w.grownBy w' r := ⟨h.os, h.tape, h.output, h.size, fun k hk _ => h.block k hk⟩
theorem grow_setn {w w' : World} {r : Option Nat} {b p : Nat} (h : w.grownBy w' r) (hb : w.heap.size ≤ b) (u : Value) : w.grownBy (w'.setCell ⟨b, p, none⟩ u) r :=
  ⟨h.os, h.tape, h.output, by have := h.size; simpa [World.setCell] using this, fun i hi hr => (Below.heap_setCell _ _ _ _ (by show i ≠ b; omega)).trans (h.block i hi hr)⟩
theorem nsl_nil (w : World) : NSl w (.slice none 0 0) [] := ⟨none, 0, rfl, Nat.le_refl _, Nat.zero_le _, fun n hn => (by cases hn), fun h => absurd h (by simp)⟩
set_option maxRecDepth 100000 in
set_option maxHeartbeats 1000000 in
theorem same_true (va vb : Value) (l : List Int) (w : World) (hl : l.length ≤ 1000000000) (ha : NSl w va l) (hb : NSl w vb l) :
    Calls Try.prog 61 #[va, vb] w fun e w' => e = .returned (.bool true) ∧ Below w.heap.size w w' := by
  obtain ⟨a, ca, rfl, a1, a2, _, a4⟩ := ha
  obtain ⟨b, cb, rfl, b1, b2, _, b4⟩ := hb
  have HA : Hid (0 < l.length → ∃ b o, a = some ⟨b, o, none⟩ ∧ b < w.heap.size ∧ ∀ i (h : i < l.length), w.cell? ⟨b, o + i, none⟩ = some (.int .i64 l[i])) := a4
  have HB : Hid (0 < l.length → ∃ b' o, b = some ⟨b', o, none⟩ ∧ b' < w.heap.size ∧ ∀ i (h : i < l.length), w.cell? ⟨b', o + i, none⟩ = some (.int .i64 l[i])) := b4
  obtain ⟨n, hn⟩ : ∃ n, l.length = n := ⟨_, rfl⟩
  have HN : Hid (l.length = n) := hn
  rw [hn] at hl a1 b1 ⊢
  unfold maxLen at a2 b2
  clear a4 b4 hn
  go_enter Try.func61, Try.ntmps61
  go_wp2
  go_loopw [5] (fun i wr => ∃ k : Nat, k ≤ n ∧ i = .int .i64 (k : Int) ∧ Hid (Below w.heap.size w wr)) (fun i _ => n - (intOf i).toNat)
  case atStart => exact ⟨0, Nat.zero_le _, rfl, Below.refl _ _⟩
  case round =>
    obtain ⟨k, hk, rfl, HBl⟩ := hrel
    by_cases hlt : k < n
    · have hkl : k < l.length := by have := HN.out; omega
      obtain ⟨ba, oa, e1, g1, y1⟩ := HA.out (by omega)
      obtain ⟨bb, ob, e2, g2, y2⟩ := HB.out (by omega)
      subst e1 e2
      obtain ⟨x, hx⟩ : ∃ x, l[k] = x := ⟨_, rfl⟩
      have x1 : wr.cell? ⟨ba, oa + k, none⟩ = some (.int .i64 x) := by rw [← hx]; exact (HBl.out.cell (p := ⟨ba, oa + k, none⟩) g1).trans (y1 k hkl)
      have x2 : wr.cell? ⟨bb, ob + k, none⟩ = some (.int .i64 x) := by rw [← hx]; exact (HBl.out.cell (p := ⟨bb, ob + k, none⟩) g2).trans (y2 k hkl)
      have q1 : ba < wr.heap.size := Nat.lt_of_lt_of_le g1 HBl.out.size
      have q2 : bb < wr.heap.size := Nat.lt_of_lt_of_le g2 HBl.out.size
      clear hx y1 y2
      go_wp2
      go_region
      all_goals
        go_wp2
        go_roundw
        case rel => exact ⟨k + 1, by omega, by go_num, HBl.out.drew⟩
        case measure => simp [intOf]; omega
    · go_wp2
      go_ret
      exact ⟨rfl, HBl.out⟩

set_option maxRecDepth 100000 in
set_option maxHeartbeats 8000000 in
theorem took_uint_ok (W : WG) (pr : Nat) (a : Option Addr) (n c : Nat) (f : Int) (m : Nat) (R : List UInt8) (L : List UInt8) (w : World) (hS : RS w pr L f) (HR : Hid (∀ V, Below w.heap.size w V → Calls Try.prog 52 #[.agg #[.slice a n c, .int .i64 f]] V (DPost W V (.int .u64 0) (.ok (fun v _ => v = .int .u64 (m : Int)) R)))) (HP : Hid (∀ V, RS V pr L f → Calls Try.prog 53 #[.pointer (some ⟨pr, 0, none⟩)] V (WPost V pr (.int .u64 0) (.ok (fun v _ => v = .int .u64 (m : Int)) R)))) :
    Calls Try.prog 22 #[.pointer (some ⟨pr, 0, none⟩), .agg #[.slice a n c, .int .i64 f], .int .i64 0] w (KPost W w pr (.ok (fun v _ => v = .int .u64 (m : Int)) R)) := by
  have hprl := hS.lt
  have HS : Hid (RS w pr L f) := hS
  have HBV : Hid (Below w.heap.size w ((w.alloc (.cells #[.slice a n c, .int .i64 f] 43)).alloc (.cells #[.slice none 0 0, .int .i64 0] 43))) := ((Below.refl _ _).alloc (Nat.le_refl _) _).alloc (by simp) _
  have HT2 : Hid (Two ((w.alloc (.cells #[.slice a n c, .int .i64 f] 43)).alloc (.cells #[.slice none 0 0, .int .i64 0] 43)) (w.heap.size + 1) (.slice none 0 0) (.int .i64 0)) := Two.new _ _ (by simp) _ _ _
  clear hS
  go_enter Try.func22, Try.ntmps22
  go_wp2_with fail
  refine (HR.out _ HBV.out).mono ?_
  rintro e w2 ⟨a3, c3, vv, rfl, hr3, rfl, hb3⟩
  obtain ⟨rl, hrl⟩ : ∃ rl, R.length = rl := ⟨_, rfl⟩
  have HRL : Hid (R.length = rl) := hrl
  have HR3 : Hid (RG W (.slice a3 R.length c3) R) := hr3
  rw [hrl]
  clear hr3 hrl
  have hw2 : w.heap.size + 2 ≤ w2.heap.size := Nat.le_trans (by simp) hb3.size
  have HB2 : Hid (Below w.heap.size w w2) := HBV.out.trans (hb3.mono HBV.out.size)
  have HT22 : Hid (Two w2 (w.heap.size + 1) (.slice none 0 0) (.int .i64 0)) := HT2.out.keep (hb3.block _ HT2.out.lt)
  have HBD : Hid (Below w2.heap.size w2 (w2.alloc (.cells #[.slice a3 rl c3, .int .i64 0] 43)).drew) := ((Below.refl _ _).alloc (Nat.le_refl _) _).drew
  have HSD : Hid (RS (w2.alloc (.cells #[.slice a3 rl c3, .int .i64 0] 43)).drew pr L f) := HS.out.below (HB2.out.trans (HBD.out.mono (by omega)))
  have HT2D : Hid (Two (w2.alloc (.cells #[.slice a3 rl c3, .int .i64 0] 43)).drew (w.heap.size + 1) (.slice none 0 0) (.int .i64 0)) := HT22.out.keep (HBD.out.block _ HT22.out.lt)
  have HT3D : Hid (Two (w2.alloc (.cells #[.slice a3 rl c3, .int .i64 0] 43)).drew w2.heap.size (.slice a3 rl c3) (.int .i64 0)) := (Two.new w2 w2.heap.size rfl (.slice a3 rl c3) (.int .i64 0) 43).keep rfl
  have HGD : Hid (w.grownBy (w2.alloc (.cells #[.slice a3 rl c3, .int .i64 0] 43)).drew (some pr)) := grow_below' (HB2.out.trans (HBD.out.mono (by omega)))
  have HSZ : Hid (w2.heap.size + 1 = (w2.alloc (.cells #[.slice a3 rl c3, .int .i64 0] 43)).drew.heap.size) := by show _ = _; simp
  clear hb3
  go_wp2_with fail
  go_region_with (go_at_call 53; refine (HP.out _ HSD.out).mono ?_; rintro e w5 ⟨v, rfl, rfl, q1, q2⟩; have T2 := HT2D.out.keep (grow_two q2 HT2D.out.lt (by omega)); have T3 := HT3D.out.keep (grow_two q2 HT3D.out.lt (by omega)); obtain ⟨u0, u1, u2, u3⟩ := id T2; obtain ⟨x0, x1, x2, x3⟩ := id T3; have RR : Hid (RS w5 pr R 0) := q1; have GG : Hid (w.grownBy w5 (some pr)) := grow_trans HGD.out q2; have HT5 : Hid (Two w5 (w.heap.size + 1) (.slice none 0 0) (.int .i64 0)) := T2; have hs5 : w2.heap.size + 1 ≤ w5.heap.size := (Nat.le_trans (Nat.le_of_eq HSZ.out) q2.size); clear q1 T2 T3; clear q2)
  all_goals
    go_wp2
    have T9 := (HT5.out.set0 (.slice a3 rl c3)).set1 (.int .i64 0)
    refine bodyPost_ret (ret_rd Try.results22 _ (w.heap.size + 1) rfl _ T9.c0 T9.c1) rfl ?_
    exact ⟨a3, c3, (by rw [HRL.out] <;> rfl), HR3.out, ((RR.out.set_other (by omega) _).set_other (by omega) _), (grow_setn (grow_setn GG.out (by omega) _) (by omega) _)⟩

set_option maxRecDepth 100000 in
set_option maxHeartbeats 8000000 in
theorem took_uint_err (W : WG) (pr : Nat) (a : Option Addr) (n c : Nat) (f : Int) (k : Int) (L : List UInt8) (w : World) (hS : RS w pr L f) (HR : Hid (∀ V, Below w.heap.size w V → Calls Try.prog 52 #[.agg #[.slice a n c, .int .i64 f]] V (DPost W V (.int .u64 0) (.err k)))) (HP : Hid (∀ V, RS V pr L f → Calls Try.prog 53 #[.pointer (some ⟨pr, 0, none⟩)] V (WPost V pr (.int .u64 0) (.err k)))) :
    Calls Try.prog 22 #[.pointer (some ⟨pr, 0, none⟩), .agg #[.slice a n c, .int .i64 f], .int .i64 0] w (KPost W w pr (.err k)) := by
  have hprl := hS.lt
  have HS : Hid (RS w pr L f) := hS
  have HBV : Hid (Below w.heap.size w ((w.alloc (.cells #[.slice a n c, .int .i64 f] 43)).alloc (.cells #[.slice none 0 0, .int .i64 0] 43))) := ((Below.refl _ _).alloc (Nat.le_refl _) _).alloc (by simp) _
  have HT2 : Hid (Two ((w.alloc (.cells #[.slice a n c, .int .i64 f] 43)).alloc (.cells #[.slice none 0 0, .int .i64 0] 43)) (w.heap.size + 1) (.slice none 0 0) (.int .i64 0)) := Two.new _ _ (by simp) _ _ _
  clear hS
  go_enter Try.func22, Try.ntmps22
  go_wp2_with fail
  refine (HR.out _ HBV.out).mono ?_
  rintro e w2 ⟨a3, n3, c3, rfl, hk, hb3⟩
  have HK : Hid ((k == 0) = false) := hk
  clear hk
  have hw2 : w.heap.size + 2 ≤ w2.heap.size := Nat.le_trans (by simp) hb3.size
  have HB2 : Hid (Below w.heap.size w w2) := HBV.out.trans (hb3.mono HBV.out.size)
  have HT22 : Hid (Two w2 (w.heap.size + 1) (.slice none 0 0) (.int .i64 0)) := HT2.out.keep (hb3.block _ HT2.out.lt)
  have HBD : Hid (Below w2.heap.size w2 (w2.alloc (.cells #[.slice a3 n3 c3, .int .i64 k] 43)).drew) := ((Below.refl _ _).alloc (Nat.le_refl _) _).drew
  have HSD : Hid (RS (w2.alloc (.cells #[.slice a3 n3 c3, .int .i64 k] 43)).drew pr L f) := HS.out.below (HB2.out.trans (HBD.out.mono (by omega)))
  have HT2D : Hid (Two (w2.alloc (.cells #[.slice a3 n3 c3, .int .i64 k] 43)).drew (w.heap.size + 1) (.slice none 0 0) (.int .i64 0)) := HT22.out.keep (HBD.out.block _ HT22.out.lt)
  have HT3D : Hid (Two (w2.alloc (.cells #[.slice a3 n3 c3, .int .i64 k] 43)).drew w2.heap.size (.slice a3 n3 c3) (.int .i64 k)) := (Two.new w2 w2.heap.size rfl (.slice a3 n3 c3) (.int .i64 k) 43).keep rfl
  have HGD : Hid (w.grownBy (w2.alloc (.cells #[.slice a3 n3 c3, .int .i64 k] 43)).drew (some pr)) := grow_below' (HB2.out.trans (HBD.out.mono (by omega)))
  have HSZ : Hid (w2.heap.size + 1 = (w2.alloc (.cells #[.slice a3 n3 c3, .int .i64 k] 43)).drew.heap.size) := by show _ = _; simp
  clear hb3
  go_wp2_with fail
  go_region_with (go_at_call 53; refine (HP.out _ HSD.out).mono ?_; rintro e w5 ⟨rfl, q1, q2⟩; have T2 := HT2D.out.keep (grow_two q2 HT2D.out.lt (by omega)); have T3 := HT3D.out.keep (grow_two q2 HT3D.out.lt (by omega)); obtain ⟨u0, u1, u2, u3⟩ := id T2; obtain ⟨x0, x1, x2, x3⟩ := id T3; have RR : Hid (RS w5 pr [] k) := q1; have GG : Hid (w.grownBy w5 (some pr)) := grow_trans HGD.out q2; have HT5 : Hid (Two w5 (w.heap.size + 1) (.slice none 0 0) (.int .i64 0)) := T2; have hs5 : w2.heap.size + 1 ≤ w5.heap.size := (Nat.le_trans (Nat.le_of_eq HSZ.out) q2.size); clear q1 T2 T3; clear q2)
  all_goals
    go_wp2
    have T9 := (HT5.out.set0 (.slice a3 n3 c3)).set1 (.int .i64 k)
    refine bodyPost_ret (ret_rd Try.results22 _ (w.heap.size + 1) rfl _ T9.c0 T9.c1) rfl ?_
    exact ⟨a3, n3, c3, rfl, HK.out, ((RR.out.set_other (by omega) _).set_other (by omega) _), (grow_setn (grow_setn GG.out (by omega) _) (by omega) _)⟩

set_option maxRecDepth 100000 in
set_option maxHeartbeats 8000000 in
theorem took_int_ok (W : WG) (pr : Nat) (a : Option Addr) (n c : Nat) (f : Int) (m : Int) (R : List UInt8) (L : List UInt8) (w : World) (hS : RS w pr L f) (HR : Hid (∀ V, Below w.heap.size w V → Calls Try.prog 54 #[.agg #[.slice a n c, .int .i64 f]] V (DPost W V (.int .i64 0) (.ok (fun v _ => v = .int .i64 m) R)))) (HP : Hid (∀ V, RS V pr L f → Calls Try.prog 55 #[.pointer (some ⟨pr, 0, none⟩)] V (WPost V pr (.int .i64 0) (.ok (fun v _ => v = .int .i64 m) R)))) :
    Calls Try.prog 22 #[.pointer (some ⟨pr, 0, none⟩), .agg #[.slice a n c, .int .i64 f], .int .i64 1] w (KPost W w pr (.ok (fun v _ => v = .int .i64 m) R)) := by
  have hprl := hS.lt
  have HS : Hid (RS w pr L f) := hS
  have HBV : Hid (Below w.heap.size w ((w.alloc (.cells #[.slice a n c, .int .i64 f] 43)).alloc (.cells #[.slice none 0 0, .int .i64 0] 43))) := ((Below.refl _ _).alloc (Nat.le_refl _) _).alloc (by simp) _
  have HT2 : Hid (Two ((w.alloc (.cells #[.slice a n c, .int .i64 f] 43)).alloc (.cells #[.slice none 0 0, .int .i64 0] 43)) (w.heap.size + 1) (.slice none 0 0) (.int .i64 0)) := Two.new _ _ (by simp) _ _ _
  clear hS
  go_enter Try.func22, Try.ntmps22
  go_wp2_with fail
  refine (HR.out _ HBV.out).mono ?_
  rintro e w2 ⟨a3, c3, vv, rfl, hr3, rfl, hb3⟩
  obtain ⟨rl, hrl⟩ : ∃ rl, R.length = rl := ⟨_, rfl⟩
  have HRL : Hid (R.length = rl) := hrl
  have HR3 : Hid (RG W (.slice a3 R.length c3) R) := hr3
  rw [hrl]
  clear hr3 hrl
  have hw2 : w.heap.size + 2 ≤ w2.heap.size := Nat.le_trans (by simp) hb3.size
  have HB2 : Hid (Below w.heap.size w w2) := HBV.out.trans (hb3.mono HBV.out.size)
  have HT22 : Hid (Two w2 (w.heap.size + 1) (.slice none 0 0) (.int .i64 0)) := HT2.out.keep (hb3.block _ HT2.out.lt)
  have HBD : Hid (Below w2.heap.size w2 (w2.alloc (.cells #[.slice a3 rl c3, .int .i64 0] 43)).drew) := ((Below.refl _ _).alloc (Nat.le_refl _) _).drew
  have HSD : Hid (RS (w2.alloc (.cells #[.slice a3 rl c3, .int .i64 0] 43)).drew pr L f) := HS.out.below (HB2.out.trans (HBD.out.mono (by omega)))
  have HT2D : Hid (Two (w2.alloc (.cells #[.slice a3 rl c3, .int .i64 0] 43)).drew (w.heap.size + 1) (.slice none 0 0) (.int .i64 0)) := HT22.out.keep (HBD.out.block _ HT22.out.lt)
  have HT3D : Hid (Two (w2.alloc (.cells #[.slice a3 rl c3, .int .i64 0] 43)).drew w2.heap.size (.slice a3 rl c3) (.int .i64 0)) := (Two.new w2 w2.heap.size rfl (.slice a3 rl c3) (.int .i64 0) 43).keep rfl
  have HGD : Hid (w.grownBy (w2.alloc (.cells #[.slice a3 rl c3, .int .i64 0] 43)).drew (some pr)) := grow_below' (HB2.out.trans (HBD.out.mono (by omega)))
  have HSZ : Hid (w2.heap.size + 1 = (w2.alloc (.cells #[.slice a3 rl c3, .int .i64 0] 43)).drew.heap.size) := by show _ = _; simp
  clear hb3
  go_wp2_with fail
  go_region_with (go_at_call 55; refine (HP.out _ HSD.out).mono ?_; rintro e w5 ⟨v, rfl, rfl, q1, q2⟩; have T2 := HT2D.out.keep (grow_two q2 HT2D.out.lt (by omega)); have T3 := HT3D.out.keep (grow_two q2 HT3D.out.lt (by omega)); obtain ⟨u0, u1, u2, u3⟩ := id T2; obtain ⟨x0, x1, x2, x3⟩ := id T3; have RR : Hid (RS w5 pr R 0) := q1; have GG : Hid (w.grownBy w5 (some pr)) := grow_trans HGD.out q2; have HT5 : Hid (Two w5 (w.heap.size + 1) (.slice none 0 0) (.int .i64 0)) := T2; have hs5 : w2.heap.size + 1 ≤ w5.heap.size := (Nat.le_trans (Nat.le_of_eq HSZ.out) q2.size); clear q1 T2 T3; clear q2)
  all_goals
    go_wp2
    have T9 := (HT5.out.set0 (.slice a3 rl c3)).set1 (.int .i64 0)
    refine bodyPost_ret (ret_rd Try.results22 _ (w.heap.size + 1) rfl _ T9.c0 T9.c1) rfl ?_
    exact ⟨a3, c3, (by rw [HRL.out] <;> rfl), HR3.out, ((RR.out.set_other (by omega) _).set_other (by omega) _), (grow_setn (grow_setn GG.out (by omega) _) (by omega) _)⟩

set_option maxRecDepth 100000 in
set_option maxHeartbeats 8000000 in
theorem took_int_err (W : WG) (pr : Nat) (a : Option Addr) (n c : Nat) (f : Int) (k : Int) (L : List UInt8) (w : World) (hS : RS w pr L f) (HR : Hid (∀ V, Below w.heap.size w V → Calls Try.prog 54 #[.agg #[.slice a n c, .int .i64 f]] V (DPost W V (.int .i64 0) (.err k)))) (HP : Hid (∀ V, RS V pr L f → Calls Try.prog 55 #[.pointer (some ⟨pr, 0, none⟩)] V (WPost V pr (.int .i64 0) (.err k)))) :
    Calls Try.prog 22 #[.pointer (some ⟨pr, 0, none⟩), .agg #[.slice a n c, .int .i64 f], .int .i64 1] w (KPost W w pr (.err k)) := by
  have hprl := hS.lt
  have HS : Hid (RS w pr L f) := hS
  have HBV : Hid (Below w.heap.size w ((w.alloc (.cells #[.slice a n c, .int .i64 f] 43)).alloc (.cells #[.slice none 0 0, .int .i64 0] 43))) := ((Below.refl _ _).alloc (Nat.le_refl _) _).alloc (by simp) _
  have HT2 : Hid (Two ((w.alloc (.cells #[.slice a n c, .int .i64 f] 43)).alloc (.cells #[.slice none 0 0, .int .i64 0] 43)) (w.heap.size + 1) (.slice none 0 0) (.int .i64 0)) := Two.new _ _ (by simp) _ _ _
  clear hS
  go_enter Try.func22, Try.ntmps22
  go_wp2_with fail
  refine (HR.out _ HBV.out).mono ?_
  rintro e w2 ⟨a3, n3, c3, rfl, hk, hb3⟩
  have HK : Hid ((k == 0) = false) := hk
  clear hk
  have hw2 : w.heap.size + 2 ≤ w2.heap.size := Nat.le_trans (by simp) hb3.size
  have HB2 : Hid (Below w.heap.size w w2) := HBV.out.trans (hb3.mono HBV.out.size)
  have HT22 : Hid (Two w2 (w.heap.size + 1) (.slice none 0 0) (.int .i64 0)) := HT2.out.keep (hb3.block _ HT2.out.lt)
  have HBD : Hid (Below w2.heap.size w2 (w2.alloc (.cells #[.slice a3 n3 c3, .int .i64 k] 43)).drew) := ((Below.refl _ _).alloc (Nat.le_refl _) _).drew
  have HSD : Hid (RS (w2.alloc (.cells #[.slice a3 n3 c3, .int .i64 k] 43)).drew pr L f) := HS.out.below (HB2.out.trans (HBD.out.mono (by omega)))
  have HT2D : Hid (Two (w2.alloc (.cells #[.slice a3 n3 c3, .int .i64 k] 43)).drew (w.heap.size + 1) (.slice none 0 0) (.int .i64 0)) := HT22.out.keep (HBD.out.block _ HT22.out.lt)
  have HT3D : Hid (Two (w2.alloc (.cells #[.slice a3 n3 c3, .int .i64 k] 43)).drew w2.heap.size (.slice a3 n3 c3) (.int .i64 k)) := (Two.new w2 w2.heap.size rfl (.slice a3 n3 c3) (.int .i64 k) 43).keep rfl
  have HGD : Hid (w.grownBy (w2.alloc (.cells #[.slice a3 n3 c3, .int .i64 k] 43)).drew (some pr)) := grow_below' (HB2.out.trans (HBD.out.mono (by omega)))
  have HSZ : Hid (w2.heap.size + 1 = (w2.alloc (.cells #[.slice a3 n3 c3, .int .i64 k] 43)).drew.heap.size) := by show _ = _; simp
  clear hb3
  go_wp2_with fail
  go_region_with (go_at_call 55; refine (HP.out _ HSD.out).mono ?_; rintro e w5 ⟨rfl, q1, q2⟩; have T2 := HT2D.out.keep (grow_two q2 HT2D.out.lt (by omega)); have T3 := HT3D.out.keep (grow_two q2 HT3D.out.lt (by omega)); obtain ⟨u0, u1, u2, u3⟩ := id T2; obtain ⟨x0, x1, x2, x3⟩ := id T3; have RR : Hid (RS w5 pr [] k) := q1; have GG : Hid (w.grownBy w5 (some pr)) := grow_trans HGD.out q2; have HT5 : Hid (Two w5 (w.heap.size + 1) (.slice none 0 0) (.int .i64 0)) := T2; have hs5 : w2.heap.size + 1 ≤ w5.heap.size := (Nat.le_trans (Nat.le_of_eq HSZ.out) q2.size); clear q1 T2 T3; clear q2)
  all_goals
    go_wp2
    have T9 := (HT5.out.set0 (.slice a3 n3 c3)).set1 (.int .i64 k)
    refine bodyPost_ret (ret_rd Try.results22 _ (w.heap.size + 1) rfl _ T9.c0 T9.c1) rfl ?_
    exact ⟨a3, n3, c3, rfl, HK.out, ((RR.out.set_other (by omega) _).set_other (by omega) _), (grow_setn (grow_setn GG.out (by omega) _) (by omega) _)⟩

set_option maxRecDepth 100000 in
set_option maxHeartbeats 8000000 in
theorem took_flag_ok (W : WG) (pr : Nat) (a : Option Addr) (n c : Nat) (f : Int) (m : Bool) (R : List UInt8) (L : List UInt8) (w : World) (hS : RS w pr L f) (HR : Hid (∀ V, Below w.heap.size w V → Calls Try.prog 56 #[.agg #[.slice a n c, .int .i64 f]] V (DPost W V (.bool false) (.ok (fun v _ => v = .bool m) R)))) (HP : Hid (∀ V, RS V pr L f → Calls Try.prog 57 #[.pointer (some ⟨pr, 0, none⟩)] V (WPost V pr (.bool false) (.ok (fun v _ => v = .bool m) R)))) :
    Calls Try.prog 22 #[.pointer (some ⟨pr, 0, none⟩), .agg #[.slice a n c, .int .i64 f], .int .i64 2] w (KPost W w pr (.ok (fun v _ => v = .bool m) R)) := by
  have hprl := hS.lt
  have HS : Hid (RS w pr L f) := hS
  have HBV : Hid (Below w.heap.size w ((w.alloc (.cells #[.slice a n c, .int .i64 f] 43)).alloc (.cells #[.slice none 0 0, .int .i64 0] 43))) := ((Below.refl _ _).alloc (Nat.le_refl _) _).alloc (by simp) _
  have HT2 : Hid (Two ((w.alloc (.cells #[.slice a n c, .int .i64 f] 43)).alloc (.cells #[.slice none 0 0, .int .i64 0] 43)) (w.heap.size + 1) (.slice none 0 0) (.int .i64 0)) := Two.new _ _ (by simp) _ _ _
  clear hS
  go_enter Try.func22, Try.ntmps22
  go_wp2_with fail
  refine (HR.out _ HBV.out).mono ?_
  rintro e w2 ⟨a3, c3, vv, rfl, hr3, rfl, hb3⟩
  obtain ⟨rl, hrl⟩ : ∃ rl, R.length = rl := ⟨_, rfl⟩
  have HRL : Hid (R.length = rl) := hrl
  have HR3 : Hid (RG W (.slice a3 R.length c3) R) := hr3
  rw [hrl]
  clear hr3 hrl
  have hw2 : w.heap.size + 2 ≤ w2.heap.size := Nat.le_trans (by simp) hb3.size
  have HB2 : Hid (Below w.heap.size w w2) := HBV.out.trans (hb3.mono HBV.out.size)
  have HT22 : Hid (Two w2 (w.heap.size + 1) (.slice none 0 0) (.int .i64 0)) := HT2.out.keep (hb3.block _ HT2.out.lt)
  have HBD : Hid (Below w2.heap.size w2 (w2.alloc (.cells #[.slice a3 rl c3, .int .i64 0] 43)).drew) := ((Below.refl _ _).alloc (Nat.le_refl _) _).drew
  have HSD : Hid (RS (w2.alloc (.cells #[.slice a3 rl c3, .int .i64 0] 43)).drew pr L f) := HS.out.below (HB2.out.trans (HBD.out.mono (by omega)))
  have HT2D : Hid (Two (w2.alloc (.cells #[.slice a3 rl c3, .int .i64 0] 43)).drew (w.heap.size + 1) (.slice none 0 0) (.int .i64 0)) := HT22.out.keep (HBD.out.block _ HT22.out.lt)
  have HT3D : Hid (Two (w2.alloc (.cells #[.slice a3 rl c3, .int .i64 0] 43)).drew w2.heap.size (.slice a3 rl c3) (.int .i64 0)) := (Two.new w2 w2.heap.size rfl (.slice a3 rl c3) (.int .i64 0) 43).keep rfl
  have HGD : Hid (w.grownBy (w2.alloc (.cells #[.slice a3 rl c3, .int .i64 0] 43)).drew (some pr)) := grow_below' (HB2.out.trans (HBD.out.mono (by omega)))
  have HSZ : Hid (w2.heap.size + 1 = (w2.alloc (.cells #[.slice a3 rl c3, .int .i64 0] 43)).drew.heap.size) := by show _ = _; simp
  clear hb3
  go_wp2_with fail
  go_region_with (go_at_call 57; refine (HP.out _ HSD.out).mono ?_; rintro e w5 ⟨v, rfl, rfl, q1, q2⟩; have T2 := HT2D.out.keep (grow_two q2 HT2D.out.lt (by omega)); have T3 := HT3D.out.keep (grow_two q2 HT3D.out.lt (by omega)); obtain ⟨u0, u1, u2, u3⟩ := id T2; obtain ⟨x0, x1, x2, x3⟩ := id T3; have RR : Hid (RS w5 pr R 0) := q1; have GG : Hid (w.grownBy w5 (some pr)) := grow_trans HGD.out q2; have HT5 : Hid (Two w5 (w.heap.size + 1) (.slice none 0 0) (.int .i64 0)) := T2; have hs5 : w2.heap.size + 1 ≤ w5.heap.size := (Nat.le_trans (Nat.le_of_eq HSZ.out) q2.size); clear q1 T2 T3; clear q2)
  all_goals
    go_wp2
    have T9 := (HT5.out.set0 (.slice a3 rl c3)).set1 (.int .i64 0)
    refine bodyPost_ret (ret_rd Try.results22 _ (w.heap.size + 1) rfl _ T9.c0 T9.c1) rfl ?_
    exact ⟨a3, c3, (by rw [HRL.out] <;> rfl), HR3.out, ((RR.out.set_other (by omega) _).set_other (by omega) _), (grow_setn (grow_setn GG.out (by omega) _) (by omega) _)⟩

set_option maxRecDepth 100000 in
set_option maxHeartbeats 8000000 in
theorem took_flag_err (W : WG) (pr : Nat) (a : Option Addr) (n c : Nat) (f : Int) (k : Int) (L : List UInt8) (w : World) (hS : RS w pr L f) (HR : Hid (∀ V, Below w.heap.size w V → Calls Try.prog 56 #[.agg #[.slice a n c, .int .i64 f]] V (DPost W V (.bool false) (.err k)))) (HP : Hid (∀ V, RS V pr L f → Calls Try.prog 57 #[.pointer (some ⟨pr, 0, none⟩)] V (WPost V pr (.bool false) (.err k)))) :
    Calls Try.prog 22 #[.pointer (some ⟨pr, 0, none⟩), .agg #[.slice a n c, .int .i64 f], .int .i64 2] w (KPost W w pr (.err k)) := by
  have hprl := hS.lt
  have HS : Hid (RS w pr L f) := hS
  have HBV : Hid (Below w.heap.size w ((w.alloc (.cells #[.slice a n c, .int .i64 f] 43)).alloc (.cells #[.slice none 0 0, .int .i64 0] 43))) := ((Below.refl _ _).alloc (Nat.le_refl _) _).alloc (by simp) _
  have HT2 : Hid (Two ((w.alloc (.cells #[.slice a n c, .int .i64 f] 43)).alloc (.cells #[.slice none 0 0, .int .i64 0] 43)) (w.heap.size + 1) (.slice none 0 0) (.int .i64 0)) := Two.new _ _ (by simp) _ _ _
  clear hS
  go_enter Try.func22, Try.ntmps22
  go_wp2_with fail
  refine (HR.out _ HBV.out).mono ?_
  rintro e w2 ⟨a3, n3, c3, rfl, hk, hb3⟩
  have HK : Hid ((k == 0) = false) := hk
  clear hk
  have hw2 : w.heap.size + 2 ≤ w2.heap.size := Nat.le_trans (by simp) hb3.size
  have HB2 : Hid (Below w.heap.size w w2) := HBV.out.trans (hb3.mono HBV.out.size)
  have HT22 : Hid (Two w2 (w.heap.size + 1) (.slice none 0 0) (.int .i64 0)) := HT2.out.keep (hb3.block _ HT2.out.lt)
  have HBD : Hid (Below w2.heap.size w2 (w2.alloc (.cells #[.slice a3 n3 c3, .int .i64 k] 43)).drew) := ((Below.refl _ _).alloc (Nat.le_refl _) _).drew
  have HSD : Hid (RS (w2.alloc (.cells #[.slice a3 n3 c3, .int .i64 k] 43)).drew pr L f) := HS.out.below (HB2.out.trans (HBD.out.mono (by omega)))
  have HT2D : Hid (Two (w2.alloc (.cells #[.slice a3 n3 c3, .int .i64 k] 43)).drew (w.heap.size + 1) (.slice none 0 0) (.int .i64 0)) := HT22.out.keep (HBD.out.block _ HT22.out.lt)
  have HT3D : Hid (Two (w2.alloc (.cells #[.slice a3 n3 c3, .int .i64 k] 43)).drew w2.heap.size (.slice a3 n3 c3) (.int .i64 k)) := (Two.new w2 w2.heap.size rfl (.slice a3 n3 c3) (.int .i64 k) 43).keep rfl
  have HGD : Hid (w.grownBy (w2.alloc (.cells #[.slice a3 n3 c3, .int .i64 k] 43)).drew (some pr)) := grow_below' (HB2.out.trans (HBD.out.mono (by omega)))
  have HSZ : Hid (w2.heap.size + 1 = (w2.alloc (.cells #[.slice a3 n3 c3, .int .i64 k] 43)).drew.heap.size) := by show _ = _; simp
  clear hb3
  go_wp2_with fail
  go_region_with (go_at_call 57; refine (HP.out _ HSD.out).mono ?_; rintro e w5 ⟨rfl, q1, q2⟩; have T2 := HT2D.out.keep (grow_two q2 HT2D.out.lt (by omega)); have T3 := HT3D.out.keep (grow_two q2 HT3D.out.lt (by omega)); obtain ⟨u0, u1, u2, u3⟩ := id T2; obtain ⟨x0, x1, x2, x3⟩ := id T3; have RR : Hid (RS w5 pr [] k) := q1; have GG : Hid (w.grownBy w5 (some pr)) := grow_trans HGD.out q2; have HT5 : Hid (Two w5 (w.heap.size + 1) (.slice none 0 0) (.int .i64 0)) := T2; have hs5 : w2.heap.size + 1 ≤ w5.heap.size := (Nat.le_trans (Nat.le_of_eq HSZ.out) q2.size); clear q1 T2 T3; clear q2)
  all_goals
    go_wp2
    have T9 := (HT5.out.set0 (.slice a3 n3 c3)).set1 (.int .i64 k)
    refine bodyPost_ret (ret_rd Try.results22 _ (w.heap.size + 1) rfl _ T9.c0 T9.c1) rfl ?_
    exact ⟨a3, n3, c3, rfl, HK.out, ((RR.out.set_other (by omega) _).set_other (by omega) _), (grow_setn (grow_setn GG.out (by omega) _) (by omega) _)⟩

set_option maxRecDepth 100000 in
set_option maxHeartbeats 8000000 in
theorem took_text_ok (W : WG) (pr : Nat) (a : Option Addr) (n c : Nat) (f : Int) (m : ByteArray) (R : List UInt8) (L : List UInt8) (w : World) (hS : RS w pr L f) (HR : Hid (∀ V, Below w.heap.size w V → Calls Try.prog 58 #[.agg #[.slice a n c, .int .i64 f]] V (DPost W V (.string ⟨#[]⟩) (.ok (fun v _ => v = .string m) R)))) (HP : Hid (∀ V, RS V pr L f → Calls Try.prog 59 #[.pointer (some ⟨pr, 0, none⟩)] V (WPost V pr (.string ⟨#[]⟩) (.ok (fun v _ => v = .string m) R)))) :
    Calls Try.prog 22 #[.pointer (some ⟨pr, 0, none⟩), .agg #[.slice a n c, .int .i64 f], .int .i64 3] w (KPost W w pr (.ok (fun v _ => v = .string m) R)) := by
  have hprl := hS.lt
  have HS : Hid (RS w pr L f) := hS
  have HBV : Hid (Below w.heap.size w ((w.alloc (.cells #[.slice a n c, .int .i64 f] 43)).alloc (.cells #[.slice none 0 0, .int .i64 0] 43))) := ((Below.refl _ _).alloc (Nat.le_refl _) _).alloc (by simp) _
  have HT2 : Hid (Two ((w.alloc (.cells #[.slice a n c, .int .i64 f] 43)).alloc (.cells #[.slice none 0 0, .int .i64 0] 43)) (w.heap.size + 1) (.slice none 0 0) (.int .i64 0)) := Two.new _ _ (by simp) _ _ _
  clear hS
  go_enter Try.func22, Try.ntmps22
  go_wp2_with fail
  refine (HR.out _ HBV.out).mono ?_
  rintro e w2 ⟨a3, c3, vv, rfl, hr3, rfl, hb3⟩
  obtain ⟨rl, hrl⟩ : ∃ rl, R.length = rl := ⟨_, rfl⟩
  have HRL : Hid (R.length = rl) := hrl
  have HR3 : Hid (RG W (.slice a3 R.length c3) R) := hr3
  rw [hrl]
  clear hr3 hrl
  have hw2 : w.heap.size + 2 ≤ w2.heap.size := Nat.le_trans (by simp) hb3.size
  have HB2 : Hid (Below w.heap.size w w2) := HBV.out.trans (hb3.mono HBV.out.size)
  have HT22 : Hid (Two w2 (w.heap.size + 1) (.slice none 0 0) (.int .i64 0)) := HT2.out.keep (hb3.block _ HT2.out.lt)
  have HBD : Hid (Below w2.heap.size w2 (w2.alloc (.cells #[.slice a3 rl c3, .int .i64 0] 43)).drew) := ((Below.refl _ _).alloc (Nat.le_refl _) _).drew
  have HSD : Hid (RS (w2.alloc (.cells #[.slice a3 rl c3, .int .i64 0] 43)).drew pr L f) := HS.out.below (HB2.out.trans (HBD.out.mono (by omega)))
  have HT2D : Hid (Two (w2.alloc (.cells #[.slice a3 rl c3, .int .i64 0] 43)).drew (w.heap.size + 1) (.slice none 0 0) (.int .i64 0)) := HT22.out.keep (HBD.out.block _ HT22.out.lt)
  have HT3D : Hid (Two (w2.alloc (.cells #[.slice a3 rl c3, .int .i64 0] 43)).drew w2.heap.size (.slice a3 rl c3) (.int .i64 0)) := (Two.new w2 w2.heap.size rfl (.slice a3 rl c3) (.int .i64 0) 43).keep rfl
  have HGD : Hid (w.grownBy (w2.alloc (.cells #[.slice a3 rl c3, .int .i64 0] 43)).drew (some pr)) := grow_below' (HB2.out.trans (HBD.out.mono (by omega)))
  have HSZ : Hid (w2.heap.size + 1 = (w2.alloc (.cells #[.slice a3 rl c3, .int .i64 0] 43)).drew.heap.size) := by show _ = _; simp
  clear hb3
  go_wp2_with fail
  go_region_with (go_at_call 59; refine (HP.out _ HSD.out).mono ?_; rintro e w5 ⟨v, rfl, rfl, q1, q2⟩; have T2 := HT2D.out.keep (grow_two q2 HT2D.out.lt (by omega)); have T3 := HT3D.out.keep (grow_two q2 HT3D.out.lt (by omega)); obtain ⟨u0, u1, u2, u3⟩ := id T2; obtain ⟨x0, x1, x2, x3⟩ := id T3; have RR : Hid (RS w5 pr R 0) := q1; have GG : Hid (w.grownBy w5 (some pr)) := grow_trans HGD.out q2; have HT5 : Hid (Two w5 (w.heap.size + 1) (.slice none 0 0) (.int .i64 0)) := T2; have hs5 : w2.heap.size + 1 ≤ w5.heap.size := (Nat.le_trans (Nat.le_of_eq HSZ.out) q2.size); clear q1 T2 T3; clear q2)
  all_goals
    go_wp2
    have T9 := (HT5.out.set0 (.slice a3 rl c3)).set1 (.int .i64 0)
    refine bodyPost_ret (ret_rd Try.results22 _ (w.heap.size + 1) rfl _ T9.c0 T9.c1) rfl ?_
    exact ⟨a3, c3, (by rw [HRL.out] <;> rfl), HR3.out, ((RR.out.set_other (by omega) _).set_other (by omega) _), (grow_setn (grow_setn GG.out (by omega) _) (by omega) _)⟩

set_option maxRecDepth 100000 in
set_option maxHeartbeats 8000000 in
theorem took_text_err (W : WG) (pr : Nat) (a : Option Addr) (n c : Nat) (f : Int) (k : Int) (L : List UInt8) (w : World) (hS : RS w pr L f) (HR : Hid (∀ V, Below w.heap.size w V → Calls Try.prog 58 #[.agg #[.slice a n c, .int .i64 f]] V (DPost W V (.string ⟨#[]⟩) (.err k)))) (HP : Hid (∀ V, RS V pr L f → Calls Try.prog 59 #[.pointer (some ⟨pr, 0, none⟩)] V (WPost V pr (.string ⟨#[]⟩) (.err k)))) :
    Calls Try.prog 22 #[.pointer (some ⟨pr, 0, none⟩), .agg #[.slice a n c, .int .i64 f], .int .i64 3] w (KPost W w pr (.err k)) := by
  have hprl := hS.lt
  have HS : Hid (RS w pr L f) := hS
  have HBV : Hid (Below w.heap.size w ((w.alloc (.cells #[.slice a n c, .int .i64 f] 43)).alloc (.cells #[.slice none 0 0, .int .i64 0] 43))) := ((Below.refl _ _).alloc (Nat.le_refl _) _).alloc (by simp) _
  have HT2 : Hid (Two ((w.alloc (.cells #[.slice a n c, .int .i64 f] 43)).alloc (.cells #[.slice none 0 0, .int .i64 0] 43)) (w.heap.size + 1) (.slice none 0 0) (.int .i64 0)) := Two.new _ _ (by simp) _ _ _
  clear hS
  go_enter Try.func22, Try.ntmps22
  go_wp2_with fail
  refine (HR.out _ HBV.out).mono ?_
  rintro e w2 ⟨a3, n3, c3, rfl, hk, hb3⟩
  have HK : Hid ((k == 0) = false) := hk
  clear hk
  have hw2 : w.heap.size + 2 ≤ w2.heap.size := Nat.le_trans (by simp) hb3.size
  have HB2 : Hid (Below w.heap.size w w2) := HBV.out.trans (hb3.mono HBV.out.size)
  have HT22 : Hid (Two w2 (w.heap.size + 1) (.slice none 0 0) (.int .i64 0)) := HT2.out.keep (hb3.block _ HT2.out.lt)
  have HBD : Hid (Below w2.heap.size w2 (w2.alloc (.cells #[.slice a3 n3 c3, .int .i64 k] 43)).drew) := ((Below.refl _ _).alloc (Nat.le_refl _) _).drew
  have HSD : Hid (RS (w2.alloc (.cells #[.slice a3 n3 c3, .int .i64 k] 43)).drew pr L f) := HS.out.below (HB2.out.trans (HBD.out.mono (by omega)))
  have HT2D : Hid (Two (w2.alloc (.cells #[.slice a3 n3 c3, .int .i64 k] 43)).drew (w.heap.size + 1) (.slice none 0 0) (.int .i64 0)) := HT22.out.keep (HBD.out.block _ HT22.out.lt)
  have HT3D : Hid (Two (w2.alloc (.cells #[.slice a3 n3 c3, .int .i64 k] 43)).drew w2.heap.size (.slice a3 n3 c3) (.int .i64 k)) := (Two.new w2 w2.heap.size rfl (.slice a3 n3 c3) (.int .i64 k) 43).keep rfl
  have HGD : Hid (w.grownBy (w2.alloc (.cells #[.slice a3 n3 c3, .int .i64 k] 43)).drew (some pr)) := grow_below' (HB2.out.trans (HBD.out.mono (by omega)))
  have HSZ : Hid (w2.heap.size + 1 = (w2.alloc (.cells #[.slice a3 n3 c3, .int .i64 k] 43)).drew.heap.size) := by show _ = _; simp
  clear hb3
  go_wp2_with fail
  go_region_with (go_at_call 59; refine (HP.out _ HSD.out).mono ?_; rintro e w5 ⟨rfl, q1, q2⟩; have T2 := HT2D.out.keep (grow_two q2 HT2D.out.lt (by omega)); have T3 := HT3D.out.keep (grow_two q2 HT3D.out.lt (by omega)); obtain ⟨u0, u1, u2, u3⟩ := id T2; obtain ⟨x0, x1, x2, x3⟩ := id T3; have RR : Hid (RS w5 pr [] k) := q1; have GG : Hid (w.grownBy w5 (some pr)) := grow_trans HGD.out q2; have HT5 : Hid (Two w5 (w.heap.size + 1) (.slice none 0 0) (.int .i64 0)) := T2; have hs5 : w2.heap.size + 1 ≤ w5.heap.size := (Nat.le_trans (Nat.le_of_eq HSZ.out) q2.size); clear q1 T2 T3; clear q2)
  all_goals
    go_wp2
    have T9 := (HT5.out.set0 (.slice a3 n3 c3)).set1 (.int .i64 k)
    refine bodyPost_ret (ret_rd Try.results22 _ (w.heap.size + 1) rfl _ T9.c0 T9.c1) rfl ?_
    exact ⟨a3, n3, c3, rfl, HK.out, ((RR.out.set_other (by omega) _).set_other (by omega) _), (grow_setn (grow_setn GG.out (by omega) _) (by omega) _)⟩

set_option maxRecDepth 100000 in
set_option maxHeartbeats 8000000 in
theorem took_ints_ok (W : WG) (pr : Nat) (a : Option Addr) (n c : Nat) (f : Int) (l : List Int) (hll : l.length ≤ 1000000000) (R : List UInt8) (L : List UInt8) (w : World) (hS : RS w pr L f) (HR : Hid (∀ V, Below w.heap.size w V → Calls Try.prog 60 #[.agg #[.slice a n c, .int .i64 f]] V (DPost W V (.slice none 0 0) (.ok (fun v w' => NSB w' V.heap.size v l) R)))) (HP : Hid (∀ V, RS V pr L f → Calls Try.prog 62 #[.pointer (some ⟨pr, 0, none⟩)] V (WPost V pr (.slice none 0 0) (.ok (fun v w' => NSl w' v l) R)))) :
    Calls Try.prog 22 #[.pointer (some ⟨pr, 0, none⟩), .agg #[.slice a n c, .int .i64 f], .int .i64 4] w (KPost W w pr (.ok (fun v w' => NSl w' v l) R)) := by
  have hprl := hS.lt
  have HS : Hid (RS w pr L f) := hS
  have HBV : Hid (Below w.heap.size w ((w.alloc (.cells #[.slice a n c, .int .i64 f] 43)).alloc (.cells #[.slice none 0 0, .int .i64 0] 43))) := ((Below.refl _ _).alloc (Nat.le_refl _) _).alloc (by simp) _
  have HT2 : Hid (Two ((w.alloc (.cells #[.slice a n c, .int .i64 f] 43)).alloc (.cells #[.slice none 0 0, .int .i64 0] 43)) (w.heap.size + 1) (.slice none 0 0) (.int .i64 0)) := Two.new _ _ (by simp) _ _ _
  clear hS
  go_enter Try.func22, Try.ntmps22
  go_wp2_with fail
  refine (HR.out _ HBV.out).mono ?_
  rintro e w2 ⟨a3, c3, vv, rfl, hr3, hnb, hb3⟩
  obtain ⟨hns, hnbb⟩ := hnb
  obtain ⟨ra, rcap, hvv, _⟩ := id hns
  subst hvv
  obtain ⟨rl, hrl⟩ : ∃ rl, R.length = rl := ⟨_, rfl⟩
  have HRL : Hid (R.length = rl) := hrl
  have HR3 : Hid (RG W (.slice a3 R.length c3) R) := hr3
  rw [hrl]
  clear hr3 hrl
  have hw2 : w.heap.size + 2 ≤ w2.heap.size := Nat.le_trans (by simp) hb3.size
  have HB2 : Hid (Below w.heap.size w w2) := HBV.out.trans (hb3.mono HBV.out.size)
  have HT22 : Hid (Two w2 (w.heap.size + 1) (.slice none 0 0) (.int .i64 0)) := HT2.out.keep (hb3.block _ HT2.out.lt)
  have HBD : Hid (Below w2.heap.size w2 (w2.alloc (.cells #[.slice a3 rl c3, .int .i64 0] 43)).drew) := ((Below.refl _ _).alloc (Nat.le_refl _) _).drew
  have HSD : Hid (RS (w2.alloc (.cells #[.slice a3 rl c3, .int .i64 0] 43)).drew pr L f) := HS.out.below (HB2.out.trans (HBD.out.mono (by omega)))
  have HT2D : Hid (Two (w2.alloc (.cells #[.slice a3 rl c3, .int .i64 0] 43)).drew (w.heap.size + 1) (.slice none 0 0) (.int .i64 0)) := HT22.out.keep (HBD.out.block _ HT22.out.lt)
  have HT3D : Hid (Two (w2.alloc (.cells #[.slice a3 rl c3, .int .i64 0] 43)).drew w2.heap.size (.slice a3 rl c3) (.int .i64 0)) := (Two.new w2 w2.heap.size rfl (.slice a3 rl c3) (.int .i64 0) 43).keep rfl
  have HGD : Hid (w.grownBy (w2.alloc (.cells #[.slice a3 rl c3, .int .i64 0] 43)).drew (some pr)) := grow_below' (HB2.out.trans (HBD.out.mono (by omega)))
  have HSZ : Hid (w2.heap.size + 1 = (w2.alloc (.cells #[.slice a3 rl c3, .int .i64 0] 43)).drew.heap.size) := by show _ = _; simp
  have HNS : Hid (∀ w', (w2.alloc (.cells #[.slice a3 rl c3, .int .i64 0] 43)).drew.grownBy w' (some pr) → NSl w' (.slice ra l.length rcap) l) := by
    intro w' hg
    obtain ⟨ad, cap, e1, e2, e3, e4, e5⟩ := hns
    injection e1 with e1 e1b e1c
    subst e1 e1c
    refine ⟨ra, rcap, rfl, e2, e3, e4, fun h0 => ?_⟩
    obtain ⟨b, o, he, hb, hc⟩ := e5 h0
    have hbb := hnbb ⟨b, o, none⟩ l.length rcap (by rw [he])
    have hbb2 : w.heap.size + 2 ≤ b := by simpa using hbb
    have hblk : w'.heap[b]? = w2.heap[b]? := (hg.block b (by rw [← HSZ.out]; omega) (fun e => by injection e with e; omega)).trans (HBD.out.block b hb)
    refine ⟨b, o, he, Nat.lt_of_lt_of_le hb (Nat.le_trans (by rw [← HSZ.out]; omega) hg.size), fun i hi => ?_⟩
    exact (World.cell?_of_block (w := w2) (a := ⟨b, o + i, none⟩) hblk).trans (hc i hi)
  clear hns hnbb
  clear hb3
  go_wp2_with fail
  go_region_with (first | (go_at_call 62; refine (HP.out _ HSD.out).mono ?_; rintro e w5 ⟨v, rfl, hv, q1, q2⟩; obtain ⟨va, vc, hve, _⟩ := id hv; subst hve; have HV : Hid (NSl w5 (.slice va l.length vc) l) := hv; have HVR : Hid (NSl w5 (.slice ra l.length rcap) l) := HNS.out w5 q2; clear hv; have T2 := HT2D.out.keep (grow_two q2 HT2D.out.lt (by omega)); have T3 := HT3D.out.keep (grow_two q2 HT3D.out.lt (by omega)); obtain ⟨u0, u1, u2, u3⟩ := id T2; obtain ⟨x0, x1, x2, x3⟩ := id T3; have RR : Hid (RS w5 pr R 0) := q1; have GG : Hid (w.grownBy w5 (some pr)) := grow_trans HGD.out q2; have HT5 : Hid (Two w5 (w.heap.size + 1) (.slice none 0 0) (.int .i64 0)) := T2; have hs5 : w2.heap.size + 1 ≤ w5.heap.size := (Nat.le_trans (Nat.le_of_eq HSZ.out) q2.size); clear q1 T2 T3; clear q2) | (go_at_call 61; refine (same_true _ _ l w5 hll HV.out HVR.out).mono ?_; rintro e w6 ⟨rfl, q6⟩; have RR6 : Hid (RS w6 pr R 0) := RR.out.below q6; have GG6 : Hid (w.grownBy w6 (some pr)) := grow_trans GG.out (grow_below' q6); have HT6 : Hid (Two w6 (w.heap.size + 1) (.slice none 0 0) (.int .i64 0)) := HT5.out.keep (q6.block _ HT5.out.lt); have T36 : Two w6 w2.heap.size (.slice a3 rl c3) (.int .i64 0) := Two.keep ⟨x0, x1, x2, x3⟩ (q6.block _ (by omega)); obtain ⟨s0, s1, s2, s3⟩ := id HT6.out; obtain ⟨r0, r1, r2, r3⟩ := id T36; have hs6 := Nat.le_trans hs5 q6.size; clear q6 T36))
  all_goals
    go_wp2
    have T9 := (HT6.out.set0 (.slice a3 rl c3)).set1 (.int .i64 0)
    refine bodyPost_ret (ret_rd Try.results22 _ (w.heap.size + 1) rfl _ T9.c0 T9.c1) rfl ?_
    exact ⟨a3, c3, (by rw [HRL.out] <;> rfl), HR3.out, ((RR6.out.set_other (by omega) _).set_other (by omega) _), (grow_setn (grow_setn GG6.out (by omega) _) (by omega) _)⟩

set_option maxRecDepth 100000 in
set_option maxHeartbeats 8000000 in
theorem took_ints_err (W : WG) (pr : Nat) (a : Option Addr) (n c : Nat) (f : Int) (k : Int) (L : List UInt8) (w : World) (hS : RS w pr L f) (HR : Hid (∀ V, Below w.heap.size w V → Calls Try.prog 60 #[.agg #[.slice a n c, .int .i64 f]] V (DPost W V (.slice none 0 0) (.err k)))) (HP : Hid (∀ V, RS V pr L f → Calls Try.prog 62 #[.pointer (some ⟨pr, 0, none⟩)] V (WPost V pr (.slice none 0 0) (.err k)))) :
    Calls Try.prog 22 #[.pointer (some ⟨pr, 0, none⟩), .agg #[.slice a n c, .int .i64 f], .int .i64 4] w (KPost W w pr (.err k)) := by
  have hprl := hS.lt
  have HS : Hid (RS w pr L f) := hS
  have HBV : Hid (Below w.heap.size w ((w.alloc (.cells #[.slice a n c, .int .i64 f] 43)).alloc (.cells #[.slice none 0 0, .int .i64 0] 43))) := ((Below.refl _ _).alloc (Nat.le_refl _) _).alloc (by simp) _
  have HT2 : Hid (Two ((w.alloc (.cells #[.slice a n c, .int .i64 f] 43)).alloc (.cells #[.slice none 0 0, .int .i64 0] 43)) (w.heap.size + 1) (.slice none 0 0) (.int .i64 0)) := Two.new _ _ (by simp) _ _ _
  clear hS
  go_enter Try.func22, Try.ntmps22
  go_wp2_with fail
  refine (HR.out _ HBV.out).mono ?_
  rintro e w2 ⟨a3, n3, c3, rfl, hk, hb3⟩
  have HK : Hid ((k == 0) = false) := hk
  clear hk
  have hw2 : w.heap.size + 2 ≤ w2.heap.size := Nat.le_trans (by simp) hb3.size
  have HB2 : Hid (Below w.heap.size w w2) := HBV.out.trans (hb3.mono HBV.out.size)
  have HT22 : Hid (Two w2 (w.heap.size + 1) (.slice none 0 0) (.int .i64 0)) := HT2.out.keep (hb3.block _ HT2.out.lt)
  have HBD : Hid (Below w2.heap.size w2 (w2.alloc (.cells #[.slice a3 n3 c3, .int .i64 k] 43)).drew) := ((Below.refl _ _).alloc (Nat.le_refl _) _).drew
  have HSD : Hid (RS (w2.alloc (.cells #[.slice a3 n3 c3, .int .i64 k] 43)).drew pr L f) := HS.out.below (HB2.out.trans (HBD.out.mono (by omega)))
  have HT2D : Hid (Two (w2.alloc (.cells #[.slice a3 n3 c3, .int .i64 k] 43)).drew (w.heap.size + 1) (.slice none 0 0) (.int .i64 0)) := HT22.out.keep (HBD.out.block _ HT22.out.lt)
  have HT3D : Hid (Two (w2.alloc (.cells #[.slice a3 n3 c3, .int .i64 k] 43)).drew w2.heap.size (.slice a3 n3 c3) (.int .i64 k)) := (Two.new w2 w2.heap.size rfl (.slice a3 n3 c3) (.int .i64 k) 43).keep rfl
  have HGD : Hid (w.grownBy (w2.alloc (.cells #[.slice a3 n3 c3, .int .i64 k] 43)).drew (some pr)) := grow_below' (HB2.out.trans (HBD.out.mono (by omega)))
  have HSZ : Hid (w2.heap.size + 1 = (w2.alloc (.cells #[.slice a3 n3 c3, .int .i64 k] 43)).drew.heap.size) := by show _ = _; simp
  clear hb3
  go_wp2_with fail
  go_region_with (first | (go_at_call 62; refine (HP.out _ HSD.out).mono ?_; rintro e w5 ⟨rfl, q1, q2⟩; have T2 := HT2D.out.keep (grow_two q2 HT2D.out.lt (by omega)); have T3 := HT3D.out.keep (grow_two q2 HT3D.out.lt (by omega)); obtain ⟨u0, u1, u2, u3⟩ := id T2; obtain ⟨x0, x1, x2, x3⟩ := id T3; have RR : Hid (RS w5 pr [] k) := q1; have GG : Hid (w.grownBy w5 (some pr)) := grow_trans HGD.out q2; have HT5 : Hid (Two w5 (w.heap.size + 1) (.slice none 0 0) (.int .i64 0)) := T2; have hs5 : w2.heap.size + 1 ≤ w5.heap.size := (Nat.le_trans (Nat.le_of_eq HSZ.out) q2.size); clear q1 T2 T3; clear q2) | (go_at_call 61; refine (same_true _ _ [] w5 (by simp) (nsl_nil _) (nsl_nil _)).mono ?_; rintro e w6 ⟨rfl, q6⟩; have RR6 : Hid (RS w6 pr [] k) := RR.out.below q6; have GG6 : Hid (w.grownBy w6 (some pr)) := grow_trans GG.out (grow_below' q6); have HT6 : Hid (Two w6 (w.heap.size + 1) (.slice none 0 0) (.int .i64 0)) := HT5.out.keep (q6.block _ HT5.out.lt); have T36 : Two w6 w2.heap.size (.slice a3 n3 c3) (.int .i64 k) := Two.keep ⟨x0, x1, x2, x3⟩ (q6.block _ (by omega)); obtain ⟨s0, s1, s2, s3⟩ := id HT6.out; obtain ⟨r0, r1, r2, r3⟩ := id T36; have hs6 := Nat.le_trans hs5 q6.size; clear q6 T36))
  all_goals
    go_wp2
    have T9 := (HT6.out.set0 (.slice a3 n3 c3)).set1 (.int .i64 k)
    refine bodyPost_ret (ret_rd Try.results22 _ (w.heap.size + 1) rfl _ T9.c0 T9.c1) rfl ?_
    exact ⟨a3, n3, c3, rfl, HK.out, ((RR6.out.set_other (by omega) _).set_other (by omega) _), (grow_setn (grow_setn GG6.out (by omega) _) (by omega) _)⟩

set_option maxRecDepth 100000 in
set_option maxHeartbeats 8000000 in
theorem took_count_ok (W : WG) (pr : Nat) (a : Option Addr) (n c : Nat) (f : Int) (call : Int) (m : Int) (R : List UInt8) (L : List UInt8) (w : World) (h0 : ¬ call = 0) (h1 : ¬ call = 1) (h2 : ¬ call = 2) (h3 : ¬ call = 3) (h4 : ¬ call = 4) (c5 : Int) (hc5 : IntKind.i64.wrap (call - 5) = c5) (hS : RS w pr L f) (HR : Hid (∀ V, Below w.heap.size w V → Calls Try.prog 63 #[.agg #[.slice a n c, .int .i64 f], .int .i64 c5] V (DPost W V (.int .i64 0) (.ok (fun v _ => v = .int .i64 m) R)))) (HP : Hid (∀ V, RS V pr L f → Calls Try.prog 64 #[.pointer (some ⟨pr, 0, none⟩), .int .i64 c5] V (WPost V pr (.int .i64 0) (.ok (fun v _ => v = .int .i64 m) R)))) :
    Calls Try.prog 22 #[.pointer (some ⟨pr, 0, none⟩), .agg #[.slice a n c, .int .i64 f], .int .i64 call] w (KPost W w pr (.ok (fun v _ => v = .int .i64 m) R)) := by
  have hprl := hS.lt
  have HS : Hid (RS w pr L f) := hS
  have HBV : Hid (Below w.heap.size w ((w.alloc (.cells #[.slice a n c, .int .i64 f] 43)).alloc (.cells #[.slice none 0 0, .int .i64 0] 43))) := ((Below.refl _ _).alloc (Nat.le_refl _) _).alloc (by simp) _
  have HT2 : Hid (Two ((w.alloc (.cells #[.slice a n c, .int .i64 f] 43)).alloc (.cells #[.slice none 0 0, .int .i64 0] 43)) (w.heap.size + 1) (.slice none 0 0) (.int .i64 0)) := Two.new _ _ (by simp) _ _ _
  clear hS
  go_enter Try.func22, Try.ntmps22
  go_wp2_with fail
  refine (HR.out _ HBV.out).mono ?_
  rintro e w2 ⟨a3, c3, vv, rfl, hr3, rfl, hb3⟩
  obtain ⟨rl, hrl⟩ : ∃ rl, R.length = rl := ⟨_, rfl⟩
  have HRL : Hid (R.length = rl) := hrl
  have HR3 : Hid (RG W (.slice a3 R.length c3) R) := hr3
  rw [hrl]
  clear hr3 hrl
  have hw2 : w.heap.size + 2 ≤ w2.heap.size := Nat.le_trans (by simp) hb3.size
  have HB2 : Hid (Below w.heap.size w w2) := HBV.out.trans (hb3.mono HBV.out.size)
  have HT22 : Hid (Two w2 (w.heap.size + 1) (.slice none 0 0) (.int .i64 0)) := HT2.out.keep (hb3.block _ HT2.out.lt)
  have HBD : Hid (Below w2.heap.size w2 (w2.alloc (.cells #[.slice a3 rl c3, .int .i64 0] 43)).drew) := ((Below.refl _ _).alloc (Nat.le_refl _) _).drew
  have HSD : Hid (RS (w2.alloc (.cells #[.slice a3 rl c3, .int .i64 0] 43)).drew pr L f) := HS.out.below (HB2.out.trans (HBD.out.mono (by omega)))
  have HT2D : Hid (Two (w2.alloc (.cells #[.slice a3 rl c3, .int .i64 0] 43)).drew (w.heap.size + 1) (.slice none 0 0) (.int .i64 0)) := HT22.out.keep (HBD.out.block _ HT22.out.lt)
  have HT3D : Hid (Two (w2.alloc (.cells #[.slice a3 rl c3, .int .i64 0] 43)).drew w2.heap.size (.slice a3 rl c3) (.int .i64 0)) := (Two.new w2 w2.heap.size rfl (.slice a3 rl c3) (.int .i64 0) 43).keep rfl
  have HGD : Hid (w.grownBy (w2.alloc (.cells #[.slice a3 rl c3, .int .i64 0] 43)).drew (some pr)) := grow_below' (HB2.out.trans (HBD.out.mono (by omega)))
  have HSZ : Hid (w2.heap.size + 1 = (w2.alloc (.cells #[.slice a3 rl c3, .int .i64 0] 43)).drew.heap.size) := by show _ = _; simp
  clear hb3
  go_wp2_with fail
  go_region_with (go_at_call 64; refine (HP.out _ HSD.out).mono ?_; rintro e w5 ⟨v, rfl, rfl, q1, q2⟩; have T2 := HT2D.out.keep (grow_two q2 HT2D.out.lt (by omega)); have T3 := HT3D.out.keep (grow_two q2 HT3D.out.lt (by omega)); obtain ⟨u0, u1, u2, u3⟩ := id T2; obtain ⟨x0, x1, x2, x3⟩ := id T3; have RR : Hid (RS w5 pr R 0) := q1; have GG : Hid (w.grownBy w5 (some pr)) := grow_trans HGD.out q2; have HT5 : Hid (Two w5 (w.heap.size + 1) (.slice none 0 0) (.int .i64 0)) := T2; have hs5 : w2.heap.size + 1 ≤ w5.heap.size := (Nat.le_trans (Nat.le_of_eq HSZ.out) q2.size); clear q1 T2 T3; clear q2)
  all_goals
    go_wp2
    have T9 := (HT5.out.set0 (.slice a3 rl c3)).set1 (.int .i64 0)
    refine bodyPost_ret (ret_rd Try.results22 _ (w.heap.size + 1) rfl _ T9.c0 T9.c1) rfl ?_
    exact ⟨a3, c3, (by rw [HRL.out] <;> rfl), HR3.out, ((RR.out.set_other (by omega) _).set_other (by omega) _), (grow_setn (grow_setn GG.out (by omega) _) (by omega) _)⟩

set_option maxRecDepth 100000 in
set_option maxHeartbeats 8000000 in
theorem took_count_err (W : WG) (pr : Nat) (a : Option Addr) (n c : Nat) (f : Int) (call : Int) (k : Int) (L : List UInt8) (w : World) (h0 : ¬ call = 0) (h1 : ¬ call = 1) (h2 : ¬ call = 2) (h3 : ¬ call = 3) (h4 : ¬ call = 4) (c5 : Int) (hc5 : IntKind.i64.wrap (call - 5) = c5) (hS : RS w pr L f) (HR : Hid (∀ V, Below w.heap.size w V → Calls Try.prog 63 #[.agg #[.slice a n c, .int .i64 f], .int .i64 c5] V (DPost W V (.int .i64 0) (.err k)))) (HP : Hid (∀ V, RS V pr L f → Calls Try.prog 64 #[.pointer (some ⟨pr, 0, none⟩), .int .i64 c5] V (WPost V pr (.int .i64 0) (.err k)))) :
    Calls Try.prog 22 #[.pointer (some ⟨pr, 0, none⟩), .agg #[.slice a n c, .int .i64 f], .int .i64 call] w (KPost W w pr (.err k)) := by
  have hprl := hS.lt
  have HS : Hid (RS w pr L f) := hS
  have HBV : Hid (Below w.heap.size w ((w.alloc (.cells #[.slice a n c, .int .i64 f] 43)).alloc (.cells #[.slice none 0 0, .int .i64 0] 43))) := ((Below.refl _ _).alloc (Nat.le_refl _) _).alloc (by simp) _
  have HT2 : Hid (Two ((w.alloc (.cells #[.slice a n c, .int .i64 f] 43)).alloc (.cells #[.slice none 0 0, .int .i64 0] 43)) (w.heap.size + 1) (.slice none 0 0) (.int .i64 0)) := Two.new _ _ (by simp) _ _ _
  clear hS
  go_enter Try.func22, Try.ntmps22
  go_wp2_with fail
  refine (HR.out _ HBV.out).mono ?_
  rintro e w2 ⟨a3, n3, c3, rfl, hk, hb3⟩
  have HK : Hid ((k == 0) = false) := hk
  clear hk
  have hw2 : w.heap.size + 2 ≤ w2.heap.size := Nat.le_trans (by simp) hb3.size
  have HB2 : Hid (Below w.heap.size w w2) := HBV.out.trans (hb3.mono HBV.out.size)
  have HT22 : Hid (Two w2 (w.heap.size + 1) (.slice none 0 0) (.int .i64 0)) := HT2.out.keep (hb3.block _ HT2.out.lt)
  have HBD : Hid (Below w2.heap.size w2 (w2.alloc (.cells #[.slice a3 n3 c3, .int .i64 k] 43)).drew) := ((Below.refl _ _).alloc (Nat.le_refl _) _).drew
  have HSD : Hid (RS (w2.alloc (.cells #[.slice a3 n3 c3, .int .i64 k] 43)).drew pr L f) := HS.out.below (HB2.out.trans (HBD.out.mono (by omega)))
  have HT2D : Hid (Two (w2.alloc (.cells #[.slice a3 n3 c3, .int .i64 k] 43)).drew (w.heap.size + 1) (.slice none 0 0) (.int .i64 0)) := HT22.out.keep (HBD.out.block _ HT22.out.lt)
  have HT3D : Hid (Two (w2.alloc (.cells #[.slice a3 n3 c3, .int .i64 k] 43)).drew w2.heap.size (.slice a3 n3 c3) (.int .i64 k)) := (Two.new w2 w2.heap.size rfl (.slice a3 n3 c3) (.int .i64 k) 43).keep rfl
  have HGD : Hid (w.grownBy (w2.alloc (.cells #[.slice a3 n3 c3, .int .i64 k] 43)).drew (some pr)) := grow_below' (HB2.out.trans (HBD.out.mono (by omega)))
  have HSZ : Hid (w2.heap.size + 1 = (w2.alloc (.cells #[.slice a3 n3 c3, .int .i64 k] 43)).drew.heap.size) := by show _ = _; simp
  clear hb3
  go_wp2_with fail
  go_region_with (go_at_call 64; refine (HP.out _ HSD.out).mono ?_; rintro e w5 ⟨rfl, q1, q2⟩; have T2 := HT2D.out.keep (grow_two q2 HT2D.out.lt (by omega)); have T3 := HT3D.out.keep (grow_two q2 HT3D.out.lt (by omega)); obtain ⟨u0, u1, u2, u3⟩ := id T2; obtain ⟨x0, x1, x2, x3⟩ := id T3; have RR : Hid (RS w5 pr [] k) := q1; have GG : Hid (w.grownBy w5 (some pr)) := grow_trans HGD.out q2; have HT5 : Hid (Two w5 (w.heap.size + 1) (.slice none 0 0) (.int .i64 0)) := T2; have hs5 : w2.heap.size + 1 ≤ w5.heap.size := (Nat.le_trans (Nat.le_of_eq HSZ.out) q2.size); clear q1 T2 T3; clear q2)
  all_goals
    go_wp2
    have T9 := (HT5.out.set0 (.slice a3 n3 c3)).set1 (.int .i64 k)
    refine bodyPost_ret (ret_rd Try.results22 _ (w.heap.size + 1) rfl _ T9.c0 T9.c1) rfl ?_
    exact ⟨a3, n3, c3, rfl, HK.out, ((RR.out.set_other (by omega) _).set_other (by omega) _), (grow_setn (grow_setn GG.out (by omega) _) (by omega) _)⟩

end Go.Proofs.Ytjdcoiekbnefkab
