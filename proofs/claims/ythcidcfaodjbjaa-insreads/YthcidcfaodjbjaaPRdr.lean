/- A reader's state, and what it takes up byte by byte. -/
import Derived.Test.YthcidcfaodjbjaaPBytes
import Derived.Test.YthcidcfaodjbjaaPBlock
import Derived.Tactics
import Derived.Tactics2
import Derived.Defers
import Derived.Recover
import Derived.Laws.Pointers
namespace Go.Proofs.Ythcidcfaodjbjaa
open Go.RowKit
set_option linter.unusedVariables false

/-- the slice v reads as the bytes L, in a block ahead of pb -/
def RdO (w : World) (pb : Nat) (v : Value) (L : List UInt8) : Prop :=
  (v = .slice none 0 0 ∧ L = []) ∨ ∃ g off cap, v = .slice (some ⟨g, off, none⟩) L.length cap ∧ L.length ≤ cap ∧ cap ≤ maxLen ∧ g < w.heap.size ∧ g < pb ∧ ∀ i (h : i < L.length), w.cell? ⟨g, off + i, none⟩ = some (.int .u8 (L[i].toNat : Int))
/-- a reader's state: what is left, and the error -/
def RS (w : World) (pb : Nat) (L : List UInt8) (f : Int) : Prop :=
  ∃ v, w.cell? ⟨pb, 0, none⟩ = some v ∧ w.cell? ⟨pb, 1, none⟩ = some (.int .i64 f) ∧ w.frozen? ⟨pb, 0, none⟩ = false ∧ w.frozen? ⟨pb, 1, none⟩ = false ∧ pb < w.heap.size ∧ RdO w pb v L

set_option maxRecDepth 100000 in
theorem RdO.set {w : World} {pb : Nat} {v : Value} {L : List UInt8} (h : RdO w pb v L) (p : Nat) (u : Value) : RdO (w.setCell ⟨pb, p, none⟩ u) pb v L := by
  rcases h with h | ⟨g, off, cap, h1, h2, h3, h4, h5, h6⟩
  · exact Or.inl h
  · refine Or.inr ⟨g, off, cap, h1, h2, h3, by simpa [World.setCell] using h4, h5, fun i hi => ?_⟩
    rw [World.cell?_setCell_other w _ _ _ (by intro e; cases e; exact Nat.lt_irrefl _ h5)]
    exact h6 i hi
set_option maxRecDepth 100000 in
theorem RdO.below {w w' : World} {pb : Nat} {v : Value} {L : List UInt8} (h : RdO w pb v L) (hb : Below w.heap.size w w') : RdO w' pb v L := by
  rcases h with h | ⟨g, off, cap, h1, h2, h3, h4, h5, h6⟩
  · exact Or.inl h
  · refine Or.inr ⟨g, off, cap, h1, h2, h3, Nat.lt_of_lt_of_le h4 hb.size, h5, fun i hi => ?_⟩
    exact (hb.cell (p := ⟨g, off + i, none⟩) h4).trans (h6 i hi)
set_option maxRecDepth 100000 in
theorem RS.below {w w' : World} {pb : Nat} {L : List UInt8} {f : Int} (h : RS w pb L f) (hb : Below w.heap.size w w') : RS w' pb L f := by
  obtain ⟨v, h1, h2, h3, h4, h5, h6⟩ := h
  exact ⟨v, (hb.cell (p := ⟨pb, 0, none⟩) h5).trans h1, (hb.cell (p := ⟨pb, 1, none⟩) h5).trans h2, (hb.frozen (p := ⟨pb, 0, none⟩) h5).trans h3, (hb.frozen (p := ⟨pb, 1, none⟩) h5).trans h4, Nat.lt_of_lt_of_le h5 hb.size, h6.below hb⟩

set_option maxRecDepth 100000 in
/-- what is written from block B on turns no reader ahead of it -/
theorem RS.belowAt {w w' : World} {pb B : Nat} {L : List UInt8} {f : Int} (h : RS w pb L f) (hB : pb < B) (hb : Below B w w') : RS w' pb L f := by
  obtain ⟨v, h1, h2, h3, h4, h5, h6⟩ := h
  refine ⟨v, (hb.cell (p := ⟨pb, 0, none⟩) hB).trans h1, (hb.cell (p := ⟨pb, 1, none⟩) hB).trans h2, (hb.frozen (p := ⟨pb, 0, none⟩) hB).trans h3, (hb.frozen (p := ⟨pb, 1, none⟩) hB).trans h4, Nat.lt_of_lt_of_le h5 hb.size, ?_⟩
  rcases h6 with h | ⟨g, off, cap, k1, k2, k3, k4, k5, k6⟩
  · exact Or.inl h
  · exact Or.inr ⟨g, off, cap, k1, k2, k3, Nat.lt_of_lt_of_le k4 hb.size, k5, fun i hi => (hb.cell (p := ⟨g, off + i, none⟩) (show g < B by omega)).trans (k6 i hi)⟩
set_option maxRecDepth 100000 in
/-- a writer stands while another block is written -/
theorem WS.other {w w' : World} {pb pr : Nat} {L : List UInt8} (h : WS w pb L) (hk : ∀ k, k < w.heap.size → k ≠ pr → w'.heap[k]? = w.heap[k]?) (hs : w.heap.size ≤ w'.heap.size) (hne : pr < pb) : WS w' pb L := by
  obtain ⟨v, h1, h2, h3, h4⟩ := h
  have hb := hk pb h4 (by omega)
  refine ⟨v, (World.cell?_of_block (w := w) (a := ⟨pb, 0, none⟩) hb).trans h1, (World.frozen?_of_block (w := w) (a := ⟨pb, 0, none⟩) hb).trans h2, ?_, Nat.lt_of_lt_of_le h4 hs⟩
  obtain ⟨o1, o2⟩ := h3
  refine ⟨o1, ?_⟩
  rcases o2 with o2 | ⟨g, cap, cur, e1, e2, e3, e4⟩
  · exact Or.inl o2
  · refine Or.inr ⟨g, cap, cur, e1, e2, ?_, e4⟩
    have hg : g < w.heap.size := by
      rcases Nat.lt_or_ge g w.heap.size with h | h
      · exact h
      · rw [Array.getElem?_eq_none h] at e3; cases e3
    rw [hk g hg (by omega)]; exact e3

def gaveUp (n : Int) : Ending := .panicked [{ v := .iface 26 (.int .i64 n), recovered := false }]

set_option maxRecDepth 100000 in
set_option maxHeartbeats 400000 in
theorem giveUp_any (n : Int) (w : World) : Calls Try.prog 81 #[.int .i64 n] w fun e w' => e = gaveUp n ∧ w' = w := by
  go_enter Try.func81, Try.ntmps81
  go_wp2
  exact ⟨rfl, rfl, rfl⟩

set_option maxRecDepth 100000 in
set_option maxHeartbeats 1000000 in
theorem part_none (pb : Nat) (f : Int) (w : World) (h : RS w pb [] f) :
    Calls Try.prog 96 #[.pointer (some ⟨pb, 0, none⟩), .int .i64 1] w fun e w' => e = gaveUp 20 ∧ w' = w := by
  obtain ⟨v, h1, h2, h3, h4, h5, h6⟩ := h
  have H6 : Hid (RdO w pb v []) := h6
  obtain ⟨a, c, rfl⟩ : ∃ a c, v = .slice a 0 c := by
    rcases h6 with ⟨rfl, _⟩ | ⟨g, off, cap, rfl, _⟩
    · exact ⟨_, _, rfl⟩
    · exact ⟨_, _, rfl⟩
  clear h6
  go_enter Try.func96, Try.ntmps96
  go_wp2_with fail
  refine (giveUp_any 20 w).mono ?_
  rintro e w' ⟨rfl, rfl⟩
  exact ⟨rfl, rfl, rfl⟩

/-- one byte is taken -/
def PartPost (w : World) (pb : Nat) (c : UInt8) (R : List UInt8) (f : Int) (e : Ending) (w' : World) : Prop :=
  ∃ g off, e = .returned (.slice (some ⟨g, off, none⟩) 1 1) ∧ w'.cell? ⟨g, off, none⟩ = some (.int .u8 (c.toNat : Int)) ∧ RS w' pb R f ∧ Only w w' pb

set_option maxRecDepth 100000 in
set_option maxHeartbeats 2000000 in
theorem part_one (pb : Nat) (c : UInt8) (R : List UInt8) (f : Int) (w : World) (h : RS w pb (c :: R) f) :
    Calls Try.prog 96 #[.pointer (some ⟨pb, 0, none⟩), .int .i64 1] w fun e w' => PartPost w pb c R f e w' := by
  obtain ⟨v, h1, h2, h3, h4, h5, h6⟩ := h
  rcases h6 with ⟨_, h7⟩ | ⟨g, off, cap, rfl, k1, k2, k3, k4, k5⟩
  · cases h7
  · obtain ⟨n, hn⟩ : ∃ n, (c :: R).length = n := ⟨_, rfl⟩
    rw [hn] at k1 h1
    have hn1 : 1 ≤ n := by rw [← hn]; simp
    have hR : R.length = n - 1 := by rw [← hn]; simp
    have HC : Hid (∀ i (h : i < (c :: R).length), w.cell? ⟨g, off + i, none⟩ = some (.int .u8 ((c :: R)[i].toNat : Int))) := k5
    have HK : Hid (cap ≤ maxLen) := k2
    have HH : Hid (w.cell? ⟨pb, 1, none⟩ = some (.int .i64 f)) := h2
    unfold maxLen at k2
    have c0 : w.cell? ⟨g, off, none⟩ = some (.int .u8 (c.toNat : Int)) := HC.out 0 (by simp)
    have key : ∀ u, RdO w pb u R → PartPost w pb c R f (.returned (.slice (some ⟨g, off, none⟩) 1 1)) (w.setCell ⟨pb, 0, none⟩ u) := by
      intro u hu
      refine ⟨g, off, rfl, ?_, ⟨u, World.cell?_setCell_same w _ _ h1, ?_, by simpa using h3, by simpa using h4, by simpa [World.setCell] using h5, hu.set 0 u⟩, (Only.refl w pb).set 0 u⟩
      · rw [World.cell?_setCell_other w _ _ _ (by intro e; cases e; exact Nat.lt_irrefl _ k4)]; exact c0
      · rw [World.cell?_setCell_other w _ _ _ (by intro e; cases e)]; exact HH.out
    have HKEY : Hid (∀ u, RdO w pb u R → PartPost w pb c R f (.returned (.slice (some ⟨g, off, none⟩) 1 1)) (w.setCell ⟨pb, 0, none⟩ u)) := key
    clear k5 h2 c0 key hn
    by_cases hcap : cap = 1
    · subst hcap
      obtain rfl : n = 1 := by omega
      have HU : Hid (RdO w pb (.slice (some ⟨g, off, none⟩) 0 0) R) := Or.inr ⟨g, off, 0, by rw [hR], by omega, by unfold maxLen; omega, k3, k4, fun i hi => by omega⟩
      clear k3 k4
      go_enter Try.func96, Try.ntmps96
      go_wp2
      go_ret
      exact HKEY.out _ HU.out
    · have HU : Hid (RdO w pb (.slice (some ⟨g, off + 1, none⟩) (n - 1) (cap - 1)) R) := Or.inr ⟨g, off + 1, cap - 1, by rw [hR], by omega, by have := HK.out; omega, k3, k4, fun i hi => by
        have := HC.out (i + 1) (by simp; omega)
        rw [show off + 1 + i = off + (i + 1) by omega, this]; rfl⟩
      clear k3 k4
      go_enter Try.func96, Try.ntmps96
      go_wp2
      go_ret
      exact HKEY.out _ HU.out

/-- what taking a number comes to: the number and what is left, or the error -/
inductive Took where
  | ok (n : Nat) (R : List UInt8)
  | err (k : Int)
def tk : Nat → Nat → List UInt8 → Took
  | _, _, [] => .err 20
  | i, n, c :: R => if (i = 9 ∧ 1 < c.toNat) ∨ (0 < i ∧ c.toNat = 0) then .err 21 else if c.toNat < 128 then .ok (n + c.toNat % 128 * 128 ^ i) R else tk (i + 1) (n + c.toNat % 128 * 128 ^ i) R
def TakePost (w : World) (pb : Nat) (f : Int) : Took → Ending → World → Prop
  | .ok n R, e, w' => e = .returned (.int .u64 (n : Int)) ∧ RS w' pb R f ∧ Only w w' pb
  | .err k, e, w' => e = gaveUp k ∧ (∃ R, RS w' pb R f) ∧ Only w w' pb

set_option maxRecDepth 100000 in
theorem Only.cell {w w' : World} {g : Nat} (h : Only w w' g) {p : Addr} (hp : p.block ≠ g) (hs : p.block < w.heap.size) : w'.cell? p = w.cell? p :=
  World.cell?_of_block (h.1.block p.block hs (fun e => hp (by cases e; rfl)))

set_option maxRecDepth 100000 in
theorem tk_or (n i : Nat) (c : UInt8) (hi : i ≤ 9) (h9 : i = 9 → c.toNat ≤ 1) (hn : n < 128 ^ i) :
    bits .or .u64 (n : Int) (IntKind.u64.wrap (((c.toNat : Int) % 128) * 2 ^ (7 * i))) = ((n + c.toNat % 128 * 128 ^ i : Nat) : Int) ∧ n + c.toNat % 128 * 128 ^ i < 18446744073709551616 := by
  have hc := c.toNat_lt
  have e : (128 : Nat) ^ i = 2 ^ (7 * i) := by rw [Nat.pow_mul]
  have hb : c.toNat % 128 * 128 ^ i + 128 ^ i ≤ 18446744073709551616 := by
    by_cases h : i = 9
    · subst h; have := h9 rfl; omega
    · have h1 : 128 ^ (i + 1) ≤ 128 ^ 9 := Nat.pow_le_pow_right (by omega) (by omega)
      rw [Nat.pow_succ] at h1
      have h2 : c.toNat % 128 * 128 ^ i ≤ 127 * 128 ^ i := Nat.mul_le_mul_right _ (by omega)
      omega
  have e3 : ((c.toNat : Int) % 128) * 2 ^ (7 * i) = ((c.toNat % 128 * 128 ^ i : Nat) : Int) := by rw [e]; simp
  refine ⟨?_, by omega⟩
  rw [e3, IntKind.wrap_u64, show ((c.toNat % 128 * 128 ^ i : Nat) : Int) % 18446744073709551616 = ((c.toNat % 128 * 128 ^ i : Nat) : Int) by omega]
  rw [u64_or_nat n (c.toNat % 128 * 128 ^ i) (by omega) (by omega), Nat.or_comm, nat_join (7 * i) (c.toNat % 128 * 128 ^ i) n (by rw [e]; exact Nat.mul_mod_left _ _) (by rw [← e]; exact hn)]
  rw [Nat.add_comm]

set_option maxRecDepth 100000 in
set_option maxHeartbeats 4000000 in
theorem take_any (pb : Nat) (f : Int) (L : List UInt8) (w : World) (h : RS w pb L f) :
    Calls Try.prog 80 #[.pointer (some ⟨pb, 0, none⟩)] w fun e w' => TakePost w pb f (tk 0 0 L) e w' := by
  obtain ⟨r, hr⟩ : ∃ r, tk 0 0 L = r := ⟨_, rfl⟩
  rw [hr]
  have HR : Hid (tk 0 0 L = r) := hr
  have HS : Hid (RS w pb L f) := h
  clear hr h
  go_enter Try.func80, Try.ntmps80
  go_wp2
  go_loopw [3, 4] (fun s t wr => ∃ (i n : Nat) (M : List UInt8), s = .int .u64 (n : Int) ∧ t = .int .i64 (i : Int) ∧ i ≤ 9 ∧ n ≤ 18446744073709551615 ∧ Hid (n < 128 ^ i) ∧ Hid (tk i n M = r) ∧ Hid (RS wr pb M f) ∧ Hid (Only w wr pb)) (fun _ t _ => 9 - (intOf t).toNat)
  case atStart => exact ⟨0, 0, L, rfl, rfl, by omega, by omega, by show _ < _; omega, HR, HS, Only.refl _ _⟩
  case round =>
    obtain ⟨i, n, M, rfl, rfl, hi, hn, HN, HT, HM, HB⟩ := hrel
    cases M with
    | nil =>
      have HE : Hid (r = .err 20) := HT.out.symm
      go_wp2_with fail
      refine (part_none pb f _ HM.out).mono ?_
      rintro e w' ⟨rfl, rfl⟩
      refine ⟨rfl, ?_⟩
      rw [HE.out]
      exact ⟨rfl, ⟨_, HM.out⟩, HB.out⟩
    | cons c R =>
      go_wp2_with fail
      refine (part_one pb c R f _ HM.out).mono ?_
      rintro e w2 ⟨g, off, rfl, hce, hrs, hbe⟩
      have HRS : Hid (RS w2 pb R f) := hrs
      have HB2 : Hid (Only w w2 pb) := HB.out.trans hbe
      have hc255 := c.toNat_lt
      clear hrs hbe
      by_cases hbad : (i = 9 ∧ 1 < c.toNat) ∨ (0 < i ∧ c.toNat = 0)
      · have HE : Hid (r = .err 21) := by show _ = _; rw [← HT.out]; unfold tk; rw [if_pos hbad]
        rcases hbad with ⟨rfl, hb2⟩ | ⟨hb1, hb2⟩
        · go_wp2_with fail
          refine (giveUp_any 21 _).mono ?_
          rintro e w' ⟨rfl, rfl⟩
          refine ⟨rfl, ?_⟩
          rw [HE.out]
          exact ⟨rfl, ⟨_, HRS.out⟩, HB2.out⟩
        · rw [hb2] at hce
          by_cases h9 : i = 9
          · subst h9
            go_wp2_with fail
            refine (giveUp_any 21 _).mono ?_
            rintro e w' ⟨rfl, rfl⟩
            refine ⟨rfl, ?_⟩
            rw [HE.out]
            exact ⟨rfl, ⟨_, HRS.out⟩, HB2.out⟩
          · go_wp2_with fail
            refine (giveUp_any 21 _).mono ?_
            rintro e w' ⟨rfl, rfl⟩
            refine ⟨rfl, ?_⟩
            rw [HE.out]
            exact ⟨rfl, ⟨_, HRS.out⟩, HB2.out⟩
      · have hb9 : i = 9 → c.toNat ≤ 1 := fun h => Classical.byContradiction fun h2 => hbad (Or.inl ⟨h, by omega⟩)
        have hb0 : 0 < i → 0 < c.toNat := fun h => Classical.byContradiction fun h2 => hbad (Or.inr ⟨h, by omega⟩)
        obtain ⟨hor, hlt⟩ := tk_or n i c hi hb9 HN.out
        obtain ⟨m, hm⟩ : ∃ m, n + c.toNat % 128 * 128 ^ i = m := ⟨_, rfl⟩
        rw [hm] at hor hlt
        by_cases hlast : c.toNat < 128
        · have HE : Hid (r = .ok m R) := by show _ = _; rw [← HT.out]; unfold tk; rw [if_neg hbad, if_pos hlast, hm]
          by_cases h9 : i = 9
          · subst h9
            have hc1 : c.toNat = 1 := by have := hb9 rfl; have := hb0 (by omega); omega
            have hor2 : bits .or .u64 (n : Int) 9223372036854775808 = (m : Int) := by
              rw [← hor, hc1]
              rw [show IntKind.u64.wrap (((1 : Nat) : Int) % 128 * 2 ^ (7 * 9)) = 9223372036854775808 by rw [IntKind.wrap_u64]; decide]
            rw [hc1] at hce
            have HX : Hid (bits .or .u64 (n : Int) 9223372036854775808 = (m : Int)) := hor2
            clear hm hbad hb9 hb0 hor hor2 hc1 hlast hc255
            go_wp2
            go_ret
            rw [HE.out]
            exact ⟨by rw [HX.out]; rfl, HRS.out, HB2.out⟩
          · by_cases h0 : i = 0
            · subst h0
              have HX : Hid (bits .or .u64 (n : Int) ((c.toNat : Int) % 128) = (m : Int)) := by
                show _ = _
                rw [← hor, IntKind.wrap_u64]
                congr 1
                omega
              clear hm hbad hb9 hb0 hor
              go_wp2
              go_ret
              rw [HE.out]
              exact ⟨by rw [HX.out]; rfl, HRS.out, HB2.out⟩
            · have := hb0 (by omega)
              clear hm hbad hb9 hb0
              go_wp2
              go_ret
              rw [HE.out]
              exact ⟨rfl, HRS.out, HB2.out⟩
        · have h9 : ¬ i = 9 := fun h => by have := hb9 h; omega
          have HE : Hid (tk (i + 1) m R = r) := by show _ = _; rw [← HT.out]; conv => rhs; unfold tk
                                                   rw [if_neg hbad, if_neg hlast, hm]
          have HN2 : Hid (m < 128 ^ (i + 1)) := by
            show _ < _
            rw [← hm, Nat.pow_succ]
            have := HN.out
            have h2 : c.toNat % 128 * 128 ^ i ≤ 127 * 128 ^ i := Nat.mul_le_mul_right _ (by omega)
            omega
          by_cases h0 : i = 0
          · subst h0
            have HX : Hid (bits .or .u64 (n : Int) ((c.toNat : Int) % 128) = (m : Int)) := by
              show _ = _
              rw [← hor, IntKind.wrap_u64]
              congr 1
              omega
            clear hm hbad hb9 hb0 hor
            go_wp2
            go_roundw
            case rel => exact ⟨1, m, R, by rw [HX.out], by go_num, by omega, by omega, HN2, HE, HRS, HB2⟩
            case measure => simp [intOf]
          · have := hb0 (by omega)
            clear hm hbad hb9 hb0
            go_wp2
            go_roundw
            case rel => exact ⟨i + 1, m, R, rfl, by go_num, by omega, by omega, HN2, HE, HRS, HB2⟩
            case measure => simp [intOf]; omega

set_option maxRecDepth 100000 in
/-- a number that is taken up has no other bytes -/
theorem tk_bytes : ∀ (L : List UInt8) (i n m : Nat) (R : List UInt8), i ≤ 9 → n < 128 ^ i → tk i n L = .ok m R →
    m < 18446744073709551616 ∧ ∃ q, m = n + 128 ^ i * q ∧ L = uintF (9 - i) q ++ R ∧ (0 < i → 0 < q)
  | [], i, n, m, R, _, _, h => by unfold tk at h; cases h
  | c :: R', i, n, m, R, hi, hn, h => by
    have hc := c.toNat_lt
    unfold tk at h
    by_cases hbad : (i = 9 ∧ 1 < c.toNat) ∨ (0 < i ∧ c.toNat = 0)
    · rw [if_pos hbad] at h; cases h
    · rw [if_neg hbad] at h
      have hb9 : i = 9 → c.toNat ≤ 1 := fun h => Classical.byContradiction fun h2 => hbad (Or.inl ⟨h, by omega⟩)
      have hb0 : 0 < i → 0 < c.toNat := fun h => Classical.byContradiction fun h2 => hbad (Or.inr ⟨h, by omega⟩)
      have hlt := (tk_or n i c hi hb9 hn).2
      by_cases hlast : c.toNat < 128
      · rw [if_pos hlast] at h
        injection h with e1 e2
        subst e1
        subst e2
        refine ⟨hlt, c.toNat, by rw [Nat.mod_eq_of_lt hlast, Nat.mul_comm], ?_, hb0⟩
        rw [uintF_low _ _ hlast]
        simp
      · rw [if_neg hlast] at h
        have h9 : ¬ i = 9 := fun h => by have := hb9 h; omega
        have hn2 : n + c.toNat % 128 * 128 ^ i < 128 ^ (i + 1) := by
          rw [Nat.pow_succ]
          have h2 : c.toNat % 128 * 128 ^ i ≤ 127 * 128 ^ i := Nat.mul_le_mul_right _ (by omega)
          omega
        obtain ⟨k1, q, k2, k3, k4⟩ := tk_bytes R' (i + 1) _ m R (by omega) hn2 h
        have hq := k4 (by omega)
        refine ⟨k1, c.toNat % 128 + 128 * q, ?_, ?_, fun _ => by omega⟩
        · rw [k2, Nat.pow_succ, Nat.mul_add, Nat.mul_comm (128 ^ i) (c.toNat % 128), Nat.mul_assoc, Nat.add_assoc]
        · have e : 9 - i = (9 - (i + 1)) + 1 := by omega
          have e1 : (c.toNat % 128 + 128 * q) % 128 = c.toNat % 128 := by omega
          have e2 : (c.toNat % 128 + 128 * q) / 128 = q := by omega
          have e3 : UInt8.ofNat (c.toNat % 128 + 128) = c := by
            apply UInt8.toNat_inj.1
            simp [UInt8.toNat_ofNat']
            omega
          rw [e, uintF_high _ _ (by omega), e1, e2, e3, k3]
          rfl
set_option maxRecDepth 100000 in
theorem tk_back (L : List UInt8) (m : Nat) (R : List UInt8) (h : tk 0 0 L = .ok m R) : m ≤ 18446744073709551615 ∧ L = uintB m ++ R := by
  obtain ⟨k1, q, k2, k3, _⟩ := tk_bytes L 0 0 m R (by omega) (by omega) h
  have : m = q := by simpa using k2
  subst this
  exact ⟨by omega, k3⟩
end Go.Proofs.Ythcidcfaodjbjaa
