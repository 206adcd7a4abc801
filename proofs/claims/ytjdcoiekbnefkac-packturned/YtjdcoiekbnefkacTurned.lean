/- PackTurned: for any body of at most 4,096 bytes (a longer one isn't asked), its seal is opened to it, and with any one byte turned it isn't opened; it has no conditions. -/
import Derived.Test.YtjdcoiekbnefkacRows
import Derived.Test.YtjdcoiekbnefkacTurnP
import Derived.WalkKit
import Derived.ProofKit
import Derived.OpenShut
import Derived.ShutString
import Derived.ChangeOld
import Derived.Below
namespace Go.Proofs.Ytjdcoiekbnefkac.packTurned
open Go.ChangeShapes Go.WideShapes Go.ChangeAt Go.RowKit
open Go.ChangeMaps (open_string shut_string)
set_option linter.unusedVariables false

theorem own : ownKnob Try.prog.godebug = none := by kernel_rfl
theorem laidOut : laidOutB Try.prog = true := by kernel_rfl

/-- WHAT THE WALK IS TOLD OF A SLICE OF INTEGERS THAT CAME IN: it is nil; or it leads to a row of 'cap' cells, the numbers 'zs' (the first 'len' are its elements, the rest its spare room), each fitting its kind. -/
def IsRow (k : IntKind) (w : World) (a : Option Addr) (len cap : Nat) (zs : List Int) : Prop :=
  (a = none ∧ len = 0 ∧ cap = 0 ∧ zs = []) ∨
  ∃ x, a = some x ∧ len ≤ cap ∧ cap ≤ maxLen ∧ zs.length = cap ∧ (∀ i, i < zs.length → w.cell? (x.add i) = some (.int k (zs.getD i 0))) ∧ ∀ n ∈ zs, (Lit.int k n).wf = true


/-- the slice v reads as the bytes L, wherever it lies -/
def RdA (w : World) (a : Option Addr) (n cap : Nat) (L : List UInt8) : Prop :=
  L.length = n ∧ (a = none ∧ n = 0 ∧ cap = 0 ∨ ∃ x, a = some x ∧ ∀ j (h : j < L.length), w.cell? (x.add j) = some (.int .u8 (L[j].toNat : Int)))

theorem cell_lt {w : World} {a : Addr} {v : Value} (h : w.cell? a = some v) : a.block < w.heap.size := by
  rcases Nat.lt_or_ge a.block w.heap.size with h1 | h1
  · exact h1
  · exfalso; simp [World.cell?, Array.getElem?_eq_none h1] at h

theorem RdA.str {w w' : World} {a : Option Addr} {n cap : Nat} {L : List UInt8} (h : RdA w a n cap L) (hb : Below w.heap.size w w') : (convert 26 9 (.slice a n cap)).run Try.prog w' = .ok (.string ⟨L.toArray⟩) w' := by
  obtain ⟨rfl, h2⟩ := h
  rcases h2 with ⟨rfl, h3, rfl⟩ | ⟨x, rfl, h4⟩
  · have : L = [] := List.eq_nil_of_length_eq_zero h3
    subst this
    exact run_convert_bytes_nil w' 26 5 (by kernel_rfl) (by kernel_rfl) 0 0 9 (by kernel_rfl)
  · refine run_convert_bytes_back w' 26 9 5 x cap L (by kernel_rfl) (by kernel_rfl) (by kernel_rfl) (fun j hj => ?_)
    have h5 := h4 j hj
    rw [hb.cell (p := x.add j) (cell_lt h5)]
    exact h5

theorem row_bytes {w : World} {a : Option Addr} {n cap : Nat} {zs : List Int} (h : IsRow .u8 w a n cap zs) : n ≤ maxLen ∧ ∃ L, RdA w a n cap L := by
  rcases h with ⟨rfl, rfl, rfl, rfl⟩ | ⟨x, rfl, h1, h2, h3, h4, h5⟩
  · exact ⟨by unfold maxLen; omega, [], rfl, Or.inl ⟨rfl, rfl, rfl⟩⟩
  · refine ⟨by omega, (zs.take n).map fun z => UInt8.ofNat z.toNat, by simp; omega, Or.inr ⟨x, rfl, fun j hj => ?_⟩⟩
    have hj' : j < zs.length := by simp at hj; omega
    rw [h4 j hj']
    have hz := h5 zs[j] (List.getElem_mem hj')
    have hb := bounds_u8 hz
    have e : zs.getD j 0 = zs[j] := by simp [List.getD, List.getElem?_eq_getElem hj']
    rw [e]
    simp
    omega

set_option maxRecDepth 100000 in
set_option maxHeartbeats 400000 in
theorem walk_long (a : Option Addr) (n cap : Nat) (a1 a2 : Int) (w : World) (hn : 4096 < n) (hm : n ≤ maxLen) :
    Calls Try.prog 6 #[.slice a n cap, .int .i64 a1, .int .u8 a2] w fun e w' => e = .returned (.bool true) ∧ Below w.heap.size w w' := by
  unfold maxLen at hm
  go_enter Try.func6, Try.ntmps6
  go_wp2
  go_ret
  exact ⟨rfl, Below.refl _ _⟩

set_option maxRecDepth 100000 in
set_option maxHeartbeats 4000000 in
theorem walk_main (x : Addr) (n cap : Nat) (L : List UInt8) (a1 a2 : Int) (w : World) (hn : n ≤ 4096) (hL : Hid (L.length = n)) (hA2 : 0 ≤ a2 ∧ a2 ≤ 255) (hc : Hid (∀ j (h : j < L.length), w.cell? (x.add j) = some (.int .u8 (L[j].toNat : Int)))) :
    Calls Try.prog 6 #[.slice (some x) n cap, .int .i64 a1, .int .u8 a2] w fun e w' => e = .returned (.bool true) ∧ Below w.heap.size w w' := by
  obtain ⟨i0, hi, hz0, hz1, hz2⟩ := info_parts info5
  have RA : Hid (RdA w (some x) n cap L) := ⟨hL.out, Or.inr ⟨x, rfl, hc.out⟩⟩
  go_enter Try.func6, Try.ntmps6
  go_wp2_with (at_builtin; refine wpList_append_own _ rfl _ _ 26 rfl w.heap.size 5 i0 (.int .u8 0) 1 1 Try.underlying26 hi hz0 hz1 hz2 rfl (by decide) _ _ _ rfl (own_empty w) x n cap (bc L) rfl ?c0 ?c1 ?c2 ?c3 ?c4 ?c5 ?_)
  case c0 => rw [bc_len, Nat.mul_one]; exact hL.out
  case c1 =>
    intro j u hj
    obtain ⟨h1, rfl⟩ := bc_get L j u hj
    have h2 := hc.out j h1
    rw [World.cell?_alloc_lt]
    · exact h2
    · exact cell_lt h2
  case c2 => exact bc_one L
  case c3 => unfold maxLen; omega
  case c4 => omega
  case c5 => simp
  · intro v1 w1 hown hgrow _
    have o1 : Own w1 w.heap.size v1 L := by unfold Own; rw [hL.out]; exact hown
    have b1 : Below w.heap.size w w1 := ((Below.refl _ _).alloc (Nat.le_refl _) _).grown hgrow (by simp) (fun k hk => by simp [Value.ownBlock] at hk; omega)
    have hr1 := o1.rd
    clear hown hgrow
    go_wp2_with fail
    obtain ⟨T, hT⟩ : ∃ T, sealB L = T := ⟨_, rfl⟩
    obtain ⟨m, hm⟩ : ∃ m, T.length = m := ⟨_, rfl⟩
    have hm16 : m = 16 + n := by rw [← hm, ← hT, seal_len, hL.out]
    have hm1 : 16 ≤ m := by omega
    have hm2 : m ≤ 5000 := by omega
    have HT : Hid _ := hT
    have HM : Hid (T.length = m) := hm
    refine (seal_any _ L _ (by rw [hL.out]; omega) hr1).mono ?_
    rintro e w2 ⟨v2, rfl, o2, b2⟩
    rw [hT] at o2
    obtain ⟨g2, cap2, rfl, hgr2, hcap2⟩ : ∃ g cap, v2 = .slice (some ⟨g, 0, none⟩) m cap ∧ w.heap.size ≤ g ∧ m ≤ cap ∧ cap ≤ maxLen := by
      rcases o2.2 with ⟨_, h9⟩ | ⟨g, cap, cur, h9, h10, _, h11, h12, _⟩
      · omega
      · exact ⟨g, cap, by rw [h9, hm], Nat.le_trans b1.size h10, by omega, h12⟩
    have B2 : Hid (Below w.heap.size w w2) := b1.trans (b2.mono b1.size)
    have O2 : Hid (Own w2 w.heap.size (.slice (some ⟨g2, 0, none⟩) m cap2) T) := o2.mono b1.size
    have hg2s : g2 < w2.heap.size := (World.ownsRow.lt o2 g2 rfl).2
    have C2 : Hid (∀ i (h : i < T.length), w2.cell? ⟨g2, i, none⟩ = some (.int .u8 (T[i].toNat : Int))) := by
      intro i hi'
      have h9 := World.ownsRow.cells o2 (g := g2) rfl i (.int .u8 (T[i].toNat : Int)) (by unfold bc; rw [List.getElem?_map, List.getElem?_eq_getElem hi']; rfl)
      have e9 : (⟨g2, 0, none⟩ : Addr).add i = ⟨g2, i, none⟩ := by unfold Addr.add; split <;> simp_all
      rw [e9] at h9
      exact h9
    clear hT hm hm16 o2 b2 hr1 o1 b1
    go_wp2_with (at_builtin; refine wpList_append_own _ rfl _ _ 26 rfl w2.heap.size 5 i0 (.int .u8 0) 1 1 Try.underlying26 hi hz0 hz1 hz2 rfl (by decide) _ _ _ rfl (own_empty w2) ⟨g2, 0, none⟩ m cap2 (bc T) rfl ?d0 ?d1 ?d2 ?d3 ?d4 ?d5 ?_)
    case d0 => rw [bc_len, Nat.mul_one]; exact HM.out
    case d1 =>
      intro j u hj
      obtain ⟨h1, rfl⟩ := bc_get T j u hj
      have h2 := C2.out j h1
      have e9 : (⟨g2, 0, none⟩ : Addr).add j = ⟨g2, j, none⟩ := by unfold Addr.add; split <;> simp_all
      rw [e9, World.cell?_alloc_lt]
      · exact h2
      · exact hg2s
    case d2 => exact bc_one T
    case d3 => unfold maxLen; omega
    case d4 => omega
    case d5 => simp
    · intro v3 w3 hown3 hgrow3 _
      have o3 : Own w3 w2.heap.size v3 T := by unfold Own; rw [HM.out]; exact hown3
      have b3 : Below w2.heap.size w2 w3 := ((Below.refl _ _).alloc (Nat.le_refl _) _).grown hgrow3 (by simp) (fun k hk => by simp [Value.ownBlock] at hk; omega)
      obtain ⟨a3, c3, rfl⟩ := own_slice o3
      have R3 : Hid (Rd w3 (.slice a3 T.length c3) T) := o3.rd
      have B3 : Hid (Below w2.heap.size w2 w3) := b3
      clear hown3 hgrow3 o3 b3
      go_wp2_with fail
      refine (open_any _ T w3 R3.out).mono ?_
      rintro e w4 ⟨v4, rfl, r4, b4⟩
      have hos := open_seal L (by rw [hL.out]; omega)
      rw [HT.out] at hos
      rw [hos.2] at r4
      rw [hos.1]
      obtain ⟨a4, c4, rfl⟩ := rd_slice r4
      have B24 : Hid (Below w2.heap.size w2 w4) := B3.out.trans (b4.mono B3.out.size)
      have B4 : Hid (Below w.heap.size w w4) := B2.out.trans (B24.out.mono B2.out.size)
      have cv1 := Rd.str r4
      rw [hL.out] at cv1 ⊢
      have cv2 := RA.out.str B4.out
      clear r4 b4 hos R3 B3
      by_cases ht : a2 = 0
      · have ht' : (a2 == 0) = true := by simp [ht]
        clear ht
        go_wp2_with fail
        refine (alive_any _).mono ?_
        rintro e w5 ⟨rfl, b5⟩
        have B5 : Hid (Below w.heap.size w w5) := B4.out.trans (b5.mono B4.out.size)
        clear b5
        go_wp2
        go_ret
        exact ⟨rfl, B5.out⟩
      · have ht' : (a2 == 0) = false := by simp [ht]
        have tm := Int.tmod_lt_of_pos a1 (show (0 : Int) < m by omega)
        have tm2 := Int.lt_tmod_of_pos a1 (show (0 : Int) < m by omega)
        obtain ⟨k, hk⟩ : ∃ k : Nat, (a1.tmod (m : Int) + m) % m = k := ⟨((a1.tmod (m : Int) + m) % m).toNat, by have := Int.emod_nonneg (a1.tmod (m : Int) + m) (show (m : Int) ≠ 0 by omega); omega⟩
        have hkm : k < m := by have := Int.emod_lt_of_pos (a1.tmod (m : Int) + m) (show (0 : Int) < m by omega); omega
        have hkT : k < T.length := by rw [HM.out]; exact hkm
        obtain ⟨c, hcT⟩ : ∃ c, T[k] = c := ⟨_, rfl⟩
        obtain ⟨t, rfl⟩ : ∃ t : Nat, a2 = t := ⟨a2.toNat, by omega⟩
        obtain ⟨c', hc'⟩ : ∃ c' : UInt8, c ^^^ UInt8.ofNat t = c' := ⟨_, rfl⟩
        have hc255 := c.toNat_lt
        have htN : (UInt8.ofNat t).toNat = t := by simp [UInt8.toNat_ofNat']; omega
        have hxor : bits .xor .u8 (c.toNat : Int) (t : Int) = (c'.toNat : Int) := by
          rw [u8_xor_nat c.toNat t (by omega) (by omega), ← hc', UInt8.toNat_xor, htN]
        have hne : c' ≠ T[k] := by
          rw [hcT, ← hc']
          intro e9
          have e10 := congrArg UInt8.toNat e9
          rw [UInt8.toNat_xor, htN] at e10
          have e11 : t = 0 := by
            have := congrArg (fun z => c.toNat ^^^ z) e10
            simp only [← Nat.xor_assoc, Nat.xor_self, Nat.zero_xor] at this
            exact this
          omega
        have hcell4 : w4.cell? ⟨g2, k, none⟩ = some (.int .u8 (c.toNat : Int)) := by
          rw [B24.out.cell (p := ⟨g2, k, none⟩) hg2s, C2.out k hkT, hcT]
        have O4 : Own w4 w.heap.size (.slice (some ⟨g2, 0, none⟩) m cap2) T := O2.out.below B24.out
        have hfr4 : w4.frozen? ⟨g2, k, none⟩ = false := by
          rcases O4.2 with ⟨h9, _⟩ | ⟨g, cap, cur, h9, _, h10, _⟩
          · cases h9
          · cases h9; simp [World.frozen?, h10]
        have hT5 : (T.set k c').length = m := by rw [List.length_set]; exact HM.out
        have R5 : Hid (Rd (w4.setCell ⟨g2, k, none⟩ (.int .u8 (c'.toNat : Int))) (.slice (some ⟨g2, 0, none⟩) m cap2) (T.set k c')) := by
          right
          refine ⟨g2, 0, cap2, by rw [hT5], by omega, hcap2.2, by simp [World.setCell]; exact Nat.lt_of_lt_of_le hg2s B24.out.size, fun i hi9 => ?_⟩
          rw [Nat.zero_add]
          by_cases hik : i = k
          · subst hik
            rw [World.cell?_setCell_same w4 _ _ hcell4, List.getElem_set_self]
          · rw [World.cell?_setCell_other w4 _ _ _ (by intro e9; cases e9; exact hik rfl), List.getElem_set_ne (by omega), B24.out.cell (p := ⟨g2, i, none⟩) hg2s, C2.out i (by rw [List.length_set] at hi9; exact hi9)]
        have HE : Hid (openE (T.set k c') ≠ 0) := by
          have h9 := open_turned L (by rw [hL.out]; omega) k c'
          rw [HT.out] at h9
          exact h9 hkT hne
        have B5 : Hid (Below w.heap.size w (w4.setCell ⟨g2, k, none⟩ (.int .u8 (c'.toNat : Int)))) := B4.out.setCell hgr2 _
        clear hne hc' hcT O4 htN hT5
        go_wp2_with fail
        refine (open_any _ (T.set k c') _ R5.out).mono ?_
        rintro e w6 ⟨v6, rfl, r6, b6⟩
        have hob := openB_bad (B := T.set k c') rfl HE.out
        rw [hob] at r6
        obtain ⟨a6, c6, rfl⟩ := rd_slice r6
        have B6 : Hid (Below w.heap.size w w6) := B5.out.trans (b6.mono B5.out.size)
        have hE2 : (((openE (T.set k c') : Nat) : Int) != 0) = true := by have := HE.out; simp; omega
        clear r6 b6 hob
        go_wp2_with fail
        refine (alive_any _).mono ?_
        rintro e w7 ⟨rfl, b7⟩
        have B7 : Hid (Below w.heap.size w w7) := B6.out.trans (b7.mono B6.out.size)
        clear b7
        go_wp2
        go_ret
        exact ⟨rfl, B7.out⟩

set_option maxRecDepth 100000 in
set_option maxHeartbeats 4000000 in
theorem walk_nil (L : List UInt8) (a1 a2 : Int) (w : World) (hL : Hid (L.length = 0)) (hA2 : 0 ≤ a2 ∧ a2 ≤ 255) :
    Calls Try.prog 6 #[.slice none 0 0, .int .i64 a1, .int .u8 a2] w fun e w' => e = .returned (.bool true) ∧ Below w.heap.size w w' := by
  obtain ⟨i0, hi, hz0, hz1, hz2⟩ := info_parts info5
  have RA : Hid (RdA w none 0 0 L) := ⟨hL.out, Or.inl ⟨rfl, rfl, rfl⟩⟩
  go_enter Try.func6, Try.ntmps6
  go_wp2_with fail
  · have o1 : Own (w.alloc (.cells #[] 5)) w.heap.size (.slice (some ⟨w.heap.size, 0, none⟩) 0 0) L := by
      have h9 : L = [] := List.eq_nil_of_length_eq_zero hL.out
      rw [h9]; exact own_empty w
    have b1 : Below w.heap.size w (w.alloc (.cells #[] 5)) := (Below.refl _ _).alloc (Nat.le_refl _) _
    have hr1 := o1.rd
    obtain ⟨T, hT⟩ : ∃ T, sealB L = T := ⟨_, rfl⟩
    obtain ⟨m, hm⟩ : ∃ m, T.length = m := ⟨_, rfl⟩
    have hm16 : m = 16 + 0 := by rw [← hm, ← hT, seal_len, hL.out]
    have hm1 : 16 ≤ m := by omega
    have hm2 : m ≤ 5000 := by omega
    have HT : Hid _ := hT
    have HM : Hid (T.length = m) := hm
    refine (seal_any _ L _ (by rw [hL.out]; omega) hr1).mono ?_
    rintro e w2 ⟨v2, rfl, o2, b2⟩
    rw [hT] at o2
    obtain ⟨g2, cap2, rfl, hgr2, hcap2⟩ : ∃ g cap, v2 = .slice (some ⟨g, 0, none⟩) m cap ∧ w.heap.size ≤ g ∧ m ≤ cap ∧ cap ≤ maxLen := by
      rcases o2.2 with ⟨_, h9⟩ | ⟨g, cap, cur, h9, h10, _, h11, h12, _⟩
      · omega
      · exact ⟨g, cap, by rw [h9, hm], Nat.le_trans b1.size h10, by omega, h12⟩
    have B2 : Hid (Below w.heap.size w w2) := b1.trans (b2.mono b1.size)
    have O2 : Hid (Own w2 w.heap.size (.slice (some ⟨g2, 0, none⟩) m cap2) T) := o2.mono b1.size
    have hg2s : g2 < w2.heap.size := (World.ownsRow.lt o2 g2 rfl).2
    have C2 : Hid (∀ i (h : i < T.length), w2.cell? ⟨g2, i, none⟩ = some (.int .u8 (T[i].toNat : Int))) := by
      intro i hi'
      have h9 := World.ownsRow.cells o2 (g := g2) rfl i (.int .u8 (T[i].toNat : Int)) (by unfold bc; rw [List.getElem?_map, List.getElem?_eq_getElem hi']; rfl)
      have e9 : (⟨g2, 0, none⟩ : Addr).add i = ⟨g2, i, none⟩ := by unfold Addr.add; split <;> simp_all
      rw [e9] at h9
      exact h9
    clear hT hm hm16 o2 b2 hr1 o1 b1
    go_wp2_with (at_builtin; refine wpList_append_own _ rfl _ _ 26 rfl w2.heap.size 5 i0 (.int .u8 0) 1 1 Try.underlying26 hi hz0 hz1 hz2 rfl (by decide) _ _ _ rfl (own_empty w2) ⟨g2, 0, none⟩ m cap2 (bc T) rfl ?d0 ?d1 ?d2 ?d3 ?d4 ?d5 ?_)
    case d0 => rw [bc_len, Nat.mul_one]; exact HM.out
    case d1 =>
      intro j u hj
      obtain ⟨h1, rfl⟩ := bc_get T j u hj
      have h2 := C2.out j h1
      have e9 : (⟨g2, 0, none⟩ : Addr).add j = ⟨g2, j, none⟩ := by unfold Addr.add; split <;> simp_all
      rw [e9, World.cell?_alloc_lt]
      · exact h2
      · exact hg2s
    case d2 => exact bc_one T
    case d3 => unfold maxLen; omega
    case d4 => omega
    case d5 => simp
    · intro v3 w3 hown3 hgrow3 _
      have o3 : Own w3 w2.heap.size v3 T := by unfold Own; rw [HM.out]; exact hown3
      have b3 : Below w2.heap.size w2 w3 := ((Below.refl _ _).alloc (Nat.le_refl _) _).grown hgrow3 (by simp) (fun k hk => by simp [Value.ownBlock] at hk; omega)
      obtain ⟨a3, c3, rfl⟩ := own_slice o3
      have R3 : Hid (Rd w3 (.slice a3 T.length c3) T) := o3.rd
      have B3 : Hid (Below w2.heap.size w2 w3) := b3
      clear hown3 hgrow3 o3 b3
      go_wp2_with fail
      refine (open_any _ T w3 R3.out).mono ?_
      rintro e w4 ⟨v4, rfl, r4, b4⟩
      have hos := open_seal L (by rw [hL.out]; omega)
      rw [HT.out] at hos
      rw [hos.2] at r4
      rw [hos.1]
      obtain ⟨a4, c4, rfl⟩ := rd_slice r4
      have B24 : Hid (Below w2.heap.size w2 w4) := B3.out.trans (b4.mono B3.out.size)
      have B4 : Hid (Below w.heap.size w w4) := B2.out.trans (B24.out.mono B2.out.size)
      have cv1 := Rd.str r4
      rw [hL.out] at cv1 ⊢
      have cv2 := RA.out.str B4.out
      clear r4 b4 hos R3 B3
      by_cases ht : a2 = 0
      · have ht' : (a2 == 0) = true := by simp [ht]
        clear ht
        go_wp2_with fail
        refine (alive_any _).mono ?_
        rintro e w5 ⟨rfl, b5⟩
        have B5 : Hid (Below w.heap.size w w5) := B4.out.trans (b5.mono B4.out.size)
        clear b5
        go_wp2
        go_ret
        exact ⟨rfl, B5.out⟩
      · have ht' : (a2 == 0) = false := by simp [ht]
        have tm := Int.tmod_lt_of_pos a1 (show (0 : Int) < m by omega)
        have tm2 := Int.lt_tmod_of_pos a1 (show (0 : Int) < m by omega)
        obtain ⟨k, hk⟩ : ∃ k : Nat, (a1.tmod (m : Int) + m) % m = k := ⟨((a1.tmod (m : Int) + m) % m).toNat, by have := Int.emod_nonneg (a1.tmod (m : Int) + m) (show (m : Int) ≠ 0 by omega); omega⟩
        have hkm : k < m := by have := Int.emod_lt_of_pos (a1.tmod (m : Int) + m) (show (0 : Int) < m by omega); omega
        have hkT : k < T.length := by rw [HM.out]; exact hkm
        obtain ⟨c, hcT⟩ : ∃ c, T[k] = c := ⟨_, rfl⟩
        obtain ⟨t, rfl⟩ : ∃ t : Nat, a2 = t := ⟨a2.toNat, by omega⟩
        obtain ⟨c', hc'⟩ : ∃ c' : UInt8, c ^^^ UInt8.ofNat t = c' := ⟨_, rfl⟩
        have hc255 := c.toNat_lt
        have htN : (UInt8.ofNat t).toNat = t := by simp [UInt8.toNat_ofNat']; omega
        have hxor : bits .xor .u8 (c.toNat : Int) (t : Int) = (c'.toNat : Int) := by
          rw [u8_xor_nat c.toNat t (by omega) (by omega), ← hc', UInt8.toNat_xor, htN]
        have hne : c' ≠ T[k] := by
          rw [hcT, ← hc']
          intro e9
          have e10 := congrArg UInt8.toNat e9
          rw [UInt8.toNat_xor, htN] at e10
          have e11 : t = 0 := by
            have := congrArg (fun z => c.toNat ^^^ z) e10
            simp only [← Nat.xor_assoc, Nat.xor_self, Nat.zero_xor] at this
            exact this
          omega
        have hcell4 : w4.cell? ⟨g2, k, none⟩ = some (.int .u8 (c.toNat : Int)) := by
          rw [B24.out.cell (p := ⟨g2, k, none⟩) hg2s, C2.out k hkT, hcT]
        have O4 : Own w4 w.heap.size (.slice (some ⟨g2, 0, none⟩) m cap2) T := O2.out.below B24.out
        have hfr4 : w4.frozen? ⟨g2, k, none⟩ = false := by
          rcases O4.2 with ⟨h9, _⟩ | ⟨g, cap, cur, h9, _, h10, _⟩
          · cases h9
          · cases h9; simp [World.frozen?, h10]
        have hT5 : (T.set k c').length = m := by rw [List.length_set]; exact HM.out
        have R5 : Hid (Rd (w4.setCell ⟨g2, k, none⟩ (.int .u8 (c'.toNat : Int))) (.slice (some ⟨g2, 0, none⟩) m cap2) (T.set k c')) := by
          right
          refine ⟨g2, 0, cap2, by rw [hT5], by omega, hcap2.2, by simp [World.setCell]; exact Nat.lt_of_lt_of_le hg2s B24.out.size, fun i hi9 => ?_⟩
          rw [Nat.zero_add]
          by_cases hik : i = k
          · subst hik
            rw [World.cell?_setCell_same w4 _ _ hcell4, List.getElem_set_self]
          · rw [World.cell?_setCell_other w4 _ _ _ (by intro e9; cases e9; exact hik rfl), List.getElem_set_ne (by omega), B24.out.cell (p := ⟨g2, i, none⟩) hg2s, C2.out i (by rw [List.length_set] at hi9; exact hi9)]
        have HE : Hid (openE (T.set k c') ≠ 0) := by
          have h9 := open_turned L (by rw [hL.out]; omega) k c'
          rw [HT.out] at h9
          exact h9 hkT hne
        have B5 : Hid (Below w.heap.size w (w4.setCell ⟨g2, k, none⟩ (.int .u8 (c'.toNat : Int)))) := B4.out.setCell hgr2 _
        clear hne hc' hcT O4 htN hT5
        go_wp2_with fail
        refine (open_any _ (T.set k c') _ R5.out).mono ?_
        rintro e w6 ⟨v6, rfl, r6, b6⟩
        have hob := openB_bad (B := T.set k c') rfl HE.out
        rw [hob] at r6
        obtain ⟨a6, c6, rfl⟩ := rd_slice r6
        have B6 : Hid (Below w.heap.size w w6) := B5.out.trans (b6.mono B5.out.size)
        have hE2 : (((openE (T.set k c') : Nat) : Int) != 0) = true := by have := HE.out; simp; omega
        clear r6 b6 hob
        go_wp2_with fail
        refine (alive_any _).mono ?_
        rintro e w7 ⟨rfl, b7⟩
        have B7 : Hid (Below w.heap.size w w7) := B6.out.trans (b7.mono B6.out.size)
        clear b7
        go_wp2
        go_ret
        exact ⟨rfl, B7.out⟩


theorem walk (a0 : Option Addr) (len0 cap0 : Nat) (z0 : List Int) (a1 : Int) (a2 : Int) (w : World) (w0 : IsRow .u8 w a0 len0 cap0 z0) (w1 : (Lit.int .i64 a1).wf = true) (w2 : (Lit.int .u8 a2).wf = true) :
    Calls Try.prog 6 #[.slice a0 len0 cap0, .int .i64 a1, .int .u8 a2] w fun e w' => e = .returned (.bool true) ∧ Below w.heap.size w w' := by
  obtain ⟨hm, L, hL, hr⟩ := row_bytes w0
  have hA2 := bounds_u8 w2
  by_cases h4 : 4096 < len0
  · exact walk_long a0 len0 cap0 a1 a2 w h4 hm
  · rcases hr with ⟨rfl, rfl, rfl⟩ | ⟨x, rfl, hc⟩
    · exact walk_nil L a1 a2 w hL hA2
    · exact walk_main x len0 cap0 L a1 a2 w (by omega) hL hA2 hc

/-! ### THE ROW's STEP: WRITTEN OUT: LEAVE IT -/
set_option maxRecDepth 100000 in
theorem lifted (os : Os) (started : os.Started) (H : Type) (enc : TypeId × Value → H) :
    ReturnsInHanded {} Try.checked os 6 .any (Rows.packTurnedSpec.pre6 enc Try.prog Try.f6 Rows.packTurnedRow.domain false) (Rows.packTurnedSpec.post enc Try.prog Try.f6 false true false false) := by
  refine returnsInHanded_of_change (C := Try.checked) own started (by kernel_rfl) Try.func6
    (ChangeSpec.witness6 (enc := enc) (C := Try.checked) false ⟨#[], #[.slice none 0 0, .int .i64 0, .int .u8 0], []⟩ 8 (by kernel_rfl) (by kernel_rfl) (by kernel_rfl) (by kernel_rfl)) ?_
  intro W base args ds gs before hval0 hW hcnd _
  have hval : ∀ (j : Nat) t v, Try.f6.params[j]? = some t → args[j]? = some v → Value.okWide Try.prog W .any base t v := hval0
  have hW' := hW
  obtain ⟨p, q, hA0, hV, rfl, hfz, hnd⟩ := hW
  have hA : DataW.TrodAll enc Try.prog W 0 (fun _ => true) true Try.f6.params.toList args.toList ds p := hA0
  rw [Try.params6] at hA hval
  obtain ⟨v0, vs0, d0, ds0, p0, q0, hargs, rfl, rfl, h0, r0⟩ := trodAll_cons hA
  obtain ⟨v1, vs1, d1, ds1, p1, q1, rfl, rfl, rfl, h1, r1⟩ := trodAll_cons r0
  obtain ⟨v2, vs2, d2, ds2, p2, q2, rfl, rfl, rfl, h2, r2⟩ := trodAll_cons r1
  obtain ⟨rfl, rfl, rfl⟩ := trodAll_nil r2
  obtain rfl : args = #[v0, v1, v2] := by cases args; simp_all
  obtain ⟨rfl, rfl⟩ := trodVars_none hV
  obtain ⟨a0, len0, cap0, rfl⟩ := okWide_slice Try.underlying26 (hval 0 26 v0 rfl rfl)
  have k0 := h0
  have lt0 : ∀ x ∈ p0, x.block < W.heap.size := by obtain ⟨m, hm⟩ := k0; exact DataW.trod_lt m _ _ _ hm
  obtain ⟨z0, w0⟩ : ∃ zs, IsRow .u8 W a0 len0 cap0 zs := by
    obtain ⟨fuel, hf⟩ := h0
    rcases open_ints Try.underlying26 Try.underlying5 (by kernel_rfl) hf with ⟨hcs, _⟩ | ⟨x, l, c, zs, hcs, _, hl, hm, hz, _, hcell, hwz⟩
    · simp [Value.cells] at hcs
      obtain ⟨rfl, rfl, rfl⟩ := hcs
      exact ⟨[], .inl ⟨rfl, rfl, rfl, rfl⟩⟩
    · simp [Value.cells] at hcs
      obtain ⟨rfl, rfl, rfl⟩ := hcs
      exact ⟨zs, .inr ⟨_, rfl, hl, hm, by simpa using hz, hcell, hwz⟩⟩
  obtain ⟨a1, rfl, rfl, rfl, w1⟩ := open_int Try.underlying3 (hval 1 3 v1 rfl rfl) h1
  obtain ⟨a2, rfl, rfl, rfl, w2⟩ := open_int Try.underlying5 (hval 2 5 v2 rfl rfl) h2
  clear hA0 hval0
  refine (walk a0 len0 cap0 z0 a1 a2 W w0 w1 w2).mono fun e W' ⟨he, bel⟩ => ?_
  subst he
  exact ⟨_, rfl, _, _, _, [], _, [], hW', trodAll_mk1 (shut_bool Try.underlying4 _), (trodAll_cons_mk (Below.trod laidOut (by kernel_rfl) (of_decide_eq_true (by kernel_rfl)) k0 bel lt0) (trodAll_cons_mk (shut_int Try.underlying3 w1) (trodAll_cons_mk (shut_int Try.underlying5 w2) trodAll_mk0))), rfl, bel.frame _, fun h => by cases h⟩

theorem over : Rows.packTurnedRow.holds Try.pinned (OpenSpec.ofChange Rows.packTurnedSpec) :=
  OpenClaim.holds_of_wide 6 Try.f6 rfl rfl rfl rfl rfl rfl rfl ⟨rfl, rfl, rfl, rfl, rfl⟩ rfl rfl rfl rfl rfl (by kernel_rfl) Try.func6 (by kernel_rfl)
    (of_decide_eq_true (by kernel_rfl)) (by unfold Func.isWrapper; first | (rw [if_pos (by decide +kernel)]; kernel_rfl) | (rw [if_neg (by decide +kernel)]; exact ⟨rfl, rfl⟩))
    (fun os started H enc _ => lifted os started H enc)

/-- ████ THE STATEMENT ████ -/
theorem proved : Rows.PackTurnedSaid := over
#print axioms proved
end Go.Proofs.Ytjdcoiekbnefkac.packTurned
