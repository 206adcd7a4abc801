/- PackSeals: any body is sealed as the document says or is too long, any bytes are opened just where they are a seal; it has no conditions. -/
import Derived.Test.YtjdcoiekbnefkacRows
import Derived.Test.YtjdcoiekbnefkacRefO
import Derived.WalkKit
import Derived.ProofKit
import Derived.OpenShut
import Derived.ShutString
import Derived.ChangeOld
import Derived.Below
namespace Go.Proofs.Ytjdcoiekbnefkac.packSeals
open Go.ChangeShapes Go.WideShapes Go.ChangeAt Go.RowKit
open Go.ChangeMaps (open_string shut_string)
set_option linter.unusedVariables false

theorem own : ownKnob Try.prog.godebug = none := by kernel_rfl
theorem laidOut : laidOutB Try.prog = true := by kernel_rfl

/-- WHAT THE WALK IS TOLD OF A SLICE OF INTEGERS THAT CAME IN: it is nil; or it leads to a row of 'cap' cells, the numbers 'zs' (the first 'len' are its elements, the rest its spare room), each fitting its kind. -/
def IsRow (k : IntKind) (w : World) (a : Option Addr) (len cap : Nat) (zs : List Int) : Prop :=
  (a = none ∧ len = 0 ∧ cap = 0 ∧ zs = []) ∨
  ∃ x, a = some x ∧ len ≤ cap ∧ cap ≤ maxLen ∧ zs.length = cap ∧ (∀ i, i < zs.length → w.cell? (x.add i) = some (.int k (zs.getD i 0))) ∧ ∀ n ∈ zs, (Lit.int k n).wf = true


theorem row_bytes {w : World} {a : Option Addr} {n cap : Nat} {zs : List Int} (h : IsRow .u8 w a n cap zs) : n ≤ maxLen ∧ ∃ L, L.length = n ∧ RdX w (.slice a n cap) L := by
  rcases h with ⟨rfl, rfl, rfl, rfl⟩ | ⟨x, rfl, h1, h2, h3, h4, h5⟩
  · exact ⟨by unfold maxLen; omega, [], rfl, Or.inl ⟨rfl, rfl⟩⟩
  · have hl : ((zs.take n).map fun z => UInt8.ofNat z.toNat).length = n := by simp; omega
    refine ⟨by omega, (zs.take n).map fun z => UInt8.ofNat z.toNat, hl, Or.inr ⟨x, cap, by rw [hl], by rw [hl]; exact h1, h2, fun j hj => ?_⟩⟩
    have hj' : j < zs.length := by simp at hj; omega
    rw [h4 j hj']
    have hz := h5 zs[j] (List.getElem_mem hj')
    have hb := bounds_u8 hz
    have e : zs.getD j 0 = zs[j] := by simp [List.getD, List.getElem?_eq_getElem hj']
    rw [e]
    simp
    omega

def sealT (L : List UInt8) : List UInt8 := if L.length ≤ 1048576 then sealB L else []
def sealK (L : List UInt8) : Nat := if L.length ≤ 1048576 then 0 else 23
def SealR (w : World) (L : List UInt8) (e : Ending) (w' : World) : Prop := ∃ v', e = .returned (.tuple #[v', .int .i64 (sealK L : Nat)]) ∧ RdX w' v' (sealT L) ∧ Below w.heap.size w w'

theorem seal_all (v : Value) (L : List UInt8) (w : World) (hm : L.length ≤ maxLen) (h : Rd w v L) : Calls Try.prog 25 #[v] w fun e w' => SealR w L e w' := by
  by_cases hL : L.length ≤ 1048576
  · refine (seal_any v L w hL h).mono ?_
    rintro e w' ⟨v', rfl, o, b⟩
    exact ⟨v', by unfold sealK; rw [if_pos hL]; rfl, by unfold sealT; rw [if_pos hL]; exact o.rd.x, b⟩
  · obtain ⟨a, c, rfl⟩ := rd_slice h
    refine (seal_big a _ c w (by omega) hm).mono ?_
    rintro e w' ⟨rfl, rfl⟩
    exact ⟨_, by unfold sealK; rw [if_neg hL]; rfl, by unfold sealT; rw [if_neg hL]; exact Or.inl ⟨rfl, rfl⟩, Below.refl _ _⟩
theorem rseal_all (v : Value) (L : List UInt8) (w : World) (hm : L.length ≤ maxLen) (h : RdX w v L) : Calls Try.prog 26 #[v] w fun e w' => SealR w L e w' := by
  by_cases hL : L.length ≤ 1048576
  · refine (rseal_any v L w hL h).mono ?_
    rintro e w' ⟨v', rfl, o, b⟩
    exact ⟨v', by unfold sealK; rw [if_pos hL]; rfl, by unfold sealT; rw [if_pos hL]; exact o.rd.x, b⟩
  · obtain ⟨a, c, rfl⟩ := rdx_slice h
    refine (rseal_big a _ c w (by omega) hm).mono ?_
    rintro e w' ⟨rfl, rfl⟩
    exact ⟨_, by unfold sealK; rw [if_neg hL]; rfl, by unfold sealT; rw [if_neg hL]; exact Or.inl ⟨rfl, rfl⟩, Below.refl _ _⟩

set_option maxRecDepth 100000 in
set_option maxHeartbeats 400000 in
theorem walk_long0 (a0 a1 : Option Addr) (n0 c0 n1 c1 : Nat) (w : World) (hn : 1048592 < n0) (hm : n0 ≤ maxLen) :
    Calls Try.prog 5 #[.slice a0 n0 c0, .slice a1 n1 c1] w fun e w' => e = .returned (.bool true) ∧ Below w.heap.size w w' := by
  unfold maxLen at hm
  go_enter Try.func5, Try.ntmps5
  go_wp2
  go_ret
  exact ⟨rfl, Below.refl _ _⟩
set_option maxRecDepth 100000 in
set_option maxHeartbeats 400000 in
theorem walk_long1 (a0 a1 : Option Addr) (n0 c0 n1 c1 : Nat) (w : World) (hn0 : n0 ≤ 1048592) (hn : 1048640 < n1) (hm : n1 ≤ maxLen) :
    Calls Try.prog 5 #[.slice a0 n0 c0, .slice a1 n1 c1] w fun e w' => e = .returned (.bool true) ∧ Below w.heap.size w w' := by
  unfold maxLen at hm
  go_enter Try.func5, Try.ntmps5
  go_wp2
  go_ret
  exact ⟨rfl, Below.refl _ _⟩

set_option maxRecDepth 100000 in
set_option maxHeartbeats 4000000 in
theorem walk_ss (x0 : Addr) (n0 c0 : Nat) (hn0 : n0 ≤ 1048592) (x1 : Addr) (n1 c1 : Nat) (hn1 : n1 ≤ 1048640) (L B : List UInt8) (w : World) (hL : Hid (L.length = n0)) (hB : Hid (B.length = n1)) (HL : Hid (RdX w (.slice (some x0) n0 c0) L)) (HB : Hid (RdX w (.slice (some x1) n1 c1) B)) :
    Calls Try.prog 5 #[.slice (some x0) n0 c0, .slice (some x1) n1 c1] w fun e w' => e = .returned (.bool true) ∧ Below w.heap.size w w' := by
  obtain ⟨i0, hi, hz0, hz1, hz2⟩ := info_parts info5
  have HLm : Hid (L.length ≤ maxLen) := by show _ ≤ _; rw [hL.out]; unfold maxLen; omega
  go_enter Try.func5, Try.ntmps5
  go_wp2_with (at_builtin; refine wpList_append_own _ rfl _ _ 26 rfl w.heap.size 5 i0 (.int .u8 0) 1 1 Try.underlying26 hi hz0 hz1 hz2 rfl (by decide) _ _ _ rfl (own_empty w) x0 n0 c0 (bc L) rfl ?c0 ?c1 ?c2 ?c3 ?c4 ?c5 ?_)
  case c0 => rw [bc_len, Nat.mul_one]; exact hL.out
  case c1 =>
    intro j u hj
    obtain ⟨h1, rfl⟩ := bc_get L j u hj
    have h2 := HL.out.cells j h1
    rw [World.cell?_alloc_lt]
    · exact h2
    · exact cellX_lt h2
  case c2 => exact bc_one L
  case c3 => unfold maxLen; omega
  case c4 => omega
  case c5 => simp
  intro v1 w1 hown hgrow _
  have o9 : Own w1 w.heap.size v1 L := by unfold Own; rw [hL.out]; exact hown
  have b9 : Below w.heap.size w w1 := ((Below.refl _ _).alloc (Nat.le_refl _) _).grown hgrow (by simp) (fun k hk => by simp [Value.ownBlock] at hk; omega)
  have RNc : Hid (Rd w1 v1 L) := o9.rd
  have BNc : Hid (Below w.heap.size w w1) := b9
  clear hown hgrow o9 b9
  go_wp2_with fail
  refine (seal_all _ L _ HLm.out RNc.out).mono ?_
  rintro e w2 ⟨v2, rfl, r2, b2⟩
  have B2 : Hid (Below w.heap.size w w2) := BNc.out.trans (b2.mono BNc.out.size)
  have R2 : Hid (RdX w2 v2 (sealT L)) := r2
  clear r2 b2
  go_wp2_with fail
  refine (rseal_all _ L _ HLm.out (HL.out.below B2.out)).mono ?_
  rintro e w3 ⟨v3, rfl, r3, b3⟩
  have B3 : Hid (Below w.heap.size w w3) := B2.out.trans (b3.mono B2.out.size)
  have R2' : Hid (RdX w3 v2 (sealT L)) := R2.out.below b3
  have R3 : Hid (RdX w3 v3 (sealT L)) := r3
  have HB3 : Hid (RdX w3 (.slice (some x1) n1 c1) B) := HB.out.below B3.out
  clear r3 b3 R2
  go_wp2_with (at_builtin; refine wpList_append_own _ rfl _ _ 26 rfl w3.heap.size 5 i0 (.int .u8 0) 1 1 Try.underlying26 hi hz0 hz1 hz2 rfl (by decide) _ _ _ rfl (own_empty w3) x1 n1 c1 (bc B) rfl ?d0 ?d1 ?d2 ?d3 ?d4 ?d5 ?_)
  case d0 => rw [bc_len, Nat.mul_one]; exact hB.out
  case d1 =>
    intro j u hj
    obtain ⟨h1, rfl⟩ := bc_get B j u hj
    have h2 := HB3.out.cells j h1
    rw [World.cell?_alloc_lt]
    · exact h2
    · exact cellX_lt h2
  case d2 => exact bc_one B
  case d3 => unfold maxLen; omega
  case d4 => omega
  case d5 => simp
  intro v4 w4 hown hgrow _
  have o9 : Own w4 w3.heap.size v4 B := by unfold Own; rw [hB.out]; exact hown
  have b9 : Below w3.heap.size w3 w4 := ((Below.refl _ _).alloc (Nat.le_refl _) _).grown hgrow (by simp) (fun k hk => by simp [Value.ownBlock] at hk; omega)
  have RNd : Hid (Rd w4 v4 B) := o9.rd
  have BNd : Hid (Below w3.heap.size w3 w4) := b9
  clear hown hgrow o9 b9
  go_wp2_with fail
  refine (open_any _ B _ RNd.out).mono ?_
  rintro e w5 ⟨v5, rfl, r5, b5⟩
  have B35 : Hid (Below w3.heap.size w3 w5) := BNd.out.trans (b5.mono BNd.out.size)
  have R5 : Hid (RdX w5 v5 (openB B)) := r5.x
  have HB5 : Hid (RdX w5 (.slice (some x1) n1 c1) B) := HB3.out.below B35.out
  clear r5 b5
  go_wp2_with fail
  refine (ropen_any _ B _ HB5.out).mono ?_
  rintro e w6 ⟨v6, rfl, r6, b6⟩
  have B36 : Hid (Below w3.heap.size w3 w6) := B35.out.trans (b6.mono B35.out.size)
  have B6 : Hid (Below w.heap.size w w6) := B3.out.trans (B36.out.mono B3.out.size)
  have HB6 : Hid (RdX w6 (.slice (some x1) n1 c1) B) := HB5.out.below b6
  have cv2 := (R2'.out.below B36.out).str
  have cv3 := (R3.out.below B36.out).str
  have cv5 := (R5.out.below b6).str
  have cv6 := r6.x.str
  clear r6 b6
  go_wp2_with fail
  refine (sum29_any _ B _ HB6.out).mono ?_
  rintro e w7 ⟨rfl, hw⟩
  rw [hw]
  clear hw w7
  go_wp2_with fail
  refine (sum30_any _ B _ HB6.out).mono ?_
  rintro e w7 ⟨rfl, hw⟩
  rw [hw]
  clear hw w7
  go_wp2_with fail
  refine (alive_any _).mono ?_
  rintro e w8 ⟨rfl, b8⟩
  have B8 : Hid (Below w.heap.size w w8) := B6.out.trans (b8.mono B6.out.size)
  clear b8
  go_wp2
  go_ret
  exact ⟨rfl, B8.out⟩

set_option maxRecDepth 100000 in
set_option maxHeartbeats 4000000 in
theorem walk_ns (x1 : Addr) (n1 c1 : Nat) (hn1 : n1 ≤ 1048640) (L B : List UInt8) (w : World) (hL : Hid (L.length = 0)) (hB : Hid (B.length = n1)) (HL : Hid (RdX w (.slice none 0 0) L)) (HB : Hid (RdX w (.slice (some x1) n1 c1) B)) :
    Calls Try.prog 5 #[.slice none 0 0, .slice (some x1) n1 c1] w fun e w' => e = .returned (.bool true) ∧ Below w.heap.size w w' := by
  obtain ⟨i0, hi, hz0, hz1, hz2⟩ := info_parts info5
  have HLm : Hid (L.length ≤ maxLen) := by show _ ≤ _; rw [hL.out]; unfold maxLen; omega
  go_enter Try.func5, Try.ntmps5
  go_wp2_with fail
  have o9 : Own (w.alloc (.cells #[] 5)) w.heap.size (.slice (some ⟨w.heap.size, 0, none⟩) 0 0) L := by
    have h9 : L = [] := List.eq_nil_of_length_eq_zero hL.out
    rw [h9]; exact own_empty w
  have RNc : Hid (Rd (w.alloc (.cells #[] 5)) (.slice (some ⟨w.heap.size, 0, none⟩) 0 0) L) := o9.rd
  have BNc : Hid (Below w.heap.size w (w.alloc (.cells #[] 5))) := (Below.refl _ _).alloc (Nat.le_refl _) _
  clear o9
  refine (seal_all _ L _ HLm.out RNc.out).mono ?_
  rintro e w2 ⟨v2, rfl, r2, b2⟩
  have B2 : Hid (Below w.heap.size w w2) := BNc.out.trans (b2.mono BNc.out.size)
  have R2 : Hid (RdX w2 v2 (sealT L)) := r2
  clear r2 b2
  go_wp2_with fail
  refine (rseal_all _ L _ HLm.out (HL.out.below B2.out)).mono ?_
  rintro e w3 ⟨v3, rfl, r3, b3⟩
  have B3 : Hid (Below w.heap.size w w3) := B2.out.trans (b3.mono B2.out.size)
  have R2' : Hid (RdX w3 v2 (sealT L)) := R2.out.below b3
  have R3 : Hid (RdX w3 v3 (sealT L)) := r3
  have HB3 : Hid (RdX w3 (.slice (some x1) n1 c1) B) := HB.out.below B3.out
  clear r3 b3 R2
  go_wp2_with (at_builtin; refine wpList_append_own _ rfl _ _ 26 rfl w3.heap.size 5 i0 (.int .u8 0) 1 1 Try.underlying26 hi hz0 hz1 hz2 rfl (by decide) _ _ _ rfl (own_empty w3) x1 n1 c1 (bc B) rfl ?d0 ?d1 ?d2 ?d3 ?d4 ?d5 ?_)
  case d0 => rw [bc_len, Nat.mul_one]; exact hB.out
  case d1 =>
    intro j u hj
    obtain ⟨h1, rfl⟩ := bc_get B j u hj
    have h2 := HB3.out.cells j h1
    rw [World.cell?_alloc_lt]
    · exact h2
    · exact cellX_lt h2
  case d2 => exact bc_one B
  case d3 => unfold maxLen; omega
  case d4 => omega
  case d5 => simp
  intro v4 w4 hown hgrow _
  have o9 : Own w4 w3.heap.size v4 B := by unfold Own; rw [hB.out]; exact hown
  have b9 : Below w3.heap.size w3 w4 := ((Below.refl _ _).alloc (Nat.le_refl _) _).grown hgrow (by simp) (fun k hk => by simp [Value.ownBlock] at hk; omega)
  have RNd : Hid (Rd w4 v4 B) := o9.rd
  have BNd : Hid (Below w3.heap.size w3 w4) := b9
  clear hown hgrow o9 b9
  go_wp2_with fail
  refine (open_any _ B _ RNd.out).mono ?_
  rintro e w5 ⟨v5, rfl, r5, b5⟩
  have B35 : Hid (Below w3.heap.size w3 w5) := BNd.out.trans (b5.mono BNd.out.size)
  have R5 : Hid (RdX w5 v5 (openB B)) := r5.x
  have HB5 : Hid (RdX w5 (.slice (some x1) n1 c1) B) := HB3.out.below B35.out
  clear r5 b5
  go_wp2_with fail
  refine (ropen_any _ B _ HB5.out).mono ?_
  rintro e w6 ⟨v6, rfl, r6, b6⟩
  have B36 : Hid (Below w3.heap.size w3 w6) := B35.out.trans (b6.mono B35.out.size)
  have B6 : Hid (Below w.heap.size w w6) := B3.out.trans (B36.out.mono B3.out.size)
  have HB6 : Hid (RdX w6 (.slice (some x1) n1 c1) B) := HB5.out.below b6
  have cv2 := (R2'.out.below B36.out).str
  have cv3 := (R3.out.below B36.out).str
  have cv5 := (R5.out.below b6).str
  have cv6 := r6.x.str
  clear r6 b6
  go_wp2_with fail
  refine (sum29_any _ B _ HB6.out).mono ?_
  rintro e w7 ⟨rfl, hw⟩
  rw [hw]
  clear hw w7
  go_wp2_with fail
  refine (sum30_any _ B _ HB6.out).mono ?_
  rintro e w7 ⟨rfl, hw⟩
  rw [hw]
  clear hw w7
  go_wp2_with fail
  refine (alive_any _).mono ?_
  rintro e w8 ⟨rfl, b8⟩
  have B8 : Hid (Below w.heap.size w w8) := B6.out.trans (b8.mono B6.out.size)
  clear b8
  go_wp2
  go_ret
  exact ⟨rfl, B8.out⟩

set_option maxRecDepth 100000 in
set_option maxHeartbeats 4000000 in
theorem walk_sn (x0 : Addr) (n0 c0 : Nat) (hn0 : n0 ≤ 1048592) (L B : List UInt8) (w : World) (hL : Hid (L.length = n0)) (hB : Hid (B.length = 0)) (HL : Hid (RdX w (.slice (some x0) n0 c0) L)) (HB : Hid (RdX w (.slice none 0 0) B)) :
    Calls Try.prog 5 #[.slice (some x0) n0 c0, .slice none 0 0] w fun e w' => e = .returned (.bool true) ∧ Below w.heap.size w w' := by
  obtain ⟨i0, hi, hz0, hz1, hz2⟩ := info_parts info5
  have HLm : Hid (L.length ≤ maxLen) := by show _ ≤ _; rw [hL.out]; unfold maxLen; omega
  go_enter Try.func5, Try.ntmps5
  go_wp2_with (at_builtin; refine wpList_append_own _ rfl _ _ 26 rfl w.heap.size 5 i0 (.int .u8 0) 1 1 Try.underlying26 hi hz0 hz1 hz2 rfl (by decide) _ _ _ rfl (own_empty w) x0 n0 c0 (bc L) rfl ?c0 ?c1 ?c2 ?c3 ?c4 ?c5 ?_)
  case c0 => rw [bc_len, Nat.mul_one]; exact hL.out
  case c1 =>
    intro j u hj
    obtain ⟨h1, rfl⟩ := bc_get L j u hj
    have h2 := HL.out.cells j h1
    rw [World.cell?_alloc_lt]
    · exact h2
    · exact cellX_lt h2
  case c2 => exact bc_one L
  case c3 => unfold maxLen; omega
  case c4 => omega
  case c5 => simp
  intro v1 w1 hown hgrow _
  have o9 : Own w1 w.heap.size v1 L := by unfold Own; rw [hL.out]; exact hown
  have b9 : Below w.heap.size w w1 := ((Below.refl _ _).alloc (Nat.le_refl _) _).grown hgrow (by simp) (fun k hk => by simp [Value.ownBlock] at hk; omega)
  have RNc : Hid (Rd w1 v1 L) := o9.rd
  have BNc : Hid (Below w.heap.size w w1) := b9
  clear hown hgrow o9 b9
  go_wp2_with fail
  refine (seal_all _ L _ HLm.out RNc.out).mono ?_
  rintro e w2 ⟨v2, rfl, r2, b2⟩
  have B2 : Hid (Below w.heap.size w w2) := BNc.out.trans (b2.mono BNc.out.size)
  have R2 : Hid (RdX w2 v2 (sealT L)) := r2
  clear r2 b2
  go_wp2_with fail
  refine (rseal_all _ L _ HLm.out (HL.out.below B2.out)).mono ?_
  rintro e w3 ⟨v3, rfl, r3, b3⟩
  have B3 : Hid (Below w.heap.size w w3) := B2.out.trans (b3.mono B2.out.size)
  have R2' : Hid (RdX w3 v2 (sealT L)) := R2.out.below b3
  have R3 : Hid (RdX w3 v3 (sealT L)) := r3
  have HB3 : Hid (RdX w3 (.slice none 0 0) B) := HB.out.below B3.out
  clear r3 b3 R2
  go_wp2_with fail
  have o9 : Own (w3.alloc (.cells #[] 5)) w3.heap.size (.slice (some ⟨w3.heap.size, 0, none⟩) 0 0) B := by
    have h9 : B = [] := List.eq_nil_of_length_eq_zero hB.out
    rw [h9]; exact own_empty w3
  have RNd : Hid (Rd (w3.alloc (.cells #[] 5)) (.slice (some ⟨w3.heap.size, 0, none⟩) 0 0) B) := o9.rd
  have BNd : Hid (Below w3.heap.size w3 (w3.alloc (.cells #[] 5))) := (Below.refl _ _).alloc (Nat.le_refl _) _
  clear o9
  refine (open_any _ B _ RNd.out).mono ?_
  rintro e w5 ⟨v5, rfl, r5, b5⟩
  have B35 : Hid (Below w3.heap.size w3 w5) := BNd.out.trans (b5.mono BNd.out.size)
  have R5 : Hid (RdX w5 v5 (openB B)) := r5.x
  have HB5 : Hid (RdX w5 (.slice none 0 0) B) := HB3.out.below B35.out
  clear r5 b5
  go_wp2_with fail
  refine (ropen_any _ B _ HB5.out).mono ?_
  rintro e w6 ⟨v6, rfl, r6, b6⟩
  have B36 : Hid (Below w3.heap.size w3 w6) := B35.out.trans (b6.mono B35.out.size)
  have B6 : Hid (Below w.heap.size w w6) := B3.out.trans (B36.out.mono B3.out.size)
  have HB6 : Hid (RdX w6 (.slice none 0 0) B) := HB5.out.below b6
  have cv2 := (R2'.out.below B36.out).str
  have cv3 := (R3.out.below B36.out).str
  have cv5 := (R5.out.below b6).str
  have cv6 := r6.x.str
  clear r6 b6
  go_wp2_with fail
  refine (sum29_any _ B _ HB6.out).mono ?_
  rintro e w7 ⟨rfl, hw⟩
  rw [hw]
  clear hw w7
  go_wp2_with fail
  refine (sum30_any _ B _ HB6.out).mono ?_
  rintro e w7 ⟨rfl, hw⟩
  rw [hw]
  clear hw w7
  go_wp2_with fail
  refine (alive_any _).mono ?_
  rintro e w8 ⟨rfl, b8⟩
  have B8 : Hid (Below w.heap.size w w8) := B6.out.trans (b8.mono B6.out.size)
  clear b8
  go_wp2
  go_ret
  exact ⟨rfl, B8.out⟩

set_option maxRecDepth 100000 in
set_option maxHeartbeats 4000000 in
theorem walk_nn (L B : List UInt8) (w : World) (hL : Hid (L.length = 0)) (hB : Hid (B.length = 0)) (HL : Hid (RdX w (.slice none 0 0) L)) (HB : Hid (RdX w (.slice none 0 0) B)) :
    Calls Try.prog 5 #[.slice none 0 0, .slice none 0 0] w fun e w' => e = .returned (.bool true) ∧ Below w.heap.size w w' := by
  obtain ⟨i0, hi, hz0, hz1, hz2⟩ := info_parts info5
  have HLm : Hid (L.length ≤ maxLen) := by show _ ≤ _; rw [hL.out]; unfold maxLen; omega
  go_enter Try.func5, Try.ntmps5
  go_wp2_with fail
  have o9 : Own (w.alloc (.cells #[] 5)) w.heap.size (.slice (some ⟨w.heap.size, 0, none⟩) 0 0) L := by
    have h9 : L = [] := List.eq_nil_of_length_eq_zero hL.out
    rw [h9]; exact own_empty w
  have RNc : Hid (Rd (w.alloc (.cells #[] 5)) (.slice (some ⟨w.heap.size, 0, none⟩) 0 0) L) := o9.rd
  have BNc : Hid (Below w.heap.size w (w.alloc (.cells #[] 5))) := (Below.refl _ _).alloc (Nat.le_refl _) _
  clear o9
  refine (seal_all _ L _ HLm.out RNc.out).mono ?_
  rintro e w2 ⟨v2, rfl, r2, b2⟩
  have B2 : Hid (Below w.heap.size w w2) := BNc.out.trans (b2.mono BNc.out.size)
  have R2 : Hid (RdX w2 v2 (sealT L)) := r2
  clear r2 b2
  go_wp2_with fail
  refine (rseal_all _ L _ HLm.out (HL.out.below B2.out)).mono ?_
  rintro e w3 ⟨v3, rfl, r3, b3⟩
  have B3 : Hid (Below w.heap.size w w3) := B2.out.trans (b3.mono B2.out.size)
  have R2' : Hid (RdX w3 v2 (sealT L)) := R2.out.below b3
  have R3 : Hid (RdX w3 v3 (sealT L)) := r3
  have HB3 : Hid (RdX w3 (.slice none 0 0) B) := HB.out.below B3.out
  clear r3 b3 R2
  go_wp2_with fail
  have o9 : Own (w3.alloc (.cells #[] 5)) w3.heap.size (.slice (some ⟨w3.heap.size, 0, none⟩) 0 0) B := by
    have h9 : B = [] := List.eq_nil_of_length_eq_zero hB.out
    rw [h9]; exact own_empty w3
  have RNd : Hid (Rd (w3.alloc (.cells #[] 5)) (.slice (some ⟨w3.heap.size, 0, none⟩) 0 0) B) := o9.rd
  have BNd : Hid (Below w3.heap.size w3 (w3.alloc (.cells #[] 5))) := (Below.refl _ _).alloc (Nat.le_refl _) _
  clear o9
  refine (open_any _ B _ RNd.out).mono ?_
  rintro e w5 ⟨v5, rfl, r5, b5⟩
  have B35 : Hid (Below w3.heap.size w3 w5) := BNd.out.trans (b5.mono BNd.out.size)
  have R5 : Hid (RdX w5 v5 (openB B)) := r5.x
  have HB5 : Hid (RdX w5 (.slice none 0 0) B) := HB3.out.below B35.out
  clear r5 b5
  go_wp2_with fail
  refine (ropen_any _ B _ HB5.out).mono ?_
  rintro e w6 ⟨v6, rfl, r6, b6⟩
  have B36 : Hid (Below w3.heap.size w3 w6) := B35.out.trans (b6.mono B35.out.size)
  have B6 : Hid (Below w.heap.size w w6) := B3.out.trans (B36.out.mono B3.out.size)
  have HB6 : Hid (RdX w6 (.slice none 0 0) B) := HB5.out.below b6
  have cv2 := (R2'.out.below B36.out).str
  have cv3 := (R3.out.below B36.out).str
  have cv5 := (R5.out.below b6).str
  have cv6 := r6.x.str
  clear r6 b6
  go_wp2_with fail
  refine (sum29_any _ B _ HB6.out).mono ?_
  rintro e w7 ⟨rfl, hw⟩
  rw [hw]
  clear hw w7
  go_wp2_with fail
  refine (sum30_any _ B _ HB6.out).mono ?_
  rintro e w7 ⟨rfl, hw⟩
  rw [hw]
  clear hw w7
  go_wp2_with fail
  refine (alive_any _).mono ?_
  rintro e w8 ⟨rfl, b8⟩
  have B8 : Hid (Below w.heap.size w w8) := B6.out.trans (b8.mono B6.out.size)
  clear b8
  go_wp2
  go_ret
  exact ⟨rfl, B8.out⟩

theorem walk (a0 : Option Addr) (len0 cap0 : Nat) (z0 : List Int) (a1 : Option Addr) (len1 cap1 : Nat) (z1 : List Int) (w : World) (w0 : IsRow .u8 w a0 len0 cap0 z0) (w1 : IsRow .u8 w a1 len1 cap1 z1) :
    Calls Try.prog 5 #[.slice a0 len0 cap0, .slice a1 len1 cap1] w fun e w' => e = .returned (.bool true) ∧ Below w.heap.size w w' := by
  obtain ⟨hm0, L, hL, hr0⟩ := row_bytes w0
  obtain ⟨hm1, B, hB, hr1⟩ := row_bytes w1
  by_cases h0 : 1048592 < len0
  · exact walk_long0 a0 a1 len0 cap0 len1 cap1 w h0 hm0
  · by_cases h1 : 1048640 < len1
    · exact walk_long1 a0 a1 len0 cap0 len1 cap1 w (by omega) h1 hm1
    · rcases w0 with ⟨rfl, rfl, rfl, _⟩ | ⟨x0, rfl, _⟩
      · rcases w1 with ⟨rfl, rfl, rfl, _⟩ | ⟨x1, rfl, _⟩
        · exact walk_nn L B w hL hB hr0 hr1
        · exact walk_ns x1 len1 cap1 (by omega) L B w hL hB hr0 hr1
      · rcases w1 with ⟨rfl, rfl, rfl, _⟩ | ⟨x1, rfl, _⟩
        · exact walk_sn x0 len0 cap0 (by omega) L B w hL hB hr0 hr1
        · exact walk_ss x0 len0 cap0 (by omega) x1 len1 cap1 (by omega) L B w hL hB hr0 hr1

/-! ### THE ROW's STEP: WRITTEN OUT: LEAVE IT -/
set_option maxRecDepth 100000 in
theorem lifted (os : Os) (started : os.Started) (H : Type) (enc : TypeId × Value → H) :
    ReturnsInHanded {} Try.checked os 5 .any (Rows.packSealsSpec.pre6 enc Try.prog Try.f5 Rows.packSealsRow.domain false) (Rows.packSealsSpec.post enc Try.prog Try.f5 false true false false) := by
  refine returnsInHanded_of_change (C := Try.checked) own started (by kernel_rfl) Try.func5
    (ChangeSpec.witness6 (enc := enc) (C := Try.checked) false ⟨#[], #[.slice none 0 0, .slice none 0 0], []⟩ 8 (by kernel_rfl) (by kernel_rfl) (by kernel_rfl) (by kernel_rfl)) ?_
  intro W base args ds gs before hval0 hW hcnd _
  have hval : ∀ (j : Nat) t v, Try.f5.params[j]? = some t → args[j]? = some v → Value.okWide Try.prog W .any base t v := hval0
  have hW' := hW
  obtain ⟨p, q, hA0, hV, rfl, hfz, hnd⟩ := hW
  have hA : DataW.TrodAll enc Try.prog W 0 (fun _ => true) true Try.f5.params.toList args.toList ds p := hA0
  rw [Try.params5] at hA hval
  obtain ⟨v0, vs0, d0, ds0, p0, q0, hargs, rfl, rfl, h0, r0⟩ := trodAll_cons hA
  obtain ⟨v1, vs1, d1, ds1, p1, q1, rfl, rfl, rfl, h1, r1⟩ := trodAll_cons r0
  obtain ⟨rfl, rfl, rfl⟩ := trodAll_nil r1
  obtain rfl : args = #[v0, v1] := by cases args; simp_all
  obtain ⟨rfl, rfl⟩ := trodVars_none hV
  obtain ⟨a0, len0, cap0, rfl⟩ := okWide_slice Try.underlying26 (hval 0 26 v0 rfl rfl)
  have k0 := h0
  have lt0 : ∀ x ∈ p0, x.block < W.heap.size := by obtain ⟨m, hm⟩ := k0; exact DataW.trod_lt m _ _ _ hm
  obtain ⟨z0, w0⟩ : ∃ zs, IsRow .u8 W a0 len0 cap0 zs := by
    obtain ⟨fuel, hf⟩ := h0
    rcases open_ints Try.underlying26 Try.underlying5 (by kernel_rfl) hf with ⟨hcs, _⟩ | ⟨x, l, c, zs, hcs, _, hl, hm, hz, _, hcell, hwz⟩
    · simp [Value.cells] at hcs
      obtain ⟨rfl, rfl, rfl⟩ := hcs
      exact ⟨[], .inl ⟨rfl, rfl, rfl, rfl⟩⟩
    · simp [Value.cells] at hcs
      obtain ⟨rfl, rfl, rfl⟩ := hcs
      exact ⟨zs, .inr ⟨_, rfl, hl, hm, by simpa using hz, hcell, hwz⟩⟩
  obtain ⟨a1, len1, cap1, rfl⟩ := okWide_slice Try.underlying26 (hval 1 26 v1 rfl rfl)
  have k1 := h1
  have lt1 : ∀ x ∈ p1, x.block < W.heap.size := by obtain ⟨m, hm⟩ := k1; exact DataW.trod_lt m _ _ _ hm
  obtain ⟨z1, w1⟩ : ∃ zs, IsRow .u8 W a1 len1 cap1 zs := by
    obtain ⟨fuel, hf⟩ := h1
    rcases open_ints Try.underlying26 Try.underlying5 (by kernel_rfl) hf with ⟨hcs, _⟩ | ⟨x, l, c, zs, hcs, _, hl, hm, hz, _, hcell, hwz⟩
    · simp [Value.cells] at hcs
      obtain ⟨rfl, rfl, rfl⟩ := hcs
      exact ⟨[], .inl ⟨rfl, rfl, rfl, rfl⟩⟩
    · simp [Value.cells] at hcs
      obtain ⟨rfl, rfl, rfl⟩ := hcs
      exact ⟨zs, .inr ⟨_, rfl, hl, hm, by simpa using hz, hcell, hwz⟩⟩
  clear hA0 hval0
  refine (walk a0 len0 cap0 z0 a1 len1 cap1 z1 W w0 w1).mono fun e W' ⟨he, bel⟩ => ?_
  subst he
  exact ⟨_, rfl, _, _, _, [], _, [], hW', trodAll_mk1 (shut_bool Try.underlying4 _), (trodAll_cons_mk (Below.trod laidOut (by kernel_rfl) (of_decide_eq_true (by kernel_rfl)) k0 bel lt0) (trodAll_cons_mk (Below.trod laidOut (by kernel_rfl) (of_decide_eq_true (by kernel_rfl)) k1 bel lt1) trodAll_mk0)), rfl, bel.frame _, fun h => by cases h⟩

theorem over : Rows.packSealsRow.holds Try.pinned (OpenSpec.ofChange Rows.packSealsSpec) :=
  OpenClaim.holds_of_wide 5 Try.f5 rfl rfl rfl rfl rfl rfl rfl ⟨rfl, rfl, rfl, rfl, rfl⟩ rfl rfl rfl rfl rfl (by kernel_rfl) Try.func5 (by kernel_rfl)
    (of_decide_eq_true (by kernel_rfl)) (by unfold Func.isWrapper; first | (rw [if_pos (by decide +kernel)]; kernel_rfl) | (rw [if_neg (by decide +kernel)]; exact ⟨rfl, rfl⟩))
    (fun os started H enc _ => lifted os started H enc)

/-- ████ THE STATEMENT ████ -/
theorem proved : Rows.PackSealsSaid := over
#print axioms proved
end Go.Proofs.Ytjdcoiekbnefkac.packSeals
