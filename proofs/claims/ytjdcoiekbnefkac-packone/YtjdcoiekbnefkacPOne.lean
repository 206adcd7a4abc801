/- PackOne: bytes of at most 4,096 that are taken up as numbers without an error are those of these numbers; it has no conditions. -/
import Derived.Test.YtjdcoiekbnefkacRows
import Derived.Test.YtjdcoiekbnefkacWhole
import Derived.Test.YtjdcoiekbnefkacRefS
import Derived.WalkKit
import Derived.ProofKit
import Derived.OpenShut
import Derived.ShutString
import Derived.ChangeOld
import Derived.Below
namespace Go.Proofs.Ytjdcoiekbnefkac.packOne
open Go.ChangeShapes Go.WideShapes Go.ChangeAt Go.RowKit
open Go.ChangeMaps (open_string shut_string)
set_option linter.unusedVariables false

theorem own : ownKnob Try.prog.godebug = none := by kernel_rfl
theorem laidOut : laidOutB Try.prog = true := by kernel_rfl

/-- WHAT THE WALK IS TOLD OF A SLICE OF INTEGERS THAT CAME IN: it is nil; or it leads to a row of 'cap' cells, the numbers 'zs' (the first 'len' are its elements, the rest its spare room), each fitting its kind. -/
def IsRow (k : IntKind) (w : World) (a : Option Addr) (len cap : Nat) (zs : List Int) : Prop :=
  (a = none ∧ len = 0 ∧ cap = 0 ∧ zs = []) ∨
  ∃ x, a = some x ∧ len ≤ cap ∧ cap ≤ maxLen ∧ zs.length = cap ∧ (∀ i, i < zs.length → w.cell? (x.add i) = some (.int k (zs.getD i 0))) ∧ ∀ n ∈ zs, (Lit.int k n).wf = true

theorem row_bytes {w : World} {a : Option Addr} {n cap : Nat} {zs : List Int} (h : IsRow .u8 w a n cap zs) : n ≤ maxLen ∧ ∃ L, L.length = n ∧ RdX w (.slice a n cap) L := by
  rcases h with ⟨rfl, rfl, rfl, rfl⟩ | ⟨x, rfl, h1, h2, h3, h4, h5⟩
  · exact ⟨by unfold maxLen; omega, [], rfl, Or.inl ⟨rfl, rfl⟩⟩
  · have hl : ((zs.take n).map fun z => UInt8.ofNat z.toNat).length = n := by simp; omega
    refine ⟨by omega, (zs.take n).map fun z => UInt8.ofNat z.toNat, hl, Or.inr ⟨x, cap, by rw [hl], by rw [hl]; exact h1, h2, fun j hj => ?_⟩⟩
    have hj' : j < zs.length := by simp at hj; omega
    rw [h4 j hj']
    have hz := h5 zs[j] (List.getElem_mem hj')
    have hb := bounds_u8 hz
    have e : zs.getD j 0 = zs[j] := by simp [List.getD, List.getElem?_eq_getElem hj']
    rw [e]
    simp
    omega


/-- how many bytes are left, as the reader's cell tells it -/
def lenAt (w : World) (pb : Nat) : Nat := match w.cell? ⟨pb, 0, none⟩ with | some (.slice _ n _) => n | _ => 0
theorem RS.lenAt {w : World} {pb : Nat} {L : List UInt8} {f : Int} (h : RS w pb L f) : lenAt w pb = L.length := by
  obtain ⟨v, h1, _, _, _, _, h6⟩ := h
  unfold packOne.lenAt
  rw [h1]
  rcases h6 with ⟨rfl, rfl⟩ | ⟨g, off, cap, rfl, _⟩
  · rfl
  · rfl

theorem uintB_pos (n : Nat) : 0 < (uintB n).length := by
  unfold uintB uintF
  split <;> simp
theorem tk_err : ∀ (L : List UInt8) (i n : Nat) (k : Int), tk i n L = .err k → k = 20 ∨ k = 21
  | [], i, n, k, h => by unfold tk at h; injection h with h; exact Or.inl h.symm
  | c :: R, i, n, k, h => by
    unfold tk at h
    split at h
    · injection h with h; exact Or.inr h.symm
    · split at h
      · cases h
      · exact tk_err R _ _ k h

set_option maxRecDepth 100000 in
set_option maxHeartbeats 400000 in
theorem walk_long (a : Option Addr) (n cap : Nat) (w : World) (hn : 4096 < n) (hm : n ≤ maxLen) :
    Calls Try.prog 4 #[.slice a n cap] w fun e w' => e = .returned (.bool true) ∧ Below w.heap.size w w' := by
  unfold maxLen at hm
  go_enter Try.func4, Try.ntmps4
  go_wp2
  go_ret
  exact ⟨rfl, Below.refl _ _⟩

set_option maxRecDepth 100000 in
set_option maxHeartbeats 4000000 in
theorem walk_s (x0 : Addr) (n0 c0 : Nat) (hn0 : n0 ≤ 4096) (L : List UInt8) (w : World) (hL : Hid (L.length = n0)) (HL : Hid (RdX w (.slice (some x0) n0 c0) L)) :
    Calls Try.prog 4 #[.slice (some x0) n0 c0] w fun e w' => e = .returned (.bool true) ∧ Below w.heap.size w w' := by
  obtain ⟨i0, hi, hz0, hz1, hz2⟩ := info_parts info5
  have HL4 : Hid (L.length ≤ 4096) := by show _ ≤ _; rw [hL.out]; omega
  go_enter Try.func4, Try.ntmps4
  go_wp2_with (at_builtin; refine wpList_append_own _ rfl _ _ 26 rfl w.heap.size 5 i0 (.int .u8 0) 1 1 Try.underlying26 hi hz0 hz1 hz2 rfl (by decide) _ _ _ rfl (own_empty w) x0 n0 c0 (bc L) rfl ?c0 ?c1 ?c2 ?c3 ?c4 ?c5 ?_)
  case c0 => rw [bc_len, Nat.mul_one]; exact hL.out
  case c1 =>
    intro j u hj
    obtain ⟨h1, rfl⟩ := bc_get L j u hj
    have h2 : w.cell? (x0.add j) = some (.int .u8 (L[j].toNat : Int)) := by
      rcases HL.out with ⟨h3, _⟩ | ⟨y, cy, h3, _, _, h4⟩
      · cases h3
      · simp only [Value.slice.injEq, Option.some.injEq] at h3
        obtain ⟨rfl, _, _⟩ := h3
        exact h4 j h1
    rw [World.cell?_alloc_lt]
    · exact h2
    · exact cellX_lt h2
  case c2 => exact bc_one L
  case c3 => unfold maxLen; omega
  case c4 => omega
  case c5 => simp
  intro v1 w1 hown hgrow _
  have o9 : Own w1 w.heap.size v1 L := by unfold Own; rw [hL.out]; exact hown
  have b9 : Below w.heap.size w w1 := ((Below.refl _ _).alloc (Nat.le_refl _) _).grown hgrow (by simp) (fun k hk => by simp [Value.ownBlock] at hk; omega)
  have RN : Hid (Rd w1 v1 L) := o9.rd
  have BN : Hid (Below w.heap.size w w1) := b9
  clear hown hgrow o9 b9
  go_wp2_with fail
  refine (read_any _ L _ (by have := HL4.out; omega) RN.out).mono ?_
  rintro e w2 ⟨pr, rfl, hpr, hrs, b2⟩
  have HR2 : Hid (RS w2 pr L 0) := hrs
  have hpr2 := hrs.lt
  have B2 : Hid (Below w.heap.size w w2) := BN.out.trans (b2.mono BN.out.size)
  have hprw : w.heap.size ≤ pr := Nat.le_trans BN.out.size hpr
  clear hrs b2 hpr
  go_wp2_with fail
  refine (new_any w2).mono ?_
  rintro e w3 ⟨rfl, hws, b3⟩
  obtain ⟨pw, hpw⟩ : ∃ pw, w2.heap.size = pw := ⟨_, rfl⟩
  rw [hpw] at hws ⊢
  have HR3 : Hid (RS w3 pr L 0) := HR2.out.below b3
  have HW3 : Hid (WS w3 pw []) := hws
  have B3 : Hid (Below w.heap.size w w3) := B2.out.trans (b3.mono B2.out.size)
  have hrw : pr < pw := by omega
  clear hws b3 HR2 hpr2 hpw
  go_wp2_with fail
  go_loopw [5] (fun _ wr => ∃ (M P : List UInt8), Hid (RS wr pr M 0) ∧ Hid (WS wr pw P) ∧ Hid (P ++ M = L) ∧ Hid (Below w.heap.size w wr)) (fun _ wr => lenAt wr pr)
  case atStart => exact ⟨L, [], HR3, HW3, rfl, B3⟩
  case round =>
    obtain ⟨M, P, HR, HW, HP, HB⟩ := hrel
    have hlen : P.length + M.length ≤ 4096 := by have h1 := HL4.out; rw [← HP.out, List.length_append] at h1; exact h1
    go_wp2_with fail
    refine (left_any pr 0 M _ HR.out (by omega)).mono ?_
    rintro e w4 ⟨rfl, hw⟩
    rw [hw]
    clear hw w4
    obtain ⟨q, hq⟩ : ∃ q, M.length = q := ⟨_, rfl⟩
    rw [hq] at hlen ⊢
    have HQ : Hid (M.length = q) := hq
    clear hq
    by_cases hq0 : q = 0
    · subst hq0
      have HM0 : Hid (M = []) := List.eq_nil_of_length_eq_zero HQ.out
      have HPL : Hid (P = L) := by have h9 := HP.out; rw [HM0.out, List.append_nil] at h9; exact h9
      have HBd : Hid (Below w.heap.size w wr.drew) := HB.out.drew
      have HWd : Hid (WS wr.drew pw L) := by show WS _ _ _; rw [← HPL.out]; exact HW.out
      have cvb : (convert 26 9 (.slice (some x0) n0 c0)).run Try.prog wr.drew = .ok (.string ⟨L.toArray⟩) wr.drew := RdX.str (HL.out.below HBd.out)
      have cvb0 : (convert 26 9 (.slice (some x0) n0 c0)).run Try.prog wr = .ok (.string ⟨L.toArray⟩) wr := RdX.str (HL.out.below HB.out)
      have hLn : L.length ≤ 1000000000 := by have := HL4.out; omega
      go_wp2_with fail
      go_region_with (first | (go_at_call 24; refine (bytes_any pw L _ hLn HWd.out).mono ?_; rintro e w4 ⟨v4, rfl, r4, b4⟩; have cv4 := r4.str; have cvb4 := RdX.str ((HL.out.below HBd.out).below b4); have B4 := HBd.out.trans (b4.mono HBd.out.size); clear r4 b4) | (go_at_call 20; refine (alive_any _).mono ?_; rintro e w5 ⟨rfl, b5⟩))
      all_goals
        have BF : Hid (Below w.heap.size w w5) := B4.trans (b5.mono B4.size)
        clear B4 b5
        go_wp2
        go_ret
        exact ⟨rfl, BF.out⟩
    · go_wp2_with fail
      refine (ruint_any pr 0 M _ HR.out).mono ?_
      intro e w5 hp
      rcases htk : tk 0 0 M with ⟨m, R⟩ | k
      · have hu : uR M 0 = (m, R, 0) := by unfold uR; rw [if_pos rfl, htk]
        rw [hu] at hp
        obtain ⟨rfl, h2, h3, h4⟩ := hp
        have h5 : RS w5 pr R 0 := h2
        obtain ⟨hm64, hMR⟩ := tk_back M m R htk
        have HMR : Hid (M = uintB m ++ R) := hMR
        have H5 : Hid (RS w5 pr R 0) := h5
        have B5 : Hid (Below w.heap.size w w5) := HB.out.trans (h3.mono hprw)
        have HW5 : Hid (WS w5 pw P) := HW.out.other h4 h3.size hrw
        clear h2 h3 h4 h5 hu htk hMR
        go_wp2_with fail
        refine (fail_any pr 0 R _ H5.out).mono ?_
        rintro e w6 ⟨rfl, hw⟩
        rw [hw]
        clear hw w6
        go_wp2_with fail
        refine (uint_any pw m P _ hm64 (by omega) HW5.out).mono ?_
        rintro e w6 ⟨rfl, hws, b6⟩
        have H6 : Hid (RS w6 pr R 0) := H5.out.belowAt hrw b6
        have HW6 : Hid (WS w6 pw (P ++ uintB m)) := hws
        have B6 : Hid (Below w.heap.size w w6) := B5.out.trans (b6.mono (by omega))
        have HP6 : Hid (P ++ uintB m ++ R = L) := by show _ = _; rw [List.append_assoc, ← HMR.out]; exact HP.out
        have HME : Hid (lenAt w6 pr < lenAt wr pr) := by
          show _ < _
          rw [RS.lenAt H6.out, RS.lenAt HR.out, HMR.out, List.length_append]
          have := uintB_pos m
          omega
        clear hws b6
        go_wp2
        go_roundw
        case rel => exact ⟨R, P ++ uintB m, H6, HW6, HP6, B6⟩
        case measure => exact HME.out
      · have hu : uR M 0 = (0, [], k) := by unfold uR; rw [if_pos rfl, htk]
        rw [hu] at hp
        obtain ⟨rfl, h2, h3, h4⟩ := hp
        have H5 : Hid (RS w5 pr [] k) := h2
        have B5 : Hid (Below w.heap.size w w5) := HB.out.trans (h3.mono hprw)
        have hk : (k == 0) = false := by rcases tk_err M 0 0 k htk with rfl | rfl <;> rfl
        clear h2 h3 h4 hu htk
        go_wp2_with fail
        refine (fail_any pr k [] _ H5.out).mono ?_
        rintro e w6 ⟨rfl, hw⟩
        rw [hw]
        clear hw w6
        go_wp2_with fail
        refine (alive_any _).mono ?_
        rintro e w6 ⟨rfl, b6⟩
        have B6 : Hid (Below w.heap.size w w6) := B5.out.trans (b6.mono B5.out.size)
        clear b6
        go_wp2
        go_ret
        exact ⟨rfl, B6.out⟩

set_option maxRecDepth 100000 in
set_option maxHeartbeats 4000000 in
theorem walk_n (L : List UInt8) (w : World) (hL : Hid (L.length = 0)) (HL : Hid (RdX w (.slice none 0 0) L)) :
    Calls Try.prog 4 #[.slice none 0 0] w fun e w' => e = .returned (.bool true) ∧ Below w.heap.size w w' := by
  obtain ⟨i0, hi, hz0, hz1, hz2⟩ := info_parts info5
  have HL4 : Hid (L.length ≤ 4096) := by show _ ≤ _; rw [hL.out]; omega
  go_enter Try.func4, Try.ntmps4
  go_wp2_with fail
  have o9 : Own (w.alloc (.cells #[] 5)) w.heap.size (.slice (some ⟨w.heap.size, 0, none⟩) 0 0) L := by
    have h9 : L = [] := List.eq_nil_of_length_eq_zero hL.out
    rw [h9]; exact own_empty w
  have RN : Hid (Rd (w.alloc (.cells #[] 5)) (.slice (some ⟨w.heap.size, 0, none⟩) 0 0) L) := o9.rd
  have BN : Hid (Below w.heap.size w (w.alloc (.cells #[] 5))) := (Below.refl _ _).alloc (Nat.le_refl _) _
  clear o9
  refine (read_any _ L _ (by have := HL4.out; omega) RN.out).mono ?_
  rintro e w2 ⟨pr, rfl, hpr, hrs, b2⟩
  have HR2 : Hid (RS w2 pr L 0) := hrs
  have hpr2 := hrs.lt
  have B2 : Hid (Below w.heap.size w w2) := BN.out.trans (b2.mono BN.out.size)
  have hprw : w.heap.size ≤ pr := Nat.le_trans BN.out.size hpr
  clear hrs b2 hpr
  go_wp2_with fail
  refine (new_any w2).mono ?_
  rintro e w3 ⟨rfl, hws, b3⟩
  obtain ⟨pw, hpw⟩ : ∃ pw, w2.heap.size = pw := ⟨_, rfl⟩
  rw [hpw] at hws ⊢
  have HR3 : Hid (RS w3 pr L 0) := HR2.out.below b3
  have HW3 : Hid (WS w3 pw []) := hws
  have B3 : Hid (Below w.heap.size w w3) := B2.out.trans (b3.mono B2.out.size)
  have hrw : pr < pw := by omega
  clear hws b3 HR2 hpr2 hpw
  go_wp2_with fail
  go_loopw [5] (fun _ wr => ∃ (M P : List UInt8), Hid (RS wr pr M 0) ∧ Hid (WS wr pw P) ∧ Hid (P ++ M = L) ∧ Hid (Below w.heap.size w wr)) (fun _ wr => lenAt wr pr)
  case atStart => exact ⟨L, [], HR3, HW3, rfl, B3⟩
  case round =>
    obtain ⟨M, P, HR, HW, HP, HB⟩ := hrel
    have hlen : P.length + M.length ≤ 4096 := by have h1 := HL4.out; rw [← HP.out, List.length_append] at h1; exact h1
    go_wp2_with fail
    refine (left_any pr 0 M _ HR.out (by omega)).mono ?_
    rintro e w4 ⟨rfl, hw⟩
    rw [hw]
    clear hw w4
    obtain ⟨q, hq⟩ : ∃ q, M.length = q := ⟨_, rfl⟩
    rw [hq] at hlen ⊢
    have HQ : Hid (M.length = q) := hq
    clear hq
    by_cases hq0 : q = 0
    · subst hq0
      have HM0 : Hid (M = []) := List.eq_nil_of_length_eq_zero HQ.out
      have HPL : Hid (P = L) := by have h9 := HP.out; rw [HM0.out, List.append_nil] at h9; exact h9
      have HBd : Hid (Below w.heap.size w wr.drew) := HB.out.drew
      have HWd : Hid (WS wr.drew pw L) := by show WS _ _ _; rw [← HPL.out]; exact HW.out
      have cvb : (convert 26 9 (.slice none 0 0)).run Try.prog wr.drew = .ok (.string ⟨L.toArray⟩) wr.drew := RdX.str (HL.out.below HBd.out)
      have cvb0 : (convert 26 9 (.slice none 0 0)).run Try.prog wr = .ok (.string ⟨L.toArray⟩) wr := RdX.str (HL.out.below HB.out)
      have hLn : L.length ≤ 1000000000 := by have := HL4.out; omega
      go_wp2_with fail
      go_region_with (first | (go_at_call 24; refine (bytes_any pw L _ hLn HWd.out).mono ?_; rintro e w4 ⟨v4, rfl, r4, b4⟩; have cv4 := r4.str; have cvb4 := RdX.str ((HL.out.below HBd.out).below b4); have B4 := HBd.out.trans (b4.mono HBd.out.size); clear r4 b4) | (go_at_call 20; refine (alive_any _).mono ?_; rintro e w5 ⟨rfl, b5⟩))
      all_goals
        have BF : Hid (Below w.heap.size w w5) := B4.trans (b5.mono B4.size)
        clear B4 b5
        go_wp2
        go_ret
        exact ⟨rfl, BF.out⟩
    · go_wp2_with fail
      refine (ruint_any pr 0 M _ HR.out).mono ?_
      intro e w5 hp
      rcases htk : tk 0 0 M with ⟨m, R⟩ | k
      · have hu : uR M 0 = (m, R, 0) := by unfold uR; rw [if_pos rfl, htk]
        rw [hu] at hp
        obtain ⟨rfl, h2, h3, h4⟩ := hp
        have h5 : RS w5 pr R 0 := h2
        obtain ⟨hm64, hMR⟩ := tk_back M m R htk
        have HMR : Hid (M = uintB m ++ R) := hMR
        have H5 : Hid (RS w5 pr R 0) := h5
        have B5 : Hid (Below w.heap.size w w5) := HB.out.trans (h3.mono hprw)
        have HW5 : Hid (WS w5 pw P) := HW.out.other h4 h3.size hrw
        clear h2 h3 h4 h5 hu htk hMR
        go_wp2_with fail
        refine (fail_any pr 0 R _ H5.out).mono ?_
        rintro e w6 ⟨rfl, hw⟩
        rw [hw]
        clear hw w6
        go_wp2_with fail
        refine (uint_any pw m P _ hm64 (by omega) HW5.out).mono ?_
        rintro e w6 ⟨rfl, hws, b6⟩
        have H6 : Hid (RS w6 pr R 0) := H5.out.belowAt hrw b6
        have HW6 : Hid (WS w6 pw (P ++ uintB m)) := hws
        have B6 : Hid (Below w.heap.size w w6) := B5.out.trans (b6.mono (by omega))
        have HP6 : Hid (P ++ uintB m ++ R = L) := by show _ = _; rw [List.append_assoc, ← HMR.out]; exact HP.out
        have HME : Hid (lenAt w6 pr < lenAt wr pr) := by
          show _ < _
          rw [RS.lenAt H6.out, RS.lenAt HR.out, HMR.out, List.length_append]
          have := uintB_pos m
          omega
        clear hws b6
        go_wp2
        go_roundw
        case rel => exact ⟨R, P ++ uintB m, H6, HW6, HP6, B6⟩
        case measure => exact HME.out
      · have hu : uR M 0 = (0, [], k) := by unfold uR; rw [if_pos rfl, htk]
        rw [hu] at hp
        obtain ⟨rfl, h2, h3, h4⟩ := hp
        have H5 : Hid (RS w5 pr [] k) := h2
        have B5 : Hid (Below w.heap.size w w5) := HB.out.trans (h3.mono hprw)
        have hk : (k == 0) = false := by rcases tk_err M 0 0 k htk with rfl | rfl <;> rfl
        clear h2 h3 h4 hu htk
        go_wp2_with fail
        refine (fail_any pr k [] _ H5.out).mono ?_
        rintro e w6 ⟨rfl, hw⟩
        rw [hw]
        clear hw w6
        go_wp2_with fail
        refine (alive_any _).mono ?_
        rintro e w6 ⟨rfl, b6⟩
        have B6 : Hid (Below w.heap.size w w6) := B5.out.trans (b6.mono B5.out.size)
        clear b6
        go_wp2
        go_ret
        exact ⟨rfl, B6.out⟩

theorem walk (a0 : Option Addr) (len0 cap0 : Nat) (z0 : List Int) (w : World) (w0 : IsRow .u8 w a0 len0 cap0 z0) :
    Calls Try.prog 4 #[.slice a0 len0 cap0] w fun e w' => e = .returned (.bool true) ∧ Below w.heap.size w w' := by
  obtain ⟨hm0, L, hL, hr0⟩ := row_bytes w0
  by_cases h0 : 4096 < len0
  · exact walk_long a0 len0 cap0 w h0 hm0
  · rcases w0 with ⟨rfl, rfl, rfl, _⟩ | ⟨x0, rfl, _⟩
    · exact walk_n L w hL hr0
    · exact walk_s x0 len0 cap0 (by omega) L w hL hr0

/-! ### THE ROW's STEP: WRITTEN OUT: LEAVE IT -/
set_option maxRecDepth 100000 in
theorem lifted (os : Os) (started : os.Started) (H : Type) (enc : TypeId × Value → H) :
    ReturnsInHanded {} Try.checked os 4 .any (Rows.packOneSpec.pre6 enc Try.prog Try.f4 Rows.packOneRow.domain false) (Rows.packOneSpec.post enc Try.prog Try.f4 false true false false) := by
  refine returnsInHanded_of_change (C := Try.checked) own started (by kernel_rfl) Try.func4
    (ChangeSpec.witness6 (enc := enc) (C := Try.checked) false ⟨#[], #[.slice none 0 0], []⟩ 8 (by kernel_rfl) (by kernel_rfl) (by kernel_rfl) (by kernel_rfl)) ?_
  intro W base args ds gs before hval0 hW hcnd _
  have hval : ∀ (j : Nat) t v, Try.f4.params[j]? = some t → args[j]? = some v → Value.okWide Try.prog W .any base t v := hval0
  have hW' := hW
  obtain ⟨p, q, hA0, hV, rfl, hfz, hnd⟩ := hW
  have hA : DataW.TrodAll enc Try.prog W 0 (fun _ => true) true Try.f4.params.toList args.toList ds p := hA0
  rw [Try.params4] at hA hval
  obtain ⟨v0, vs0, d0, ds0, p0, q0, hargs, rfl, rfl, h0, r0⟩ := trodAll_cons hA
  obtain ⟨rfl, rfl, rfl⟩ := trodAll_nil r0
  obtain rfl : args = #[v0] := by cases args; simp_all
  obtain ⟨rfl, rfl⟩ := trodVars_none hV
  obtain ⟨a0, len0, cap0, rfl⟩ := okWide_slice Try.underlying26 (hval 0 26 v0 rfl rfl)
  have k0 := h0
  have lt0 : ∀ x ∈ p0, x.block < W.heap.size := by obtain ⟨m, hm⟩ := k0; exact DataW.trod_lt m _ _ _ hm
  obtain ⟨z0, w0⟩ : ∃ zs, IsRow .u8 W a0 len0 cap0 zs := by
    obtain ⟨fuel, hf⟩ := h0
    rcases open_ints Try.underlying26 Try.underlying5 (by kernel_rfl) hf with ⟨hcs, _⟩ | ⟨x, l, c, zs, hcs, _, hl, hm, hz, _, hcell, hwz⟩
    · simp [Value.cells] at hcs
      obtain ⟨rfl, rfl, rfl⟩ := hcs
      exact ⟨[], .inl ⟨rfl, rfl, rfl, rfl⟩⟩
    · simp [Value.cells] at hcs
      obtain ⟨rfl, rfl, rfl⟩ := hcs
      exact ⟨zs, .inr ⟨_, rfl, hl, hm, by simpa using hz, hcell, hwz⟩⟩
  clear hA0 hval0
  refine (walk a0 len0 cap0 z0 W w0).mono fun e W' ⟨he, bel⟩ => ?_
  subst he
  exact ⟨_, rfl, _, _, _, [], _, [], hW', trodAll_mk1 (shut_bool Try.underlying4 _), (trodAll_cons_mk (Below.trod laidOut (by kernel_rfl) (of_decide_eq_true (by kernel_rfl)) k0 bel lt0) trodAll_mk0), rfl, bel.frame _, fun h => by cases h⟩

theorem over : Rows.packOneRow.holds Try.pinned (OpenSpec.ofChange Rows.packOneSpec) :=
  OpenClaim.holds_of_wide 4 Try.f4 rfl rfl rfl rfl rfl rfl rfl ⟨rfl, rfl, rfl, rfl, rfl⟩ rfl rfl rfl rfl rfl (by kernel_rfl) Try.func4 (by kernel_rfl)
    (of_decide_eq_true (by kernel_rfl)) (by unfold Func.isWrapper; first | (rw [if_pos (by decide +kernel)]; kernel_rfl) | (rw [if_neg (by decide +kernel)]; exact ⟨rfl, rfl⟩))
    (fun os started H enc _ => lifted os started H enc)

/-- ████ THE STATEMENT ████ -/
theorem proved : Rows.PackOneSaid := over
#print axioms proved
end Go.Proofs.Ytjdcoiekbnefkac.packOne
