/- InsReads: any bytes are read as a text of instructions, or refused at the first fault; it has no conditions. -/
import Derived.Test.YthcidcfaodjbjaaRows
import Derived.Test.YthcidcfaodjbjaaAlive
import Derived.Test.YthcidcfaodjbjaaArg
import Derived.Test.YthcidcfaodjbjaaRdC
import Derived.Test.YthcidcfaodjbjaaRefS
import Derived.WalkKit
import Derived.ProofKit
import Derived.OpenShut
import Derived.ShutString
import Derived.ChangeOld
import Derived.Below
import Derived.Carry
namespace Go.Proofs.Ythcidcfaodjbjaa.insReads
open Go.ChangeShapes Go.WideShapes Go.ChangeAt Go.RowKit
set_option linter.unusedVariables false

theorem own : ownKnob Try.prog.godebug = none := by kernel_rfl
theorem laidOut : laidOutB Try.prog = true := by kernel_rfl

theorem isl_len {w : World} {v : Value} {l : List In} (h : ISl w v l) : ∃ a c, v = .slice a l.length c ∧ l.length ≤ c ∧ c ≤ maxLen := by
  obtain ⟨ad, cap, b, o, rfl, h2, h3, _⟩ := h
  exact ⟨_, _, rfl, h2, h3⟩
theorem rg_of {w : World} {v : Value} {L : List UInt8} (h : RdX w v L) (hp : 0 < w.heap.size) : ∃ W : WG, TG W w ∧ RG W v L := by
  rcases h with ⟨rfl, rfl⟩ | ⟨x, cap, rfl, e2, e3, e4⟩
  · exact ⟨⟨0, w⟩, ⟨rfl, hp⟩, Or.inl ⟨rfl, none, 0, rfl⟩⟩
  · cases L with
    | nil => exact ⟨⟨0, w⟩, ⟨rfl, hp⟩, Or.inl ⟨rfl, some x, cap, rfl⟩⟩
    | cons d R =>
      have h0 := e4 0 (by simp)
      obtain ⟨b, o, spot⟩ := x
      have hsp : spot = none := by simpa [Addr.add] using World.cell?_spot h0
      subst hsp
      refine ⟨⟨b, w⟩, ⟨rfl, ?_⟩, Or.inr ⟨o, cap, rfl, e2, e3, fun i hi => ?_⟩⟩
      · rw [addn] at h0; exact World.block_lt_of_cell? w ⟨b, o + 0, none⟩ h0
      · have := e4 i hi
        rw [addn] at this
        exact this
set_option maxRecDepth 100000 in
set_option maxHeartbeats 4000000 in
theorem walk_s (L : List UInt8) (cells : Int) (x0 : Addr) (n0 c0 : Nat) (hL : Hid (L.length = n0)) (hn : n0 ≤ 16384) (w : World) (HL : Hid (RdX w (.slice (some x0) n0 c0) L)) : Calls Try.prog 7 #[.slice (some x0) n0 c0, .int .i64 cells] w fun e w' => e = .returned (.bool true) ∧ Below w.heap.size w w' := by
  obtain ⟨i0, hi, hz0, hz1, hz2⟩ := info_parts info5
  have hLL : L.length ≤ 16384 := by rw [hL.out]; exact hn
  go_enter Try.func7, Try.ntmps7
  go_wp2_with (at_builtin; refine wpList_append_own _ rfl _ _ 40 rfl w.heap.size 5 i0 (.int .u8 0) 1 1 Try.underlying40 hi hz0 hz1 hz2 rfl (by decide) _ _ _ rfl (own_empty w) x0 n0 c0 (bc L) rfl ?c0 ?c1 ?c2 ?c3 ?c4 ?c5 ?_)
  case c0 => rw [bc_len, Nat.mul_one]; exact hL.out
  case c1 =>
    intro j u hj
    obtain ⟨h1, rfl⟩ := bc_get L j u hj
    have h2 : w.cell? (x0.add j) = some (.int .u8 (L[j].toNat : Int)) := by
      rcases HL.out with ⟨h3, _⟩ | ⟨y, cy, h3, _, _, h4⟩
      · cases h3
      · simp only [Value.slice.injEq, Option.some.injEq] at h3
        obtain ⟨rfl, _, _⟩ := h3
        exact h4 j h1
    rw [World.cell?_alloc_lt]
    · exact h2
    · exact cellX_lt h2
  case c2 => exact bc_one L
  case c3 => unfold maxLen; omega
  case c4 => omega
  case c5 => simp
  intro v1 w1 hown hgrow _
  have o9 : Own w1 w.heap.size v1 L := by unfold Own; rw [hL.out]; exact hown
  have RN : Hid (Rd w1 v1 L) := o9.rd
  have BN : Hid (Below w.heap.size w w1) := ((Below.refl _ _).alloc (Nat.le_refl _) _).grown hgrow (by simp) (fun k hk => by simp [Value.ownBlock] at hk; omega)
  have hposN : 0 < w1.heap.size := by have := hgrow.size; simp at this; omega
  clear hown hgrow o9
  go_wp2_with fail
  refine (decode_any L cells _ _ (by omega) RN.out).mono ?_
  rintro e w2 ⟨b2, v2, he, i2⟩
  have B2 : Hid (Below w.heap.size w w2) := BN.out.trans (b2.mono BN.out.size)
  have hpos2 : 0 < w2.heap.size := by have := b2.size; omega
  clear b2
  obtain ⟨⟨l, er⟩, hd⟩ : ∃ t, decodeR L cells = t := ⟨_, rfl⟩
  have HD : Hid (decodeR L cells = (l, er)) := hd
  rw [hd] at he i2
  simp only at he i2
  subst he
  obtain ⟨a2, c2, rfl, hlc, hcm⟩ := isl_len i2
  have I2 : Hid (ISl w2 (.slice a2 l.length c2) l) := i2
  clear i2 hd hlc hcm
  obtain ⟨W, hTG, hRG⟩ := rg_of (HL.out.below B2.out) hpos2
  have HTG : Hid (TG W w2) := hTG
  have HRG : Hid (RG W _ L) := hRG
  clear hTG hRG hpos2
  go_wp2_with fail
  refine (refDecode_any W _ _ _ L cells w2 (by omega) hL.out.symm HTG.out HRG.out).mono ?_
  rintro e w3 ⟨b3, v3, he, i3⟩
  rw [HD.out] at he i3
  simp only at he i3
  subst he
  have B3 : Hid (Below w.heap.size w w3) := B2.out.trans (b3.mono B2.out.size)
  have I23 : Hid (ISl w3 (.slice a2 l.length c2) l) := I2.out.below b3
  obtain ⟨a3, c3, rfl, hlc, hcm⟩ := isl_len i3
  have I3 : Hid (ISl w3 (.slice a3 l.length c3) l) := i3
  clear b3 i3 hlc hcm
  go_wp2_with fail
  refine (refSame_true l _ _ w3 I23.out I3.out).mono ?_
  rintro e w4 ⟨rfl, b4⟩
  have B4 : Hid (Below w.heap.size w w4) := B3.out.trans (b4.mono B3.out.size)
  have I24 : Hid (ISl w4 (.slice a2 l.length c2) l) := I23.out.below b4
  have I34 : Hid (ISl w4 (.slice a3 l.length c3) l) := I3.out.below b4
  clear b4
  go_wp2_with fail
  refine (same_true l _ _ w4 I24.out I34.out).mono ?_
  rintro e w5 ⟨rfl, b5⟩
  have B5 : Hid (Below w.heap.size w w5) := B4.out.trans (b5.mono B4.out.size)
  clear b5
  go_wp2_with fail
  refine (alive_any _).mono ?_
  rintro e w6 ⟨rfl, b6⟩
  have B6 : Hid (Below w.heap.size w w6) := B5.out.trans (b6.mono B5.out.size)
  clear b6
  go_wp2
  go_ret
  exact ⟨rfl, B6.out⟩


set_option maxRecDepth 100000 in
set_option maxHeartbeats 4000000 in
theorem walk_n (L : List UInt8) (cells : Int) (w : World) (hL : Hid (L.length = 0)) (HL : Hid (RdX w (.slice none 0 0) L)) : Calls Try.prog 7 #[.slice none 0 0, .int .i64 cells] w fun e w' => e = .returned (.bool true) ∧ Below w.heap.size w w' := by
  have hLL : L.length ≤ 16384 := by rw [hL.out]; omega
  go_enter Try.func7, Try.ntmps7
  go_wp2_with fail
  have o9 : Own (w.alloc (.cells #[] 5)) w.heap.size (.slice (some ⟨w.heap.size, 0, none⟩) 0 0) L := by
    have h9 : L = [] := List.eq_nil_of_length_eq_zero hL.out
    rw [h9]; exact own_empty w
  have RN : Hid (Rd (w.alloc (.cells #[] 5)) (.slice (some ⟨w.heap.size, 0, none⟩) 0 0) L) := o9.rd
  have BN : Hid (Below w.heap.size w (w.alloc (.cells #[] 5))) := (Below.refl _ _).alloc (Nat.le_refl _) _
  have hposN : 0 < (w.alloc (.cells #[] 5)).heap.size := by simp
  clear o9
  refine (decode_any L cells _ _ (by omega) RN.out).mono ?_
  rintro e w2 ⟨b2, v2, he, i2⟩
  have B2 : Hid (Below w.heap.size w w2) := BN.out.trans (b2.mono BN.out.size)
  have hpos2 : 0 < w2.heap.size := by have := b2.size; omega
  clear b2
  obtain ⟨⟨l, er⟩, hd⟩ : ∃ t, decodeR L cells = t := ⟨_, rfl⟩
  have HD : Hid (decodeR L cells = (l, er)) := hd
  rw [hd] at he i2
  simp only at he i2
  subst he
  obtain ⟨a2, c2, rfl, hlc, hcm⟩ := isl_len i2
  have I2 : Hid (ISl w2 (.slice a2 l.length c2) l) := i2
  clear i2 hd hlc hcm
  obtain ⟨W, hTG, hRG⟩ := rg_of (HL.out.below B2.out) hpos2
  have HTG : Hid (TG W w2) := hTG
  have HRG : Hid (RG W _ L) := hRG
  clear hTG hRG hpos2
  go_wp2_with fail
  refine (refDecode_any W _ _ _ L cells w2 (by omega) hL.out.symm HTG.out HRG.out).mono ?_
  rintro e w3 ⟨b3, v3, he, i3⟩
  rw [HD.out] at he i3
  simp only at he i3
  subst he
  have B3 : Hid (Below w.heap.size w w3) := B2.out.trans (b3.mono B2.out.size)
  have I23 : Hid (ISl w3 (.slice a2 l.length c2) l) := I2.out.below b3
  obtain ⟨a3, c3, rfl, hlc, hcm⟩ := isl_len i3
  have I3 : Hid (ISl w3 (.slice a3 l.length c3) l) := i3
  clear b3 i3 hlc hcm
  go_wp2_with fail
  refine (refSame_true l _ _ w3 I23.out I3.out).mono ?_
  rintro e w4 ⟨rfl, b4⟩
  have B4 : Hid (Below w.heap.size w w4) := B3.out.trans (b4.mono B3.out.size)
  have I24 : Hid (ISl w4 (.slice a2 l.length c2) l) := I23.out.below b4
  have I34 : Hid (ISl w4 (.slice a3 l.length c3) l) := I3.out.below b4
  clear b4
  go_wp2_with fail
  refine (same_true l _ _ w4 I24.out I34.out).mono ?_
  rintro e w5 ⟨rfl, b5⟩
  have B5 : Hid (Below w.heap.size w w5) := B4.out.trans (b5.mono B4.out.size)
  clear b5
  go_wp2_with fail
  refine (alive_any _).mono ?_
  rintro e w6 ⟨rfl, b6⟩
  have B6 : Hid (Below w.heap.size w w6) := B5.out.trans (b6.mono B5.out.size)
  clear b6
  go_wp2
  go_ret
  exact ⟨rfl, B6.out⟩


set_option maxRecDepth 100000 in
set_option maxHeartbeats 1000000 in
theorem walk_long (a0 : Option Addr) (n0 c0 : Nat) (cells : Int) (w : World) (h : 16384 < n0) : Calls Try.prog 7 #[.slice a0 n0 c0, .int .i64 cells] w fun e w' => e = .returned (.bool true) ∧ Below w.heap.size w w' := by
  go_enter Try.func7, Try.ntmps7
  go_wp2
  all_goals first | (go_ret; exact ⟨rfl, Below.refl _ _⟩) | (exfalso; omega)
theorem walk (L : List UInt8) (cells : Int) (a0 : Option Addr) (n0 c0 : Nat) (hL : L.length = n0) (hm : n0 ≤ maxLen) (w : World) (h : RdX w (.slice a0 n0 c0) L) : Calls Try.prog 7 #[.slice a0 n0 c0, .int .i64 cells] w fun e w' => e = .returned (.bool true) ∧ Below w.heap.size w w' := by
  by_cases h0 : 16384 < n0
  · exact walk_long a0 n0 c0 cells w h0
  · rcases id h with ⟨h1, h2⟩ | ⟨x, cap, h1, _⟩
    · injection h1 with e1 e2 e3
      subst e1 e2 e3
      exact walk_n L cells w hL h
    · injection h1 with e1 e2 e3
      subst e1
      exact walk_s L cells x n0 c0 hL (by omega) w h

set_option maxRecDepth 100000 in
theorem lifted (os : Os) (started : os.Started) (H : Type) (enc : TypeId × Value → H) :
    ReturnsInHanded {} Try.checked os 7 .any (Rows.insReadsSpec.pre6 enc Try.prog Try.f7 Rows.insReadsRow.domain false) (Rows.insReadsSpec.post enc Try.prog Try.f7 false true false false) := by
  refine returnsInHanded_of_change (C := Try.checked) own started (by kernel_rfl) Try.func7
    (ChangeSpec.witness6 (enc := enc) (C := Try.checked) false ⟨#[], #[.slice none 0 0, .int .i64 0], []⟩ 8 (by kernel_rfl) (by kernel_rfl) (by kernel_rfl) (by kernel_rfl)) ?_
  intro W base args ds gs before hval0 hW hcnd _
  have hval : ∀ (j : Nat) t v, Try.f7.params[j]? = some t → args[j]? = some v → Value.okWide Try.prog W .any base t v := hval0
  have hW' := hW
  obtain ⟨p, q, hA0, hV, rfl, hfz, hnd⟩ := hW
  have hA : DataW.TrodAll enc Try.prog W 0 (fun _ => true) true Try.f7.params.toList args.toList ds p := hA0
  rw [Try.params7] at hA hval
  obtain ⟨v0, vs0, d0, ds0, p0, q0, hargs, rfl, rfl, h0, r0⟩ := trodAll_cons hA
  obtain ⟨v1, vs1, d1, ds1, p1, q1, rfl, rfl, rfl, h1, r1⟩ := trodAll_cons r0
  obtain ⟨rfl, rfl, rfl⟩ := trodAll_nil r1
  obtain rfl : args = #[v0, v1] := by cases args; simp_all
  obtain ⟨rfl, rfl⟩ := trodVars_none hV
  obtain ⟨a0, len0, cap0, rfl⟩ := okWide_slice Try.underlying40 (hval 0 40 v0 rfl rfl)
  obtain ⟨a1, rfl, rfl, rfl, w1⟩ := open_int Try.underlying3 (hval 1 3 v1 rfl rfl) h1
  have k0 := h0
  have lt0 : ∀ x ∈ p0, x.block < W.heap.size := by obtain ⟨m, hm⟩ := k0; exact DataW.trod_lt m _ _ _ hm
  obtain ⟨hm0, L, hL, hE⟩ : len0 ≤ maxLen ∧ ∃ L, L.length = len0 ∧ RdX W (.slice a0 len0 cap0) L := by
    obtain ⟨fuel, hf⟩ := h0
    rcases open_ints Try.underlying40 Try.underlying5 (by kernel_rfl) hf with ⟨hcs, _⟩ | ⟨x, l, c, zs, hcs, _, hl, hm, hz, _, hcell, hwz⟩
    · simp [Value.cells] at hcs
      obtain ⟨rfl, rfl, rfl⟩ := hcs
      exact row_bytes (zs := []) (Or.inl ⟨rfl, rfl, rfl, rfl⟩)
    · simp [Value.cells] at hcs
      obtain ⟨rfl, rfl, rfl⟩ := hcs
      exact row_bytes (zs := zs) (Or.inr ⟨_, rfl, hl, hm, by simpa using hz, hcell, hwz⟩)
  clear hA0 hval0
  refine (walk L a1 a0 len0 cap0 hL hm0 W hE).mono fun e W' ⟨he, bel⟩ => ?_
  subst he
  exact ⟨_, rfl, _, _, _, [], _, [], hW', trodAll_mk1 (shut_bool Try.underlying4 _), (trodAll_cons_mk (Below.trod laidOut (by kernel_rfl) (of_decide_eq_true (by kernel_rfl)) k0 bel lt0) (trodAll_cons_mk (shut_int Try.underlying3 w1) trodAll_mk0)), rfl, bel.frame _, fun h => by cases h⟩

theorem over : Rows.insReadsRow.holds Try.pinned (OpenSpec.ofChange Rows.insReadsSpec) :=
  OpenClaim.holds_of_wide 7 Try.f7 rfl rfl rfl rfl rfl rfl rfl ⟨rfl, rfl, rfl, rfl, rfl⟩ rfl rfl rfl rfl rfl (by kernel_rfl) Try.func7 (by kernel_rfl)
    (of_decide_eq_true (by kernel_rfl)) (by unfold Func.isWrapper; first | (rw [if_pos (by decide +kernel)]; kernel_rfl) | (rw [if_neg (by decide +kernel)]; exact ⟨rfl, rfl⟩))
    (fun os started H enc _ => lifted os started H enc)

/-- ████ THE STATEMENT ████ -/
theorem proved : Rows.InsReadsSaid := over
#print axioms proved
end Go.Proofs.Ythcidcfaodjbjaa.insReads
