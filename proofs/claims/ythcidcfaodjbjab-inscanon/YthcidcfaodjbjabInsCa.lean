/- InsCanon: what is decoded of any bytes is encoded as just those; it has no conditions. -/
import Derived.Test.YthcidcfaodjbjabRows
import Derived.Test.YthcidcfaodjbjabAlive
import Derived.Test.YthcidcfaodjbjabArg
import Derived.WalkKit
import Derived.ProofKit
import Derived.OpenShut
import Derived.ShutString
import Derived.ChangeOld
import Derived.Below
import Derived.Carry
namespace Go.Proofs.Ythcidcfaodjbjab.insCanon
open Go.ChangeShapes Go.WideShapes Go.ChangeAt Go.RowKit
set_option linter.unusedVariables false

theorem own : ownKnob Try.prog.godebug = none := by kernel_rfl
theorem laidOut : laidOutB Try.prog = true := by kernel_rfl

theorem isl_len {w : World} {v : Value} {l : List In} (h : ISl w v l) : ∃ a c, v = .slice a l.length c ∧ l.length ≤ c ∧ c ≤ maxLen := by
  obtain ⟨ad, cap, b, o, rfl, h2, h3, _⟩ := h
  exact ⟨_, _, rfl, h2, h3⟩
theorem decode_err (L : List UInt8) (cells : Int) (l : List In) (er : Int) (h : decodeR L cells = (l, er)) (he : er ≠ 0) : l = [] := by
  unfold decodeR at h
  (repeat' split at h) <;> (injection h with h1 h2; first | exact h1.symm | exact absurd h2.symm he)
set_option maxRecDepth 100000 in
set_option maxHeartbeats 4000000 in
theorem walk_s (L : List UInt8) (cells : Int) (x0 : Addr) (n0 c0 : Nat) (hL : Hid (L.length = n0)) (hn : n0 ≤ 16384) (w : World) (HL : Hid (RdX w (.slice (some x0) n0 c0) L)) : Calls Try.prog 3 #[.slice (some x0) n0 c0, .int .i64 cells] w fun e w' => e = .returned (.bool true) ∧ Below w.heap.size w w' := by
  obtain ⟨i0, hi, hz0, hz1, hz2⟩ := info_parts info5
  have hLL : L.length ≤ 16384 := by rw [hL.out]; exact hn
  go_enter Try.func3, Try.ntmps3
  go_wp2_with (at_builtin; refine wpList_append_own _ rfl _ _ 22 rfl w.heap.size 5 i0 (.int .u8 0) 1 1 Try.underlying22 hi hz0 hz1 hz2 rfl (by decide) _ _ _ rfl (own_empty w) x0 n0 c0 (bc L) rfl ?c0 ?c1 ?c2 ?c3 ?c4 ?c5 ?_)
  case c0 => rw [bc_len, Nat.mul_one]; exact hL.out
  case c1 =>
    intro j u hj
    obtain ⟨h1, rfl⟩ := bc_get L j u hj
    have h2 : w.cell? (x0.add j) = some (.int .u8 (L[j].toNat : Int)) := by
      rcases HL.out with ⟨h3, _⟩ | ⟨y, cy, h3, _, _, h4⟩
      · cases h3
      · simp only [Value.slice.injEq, Option.some.injEq] at h3
        obtain ⟨rfl, _, _⟩ := h3
        exact h4 j h1
    rw [World.cell?_alloc_lt]
    · exact h2
    · exact cellX_lt h2
  case c2 => exact bc_one L
  case c3 => unfold maxLen; omega
  case c4 => omega
  case c5 => simp
  intro v1 w1 hown hgrow _
  have o9 : Own w1 w.heap.size v1 L := by unfold Own; rw [hL.out]; exact hown
  have RN : Hid (Rd w1 v1 L) := o9.rd
  have BN : Hid (Below w.heap.size w w1) := ((Below.refl _ _).alloc (Nat.le_refl _) _).grown hgrow (by simp) (fun k hk => by simp [Value.ownBlock] at hk; omega)
  clear hown hgrow o9
  go_wp2_with fail
  refine (decode_any L cells _ _ (by omega) RN.out).mono ?_
  rintro e w2 ⟨b2, v2, he, i2⟩
  have B2 : Hid (Below w.heap.size w w2) := BN.out.trans (b2.mono BN.out.size)
  clear b2
  rcases hd : decodeR L cells with ⟨l, er⟩
  rw [hd] at he i2
  simp only at he i2
  subst he
  obtain ⟨a2, c2, rfl, hlc, hcm⟩ := isl_len i2
  unfold maxLen at hcm
  have I2 : Hid (ISl w2 (.slice a2 l.length c2) l) := i2
  clear i2
  by_cases her : er = 0
  · subst her
    obtain ⟨hck, hrk, henc⟩ := decode_back L cells l hd
    have HCK : Hid ((checkL l cells).2 = 0) := hck
    have HRK : Hid (∀ x ∈ l, r64 x.k) := hrk
    have HEN : Hid (encB l = L) := henc
    clear hd hck hrk henc
    go_wp2_with fail
    refine (encode_any l cells _ w2 I2.out HRK.out).mono ?_
    rintro e w3 ⟨b3, h⟩
    have B3 : Hid (Below w.heap.size w w3) := B2.out.trans (b3.mono B2.out.size)
    clear b3
    rcases h with ⟨hne, _⟩ | ⟨_, v3, rfl, r3⟩
    · exact absurd HCK.out hne
    rw [HEN.out] at r3
    obtain ⟨a3, c3, rfl⟩ := rd_sl r3
    have hs3 := r3.str
    have hs0 := (HL.out.below B3.out).str
    clear r3
    go_wp2_with fail
    refine (alive_any _).mono ?_
    rintro e w4 ⟨rfl, b4⟩
    have B4 : Hid (Below w.heap.size w w4) := B3.out.trans (b4.mono B3.out.size)
    clear b4 hs3 hs0
    go_wp2
    go_ret
    exact ⟨rfl, B4.out⟩
  · have hl0 : l = [] := decode_err L cells l er hd her
    subst hl0
    clear hd
    go_wp2_with fail
    all_goals first | (exfalso; simp_all; done) | skip
    refine (alive_any _).mono ?_
    rintro e w4 ⟨rfl, b4⟩
    have B4 : Hid (Below w.heap.size w w4) := B2.out.trans (b4.mono B2.out.size)
    clear b4
    go_wp2
    go_ret
    exact ⟨rfl, B4.out⟩


set_option maxRecDepth 100000 in
set_option maxHeartbeats 4000000 in
theorem walk_n (L : List UInt8) (cells : Int) (w : World) (hL : Hid (L.length = 0)) (HL : Hid (RdX w (.slice none 0 0) L)) : Calls Try.prog 3 #[.slice none 0 0, .int .i64 cells] w fun e w' => e = .returned (.bool true) ∧ Below w.heap.size w w' := by
  have hLL : L.length ≤ 16384 := by rw [hL.out]; omega
  go_enter Try.func3, Try.ntmps3
  go_wp2_with fail
  have o9 : Own (w.alloc (.cells #[] 5)) w.heap.size (.slice (some ⟨w.heap.size, 0, none⟩) 0 0) L := by
    have h9 : L = [] := List.eq_nil_of_length_eq_zero hL.out
    rw [h9]; exact own_empty w
  have RN : Hid (Rd (w.alloc (.cells #[] 5)) (.slice (some ⟨w.heap.size, 0, none⟩) 0 0) L) := o9.rd
  have BN : Hid (Below w.heap.size w (w.alloc (.cells #[] 5))) := (Below.refl _ _).alloc (Nat.le_refl _) _
  clear o9
  refine (decode_any L cells _ _ (by omega) RN.out).mono ?_
  rintro e w2 ⟨b2, v2, he, i2⟩
  have B2 : Hid (Below w.heap.size w w2) := BN.out.trans (b2.mono BN.out.size)
  clear b2
  rcases hd : decodeR L cells with ⟨l, er⟩
  rw [hd] at he i2
  simp only at he i2
  subst he
  obtain ⟨a2, c2, rfl, hlc, hcm⟩ := isl_len i2
  unfold maxLen at hcm
  have I2 : Hid (ISl w2 (.slice a2 l.length c2) l) := i2
  clear i2
  by_cases her : er = 0
  · subst her
    obtain ⟨hck, hrk, henc⟩ := decode_back L cells l hd
    have HCK : Hid ((checkL l cells).2 = 0) := hck
    have HRK : Hid (∀ x ∈ l, r64 x.k) := hrk
    have HEN : Hid (encB l = L) := henc
    clear hd hck hrk henc
    go_wp2_with fail
    refine (encode_any l cells _ w2 I2.out HRK.out).mono ?_
    rintro e w3 ⟨b3, h⟩
    have B3 : Hid (Below w.heap.size w w3) := B2.out.trans (b3.mono B2.out.size)
    clear b3
    rcases h with ⟨hne, _⟩ | ⟨_, v3, rfl, r3⟩
    · exact absurd HCK.out hne
    rw [HEN.out] at r3
    obtain ⟨a3, c3, rfl⟩ := rd_sl r3
    have hs3 := r3.str
    have hs0 := (HL.out.below B3.out).str
    clear r3
    go_wp2_with fail
    refine (alive_any _).mono ?_
    rintro e w4 ⟨rfl, b4⟩
    have B4 : Hid (Below w.heap.size w w4) := B3.out.trans (b4.mono B3.out.size)
    clear b4 hs3 hs0
    go_wp2
    go_ret
    exact ⟨rfl, B4.out⟩
  · have hl0 : l = [] := decode_err L cells l er hd her
    subst hl0
    clear hd
    go_wp2_with fail
    all_goals first | (exfalso; simp_all; done) | skip
    refine (alive_any _).mono ?_
    rintro e w4 ⟨rfl, b4⟩
    have B4 : Hid (Below w.heap.size w w4) := B2.out.trans (b4.mono B2.out.size)
    clear b4
    go_wp2
    go_ret
    exact ⟨rfl, B4.out⟩


set_option maxRecDepth 100000 in
set_option maxHeartbeats 1000000 in
theorem walk_long (a0 : Option Addr) (n0 c0 : Nat) (cells : Int) (w : World) (h : 16384 < n0) : Calls Try.prog 3 #[.slice a0 n0 c0, .int .i64 cells] w fun e w' => e = .returned (.bool true) ∧ Below w.heap.size w w' := by
  go_enter Try.func3, Try.ntmps3
  go_wp2
  all_goals first | (go_ret; exact ⟨rfl, Below.refl _ _⟩) | (exfalso; omega)
theorem walk (L : List UInt8) (cells : Int) (a0 : Option Addr) (n0 c0 : Nat) (hL : L.length = n0) (hm : n0 ≤ maxLen) (w : World) (h : RdX w (.slice a0 n0 c0) L) : Calls Try.prog 3 #[.slice a0 n0 c0, .int .i64 cells] w fun e w' => e = .returned (.bool true) ∧ Below w.heap.size w w' := by
  by_cases h0 : 16384 < n0
  · exact walk_long a0 n0 c0 cells w h0
  · rcases id h with ⟨h1, h2⟩ | ⟨x, cap, h1, _⟩
    · injection h1 with e1 e2 e3
      subst e1 e2 e3
      exact walk_n L cells w hL h
    · injection h1 with e1 e2 e3
      subst e1
      exact walk_s L cells x n0 c0 hL (by omega) w h

set_option maxRecDepth 100000 in
theorem lifted (os : Os) (started : os.Started) (H : Type) (enc : TypeId × Value → H) :
    ReturnsInHanded {} Try.checked os 3 .any (Rows.insCanonSpec.pre6 enc Try.prog Try.f3 Rows.insCanonRow.domain false) (Rows.insCanonSpec.post enc Try.prog Try.f3 false true false false) := by
  refine returnsInHanded_of_change (C := Try.checked) own started (by kernel_rfl) Try.func3
    (ChangeSpec.witness6 (enc := enc) (C := Try.checked) false ⟨#[], #[.slice none 0 0, .int .i64 0], []⟩ 8 (by kernel_rfl) (by kernel_rfl) (by kernel_rfl) (by kernel_rfl)) ?_
  intro W base args ds gs before hval0 hW hcnd _
  have hval : ∀ (j : Nat) t v, Try.f3.params[j]? = some t → args[j]? = some v → Value.okWide Try.prog W .any base t v := hval0
  have hW' := hW
  obtain ⟨p, q, hA0, hV, rfl, hfz, hnd⟩ := hW
  have hA : DataW.TrodAll enc Try.prog W 0 (fun _ => true) true Try.f3.params.toList args.toList ds p := hA0
  rw [Try.params3] at hA hval
  obtain ⟨v0, vs0, d0, ds0, p0, q0, hargs, rfl, rfl, h0, r0⟩ := trodAll_cons hA
  obtain ⟨v1, vs1, d1, ds1, p1, q1, rfl, rfl, rfl, h1, r1⟩ := trodAll_cons r0
  obtain ⟨rfl, rfl, rfl⟩ := trodAll_nil r1
  obtain rfl : args = #[v0, v1] := by cases args; simp_all
  obtain ⟨rfl, rfl⟩ := trodVars_none hV
  obtain ⟨a0, len0, cap0, rfl⟩ := okWide_slice Try.underlying22 (hval 0 22 v0 rfl rfl)
  obtain ⟨a1, rfl, rfl, rfl, w1⟩ := open_int Try.underlying3 (hval 1 3 v1 rfl rfl) h1
  have k0 := h0
  have lt0 : ∀ x ∈ p0, x.block < W.heap.size := by obtain ⟨m, hm⟩ := k0; exact DataW.trod_lt m _ _ _ hm
  obtain ⟨hm0, L, hL, hE⟩ : len0 ≤ maxLen ∧ ∃ L, L.length = len0 ∧ RdX W (.slice a0 len0 cap0) L := by
    obtain ⟨fuel, hf⟩ := h0
    rcases open_ints Try.underlying22 Try.underlying5 (by kernel_rfl) hf with ⟨hcs, _⟩ | ⟨x, l, c, zs, hcs, _, hl, hm, hz, _, hcell, hwz⟩
    · simp [Value.cells] at hcs
      obtain ⟨rfl, rfl, rfl⟩ := hcs
      exact row_bytes (zs := []) (Or.inl ⟨rfl, rfl, rfl, rfl⟩)
    · simp [Value.cells] at hcs
      obtain ⟨rfl, rfl, rfl⟩ := hcs
      exact row_bytes (zs := zs) (Or.inr ⟨_, rfl, hl, hm, by simpa using hz, hcell, hwz⟩)
  clear hA0 hval0
  refine (walk L a1 a0 len0 cap0 hL hm0 W hE).mono fun e W' ⟨he, bel⟩ => ?_
  subst he
  exact ⟨_, rfl, _, _, _, [], _, [], hW', trodAll_mk1 (shut_bool Try.underlying4 _), (trodAll_cons_mk (Below.trod laidOut (by kernel_rfl) (of_decide_eq_true (by kernel_rfl)) k0 bel lt0) (trodAll_cons_mk (shut_int Try.underlying3 w1) trodAll_mk0)), rfl, bel.frame _, fun h => by cases h⟩

theorem over : Rows.insCanonRow.holds Try.pinned (OpenSpec.ofChange Rows.insCanonSpec) :=
  OpenClaim.holds_of_wide 3 Try.f3 rfl rfl rfl rfl rfl rfl rfl ⟨rfl, rfl, rfl, rfl, rfl⟩ rfl rfl rfl rfl rfl (by kernel_rfl) Try.func3 (by kernel_rfl)
    (of_decide_eq_true (by kernel_rfl)) (by unfold Func.isWrapper; first | (rw [if_pos (by decide +kernel)]; kernel_rfl) | (rw [if_neg (by decide +kernel)]; exact ⟨rfl, rfl⟩))
    (fun os started H enc _ => lifted os started H enc)

/-- ████ THE STATEMENT ████ -/
theorem proved : Rows.InsCanonSaid := over
#print axioms proved
end Go.Proofs.Ythcidcfaodjbjab.insCanon
