/- InsBack: what is encoded is decoded as it was; it has no conditions. -/
import Derived.Test.YthcidcfaodjbjaaRows
import Derived.Test.YthcidcfaodjbjaaAlive
import Derived.Test.YthcidcfaodjbjaaSame
import Derived.WalkKit
import Derived.ProofKit
import Derived.OpenShut
import Derived.ShutString
import Derived.ChangeOld
import Derived.Below
import Derived.Carry
namespace Go.Proofs.Ythcidcfaodjbjaa.insBack
open Go.ChangeShapes Go.WideShapes Go.ChangeAt Go.RowKit
set_option linter.unusedVariables false

theorem own : ownKnob Try.prog.godebug = none := by kernel_rfl
theorem laidOut : laidOutB Try.prog = true := by kernel_rfl

theorem isl_len {w : World} {v : Value} {l : List In} (h : ISl w v l) : ∃ a c, v = .slice a l.length c ∧ l.length ≤ c ∧ c ≤ maxLen := by
  obtain ⟨ad, cap, b, o, rfl, h2, h3, _⟩ := h
  exact ⟨_, _, rfl, h2, h3⟩
set_option maxRecDepth 100000 in
set_option maxHeartbeats 4000000 in
theorem walk (l : List In) (cells : Int) (hc : r64 cells) (v : Value) (w : World) (hv : ISl w v l) (hr : ∀ y ∈ l, InR y) : Calls Try.prog 8 #[v, .int .i64 cells] w fun e w' => e = .returned (.bool true) ∧ Below w.heap.size w w' := by
  have HV : Hid (ISl w v l) := hv
  have HR : Hid (∀ x ∈ l, r64 x.k) := fun x hx => (hr x hx).k
  obtain ⟨a, c, rfl, h1, h2⟩ := isl_len hv
  unfold maxLen at h2
  clear hv hr
  by_cases hlen : 1000 < l.length
  · go_enter Try.func8, Try.ntmps8
    go_wp2
    go_ret
    exact ⟨rfl, Below.refl _ _⟩
  · go_enter Try.func8, Try.ntmps8
    go_wp2_with fail
    refine (encode_any l cells _ w HV.out HR.out).mono ?_
    rintro e w1 ⟨b1, h⟩
    have B1 : Hid (Below w.heap.size w w1) := b1
    clear b1
    by_cases h0 : (checkL l cells).2 = 0
    · rcases h with ⟨hne, _⟩ | ⟨_, v1, rfl, r1⟩
      · exact absurd h0 hne
      obtain ⟨a1, c1, rfl⟩ := rd_sl r1
      have R1 : Hid (Rd w1 _ (encB l)) := r1
      have HDE : Hid (decodeR (encB l) cells = (l, 0)) := decode_enc l cells h0 HR.out
      have hel : (encB l).length ≤ 1000000 := by
        have h6 := (checkL_ok l cells h0).2.1
        have h1 := rowB_len l
        have h2 := uintF_len 9 l.length
        unfold encB uintB
        rw [List.length_append]
        omega
      clear r1 h0
      go_wp2_with fail
      refine (decode_any (encB l) cells _ w1 hel R1.out).mono ?_
      rintro e w2 ⟨b2, v2, he, i2⟩
      rw [HDE.out] at he i2
      subst he
      have B2 : Hid (Below w.heap.size w w2) := B1.out.trans (b2.mono B1.out.size)
      have I2 : Hid (ISl w2 v2 l) := i2
      obtain ⟨a2, c2, rfl, _, _⟩ := isl_len i2
      have A2 : Hid (ISl w2 (.slice a l.length c) l) := (HV.out.below B1.out).below b2
      clear b2 i2
      go_wp2_with fail
      refine (same_true l _ _ w2 A2.out I2.out).mono ?_
      rintro e w3 ⟨rfl, b3⟩
      have B3 : Hid (Below w.heap.size w w3) := B2.out.trans (b3.mono B2.out.size)
      clear b3
      go_wp2_with fail
      refine (alive_any _).mono ?_
      rintro e w4 ⟨rfl, b4⟩
      have B4 : Hid (Below w.heap.size w w4) := B3.out.trans (b4.mono B3.out.size)
      clear b4
      go_wp2
      go_ret
      exact ⟨rfl, B4.out⟩
    · obtain ⟨c2, hc2⟩ : ∃ c, (checkL l cells).2 = c := ⟨_, rfl⟩
      obtain ⟨c1, hc1⟩ : ∃ c, (checkL l cells).1 = c := ⟨_, rfl⟩
      have HCK : Hid (Calls Try.prog 14 #[.slice a l.length c, .int .i64 cells] w1 fun e w'' => e = .returned (.tuple #[.int .i64 c1, .int .i64 c2]) ∧ Below w1.heap.size w1 w'') := by rw [← hc1, ← hc2]; exact check_any l cells _ w1 (HV.out.below B1.out)
      have hc20 : ¬ c2 = 0 := by rw [← hc2]; exact h0
      obtain rfl := (show e = _ by rcases h with ⟨_, h⟩ | ⟨h, _⟩; · exact h
                                   · exact absurd h h0)
      rw [hc2]
      clear hc1 hc2 h0 h
      go_wp2_with fail
      all_goals first | (exfalso; simp_all; done) | skip
      refine HCK.out.mono ?_
      rintro e w2 ⟨rfl, b2⟩
      have B2 : Hid (Below w.heap.size w w2) := B1.out.trans (b2.mono B1.out.size)
      clear b2
      go_wp2_with fail
      refine (alive_any _).mono ?_
      rintro e w3 ⟨rfl, b3⟩
      have B3 : Hid (Below w.heap.size w w3) := B2.out.trans (b3.mono B2.out.size)
      clear b3 B2
      go_wp2
      go_ret
      exact ⟨rfl, B3.out⟩

set_option maxRecDepth 100000 in
theorem lifted (os : Os) (started : os.Started) (H : Type) (enc : TypeId × Value → H) :
    ReturnsInHanded {} Try.checked os 8 .any (Rows.insBackSpec.pre6 enc Try.prog Try.f8 Rows.insBackRow.domain false) (Rows.insBackSpec.post enc Try.prog Try.f8 false true false false) := by
  refine returnsInHanded_of_change (C := Try.checked) own started (by kernel_rfl) Try.func8
    (ChangeSpec.witness6 (enc := enc) (C := Try.checked) false ⟨#[], #[.slice none 0 0, .int .i64 0], []⟩ 8 (by kernel_rfl) (by kernel_rfl) (by kernel_rfl) (by kernel_rfl)) ?_
  intro W base args ds gs before hval0 hW hcnd _
  have hval : ∀ (j : Nat) t v, Try.f8.params[j]? = some t → args[j]? = some v → Value.okWide Try.prog W .any base t v := hval0
  have hW' := hW
  obtain ⟨p, q, hA0, hV, rfl, hfz, hnd⟩ := hW
  have hA : DataW.TrodAll enc Try.prog W 0 (fun _ => true) true Try.f8.params.toList args.toList ds p := hA0
  rw [Try.params8] at hA hval
  obtain ⟨v0, vs0, d0, ds0, p0, q0, hargs, rfl, rfl, h0, r0⟩ := trodAll_cons hA
  obtain ⟨v1, vs1, d1, ds1, p1, q1, rfl, rfl, rfl, h1, r1⟩ := trodAll_cons r0
  obtain ⟨rfl, rfl, rfl⟩ := trodAll_nil r1
  obtain rfl : args = #[v0, v1] := by cases args; simp_all
  obtain ⟨rfl, rfl⟩ := trodVars_none hV
  obtain ⟨a0, len0, cap0, rfl⟩ := okWide_slice Try.underlying32 (hval 0 32 v0 rfl rfl)
  obtain ⟨a1, rfl, rfl, rfl, w1⟩ := open_int Try.underlying3 (hval 1 3 v1 rfl rfl) h1
  have k0 := h0
  have lt0 : ∀ x ∈ p0, x.block < W.heap.size := by obtain ⟨m, hm⟩ := k0; exact DataW.trod_lt m _ _ _ hm
  obtain ⟨l, hE, hR⟩ : ∃ l, ISl W (.slice a0 len0 cap0) l ∧ ∀ y ∈ l, InR y := by
    obtain ⟨fuel, hf⟩ := h0
    exact open_row hf
  clear hA0 hval0
  refine (walk l a1 (wf_i64 w1) _ W hE hR).mono fun e W' ⟨he, bel⟩ => ?_
  subst he
  exact ⟨_, rfl, _, _, _, [], _, [], hW', trodAll_mk1 (shut_bool Try.underlying4 _), (trodAll_cons_mk (Below.trod laidOut (by kernel_rfl) (of_decide_eq_true (by kernel_rfl)) k0 bel lt0) (trodAll_cons_mk (shut_int Try.underlying3 w1) trodAll_mk0)), rfl, bel.frame _, fun h => by cases h⟩

theorem over : Rows.insBackRow.holds Try.pinned (OpenSpec.ofChange Rows.insBackSpec) :=
  OpenClaim.holds_of_wide 8 Try.f8 rfl rfl rfl rfl rfl rfl rfl ⟨rfl, rfl, rfl, rfl, rfl⟩ rfl rfl rfl rfl rfl (by kernel_rfl) Try.func8 (by kernel_rfl)
    (of_decide_eq_true (by kernel_rfl)) (by unfold Func.isWrapper; first | (rw [if_pos (by decide +kernel)]; kernel_rfl) | (rw [if_neg (by decide +kernel)]; exact ⟨rfl, rfl⟩))
    (fun os started H enc _ => lifted os started H enc)

/-- ████ THE STATEMENT ████ -/
theorem proved : Rows.InsBackSaid := over
#print axioms proved
end Go.Proofs.Ythcidcfaodjbjaa.insBack
