/- AttemptPlays: whatever is read, written, put out and in, a log is the document's; it has no conditions. -/
import Derived.Test.YtongeppdaeekeaaRows
import Derived.Test.YtongeppdaeekeaaOpm
import Derived.Test.YtongeppdaeekeaaPlB
import Derived.WalkKit
import Derived.ProofKit
import Derived.OpenShut
import Derived.ShutString
import Derived.ChangeOld
import Derived.Below
import Derived.Carry
namespace Go.Proofs.Ytongeppdaeekeaa.attemptPlays
open Go.ChangeShapes Go.WideShapes Go.ChangeAt Go.RowKit
set_option linter.unusedVariables false

theorem own : ownKnob Try.prog.godebug = none := by kernel_rfl
theorem laidOut : laidOutB Try.prog = true := by kernel_rfl

set_option maxRecDepth 100000 in
theorem lifted (os : Os) (started : os.Started) (H : Type) (enc : TypeId × Value → H) :
    ReturnsInHanded {} Try.checked os 3 .any (Rows.attemptPlaysSpec.pre6 enc Try.prog Try.f3 Rows.attemptPlaysRow.domain false) (Rows.attemptPlaysSpec.post enc Try.prog Try.f3 false true false false) := by
  refine returnsInHanded_of_change (C := Try.checked) own started (by kernel_rfl) Try.func3
    (ChangeSpec.witness6 (enc := enc) (C := Try.checked) false ⟨#[], #[.agg #[.int .i64 0, .int .i64 0, .int .i64 0, .slice none 0 0], .slice none 0 0, .slice none 0 0], []⟩ 8 (by kernel_rfl) (by kernel_rfl) (by kernel_rfl) (by kernel_rfl)) ?_
  intro W base args ds gs before hval0 hW hcnd _
  have hval : ∀ (j : Nat) t v, Try.f3.params[j]? = some t → args[j]? = some v → Value.okWide Try.prog W .any base t v := hval0
  have hW' := hW
  obtain ⟨p, q, hA0, hV, rfl, hfz, hnd⟩ := hW
  have hA : DataW.TrodAll enc Try.prog W 0 (fun _ => true) true Try.f3.params.toList args.toList ds p := hA0
  rw [Try.params3] at hA hval
  obtain ⟨v0, vs0, d0, ds0, p0, q0, hargs, rfl, rfl, h0, r0⟩ := trodAll_cons hA
  obtain ⟨v1, vs1, d1, ds1, p1, q1, rfl, rfl, rfl, h1, r1⟩ := trodAll_cons r0
  obtain ⟨v2, vs2, d2, ds2, p2, q2, rfl, rfl, rfl, h2, r2⟩ := trodAll_cons r1
  obtain ⟨rfl, rfl, rfl⟩ := trodAll_nil r2
  obtain rfl : args = #[v0, v1, v2] := by cases args; simp_all
  obtain ⟨rfl, rfl⟩ := trodVars_none hV
  obtain ⟨cs0, rfl, hcs0⟩ := okWide_struct Try.underlying24 (hval 0 24 v0 rfl rfl)
  have k0 := h0
  have lt0 : ∀ x ∈ p0, x.block < W.heap.size := by obtain ⟨m, hm⟩ := k0; exact DataW.trod_lt m _ _ _ hm
  obtain ⟨a1, len1, cap1, rfl⟩ := okWide_slice Try.underlying25 (hval 1 25 v1 rfl rfl)
  have k1 := h1
  have lt1 : ∀ x ∈ p1, x.block < W.heap.size := by obtain ⟨m, hm⟩ := k1; exact DataW.trod_lt m _ _ _ hm
  obtain ⟨a2, len2, cap2, rfl⟩ := okWide_slice Try.underlying26 (hval 2 26 v2 rfl rfl)
  have k2 := h2
  have lt2 : ∀ x ∈ p2, x.block < W.heap.size := by obtain ⟨m, hm⟩ := k2; exact DataW.trod_lt m _ _ _ hm
  obtain ⟨x0, x1, x2, xv, G0, hc, hE0, hR0, u0, u1, u2⟩ : ∃ (n0 n1 n2 : Int) (v : Value) (l : List (Int × Int)), Value.agg cs0 = .agg #[.int .i64 n0, .int .i64 n1, .int .i64 n2, v] ∧ RS kD W v l ∧ (∀ y ∈ l, R64 y.1 ∧ R64 y.2) ∧ R64 n0 ∧ R64 n1 ∧ R64 n2 := by
    obtain ⟨fu, hf⟩ := h0
    obtain ⟨n0, n1, n2, v, l, hy, h⟩ := open_setup hf
    refine ⟨n0, n1, n2, v, l, ?_, h⟩
    congr 1
    apply Array.toList_inj.1
    exact hy
  obtain ⟨G1, hE1, hR1⟩ : ∃ G, RS kX W (.slice a1 len1 cap1) G ∧ ∀ y ∈ G, R64 y.kd ∧ R64 y.at_ ∧ R64 y.fr ∧ R64 y.vl := by
    obtain ⟨m, hm⟩ := h1
    exact open_ops hm
  obtain ⟨G2, hE2, hR2⟩ : ∃ G, RS kN W (.slice a2 len2 cap2) G ∧ ∀ y ∈ G, R64 y := by
    obtain ⟨m, hm⟩ := h2
    exact open_nums hm
  clear hA0 hval0
  have hwk := plays_walk x0 x1 x2 xv _ _ G0 G1 G2 W hE0 hE1 hE2 hR0 hR1 hR2
  rw [← hc] at hwk
  refine hwk.mono fun e W' ⟨he, bel⟩ => ?_
  subst he
  exact ⟨_, rfl, _, _, _, [], _, [], hW', trodAll_mk1 (shut_bool Try.underlying4 _), (trodAll_cons_mk (Below.trod laidOut (by kernel_rfl) (of_decide_eq_true (by kernel_rfl)) k0 bel lt0) (trodAll_cons_mk (Below.trod laidOut (by kernel_rfl) (of_decide_eq_true (by kernel_rfl)) k1 bel lt1) (trodAll_cons_mk (Below.trod laidOut (by kernel_rfl) (of_decide_eq_true (by kernel_rfl)) k2 bel lt2) trodAll_mk0))), rfl, bel.frame _, fun h => by cases h⟩

theorem over : Rows.attemptPlaysRow.holds Try.pinned (OpenSpec.ofChange Rows.attemptPlaysSpec) :=
  OpenClaim.holds_of_wide 3 Try.f3 rfl rfl rfl rfl rfl rfl rfl ⟨rfl, rfl, rfl, rfl, rfl⟩ rfl rfl rfl rfl rfl (by kernel_rfl) Try.func3 (by kernel_rfl)
    (of_decide_eq_true (by kernel_rfl)) (by unfold Func.isWrapper; first | (rw [if_pos (by decide +kernel)]; kernel_rfl) | (rw [if_neg (by decide +kernel)]; exact ⟨rfl, rfl⟩))
    (fun os started H enc _ => lifted os started H enc)

/-- ████ THE STATEMENT ████ -/
theorem proved : Rows.AttemptPlaysSaid := over
#print axioms proved
end Go.Proofs.Ytongeppdaeekeaa.attemptPlays
