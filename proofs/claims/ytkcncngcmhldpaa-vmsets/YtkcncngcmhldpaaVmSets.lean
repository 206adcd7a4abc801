/- VmSets: for any instructions, reductions, words, fuel, numbers and any state, a machine is made just where the document makes one, a state is set just where it may be, and what is refused changes nothing; it has no conditions. -/
import Derived.Test.YtkcncngcmhldpaaRows
import Derived.Test.YtkcncngcmhldpaaOpen
import Derived.WalkKit
import Derived.ProofKit
import Derived.OpenShut
import Derived.ShutString
import Derived.ChangeOld
import Derived.Below
import Derived.Carry
namespace Go.Proofs.Ytkcncngcmhldpaa.vmSets
open Go.ChangeShapes Go.WideShapes Go.ChangeAt Go.RowKit
set_option linter.unusedVariables false

theorem own : ownKnob Try.prog.godebug = none := by kernel_rfl
theorem laidOut : laidOutB Try.prog = true := by kernel_rfl

theorem walk (C : List In) (v : Value) (cells words fuel n i k : Int) (s : St) (hl : s.regs.length = 16) (w : World) (hv : ISl w v C) : Calls Try.prog 6 #[caV v cells words fuel n i k, stV s] w (TrueP w) := by
  by_cases h : C.length ≤ 1000
  · exact sets_walk C v cells words fuel n i k s hl h w hv
  · exact sets_long C v cells words fuel n i k s hl (by omega) w hv

set_option maxRecDepth 100000 in
theorem lifted (os : Os) (started : os.Started) (H : Type) (enc : TypeId × Value → H) :
    ReturnsInHanded {} Try.checked os 6 .any (Rows.vmSetsSpec.pre6 enc Try.prog Try.f6 Rows.vmSetsRow.domain false) (Rows.vmSetsSpec.post enc Try.prog Try.f6 false true false false) := by
  refine returnsInHanded_of_change (C := Try.checked) own started (by kernel_rfl) Try.func6
    (ChangeSpec.witness6 (enc := enc) (C := Try.checked) false ⟨#[], #[.agg #[.slice none 0 0, .int .i64 0, .int .i64 0, .int .i64 0, .int .i64 0, .int .i64 0, .int .i64 0], .agg #[.int .i64 0, .int .i64 0, .int .i64 0, .int .i64 0, .int .i64 0, .int .i64 0, .int .i64 0, .int .i64 0, .int .i64 0, .int .i64 0, .int .i64 0, .int .i64 0, .int .i64 0, .int .i64 0, .int .i64 0, .int .i64 0, .int .i64 0, .int .i64 0, .int .i64 0, .int .i64 0]], []⟩ 8 (by kernel_rfl) (by kernel_rfl) (by kernel_rfl) (by kernel_rfl)) ?_
  intro W base args ds gs before hval0 hW hcnd _
  have hval : ∀ (j : Nat) t v, Try.f6.params[j]? = some t → args[j]? = some v → Value.okWide Try.prog W .any base t v := hval0
  have hW' := hW
  obtain ⟨p, q, hA0, hV, rfl, hfz, hnd⟩ := hW
  have hA : DataW.TrodAll enc Try.prog W 0 (fun _ => true) true Try.f6.params.toList args.toList ds p := hA0
  rw [Try.params6] at hA hval
  obtain ⟨v0, vs0, d0, ds0, p0, q0, hargs, rfl, rfl, h0, r0⟩ := trodAll_cons hA
  obtain ⟨v1, vs1, d1, ds1, p1, q1, rfl, rfl, rfl, h1, r1⟩ := trodAll_cons r0
  obtain ⟨rfl, rfl, rfl⟩ := trodAll_nil r1
  obtain rfl : args = #[v0, v1] := by cases args; simp_all
  obtain ⟨rfl, rfl⟩ := trodVars_none hV
  obtain ⟨cs, rfl, hcs⟩ := okWide_struct Try.underlying24 (hval 0 24 v0 rfl rfl)
  obtain ⟨ss, rfl, hss⟩ := okWide_struct Try.underlying45 (hval 1 45 v1 rfl rfl)
  have k0 := h0
  have lt0 : ∀ x ∈ p0, x.block < W.heap.size := by obtain ⟨m, hm⟩ := k0; exact DataW.trod_lt m _ _ _ hm
  have k1 := h1
  have lt1 : ∀ x ∈ p1, x.block < W.heap.size := by obtain ⟨m, hm⟩ := k1; exact DataW.trod_lt m _ _ _ hm
  obtain ⟨v, cells, words, fuel, n, i, k, l, hc, hE⟩ : ∃ (v : Value) (cells words fuel n i k : Int) (l : List In), Value.agg cs = caV v cells words fuel n i k ∧ ISl W v l := by
    obtain ⟨fu, hf⟩ := h0
    obtain ⟨v, cells, words, fuel, n, i, k, l, hy, hE, _⟩ := open_case hf
    refine ⟨v, cells, words, fuel, n, i, k, l, ?_, hE⟩
    unfold caV
    congr 1
    apply Array.toList_inj.1
    exact hy
  obtain ⟨s, hs, hl⟩ : ∃ s : St, Value.agg ss = stV s ∧ s.regs.length = 16 := by
    obtain ⟨fu, hf⟩ := h1
    obtain ⟨s, hy, hl, _⟩ := open_state hf
    refine ⟨s, ?_, hl⟩
    unfold stV
    congr 1
    apply Array.toList_inj.1
    exact hy
  clear hA0 hval0
  have hw := walk l v cells words fuel n i k s hl W hE
  rw [← hc, ← hs] at hw
  refine hw.mono fun e W' ⟨he, bel⟩ => ?_
  subst he
  exact ⟨_, rfl, _, _, _, [], _, [], hW', trodAll_mk1 (shut_bool Try.underlying4 _), (trodAll_cons_mk (Below.trod laidOut (by kernel_rfl) (of_decide_eq_true (by kernel_rfl)) k0 bel lt0) (trodAll_cons_mk (Below.trod laidOut (by kernel_rfl) (of_decide_eq_true (by kernel_rfl)) k1 bel lt1) trodAll_mk0)), rfl, bel.frame _, fun h => by cases h⟩

theorem over : Rows.vmSetsRow.holds Try.pinned (OpenSpec.ofChange Rows.vmSetsSpec) :=
  OpenClaim.holds_of_wide 6 Try.f6 rfl rfl rfl rfl rfl rfl rfl ⟨rfl, rfl, rfl, rfl, rfl⟩ rfl rfl rfl rfl rfl (by kernel_rfl) Try.func6 (by kernel_rfl)
    (of_decide_eq_true (by kernel_rfl)) (by unfold Func.isWrapper; first | (rw [if_pos (by decide +kernel)]; kernel_rfl) | (rw [if_neg (by decide +kernel)]; exact ⟨rfl, rfl⟩))
    (fun os started H enc _ => lifted os started H enc)

/-- ████ THE STATEMENT ████ -/
theorem proved : Rows.VmSetsSaid := over
#print axioms proved
end Go.Proofs.Ytkcncngcmhldpaa.vmSets
