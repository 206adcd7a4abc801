/- VmRuns: for any instructions, reductions, fuel, memory and numbers, what instructions do on a memory, to their end, is what the document says, and the memory that is handed in stays; it has no conditions. -/
import Derived.Test.YtkcncngcmhldpaaRows
import Derived.Test.YtkcncngcmhldpaaOpe4
import Derived.WalkKit
import Derived.ProofKit
import Derived.OpenShut
import Derived.ShutString
import Derived.ChangeOld
import Derived.Below
import Derived.Carry
namespace Go.Proofs.Ytkcncngcmhldpaa.vmRuns
open Go.ChangeShapes Go.WideShapes Go.ChangeAt Go.RowKit
set_option linter.unusedVariables false

theorem own : ownKnob Try.prog.godebug = none := by kernel_rfl
theorem laidOut : laidOutB Try.prog = true := by kernel_rfl

set_option maxRecDepth 100000 in
theorem lifted (os : Os) (started : os.Started) (H : Type) (enc : TypeId × Value → H) :
    ReturnsInHanded {} Try.checked os 4 .any (Rows.vmRunsSpec.pre6 enc Try.prog Try.f4 Rows.vmRunsRow.domain false) (Rows.vmRunsSpec.post enc Try.prog Try.f4 false true false false) := by
  refine returnsInHanded_of_change (C := Try.checked) own started (by kernel_rfl) Try.func4
    (ChangeSpec.witness6 (enc := enc) (C := Try.checked) false ⟨#[], #[.agg #[.slice none 0 0, .int .i64 0, .int .i64 0, .int .i64 0, .slice none 0 0, .int .i64 0, .int .i64 0, .int .i64 0]], []⟩ 8 (by kernel_rfl) (by kernel_rfl) (by kernel_rfl) (by kernel_rfl)) ?_
  intro W base args ds gs before hval0 hW hcnd _
  have hval : ∀ (j : Nat) t v, Try.f4.params[j]? = some t → args[j]? = some v → Value.okWide Try.prog W .any base t v := hval0
  have hW' := hW
  obtain ⟨p, q, hA0, hV, rfl, hfz, hnd⟩ := hW
  have hA : DataW.TrodAll enc Try.prog W 0 (fun _ => true) true Try.f4.params.toList args.toList ds p := hA0
  rw [Try.params4] at hA hval
  obtain ⟨v0, vs0, d0, ds0, p0, q0, hargs, rfl, rfl, h0, r0⟩ := trodAll_cons hA
  obtain ⟨rfl, rfl, rfl⟩ := trodAll_nil r0
  obtain rfl : args = #[v0] := by cases args; simp_all
  obtain ⟨rfl, rfl⟩ := trodVars_none hV
  obtain ⟨cs, rfl, hcs⟩ := okWide_struct Try.underlying51 (hval 0 51 v0 rfl rfl)
  have k0 := h0
  have lt0 : ∀ x ∈ p0, x.block < W.heap.size := by obtain ⟨m, hm⟩ := k0; exact DataW.trod_lt m _ _ _ hm
  obtain ⟨v, mv, cells, fuel, more, n, i, k, l, G, hc, hE, hGE, hl, hG, wn, wi, wk, hnil⟩ : ∃ (v mv : Value) (cells fuel more n i k : Int) (l : List In) (G : List Int), Value.agg cs = rnW v cells fuel more mv n i k ∧ ISl W v l ∧ GSl W mv G ∧ (∀ y ∈ l, InR y) ∧ (∀ y ∈ G, R64 y) ∧ R64 n ∧ R64 i ∧ R64 k ∧ ∀ l c, mv = .slice none l c → c = 0 := by
    obtain ⟨fu, hf⟩ := h0
    obtain ⟨v, mv, cells, fuel, more, n, i, k, l, G, hy, h⟩ := open_run hf
    refine ⟨v, mv, cells, fuel, more, n, i, k, l, G, ?_, h⟩
    unfold rnW
    congr 1
    apply Array.toList_inj.1
    exact hy
  clear hA0 hval0
  have hw := runs_walk l v mv cells fuel more n i k G wn wi wk (fun x hx => (hl x hx).k) hG W hE hGE hnil
  rw [← hc] at hw
  refine hw.mono fun e W' ⟨he, bel⟩ => ?_
  subst he
  exact ⟨_, rfl, _, _, _, [], _, [], hW', trodAll_mk1 (shut_bool Try.underlying4 _), (trodAll_cons_mk (Below.trod laidOut (by kernel_rfl) (of_decide_eq_true (by kernel_rfl)) k0 bel lt0) trodAll_mk0), rfl, bel.frame _, fun h => by cases h⟩

theorem over : Rows.vmRunsRow.holds Try.pinned (OpenSpec.ofChange Rows.vmRunsSpec) :=
  OpenClaim.holds_of_wide 4 Try.f4 rfl rfl rfl rfl rfl rfl rfl ⟨rfl, rfl, rfl, rfl, rfl⟩ rfl rfl rfl rfl rfl (by kernel_rfl) Try.func4 (by kernel_rfl)
    (of_decide_eq_true (by kernel_rfl)) (by unfold Func.isWrapper; first | (rw [if_pos (by decide +kernel)]; kernel_rfl) | (rw [if_neg (by decide +kernel)]; exact ⟨rfl, rfl⟩))
    (fun os started H enc _ => lifted os started H enc)

/-- ████ THE STATEMENT ████ -/
theorem proved : Rows.VmRunsSaid := over
#print axioms proved
end Go.Proofs.Ytkcncngcmhldpaa.vmRuns
