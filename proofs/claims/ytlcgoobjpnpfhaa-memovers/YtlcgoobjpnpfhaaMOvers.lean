/- MemOvers: whatever is set, asked and cleared, in up to 500 calls, an overlay has what was set last at each place, as the document says; it has no conditions. -/
import Derived.Test.YtlcgoobjpnpfhaaRows
import Derived.Test.YtlcgoobjpnpfhaaMC
import Derived.Test.YtlcgoobjpnpfhaaOpen
import Derived.WalkKit
import Derived.ProofKit
import Derived.OpenShut
import Derived.ShutString
import Derived.ChangeOld
import Derived.Below
import Derived.Carry
namespace Go.Proofs.Ytlcgoobjpnpfhaa.memOvers
open Go.ChangeShapes Go.WideShapes Go.ChangeAt Go.RowKit
set_option linter.unusedVariables false

theorem own : ownKnob Try.prog.godebug = none := by kernel_rfl
theorem laidOut : laidOutB Try.prog = true := by kernel_rfl

set_option maxRecDepth 100000 in
theorem lifted (os : Os) (started : os.Started) (H : Type) (enc : TypeId × Value → H) :
    ReturnsInHanded {} Try.checked os 6 .any (Rows.memOversSpec.pre6 enc Try.prog Try.f6 Rows.memOversRow.domain false) (Rows.memOversSpec.post enc Try.prog Try.f6 false true false false) := by
  refine returnsInHanded_of_change (C := Try.checked) own started (by kernel_rfl) Try.func6
    (ChangeSpec.witness6 (enc := enc) (C := Try.checked) false ⟨#[], #[.slice none 0 0], []⟩ 8 (by kernel_rfl) (by kernel_rfl) (by kernel_rfl) (by kernel_rfl)) ?_
  intro W base args ds gs before hval0 hW hcnd _
  have hval : ∀ (j : Nat) t v, Try.f6.params[j]? = some t → args[j]? = some v → Value.okWide Try.prog W .any base t v := hval0
  have hW' := hW
  obtain ⟨p, q, hA0, hV, rfl, hfz, hnd⟩ := hW
  have hA : DataW.TrodAll enc Try.prog W 0 (fun _ => true) true Try.f6.params.toList args.toList ds p := hA0
  rw [Try.params6] at hA hval
  obtain ⟨v0, vs0, d0, ds0, p0, q0, hargs, rfl, rfl, h0, r0⟩ := trodAll_cons hA
  obtain ⟨rfl, rfl, rfl⟩ := trodAll_nil r0
  obtain rfl : args = #[v0] := by cases args; simp_all
  obtain ⟨rfl, rfl⟩ := trodVars_none hV
  obtain ⟨a0, len0, cap0, rfl⟩ := okWide_slice Try.underlying38 (hval 0 38 v0 rfl rfl)
  have k0 := h0
  have lt0 : ∀ x ∈ p0, x.block < W.heap.size := by obtain ⟨m, hm⟩ := k0; exact DataW.trod_lt m _ _ _ hm
  obtain ⟨G0, hE0⟩ : ∃ G, TSl W (.slice a0 len0 cap0) G := by
    obtain ⟨fuel, hf⟩ := h0
    obtain ⟨l, h1, _⟩ := open_rows 38 44 3 Try.underlying38 cellsT44 (by omega) opC (fun _ => True) (fun n cs x ht => by
      obtain ⟨n0, n1, n2, rfl, _⟩ := open_op ht
      exact ⟨⟨n0, n1, n2⟩, rfl, trivial⟩) (fun _ => rfl) hf
    obtain ⟨a, c, b, o, h1, h2, h3, h4, h5⟩ := h1
    exact ⟨l, a, c, b, o, h1, h2, h3, h4, fun i hi => ⟨by simpa [opC] using h5 i hi 0 (by omega), by simpa [opC] using h5 i hi 1 (by omega), by simpa [opC] using h5 i hi 2 (by omega)⟩⟩
  clear hA0 hval0
  have hwk := overs_walk G0 _ W hE0
  refine hwk.mono fun e W' ⟨he, bel⟩ => ?_
  subst he
  exact ⟨_, rfl, _, _, _, [], _, [], hW', trodAll_mk1 (shut_bool Try.underlying4 _), (trodAll_cons_mk (Below.trod laidOut (by kernel_rfl) (of_decide_eq_true (by kernel_rfl)) k0 bel lt0) trodAll_mk0), rfl, bel.frame _, fun h => by cases h⟩

theorem over : Rows.memOversRow.holds Try.pinned (OpenSpec.ofChange Rows.memOversSpec) :=
  OpenClaim.holds_of_wide 6 Try.f6 rfl rfl rfl rfl rfl rfl rfl ⟨rfl, rfl, rfl, rfl, rfl⟩ rfl rfl rfl rfl rfl (by kernel_rfl) Try.func6 (by kernel_rfl)
    (of_decide_eq_true (by kernel_rfl)) (by unfold Func.isWrapper; first | (rw [if_pos (by decide +kernel)]; kernel_rfl) | (rw [if_neg (by decide +kernel)]; exact ⟨rfl, rfl⟩))
    (fun os started H enc _ => lifted os started H enc)

/-- ████ THE STATEMENT ████ -/
theorem proved : Rows.MemOversSaid := over
#print axioms proved
end Go.Proofs.Ytlcgoobjpnpfhaa.memOvers
