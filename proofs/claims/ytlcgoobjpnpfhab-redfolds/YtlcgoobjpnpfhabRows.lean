/-
  No cell of these rows narrows 'for every input' (looked for: loops, veiled, ifaces, maps, wideKeys, modest, calm, conditions, laid).
  DERIVED. THE GIVEN ROWS OF THIS SEAT. 4 by the template 'for every input the law returns true; each argument reads behind the call as it read before'; 0 by the template 'total and deterministic' (their statements: YtlcgoobjpnpfhabTotals.lean).
  GIVEN WITH THE SEED: the statements are not yours to turn. If you find one false, say at which input.
  Laid BY PROGRAM, IN A SANDBOX (cutbox-rows.mjs): the forced cells as the released guide's own fill.sh prints them over the translation f9ab7fde68459420… (all of the seat's roots in one cut). By AI agents, Wed Nov 11 2026. No macro, syntax, notation, axiom, sorry.
-/
import Derived.Test.YtlcgoobjpnpfhabChecked
import GoSem.Claim
import GoSem.ClaimJoined
import GoSem.ClaimMapViews
import Derived.JoinedTies
import Derived.KernelRfl
namespace Go.Proofs.Ytlcgoobjpnpfhab
/- THE CELL 'sum', in the pinned program and in every row, IS THE sha256 OF THE DUMP (.gsa) THAT YtlcgoobjpnpfhabProg.lean LOADS. Nothing in Lean hashes anything: it is a label: what it is worth is what the hold of that sum in a sandbox is worth. -/
noncomputable def Try.pinned : Pinned := { name := "ytlcgoobjpnpfhab", sum := "f9ab7fde684594203af6217e3a19ce28a0a31c86fb042f1ca24ac98373b83455", checked := Try.checked }
namespace Rows
def none {H : Type} : Left H := { results := [], args := [] }

/-- 'outriderlaw14.RedLaws': WHATEVER THE INPUT: true; the input reads as it did. -/
def redLawsSpec : ChangeSpec := { name := "redLaws", fn := fun _ => fun
  | [d] => { results := [.lit (.bool true)], args := [d] }
  | _ => none }
def redLawsRow : OpenClaim := { program := "ytlcgoobjpnpfhab", sum := "f9ab7fde684594203af6217e3a19ce28a0a31c86fb042f1ca24ac98373b83455", func := "outrider/outriderlaw14.RedLaws", spec := "redLaws", apart := false }
def RedLawsSaid : Prop := redLawsRow.holds Try.pinned (OpenSpec.ofChange redLawsSpec)

/-- ITS FALSE NEIGHBOUR: 'it returns false'. Refute it at one input. -/
def redLawsWrong : ChangeSpec := { name := "redLaws", fn := fun _ => fun
  | [d] => { results := [.lit (.bool false)], args := [d] }
  | _ => none }
def RedLawsWrongFalsely : Prop := redLawsRow.holds Try.pinned (OpenSpec.ofChange redLawsWrong)

/-- 'outriderlaw14.RedFolds': WHATEVER THE INPUT: true; the input reads as it did. -/
def redFoldsSpec : ChangeSpec := { name := "redFolds", fn := fun _ => fun
  | [d1, d2, d3] => { results := [.lit (.bool true)], args := [d1, d2, d3] }
  | _ => none }
def redFoldsRow : OpenClaim := { program := "ytlcgoobjpnpfhab", sum := "f9ab7fde684594203af6217e3a19ce28a0a31c86fb042f1ca24ac98373b83455", func := "outrider/outriderlaw14.RedFolds", spec := "redFolds", apart := false }
def RedFoldsSaid : Prop := redFoldsRow.holds Try.pinned (OpenSpec.ofChange redFoldsSpec)

/-- ITS FALSE NEIGHBOUR: 'it returns false'. Refute it at one input. -/
def redFoldsWrong : ChangeSpec := { name := "redFolds", fn := fun _ => fun
  | [d1, d2, d3] => { results := [.lit (.bool false)], args := [d1, d2, d3] }
  | _ => none }
def RedFoldsWrongFalsely : Prop := redFoldsRow.holds Try.pinned (OpenSpec.ofChange redFoldsWrong)

/-- 'outriderlaw14.RedHeaps': WHATEVER THE INPUT: true; the input reads as it did. -/
def redHeapsSpec : ChangeSpec := { name := "redHeaps", fn := fun _ => fun
  | [d1, d2, d3] => { results := [.lit (.bool true)], args := [d1, d2, d3] }
  | _ => none }
def redHeapsRow : OpenClaim := { program := "ytlcgoobjpnpfhab", sum := "f9ab7fde684594203af6217e3a19ce28a0a31c86fb042f1ca24ac98373b83455", func := "outrider/outriderlaw14.RedHeaps", spec := "redHeaps", apart := false }
def RedHeapsSaid : Prop := redHeapsRow.holds Try.pinned (OpenSpec.ofChange redHeapsSpec)

/-- ITS FALSE NEIGHBOUR: 'it returns false'. Refute it at one input. -/
def redHeapsWrong : ChangeSpec := { name := "redHeaps", fn := fun _ => fun
  | [d1, d2, d3] => { results := [.lit (.bool false)], args := [d1, d2, d3] }
  | _ => none }
def RedHeapsWrongFalsely : Prop := redHeapsRow.holds Try.pinned (OpenSpec.ofChange redHeapsWrong)

/-- 'outriderlaw14.RedSplits': WHATEVER THE INPUT: true; the input reads as it did. -/
def redSplitsSpec : ChangeSpec := { name := "redSplits", fn := fun _ => fun
  | [d1, d2, d3] => { results := [.lit (.bool true)], args := [d1, d2, d3] }
  | _ => none }
def redSplitsRow : OpenClaim := { program := "ytlcgoobjpnpfhab", sum := "f9ab7fde684594203af6217e3a19ce28a0a31c86fb042f1ca24ac98373b83455", func := "outrider/outriderlaw14.RedSplits", spec := "redSplits", apart := false }
def RedSplitsSaid : Prop := redSplitsRow.holds Try.pinned (OpenSpec.ofChange redSplitsSpec)

/-- ITS FALSE NEIGHBOUR: 'it returns false'. Refute it at one input. -/
def redSplitsWrong : ChangeSpec := { name := "redSplits", fn := fun _ => fun
  | [d1, d2, d3] => { results := [.lit (.bool false)], args := [d1, d2, d3] }
  | _ => none }
def RedSplitsWrongFalsely : Prop := redSplitsRow.holds Try.pinned (OpenSpec.ofChange redSplitsWrong)

/- THE SECOND FORM. 'bulk': how many values and letters a reading holds, each counted each time it is reached (what is shared counts as often as it is met; a slice's spare places count too). A statement '..UptoSaid' is the law's where the arguments, and the package variables that the reading takes, are together of bulk at most 1048576: NARROWER than '..Said'. Prove '..Said' where nothing that the law and all that it calls make is longer than what came in: it says more and counts as full. Else prove '..UptoSaid'. A law counts once. -/
mutual
def uptoBulk {H : Type} : DataW H → Nat
  | .lit (.string bytes) => bytes.length + 1
  | .lit _ => 1
  | .nil => 1
  | .ptr d => uptoBulk d + 1
  | .slice elems spare => uptoBulkAll elems + uptoBulkAll spare + 1
  | .agg parts => uptoBulkAll parts + 1
  | .iface _ d => uptoBulk d + 1
  | .map entries => uptoBulkEntries entries + 1
  | .held _ => 1
def uptoBulkAll {H : Type} : List (DataW H) → Nat
  | [] => 0
  | d :: r => uptoBulk d + uptoBulkAll r
def uptoBulkEntries {H : Type} : List (Lit × DataW H) → Nat
  | [] => 0
  | x :: r => uptoBulkEntry x + uptoBulkEntries r
def uptoBulkEntry {H : Type} : Lit × DataW H → Nat
  | (.string bytes, d) => bytes.length + uptoBulk d + 1
  | (_, d) => uptoBulk d + 1
 end
def uptoSmall : (H : Type) → List (DataW H) → Bool := fun _ ds => decide (uptoBulkAll ds ≤ 1048576)
def OpenSpec.upto (s : _root_.Go.ChangeSpec) : _root_.Go.OpenSpec := { _root_.Go.OpenSpec.ofChange s with cond := some uptoSmall }

/-- 'outriderlaw14.RedLaws', WHERE WHAT IT READS IS OF BULK AT MOST 1048576: true; the input reads as it did. -/
def redLawsUptoRow : OpenClaim := { program := "ytlcgoobjpnpfhab", sum := "f9ab7fde684594203af6217e3a19ce28a0a31c86fb042f1ca24ac98373b83455", func := "outrider/outriderlaw14.RedLaws", spec := "redLaws", apart := false, narrowed := true }
def RedLawsUptoSaid : Prop := redLawsUptoRow.holds Try.pinned (OpenSpec.upto redLawsSpec)

/-- 'outriderlaw14.RedFolds', WHERE WHAT IT READS IS OF BULK AT MOST 1048576: true; the input reads as it did. -/
def redFoldsUptoRow : OpenClaim := { program := "ytlcgoobjpnpfhab", sum := "f9ab7fde684594203af6217e3a19ce28a0a31c86fb042f1ca24ac98373b83455", func := "outrider/outriderlaw14.RedFolds", spec := "redFolds", apart := false, narrowed := true }
def RedFoldsUptoSaid : Prop := redFoldsUptoRow.holds Try.pinned (OpenSpec.upto redFoldsSpec)

/-- 'outriderlaw14.RedHeaps', WHERE WHAT IT READS IS OF BULK AT MOST 1048576: true; the input reads as it did. -/
def redHeapsUptoRow : OpenClaim := { program := "ytlcgoobjpnpfhab", sum := "f9ab7fde684594203af6217e3a19ce28a0a31c86fb042f1ca24ac98373b83455", func := "outrider/outriderlaw14.RedHeaps", spec := "redHeaps", apart := false, narrowed := true }
def RedHeapsUptoSaid : Prop := redHeapsUptoRow.holds Try.pinned (OpenSpec.upto redHeapsSpec)

/-- 'outriderlaw14.RedSplits', WHERE WHAT IT READS IS OF BULK AT MOST 1048576: true; the input reads as it did. -/
def redSplitsUptoRow : OpenClaim := { program := "ytlcgoobjpnpfhab", sum := "f9ab7fde684594203af6217e3a19ce28a0a31c86fb042f1ca24ac98373b83455", func := "outrider/outriderlaw14.RedSplits", spec := "redSplits", apart := false, narrowed := true }
def RedSplitsUptoSaid : Prop := redSplitsUptoRow.holds Try.pinned (OpenSpec.upto redSplitsSpec)

end Rows
end Go.Proofs.Ytlcgoobjpnpfhab
