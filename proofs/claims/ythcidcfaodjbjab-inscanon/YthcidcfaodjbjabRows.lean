/-
  No cell of these rows narrows 'for every input' (looked for: loops, veiled, ifaces, maps, wideKeys, modest, calm, conditions, laid).
  DERIVED. THE GIVEN ROWS OF THIS SEAT. 2 by the template 'for every input the law returns true; each argument reads behind the call as it read before'; 0 by the template 'total and deterministic' (their statements: YthcidcfaodjbjabTotals.lean).
  GIVEN WITH THE SEED: the statements are not yours to turn. If you find one false, say at which input.
  Laid BY PROGRAM, IN A SANDBOX (cutbox-rows.mjs): the forced cells as the released guide's own fill.sh prints them over the translation 105b9034d7eb485e… (all of the seat's roots in one cut). By AI agents, Wed Nov 11 2026. No macro, syntax, notation, axiom, sorry.
-/
import Derived.Test.YthcidcfaodjbjabChecked
import GoSem.Claim
import GoSem.ClaimJoined
import GoSem.ClaimMapViews
import Derived.JoinedTies
import Derived.KernelRfl
namespace Go.Proofs.Ythcidcfaodjbjab
/- THE CELL 'sum', in the pinned program and in every row, IS THE sha256 OF THE DUMP (.gsa) THAT YthcidcfaodjbjabProg.lean LOADS. Nothing in Lean hashes anything: it is a label: what it is worth is what the hold of that sum in a sandbox is worth. -/
noncomputable def Try.pinned : Pinned := { name := "ythcidcfaodjbjab", sum := "105b9034d7eb485e2a87d550b043b433ff9c8fe2076024c773c246e3ef0f2fb1", checked := Try.checked }
namespace Rows
def none {H : Type} : Left H := { results := [], args := [] }

/-- 'outriderlaw08.InsCanon': WHATEVER THE INPUT: true; the input reads as it did. -/
def insCanonSpec : ChangeSpec := { name := "insCanon", fn := fun _ => fun
  | [d1, d2] => { results := [.lit (.bool true)], args := [d1, d2] }
  | _ => none }
def insCanonRow : OpenClaim := { program := "ythcidcfaodjbjab", sum := "105b9034d7eb485e2a87d550b043b433ff9c8fe2076024c773c246e3ef0f2fb1", func := "outrider/outriderlaw08.InsCanon", spec := "insCanon", inPlace := ["internal/bytealg.IndexByteString", "internal/bytealg.IndexString"], unfollowed := true, recurses := true, named := ["internal/bytealg.MaxLen"], apart := false }
def InsCanonSaid : Prop := insCanonRow.holds Try.pinned (OpenSpec.ofChange insCanonSpec)

/-- ITS FALSE NEIGHBOUR: 'it returns false'. Refute it at one input. -/
def insCanonWrong : ChangeSpec := { name := "insCanon", fn := fun _ => fun
  | [d1, d2] => { results := [.lit (.bool false)], args := [d1, d2] }
  | _ => none }
def InsCanonWrongFalsely : Prop := insCanonRow.holds Try.pinned (OpenSpec.ofChange insCanonWrong)

/-- 'outriderlaw08.InsMore': WHATEVER THE INPUT: true; the input reads as it did. -/
def insMoreSpec : ChangeSpec := { name := "insMore", fn := fun _ => fun
  | [d1, d2, d3] => { results := [.lit (.bool true)], args := [d1, d2, d3] }
  | _ => none }
def insMoreRow : OpenClaim := { program := "ythcidcfaodjbjab", sum := "105b9034d7eb485e2a87d550b043b433ff9c8fe2076024c773c246e3ef0f2fb1", func := "outrider/outriderlaw08.InsMore", spec := "insMore", inPlace := ["internal/bytealg.IndexByteString", "internal/bytealg.IndexString"], named := ["internal/bytealg.MaxLen"], apart := false }
def InsMoreSaid : Prop := insMoreRow.holds Try.pinned (OpenSpec.ofChange insMoreSpec)

/-- ITS FALSE NEIGHBOUR: 'it returns false'. Refute it at one input. -/
def insMoreWrong : ChangeSpec := { name := "insMore", fn := fun _ => fun
  | [d1, d2, d3] => { results := [.lit (.bool false)], args := [d1, d2, d3] }
  | _ => none }
def InsMoreWrongFalsely : Prop := insMoreRow.holds Try.pinned (OpenSpec.ofChange insMoreWrong)

/- THE SECOND FORM. 'bulk': how many values and letters a reading holds, each counted each time it is reached (what is shared counts as often as it is met; a slice's spare places count too). A statement '..UptoSaid' is the law's where the arguments, and the package variables that the reading takes, are together of bulk at most 1048576: NARROWER than '..Said'. Prove '..Said' where nothing that the law and all that it calls make is longer than what came in: it says more and counts as full. Else prove '..UptoSaid'. A law counts once. -/
mutual
def uptoBulk {H : Type} : DataW H → Nat
  | .lit (.string bytes) => bytes.length + 1
  | .lit _ => 1
  | .nil => 1
  | .ptr d => uptoBulk d + 1
  | .slice elems spare => uptoBulkAll elems + uptoBulkAll spare + 1
  | .agg parts => uptoBulkAll parts + 1
  | .iface _ d => uptoBulk d + 1
  | .map entries => uptoBulkEntries entries + 1
  | .held _ => 1
def uptoBulkAll {H : Type} : List (DataW H) → Nat
  | [] => 0
  | d :: r => uptoBulk d + uptoBulkAll r
def uptoBulkEntries {H : Type} : List (Lit × DataW H) → Nat
  | [] => 0
  | x :: r => uptoBulkEntry x + uptoBulkEntries r
def uptoBulkEntry {H : Type} : Lit × DataW H → Nat
  | (.string bytes, d) => bytes.length + uptoBulk d + 1
  | (_, d) => uptoBulk d + 1
 end
def uptoSmall : (H : Type) → List (DataW H) → Bool := fun _ ds => decide (uptoBulkAll ds ≤ 1048576)
def OpenSpec.upto (s : _root_.Go.ChangeSpec) : _root_.Go.OpenSpec := { _root_.Go.OpenSpec.ofChange s with cond := some uptoSmall }

/-- 'outriderlaw08.InsCanon', WHERE WHAT IT READS IS OF BULK AT MOST 1048576: true; the input reads as it did. -/
def insCanonUptoRow : OpenClaim := { program := "ythcidcfaodjbjab", sum := "105b9034d7eb485e2a87d550b043b433ff9c8fe2076024c773c246e3ef0f2fb1", func := "outrider/outriderlaw08.InsCanon", spec := "insCanon", inPlace := ["internal/bytealg.IndexByteString", "internal/bytealg.IndexString"], unfollowed := true, recurses := true, named := ["internal/bytealg.MaxLen"], apart := false, narrowed := true }
def InsCanonUptoSaid : Prop := insCanonUptoRow.holds Try.pinned (OpenSpec.upto insCanonSpec)

/-- 'outriderlaw08.InsMore', WHERE WHAT IT READS IS OF BULK AT MOST 1048576: true; the input reads as it did. -/
def insMoreUptoRow : OpenClaim := { program := "ythcidcfaodjbjab", sum := "105b9034d7eb485e2a87d550b043b433ff9c8fe2076024c773c246e3ef0f2fb1", func := "outrider/outriderlaw08.InsMore", spec := "insMore", inPlace := ["internal/bytealg.IndexByteString", "internal/bytealg.IndexString"], named := ["internal/bytealg.MaxLen"], apart := false, narrowed := true }
def InsMoreUptoSaid : Prop := insMoreUptoRow.holds Try.pinned (OpenSpec.upto insMoreSpec)

end Rows
end Go.Proofs.Ythcidcfaodjbjab
