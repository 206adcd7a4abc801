/-
  NARROWER THAN 'FOR EVERY INPUT', by the rows' own cells (each row's printed sentence says how): TreeRanks: laid · TreeRights: loops, laid · TreeKeeps: laid · TreeJoins: laid · TreeCopies: loops, laid · TreeBrackets: laid.
  DERIVED. THE GIVEN ROWS OF THIS SEAT. 6 by the template 'for every input the law returns true; each argument reads behind the call as it read before'; 0 by the template 'total and deterministic' (their statements: YtnofibjchhcmeabDoorTotals.lean).
  GIVEN WITH THE SEED: the statements are not yours to turn. If you find one false, say at which input.
  Laid BY PROGRAM, IN A SANDBOX (cutbox-rows.mjs): the forced cells as the released guide's own fill.sh prints them over the translation 5e3a3327ecea296c… (all of the seat's roots in one cut). By AI agents, Wed Nov 11 2026. No macro, syntax, notation, axiom, sorry.
-/
import Derived.Test.YtnofibjchhcmeabDoorChecked
import GoSem.Claim
import GoSem.ClaimJoined
import GoSem.ClaimMapViews
import Derived.JoinedTies
import Derived.KernelRfl
namespace Go.Proofs.YtnofibjchhcmeabDoor
/- THE CELL 'sum', in the pinned program and in every row, IS THE sha256 OF THE DUMP (.gsa) THAT YtnofibjchhcmeabDoorProg.lean LOADS. Nothing in Lean hashes anything: it is a label: what it is worth is what the hold of that sum in a sandbox is worth. -/
noncomputable def Tryd.pinned : Pinned := { name := "ytnofibjchhcmeabdoor", sum := "5e3a3327ecea296c465b00aaf533809db04bb979b6401269cdc6a7709e8613ae", checked := Tryd.checked }
namespace Rows
def none {H : Type} : Left H := { results := [], args := [] }

/- WHAT THE LISTED PACKAGE-LEVEL VARIABLES READ AS WHEN THE CALL BEGINS. Each datum BY PROGRAM (the guide's laid-datum.mjs) off the statement by which the dump's own 'gosem.cut.vars' lays the variable. In a bare row this is a premise. The card (YtnofibjchhcmeabDoorCards.lean) ties it to the program's text. -/
def laid_outrider_tree_signs {H : Type} : DataW H := .agg [.agg [.lit (.string [124]), .lit (.int .i64 1), .lit (.int .i64 7)], .agg [.lit (.string [94]), .lit (.int .i64 2), .lit (.int .i64 8)], .agg [.lit (.string [38]), .lit (.int .i64 3), .lit (.int .i64 6)], .agg [.lit (.string [61, 61]), .lit (.int .i64 4), .lit (.int .i64 11)], .agg [.lit (.string [33, 61]), .lit (.int .i64 4), .lit (.int .i64 12)], .agg [.lit (.string [60]), .lit (.int .i64 5), .lit (.int .i64 13)], .agg [.lit (.string [60, 61]), .lit (.int .i64 5), .lit (.int .i64 14)], .agg [.lit (.string [62]), .lit (.int .i64 5), .lit (.int .i64 15)], .agg [.lit (.string [62, 61]), .lit (.int .i64 5), .lit (.int .i64 16)], .agg [.lit (.string [60, 60]), .lit (.int .i64 6), .lit (.int .i64 9)], .agg [.lit (.string [62, 62]), .lit (.int .i64 6), .lit (.int .i64 10)], .agg [.lit (.string [43]), .lit (.int .i64 7), .lit (.int .i64 1)], .agg [.lit (.string [45]), .lit (.int .i64 7), .lit (.int .i64 2)], .agg [.lit (.string [42]), .lit (.int .i64 8), .lit (.int .i64 3)], .agg [.lit (.string [47]), .lit (.int .i64 8), .lit (.int .i64 4)], .agg [.lit (.string [37]), .lit (.int .i64 8), .lit (.int .i64 5)]]
def laid_outrider_tree_exprHas {H : Type} : DataW H := .agg [.agg [.lit (.bool false), .lit (.bool false), .lit (.int .i64 0), .lit (.int .i64 0), .lit (.int .i64 0)], .agg [.lit (.bool true), .lit (.bool false), .lit (.int .i64 0), .lit (.int .i64 0), .lit (.int .i64 0)], .agg [.lit (.bool false), .lit (.bool true), .lit (.int .i64 0), .lit (.int .i64 0), .lit (.int .i64 0)], .agg [.lit (.bool false), .lit (.bool false), .lit (.int .i64 0), .lit (.int .i64 0), .lit (.int .i64 1)], .agg [.lit (.bool false), .lit (.bool false), .lit (.int .i64 19), .lit (.int .i64 21), .lit (.int .i64 1)], .agg [.lit (.bool false), .lit (.bool false), .lit (.int .i64 1), .lit (.int .i64 18), .lit (.int .i64 2)]]
def laid_outrider_tree_stmtHas {H : Type} : DataW H := .agg [.agg [.lit (.bool false), .lit (.bool false), .lit (.bool false), .lit (.bool false), .lit (.int .i64 0)], .agg [.lit (.bool true), .lit (.bool false), .lit (.bool false), .lit (.bool false), .lit (.int .i64 1)], .agg [.lit (.bool true), .lit (.bool false), .lit (.bool false), .lit (.bool false), .lit (.int .i64 1)], .agg [.lit (.bool false), .lit (.bool false), .lit (.bool false), .lit (.bool false), .lit (.int .i64 2)], .agg [.lit (.bool false), .lit (.bool false), .lit (.bool false), .lit (.bool false), .lit (.int .i64 1)], .agg [.lit (.bool false), .lit (.bool true), .lit (.bool false), .lit (.bool false), .lit (.int .i64 1)], .agg [.lit (.bool false), .lit (.bool false), .lit (.bool true), .lit (.bool true), .lit (.int .i64 1)], .agg [.lit (.bool false), .lit (.bool false), .lit (.bool true), .lit (.bool false), .lit (.int .i64 1)], .agg [.lit (.bool false), .lit (.bool false), .lit (.bool false), .lit (.bool false), .lit (.int .i64 1)], .agg [.lit (.bool false), .lit (.bool false), .lit (.bool false), .lit (.bool false), .lit (.int .i64 0)]]

/-- 'outriderlaw04.TreeRanks': WHATEVER THE INPUT: true; the input reads as it did. -/
def treeRanksSpec : ChangeSpec := { name := "treeRanks", fn := fun _ => fun
  | [d] => { results := [.lit (.bool true)], args := [d] }
  | _ => none }
def treeRanksRow : OpenClaim := { program := "ytnofibjchhcmeabdoor", sum := "5e3a3327ecea296c465b00aaf533809db04bb979b6401269cdc6a7709e8613ae", func := "outrider/outriderlaw04.TreeRanks", spec := "treeRanks", inPlace := ["internal/bytealg.IndexByteString", "internal/bytealg.IndexString"], unfollowed := true, recurses := true, named := ["outrider/tree.signs", "internal/bytealg.MaxLen"], apart := false, laid := [("outrider/tree.signs", laid_outrider_tree_signs)] }
def TreeRanksSaid : Prop := treeRanksRow.holds Tryd.pinned (OpenSpec.ofChange treeRanksSpec)

/-- ITS FALSE NEIGHBOUR: 'it returns false'. Refute it at one input. -/
def treeRanksWrong : ChangeSpec := { name := "treeRanks", fn := fun _ => fun
  | [d] => { results := [.lit (.bool false)], args := [d] }
  | _ => none }
def TreeRanksWrongFalsely : Prop := treeRanksRow.holds Tryd.pinned (OpenSpec.ofChange treeRanksWrong)

/-- 'outriderlaw04.TreeRights': WHATEVER THE INPUT: true; the input reads as it did. -/
def treeRightsSpec : ChangeSpec := { name := "treeRights", fn := fun _ => fun
  | [d1, d2] => { results := [.lit (.bool true)], args := [d1, d2] }
  | _ => none }
def treeRightsRow : OpenClaim := { program := "ytnofibjchhcmeabdoor", sum := "5e3a3327ecea296c465b00aaf533809db04bb979b6401269cdc6a7709e8613ae", func := "outrider/outriderlaw04.TreeRights", spec := "treeRights", inPlace := ["internal/bytealg.IndexByteString", "internal/bytealg.IndexString"], unfollowed := true, recurses := true, named := ["outrider/tree.stmtHas", "outrider/tree.exprHas", "internal/bytealg.MaxLen", "outrider/tree.signs"], loops := true, apart := false, laid := [("outrider/tree.signs", laid_outrider_tree_signs), ("outrider/tree.exprHas", laid_outrider_tree_exprHas), ("outrider/tree.stmtHas", laid_outrider_tree_stmtHas)] }
def TreeRightsSaid : Prop := treeRightsRow.holds Tryd.pinned (OpenSpec.ofChange treeRightsSpec)

/-- ITS FALSE NEIGHBOUR: 'it returns false'. Refute it at one input. -/
def treeRightsWrong : ChangeSpec := { name := "treeRights", fn := fun _ => fun
  | [d1, d2] => { results := [.lit (.bool false)], args := [d1, d2] }
  | _ => none }
def TreeRightsWrongFalsely : Prop := treeRightsRow.holds Tryd.pinned (OpenSpec.ofChange treeRightsWrong)

/-- 'outriderlaw04.TreeKeeps': WHATEVER THE INPUT: true; the input reads as it did. -/
def treeKeepsSpec : ChangeSpec := { name := "treeKeeps", fn := fun _ => fun
  | [d] => { results := [.lit (.bool true)], args := [d] }
  | _ => none }
def treeKeepsRow : OpenClaim := { program := "ytnofibjchhcmeabdoor", sum := "5e3a3327ecea296c465b00aaf533809db04bb979b6401269cdc6a7709e8613ae", func := "outrider/outriderlaw04.TreeKeeps", spec := "treeKeeps", inPlace := ["internal/bytealg.IndexByteString", "internal/bytealg.IndexString"], unfollowed := true, recurses := true, named := ["internal/bytealg.MaxLen", "outrider/tree.signs", "outrider/tree.stmtHas", "outrider/tree.exprHas"], apart := false, laid := [("outrider/tree.signs", laid_outrider_tree_signs), ("outrider/tree.exprHas", laid_outrider_tree_exprHas), ("outrider/tree.stmtHas", laid_outrider_tree_stmtHas)] }
def TreeKeepsSaid : Prop := treeKeepsRow.holds Tryd.pinned (OpenSpec.ofChange treeKeepsSpec)

/-- ITS FALSE NEIGHBOUR: 'it returns false'. Refute it at one input. -/
def treeKeepsWrong : ChangeSpec := { name := "treeKeeps", fn := fun _ => fun
  | [d] => { results := [.lit (.bool false)], args := [d] }
  | _ => none }
def TreeKeepsWrongFalsely : Prop := treeKeepsRow.holds Tryd.pinned (OpenSpec.ofChange treeKeepsWrong)

/-- 'outriderlaw04.TreeJoins': WHATEVER THE INPUT: true; the input reads as it did. -/
def treeJoinsSpec : ChangeSpec := { name := "treeJoins", fn := fun _ => fun
  | [d1, d2] => { results := [.lit (.bool true)], args := [d1, d2] }
  | _ => none }
def treeJoinsRow : OpenClaim := { program := "ytnofibjchhcmeabdoor", sum := "5e3a3327ecea296c465b00aaf533809db04bb979b6401269cdc6a7709e8613ae", func := "outrider/outriderlaw04.TreeJoins", spec := "treeJoins", inPlace := ["internal/bytealg.IndexByteString", "internal/bytealg.IndexString"], unfollowed := true, recurses := true, named := ["internal/bytealg.MaxLen", "outrider/tree.signs"], apart := false, laid := [("outrider/tree.signs", laid_outrider_tree_signs)] }
def TreeJoinsSaid : Prop := treeJoinsRow.holds Tryd.pinned (OpenSpec.ofChange treeJoinsSpec)

/-- ITS FALSE NEIGHBOUR: 'it returns false'. Refute it at one input. -/
def treeJoinsWrong : ChangeSpec := { name := "treeJoins", fn := fun _ => fun
  | [d1, d2] => { results := [.lit (.bool false)], args := [d1, d2] }
  | _ => none }
def TreeJoinsWrongFalsely : Prop := treeJoinsRow.holds Tryd.pinned (OpenSpec.ofChange treeJoinsWrong)

/-- 'outriderlaw04.TreeCopies': WHATEVER THE INPUT: true; the input reads as it did. -/
def treeCopiesSpec : ChangeSpec := { name := "treeCopies", fn := fun _ => fun
  | [d] => { results := [.lit (.bool true)], args := [d] }
  | _ => none }
def treeCopiesRow : OpenClaim := { program := "ytnofibjchhcmeabdoor", sum := "5e3a3327ecea296c465b00aaf533809db04bb979b6401269cdc6a7709e8613ae", func := "outrider/outriderlaw04.TreeCopies", spec := "treeCopies", inPlace := ["internal/bytealg.IndexByteString", "internal/bytealg.IndexString"], unfollowed := true, recurses := true, named := ["internal/bytealg.MaxLen", "outrider/tree.signs"], loops := true, apart := false, laid := [("outrider/tree.signs", laid_outrider_tree_signs)] }
def TreeCopiesSaid : Prop := treeCopiesRow.holds Tryd.pinned (OpenSpec.ofChange treeCopiesSpec)

/-- ITS FALSE NEIGHBOUR: 'it returns false'. Refute it at one input. -/
def treeCopiesWrong : ChangeSpec := { name := "treeCopies", fn := fun _ => fun
  | [d] => { results := [.lit (.bool false)], args := [d] }
  | _ => none }
def TreeCopiesWrongFalsely : Prop := treeCopiesRow.holds Tryd.pinned (OpenSpec.ofChange treeCopiesWrong)

/-- 'outriderlaw04.TreeBrackets': WHATEVER THE INPUT: true; the input reads as it did. -/
def treeBracketsSpec : ChangeSpec := { name := "treeBrackets", fn := fun _ => fun
  | [d1, d2] => { results := [.lit (.bool true)], args := [d1, d2] }
  | _ => none }
def treeBracketsRow : OpenClaim := { program := "ytnofibjchhcmeabdoor", sum := "5e3a3327ecea296c465b00aaf533809db04bb979b6401269cdc6a7709e8613ae", func := "outrider/outriderlaw04.TreeBrackets", spec := "treeBrackets", inPlace := ["internal/bytealg.IndexByteString", "internal/bytealg.IndexString"], unfollowed := true, recurses := true, named := ["internal/bytealg.MaxLen", "outrider/tree.signs"], apart := false, laid := [("outrider/tree.signs", laid_outrider_tree_signs)] }
def TreeBracketsSaid : Prop := treeBracketsRow.holds Tryd.pinned (OpenSpec.ofChange treeBracketsSpec)

/-- ITS FALSE NEIGHBOUR: 'it returns false'. Refute it at one input. -/
def treeBracketsWrong : ChangeSpec := { name := "treeBrackets", fn := fun _ => fun
  | [d1, d2] => { results := [.lit (.bool false)], args := [d1, d2] }
  | _ => none }
def TreeBracketsWrongFalsely : Prop := treeBracketsRow.holds Tryd.pinned (OpenSpec.ofChange treeBracketsWrong)

/- THE SECOND FORM. 'bulk': how many values and letters a reading holds, each counted each time it is reached (what is shared counts as often as it is met; a slice's spare places count too). A statement '..UptoSaid' is the law's where the arguments, and the package variables that the reading takes, are together of bulk at most 1048576: NARROWER than '..Said'. Prove '..Said' where nothing that the law and all that it calls make is longer than what came in: it says more and counts as full. Else prove '..UptoSaid'. A law counts once. -/
mutual
def uptoBulk {H : Type} : DataW H → Nat
  | .lit (.string bytes) => bytes.length + 1
  | .lit _ => 1
  | .nil => 1
  | .ptr d => uptoBulk d + 1
  | .slice elems spare => uptoBulkAll elems + uptoBulkAll spare + 1
  | .agg parts => uptoBulkAll parts + 1
  | .iface _ d => uptoBulk d + 1
  | .map entries => uptoBulkEntries entries + 1
  | .held _ => 1
def uptoBulkAll {H : Type} : List (DataW H) → Nat
  | [] => 0
  | d :: r => uptoBulk d + uptoBulkAll r
def uptoBulkEntries {H : Type} : List (Lit × DataW H) → Nat
  | [] => 0
  | x :: r => uptoBulkEntry x + uptoBulkEntries r
def uptoBulkEntry {H : Type} : Lit × DataW H → Nat
  | (.string bytes, d) => bytes.length + uptoBulk d + 1
  | (_, d) => uptoBulk d + 1
 end
def uptoSmall : (H : Type) → List (DataW H) → Bool := fun _ ds => decide (uptoBulkAll ds ≤ 1048576)
def OpenSpec.upto (s : _root_.Go.ChangeSpec) : _root_.Go.OpenSpec := { _root_.Go.OpenSpec.ofChange s with cond := some uptoSmall }

/-- 'outriderlaw04.TreeRanks', WHERE WHAT IT READS IS OF BULK AT MOST 1048576: true; the input reads as it did. -/
def treeRanksUptoRow : OpenClaim := { program := "ytnofibjchhcmeabdoor", sum := "5e3a3327ecea296c465b00aaf533809db04bb979b6401269cdc6a7709e8613ae", func := "outrider/outriderlaw04.TreeRanks", spec := "treeRanks", inPlace := ["internal/bytealg.IndexByteString", "internal/bytealg.IndexString"], unfollowed := true, recurses := true, named := ["outrider/tree.signs", "internal/bytealg.MaxLen"], apart := false, laid := [("outrider/tree.signs", laid_outrider_tree_signs)], narrowed := true }
def TreeRanksUptoSaid : Prop := treeRanksUptoRow.holds Tryd.pinned (OpenSpec.upto treeRanksSpec)

/-- 'outriderlaw04.TreeRights', WHERE WHAT IT READS IS OF BULK AT MOST 1048576: true; the input reads as it did. -/
def treeRightsUptoRow : OpenClaim := { program := "ytnofibjchhcmeabdoor", sum := "5e3a3327ecea296c465b00aaf533809db04bb979b6401269cdc6a7709e8613ae", func := "outrider/outriderlaw04.TreeRights", spec := "treeRights", inPlace := ["internal/bytealg.IndexByteString", "internal/bytealg.IndexString"], unfollowed := true, recurses := true, named := ["outrider/tree.stmtHas", "outrider/tree.exprHas", "internal/bytealg.MaxLen", "outrider/tree.signs"], loops := true, apart := false, laid := [("outrider/tree.signs", laid_outrider_tree_signs), ("outrider/tree.exprHas", laid_outrider_tree_exprHas), ("outrider/tree.stmtHas", laid_outrider_tree_stmtHas)], narrowed := true }
def TreeRightsUptoSaid : Prop := treeRightsUptoRow.holds Tryd.pinned (OpenSpec.upto treeRightsSpec)

/-- 'outriderlaw04.TreeKeeps', WHERE WHAT IT READS IS OF BULK AT MOST 1048576: true; the input reads as it did. -/
def treeKeepsUptoRow : OpenClaim := { program := "ytnofibjchhcmeabdoor", sum := "5e3a3327ecea296c465b00aaf533809db04bb979b6401269cdc6a7709e8613ae", func := "outrider/outriderlaw04.TreeKeeps", spec := "treeKeeps", inPlace := ["internal/bytealg.IndexByteString", "internal/bytealg.IndexString"], unfollowed := true, recurses := true, named := ["internal/bytealg.MaxLen", "outrider/tree.signs", "outrider/tree.stmtHas", "outrider/tree.exprHas"], apart := false, laid := [("outrider/tree.signs", laid_outrider_tree_signs), ("outrider/tree.exprHas", laid_outrider_tree_exprHas), ("outrider/tree.stmtHas", laid_outrider_tree_stmtHas)], narrowed := true }
def TreeKeepsUptoSaid : Prop := treeKeepsUptoRow.holds Tryd.pinned (OpenSpec.upto treeKeepsSpec)

/-- 'outriderlaw04.TreeJoins', WHERE WHAT IT READS IS OF BULK AT MOST 1048576: true; the input reads as it did. -/
def treeJoinsUptoRow : OpenClaim := { program := "ytnofibjchhcmeabdoor", sum := "5e3a3327ecea296c465b00aaf533809db04bb979b6401269cdc6a7709e8613ae", func := "outrider/outriderlaw04.TreeJoins", spec := "treeJoins", inPlace := ["internal/bytealg.IndexByteString", "internal/bytealg.IndexString"], unfollowed := true, recurses := true, named := ["internal/bytealg.MaxLen", "outrider/tree.signs"], apart := false, laid := [("outrider/tree.signs", laid_outrider_tree_signs)], narrowed := true }
def TreeJoinsUptoSaid : Prop := treeJoinsUptoRow.holds Tryd.pinned (OpenSpec.upto treeJoinsSpec)

/-- 'outriderlaw04.TreeCopies', WHERE WHAT IT READS IS OF BULK AT MOST 1048576: true; the input reads as it did. -/
def treeCopiesUptoRow : OpenClaim := { program := "ytnofibjchhcmeabdoor", sum := "5e3a3327ecea296c465b00aaf533809db04bb979b6401269cdc6a7709e8613ae", func := "outrider/outriderlaw04.TreeCopies", spec := "treeCopies", inPlace := ["internal/bytealg.IndexByteString", "internal/bytealg.IndexString"], unfollowed := true, recurses := true, named := ["internal/bytealg.MaxLen", "outrider/tree.signs"], loops := true, apart := false, laid := [("outrider/tree.signs", laid_outrider_tree_signs)], narrowed := true }
def TreeCopiesUptoSaid : Prop := treeCopiesUptoRow.holds Tryd.pinned (OpenSpec.upto treeCopiesSpec)

/-- 'outriderlaw04.TreeBrackets', WHERE WHAT IT READS IS OF BULK AT MOST 1048576: true; the input reads as it did. -/
def treeBracketsUptoRow : OpenClaim := { program := "ytnofibjchhcmeabdoor", sum := "5e3a3327ecea296c465b00aaf533809db04bb979b6401269cdc6a7709e8613ae", func := "outrider/outriderlaw04.TreeBrackets", spec := "treeBrackets", inPlace := ["internal/bytealg.IndexByteString", "internal/bytealg.IndexString"], unfollowed := true, recurses := true, named := ["internal/bytealg.MaxLen", "outrider/tree.signs"], apart := false, laid := [("outrider/tree.signs", laid_outrider_tree_signs)], narrowed := true }
def TreeBracketsUptoSaid : Prop := treeBracketsUptoRow.holds Tryd.pinned (OpenSpec.upto treeBracketsSpec)

end Rows
end Go.Proofs.YtnofibjchhcmeabDoor
