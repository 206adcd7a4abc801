/- Two pairs of numbers, held against each other. -/
import Derived.Test.YtamlnagipmomgaaFdP
import Derived.ChangeKeysEq
import Derived.Laws.StructEq
namespace Go.Proofs.Ytamlnagipmomgaa
open Go.RowKit Go.Maps
set_option linter.unusedVariables false

theorem und36 : Try.prog.underlying 36 = some (.array 2 2) := by kernel_rfl
theorem cells2 : Try.prog.cellsOf 2 = 1 := by kernel_rfl
theorem info2x : ∃ i, Try.prog.info? 2 = some i := Option.isSome_iff_exists.1 (by kernel_rfl)
set_option maxRecDepth 100000 in
theorem eql_pr (x y z v : Int) (w : World) : (binOp .eql 36 (.agg #[.int .i64 x, .int .i64 y]) (.agg #[.int .i64 z, .int .i64 v])).run Try.prog w = .ok (.bool (x == z && y == v)) w := by
  obtain ⟨i, hi⟩ := info2x
  rw [run_eql_struct, run_equalIn_array w 9999 _ _ und36 hi, cells2]
  show ((Op.eqItems 9999 2 1 _ _ [0, 1]).run Try.prog w).andThen _ = _
  simp [Op.eqItems, go_sem]
  by_cases h1 : x = z <;> by_cases h2 : y = v <;> simp [h1, h2]
theorem eqg36 (a b c d : Int) (x y : Operand) (w : World) : (eqGuard .eql 36 x y (.agg #[.int .i64 a, .int .i64 b]) (.agg #[.int .i64 c, .int .i64 d])).run Try.prog w = .ok () w := by
  simp [eqGuard]
end Go.Proofs.Ytamlnagipmomgaa
