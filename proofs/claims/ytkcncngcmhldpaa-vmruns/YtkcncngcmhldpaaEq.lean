/- A state, and what is wanted, are equal to themselves. -/
import Derived.Test.YtkcncngcmhldpaaWnt
import Derived.Test.YtkcncngcmhldpaaRNew
import Derived.ChangeKeysEq
namespace Go.Proofs.Ytkcncngcmhldpaa
open Go.RowKit Go.Maps
set_option linter.unusedVariables false

theorem stood35 : Try.prog.stoodInHeld 35 = false := by kernel_rfl
theorem stood45 : Try.prog.stoodInHeld 45 = false := by kernel_rfl
theorem und35 : Try.prog.underlying 35 = some (.struct (Try.prog.fieldsOf 35)) := by kernel_rfl
theorem und45 : Try.prog.underlying 45 = some (.struct (Try.prog.fieldsOf 45)) := by kernel_rfl
set_option maxRecDepth 100000 in
theorem neq_wt (t : Wt) (w : World) : (binOp .neq 35 (wtV t) (wtV t)).run Try.prog w = .ok (.bool false) w := by
  unfold wtV
  rw [run_neq_struct, run_equalIn_agg w 9999 35 _ _ und35 stood35]
  simp only [Program.fieldsOf, Try.underlying35]
  simp [go_sem]
theorem cells2' : Try.prog.cellsOf 2 = 1 := by kernel_rfl
theorem range16 : List.range 16 = [0, 1, 2, 3, 4, 5, 6, 7, 8, 9, 10, 11, 12, 13, 14, 15] := by decide
set_option maxRecDepth 100000 in
theorem eql_regs (r0 r1 r2 r3 r4 r5 r6 r7 r8 r9 r10 r11 r12 r13 r14 r15 : Int) (w : World) : (Op.equalIn 9999 43 (.agg #[.int .i64 r0, .int .i64 r1, .int .i64 r2, .int .i64 r3, .int .i64 r4, .int .i64 r5, .int .i64 r6, .int .i64 r7, .int .i64 r8, .int .i64 r9, .int .i64 r10, .int .i64 r11, .int .i64 r12, .int .i64 r13, .int .i64 r14, .int .i64 r15]) (.agg #[.int .i64 r0, .int .i64 r1, .int .i64 r2, .int .i64 r3, .int .i64 r4, .int .i64 r5, .int .i64 r6, .int .i64 r7, .int .i64 r8, .int .i64 r9, .int .i64 r10, .int .i64 r11, .int .i64 r12, .int .i64 r13, .int .i64 r14, .int .i64 r15])).run Try.prog w = .ok true w := by
  obtain ⟨i0, hi, _⟩ := info_parts info2
  rw [run_equalIn_array w 9998 _ _ Try.underlying43 hi, cells2', range16]
  simp [Op.eqItems, go_sem]
set_option maxRecDepth 100000 in
theorem eql_st (s : St) (hl : s.regs.length = 16) (w : World) : (binOp .eql 45 (stV s) (stV s)).run Try.prog w = .ok (.bool true) w := by
  obtain ⟨regs, pc, steps, over, value⟩ := s
  match regs, hl with
  | [r0, r1, r2, r3, r4, r5, r6, r7, r8, r9, r10, r11, r12, r13, r14, r15], _ =>
    unfold stV stC
    simp only [List.map_cons, List.map_nil, List.cons_append, List.nil_append]
    rw [run_eql_struct, run_equalIn_agg w 9999 45 _ _ und45 stood45]
    simp only [Program.fieldsOf, Try.underlying45]
    simp [go_sem]
    rw [eql_regs]
    simp [go_sem]
set_option maxRecDepth 100000 in
theorem neq_st (s : St) (hl : s.regs.length = 16) (w : World) : (binOp .neq 45 (stV s) (stV s)).run Try.prog w = .ok (.bool false) w := by
  obtain ⟨regs, pc, steps, over, value⟩ := s
  match regs, hl with
  | [r0, r1, r2, r3, r4, r5, r6, r7, r8, r9, r10, r11, r12, r13, r14, r15], _ =>
    unfold stV stC
    simp only [List.map_cons, List.map_nil, List.cons_append, List.nil_append]
    rw [run_neq_struct, run_equalIn_agg w 9999 45 _ _ und45 stood45]
    simp only [Program.fieldsOf, Try.underlying45]
    simp [go_sem]
    rw [eql_regs]
    simp [go_sem]
end Go.Proofs.Ytkcncngcmhldpaa
