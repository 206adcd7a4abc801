/- One edge more is laid into a row. -/
import Derived.Test.YtongeppdaeekeaaGrC
import Derived.Lib.Overlaps
import Derived.Lib.AppendZerosOnto
import Derived.Laws.Externs
import Derived.Laws.CopyRow
import Derived.StillTailTactics
namespace Go.Proofs.Ytongeppdaeekeaa
open Go.RowKit Go.Maps
set_option linter.unusedVariables false

section
variable {α : Type}
theorem RK.flat_take (K : RK α) (l : List α) (i : Nat) (hi : i ≤ l.length) : K.flat (l.take i) = (K.flat l).take (i * K.k) := by
  have h : K.flat l = K.flat (l.take i) ++ K.flat (l.drop i) := by rw [← K.flat_app, List.take_append_drop]
  have hl : (K.flat (l.take i)).length = i * K.k := by rw [K.flat_len, List.length_take, Nat.min_eq_left hi]
  rw [h, ← hl, List.take_left]
theorem RK.flat_drop (K : RK α) (l : List α) (i : Nat) (hi : i ≤ l.length) : K.flat (l.drop i) = (K.flat l).drop (i * K.k) := by
  have h : K.flat l = K.flat (l.take i) ++ K.flat (l.drop i) := by rw [← K.flat_app, List.take_append_drop]
  have hl : (K.flat (l.take i)).length = i * K.k := by rw [K.flat_len, List.length_take, Nat.min_eq_left hi]
  rw [h, ← hl, List.drop_left]
theorem RK.flat_one (K : RK α) (l : List α) : ∀ u ∈ K.flat l, u.oneCell' = true := by
  intro u hu
  obtain ⟨z, _, hz⟩ := List.mem_flatMap.1 hu
  exact K.one z u hz
/-- a copy, cell by cell -/
theorem run_copy_k (K : RK α) (w : World) (ty : TypeId) (g o dLen dCap : Nat) (a : Addr) (sLen sCap : Nat) (cur : List Value) (t : TypeId) (cs : List Value)
    (hg : w.heap[g]? = some (.cells cur.toArray t (0, 0))) (hn : cs.length = Nat.min sLen dLen * K.k)
    (hsrc : ∀ j v, cs[j]? = some v → w.cell? (a.add j) = some v) (hfit : o + cs.length ≤ cur.length) (h1 : ∀ v ∈ cs, v.oneCell' = true) :
    (Builtin.copy_ #[K.st, K.st] ty #[.slice (some ⟨g, o, none⟩) dLen dCap, .slice (some a) sLen sCap]).run Try.prog w =
      .ok (goInt (Nat.min sLen dLen)) (w.setRow g (cur.take o ++ (cs ++ cur.drop (o + cs.length))).toArray) := by
  have hl := run_loadCells_list (P := Try.prog) w a cs hsrc
  have hst := run_storeCells_at Try.prog g o t cs 0 cur.toArray w hg (by simpa using hfit) h1
  obtain ⟨i, hi, _, hz, _⟩ := K.info
  simp [Builtin.copy_, run_underlying K.und, Builtin.lenOf, Builtin.firstCells, sizeOf, typeInfo, hi, hz, ← hn, hl, hst]
theorem copy_k {ops : Array Oper} {rest : List Oper} {o : Oper} {a : Act} {Q : Exit → Act → World → Prop} (K : RK α) (w : World) (hgd : o.guard = none) (d s : Operand)
    (ho : o.op = .call { callee := .builtin .copy, args := #[d, s], argTypes := #[K.st, K.st] }) (g off dLen dCap : Nat) (ad : Addr) (sLen sCap : Nat) (hd : a.eval d = .slice (some ⟨g, off, none⟩) dLen dCap) (hs : a.eval s = .slice (some ad) sLen sCap)
    (cur : List Value) (t : TypeId) (hg : w.heap[g]? = some (.cells cur.toArray t (0, 0))) (cs : List Value) (hn : cs.length = Nat.min sLen dLen * K.k)
    (hsrc : ∀ j v, cs[j]? = some v → w.cell? (ad.add j) = some v) (hfit : off + cs.length ≤ cur.length) (h1 : ∀ v ∈ cs, v.oneCell' = true)
    (h : ∀ w', w'.heap[g]? = some (.cells (cur.take off ++ (cs ++ cur.drop (off + cs.length))).toArray t (0, 0)) → w.grownBy w' (some g) → w'.heap.size = w.heap.size → wpList Try.prog ops Q rest (a.put o.dst (goInt (Nat.min sLen dLen))) w') :
    wpList Try.prog ops Q (o :: rest) a w := by
  refine wpList_plain hgd fun C hC => ?_
  have hr := run_copy_k K w o.type g off dLen dCap ad sLen sCap cur t cs hg hn hsrc hfit h1
  unfold Oper.wp execOp
  simp only [ho, resolve, invoke, builtin, Sem.run_bind, Sem.run_pure, Result.andThen_ok, List.map_toArray, List.map_cons, List.map_nil, hd, hs, hr]
  exact hC _ _ (h _ (setRow_heap w g _ _ t _ hg) ⟨rfl, rfl, rfl, by simp [World.setRow], fun k hk hne => setRow_other w g k _ (fun e => hne (by rw [e]))⟩ (by simp [World.setRow]))
/-- an append whose answer is known -/
theorem app_run {ops : Array Oper} {rest : List Oper} {o : Oper} {a : Act} {Q : Exit → Act → World → Prop} (w : World) (hgd : o.guard = none) (s x : Operand) (t1 t2 : TypeId)
    (ho : o.op = .call { callee := .builtin .append, args := #[s, x], argTypes := #[t1, t2] }) (v xv v' : Value) (w' : World) (hs : a.eval s = v) (hx : a.eval x = xv)
    (hr : ∀ ty, (Builtin.append_ #[t1, t2] ty #[v, xv]).run Try.prog w = .ok v' w') (h : wpList Try.prog ops Q rest (a.put o.dst v') w') : wpList Try.prog ops Q (o :: rest) a w := by
  refine wpList_plain hgd fun C hC => ?_
  unfold Oper.wp execOp
  simp only [ho, resolve, invoke, builtin, Sem.run_bind, Sem.run_pure, Result.andThen_ok, List.map_toArray, List.map_cons, List.map_nil, hs, hx, hr]
  exact hC _ _ h
end
theorem drop_app {β : Type} (A T : List β) (k : Nat) : (A ++ T).drop (A.length + k) = T.drop k := by rw [List.drop_append, List.drop_of_length_le (by omega), List.nil_append, Nat.add_sub_cancel_left]
/-- in place: what stands behind goes on, the new one goes in -/
theorem lay_in {β : Type} (A B S Z : List β) (hz : Z.length ≤ S.length) :
    (((A ++ B ++ S).take (A.length + Z.length) ++ (B ++ (A ++ B ++ S).drop (A.length + Z.length + B.length))).take A.length ++ (Z ++ ((A ++ B ++ S).take (A.length + Z.length) ++ (B ++ (A ++ B ++ S).drop (A.length + Z.length + B.length))).drop (A.length + Z.length))) = A ++ (Z ++ (B ++ S.drop Z.length)) := by
  have hl : ((A ++ B ++ S).take (A.length + Z.length)).length = A.length + Z.length := by rw [List.length_take]; simp only [List.length_append]; omega
  have e1 : ((A ++ B ++ S).take (A.length + Z.length) ++ (B ++ (A ++ B ++ S).drop (A.length + Z.length + B.length))).take A.length = A := by
    rw [List.take_append_of_le_length (by omega), List.take_take, Nat.min_eq_left (by omega), List.append_assoc, List.take_left]
  have e2 : ((A ++ B ++ S).take (A.length + Z.length) ++ (B ++ (A ++ B ++ S).drop (A.length + Z.length + B.length))).drop (A.length + Z.length) = B ++ (A ++ B ++ S).drop (A.length + Z.length + B.length) := by
    rw [List.drop_append_of_le_length (by omega), List.drop_of_length_le (by omega), List.nil_append]
  have e3 : (A ++ B ++ S).drop (A.length + Z.length + B.length) = S.drop Z.length := by
    rw [show A.length + Z.length + B.length = (A ++ B).length + Z.length by simp only [List.length_append]; omega, drop_app]
  rw [e1, e2, e3]
/-- in a new row: the new one goes in, then what stands behind -/
theorem lay_new {β : Type} (A B T Z : List β) (hz : Z.length + B.length ≤ T.length) :
    (((A ++ T).take A.length ++ (Z ++ (A ++ T).drop (A.length + Z.length))).take (A.length + Z.length) ++ (B ++ ((A ++ T).take A.length ++ (Z ++ (A ++ T).drop (A.length + Z.length))).drop (A.length + Z.length + B.length))) = A ++ (Z ++ (B ++ T.drop (Z.length + B.length))) := by
  have e0 : (A ++ T).take A.length = A := List.take_left
  have e1 : (A ++ T).drop (A.length + Z.length) = T.drop Z.length := drop_app _ _ _
  rw [e0, e1]
  have e2 : (A ++ (Z ++ T.drop Z.length)).take (A.length + Z.length) = A ++ Z := by
    rw [← List.append_assoc, show A.length + Z.length = (A ++ Z).length by simp, List.take_left]
  have e3 : (A ++ (Z ++ T.drop Z.length)).drop (A.length + Z.length + B.length) = T.drop (Z.length + B.length) := by
    rw [← List.append_assoc, show A.length + Z.length = (A ++ Z).length by simp, drop_app, List.drop_drop]
  rw [e2, e3, List.append_assoc]
end Go.Proofs.Ytongeppdaeekeaa
