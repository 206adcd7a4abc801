/- Which edges an age has; the first of them. -/
import Derived.Test.YtongeppdaeekeaaGrG
namespace Go.Proofs.Ytongeppdaeekeaa
open Go.RowKit Go.Maps
set_option linter.unusedVariables false

def isA (age : Int) (z : Int × Int) : Bool := z.1 == age || z.2 == age
set_option maxRecDepth 100000 in
set_option maxHeartbeats 2000000 in
theorem clo_any (w : World) (bx : Nat) (age : Int) (hb : w.cell? ⟨bx, 0, none⟩ = some (.int .i64 age)) (z : Int × Int) : Calls Try.prog 82 #[edA z, .pointer (some ⟨bx, 0, none⟩)] w (AN w (.bool (isA age z))) := by
  obtain ⟨z0, z1⟩ := z
  have HF : Hid (∀ W, Below w.heap.size w W → AN w (.bool (isA age (z0, z1))) (.returned (.bool (z0 == age || z1 == age))) W) := fun W hW => ⟨rfl, hW⟩
  have hlt := World.block_lt_of_cell? w _ hb
  have HB : Hid (∀ A, Below w.heap.size w (w.alloc A)) := fun A => bl1 w A
  have cb : ∀ A, (w.alloc A).cell? ⟨bx, 0, none⟩ = some (.int .i64 age) := fun A => ((bl1 w A).cell (p := ⟨bx, 0, none⟩) hlt).trans hb
  have HFA : Hid (∀ A b, b = (z0 == age || z1 == age) → AN w (.bool (isA age (z0, z1))) (.returned (.bool b)) (w.alloc A)) := fun A b hb => by rw [hb]; exact HF.out _ (HB.out A)
  generalize AN w (.bool (isA age (z0, z1))) = P at *
  clear hb
  unfold edA
  by_cases h0 : z0 = age
  · have t0 : (z0 == age) = true := by simp [h0]
    have HR : Hid (∀ A, P (.returned (.bool true)) (w.alloc A)) := fun A => HFA.out A true (by rw [t0]; rfl)
    clear h0
    go_enter Try.func82, Try.ntmps82
    go_wp2
    first | exact HR.out _ | (go_ret; exact HR.out _)
  · have t0 : (z0 == age) = false := by simp [h0]
    have HR : Hid (∀ A, P (.returned (.bool (z1 == age))) (w.alloc A)) := fun A => HFA.out A _ (by rw [t0]; rfl)
    clear h0
    go_enter Try.func82, Try.ntmps82
    go_wp2
    first | exact HR.out _ | (go_ret; exact HR.out _)
def fI (E : Ed) (p : Int × Int → Bool) : Int := if E.findIdx p < E.length then (E.findIdx p : Int) else -1
set_option maxRecDepth 100000 in
set_option maxHeartbeats 4000000 in
theorem idx_any (w : World) (E : Ed) (v : Value) (hv : RS kE w v E) (hl : E.length ≤ 1000) (bx : Nat) (age : Int) (hb : w.cell? ⟨bx, 0, none⟩ = some (.int .i64 age)) :
    Calls Try.prog 97 #[v, .func (.func 82) #[] #[.pointer (some ⟨bx, 0, none⟩)]] w (AN w (.int .i64 (fI E (isA age)))) := by
  have HV : Hid (∀ W, Below w.heap.size w W → RS kE W v E) := fun W hW => hv.below hW
  obtain ⟨va, vc, rfl⟩ := hv.form
  have hlt := World.block_lt_of_cell? w _ hb
  have HCL : Hid (∀ W z0 z1, Below w.heap.size w W → Calls Try.prog 82 #[.agg #[.int .i64 z0, .int .i64 z1], .pointer (some ⟨bx, 0, none⟩)] W (AN W (.bool (isA age (z0, z1))))) := fun W z0 z1 hW => clo_any W bx age ((hW.cell (p := ⟨bx, 0, none⟩) hlt).trans hb) (z0, z1)
  obtain ⟨m, hm⟩ : ∃ m, E.length = m := ⟨_, rfl⟩
  have HM : Hid (E.length = m) := hm
  have HF : Hid (∀ x W, x = fI E (isA age) → Below w.heap.size w W → AN w (.int .i64 (fI E (isA age))) (.returned (.int .i64 x)) W) := fun x W h h2 => ⟨by rw [h], h2⟩
  rw [hm] at hl HV ⊢
  clear hv hb hlt hm
  generalize AN w (.int .i64 (fI E (isA age))) = P at *
  go_enter Try.func97, Try.ntmps97
  go_wp2_with fail
  go_loopw [5, 8] (fun _ i wr => ∃ q : Nat, i = .int .i64 (q : Int) ∧ q ≤ m ∧ Hid (Below w.heap.size w wr) ∧ Hid (∀ k (h : k < E.length), k < q → isA age E[k] = false)) (fun _ i _ => m - (intOf i).toNat)
  case atStart => exact ⟨0, rfl, Nat.zero_le _, Below.refl _ _, fun k h q => absurd q (Nat.not_lt_zero _)⟩
  case round =>
    obtain ⟨q, rfl, hq, HB, HI⟩ := hrel
    by_cases hlt : q < m
    · have e1 : decide (q < m) = true := by simp; omega
      have hyl : q < E.length := by rw [HM.out]; exact hlt
      obtain ⟨b, bo, n', c', hgv, hcl⟩ := (HV.out wr HB.out).cell hyl
      simp only [Value.slice.injEq] at hgv
      obtain ⟨rfl, rfl, rfl⟩ := hgv
      obtain ⟨⟨z0, z1⟩, hz⟩ : ∃ z, E[q]'hyl = z := ⟨_, rfl⟩
      have HZ : Hid (E[q]'hyl = (z0, z1)) := hz
      rw [hz] at hcl
      obtain ⟨y0, y1⟩ := duo_cells rfl rfl hcl
      have i1 : (0 : Int) ≤ (q : Int) := by omega
      have i2 : (q : Int) < (m : Int) := by omega
      have HC := HCL.out wr z0 z1 HB.out
      clear hcl hz
      cases hp : isA age (z0, z1) with
      | true =>
        rw [hp] at HC
        have HX : Hid ((q : Int) = fI E (isA age)) := by
          show _ = _
          have e : E.findIdx (isA age) = q := by
            rw [List.findIdx_eq hyl]
            exact ⟨by rw [HZ.out]; exact hp, fun j hj => by simpa using HI.out j (by omega) hj⟩
          unfold fI
          rw [e, if_pos hyl]
        clear hp HI HZ
        go_wp2_with fail
        refine HC.mono ?_
        rintro e w3 ⟨rfl, b3⟩
        have HR : Hid (P (.returned (.int .i64 (q : Int))) w3) := HF.out _ _ HX.out (HB.out.trans (b3.mono HB.out.size))
        clear b3 y0 y1
        go_wp2
        first | exact HR.out | (go_ret; exact HR.out)
      | false =>
        rw [hp] at HC
        have HI2 : Hid (∀ k (h : k < E.length), k < q + 1 → isA age E[k] = false) := fun k h hk => by
          rcases Nat.lt_or_ge k q with r | r
          · exact HI.out k h r
          · have : k = q := by omega
            subst this
            rw [HZ.out]; exact hp
        clear hp HI HZ
        go_wp2_with fail
        refine HC.mono ?_
        rintro e w3 ⟨rfl, b3⟩
        have HB3 : Hid (Below w.heap.size w w3) := HB.out.trans (b3.mono HB.out.size)
        clear b3 y0 y1
        go_wp2_with fail
        go_roundw
        case rel => exact ⟨q + 1, by go_num, by omega, HB3, HI2⟩
        case measure => simp [intOf] <;> omega
    · have e1 : decide (q < m) = false := by simp; omega
      have hqm : q = m := by omega
      subst hqm
      have HR : Hid (P (.returned (.int .i64 (-1))) wr) := HF.out _ _ (by
        have e : E.findIdx (isA age) = E.length := by
          rw [List.findIdx_eq_length]
          intro z hz
          obtain ⟨k, hk, rfl⟩ := List.getElem_of_mem hz
          exact HI.out k hk (by rw [← HM.out]; exact hk)
        unfold fI
        rw [e, if_neg (Nat.lt_irrefl _)]) HB.out
      go_wp2
      first | exact HR.out | (go_ret; exact HR.out)
/-- cells behind a place are cleared -/
theorem run_clear_k {α : Type} (K : RK α) (w : World) (ty : TypeId) (g o n c : Nat) (cur : List Value) (t : TypeId) (hn : 0 < n) (hg : w.heap[g]? = some (.cells cur.toArray t (0, 0))) (hfit : o + n * K.k ≤ cur.length) (h1 : ∀ u ∈ K.zero.cells.toList, u.oneCell' = true) :
    ∃ cur' : List Value, (Builtin.clear_ #[K.st] ty #[.slice (some ⟨g, o, none⟩) n c]).run Try.prog w = .ok (.tuple #[]) (w.setRow g cur'.toArray) ∧ cur'.length = cur.length ∧ cur'.take o = cur.take o := by
  obtain ⟨i, hi, hz0, hz, _⟩ := K.info
  obtain ⟨vs, hvs⟩ : ∃ vs, (Builtin.zeroCells K.zero.cells n).toList = vs := ⟨_, rfl⟩
  have hl : vs.length = n * K.k := by rw [← hvs, Array.length_toList, size_zeroCells, K.zs]
  have ho : ∀ u ∈ vs, u.oneCell' = true := by
    intro u hu
    rw [← hvs] at hu
    unfold Builtin.zeroCells at hu
    have : u ∈ K.zero.cells.toList := by
      simp at hu
      obtain ⟨j, _, h⟩ := hu
      have hsz : j % K.zero.cells.size < K.zero.cells.size := Nat.mod_lt _ (by rw [K.zs]; exact K.pos)
      rw [← h, getElem!_pos K.zero.cells (j % K.zero.cells.size) hsz]
      simp
    exact h1 u this
  have hst := run_storeCells_at Try.prog g o t vs 0 cur.toArray w hg (by simpa [hl] using hfit) ho
  refine ⟨cur.take o ++ vs ++ cur.drop (o + vs.length), ?_, ?_, ?_⟩
  · obtain ⟨n', rfl⟩ : ∃ n', n = n' + 1 := ⟨n - 1, by omega⟩
    simp [Builtin.clear_, run_underlying K.und, zeroValue, typeInfo, hi, hz0, hvs, hst]
  · simp only [List.length_append, List.length_take, List.length_drop, hl]; omega
  · rw [List.append_assoc, List.take_append_of_le_length (by rw [List.length_take]; omega), List.take_take, Nat.min_self]
theorem clear_k {α : Type} {ops : Array Oper} {rest : List Oper} {o : Oper} {a : Act} {Q : Exit → Act → World → Prop} (K : RK α) (w : World) (hgd : o.guard = none) (s : Operand)
    (ho : o.op = .call { callee := .builtin .clear, args := #[s], argTypes := #[K.st] }) (g off n c : Nat) (hs : a.eval s = .slice (some ⟨g, off, none⟩) n c)
    (cur : List Value) (t : TypeId) (hn : 0 < n) (hg : w.heap[g]? = some (.cells cur.toArray t (0, 0))) (hfit : off + n * K.k ≤ cur.length) (h1 : ∀ u ∈ K.zero.cells.toList, u.oneCell' = true)
    (h : ∀ w' cur', w'.heap[g]? = some (.cells (List.toArray cur') t (0, 0)) → cur'.length = cur.length → cur'.take off = cur.take off → w.grownBy w' (some g) → w'.heap.size = w.heap.size → wpList Try.prog ops Q rest (a.put o.dst (.tuple #[])) w') :
    wpList Try.prog ops Q (o :: rest) a w := by
  refine wpList_plain hgd fun C hC => ?_
  obtain ⟨cur', hr, h2, h3⟩ := run_clear_k K w o.type g off n c cur t hn hg hfit h1
  unfold Oper.wp execOp
  simp only [ho, resolve, invoke, builtin, Sem.run_bind, Sem.run_pure, Result.andThen_ok, List.map_toArray, List.map_cons, List.map_nil, hs, hr]
  exact hC _ _ (h _ cur' (setRow_heap w g _ _ t _ hg) h2 h3 ⟨rfl, rfl, rfl, by simp [World.setRow], fun k hk hne => setRow_other w g k _ (fun e => hne (by rw [e]))⟩ (by simp [World.setRow]))
end Go.Proofs.Ytongeppdaeekeaa
