/- The three tables as they are laid; the frame of a card that lists them all. -/
import Derived.Test.YtnofibjchhcmeabDoorRows
import Derived.Test.YtnofibjchhcmeabDoorCards
import Derived.Test.YtnofibjchhcmeabDoorTie
import Derived.Test.YtnofibjchhcmeabDoorAl
import Derived.WalkKit
import Derived.ProofKit
import Derived.OpenShut
import Derived.ShutString
import Derived.ChangeOld
import Derived.Below
import Derived.Carry
import Derived.LaidMore
import Derived.Lay
import Derived.SevenTiedAt
import Derived.Stop.Joined
import Derived.HandedShaped
import Derived.Deep.Strs
import Derived.Test.YtnofibjchhcmeabDoorRtU
namespace Go.Proofs.YtnofibjchhcmeabDoor
open Go.ChangeShapes Go.WideShapes Go.ChangeAt Go.RowKit
set_option linter.unusedVariables false

theorem own : ownKnob Tryd.prog.godebug = none := by kernel_rfl
theorem laidOut : laidOutB Tryd.prog = true := by kernel_rfl
theorem gSigns : Tryd.prog.globalNamed "outrider/tree.signs" = some 0 := by kernel_rfl
theorem tSigns : (Tryd.prog.globals[0]?).map (·.type) = some 45 := by kernel_rfl
def expC (i : Nat) : List Value := [.string ⟨(sgn i).1.toArray⟩, .int .i64 (sgn i).2.1, .int .i64 (sgn i).2.2]
def expD (i : Nat) : DataW Unit := .agg [.lit (.string (sgn i).1), .lit (.int .i64 (sgn i).2.1), .lit (.int .i64 (sgn i).2.2)]
def laidL : List (DataW Unit) := (List.range 16).map expD
theorem laid_is : Rows.laid_outrider_tree_signs (H := Unit) = .agg laidL := by rfl
theorem lies_is (i : Nat) (hi : i < 16) : (signsA.toList.drop (i * 3)).take 3 = expC i := by
  match i, hi with
  | 0, _ => rfl
  | 1, _ => rfl
  | 2, _ => rfl
  | 3, _ => rfl
  | 4, _ => rfl
  | 5, _ => rfl
  | 6, _ => rfl
  | 7, _ => rfl
  | 8, _ => rfl
  | 9, _ => rfl
  | 10, _ => rfl
  | 11, _ => rfl
  | 12, _ => rfl
  | 13, _ => rfl
  | 14, _ => rfl
  | 15, _ => rfl
  | j + 16, h => exact absurd h (by omega)
theorem signs_of_trod {W : World} {fuel : Nat} {cs : Array Value} {p : List MemPlace} (h : DataW.trod (fun _ => ()) Tryd.prog W 0 (fun _ => true) false fuel 45 cs.toList = some (Rows.laid_outrider_tree_signs, p)) : cs = signsA := by
  obtain ⟨xs, m, _, hx, hl, hn, hel⟩ := DataW.trod_array Tryd.underlying45 h
  have c44 : Tryd.prog.cellsOf 44 = 3 := by kernel_rfl
  have c45 : Tryd.prog.cellsOf 45 = 48 := by kernel_rfl
  have c9 : Tryd.prog.cellsOf 9 = 1 := by kernel_rfl
  have c3 : Tryd.prog.cellsOf 3 = 1 := by kernel_rfl
  have c22 : Tryd.prog.cellsOf 22 = 1 := by kernel_rfl
  rw [laid_is] at hx
  simp only [Prod.mk.injEq, DataW.agg.injEq] at hx
  have key : ∀ i, i < 16 → (cs.toList.drop (i * 3)).take 3 = expC i := by
    intro i hi
    have h1 := hel i hi
    rw [c44] at h1
    have hxi : xs[i]?.map (·.1) = some (expD i) := by
      have : laidL[i]? = some (expD i) := by simp [laidL, hi]
      rw [← this, hx.1]
      simp
    obtain ⟨y, hy⟩ : ∃ y, xs[i]? = some y := ⟨xs[i]'(by omega), by simp⟩
    rw [hy] at h1 hxi
    obtain ⟨y0, y1, y2, n, rfl, hl3, g0, g1, g2⟩ := Go.Deep.trod_struct3 Tryd.underlying44 h1
    simp only [Option.map_some, Option.some.injEq] at hxi
    unfold expD at hxi
    simp only [DataW.agg.injEq, List.cons.injEq, and_true] at hxi
    obtain ⟨k0, k1, k2⟩ := hxi
    obtain ⟨s, e0, f0, _⟩ := DataW.trod_string Tryd.underlying9 g0
    obtain ⟨z1, e1, f1, _⟩ := DataW.trod_int Tryd.underlying3 g1
    obtain ⟨z2, e2, f2, _⟩ := DataW.trod_int Tryd.underlying22 g2
    rw [f0] at k0
    rw [f1] at k1
    rw [f2] at k2
    simp only [DataW.lit.injEq, Lit.string.injEq, Lit.int.injEq, true_and] at k0 k1 k2
    rw [c44] at hl3
    obtain ⟨a, b, c, habc⟩ : ∃ a b c, (cs.toList.drop (i * 3)).take 3 = [a, b, c] := by
      match (cs.toList.drop (i * 3)).take 3, hl3 with
      | [a, b, c], _ => exact ⟨a, b, c, rfl⟩
    rw [habc] at e0 e1 e2 ⊢
    rw [c9] at e0
    rw [c3] at e1
    rw [c22] at e2
    simp at e0 e1 e2
    unfold expC
    subst e0 e1 e2
    rw [← k0, ← k1, ← k2]
  have hll : cs.toList.length = 48 := by rw [hl, c45]
  apply Array.toList_inj.1
  apply List.ext_getElem?
  intro j
  by_cases hj : j < 48
  · have e : ∀ l : List Value, l[j]? = ((l.drop (j / 3 * 3)).take 3)[j % 3]? := by
      intro l
      have hj3 : j / 3 * 3 + j % 3 = j := by omega
      rw [List.getElem?_take_of_lt (Nat.mod_lt _ (by omega)), List.getElem?_drop, hj3]
    rw [e cs.toList, e signsA.toList, key (j / 3) (by omega), lies_is (j / 3) (by omega)]
  · rw [List.getElem?_eq_none (by omega), List.getElem?_eq_none (by rw [Array.length_toList, signsA_size]; omega)]
def tabs : List (String × DataW Unit) := [("outrider/tree.signs", Rows.laid_outrider_tree_signs)]
set_option maxRecDepth 100000 in
theorem of_laid {W : World} (h : laidMetH Tryd.prog tabs W) : ∃ A t fr, SA A ∧ W.heap[0]? = some (.cells A t fr) := by
  rw [MakeChecks.laidMetH_plain _ _ _ (by kernel_rfl)] at h
  obtain ⟨ps, ⟨g0, t0, cs0, f0, p0, q0, hg0, ht0, hv0, hd0, _, _⟩, _, _⟩ := h
  obtain rfl := Option.some.inj (gSigns.symm.trans hg0)
  obtain rfl := Option.some.inj (tSigns.symm.trans ht0)
  have e := signs_of_trod hd0
  subst e
  simp only [World.var?, hg0, Option.bind_some] at hv0
  split at hv0
  · rename_i cs t fr hc
    cases hv0
    exact ⟨_, t, fr, SA.lies, hc⟩
  · cases hv0

set_option maxRecDepth 100000 in
/-- a call of a tied card -/
theorem handed {H : Type} {enc : TypeId × Value → H} {os : Os} {f : FuncId} {fn : Func} {s : ChangeSpec} (started : os.Started) (noInit : Tryd.prog.inits.idxOf? f = none) (hfn : Tryd.prog.funcs[f]? = some fn)
    (witness : ∃ (w : World) (tape : Tape) (i : Input), w.os = os ∧ (w.forCall tape i).Shaped Tryd.prog ∧ i.vars = [] ∧ Input.okWide Tryd.prog (w.forCall tape i) .any w.heap.size f i ∧
      ((s.pre enc Tryd.prog fn [] false (w.forCall tape i).memory i.args ∧ laidMetH Tryd.prog tabs (w.forCall tape i).memory) ∧ sizedMet enc Tryd.prog fn (OpenSpec.ofChange s) false (w.forCall tape i).memory i.args) ∧ ({} : Assume).holds Tryd.prog (lone (Frame.enter Tryd.prog f i.args .normal) [] (w.forCall tape i)))
    (contract : ∀ (W : World) (base : Nat) (args : Array Value) (ds gs : List (DataW H)) (before : List MemPlace),
      (∀ (j : Nat) t v, fn.params[j]? = some t → args[j]? = some v → Value.okWide Tryd.prog W .any base t v) →
      DataW.Whole enc Tryd.prog fn.params.toList s.vars false W args.toList ds gs before →
      (∃ A t fr, SA A ∧ W.heap[0]? = some (.cells A t fr)) →
      Calls Tryd.prog f args W fun e W' => ∃ v, e = .returned v ∧ s.post enc Tryd.prog fn false true false false W args v W') :
    ReturnsInHanded {} Tryd.checked os f .any (fun w args => (s.pre enc Tryd.prog fn [] false w args ∧ laidMetH Tryd.prog tabs w) ∧ sizedMet enc Tryd.prog fn (OpenSpec.ofChange s) false w args) (s.post enc Tryd.prog fn false true false false) := by
  refine returnsInHanded_of_calls own started noInit witness ?_
  intro w tape i _ hsh _ hok hpre hholds
  obtain ⟨_, _, _, fn', hfn', _, _, _, _, hval⟩ := hok
  have e : fn' = fn := Option.some.inj (hfn'.symm.trans hfn)
  subst e
  obtain ⟨⟨⟨ds, gs, before, hw, hc⟩, hx⟩, hz⟩ := hpre
  have hw' := DataW.Whole.of_heap (w' := w.forCall tape i) (by rfl) hw
  have hx' : ∃ A t fr, SA A ∧ (w.forCall tape i).heap[0]? = some (.cells A t fr) := of_laid (W := (w.forCall tape i).memory) hx
  refine (contract (w.forCall tape i) w.heap.size i.args ds gs before hval hw' hx').mono fun e W' ⟨v, he, hp⟩ => ?_
  subst he
  exact ChangeSpec.post_blind hp
end Go.Proofs.YtnofibjchhcmeabDoor
namespace Go.Proofs.YtnofibjchhcmeabDoor
open Go.ChangeShapes Go.WideShapes Go.ChangeAt Go.RowKit
set_option linter.unusedVariables false

theorem gStmt : Tryd.prog.globalNamed "outrider/tree.stmtHas" = some 1 := by kernel_rfl
theorem gExpr : Tryd.prog.globalNamed "outrider/tree.exprHas" = some 2 := by kernel_rfl
theorem tStmt : (Tryd.prog.globals[1]?).map (·.type) = some 88 := by kernel_rfl
theorem tExpr : (Tryd.prog.globals[2]?).map (·.type) = some 93 := by kernel_rfl
theorem trod_struct5 {H : Type} {enc : TypeId × Value → H} {P : Program} {w : World} {base : Nat} {spare : Nat → Bool} {held : Bool} {t : TypeId} {f0 f1 f2 f3 f4 : Field} {fuel : Nat} {cs : List Value} {x : DataW H × List MemPlace} (ht : P.underlying t = some (.struct #[f0, f1, f2, f3, f4])) (h : DataW.trod enc P w base spare held fuel t cs = some x) :
    ∃ y0 y1 y2 y3 y4 n, x = (.agg [y0.1, y1.1, y2.1, y3.1, y4.1], y0.2 ++ (y1.2 ++ (y2.2 ++ (y3.2 ++ y4.2)))) ∧ cs.length = P.cellsOf t ∧ DataW.trod enc P w base spare held n f0.type ((cs.drop f0.offset).take (P.cellsOf f0.type)) = some y0 ∧
      DataW.trod enc P w base spare held n f1.type ((cs.drop f1.offset).take (P.cellsOf f1.type)) = some y1 ∧ DataW.trod enc P w base spare held n f2.type ((cs.drop f2.offset).take (P.cellsOf f2.type)) = some y2 ∧
      DataW.trod enc P w base spare held n f3.type ((cs.drop f3.offset).take (P.cellsOf f3.type)) = some y3 ∧ DataW.trod enc P w base spare held n f4.type ((cs.drop f4.offset).take (P.cellsOf f4.type)) = some y4 := by
  obtain ⟨xs, n, _, rfl, hl, hlen, hf⟩ := DataW.trod_struct ht h
  match xs, hlen with
  | [y0, y1, y2, y3, y4], _ => exact ⟨y0, y1, y2, y3, y4, n, by simp, hl, by simpa using hf 0 f0 rfl, by simpa using hf 1 f1 rfl, by simpa using hf 2 f2 rfl, by simpa using hf 3 f3 rfl, by simpa using hf 4 f4 rfl⟩
def exprTabF (i : Nat) : (Bool × Bool × Int × Int × Int) := match i with
  | 0 => (false, false, 0, 0, 0)
  | 1 => (true, false, 0, 0, 0)
  | 2 => (false, true, 0, 0, 0)
  | 3 => (false, false, 0, 0, 1)
  | 4 => (false, false, 19, 21, 1)
  | _ => (false, false, 1, 18, 2)
def exprTabC (i : Nat) : List Value := [.bool (exprTabF i).1, .bool (exprTabF i).2.1, .int .i64 (exprTabF i).2.2.1, .int .i64 (exprTabF i).2.2.2.1, .int .i64 (exprTabF i).2.2.2.2]
def exprTabD (i : Nat) : DataW Unit := .agg [.lit (.bool (exprTabF i).1), .lit (.bool (exprTabF i).2.1), .lit (.int .i64 (exprTabF i).2.2.1), .lit (.int .i64 (exprTabF i).2.2.2.1), .lit (.int .i64 (exprTabF i).2.2.2.2)]
def exprTabL : List (DataW Unit) := (List.range 6).map exprTabD
theorem exprTab_is : Rows.laid_outrider_tree_exprHas (H := Unit) = .agg exprTabL := by rfl
theorem exprTab_lies (i : Nat) (hi : i < 6) : (exprTb.toList.drop (i * 5)).take 5 = exprTabC i := by
  match i, hi with
  | 0, _ => rfl
  | 1, _ => rfl
  | 2, _ => rfl
  | 3, _ => rfl
  | 4, _ => rfl
  | 5, _ => rfl
  | j + 6, h => exact absurd h (by omega)
theorem exprTab_of_trod {W : World} {fuel : Nat} {cs : Array Value} {p : List MemPlace} (h : DataW.trod (fun _ => ()) Tryd.prog W 0 (fun _ => true) false fuel 93 cs.toList = some (Rows.laid_outrider_tree_exprHas, p)) : cs = exprTb := by
  obtain ⟨xs, m, _, hx, hl, hn, hel⟩ := DataW.trod_array Tryd.underlying93 h
  have cS : Tryd.prog.cellsOf 92 = 5 := by kernel_rfl
  have cA : Tryd.prog.cellsOf 93 = 30 := by kernel_rfl
  have c4 : Tryd.prog.cellsOf 4 = 1 := by kernel_rfl
  have c3 : Tryd.prog.cellsOf 3 = 1 := by kernel_rfl
  have c22 : Tryd.prog.cellsOf 22 = 1 := by kernel_rfl
  rw [exprTab_is] at hx
  simp only [Prod.mk.injEq, DataW.agg.injEq] at hx
  have key : ∀ i, i < 6 → (cs.toList.drop (i * 5)).take 5 = exprTabC i := by
    intro i hi
    have h1 := hel i hi
    rw [cS] at h1
    have hxi : xs[i]?.map (·.1) = some (exprTabD i) := by
      have : exprTabL[i]? = some (exprTabD i) := by simp [exprTabL, hi]
      rw [← this, hx.1]
      simp
    obtain ⟨y, hy⟩ : ∃ y, xs[i]? = some y := ⟨xs[i]'(by omega), by simp⟩
    rw [hy] at h1 hxi
    obtain ⟨y0, y1, y2, y3, y4, n, rfl, hl3, g0, g1, g2, g3, g4⟩ := trod_struct5 Tryd.underlying92 h1
    simp only [Option.map_some, Option.some.injEq] at hxi
    unfold exprTabD at hxi
    simp only [DataW.agg.injEq, List.cons.injEq, and_true] at hxi
    obtain ⟨k0, k1, k2, k3, k4⟩ := hxi
    obtain ⟨z0, e0, f0⟩ := DataW.trod_bool Tryd.underlying4 g0
    obtain ⟨z1, e1, f1⟩ := DataW.trod_bool Tryd.underlying4 g1
    obtain ⟨z2, e2, f2, _⟩ := DataW.trod_int Tryd.underlying22 g2
    obtain ⟨z3, e3, f3, _⟩ := DataW.trod_int Tryd.underlying22 g3
    obtain ⟨z4, e4, f4, _⟩ := DataW.trod_int Tryd.underlying3 g4
    rw [f0] at k0
    rw [f1] at k1
    rw [f2] at k2
    rw [f3] at k3
    rw [f4] at k4
    simp only [DataW.lit.injEq, Lit.bool.injEq, Lit.int.injEq, true_and] at k0 k1 k2 k3 k4
    rw [cS] at hl3
    obtain ⟨a0, a1, a2, a3, a4, habc⟩ : ∃ a0 a1 a2 a3 a4, (cs.toList.drop (i * 5)).take 5 = [a0, a1, a2, a3, a4] := by
      match (cs.toList.drop (i * 5)).take 5, hl3 with
      | [a0, a1, a2, a3, a4], _ => exact ⟨a0, a1, a2, a3, a4, rfl⟩
    rw [habc] at e0 e1 e2 e3 e4 ⊢
    rw [c4] at e0
    rw [c4] at e1
    rw [c22] at e2
    rw [c22] at e3
    rw [c3] at e4
    simp at e0 e1 e2 e3 e4
    unfold exprTabC
    subst e0 e1 e2 e3 e4
    rw [← k0, ← k1, ← k2, ← k3, ← k4]
  have hll : cs.toList.length = 30 := by rw [hl, cA]
  apply Array.toList_inj.1
  apply List.ext_getElem?
  intro j
  by_cases hj : j < 30
  · have e : ∀ l : List Value, l[j]? = ((l.drop (j / 5 * 5)).take 5)[j % 5]? := by
      intro l
      have hj3 : j / 5 * 5 + j % 5 = j := by omega
      rw [List.getElem?_take_of_lt (Nat.mod_lt _ (by omega)), List.getElem?_drop, hj3]
    rw [e cs.toList, e exprTb.toList, key (j / 5) (by omega), exprTab_lies (j / 5) (by omega)]
  · rw [List.getElem?_eq_none (by omega), List.getElem?_eq_none (by rw [Array.length_toList, show exprTb.size = 30 from rfl]; omega)]
def stmtTabF (i : Nat) : (Bool × Bool × Bool × Bool × Int) := match i with
  | 0 => (false, false, false, false, 0)
  | 1 => (true, false, false, false, 1)
  | 2 => (true, false, false, false, 1)
  | 3 => (false, false, false, false, 2)
  | 4 => (false, false, false, false, 1)
  | 5 => (false, true, false, false, 1)
  | 6 => (false, false, true, true, 1)
  | 7 => (false, false, true, false, 1)
  | 8 => (false, false, false, false, 1)
  | _ => (false, false, false, false, 0)
def stmtTabC (i : Nat) : List Value := [.bool (stmtTabF i).1, .bool (stmtTabF i).2.1, .bool (stmtTabF i).2.2.1, .bool (stmtTabF i).2.2.2.1, .int .i64 (stmtTabF i).2.2.2.2]
def stmtTabD (i : Nat) : DataW Unit := .agg [.lit (.bool (stmtTabF i).1), .lit (.bool (stmtTabF i).2.1), .lit (.bool (stmtTabF i).2.2.1), .lit (.bool (stmtTabF i).2.2.2.1), .lit (.int .i64 (stmtTabF i).2.2.2.2)]
def stmtTabL : List (DataW Unit) := (List.range 10).map stmtTabD
theorem stmtTab_is : Rows.laid_outrider_tree_stmtHas (H := Unit) = .agg stmtTabL := by rfl
theorem stmtTab_lies (i : Nat) (hi : i < 10) : (stmtTb.toList.drop (i * 5)).take 5 = stmtTabC i := by
  match i, hi with
  | 0, _ => rfl
  | 1, _ => rfl
  | 2, _ => rfl
  | 3, _ => rfl
  | 4, _ => rfl
  | 5, _ => rfl
  | 6, _ => rfl
  | 7, _ => rfl
  | 8, _ => rfl
  | 9, _ => rfl
  | j + 10, h => exact absurd h (by omega)
theorem stmtTab_of_trod {W : World} {fuel : Nat} {cs : Array Value} {p : List MemPlace} (h : DataW.trod (fun _ => ()) Tryd.prog W 0 (fun _ => true) false fuel 88 cs.toList = some (Rows.laid_outrider_tree_stmtHas, p)) : cs = stmtTb := by
  obtain ⟨xs, m, _, hx, hl, hn, hel⟩ := DataW.trod_array Tryd.underlying88 h
  have cS : Tryd.prog.cellsOf 87 = 5 := by kernel_rfl
  have cA : Tryd.prog.cellsOf 88 = 50 := by kernel_rfl
  have c4 : Tryd.prog.cellsOf 4 = 1 := by kernel_rfl
  have c3 : Tryd.prog.cellsOf 3 = 1 := by kernel_rfl
  have c22 : Tryd.prog.cellsOf 22 = 1 := by kernel_rfl
  rw [stmtTab_is] at hx
  simp only [Prod.mk.injEq, DataW.agg.injEq] at hx
  have key : ∀ i, i < 10 → (cs.toList.drop (i * 5)).take 5 = stmtTabC i := by
    intro i hi
    have h1 := hel i hi
    rw [cS] at h1
    have hxi : xs[i]?.map (·.1) = some (stmtTabD i) := by
      have : stmtTabL[i]? = some (stmtTabD i) := by simp [stmtTabL, hi]
      rw [← this, hx.1]
      simp
    obtain ⟨y, hy⟩ : ∃ y, xs[i]? = some y := ⟨xs[i]'(by omega), by simp⟩
    rw [hy] at h1 hxi
    obtain ⟨y0, y1, y2, y3, y4, n, rfl, hl3, g0, g1, g2, g3, g4⟩ := trod_struct5 Tryd.underlying87 h1
    simp only [Option.map_some, Option.some.injEq] at hxi
    unfold stmtTabD at hxi
    simp only [DataW.agg.injEq, List.cons.injEq, and_true] at hxi
    obtain ⟨k0, k1, k2, k3, k4⟩ := hxi
    obtain ⟨z0, e0, f0⟩ := DataW.trod_bool Tryd.underlying4 g0
    obtain ⟨z1, e1, f1⟩ := DataW.trod_bool Tryd.underlying4 g1
    obtain ⟨z2, e2, f2⟩ := DataW.trod_bool Tryd.underlying4 g2
    obtain ⟨z3, e3, f3⟩ := DataW.trod_bool Tryd.underlying4 g3
    obtain ⟨z4, e4, f4, _⟩ := DataW.trod_int Tryd.underlying3 g4
    rw [f0] at k0
    rw [f1] at k1
    rw [f2] at k2
    rw [f3] at k3
    rw [f4] at k4
    simp only [DataW.lit.injEq, Lit.bool.injEq, Lit.int.injEq, true_and] at k0 k1 k2 k3 k4
    rw [cS] at hl3
    obtain ⟨a0, a1, a2, a3, a4, habc⟩ : ∃ a0 a1 a2 a3 a4, (cs.toList.drop (i * 5)).take 5 = [a0, a1, a2, a3, a4] := by
      match (cs.toList.drop (i * 5)).take 5, hl3 with
      | [a0, a1, a2, a3, a4], _ => exact ⟨a0, a1, a2, a3, a4, rfl⟩
    rw [habc] at e0 e1 e2 e3 e4 ⊢
    rw [c4] at e0
    rw [c4] at e1
    rw [c4] at e2
    rw [c4] at e3
    rw [c3] at e4
    simp at e0 e1 e2 e3 e4
    unfold stmtTabC
    subst e0 e1 e2 e3 e4
    rw [← k0, ← k1, ← k2, ← k3, ← k4]
  have hll : cs.toList.length = 50 := by rw [hl, cA]
  apply Array.toList_inj.1
  apply List.ext_getElem?
  intro j
  by_cases hj : j < 50
  · have e : ∀ l : List Value, l[j]? = ((l.drop (j / 5 * 5)).take 5)[j % 5]? := by
      intro l
      have hj3 : j / 5 * 5 + j % 5 = j := by omega
      rw [List.getElem?_take_of_lt (Nat.mod_lt _ (by omega)), List.getElem?_drop, hj3]
    rw [e cs.toList, e stmtTb.toList, key (j / 5) (by omega), stmtTab_lies (j / 5) (by omega)]
  · rw [List.getElem?_eq_none (by omega), List.getElem?_eq_none (by rw [Array.length_toList, show stmtTb.size = 50 from rfl]; omega)]
def tabs3 : List (String × DataW Unit) := [("outrider/tree.signs", Rows.laid_outrider_tree_signs), ("outrider/tree.exprHas", Rows.laid_outrider_tree_exprHas), ("outrider/tree.stmtHas", Rows.laid_outrider_tree_stmtHas)]
theorem cells_of_var {W : World} {n : String} {g : Nat} {cs : Array Value} (hg : Tryd.prog.globalNamed n = some g) (h : W.var? Tryd.prog n = some cs) : ∃ t fr, W.heap[g]? = some (.cells cs t fr) := by
  simp only [World.var?, hg, Option.bind_some] at h
  split at h
  · rename_i cs t fr hc
    cases h
    exact ⟨t, fr, hc⟩
  · cases h
set_option maxRecDepth 100000 in
theorem of_laid3 {W : World} (h : laidMetH Tryd.prog tabs3 W) : (∃ A t fr, SA A ∧ W.heap[0]? = some (.cells A t fr)) ∧ (∃ t fr, W.heap[2]? = some (.cells exprTb t fr)) ∧ (∃ t fr, W.heap[1]? = some (.cells stmtTb t fr)) := by
  rw [MakeChecks.laidMetH_plain _ _ _ (by kernel_rfl)] at h
  obtain ⟨ps, ⟨g0, t0, cs0, f0, p0, q0, hg0, ht0, hv0, hd0, hr0, _⟩, _, _⟩ := h
  obtain ⟨g1, t1, cs1, f1, p1, q1, hg1, ht1, hv1, hd1, hr1, _⟩ := hr0
  obtain ⟨g2, t2, cs2, f2, p2, q2, hg2, ht2, hv2, hd2, hr2, _⟩ := hr1
  obtain rfl := Option.some.inj (gSigns.symm.trans hg0)
  obtain rfl := Option.some.inj (tSigns.symm.trans ht0)
  obtain rfl := Option.some.inj (gExpr.symm.trans hg1)
  obtain rfl := Option.some.inj (tExpr.symm.trans ht1)
  obtain rfl := Option.some.inj (gStmt.symm.trans hg2)
  obtain rfl := Option.some.inj (tStmt.symm.trans ht2)
  have e0 := signs_of_trod hd0
  have e1 := exprTab_of_trod hd1
  have e2 := stmtTab_of_trod hd2
  subst e0 e1 e2
  obtain ⟨t, fr, hc⟩ := cells_of_var hg0 hv0
  exact ⟨⟨_, t, fr, SA.lies, hc⟩, cells_of_var hg1 hv1, cells_of_var hg2 hv2⟩

set_option maxRecDepth 100000 in
/-- a call of a tied card -/
theorem handed3 {H : Type} {enc : TypeId × Value → H} {os : Os} {f : FuncId} {fn : Func} {s : ChangeSpec} (started : os.Started) (noInit : Tryd.prog.inits.idxOf? f = none) (hfn : Tryd.prog.funcs[f]? = some fn)
    (witness : ∃ (w : World) (tape : Tape) (i : Input), w.os = os ∧ (w.forCall tape i).Shaped Tryd.prog ∧ i.vars = [] ∧ Input.okWide Tryd.prog (w.forCall tape i) .any w.heap.size f i ∧
      ((s.pre enc Tryd.prog fn [] false (w.forCall tape i).memory i.args ∧ laidMetH Tryd.prog tabs3 (w.forCall tape i).memory) ∧ sizedMet enc Tryd.prog fn (OpenSpec.ofChange s) false (w.forCall tape i).memory i.args) ∧ ({} : Assume).holds Tryd.prog (lone (Frame.enter Tryd.prog f i.args .normal) [] (w.forCall tape i)))
    (contract : ∀ (W : World) (base : Nat) (args : Array Value) (ds gs : List (DataW H)) (before : List MemPlace),
      (∀ (j : Nat) t v, fn.params[j]? = some t → args[j]? = some v → Value.okWide Tryd.prog W .any base t v) →
      DataW.Whole enc Tryd.prog fn.params.toList s.vars false W args.toList ds gs before →
      (∃ A t fr, SA A ∧ W.heap[0]? = some (.cells A t fr)) ∧ TB W →
      Calls Tryd.prog f args W fun e W' => ∃ v, e = .returned v ∧ s.post enc Tryd.prog fn false true false false W args v W') :
    ReturnsInHanded {} Tryd.checked os f .any (fun w args => (s.pre enc Tryd.prog fn [] false w args ∧ laidMetH Tryd.prog tabs3 w) ∧ sizedMet enc Tryd.prog fn (OpenSpec.ofChange s) false w args) (s.post enc Tryd.prog fn false true false false) := by
  refine returnsInHanded_of_calls own started noInit witness ?_
  intro w tape i _ hsh _ hok hpre hholds
  obtain ⟨_, _, _, fn', hfn', _, _, _, _, hval⟩ := hok
  have e : fn' = fn := Option.some.inj (hfn'.symm.trans hfn)
  subst e
  obtain ⟨⟨⟨ds, gs, before, hw, hc⟩, hx⟩, hz⟩ := hpre
  have hw' := DataW.Whole.of_heap (w' := w.forCall tape i) (by rfl) hw
  have hx' : (∃ A t fr, SA A ∧ (w.forCall tape i).heap[0]? = some (.cells A t fr)) ∧ TB (w.forCall tape i) := by
    obtain ⟨x1, x2, x3⟩ := of_laid3 (W := (w.forCall tape i).memory) hx
    exact ⟨x1, x2, x3⟩
  refine (contract (w.forCall tape i) w.heap.size i.args ds gs before hval hw' hx').mono fun e W' ⟨v, he, hp⟩ => ?_
  subst he
  exact ChangeSpec.post_blind hp
end Go.Proofs.YtnofibjchhcmeabDoor
