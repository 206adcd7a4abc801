/- A row more, one more, as steps of a region that draws its order; the document's log is answered. -/
import Derived.Test.YtongeppdaeekeaaDfB
import Derived.Test.YtongeppdaeekeaaAtE
namespace Go.Proofs.Ytongeppdaeekeaa
open Go.RowKit Go.Maps
set_option linter.unusedVariables false

section
variable {w w' : World} {v : Value}
theorem wp_push_row {α : Type} (K : RK α) {ops : Array Oper} {o : Oper} {a : Act} {KK : Act → World → Prop} {Q : Exit → Act → World → Prop} (s x : Operand)
    (ho : o.op = .call { callee := .builtin .append, args := #[s, x], argTypes := #[K.st, K.st] }) (v xv : Value) (l X : List α) (hs : a.eval s = v) (hx : a.eval x = xv) (hown : RZ K w v l) (hg : RS K w xv X)
    (hlen : l.length + X.length ≤ 100000)
    (h : ∀ v' w', RZ K w' v' (l ++ X) → w.grownBy w' v.ownBlock → (v'.ownBlock = v.ownBlock ∨ v'.ownBlock = some w.heap.size) → KK (a.put o.dst v') w') : Oper.wp Try.prog o a w KK Q := by
  obtain ⟨v', w', hr, h2, h3, h4⟩ := app_row K w o.type v xv l X hown hg hlen
  unfold Oper.wp execOp
  simp only [ho, resolve, invoke, builtin, Sem.run_bind, Sem.run_pure, Result.andThen_ok, List.map_toArray, List.map_cons, List.map_nil, hs, hx, hr]
  exact h v' w' h2 h3 h4
theorem step_push_row {α : Type} (K : RK α) {ops : Array Oper} {o : Oper} {a : Act} {KK : Act → World → Prop} {Q : Exit → Act → World → Prop} {E : Prop} (hgd : o.guard = none) (s x : Operand)
    (ho : o.op = .call { callee := .builtin .append, args := #[s, x], argTypes := #[K.st, K.st] }) (v xv : Value) (l X : List α) (hs : a.eval s = v) (hx : a.eval x = xv) (hown : RZ K w v l) (hg : RS K w xv X)
    (hlen : l.length + X.length ≤ 100000)
    (h : ∀ v' w', RZ K w' v' (l ++ X) → w.grownBy w' v.ownBlock → (v'.ownBlock = v.ownBlock ∨ v'.ownBlock = some w.heap.size) → KK (a.put o.dst v') w') :
    if Region.wanted o (yielded ops a.tmps) = true then Oper.wp Try.prog o a w KK Q else E := by
  have hw : Region.wanted o (yielded ops a.tmps) = true := by simp [Region.wanted, hgd]
  rw [if_pos hw]
  exact wp_push_row (ops := ops) K s x ho v xv l X hs hx hown hg hlen h
/-- one thing, laid into a block of its own, as a row that can be read -/
theorem RS.one {α : Type} (K : RK α) (g : Nat) (z : α) (hc : ∀ j, j < K.k → w.cell? ⟨g, j, none⟩ = (K.cl z)[j]?) : RS K w (.slice (some ⟨g, 0, none⟩) 1 1) [z] :=
  ⟨some ⟨g, 0, none⟩, 1, g, 0, rfl, Nat.le_refl _, by unfold maxLen; omega, fun _ => rfl, fun i hi j hj => by
    match i, hi with
    | 0, _ => simpa using hc j hj⟩
theorem RS.one3 {K : RK (Int × Int × Int)} (hK : K.cl = tri) (hk : K.k = 3) (g : Nat) (z0 z1 z2 : Int) (h0 : w.cell? ⟨g, 0, none⟩ = some (.int .i64 z0)) (h1 : w.cell? ⟨g, 1, none⟩ = some (.int .i64 z1)) (h2 : w.cell? ⟨g, 2, none⟩ = some (.int .i64 z2)) : RS K w (.slice (some ⟨g, 0, none⟩) 1 1) [(z0, z1, z2)] :=
  RS.one K g _ fun j hj => by
    rw [hk] at hj
    rw [hK]
    match j, hj with
    | 0, _ => exact h0
    | 1, _ => exact h1
    | 2, _ => exact h2
theorem RS.one2 {K : RK (Int × Int)} (hK : K.cl = duo) (hk : K.k = 2) (g : Nat) (z0 z1 : Int) (h0 : w.cell? ⟨g, 0, none⟩ = some (.int .i64 z0)) (h1 : w.cell? ⟨g, 1, none⟩ = some (.int .i64 z1)) : RS K w (.slice (some ⟨g, 0, none⟩) 1 1) [(z0, z1)] :=
  RS.one K g _ fun j hj => by
    rw [hk] at hj
    rw [hK]
    match j, hj with
    | 0, _ => exact h0
    | 1, _ => exact h1
theorem RS.one1 {K : RK Int} (hK : K.cl = uno) (hk : K.k = 1) (g : Nat) (z : Int) (h0 : w.cell? ⟨g, 0, none⟩ = some (.int .i64 z)) : RS K w (.slice (some ⟨g, 0, none⟩) 1 1) [z] :=
  RS.one K g _ fun j hj => by
    rw [hk] at hj
    rw [hK]
    match j, hj with
    | 0, _ => exact h0
end
theorem size35 : (Try.prog.info? 35).map (·.size) = some 8 := by kernel_rfl
theorem ret_L2 {fn : Func} {q u : Nat} (h : fn.results = #[.cell q 35, .tmp u]) (tmps : Array Value) (g : Nat) (hb : tmps.getD q undef = .pointer (some ⟨g, 0, none⟩)) (W : World) (a0 a1 a2 a3 a4 a5 a6 a7 : Value) (hg : W.heap[g]? = some (.cells #[a0, a1, a2, a3, a4, a5, a6, a7] 35)) :
    (results fn tmps).run Try.prog W = .ok (.tuple #[.agg #[a0, a1, a2, a3, a4, a5, a6, a7], tmps.getD u undef]) W := by
  rw [results_cell_tmp h, hb]
  simp [asAddr, run_loadVar_row W g 35 35 #[a0, a1, a2, a3, a4, a5, a6, a7] _ _ hg Try.underlying35 rfl size35]
def put8W (W : World) (g : Nat) (a0 a1 a2 a3 a4 a5 a6 a7 : Value) : World := (((((((W.setCell ⟨g, 0, none⟩ a0).setCell ⟨g, 1, none⟩ a1).setCell ⟨g, 2, none⟩ a2).setCell ⟨g, 3, none⟩ a3).setCell ⟨g, 4, none⟩ a4).setCell ⟨g, 5, none⟩ a5).setCell ⟨g, 6, none⟩ a6).setCell ⟨g, 7, none⟩ a7
theorem put8V {W : World} {g : Nat} {ty : TypeId} {x0 x1 x2 x3 x4 x5 x6 x7 a0 a1 a2 a3 a4 a5 a6 a7 : Value} (h : W.heap[g]? = some (.cells #[x0, x1, x2, x3, x4, x5, x6, x7] ty)) : (put8W W g a0 a1 a2 a3 a4 a5 a6 a7).heap[g]? = some (.cells #[a0, a1, a2, a3, a4, a5, a6, a7] ty) := by
  have e0 : (W.setCell ⟨g, 0, none⟩ a0).heap[g]? = some (.cells #[a0, x1, x2, x3, x4, x5, x6, x7] ty) := (heap_setCell_same _ g 0 _ ty a0 h).trans (by simp)
  have e1 : ((W.setCell ⟨g, 0, none⟩ a0).setCell ⟨g, 1, none⟩ a1).heap[g]? = some (.cells #[a0, a1, x2, x3, x4, x5, x6, x7] ty) := (heap_setCell_same _ g 1 _ ty a1 e0).trans (by simp)
  have e2 : (((W.setCell ⟨g, 0, none⟩ a0).setCell ⟨g, 1, none⟩ a1).setCell ⟨g, 2, none⟩ a2).heap[g]? = some (.cells #[a0, a1, a2, x3, x4, x5, x6, x7] ty) := (heap_setCell_same _ g 2 _ ty a2 e1).trans (by simp)
  have e3 : ((((W.setCell ⟨g, 0, none⟩ a0).setCell ⟨g, 1, none⟩ a1).setCell ⟨g, 2, none⟩ a2).setCell ⟨g, 3, none⟩ a3).heap[g]? = some (.cells #[a0, a1, a2, a3, x4, x5, x6, x7] ty) := (heap_setCell_same _ g 3 _ ty a3 e2).trans (by simp)
  have e4 : (((((W.setCell ⟨g, 0, none⟩ a0).setCell ⟨g, 1, none⟩ a1).setCell ⟨g, 2, none⟩ a2).setCell ⟨g, 3, none⟩ a3).setCell ⟨g, 4, none⟩ a4).heap[g]? = some (.cells #[a0, a1, a2, a3, a4, x5, x6, x7] ty) := (heap_setCell_same _ g 4 _ ty a4 e3).trans (by simp)
  have e5 : ((((((W.setCell ⟨g, 0, none⟩ a0).setCell ⟨g, 1, none⟩ a1).setCell ⟨g, 2, none⟩ a2).setCell ⟨g, 3, none⟩ a3).setCell ⟨g, 4, none⟩ a4).setCell ⟨g, 5, none⟩ a5).heap[g]? = some (.cells #[a0, a1, a2, a3, a4, a5, x6, x7] ty) := (heap_setCell_same _ g 5 _ ty a5 e4).trans (by simp)
  have e6 : (((((((W.setCell ⟨g, 0, none⟩ a0).setCell ⟨g, 1, none⟩ a1).setCell ⟨g, 2, none⟩ a2).setCell ⟨g, 3, none⟩ a3).setCell ⟨g, 4, none⟩ a4).setCell ⟨g, 5, none⟩ a5).setCell ⟨g, 6, none⟩ a6).heap[g]? = some (.cells #[a0, a1, a2, a3, a4, a5, a6, x7] ty) := (heap_setCell_same _ g 6 _ ty a6 e5).trans (by simp)
  have e7 : ((((((((W.setCell ⟨g, 0, none⟩ a0).setCell ⟨g, 1, none⟩ a1).setCell ⟨g, 2, none⟩ a2).setCell ⟨g, 3, none⟩ a3).setCell ⟨g, 4, none⟩ a4).setCell ⟨g, 5, none⟩ a5).setCell ⟨g, 6, none⟩ a6).setCell ⟨g, 7, none⟩ a7).heap[g]? = some (.cells #[a0, a1, a2, a3, a4, a5, a6, a7] ty) := (heap_setCell_same _ g 7 _ ty a7 e6).trans (by simp)
  exact e7
theorem below8 {B : Nat} {w W : World} {g : Nat} (h : Below B w W) (hg : B ≤ g) (a0 a1 a2 a3 a4 a5 a6 a7 : Value) : Below B w (put8W W g a0 a1 a2 a3 a4 a5 a6 a7) := by
  unfold put8W
  exact (((((((h.setCell (p := ⟨g, 0, none⟩) hg _).setCell (p := ⟨g, 1, none⟩) hg _).setCell (p := ⟨g, 2, none⟩) hg _).setCell (p := ⟨g, 3, none⟩) hg _).setCell (p := ⟨g, 4, none⟩) hg _).setCell (p := ⟨g, 5, none⟩) hg _).setCell (p := ⟨g, 6, none⟩) hg _).setCell (p := ⟨g, 7, none⟩) hg _
/-- the document's call answers a log and something else -/
def FB (B : Nat) (v v' : Value) : Prop := v' = v ∨ ∀ g o n c, v' = .slice (some ⟨g, o, none⟩) n c → B ≤ g
/-- each row is the one that was, or a new one -/
def FV (B : Nat) (u v : Value) : Prop := ∃ R W O R' W' O' dv rv wv ov iv rv' wv' ov' iv', u = .agg #[R, W, O, dv, rv, wv, ov, iv] ∧ v = .agg #[R', W', O', dv, rv', wv', ov', iv'] ∧ FB B rv rv' ∧ FB B wv wv' ∧ FB B ov ov' ∧ FB B iv iv'
theorem FV.of {B : Nat} {R W O R' W' O' dv rv wv ov iv rv' wv' ov' iv' : Value} (h1 : FB B rv rv') (h2 : FB B wv wv') (h3 : FB B ov ov') (h4 : FB B iv iv') : FV B (.agg #[R, W, O, dv, rv, wv, ov, iv]) (.agg #[R', W', O', dv, rv', wv', ov', iv']) := ⟨_, _, _, _, _, _, _, _, _, _, _, _, _, _, _, rfl, rfl, h1, h2, h3, h4⟩
theorem FB.new {B : Nat} {v v' : Value} (h : ∀ g, v'.ownBlock = some g → B ≤ g) : FB B v v' := .inr fun g o n c e => h g (by rw [e]; rfl)
theorem FB.none {B : Nat} {v : Value} {n c : Nat} : FB B v (.slice none n c) := .inr fun g o n c e => by cases e
def DQ (u : Value) (d : Dg) (x : Value) (w : World) (e : Ending) (w' : World) : Prop := Below w.heap.size w w' ∧ ∃ v, e = .returned (.tuple #[v, x]) ∧ DV w' v d ∧ FV w.heap.size u v
theorem DQ.mk {u : Value} {d : Dg} {x : Value} {w W : World} {dv rv wv ov iv : Value} (h : DX W d dv rv wv ov iv) (b : Below w.heap.size w W) (hf : FV w.heap.size u (.agg #[.int .i64 d.R, .int .i64 d.W, .int .i64 d.O, dv, rv, wv, ov, iv])) : DQ u d x w (.returned (.tuple #[.agg #[.int .i64 d.R, .int .i64 d.W, .int .i64 d.O, dv, rv, wv, ov, iv], x])) W := ⟨b, _, rfl, ⟨dv, rv, wv, ov, iv, rfl, h⟩, hf⟩
/-- a box with a log, and one that the answer is to come into -/
structure BX (w V : World) (g g1 : Nat) (d : Dg) (dv rv wv ov iv : Value) : Prop where
  b0 : V.heap[g]? = some (.cells #[.int .i64 d.R, .int .i64 d.W, .int .i64 d.O, dv, rv, wv, ov, iv] 35)
  b1 : V.heap[g1]? = some (.cells #[.int .i64 0, .int .i64 0, .int .i64 0, .slice none 0 0, .slice none 0 0, .slice none 0 0, .slice none 0 0, .slice none 0 0] 35)
  ne : g ≠ g1
  sz : g < V.heap.size ∧ g1 < V.heap.size
  lo : w.heap.size ≤ g ∧ w.heap.size ≤ g1
  bl : Below w.heap.size w V
theorem boxes (w : World) (d : Dg) (dv rv wv ov iv : Value) : ∃ V g, w.heap.size = g ∧ (w.alloc (.cells #[.int .i64 d.R, .int .i64 d.W, .int .i64 d.O, dv, rv, wv, ov, iv] 35)).alloc (.cells #[.int .i64 0, .int .i64 0, .int .i64 0, .slice none 0 0, .slice none 0 0, .slice none 0 0, .slice none 0 0, .slice none 0 0] 35) = V ∧ BX w V g (g + 1) d dv rv wv ov iv :=
  ⟨_, _, rfl, rfl, by rw [heap_alloc_old _ _ (by simp), heap_alloc_new], heap_alloc2_new _ _ _, by omega, by simp; omega, by omega, (bl1 w _).trans ((bl1 _ _).mono (bl1 w _).size)⟩
section
variable {w V W : World} {g g1 : Nat} {d : Dg} {dv rv wv ov iv v' : Value}
theorem BX.below (h : BX w V g g1 d dv rv wv ov iv) (b : Below V.heap.size V W) : BX w W g g1 d dv rv wv ov iv :=
  ⟨(b.block g h.sz.1).trans h.b0, (b.block g1 h.sz.2).trans h.b1, h.ne, by have := h.sz; have := b.size; omega, h.lo, h.bl.trans (b.mono h.bl.size)⟩
theorem BX.c0 (h : BX w V g g1 d dv rv wv ov iv) : V.cell? ⟨g, 0, none⟩ = some (.int .i64 d.R) ∧ V.cell? ⟨g, 1, none⟩ = some (.int .i64 d.W) ∧ V.cell? ⟨g, 2, none⟩ = some (.int .i64 d.O) ∧ V.cell? ⟨g, 3, none⟩ = some dv ∧ V.cell? ⟨g, 4, none⟩ = some rv ∧ V.cell? ⟨g, 5, none⟩ = some wv ∧ V.cell? ⟨g, 6, none⟩ = some ov ∧ V.cell? ⟨g, 7, none⟩ = some iv := box_cell h.b0
theorem BX.f (h : BX w V g g1 d dv rv wv ov iv) (j : Nat) : V.frozen? ⟨g, j, none⟩ = false ∧ V.frozen? ⟨g1, j, none⟩ = false := ⟨frozen_of_row V g j _ _ h.b0, frozen_of_row V g1 j _ _ h.b1⟩
theorem BX.c1 (h : BX w V g g1 d dv rv wv ov iv) : V.cell? ⟨g1, 0, none⟩ = some (.int .i64 0) ∧ V.cell? ⟨g1, 1, none⟩ = some (.int .i64 0) ∧ V.cell? ⟨g1, 2, none⟩ = some (.int .i64 0) ∧ V.cell? ⟨g1, 3, none⟩ = some (.slice none 0 0) ∧ V.cell? ⟨g1, 4, none⟩ = some (.slice none 0 0) ∧ V.cell? ⟨g1, 5, none⟩ = some (.slice none 0 0) ∧ V.cell? ⟨g1, 6, none⟩ = some (.slice none 0 0) ∧ V.cell? ⟨g1, 7, none⟩ = some (.slice none 0 0) := box_cell h.b1
theorem BX.set (h : BX w V g g1 d dv rv wv ov iv) {e : Dg} {dv' rv' wv' ov' iv' : Value} (j : Nat) (u : Value) (hc : (#[Value.int .i64 d.R, .int .i64 d.W, .int .i64 d.O, dv, rv, wv, ov, iv] : Array Value).setIfInBounds j u = #[Value.int .i64 e.R, .int .i64 e.W, .int .i64 e.O, dv', rv', wv', ov', iv']) : BX w (V.setCell ⟨g, j, none⟩ u) g g1 e dv' rv' wv' ov' iv' :=
  ⟨by rw [heap_setCell_same V g j _ 35 u h.b0, hc], (Below.heap_setCell _ _ _ _ (by exact h.ne.symm)).trans h.b1, h.ne, by simpa [World.setCell] using h.sz, h.lo, h.bl.setCell (p := ⟨g, j, none⟩) h.lo.1 _⟩
end
theorem put8_else (V : World) (g1 k : Nat) (a0 a1 a2 a3 a4 a5 a6 a7 : Value) (hk : k ≠ g1) : (put8W V g1 a0 a1 a2 a3 a4 a5 a6 a7).heap[k]? = V.heap[k]? := by
  unfold put8W
  have h : ∀ (W : World) j u, (W.setCell ⟨g1, j, none⟩ u).heap[k]? = W.heap[k]? := fun W j u => Below.heap_setCell _ _ _ _ (by exact hk)
  rw [h, h, h, h, h, h, h, h]
theorem BX.fin {w V : World} {g g1 : Nat} {e : Dg} {dv rv wv ov iv : Value} (h : BX w V g g1 e dv rv wv ov iv) (hx : ∀ W, Below w.heap.size w W → (∀ k, k ≠ g1 → W.heap[k]? = V.heap[k]?) → DX W e dv rv wv ov iv) {u : Value} (hf : FV w.heap.size u (.agg #[.int .i64 e.R, .int .i64 e.W, .int .i64 e.O, dv, rv, wv, ov, iv])) (x : Value) (a0 a1 a2 a3 a4 a5 a6 a7 : Value) :
    DQ u e x w (.returned (.tuple #[.agg #[.int .i64 e.R, .int .i64 e.W, .int .i64 e.O, dv, rv, wv, ov, iv], x])) (put8W V g1 a0 a1 a2 a3 a4 a5 a6 a7) := by
  have b := below8 h.bl h.lo.2 a0 a1 a2 a3 a4 a5 a6 a7
  exact DQ.mk (hx _ b (fun k hk => put8_else _ _ _ _ _ _ _ _ _ _ _ hk)) b hf
theorem push_new {V w4 : World} {E : Obj} {v4 : Value} {n : Nat} (g4 : (V.alloc E).grownBy w4 (Value.slice (some ⟨V.heap.size, 0, none⟩) 0 0).ownBlock) (ho : v4.ownBlock = (Value.slice (some ⟨V.heap.size, 0, none⟩) 0 0).ownBlock ∨ v4.ownBlock = some n) (hn : V.heap.size ≤ n) :
    Below V.heap.size V w4 ∧ ∀ g, v4.ownBlock = some g → V.heap.size ≤ g := by
  refine ⟨(bl1 V E).trans (grown_below g4 (bl1 V E).size fun g hg => ?_), fun g hg => ?_⟩
  · have : V.heap.size = g := by simpa [Value.ownBlock] using hg
    omega
  · rcases ho with h | h
    · rw [h] at hg
      have : V.heap.size = g := by simpa [Value.ownBlock] using hg
      omega
    · rw [h] at hg
      injection hg with hg
      omega
theorem push_more {V W w4 : World} {v v4 : Value} {n : Nat} (hV : Below V.heap.size V W) (hv : ∀ g, v.ownBlock = some g → V.heap.size ≤ g) (g4 : W.grownBy w4 v.ownBlock) (ho : v4.ownBlock = v.ownBlock ∨ v4.ownBlock = some n) (hn : V.heap.size ≤ n) :
    Below V.heap.size V w4 ∧ ∀ g, v4.ownBlock = some g → V.heap.size ≤ g := by
  refine ⟨hV.trans (grown_below g4 hV.size hv), fun g hg => ?_⟩
  rcases ho with h | h
  · exact hv g (h ▸ hg)
  · rw [h] at hg
    injection hg with hg
    omega
def demitS (d : Dg) (n : Int) : Dg := if (d.Os.length : Int) = d.O then d else { d with Os := d.Os ++ [n] }
def demitE (d : Dg) : Int := if (d.Os.length : Int) = d.O then 200 else 0
set_option maxRecDepth 100000 in
set_option maxHeartbeats 4000000 in
theorem remit_any {w : World} {v : Value} {d : Dg} (h : DV w v d) (z : Int) (hl : d.Os.length ≤ 1000) : Calls Try.prog 52 #[v, .int .i64 z] w (DQ v (demitS d z) (.int .i64 (demitE d)) w) := by
  obtain ⟨dv, rv, wv, ov, iv, rfl, h⟩ := h
  obtain ⟨m, hm⟩ : ∃ m, d.Os.length = m := ⟨_, rfl⟩
  have HM : Hid (d.Os.length = m) := hm
  have HX : Hid (DX w d dv rv wv ov iv) := h
  obtain ⟨a3, k3, e3⟩ := h.dd.form
  obtain ⟨a4, k4, e4⟩ := h.rr.form
  obtain ⟨a5, k5, e5⟩ := h.ww.form
  obtain ⟨a6, k6, e6⟩ := h.oo.form
  obtain ⟨a7, k7, e7⟩ := h.ii.form
  rw [hm] at hl e6
  subst e3 e4 e5 e6 e7
  clear h hm
  obtain ⟨V, g, hg, hV, hb⟩ := boxes w d _ _ _ _ _
  have HV : Hid _ := hV
  have HGG : Hid (w.heap.size = g) := hg
  have HB : Hid (BX w V g (g + 1) d _ _ _ _ _) := hb
  obtain ⟨b0, b1, b2, b3, b4, b5, b6, b7⟩ := hb.c0
  clear hV hg hb
  go_enter Try.func52, Try.ntmps52
  go_upto_region 1 with fail
  rw [HV.out, HGG.out]
  by_cases hf : (m : Int) = d.O
  · have e1 : ((m : Int) == d.O) = true := by simp [hf]
    obtain ⟨y0, y1, y2, y3, y4, y5, y6, y7⟩ := HB.out.c1
    have f0 := (HB.out.f 0).2
    have f1 := (HB.out.f 1).2
    have f2 := (HB.out.f 2).2
    have f3 := (HB.out.f 3).2
    have f4 := (HB.out.f 4).2
    have f5 := (HB.out.f 5).2
    have f6 := (HB.out.f 6).2
    have f7 := (HB.out.f 7).2
    have ne := HB.out.ne
    have ne' := HB.out.ne.symm
    have HF : Hid (DQ (.agg #[.int .i64 d.R, .int .i64 d.W, .int .i64 d.O, .slice a3 d.Rd.length k3, .slice a4 d.Rs.length k4, .slice a5 d.Ws.length k5, .slice a6 m k6, .slice a7 d.Is.length k7]) (demitS d z) (.int .i64 (demitE d)) w (.returned (.tuple #[.agg #[.int .i64 d.R, .int .i64 d.W, .int .i64 d.O, .slice a3 d.Rd.length k3, .slice a4 d.Rs.length k4, .slice a5 d.Ws.length k5, .slice a6 m k6, .slice a7 d.Is.length k7], .int .i64 200])) (put8W V (g + 1) (.int .i64 d.R) (.int .i64 d.W) (.int .i64 d.O) (.slice a3 d.Rd.length k3) (.slice a4 d.Rs.length k4) (.slice a5 d.Ws.length k5) (.slice a6 m k6) (.slice a7 d.Is.length k7))) := by
      show DQ _ _ _ _ _ _
      unfold demitS demitE
      rw [HM.out, if_pos hf, if_pos hf]
      exact HB.out.fin (fun W hW _ => HX.out.below hW) (FV.of (.inl rfl) (.inl rfl) (.inl rfl) (.inl rfl)) _ _ _ _ _ _ _ _ _
    go_wp2_with fail
    refine bodyPost_ret (ret_L2 Try.results52 _ (g + 1) rfl _ _ _ _ _ _ _ _ _ (put8V HB.out.b1)) rfl ?_
    exact HF.out
  · have e1 : ((m : Int) == d.O) = false := by simp; omega
    have HE : Hid (RZ kN (V.alloc (.cells #[] 2)) (.slice (some ⟨V.heap.size, 0, none⟩) 0 0) []) := RZ.empty kN V
    have HO : Hid (RS kN (V.alloc (.cells #[] 2)) (.slice a6 m k6) d.Os) := (HX.out.oo.below HB.out.bl).below (bl1 V _)
    have hl5 : ([] : List Int).length + d.Os.length ≤ 100000 := by have := HM.out; simp; omega
    have q6 : (V.alloc (.cells #[] 2)).cell? ⟨g, 6, none⟩ = some (.slice a6 m k6) := (HB.out.below (bl1 V _)).c0.2.2.2.2.2.2.1
    go_wp2_with (at_builtin; refine push_row kN _ rfl _ _ rfl _ _ [] d.Os rfl rfl HE.out HO.out hl5 ?_)
    intro v4 w4 hz g4 ho
    try rw [List.nil_append] at hz
    obtain ⟨B4, n4⟩ := push_new g4 ho (by first | omega | (simp; omega) | simp)
    have HZ4 : Hid (RZ kN w4 v4 d.Os) := hz
    have HB4 : Hid (Below V.heap.size V w4) := B4
    have HN4 : Hid (∀ g, v4.ownBlock = some g → V.heap.size ≤ g) := n4
    clear hz g4 ho B4 n4 q6 HE HO
    have HE : Hid (∀ A, RZ kN (w4.alloc A) v4 d.Os) := fun A => HZ4.out.below (bl1 w4 A)
    have HP2 : Hid (RS kN (w4.alloc (.cells #[.int .i64 z] 2)) (.slice (some ⟨w4.heap.size, 0, none⟩) 1 1) [z]) := RS.one1 rfl rfl _ _ (by simp)
    have hl6 : d.Os.length + [z].length ≤ 100000 := by have := HM.out; simp; omega
    go_wp2_with (at_builtin; refine push_row kN _ rfl _ _ rfl _ _ d.Os [z] rfl rfl (HE.out _) HP2.out hl6 ?_)
    intro v5 w5 hz g5 ho
    obtain ⟨B5, n5⟩ := push_more (HB4.out.alloc HB4.out.size _) HN4.out g5 ho (by have := HB4.out.size; first | omega | (simp; omega))
    obtain ⟨a8, k8, rfl⟩ := hz.sl
    have HZ5 : Hid (RZ kN w5 _ (d.Os ++ [z])) := hz
    have HN5 : Hid (∀ g, _ = some g → V.heap.size ≤ g) := n5
    have hb5 := HB.out.below B5
    have x6 := hb5.c0.2.2.2.2.2.2.1
    have xf := (hb5.f 6).1
    have hl7 : (d.Os ++ [z]).length = m + 1 := by have := HM.out; simp; omega
    rw [hl7] at HZ5 HN5 ⊢
    have hb6 := hb5.set (e := { d with Os := d.Os ++ [z] }) 6 (.slice a8 (m + 1) k8) rfl
    have HB6 : Hid (BX w (w5.setCell ⟨g, 6, none⟩ (.slice a8 (m + 1) k8)) g (g + 1) { d with Os := d.Os ++ [z] } _ _ _ _ _) := hb6
    obtain ⟨b0, b1, b2, b3, b4, b5, b6, b7⟩ := hb6.c0
    obtain ⟨y0, y1, y2, y3, y4, y5, y6, y7⟩ := hb6.c1
    have f0 := (hb6.f 0).2
    have f1 := (hb6.f 1).2
    have f2 := (hb6.f 2).2
    have f3 := (hb6.f 3).2
    have f4 := (hb6.f 4).2
    have f5 := (hb6.f 5).2
    have f6 := (hb6.f 6).2
    have f7 := (hb6.f 7).2
    have ne := hb6.ne
    have ne' := hb6.ne.symm
    clear hz g5 ho B5 n5 hb5 hb6 HE HP2
    have HF : Hid (∀ W, w5.setCell ⟨g, 6, none⟩ (.slice a8 (m + 1) k8) = W → DQ (.agg #[.int .i64 d.R, .int .i64 d.W, .int .i64 d.O, .slice a3 d.Rd.length k3, .slice a4 d.Rs.length k4, .slice a5 d.Ws.length k5, .slice a6 m k6, .slice a7 d.Is.length k7]) (demitS d z) (.int .i64 (demitE d)) w (.returned (.tuple #[.agg #[.int .i64 d.R, .int .i64 d.W, .int .i64 d.O, .slice a3 d.Rd.length k3, .slice a4 d.Rs.length k4, .slice a5 d.Ws.length k5, .slice a8 (m + 1) k8, .slice a7 d.Is.length k7], .int .i64 0])) (put8W W (g + 1) (.int .i64 d.R) (.int .i64 d.W) (.int .i64 d.O) (.slice a3 d.Rd.length k3) (.slice a4 d.Rs.length k4) (.slice a5 d.Ws.length k5) (.slice a8 (m + 1) k8) (.slice a7 d.Is.length k7))) := by
      rintro W rfl
      show DQ _ _ _ _ _ _
      unfold demitS demitE
      rw [HM.out, if_neg hf, if_neg hf]
      refine HB6.out.fin (fun W hW hk => ?_) (FV.of (.inl rfl) (.inl rfl) (FB.new fun g h => Nat.le_trans HB.out.bl.size (HN5.out g h)) (.inl rfl)) _ _ _ _ _ _ _ _ _
      have hx := HX.out.below hW
      refine ⟨hx.dd, hx.rr, hx.ww, ?_, hx.ii⟩
      refine (HZ5.out.keep fun g' hg' => ?_).rs
      have h1 := HN5.out g' hg'
      have h2 := HB.out.sz
      rw [hk g' (by omega)]
      exact Below.heap_setCell _ _ _ _ (by show g' ≠ g; omega)
    have hg1 := HB6.out.b1
    have HB1 : Hid (∀ W, w5.setCell ⟨g, 6, none⟩ (.slice a8 (m + 1) k8) = W → W.heap[g + 1]? = some (.cells #[.int .i64 0, .int .i64 0, .int .i64 0, .slice none 0 0, .slice none 0 0, .slice none 0 0, .slice none 0 0, .slice none 0 0] 35)) := by rintro W rfl; exact hg1
    clear hg1
    go_upto_region 4 with fail
    generalize hW : w5.setCell ⟨g, 6, none⟩ (.slice a8 (m + 1) k8) = W at *
    have HF2 := HF.out W rfl
    have HB2 := HB1.out W rfl
    go_wp2_with fail
    refine bodyPost_ret (ret_L2 Try.results52 _ (g + 1) rfl _ _ _ _ _ _ _ _ _ (put8V HB2)) rfl ?_
    exact HF2
end Go.Proofs.Ytongeppdaeekeaa
