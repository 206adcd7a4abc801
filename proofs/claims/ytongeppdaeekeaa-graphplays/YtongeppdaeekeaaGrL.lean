/- Ages in a heap: what their methods write. -/
import Derived.Test.YtongeppdaeekeaaGrK
namespace Go.Proofs.Ytongeppdaeekeaa
open Go.RowKit Go.Maps
set_option linter.unusedVariables false

theorem wp_push_g {α : Type} (K : RK α) {w : World} {ops : Array Oper} {o : Oper} {a : Act} {KK : Act → World → Prop} {Q : Exit → Act → World → Prop} (s x : Operand)
    (ho : o.op = .call { callee := .builtin .append, args := #[s, x], argTypes := #[K.st, K.st] }) (v xv : Value) (l X : List α) (hs : a.eval s = v) (hx : a.eval x = xv) (hown : RZ K w v l) (hg : RS K w xv X)
    (hlen : l.length + X.length ≤ 100000)
    (h : ∀ v' w', RZ K w' v' (l ++ X) → w.grownBy w' v.ownBlock → (v'.ownBlock = v.ownBlock ∨ v'.ownBlock = some w.heap.size) → KK (a.put o.dst v') w') : Oper.wp Try.prog o a w KK Q := by
  obtain ⟨v', w', hr, h2, h3, h4⟩ := app_row K w o.type v xv l X hown hg hlen
  unfold Oper.wp execOp
  simp only [ho, resolve, invoke, builtin, Sem.run_bind, Sem.run_pure, Result.andThen_ok, List.map_toArray, List.map_cons, List.map_nil, hs, hx, hr]
  exact h v' w' h2 h3 h4
theorem step_push_g {α : Type} (K : RK α) {w : World} {ops : Array Oper} {o : Oper} {a : Act} {KK : Act → World → Prop} {Q : Exit → Act → World → Prop} {E : Prop} (hgd : o.guard = none) (s x : Operand)
    (ho : o.op = .call { callee := .builtin .append, args := #[s, x], argTypes := #[K.st, K.st] }) (v xv : Value) (l X : List α) (hs : a.eval s = v) (hx : a.eval x = xv) (hown : RZ K w v l) (hg : RS K w xv X)
    (hlen : l.length + X.length ≤ 100000)
    (h : ∀ v' w', RZ K w' v' (l ++ X) → w.grownBy w' v.ownBlock → (v'.ownBlock = v.ownBlock ∨ v'.ownBlock = some w.heap.size) → KK (a.put o.dst v') w') :
    if Region.wanted o (yielded ops a.tmps) = true then Oper.wp Try.prog o a w KK Q else E := by
  have hw : Region.wanted o (yielded ops a.tmps) = true := by simp [Region.wanted, hgd]
  rw [if_pos hw]
  exact wp_push_g (ops := ops) K s x ho v xv l X hs hx hown hg hlen h
section
variable {w w' : World} {ab : Nat} {hv : Value} {H : List Int}
/-- two numbers are exchanged -/
theorem AV.swp {g n c : Nat} (h : AV w ab (.slice (some ⟨g, 0, none⟩) n c) H) {i j : Nat} (hi : i < H.length) (hj : j < H.length) : AV ((w.setCell ⟨g, i, none⟩ (.int .i64 (at0 H j))).setCell ⟨g, j, none⟩ (.int .i64 (at0 H i))) ab (.slice (some ⟨g, 0, none⟩) n c) (swp H i j) := by
  have r1 := RZ.set (K := kG) h.rz hi (j := 0) (by decide) (.int .i64 (at0 H j)) (at0 H j) rfl
  have r2 := RZ.set (K := kG) r1 (i := j) (by rw [List.length_set]; exact hj) (j := 0) (by decide) (.int .i64 (at0 H i)) (at0 H i) rfl
  have e0 : ∀ k, k * kG.k + 0 = k := fun k => by show k * 1 + 0 = k; omega
  rw [e0, e0] at r2
  have hg : g ≠ ab := fun e => h.ne (by rw [e]; rfl)
  refine ⟨?_, r2, h.ne, by rw [swp_len]; exact h.ll⟩
  rw [Below.heap_setCell _ _ _ _ (Ne.symm hg), Below.heap_setCell _ _ _ _ (Ne.symm hg)]
  exact h.bl
set_option maxRecDepth 100000 in
set_option maxHeartbeats 4000000 in
theorem swap_any (h : AV w ab hv H) (i j : Nat) (hi : i < H.length) (hj : j < H.length) : Calls Try.prog 149 #[.pointer (some ⟨ab, 0, none⟩), .int .i64 (i : Int), .int .i64 (j : Int)] w (AQ w ab hv (swp H i j) (.tuple #[])) := by
  have c1 := h.cell
  obtain ⟨g, c, e, x0, f0⟩ := h.num hi
  obtain ⟨g', c', e', x1, f1⟩ := h.num hj
  have hl := h.ll
  subst e
  injection e' with e1 e2 e3
  injection e1 with e1
  injection e1 with e1
  subst e1 e3
  have hsw := h.swp hi hj
  have hd := hsw.below (Below.refl _ _).drew
  have HR : Hid (AQ w ab (.slice (some ⟨g, 0, none⟩) H.length c) (swp H i j) (.tuple #[]) (.returned (.tuple #[])) ((w.setCell ⟨g, i, none⟩ (.int .i64 (at0 H j))).setCell ⟨g, j, none⟩ (.int .i64 (at0 H i))).drew) :=
    ⟨_, rfl, hd, (((Ch.refl _ w).set (.inl (.inr rfl)) _ _).set (.inl (.inr rfl)) _ _).drew, .inl rfl⟩
  have hgne : g ≠ ab := fun e => h.ne (by rw [e]; rfl)
  have HG : Hid (g ≠ ab) := hgne
  clear h hd hsw hgne
  generalize AQ w ab _ (swp H i j) (.tuple #[]) = P at *
  generalize at0 H i = a at *
  generalize at0 H j = b at *
  generalize H.length = n at *
  have i1 : (0 : Int) ≤ (i : Int) := by omega
  have i2 : (i : Int) < (n : Int) := by omega
  have j1 : (0 : Int) ≤ (j : Int) := by omega
  have j2 : (j : Int) < (n : Int) := by omega
  have x1' : ∀ v, ∃ u, (w.setCell ⟨g, i, none⟩ v).cell? ⟨g, j, none⟩ = some u := fun v => by
    by_cases e : i = j
    · subst e
      exact ⟨v, World.cell?_setCell_same w _ _ x0⟩
    · exact ⟨_, (World.cell?_setCell_other w _ _ _ (by simp)).trans x1⟩
  obtain ⟨u, hu⟩ := x1' (.int .i64 b)
  have hu2 : (w.setCell ⟨g, i, none⟩ (.int .i64 b)).drew.cell? ⟨g, j, none⟩ = some u := hu
  clear x1'
  have hgab : g ≠ ab := HG.out
  have c1a : (w.setCell ⟨g, i, none⟩ (.int .i64 b)).drew.cell? ⟨ab, 0, none⟩ = some (.slice (some ⟨g, 0, none⟩) n c) := (World.cell?_setCell_other w _ _ _ (by simp)).trans c1
  have c1b : ((w.setCell ⟨g, i, none⟩ (.int .i64 b)).setCell ⟨g, j, none⟩ (.int .i64 a)).drew.cell? ⟨ab, 0, none⟩ = some (.slice (some ⟨g, 0, none⟩) n c) := (World.cell?_setCell_other _ _ _ _ (by simp)).trans c1a
  clear hgab
  go_enter Try.func149, Try.ntmps149
  refine wp_region_held_drew (S := (fun W => W.cell? ⟨ab, 0, none⟩ = some (.slice (some ⟨g, 0, none⟩) n c))) (by kernel_rfl) ?_ (fun hHeld => ?_)
  · exact c1
  refine wpAnyH_take (i := 0) (oi := { dst := some 6, op := Op.move (Operand.tmp 0), type := 138, pos := "ages.go:35", after := #[], guard := none }) (v := ?_) rfl (by kernel_rfl) (by kernel_rfl) (by kernel_rfl) (fun _ _ _ h => h) (Or.inl ⟨by rfl, ?_⟩) (by assumption) ?_
  rotate_left
  · intro w hSw
    try dsimp only at hSw
    first | (go_simp; done) | (go_simp; with_reducible rfl)
  try simp only [Act.put, List.setIfInBounds_toArray, List.set_cons_zero, List.set_cons_succ]
  refine wpAnyH_take (i := 1) (oi := { dst := some 7, op := Op.nilCheck (Operand.tmp 6), type := 0, pos := "ages.go:35", after := #[{ on := 0, ground := Ground.data }], guard := none }) (v := ?_) rfl (by kernel_rfl) (by kernel_rfl) (by kernel_rfl) (fun _ _ _ h => h) (Or.inl ⟨by rfl, ?_⟩) (by assumption) ?_
  rotate_left
  · intro w hSw
    try dsimp only at hSw
    first | (go_simp; done) | (go_simp; with_reducible rfl)
  try simp only [Act.put, List.setIfInBounds_toArray, List.set_cons_zero, List.set_cons_succ]
  refine wpAnyH_take (i := 2) (oi := { dst := some 8, op := Op.load 159 (Operand.tmp 7), type := 159, pos := "ages.go:35", after := #[{ on := 1, ground := Ground.data }], guard := none }) (v := ?_) rfl (by kernel_rfl) (by kernel_rfl) (by kernel_rfl) (fun _ _ _ h => h) (Or.inl ⟨by rfl, ?_⟩) (by assumption) ?_
  rotate_left
  · intro w hSw
    try dsimp only at hSw
    first | (go_simp; done) | (go_simp; with_reducible rfl)
  try simp only [Act.put, List.setIfInBounds_toArray, List.set_cons_zero, List.set_cons_succ]
  refine wpAnyH_take (i := 3) (oi := { dst := some 9, op := Op.move (Operand.tmp 1), type := 3, pos := "ages.go:35", after := #[], guard := none }) (v := ?_) rfl (by kernel_rfl) (by kernel_rfl) (by kernel_rfl) (fun _ _ _ h => h) (Or.inl ⟨by rfl, ?_⟩) (by assumption) ?_
  rotate_left
  · intro w hSw
    try dsimp only at hSw
    first | (go_simp; done) | (go_simp; with_reducible rfl)
  try simp only [Act.put, List.setIfInBounds_toArray, List.set_cons_zero, List.set_cons_succ]
  refine wpAnyH_take (i := 4) (oi := { dst := some 10, op := Op.move (Operand.tmp 0), type := 138, pos := "ages.go:35", after := #[], guard := none }) (v := ?_) rfl (by kernel_rfl) (by kernel_rfl) (by kernel_rfl) (fun _ _ _ h => h) (Or.inl ⟨by rfl, ?_⟩) (by assumption) ?_
  rotate_left
  · intro w hSw
    try dsimp only at hSw
    first | (go_simp; done) | (go_simp; with_reducible rfl)
  try simp only [Act.put, List.setIfInBounds_toArray, List.set_cons_zero, List.set_cons_succ]
  refine wpAnyH_take (i := 5) (oi := { dst := some 11, op := Op.nilCheck (Operand.tmp 10), type := 0, pos := "ages.go:35", after := #[{ on := 4, ground := Ground.data }], guard := none }) (v := ?_) rfl (by kernel_rfl) (by kernel_rfl) (by kernel_rfl) (fun _ _ _ h => h) (Or.inl ⟨by rfl, ?_⟩) (by assumption) ?_
  rotate_left
  · intro w hSw
    try dsimp only at hSw
    first | (go_simp; done) | (go_simp; with_reducible rfl)
  try simp only [Act.put, List.setIfInBounds_toArray, List.set_cons_zero, List.set_cons_succ]
  refine wpAnyH_take (i := 6) (oi := { dst := some 12, op := Op.load 159 (Operand.tmp 11), type := 159, pos := "ages.go:35", after := #[{ on := 5, ground := Ground.data }], guard := none }) (v := ?_) rfl (by kernel_rfl) (by kernel_rfl) (by kernel_rfl) (fun _ _ _ h => h) (Or.inl ⟨by rfl, ?_⟩) (by assumption) ?_
  rotate_left
  · intro w hSw
    try dsimp only at hSw
    first | (go_simp; done) | (go_simp; with_reducible rfl)
  try simp only [Act.put, List.setIfInBounds_toArray, List.set_cons_zero, List.set_cons_succ]
  refine wpAnyH_take (i := 7) (oi := { dst := some 13, op := Op.move (Operand.tmp 2), type := 3, pos := "ages.go:35", after := #[{ on := 21, ground := Ground.gcOnly Departure.lateStores }], guard := none }) (v := ?_) rfl (by kernel_rfl) (by kernel_rfl) (by kernel_rfl) (fun _ _ _ h => h) (Or.inl ⟨by rfl, ?_⟩) (by assumption) ?_
  rotate_left
  · intro w hSw
    try dsimp only at hSw
    first | (go_simp; done) | (go_simp; with_reducible rfl)
  try simp only [Act.put, List.setIfInBounds_toArray, List.set_cons_zero, List.set_cons_succ]
  refine wpAnyH_take (i := 8) (oi := { dst := some 14, op := Op.move (Operand.tmp 0), type := 138, pos := "ages.go:35", after := #[], guard := none }) (v := ?_) rfl (by kernel_rfl) (by kernel_rfl) (by kernel_rfl) (fun _ _ _ h => h) (Or.inl ⟨by rfl, ?_⟩) (by assumption) ?_
  rotate_left
  · intro w hSw
    try dsimp only at hSw
    first | (go_simp; done) | (go_simp; with_reducible rfl)
  try simp only [Act.put, List.setIfInBounds_toArray, List.set_cons_zero, List.set_cons_succ]
  refine wpAnyH_take (i := 9) (oi := { dst := some 15, op := Op.nilCheck (Operand.tmp 14), type := 0, pos := "ages.go:35", after := #[{ on := 8, ground := Ground.data }], guard := none }) (v := ?_) rfl (by kernel_rfl) (by kernel_rfl) (by kernel_rfl) (fun _ _ _ h => h) (Or.inl ⟨by rfl, ?_⟩) (by assumption) ?_
  rotate_left
  · intro w hSw
    try dsimp only at hSw
    first | (go_simp; done) | (go_simp; with_reducible rfl)
  try simp only [Act.put, List.setIfInBounds_toArray, List.set_cons_zero, List.set_cons_succ]
  refine wpAnyH_take (i := 10) (oi := { dst := some 16, op := Op.load 159 (Operand.tmp 15), type := 159, pos := "ages.go:35", after := #[{ on := 9, ground := Ground.data }], guard := none }) (v := ?_) rfl (by kernel_rfl) (by kernel_rfl) (by kernel_rfl) (fun _ _ _ h => h) (Or.inl ⟨by rfl, ?_⟩) (by assumption) ?_
  rotate_left
  · intro w hSw
    try dsimp only at hSw
    first | (go_simp; done) | (go_simp; with_reducible rfl)
  try simp only [Act.put, List.setIfInBounds_toArray, List.set_cons_zero, List.set_cons_succ]
  refine wpAnyH_take (i := 11) (oi := { dst := some 17, op := Op.move (Operand.tmp 2), type := 3, pos := "ages.go:35", after := #[], guard := none }) (v := ?_) rfl (by kernel_rfl) (by kernel_rfl) (by kernel_rfl) (fun _ _ _ h => h) (Or.inl ⟨by rfl, ?_⟩) (by assumption) ?_
  rotate_left
  · intro w hSw
    try dsimp only at hSw
    first | (go_simp; done) | (go_simp; with_reducible rfl)
  try simp only [Act.put, List.setIfInBounds_toArray, List.set_cons_zero, List.set_cons_succ]
  refine wpAnyH_take (i := 12) (oi := { dst := some 18, op := Op.indexAddr 159 (Operand.tmp 16) (Operand.tmp 17), type := 0, pos := "ages.go:35", after := #[{ on := 10, ground := Ground.data }, { on := 11, ground := Ground.data }], guard := none }) (v := ?_) rfl (by kernel_rfl) (by kernel_rfl) (by kernel_rfl) (fun _ _ _ h => h) (Or.inl ⟨by rfl, ?_⟩) (by assumption) ?_
  rotate_left
  · intro w hSw
    try dsimp only at hSw
    first | (go_simp; done) | (go_simp; with_reducible rfl)
  try simp only [Act.put, List.setIfInBounds_toArray, List.set_cons_zero, List.set_cons_succ]
  refine wpAnyH_take (i := 14) (oi := { dst := some 20, op := Op.move (Operand.tmp 0), type := 138, pos := "ages.go:35", after := #[], guard := none }) (v := ?_) rfl (by kernel_rfl) (by kernel_rfl) (by kernel_rfl) (fun _ _ _ h => h) (Or.inl ⟨by rfl, ?_⟩) (by assumption) ?_
  rotate_left
  · intro w hSw
    try dsimp only at hSw
    first | (go_simp; done) | (go_simp; with_reducible rfl)
  try simp only [Act.put, List.setIfInBounds_toArray, List.set_cons_zero, List.set_cons_succ]
  refine wpAnyH_take (i := 15) (oi := { dst := some 21, op := Op.nilCheck (Operand.tmp 20), type := 0, pos := "ages.go:35", after := #[{ on := 14, ground := Ground.data }], guard := none }) (v := ?_) rfl (by kernel_rfl) (by kernel_rfl) (by kernel_rfl) (fun _ _ _ h => h) (Or.inl ⟨by rfl, ?_⟩) (by assumption) ?_
  rotate_left
  · intro w hSw
    try dsimp only at hSw
    first | (go_simp; done) | (go_simp; with_reducible rfl)
  try simp only [Act.put, List.setIfInBounds_toArray, List.set_cons_zero, List.set_cons_succ]
  refine wpAnyH_take (i := 16) (oi := { dst := some 22, op := Op.load 159 (Operand.tmp 21), type := 159, pos := "ages.go:35", after := #[{ on := 15, ground := Ground.data }], guard := none }) (v := ?_) rfl (by kernel_rfl) (by kernel_rfl) (by kernel_rfl) (fun _ _ _ h => h) (Or.inl ⟨by rfl, ?_⟩) (by assumption) ?_
  rotate_left
  · intro w hSw
    try dsimp only at hSw
    first | (go_simp; done) | (go_simp; with_reducible rfl)
  try simp only [Act.put, List.setIfInBounds_toArray, List.set_cons_zero, List.set_cons_succ]
  refine wpAnyH_take (i := 17) (oi := { dst := some 23, op := Op.move (Operand.tmp 1), type := 3, pos := "ages.go:35", after := #[], guard := none }) (v := ?_) rfl (by kernel_rfl) (by kernel_rfl) (by kernel_rfl) (fun _ _ _ h => h) (Or.inl ⟨by rfl, ?_⟩) (by assumption) ?_
  rotate_left
  · intro w hSw
    try dsimp only at hSw
    first | (go_simp; done) | (go_simp; with_reducible rfl)
  try simp only [Act.put, List.setIfInBounds_toArray, List.set_cons_zero, List.set_cons_succ]
  refine wpAnyH_take (i := 18) (oi := { dst := some 24, op := Op.indexAddr 159 (Operand.tmp 22) (Operand.tmp 23), type := 0, pos := "ages.go:35", after := #[{ on := 16, ground := Ground.data }, { on := 17, ground := Ground.data }], guard := none }) (v := ?_) rfl (by kernel_rfl) (by kernel_rfl) (by kernel_rfl) (fun _ _ _ h => h) (Or.inl ⟨by rfl, ?_⟩) (by assumption) ?_
  rotate_left
  · intro w hSw
    try dsimp only at hSw
    first | (go_simp; done) | (go_simp; with_reducible rfl)
  try simp only [Act.put, List.setIfInBounds_toArray, List.set_cons_zero, List.set_cons_succ]
  refine wpAnyH_ready (rs := [13, 19]) (by kernel_rfl) (by simp) ?_
  refine AllReadyH.cons rfl (fun K hK => ?_) (AllReadyH.cons rfl (fun K hK => ?_) AllReadyH.nil)
  · go_simp
    refine hK.out _ _ ?_ (fun hHeld => ?_)
    · exact c1
    clear hK K
    refine wpAnyH_ready (rs := [19]) (by kernel_rfl) (by simp) ?_
    refine AllReadyH.cons rfl (fun K hK => ?_) AllReadyH.nil
    go_simp
    refine hK.out _ _ ?_ (fun hHeld => ?_)
    · exact c1
    clear hK K
    refine wpAnyH_take (i := 20) (oi := { dst := some 26, op := Op.indexAddr 159 (Operand.tmp 8) (Operand.tmp 9), type := 0, pos := "ages.go:35", after := #[{ on := 2, ground := Ground.data }, { on := 3, ground := Ground.data }, { on := 0, ground := Ground.phase }, { on := 1, ground := Ground.phase }, { on := 2, ground := Ground.phase }, { on := 3, ground := Ground.phase }, { on := 4, ground := Ground.textOnly Departure.lateStores }, { on := 5, ground := Ground.textOnly Departure.lateStoresUnsure }, { on := 6, ground := Ground.phase }, { on := 7, ground := Ground.textOnly Departure.lateStores }, { on := 8, ground := Ground.phase }, { on := 9, ground := Ground.phase }, { on := 10, ground := Ground.phase }, { on := 11, ground := Ground.phase }, { on := 12, ground := Ground.phase }, { on := 13, ground := Ground.phase }, { on := 14, ground := Ground.textOnly Departure.lateStores }, { on := 15, ground := Ground.textOnly Departure.lateStoresUnsure }, { on := 16, ground := Ground.phase }, { on := 17, ground := Ground.textOnly Departure.lateStores }, { on := 18, ground := Ground.textOnly Departure.lateStoresUnsure }, { on := 19, ground := Ground.phase }], guard := none }) (v := ?_) rfl (by kernel_rfl) (by kernel_rfl) (by kernel_rfl) (fun _ _ _ h => h) (Or.inl ⟨by rfl, ?_⟩) (by assumption) ?_
    rotate_left
    · intro w hSw
      try dsimp only at hSw
      first | (go_simp; done) | (go_simp; with_reducible rfl)
    try simp only [Act.put, List.setIfInBounds_toArray, List.set_cons_zero, List.set_cons_succ]
    refine wpAnyH_ready (rs := [21]) (by kernel_rfl) (by simp) ?_
    refine AllReadyH.cons rfl (fun K hK => ?_) AllReadyH.nil
    go_simp
    refine hK.out _ _ ?_ (fun hHeld => ?_)
    · exact c1a
    clear hK K
    refine wpAnyH_take (i := 22) (oi := { dst := some 27, op := Op.indexAddr 159 (Operand.tmp 12) (Operand.tmp 13), type := 0, pos := "ages.go:35", after := #[{ on := 6, ground := Ground.data }, { on := 7, ground := Ground.data }, { on := 0, ground := Ground.phase }, { on := 1, ground := Ground.phase }, { on := 2, ground := Ground.phase }, { on := 3, ground := Ground.phase }, { on := 4, ground := Ground.phase }, { on := 5, ground := Ground.phase }, { on := 6, ground := Ground.phase }, { on := 7, ground := Ground.phase }, { on := 8, ground := Ground.phase }, { on := 9, ground := Ground.phase }, { on := 10, ground := Ground.phase }, { on := 11, ground := Ground.phase }, { on := 12, ground := Ground.phase }, { on := 13, ground := Ground.phase }, { on := 14, ground := Ground.phase }, { on := 15, ground := Ground.phase }, { on := 16, ground := Ground.phase }, { on := 17, ground := Ground.phase }, { on := 18, ground := Ground.phase }, { on := 19, ground := Ground.phase }, { on := 20, ground := Ground.phase }, { on := 21, ground := Ground.phase }], guard := none }) (v := ?_) rfl (by kernel_rfl) (by kernel_rfl) (by kernel_rfl) (fun _ _ _ h => h) (Or.inl ⟨by rfl, ?_⟩) (by assumption) ?_
    rotate_left
    · intro w hSw
      try dsimp only at hSw
      first | (go_simp; done) | (go_simp; with_reducible rfl)
    try simp only [Act.put, List.setIfInBounds_toArray, List.set_cons_zero, List.set_cons_succ]
    refine wpAnyH_ready (rs := [23]) (by kernel_rfl) (by simp) ?_
    refine AllReadyH.cons rfl (fun K hK => ?_) AllReadyH.nil
    go_simp
    refine hK.out _ _ ?_ (fun hHeld => ?_)
    · exact c1b
    clear hK K
    refine wpAnyH_done (by kernel_rfl) ?_ _
    go_wp2
    go_end0
    exact HR.out
  · go_simp
    refine hK.out _ _ ?_ (fun hHeld => ?_)
    · exact c1
    clear hK K
    refine wpAnyH_ready (rs := [13]) (by kernel_rfl) (by simp) ?_
    refine AllReadyH.cons rfl (fun K hK => ?_) AllReadyH.nil
    go_simp
    refine hK.out _ _ ?_ (fun hHeld => ?_)
    · exact c1
    clear hK K
    refine wpAnyH_take (i := 20) (oi := { dst := some 26, op := Op.indexAddr 159 (Operand.tmp 8) (Operand.tmp 9), type := 0, pos := "ages.go:35", after := #[{ on := 2, ground := Ground.data }, { on := 3, ground := Ground.data }, { on := 0, ground := Ground.phase }, { on := 1, ground := Ground.phase }, { on := 2, ground := Ground.phase }, { on := 3, ground := Ground.phase }, { on := 4, ground := Ground.textOnly Departure.lateStores }, { on := 5, ground := Ground.textOnly Departure.lateStoresUnsure }, { on := 6, ground := Ground.phase }, { on := 7, ground := Ground.textOnly Departure.lateStores }, { on := 8, ground := Ground.phase }, { on := 9, ground := Ground.phase }, { on := 10, ground := Ground.phase }, { on := 11, ground := Ground.phase }, { on := 12, ground := Ground.phase }, { on := 13, ground := Ground.phase }, { on := 14, ground := Ground.textOnly Departure.lateStores }, { on := 15, ground := Ground.textOnly Departure.lateStoresUnsure }, { on := 16, ground := Ground.phase }, { on := 17, ground := Ground.textOnly Departure.lateStores }, { on := 18, ground := Ground.textOnly Departure.lateStoresUnsure }, { on := 19, ground := Ground.phase }], guard := none }) (v := ?_) rfl (by kernel_rfl) (by kernel_rfl) (by kernel_rfl) (fun _ _ _ h => h) (Or.inl ⟨by rfl, ?_⟩) (by assumption) ?_
    rotate_left
    · intro w hSw
      try dsimp only at hSw
      first | (go_simp; done) | (go_simp; with_reducible rfl)
    try simp only [Act.put, List.setIfInBounds_toArray, List.set_cons_zero, List.set_cons_succ]
    refine wpAnyH_ready (rs := [21]) (by kernel_rfl) (by simp) ?_
    refine AllReadyH.cons rfl (fun K hK => ?_) AllReadyH.nil
    go_simp
    refine hK.out _ _ ?_ (fun hHeld => ?_)
    · exact c1a
    clear hK K
    refine wpAnyH_take (i := 22) (oi := { dst := some 27, op := Op.indexAddr 159 (Operand.tmp 12) (Operand.tmp 13), type := 0, pos := "ages.go:35", after := #[{ on := 6, ground := Ground.data }, { on := 7, ground := Ground.data }, { on := 0, ground := Ground.phase }, { on := 1, ground := Ground.phase }, { on := 2, ground := Ground.phase }, { on := 3, ground := Ground.phase }, { on := 4, ground := Ground.phase }, { on := 5, ground := Ground.phase }, { on := 6, ground := Ground.phase }, { on := 7, ground := Ground.phase }, { on := 8, ground := Ground.phase }, { on := 9, ground := Ground.phase }, { on := 10, ground := Ground.phase }, { on := 11, ground := Ground.phase }, { on := 12, ground := Ground.phase }, { on := 13, ground := Ground.phase }, { on := 14, ground := Ground.phase }, { on := 15, ground := Ground.phase }, { on := 16, ground := Ground.phase }, { on := 17, ground := Ground.phase }, { on := 18, ground := Ground.phase }, { on := 19, ground := Ground.phase }, { on := 20, ground := Ground.phase }, { on := 21, ground := Ground.phase }], guard := none }) (v := ?_) rfl (by kernel_rfl) (by kernel_rfl) (by kernel_rfl) (fun _ _ _ h => h) (Or.inl ⟨by rfl, ?_⟩) (by assumption) ?_
    rotate_left
    · intro w hSw
      try dsimp only at hSw
      first | (go_simp; done) | (go_simp; with_reducible rfl)
    try simp only [Act.put, List.setIfInBounds_toArray, List.set_cons_zero, List.set_cons_succ]
    refine wpAnyH_ready (rs := [23]) (by kernel_rfl) (by simp) ?_
    refine AllReadyH.cons rfl (fun K hK => ?_) AllReadyH.nil
    go_simp
    refine hK.out _ _ ?_ (fun hHeld => ?_)
    · exact c1b
    clear hK K
    refine wpAnyH_done (by kernel_rfl) ?_ _
    go_wp2
    go_end0
    exact HR.out
/-- one more -/
theorem AQ.put {w w2 w6 : World} {ab : Nat} {hv v' : Value} {H H' : List Int} (h : AV w ab hv H) (b2 : Below w.heap.size w w2) (hz : RZ kG w6 v' H') (hg : w2.grownBy w6 hv.ownBlock) (ho : v'.ownBlock = hv.ownBlock ∨ v'.ownBlock = some w2.heap.size) (hl : H'.length ≤ 2000) :
    AQ w ab hv H' (.tuple #[]) (.returned (.tuple #[])) (w6.setCell ⟨ab, 0, none⟩ v') ∧ w6.heap[ab]? = some (.cells #[hv] 159) := by
  have hlt := h.lt
  have hs := b2.size
  have e6 : w6.heap[ab]? = some (.cells #[hv] 159) := (hg.block ab (by omega) (fun e => h.ne e.symm)).trans ((b2.block ab hlt).trans h.bl)
  have hne : v'.ownBlock ≠ some ab := by
    rcases ho with r | r
    · rw [r]; exact h.ne
    · rw [r]; intro e; injection e with e; omega
  refine ⟨⟨v', rfl, ⟨heap_setCell_same w6 ab 0 _ 159 _ e6, hz.keep fun g hgg => Below.heap_setCell _ _ _ _ (by show g ≠ ab; intro e; rw [e] at hgg; exact hne hgg), hne, hl⟩, ⟨hg.os.trans b2.os, hg.tape.trans b2.tape, hg.output.trans b2.output, by have := hg.size; simp only [World.setCell, Array.size_modify]; omega, fun k hk hn => ?_⟩, ?_⟩, e6⟩
  · rw [Below.heap_setCell _ _ _ _ (by show k ≠ ab; exact fun e => hn (.inl e))]
    exact (hg.block k (by omega) (fun e => hn (.inr e.symm))).trans (b2.block k hk)
  · rcases ho with r | r
    · exact .inl r
    · exact .inr ⟨_, hs, r⟩
theorem num_rs (w : World) (x : Int) : RS kG (w.alloc (.cells #[.int .i64 x] 3)) (.slice (some ⟨w.heap.size, 0, none⟩) 1 1) [x] :=
  ⟨some ⟨w.heap.size, 0, none⟩, 1, w.heap.size, 0, rfl, Nat.le_refl _, by unfold maxLen; omega, fun _ => rfl, fun i hi j hj => by
    match i, hi with
    | 0, _ =>
      have hj' : j < 1 := hj
      match j, hj' with
      | 0, _ => simp [kG, uno]⟩
set_option maxRecDepth 100000 in
set_option maxHeartbeats 4000000 in
theorem push_any (h : AV w ab hv H) (x : Int) (hl : H.length < 2000) : Calls Try.prog 148 #[.pointer (some ⟨ab, 0, none⟩), .iface 3 (.int .i64 x)] w (AQ w ab hv (H ++ [x]) (.tuple #[])) := by
  have c1 : w.drew.cell? ⟨ab, 0, none⟩ = some hv := h.cell
  obtain ⟨a, c, e⟩ := h.rz.sl
  obtain ⟨n, hn⟩ : ∃ n, H.length = n := ⟨_, rfl⟩
  rw [hn] at e
  have HLN : Hid ((H ++ [x]).length = n + 1) := by show _ = _; rw [List.length_append, hn]; rfl
  have HV : Hid (∀ W, Below w.heap.size w W → AV W ab hv H) := fun W hW => h.below hW
  have HP : Hid (∀ W W' v', Below w.heap.size w W → RZ kG W' v' (H ++ [x]) → W.grownBy W' hv.ownBlock → (v'.ownBlock = hv.ownBlock ∨ v'.ownBlock = some W.heap.size) → AQ w ab hv (H ++ [x]) (.tuple #[]) (.returned (.tuple #[])) (W'.setCell ⟨ab, 0, none⟩ v') ∧ W'.heap[ab]? = some (.cells #[hv] 159)) := fun W W' v' b1 b2 b3 b4 => AQ.put h b1 b2 b3 b4 (by simp; omega)
  have HL : Hid (H.length + [x].length ≤ 100000) := by show H.length + 1 ≤ _; omega
  have HB : Hid (∀ A, Below w.heap.size w (w.drew.alloc A)) := fun A => (Below.refl _ w).drew.alloc (Nat.le_refl _) A
  have HB2 : Hid (∀ A, Below w.heap.size w (w.alloc A).drew) := fun A => (bl1 w A).drew
  have HX : Hid (RS kG (w.alloc (.cells #[.int .i64 x] 3)).drew (.slice (some ⟨w.heap.size, 0, none⟩) 1 1) [x]) := (num_rs w x).below (Below.refl _ _).drew
  clear h hl hn
  have hta : ∀ W, (Instr.typeAssert (.iface 3 (.int .i64 x)) 20 3 false).run Try.prog W = .ok (.int .i64 x) W := fun W => rfl
  generalize AQ w ab hv (H ++ [x]) (.tuple #[]) = P at *
  have c2 : ∀ A, (w.alloc A).drew.cell? ⟨ab, 0, none⟩ = some hv := fun A => (HV.out _ (HB2.out A)).cell
  subst e
  go_enter Try.func148, Try.ntmps148
  go_region_law
    (first
      | (refine step_push_g kG rfl _ _ rfl (.slice a n c) (.slice (some ⟨w.heap.size, 0, none⟩) 1 1) H [x] rfl rfl (HV.out _ (HB2.out _)).rz HX.out HL.out ?_
         intro v6 w6 z6 g6 o6
         obtain ⟨he, e6⟩ := HP.out _ w6 v6 (HB2.out _) z6 g6 o6
         have HE : Hid (P (.returned (.tuple #[])) (w6.setCell ⟨ab, 0, none⟩ v6)) := he
         have f6 := frozen_of_row w6 ab 0 _ _ e6
         have c6 : w6.cell? ⟨ab, 0, none⟩ = some (.slice a n c) := by rw [cell_of_row w6 ab _ _ _ _ e6]; rfl
         obtain ⟨a6, k6, s6⟩ := z6.sl
         rw [HLN.out] at s6
         subst s6
         clear z6 g6 o6 e6 he))
  all_goals
    go_wp2
    go_end0
    exact HE.out
end
end Go.Proofs.Ytongeppdaeekeaa
