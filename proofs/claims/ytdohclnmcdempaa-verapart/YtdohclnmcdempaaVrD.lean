/- The document's store without versions: what its functions answer. -/
import Derived.Test.YtdohclnmcdempaaVrC
namespace Go.Proofs.Ytdohclnmcdempaa
open Go.RowKit Go.Maps
set_option linter.unusedVariables false

theorem size49 : (Try.prog.info? 49).map (·.size) = some 3 := by kernel_rfl
theorem size77 : (Try.prog.info? 77).map (·.size) = some 3 := by kernel_rfl
theorem ret_S2 {fn : Func} {q u : Nat} (h : fn.results = #[.cell q 49, .tmp u]) (tmps : Array Value) (g : Nat) (hb : tmps.getD q undef = .pointer (some ⟨g, 0, none⟩)) (W : World) (a b c : Value) (hg : W.heap[g]? = some (.cells #[a, b, c] 49)) :
    (results fn tmps).run Try.prog W = .ok (.tuple #[.agg #[a, b, c], tmps.getD u undef]) W := by
  rw [results_cell_tmp h, hb]
  simp [asAddr, run_loadVar_row W g 49 49 #[a, b, c] _ _ hg Try.underlying49 rfl size49]
theorem ret_T2 {fn : Func} {q u : Nat} (h : fn.results = #[.cell q 77, .tmp u]) (tmps : Array Value) (g : Nat) (hb : tmps.getD q undef = .pointer (some ⟨g, 0, none⟩)) (W : World) (a b c : Value) (hg : W.heap[g]? = some (.cells #[a, b, c] 77)) :
    (results fn tmps).run Try.prog W = .ok (.tuple #[.agg #[a, b, c], tmps.getD u undef]) W := by
  rw [results_cell_tmp h, hb]
  simp [asAddr, run_loadVar_row W g 77 77 #[a, b, c] _ _ hg Try.underlying77 rfl size77]
theorem put3V {W : World} {g : Nat} {ty : TypeId} {x y z a b c : Value} (h : W.heap[g]? = some (.cells #[x, y, z] ty)) : (((W.setCell ⟨g, 0, none⟩ a).setCell ⟨g, 1, none⟩ b).setCell ⟨g, 2, none⟩ c).heap[g]? = some (.cells #[a, b, c] ty) := by
  have e1 := heap_setCell_same W g 0 _ ty a h
  have e2 := heap_setCell_same _ g 1 _ ty b e1
  rw [heap_setCell_same _ g 2 _ ty c e2]
  rfl
set_option maxRecDepth 100000 in
set_option maxHeartbeats 2000000 in
theorem rfind0 (z a : Int) (w : World) : Calls Try.prog 35 #[.agg #[.int .i64 64, .int .i64 512, .slice none 0 0], .int .i64 z, .int .i64 a] w fun e w' => e = .returned (.int .i64 (-1)) ∧ Below w.heap.size w w' := by
  go_enter Try.func35, Try.ntmps35
  go_wp2_with fail
  go_loopw [7] (fun i wr => i = .int .i64 0 ∧ wr = w.alloc (.cells #[.int .i64 64, .int .i64 512, .slice none 0 0] 49)) (fun _ _ => 0)
  case atStart => exact ⟨rfl, rfl⟩
  case round =>
    obtain ⟨rfl, rfl⟩ := hrel
    go_wp2
    first | exact ⟨rfl, bl1 _ _⟩ | (go_ret; exact ⟨rfl, bl1 _ _⟩)
set_option maxRecDepth 100000 in
set_option maxHeartbeats 2000000 in
theorem rdrop0 (z a : Int) (w : World) : Calls Try.prog 36 #[.agg #[.int .i64 64, .int .i64 512, .slice none 0 0], .int .i64 z, .int .i64 a] w fun e w' => e = .returned (.tuple #[.agg #[.int .i64 64, .int .i64 512, .slice none 0 0], .int .i64 0]) ∧ Below w.heap.size w w' := by
  have HB2 : Hid (∀ A B, Below w.heap.size w ((w.alloc A).alloc B)) := fun A B => (bl1 w _).trans ((bl1 _ _).mono (bl1 w _).size)
  have HX : Hid (∀ A B, ((w.alloc A).alloc B).heap[w.heap.size]? = some A ∧ ((w.alloc A).alloc B).heap[w.heap.size + 1]? = some B) := fun A B => ⟨by rw [heap_alloc_old _ _ (by simp), heap_alloc_new], heap_alloc2_new _ _ _⟩
  go_enter Try.func36, Try.ntmps36
  go_wp2_with fail
  go_loopw [8, 9] (fun l i wr => l = .slice none 0 0 ∧ i = .int .i64 0 ∧ wr = (w.alloc (.cells #[.int .i64 64, .int .i64 512, .slice none 0 0] 49)).alloc (.cells #[.int .i64 0, .int .i64 0, .slice none 0 0] 49)) (fun _ _ _ => 0)
  case atStart => exact ⟨rfl, rfl, rfl⟩
  case round =>
    obtain ⟨rfl, rfl, rfl⟩ := hrel
    have h := HX.out (.cells #[.int .i64 64, .int .i64 512, .slice none 0 0] 49) (.cells #[.int .i64 0, .int .i64 0, .slice none 0 0] 49)
    have b := HB2.out (.cells #[.int .i64 64, .int .i64 512, .slice none 0 0] 49) (.cells #[.int .i64 0, .int .i64 0, .slice none 0 0] 49)
    go_wp2_with fail
    refine bodyPost_ret (ret_S2 Try.results36 _ (w.heap.size + 1) rfl _ _ _ _ (HX.out _ _).2) rfl ?_
    exact ⟨rfl, HB2.out _ _⟩
set_option maxRecDepth 100000 in
set_option maxHeartbeats 2000000 in
theorem rolder0 (z a : Int) (w : World) : Calls Try.prog 33 #[.agg #[.int .i64 64, .int .i64 512, .slice none 0 0], .int .i64 z, .int .i64 a] w fun e w' => e = .returned (.tuple #[.agg #[.int .i64 0, .int .i64 0, .int .i64 0], .bool false]) ∧ Below w.heap.size w w' := by
  have HB2 : Hid (∀ A B C, Below w.heap.size w (((w.alloc A).alloc B).alloc C)) := fun A B C => ((bl1 w A).alloc (bl1 w A).size B).alloc ((bl1 w A).alloc (bl1 w A).size B).size C
  have HX : Hid (∀ A B C, (((w.alloc A).alloc B).alloc C).heap[w.heap.size + 1]? = some B) := fun A B C => by rw [heap_alloc_old _ _ (by simp)]; exact heap_alloc2_new _ _ _
  go_enter Try.func33, Try.ntmps33
  go_wp2_with fail
  go_loopw [9, 10] (fun b i wr => b = .bool false ∧ i = .int .i64 0 ∧ wr = ((w.alloc (.cells #[.int .i64 64, .int .i64 512, .slice none 0 0] 49)).alloc (.cells #[.int .i64 0, .int .i64 0, .int .i64 0] 77)).alloc (.cells #[.int .i64 0, .int .i64 0, .int .i64 0] 77)) (fun _ _ _ => 0)
  case atStart => exact ⟨rfl, rfl, rfl⟩
  case round =>
    obtain ⟨rfl, rfl, rfl⟩ := hrel
    go_wp2_with fail
    refine bodyPost_ret (ret_T2 Try.results33 _ (w.heap.size + 1) rfl _ _ _ _ (HX.out _ _ _)) rfl ?_
    exact ⟨rfl, HB2.out _ _ _⟩
def tcs (l : List (Int × Int × Int)) : List Value := l.flatMap fun z => [.int .i64 z.1, .int .i64 z.2.1, .int .i64 z.2.2]
theorem tcs_app (l m : List (Int × Int × Int)) : tcs (l ++ m) = tcs l ++ tcs m := by simp [tcs]
theorem info77 : (Try.prog.info? 77).map (fun i => (i.zero, i.size, i.bytes)) = some (some (.agg #[.int .i64 0, .int .i64 0, .int .i64 0]), 3, 24) := by kernel_rfl
def TZ (w : World) (base : Nat) (v : Value) (l : List (Int × Int × Int)) : Prop := w.ownsRow base 77 3 v l.length (tcs l)
theorem TZ.nil (w : World) (base : Nat) : TZ w base (.slice none 0 0) [] := ⟨rfl, .inl ⟨rfl, rfl⟩⟩
theorem TZ.empty (w : World) (base : Nat) (h : base ≤ w.heap.size) : TZ (w.alloc (.cells #[] 77)) base (.slice (some ⟨w.heap.size, 0, none⟩) 0 0) [] := ⟨rfl, .inr ⟨w.heap.size, 0, #[], rfl, h, heap_alloc_new _ _, Nat.le_refl _, Nat.zero_le _, rfl, rfl⟩⟩
theorem TZ.sl {w : World} {base : Nat} {v : Value} {l : List (Int × Int × Int)} (h : TZ w base v l) : ∃ a c, v = .slice a l.length c := by
  rcases h.2 with ⟨rfl, h0⟩ | ⟨g, cap, cur, rfl, _⟩
  · exact ⟨none, 0, by rw [h0]⟩
  · exact ⟨_, _, rfl⟩
theorem TZ.keep {w w' : World} {base : Nat} {v : Value} {l : List (Int × Int × Int)} (h : TZ w base v l) (hk : ∀ k, base ≤ k → k < w.heap.size → w'.heap[k]? = w.heap[k]?) : TZ w' base v l := by
  refine ⟨h.1, ?_⟩
  rcases h.2 with h0 | ⟨g, cap, cur, h1, h2, h3, h4⟩
  · exact .inl h0
  · exact .inr ⟨g, cap, cur, h1, h2, (hk g h2 (Array.getElem?_eq_some_iff.1 h3).1).trans h3, h4⟩
theorem TZ.below {w w' : World} {base : Nat} {v : Value} {l : List (Int × Int × Int)} (h : TZ w base v l) (hb : Below w.heap.size w w') : TZ w' base v l := h.keep fun k _ hk => hb.block k hk
/-- one of three more -/
theorem push_tri {ops : Array Oper} {rest : List Oper} {o : Oper} {a : Act} {Q : Exit → Act → World → Prop} (w : World) (hgd : o.guard = none) (s x : Operand)
    (ho : o.op = .call { callee := .builtin .append, args := #[s, x], argTypes := #[47, 47] }) (base : Nat) (v : Value) (l : List (Int × Int × Int)) (z y u : Int) (hs : a.eval s = v) (hown : TZ w base v l)
    (g : Nat) (hx : a.eval x = .slice (some ⟨g, 0, none⟩) 1 1) (hc : w.cell? ⟨g, 0, none⟩ = some (.int .i64 z) ∧ w.cell? ⟨g, 1, none⟩ = some (.int .i64 y) ∧ w.cell? ⟨g, 2, none⟩ = some (.int .i64 u)) (hlen : l.length ≤ 100000) (hb : base ≤ w.heap.size)
    (h : ∀ v' w', TZ w' base v' (l ++ [(z, y, u)]) → Below base w w' → wpList Try.prog ops Q rest (a.put o.dst v') w') : wpList Try.prog ops Q (o :: rest) a w := by
  obtain ⟨i0, hi, hz0, hz1, hz2⟩ := info_parts info77
  refine wpList_append_own w hgd s x 47 ho base 77 i0 (.agg #[.int .i64 0, .int .i64 0, .int .i64 0]) 3 24 Try.underlying47 hi hz0 hz1 hz2 rfl (by decide) v l.length (tcs l) hs hown ⟨g, 0, none⟩ 1 1 [.int .i64 z, .int .i64 y, .int .i64 u] hx rfl ?_ ?_ ?_ ?_ hb ?_
  · intro j u' hj
    match j, hj with
    | 0, hj => simp at hj; subst hj; simpa [Addr.add] using hc.1
    | 1, hj => simp at hj; subst hj; rw [addn]; exact hc.2.1
    | 2, hj => simp at hj; subst hj; rw [addn]; exact hc.2.2
  · intro u' hu; simp at hu; rcases hu with rfl | rfl | rfl <;> rfl
  · unfold maxLen; omega
  · omega
  · intro v' w' h1 h2 _
    refine h v' w' ?_ ((Below.refl base w).grown h2 hb (fun k hk => (World.ownsRow.lt hown k hk).1))
    unfold TZ
    rw [List.length_append, tcs_app]
    exact h1
/-- nothing more -/
theorem push_none {ops : Array Oper} {rest : List Oper} {o : Oper} {a : Act} {Q : Exit → Act → World → Prop} (w : World) (hgd : o.guard = none) (s x : Operand)
    (ho : o.op = .call { callee := .builtin .append, args := #[s, x], argTypes := #[47, 47] }) (g : Nat) (hs : a.eval s = .slice (some ⟨g, 0, none⟩) 0 0) (hx : a.eval x = .slice none 0 0)
    (h : wpList Try.prog ops Q rest (a.put o.dst (.slice (some ⟨g, 0, none⟩) 0 0)) w) : wpList Try.prog ops Q (o :: rest) a w := by
  refine wpList_plain hgd fun K hK => ?_
  obtain ⟨i0, hi, hz0, hz1, hz2⟩ := info_parts info77
  have hsr : Src Try.prog i0.size 47 (.slice none 0 0) 0 [] w := Src.ofNil w Try.underlying47 0
  have hr := run_append_room_src (P := Try.prog) w 47 47 o.type 77 i0 Try.underlying47 hi g 0 0 0 (.slice none 0 0) 0 [] hsr (by omega) (fun j hj => absurd hj (by simp)) (fun j hj => absurd hj (by simp))
  unfold Oper.wp execOp
  simp only [ho, resolve, invoke, builtin, Sem.run_bind, Sem.run_pure, Result.andThen_ok, List.map_toArray, List.map_cons, List.map_nil, hs, hx, hr]
  exact hK _ _ h
def RPutQ (w : World) (e : Ending) (w' : World) : Prop := (∃ a m k c, e = .returned (.tuple #[.agg #[.int .i64 64, .int .i64 512, .slice a m k], .int .i64 c])) ∧ Below w.heap.size w w'
set_option maxRecDepth 100000 in
set_option maxHeartbeats 4000000 in
theorem rput0 (z a u : Int) (w : World) : Calls Try.prog 37 #[.agg #[.int .i64 64, .int .i64 512, .slice none 0 0], .int .i64 z, .int .i64 a, .int .i64 u] w (RPutQ w) := by
  have HB2 : Hid (∀ A B, Below w.heap.size w ((w.alloc A).alloc B)) := fun A B => (bl1 w _).trans ((bl1 _ _).mono (bl1 w _).size)
  have HX : Hid (∀ A B, ((w.alloc A).alloc B).heap[w.heap.size]? = some A ∧ ((w.alloc A).alloc B).heap[w.heap.size + 1]? = some B) := fun A B => ⟨by rw [heap_alloc_old _ _ (by simp), heap_alloc_new], heap_alloc2_new _ _ _⟩
  have HQ : Hid (∀ a m k c W, Below w.heap.size w W → RPutQ w (.returned (.tuple #[.agg #[.int .i64 64, .int .i64 512, .slice a m k], .int .i64 c])) W) := fun a m k c W h => ⟨⟨a, m, k, c, rfl⟩, h⟩
  have HF : Hid (∀ W, Calls Try.prog 35 #[.agg #[.int .i64 64, .int .i64 512, .slice none 0 0], .int .i64 z, .int .i64 a] W fun e w' => e = .returned (.int .i64 (-1)) ∧ Below W.heap.size W w') := fun W => rfind0 z a W
  generalize RPutQ w = P at *
  by_cases h0 : z < 0
  · have e1 : decide (z < 0) = true := by simp; omega
    go_enter Try.func37, Try.ntmps37
    go_wp2_with fail
    refine bodyPost_ret (ret_S2 Try.results37 _ (w.heap.size + 1) rfl _ _ _ _ (HX.out _ _).2) rfl ?_
    exact HQ.out _ _ _ _ _ (HB2.out _ _)
  have e1 : decide (z < 0) = false := by simp; omega
  by_cases h1 : 64 ≤ z
  · have e2 : decide (64 ≤ z) = true := by simp; omega
    go_enter Try.func37, Try.ntmps37
    go_wp2_with fail
    refine bodyPost_ret (ret_S2 Try.results37 _ (w.heap.size + 1) rfl _ _ _ _ (HX.out _ _).2) rfl ?_
    exact HQ.out _ _ _ _ _ (HB2.out _ _)
  have e2 : decide (64 ≤ z) = false := by simp; omega
  by_cases h2 : a < 0
  · have e3 : decide (a < 0) = true := by simp; omega
    go_enter Try.func37, Try.ntmps37
    go_wp2_with fail
    refine bodyPost_ret (ret_S2 Try.results37 _ (w.heap.size + 1) rfl _ _ _ _ (HX.out _ _).2) rfl ?_
    exact HQ.out _ _ _ _ _ (HB2.out _ _)
  have e3 : decide (a < 0) = false := by simp; omega
  go_enter Try.func37, Try.ntmps37
  go_wp2_with fail
  refine (HF.out _).mono ?_
  rintro e w4 ⟨rfl, b4⟩
  have B4 : Hid (Below w.heap.size w w4) := (HB2.out _ _).trans (b4.mono (HB2.out _ _).size)
  have hs4 : w.heap.size + 2 ≤ w4.heap.size := by have := b4.size; simpa using this
  have X0 : Hid (w4.heap[w.heap.size]? = some (.cells #[.int .i64 64, .int .i64 512, .slice none 0 0] 49)) := (b4.block _ (by simp; omega)).trans (HX.out _ _).1
  have X1 : Hid (w4.heap[w.heap.size + 1]? = some (.cells #[.int .i64 0, .int .i64 0, .slice none 0 0] 49)) := (b4.block _ (by simp)).trans (HX.out _ _).2
  clear b4 HF h0 h1 h2 HB2 HX
  obtain ⟨g0, hg0⟩ : ∃ g, w.heap.size = g := ⟨_, rfl⟩
  obtain ⟨g1, hg1⟩ : ∃ g, g0 + 1 = g := ⟨_, rfl⟩
  have HG : Hid (w.heap.size = g0 ∧ g0 + 1 = g1) := ⟨hg0, hg1⟩
  rw [hg0] at X0 X1 hs4
  rw [hg1] at X1
  rw [hg0, hg1]
  clear hg0 hg1
  have p1 : w4.cell? ⟨g0, 1, none⟩ = some (.int .i64 512) := by rw [cell_of_row w4 g0 1 _ _ _ X0.out]; rfl
  have p2 : w4.cell? ⟨g0, 2, none⟩ = some (.slice none 0 0) := by rw [cell_of_row w4 g0 2 _ _ _ X0.out]; rfl
  have q2 : ∀ A, (w4.alloc A).cell? ⟨g0, 2, none⟩ = some (.slice none 0 0) := fun A => by rw [cell_of_row (w4.alloc A) g0 2 _ _ _ ((heap_alloc_old _ _ (Array.getElem?_eq_some_iff.1 X0.out).1).trans X0.out)]; rfl
  go_upto_region 10 with (at_builtin; refine push_none _ rfl _ _ rfl w4.heap.size rfl rfl ?_)
  clear p1 p2 q2
  have HT : Hid (TZ (w4.alloc (.cells #[] 77)) (g0 + 2) (.slice (some ⟨w4.heap.size, 0, none⟩) 0 0) []) := TZ.empty w4 _ hs4
  have Y0 : Hid ((w4.alloc (.cells #[] 77)).heap[g0]? = some (.cells #[.int .i64 64, .int .i64 512, .slice none 0 0] 49)) := (heap_alloc_old _ _ (Array.getElem?_eq_some_iff.1 X0.out).1).trans X0.out
  have Y1 : Hid ((w4.alloc (.cells #[] 77)).heap[g1]? = some (.cells #[.int .i64 0, .int .i64 0, .slice none 0 0] 49)) := (heap_alloc_old _ _ (Array.getElem?_eq_some_iff.1 X1.out).1).trans X1.out
  have HSZ : Hid (g0 + 2 ≤ (w4.alloc (.cells #[] 77)).heap.size) := by show _ ≤ _; simp only [World.alloc, Array.size_push]; omega
  have BV : Hid (Below w.heap.size w (w4.alloc (.cells #[] 77))) := B4.out.alloc B4.out.size _
  generalize Value.slice (some ⟨w4.heap.size, 0, none⟩) 0 0 = sv at *
  generalize w4.alloc (.cells #[] 77) = V at *
  clear X0 X1 B4 hs4
  have HT2 : Hid (∀ A, TZ (V.alloc A) (g0 + 2) sv []) := fun A => HT.out.below (bl1 _ _)
  have HS2 : Hid (∀ A, g0 + 2 ≤ (V.alloc A).heap.size) := fun A => Nat.le_trans HSZ.out (bl1 V A).size
  go_wp2_with (at_builtin; refine push_tri _ rfl _ _ rfl (g0 + 2) sv [] z a u rfl (HT2.out _) _ rfl ?p2 ?p3 (HS2.out _) ?_)
  case p2 => exact ⟨by simp, by simp, by simp⟩
  case p3 => simp
  intro v6 w6 ht hb
  obtain ⟨a6, c6, rfl⟩ := ht.sl
  simp only [List.length_singleton] at ht ⊢
  have hgg := HG.out
  have hb6 : Below (g0 + 2) V w6 := ((Below.refl _ V).alloc HSZ.out _).trans hb
  have Z0 := (hb6.block g0 (by omega)).trans Y0.out
  have Z1 := (hb6.block g1 (by omega)).trans Y1.out
  have hbw : Below w.heap.size w w6 := BV.out.trans (hb6.mono (by omega))
  have A0 := heap_setCell_same w6 g0 2 _ 49 (.slice a6 1 c6) Z0
  have A1 : Hid ((w6.setCell ⟨g0, 2, none⟩ (.slice a6 1 c6)).heap[g1]? = some (.cells #[.int .i64 0, .int .i64 0, .slice none 0 0] 49)) := (Below.heap_setCell _ _ _ _ (by show g1 ≠ g0; omega)).trans Z1
  have HBX : Hid (Below w.heap.size w ((((w6.setCell ⟨g0, 2, none⟩ (.slice a6 1 c6)).setCell ⟨g1, 0, none⟩ (.int .i64 64)).setCell ⟨g1, 1, none⟩ (.int .i64 512)).setCell ⟨g1, 2, none⟩ (.slice a6 1 c6))) := (((hbw.setCell (p := ⟨g0, 2, none⟩) (by show w.heap.size ≤ g0; omega) _).setCell (p := ⟨g1, 0, none⟩) (by show w.heap.size ≤ g1; omega) _).setCell (p := ⟨g1, 1, none⟩) (by show w.heap.size ≤ g1; omega) _).setCell (p := ⟨g1, 2, none⟩) (by show w.heap.size ≤ g1; omega) _
  have p0 : w6.cell? ⟨g0, 0, none⟩ = some (.int .i64 64) := by rw [cell_of_row w6 g0 0 _ _ _ Z0]; rfl
  have p1 : w6.cell? ⟨g0, 1, none⟩ = some (.int .i64 512) := by rw [cell_of_row w6 g0 1 _ _ _ Z0]; rfl
  have p2 : w6.cell? ⟨g0, 2, none⟩ = some (.slice none 0 0) := by rw [cell_of_row w6 g0 2 _ _ _ Z0]; rfl
  have q0 : w6.cell? ⟨g1, 0, none⟩ = some (.int .i64 0) := by rw [cell_of_row w6 g1 0 _ _ _ Z1]; rfl
  have q1 : w6.cell? ⟨g1, 1, none⟩ = some (.int .i64 0) := by rw [cell_of_row w6 g1 1 _ _ _ Z1]; rfl
  have q2 : w6.cell? ⟨g1, 2, none⟩ = some (.slice none 0 0) := by rw [cell_of_row w6 g1 2 _ _ _ Z1]; rfl
  have f2 : w6.frozen? ⟨g0, 2, none⟩ = false := frozen_of_row w6 _ 2 _ _ Z0
  have k0 : w6.frozen? ⟨g1, 0, none⟩ = false := frozen_of_row w6 _ 0 _ _ Z1
  have k1 : w6.frozen? ⟨g1, 1, none⟩ = false := frozen_of_row w6 _ 1 _ _ Z1
  have k2 : w6.frozen? ⟨g1, 2, none⟩ = false := frozen_of_row w6 _ 2 _ _ Z1
  have hne : g0 ≠ g1 := by omega
  have hne' : g1 ≠ g0 := by omega
  clear ht hb hb6 hbw Z0 Z1 A0 hgg HT HT2 HS2 Y0 Y1 HSZ BV
  go_wp2_with fail
  refine bodyPost_ret (ret_S2 Try.results37 _ g1 rfl _ _ _ _ (put3V A1.out)) rfl ?_
  exact HQ.out _ _ _ _ _ HBX.out
set_option maxRecDepth 100000 in
set_option maxHeartbeats 2000000 in
theorem rnew0 (w : World) : Calls Try.prog 21 #[.int .i64 64, .int .i64 512] w fun e w' => e = .returned (.tuple #[.agg #[.int .i64 64, .int .i64 512, .slice none 0 0], .int .i64 0]) ∧ Below w.heap.size w w' := by
  go_enter Try.func21, Try.ntmps21
  go_wp2_with fail
  refine bodyPost_ret (ret_S2 Try.results21 _ w.heap.size rfl _ _ _ _ (heap_alloc_new _ _)) rfl ?_
  exact ⟨rfl, bl1 _ _⟩
end Go.Proofs.Ytdohclnmcdempaa
