/- What lex.Cut answers of any text, in whatever world. -/
import Derived.Test.YtnofibjchhcmeabDoorLAll
namespace Go.Proofs.YtnofibjchhcmeabDoor
open Go.RowKit
set_option linter.unusedVariables false

set_option maxRecDepth 100000 in
theorem info40 : (Tryd.prog.info? 76).map (fun i => i.zero) = some (some (.agg #[.int .i64 0, .int .i64 0])) := by kernel_rfl
set_option maxRecDepth 100000 in
theorem assert_is (k er : Int) (w : World) : (Instr.typeAssert (.iface 76 (.agg #[.int .i64 k, .int .i64 er])) 20 76 true).run Tryd.prog w = .ok (.tuple #[.agg #[.int .i64 k, .int .i64 er], .bool true]) w := by
  simp [Instr.typeAssert, run_underlying Tryd.underlying76]
set_option maxRecDepth 100000 in
theorem assert_nil (w : World) : (Instr.typeAssert .nilIface 20 76 true).run Tryd.prog w = .ok (.tuple #[.agg #[.int .i64 0, .int .i64 0], .bool false]) w := by
  have h := info40
  rcases e : Tryd.prog.info? 76 with _ | i
  · rw [e] at h; simp at h
  · rw [e] at h
    have hz : i.zero = some (.agg #[.int .i64 0, .int .i64 0]) := by simpa using h
    simp [Instr.typeAssert, run_underlying Tryd.underlying76, zeroValue, typeInfo, e, hz]

set_option maxRecDepth 100000 in
set_option maxHeartbeats 1000000 in
theorem catch_idle (p1 p2 p3 : Addr) (w : World) :
    CallsD Tryd.prog 43 #[.pointer (some p1), .pointer (some p2), .pointer (some p3)] .returning w fun e u' w' => e = .returned (.tuple #[]) ∧ u' = .returning ∧ w' = w.alloc (.cells #[.int .i64 0, .int .i64 0] 76) := by
  refine callsD_of_wpS Tryd.func43 rfl fun c₀ cs hu => ?_
  apply wpS_seq
  apply wpS_region
  simp [wpOpsS, go_sem, recoverD, hu, Tryd.ntmps43, Exit.thenS, assert_nil]
  apply wpS_seq
  apply wpS_region
  simp [wpOpsS, go_sem, Exit.thenS]
  refine wpS_cond (t := false) (by simp [Act.eval, Array.replicate]) ?_
  simp only [Bool.false_eq_true, if_false]
  refine wpS_of_wp (wp_skip ?_)
  cases c₀
  simp_all [bodyPostS, results, Tryd.results43]

set_option maxRecDepth 100000 in
set_option maxHeartbeats 2000000 in
theorem catch_panicking (b : Nat) (v0 v1 v2 : Value) (k er : Int) (older : List PanicEntry) (w : World) (h0 : w.cell? ⟨b, 0, none⟩ = some v0) (h1 : w.cell? ⟨b + 1, 0, none⟩ = some v1) (h2 : w.cell? ⟨b + 2, 0, none⟩ = some v2) (f0 : w.frozen? ⟨b, 0, none⟩ = false) (f1 : w.frozen? ⟨b + 1, 0, none⟩ = false) (f2 : w.frozen? ⟨b + 2, 0, none⟩ = false) (hb : b + 2 < w.heap.size) :
    CallsD Tryd.prog 43 #[.pointer (some ⟨b, 0, none⟩), .pointer (some ⟨b + 1, 0, none⟩), .pointer (some ⟨b + 2, 0, none⟩)] (.panicking ({ v := .iface 76 (.agg #[.int .i64 k, .int .i64 er]), recovered := false } :: older)) w fun e u' w' =>
      e = .returned (.tuple #[]) ∧ u' = .panicking ({ v := .iface 76 (.agg #[.int .i64 k, .int .i64 er]), recovered := true } :: older) ∧ w'.cell? ⟨b, 0, none⟩ = some (.slice none 0 0) ∧ w'.cell? ⟨b + 1, 0, none⟩ = some (.int .i64 k) ∧ w'.cell? ⟨b + 2, 0, none⟩ = some (.int .i64 er) ∧ Below b w w' := by
  refine callsD_of_wpS Tryd.func43 rfl fun c₀ cs hu => ?_
  apply wpS_seq
  apply wpS_region
  simp [wpOpsS, go_sem, recoverD, hu, Tryd.ntmps43, Exit.thenS, assert_is]
  apply wpS_seq
  apply wpS_region
  simp [wpOpsS, go_sem, Exit.thenS]
  refine wpS_cond (t := true) (by simp [Act.eval, Array.replicate]) ?_
  simp only [if_true]
  refine wpS_of_wp ?_
  have l0 : ∀ o : Obj, (w.alloc o).cell? ⟨b, 0, none⟩ = some v0 := by
    intro o
    rw [World.cell?_alloc_lt]
    · exact h0
    · show b < w.heap.size; omega
  have l1 : ∀ o : Obj, (w.alloc o).cell? ⟨b + 1, 0, none⟩ = some v1 := by
    intro o
    rw [World.cell?_alloc_lt]
    · exact h1
    · show b + 1 < w.heap.size; omega
  have l2 : ∀ o : Obj, (w.alloc o).cell? ⟨b + 2, 0, none⟩ = some v2 := by
    intro o
    rw [World.cell?_alloc_lt]
    · exact h2
    · show b + 2 < w.heap.size; omega
  generalize hact : Act.mk _ _ = act
  have ha : act = { tmps := #[.pointer (some ⟨b, 0, none⟩), .pointer (some ⟨b + 1, 0, none⟩), .pointer (some ⟨b + 2, 0, none⟩), .pointer (some ⟨w.heap.size, 0, none⟩), .bool true, .tuple #[.agg #[.int .i64 k, .int .i64 er], .bool true], .iface 76 (.agg #[.int .i64 k, .int .i64 er]), .tuple #[.agg #[.int .i64 k, .int .i64 er], .bool true], .agg #[.int .i64 k, .int .i64 er], .bool true, .bool true, undef, undef, undef, undef], defers := [] } := by
    rw [← hact]
    simp [Array.replicate, List.replicate]
  clear hact
  subst ha
  obtain ⟨W, hW⟩ : ∃ W, w.alloc (.cells #[.int .i64 k, .int .i64 er] 76) = W := ⟨_, rfl⟩
  have m0 := l0 (.cells #[.int .i64 k, .int .i64 er] 76)
  have m1 := l1 (.cells #[.int .i64 k, .int .i64 er] 76)
  have m2 := l2 (.cells #[.int .i64 k, .int .i64 er] 76)
  have m3 : (w.alloc (.cells #[.int .i64 k, .int .i64 er] 76)).cell? ⟨w.heap.size, 0, none⟩ = some (.int .i64 k) := by simp
  have m4 : (w.alloc (.cells #[.int .i64 k, .int .i64 er] 76)).cell? ⟨w.heap.size, 1, none⟩ = some (.int .i64 er) := by simp
  have g0 : (w.alloc (.cells #[.int .i64 k, .int .i64 er] 76)).frozen? ⟨b, 0, none⟩ = false := (World.frozen?_of_block (w := w) (a := ⟨b, 0, none⟩) (Below.heap_alloc _ _ _ (by show b < w.heap.size; omega))).trans f0
  have g1 : (w.alloc (.cells #[.int .i64 k, .int .i64 er] 76)).frozen? ⟨b + 1, 0, none⟩ = false := (World.frozen?_of_block (w := w) (a := ⟨b + 1, 0, none⟩) (Below.heap_alloc _ _ _ (by show b + 1 < w.heap.size; omega))).trans f1
  have g2 : (w.alloc (.cells #[.int .i64 k, .int .i64 er] 76)).frozen? ⟨b + 2, 0, none⟩ = false := (World.frozen?_of_block (w := w) (a := ⟨b + 2, 0, none⟩) (Below.heap_alloc _ _ _ (by show b + 2 < w.heap.size; omega))).trans f2
  have HBW : Hid (Below b w (w.alloc (.cells #[.int .i64 k, .int .i64 er] 76))) := ((Below.refl _ _).alloc (Nat.le_refl _) _).mono (by omega)
  rw [hW] at m0 m1 m2 m3 m4 g0 g1 g2 HBW
  rw [hW]
  clear l0 l1 l2 hW f0 f1 f2 h0 h1 h2
  obtain ⟨M, hM⟩ : ∃ M, w.heap.size = M := ⟨_, rfl⟩
  rw [hM] at m3 m4 hb
  rw [hM]
  have nb0 : ¬ M = b := by omega
  have nb1 : ¬ M = b + 1 := by omega
  have nb2 : ¬ M = b + 2 := by omega
  have nb0' : ¬ b = M := by omega
  have nb1' : ¬ b + 1 = M := by omega
  have nb2' : ¬ b + 2 = M := by omega
  clear hM
  have q1 : ∀ (u : World) (x y : Nat) (v : Value), x ≠ y → (u.setCell ⟨x, 0, none⟩ v).cell? ⟨y, 0, none⟩ = u.cell? ⟨y, 0, none⟩ := fun u x y v hne => World.cell?_setCell_other u _ _ _ (by intro e; cases e; exact hne rfl)
  have HF : Hid (((((W.setCell ⟨b, 0, none⟩ (.slice none 0 0)).setCell ⟨b + 1, 0, none⟩ (.int .i64 k)).setCell ⟨b + 2, 0, none⟩ (.int .i64 er)).drew).cell? ⟨b, 0, none⟩ = some (.slice none 0 0) ∧ ((((W.setCell ⟨b, 0, none⟩ (.slice none 0 0)).setCell ⟨b + 1, 0, none⟩ (.int .i64 k)).setCell ⟨b + 2, 0, none⟩ (.int .i64 er)).drew).cell? ⟨b + 1, 0, none⟩ = some (.int .i64 k) ∧ ((((W.setCell ⟨b, 0, none⟩ (.slice none 0 0)).setCell ⟨b + 1, 0, none⟩ (.int .i64 k)).setCell ⟨b + 2, 0, none⟩ (.int .i64 er)).drew).cell? ⟨b + 2, 0, none⟩ = some (.int .i64 er) ∧ Below b w ((((W.setCell ⟨b, 0, none⟩ (.slice none 0 0)).setCell ⟨b + 1, 0, none⟩ (.int .i64 k)).setCell ⟨b + 2, 0, none⟩ (.int .i64 er)).drew)) := by
    refine ⟨?_, ?_, ?_, ?_⟩
    · show (((W.setCell _ _).setCell _ _).setCell _ _).cell? _ = _
      rw [q1 _ (b + 2) b _ (by omega), q1 _ (b + 1) b _ (by omega)]
      exact World.cell?_setCell_same _ _ _ m0
    · show (((W.setCell _ _).setCell _ _).setCell _ _).cell? _ = _
      rw [q1 _ (b + 2) (b + 1) _ (by omega)]
      exact World.cell?_setCell_same _ _ _ ((q1 _ b (b + 1) _ (by omega)).trans m1)
    · show (((W.setCell _ _).setCell _ _).setCell _ _).cell? _ = _
      exact World.cell?_setCell_same _ _ _ ((q1 _ (b + 1) (b + 2) _ (by omega)).trans ((q1 _ b (b + 2) _ (by omega)).trans m2))
    · exact ((((HBW.out.setCell (p := ⟨b, 0, none⟩) (Nat.le_refl _) _).setCell (p := ⟨b + 1, 0, none⟩) (by show b ≤ b + 1; omega) _).setCell (p := ⟨b + 2, 0, none⟩) (by show b ≤ b + 2; omega) _)).drew
  clear q1
  go_region
  simp only [bodyPostS, results, Tryd.results43]
  have := HF.out
  simp
  exact this

/-- what comes of a text -/
def CutPost (w : World) : CutR → Ending → World → Prop
  | .inl l, e, w' => ∃ v, e = .returned (.tuple #[v, .int .i64 0, .int .i64 0]) ∧ TOwn w' w.heap.size v l ∧ Below w.heap.size w w'
  | .inr (k, er), e, w' => e = .returned (.tuple #[.slice none 0 0, .int .i64 (k : Int), .int .i64 er]) ∧ Below w.heap.size w w'

/-- the cells of the three results -/
structure Res3 (w : World) (b : Nat) (v0 v1 v2 : Value) : Prop where
  c0 : w.cell? ⟨b, 0, none⟩ = some v0
  c1 : w.cell? ⟨b + 1, 0, none⟩ = some v1
  c2 : w.cell? ⟨b + 2, 0, none⟩ = some v2
  f0 : w.frozen? ⟨b, 0, none⟩ = false
  f1 : w.frozen? ⟨b + 1, 0, none⟩ = false
  f2 : w.frozen? ⟨b + 2, 0, none⟩ = false
  lt : b + 2 < w.heap.size
set_option maxRecDepth 100000 in
theorem Res3.keep {w w' : World} {b : Nat} {v0 v1 v2 : Value} (h : Res3 w b v0 v1 v2) (hb : ∀ k, b ≤ k → k ≤ b + 2 → w'.heap[k]? = w.heap[k]?) (hs : w.heap.size ≤ w'.heap.size) : Res3 w' b v0 v1 v2 :=
  ⟨(World.cell?_of_block (w := w) (a := ⟨b, 0, none⟩) (hb b (by omega) (by omega))).trans h.c0, (World.cell?_of_block (w := w) (a := ⟨b + 1, 0, none⟩) (hb (b + 1) (by omega) (by omega))).trans h.c1, (World.cell?_of_block (w := w) (a := ⟨b + 2, 0, none⟩) (hb (b + 2) (by omega) (by omega))).trans h.c2,
   (World.frozen?_of_block (w := w) (a := ⟨b, 0, none⟩) (hb b (by omega) (by omega))).trans h.f0, (World.frozen?_of_block (w := w) (a := ⟨b + 1, 0, none⟩) (hb (b + 1) (by omega) (by omega))).trans h.f1, (World.frozen?_of_block (w := w) (a := ⟨b + 2, 0, none⟩) (hb (b + 2) (by omega) (by omega))).trans h.f2, Nat.lt_of_lt_of_le h.lt hs⟩
set_option maxRecDepth 100000 in
theorem new_cell (w : World) (v : Value) (t : TypeId) : (w.alloc (.cells #[v] t)).cell? ⟨w.heap.size, 0, none⟩ = some v ∧ (w.alloc (.cells #[v] t)).frozen? ⟨w.heap.size, 0, none⟩ = false := ⟨by simp, by simp⟩
set_option maxRecDepth 100000 in
theorem Res3.new (w : World) (v0 v1 v2 : Value) (t0 t1 t2 : TypeId) : Res3 (((w.alloc (.cells #[v0] t0)).alloc (.cells #[v1] t1)).alloc (.cells #[v2] t2)) w.heap.size v0 v1 v2 := by
  have a0 := new_cell w v0 t0
  have a1 := new_cell (w.alloc (.cells #[v0] t0)) v1 t1
  have a2 := new_cell ((w.alloc (.cells #[v0] t0)).alloc (.cells #[v1] t1)) v2 t2
  have s1 : (w.alloc (.cells #[v0] t0)).heap.size = w.heap.size + 1 := by simp
  have s2 : ((w.alloc (.cells #[v0] t0)).alloc (.cells #[v1] t1)).heap.size = w.heap.size + 2 := by simp
  rw [s1] at a1
  rw [s2] at a2
  have b0 : ((w.alloc (.cells #[v0] t0)).alloc (.cells #[v1] t1)).heap[w.heap.size]? = (w.alloc (.cells #[v0] t0)).heap[w.heap.size]? := Below.heap_alloc _ _ _ (by simp)
  have b0' : (((w.alloc (.cells #[v0] t0)).alloc (.cells #[v1] t1)).alloc (.cells #[v2] t2)).heap[w.heap.size]? = (w.alloc (.cells #[v0] t0)).heap[w.heap.size]? := (Below.heap_alloc _ _ _ (by simp; omega)).trans b0
  have b1 : (((w.alloc (.cells #[v0] t0)).alloc (.cells #[v1] t1)).alloc (.cells #[v2] t2)).heap[w.heap.size + 1]? = ((w.alloc (.cells #[v0] t0)).alloc (.cells #[v1] t1)).heap[w.heap.size + 1]? := Below.heap_alloc _ _ _ (by simp)
  exact ⟨(World.cell?_of_block (a := ⟨w.heap.size, 0, none⟩) b0').trans a0.1, (World.cell?_of_block (a := ⟨w.heap.size + 1, 0, none⟩) b1).trans a1.1, a2.1, (World.frozen?_of_block (a := ⟨w.heap.size, 0, none⟩) b0').trans a0.2, (World.frozen?_of_block (a := ⟨w.heap.size + 1, 0, none⟩) b1).trans a1.2, a2.2, by simp⟩

set_option maxRecDepth 100000 in
theorem below3 (w : World) (v0 v1 v2 : Value) (t0 t1 t2 : TypeId) : Below w.heap.size w (((w.alloc (.cells #[v0] t0)).alloc (.cells #[v1] t1)).alloc (.cells #[v2] t2)) :=
  (((Below.refl _ _).alloc (Nat.le_refl _) _).alloc (by simp) _).alloc (by simp; omega) _

set_option maxRecDepth 100000 in
set_option maxHeartbeats 2000000 in
theorem cut_long (s : ByteArray) (w : World) (hs : 8192 < s.size) (hm : s.size ≤ maxLen) :
    Calls Tryd.prog 30 #[.string s] w fun e w' => CutPost w (.err 0 30) e w' := by
  unfold maxLen at hm
  have hmf : ∀ (fn : Fn) (first cap : Array Value) (w : World), (Instr.makeFunc fn first cap).run Tryd.prog w = .ok (.func fn first cap) w := fun _ _ _ _ => rfl
  have R := Res3.new w (.slice none 0 0) (.int .i64 0) (.int .i64 0) 62 3 31
  have HRR : Hid (Res3 (((w.alloc (.cells #[.slice none 0 0] 62)).alloc (.cells #[.int .i64 0] 3)).alloc (.cells #[.int .i64 0] 31)) w.heap.size (.slice none 0 0) (.int .i64 0) (.int .i64 0)) := R
  clear R
  go_enter_defers Tryd.func30, Tryd.ntmps30
  go_wp2_with fail
  refine (giveUp_any _ _ _).mono ?_
  rintro e w2 ⟨rfl, rfl⟩
  unfold gaveUp
  refine leaves_cons (f := 43) (args := #[.pointer (some ⟨w.heap.size, 0, none⟩), .pointer (some ⟨w.heap.size + 1, 0, none⟩), .pointer (some ⟨w.heap.size + 2, 0, none⟩)]) (by simp) (by simp [go_sem]) ?_
  refine (catch_panicking w.heap.size _ _ _ 0 30 [] _ HRR.out.c0 HRR.out.c1 HRR.out.c2 HRR.out.f0 HRR.out.f1 HRR.out.f2 HRR.out.lt).mono ?_
  rintro e u' w3 ⟨rfl, rfl, x0, x1, x2, hbl⟩
  have HF : Hid (CutPost w (.err 0 30) (.returned (.tuple #[.slice none 0 0, .int .i64 0, .int .i64 30])) w3) := ⟨rfl, (below3 w _ _ _ _ _ _).trans hbl⟩
  clear hbl
  simp [Leaves, settle, results, Tryd.results30, go_sem, x0, x1, x2]
  exact HF.out

set_option maxRecDepth 100000 in
set_option maxHeartbeats 4000000 in
theorem cut_short (s : ByteArray) (w : World) (hs : s.size ≤ 8192) :
    Calls Tryd.prog 30 #[.string s] w fun e w' => CutPost w (cutS (s.size + 1) 0 s.data.toList) e w' := by
  have hmf : ∀ (fn : Fn) (first cap : Array Value) (w : World), (Instr.makeFunc fn first cap).run Tryd.prog w = .ok (.func fn first cap) w := fun _ _ _ _ => rfl
  have R := Res3.new w (.slice none 0 0) (.int .i64 0) (.int .i64 0) 62 3 31
  have HRR : Hid (Res3 (((w.alloc (.cells #[.slice none 0 0] 62)).alloc (.cells #[.int .i64 0] 3)).alloc (.cells #[.int .i64 0] 31)) w.heap.size (.slice none 0 0) (.int .i64 0) (.int .i64 0)) := R
  clear R
  obtain ⟨res, hres⟩ : ∃ r, cutS (s.size + 1) 0 s.data.toList = r := ⟨_, rfl⟩
  rw [hres]
  have HRES : Hid (cutS (s.size + 1) 0 s.data.toList = res) := hres
  clear hres
  have hcs : CS ((((w.alloc (.cells #[.slice none 0 0] 62)).alloc (.cells #[.int .i64 0] 3)).alloc (.cells #[.int .i64 0] 31)).alloc (.cells #[.string s, .int .i64 0] 80)) (w.heap.size + 3) s 0 := by
    have hsz : (((w.alloc (.cells #[.slice none 0 0] 62)).alloc (.cells #[.int .i64 0] 3)).alloc (.cells #[.int .i64 0] 31)).heap.size = w.heap.size + 3 := by simp
    rw [← hsz]
    generalize (((w.alloc (.cells #[.slice none 0 0] 62)).alloc (.cells #[.int .i64 0] 3)).alloc (.cells #[.int .i64 0] 31)) = W
    exact ⟨by simp, by simp, by simp, by simp⟩
  have HCS : Hid (CS ((((w.alloc (.cells #[.slice none 0 0] 62)).alloc (.cells #[.int .i64 0] 3)).alloc (.cells #[.int .i64 0] 31)).alloc (.cells #[.string s, .int .i64 0] 80)) (w.heap.size + 3) s 0) := hcs
  clear hcs
  go_enter_defers Tryd.func30, Tryd.ntmps30
  go_wp2_with fail
  refine (all_any (w.heap.size + 3) s _ HCS.out (by omega)).mono ?_
  rw [HRES.out]
  cases res with
  | inl l =>
    rintro e w5 ⟨v, rfl, hto, hfb⟩
    have hsz : ((((w.alloc (.cells #[.slice none 0 0] 62)).alloc (.cells #[.int .i64 0] 3)).alloc (.cells #[.int .i64 0] 31)).alloc (.cells #[.string s, .int .i64 0] 80)).heap.size = w.heap.size + 4 := by simp
    rw [hsz] at hfb
    have R4 : Res3 ((((w.alloc (.cells #[.slice none 0 0] 62)).alloc (.cells #[.int .i64 0] 3)).alloc (.cells #[.int .i64 0] 31)).alloc (.cells #[.string s, .int .i64 0] 80)) w.heap.size (.slice none 0 0) (.int .i64 0) (.int .i64 0) := HRR.out.keep (fun k _ hk => Below.heap_alloc _ _ _ (by simp; omega)) (by simp)
    have R5 : Res3 w5 w.heap.size (.slice none 0 0) (.int .i64 0) (.int .i64 0) := R4.keep (fun k _ hk => hfb.block k (by omega) (by omega)) hfb.size
    have HB5 : Hid (Below w.heap.size w w5) := ((below3 w (.slice none 0 0) (.int .i64 0) (.int .i64 0) 62 3 31).alloc (by simp; omega) (.cells #[.string s, .int .i64 0] 80)).trans ⟨hfb.os, hfb.tape, hfb.output, hfb.size, fun k hk => hfb.block k (by omega) (by omega)⟩
    rw [hsz] at hto
    obtain ⟨a, n, c, rfl⟩ : ∃ a n c, v = .slice a n c := by
      rcases hto.2 with ⟨h, _⟩ | ⟨g, cap, cur, h, _⟩
      · exact ⟨_, _, _, h⟩
      · exact ⟨_, _, _, h⟩
    have hlt5 := R5.lt
    have HTO : Hid (TOwn w5 (w.heap.size + 4) (.slice a n c) l) := hto
    obtain ⟨c0, c1, c2, f0, f1, f2, _⟩ := R5
    have c2' : w5.cell? ⟨w.heap.size + 1 + 1, 0, none⟩ = some (.int .i64 0) := c2
    have f2' : w5.frozen? ⟨w.heap.size + 1 + 1, 0, none⟩ = false := f2
    clear R4 hfb hto hsz
    go_wp2
    refine leaves_cons (f := 43) (args := #[.pointer (some ⟨w.heap.size, 0, none⟩), .pointer (some ⟨w.heap.size + 1, 0, none⟩), .pointer (some ⟨w.heap.size + 2, 0, none⟩)]) (by simp) (by simp [go_sem]) ?_
    refine (catch_idle _ _ _ _).mono ?_
    rintro e u' w7 ⟨rfl, rfl, rfl⟩
    have q1 : ∀ (u : World) (x y : Nat) (v : Value), x ≠ y → (u.setCell ⟨x, 0, none⟩ v).cell? ⟨y, 0, none⟩ = u.cell? ⟨y, 0, none⟩ := fun u x y v hne => World.cell?_setCell_other u _ _ _ (by intro e; cases e; exact hne rfl)
    have hs6 : (((w5.setCell ⟨w.heap.size, 0, none⟩ (.slice a n c)).setCell ⟨w.heap.size + 1, 0, none⟩ (.int .i64 0)).setCell ⟨w.heap.size + 1 + 1, 0, none⟩ (.int .i64 0)).heap.size = w5.heap.size := by simp [World.setCell]
    have x0 : ((((w5.setCell ⟨w.heap.size, 0, none⟩ (.slice a n c)).setCell ⟨w.heap.size + 1, 0, none⟩ (.int .i64 0)).setCell ⟨w.heap.size + 1 + 1, 0, none⟩ (.int .i64 0)).alloc (.cells #[.int .i64 0, .int .i64 0] 76)).cell? ⟨w.heap.size, 0, none⟩ = some (.slice a n c) := by
      rw [World.cell?_of_block (a := ⟨w.heap.size, 0, none⟩) (Below.heap_alloc _ _ _ (by show w.heap.size < _; omega)), q1 _ _ _ _ (by omega), q1 _ _ _ _ (by omega)]
      exact World.cell?_setCell_same _ _ _ c0
    have x1 : ((((w5.setCell ⟨w.heap.size, 0, none⟩ (.slice a n c)).setCell ⟨w.heap.size + 1, 0, none⟩ (.int .i64 0)).setCell ⟨w.heap.size + 1 + 1, 0, none⟩ (.int .i64 0)).alloc (.cells #[.int .i64 0, .int .i64 0] 76)).cell? ⟨w.heap.size + 1, 0, none⟩ = some (.int .i64 0) := by
      rw [World.cell?_of_block (a := ⟨w.heap.size + 1, 0, none⟩) (Below.heap_alloc _ _ _ (by show w.heap.size + 1 < _; omega)), q1 _ _ _ _ (by omega)]
      exact World.cell?_setCell_same _ _ _ ((q1 _ _ _ _ (by omega)).trans c1)
    have x2 : ((((w5.setCell ⟨w.heap.size, 0, none⟩ (.slice a n c)).setCell ⟨w.heap.size + 1, 0, none⟩ (.int .i64 0)).setCell ⟨w.heap.size + 1 + 1, 0, none⟩ (.int .i64 0)).alloc (.cells #[.int .i64 0, .int .i64 0] 76)).cell? ⟨w.heap.size + 1 + 1, 0, none⟩ = some (.int .i64 0) := by
      rw [World.cell?_of_block (a := ⟨w.heap.size + 1 + 1, 0, none⟩) (Below.heap_alloc _ _ _ (by show w.heap.size + 1 + 1 < _; omega))]
      exact World.cell?_setCell_same _ _ _ ((q1 _ _ _ _ (by omega)).trans ((q1 _ _ _ _ (by omega)).trans c2'))
    have HF : Hid (CutPost w (.ok l) (.returned (.tuple #[.slice a n c, .int .i64 0, .int .i64 0])) ((((w5.setCell ⟨w.heap.size, 0, none⟩ (.slice a n c)).setCell ⟨w.heap.size + 1, 0, none⟩ (.int .i64 0)).setCell ⟨w.heap.size + 1 + 1, 0, none⟩ (.int .i64 0)).alloc (.cells #[.int .i64 0, .int .i64 0] 76))) := by
      refine ⟨_, rfl, ?_, ?_⟩
      · have h1 : TOwn ((((w5.setCell ⟨w.heap.size, 0, none⟩ (.slice a n c)).setCell ⟨w.heap.size + 1, 0, none⟩ (.int .i64 0)).setCell ⟨w.heap.size + 1 + 1, 0, none⟩ (.int .i64 0)).alloc (.cells #[.int .i64 0, .int .i64 0] 76)) (w.heap.size + 4) (.slice a n c) l := HTO.out.keep fun k hk hk2 => by
          rw [Below.heap_alloc _ _ _ (by omega), Below.heap_setCell _ _ _ _ (by show k ≠ w.heap.size + 1 + 1; omega), Below.heap_setCell _ _ _ _ (by show k ≠ w.heap.size + 1; omega), Below.heap_setCell _ _ _ _ (by show k ≠ w.heap.size; omega)]
        obtain ⟨g1, g2⟩ := h1
        refine ⟨g1, ?_⟩
        rcases g2 with g2 | ⟨g, cap, cur, y1, y2, y3⟩
        · exact Or.inl g2
        · exact Or.inr ⟨g, cap, cur, y1, by omega, y3⟩
      · exact (((HB5.out.setCell (p := ⟨w.heap.size, 0, none⟩) (Nat.le_refl _) _).setCell (p := ⟨w.heap.size + 1, 0, none⟩) (by show w.heap.size ≤ w.heap.size + 1; omega) _).setCell (p := ⟨w.heap.size + 1 + 1, 0, none⟩) (by show w.heap.size ≤ w.heap.size + 1 + 1; omega) _).alloc (by omega) _
    clear q1 hs6
    generalize ((((w5.setCell ⟨w.heap.size, 0, none⟩ (.slice a n c)).setCell ⟨w.heap.size + 1, 0, none⟩ (.int .i64 0)).setCell ⟨w.heap.size + 1 + 1, 0, none⟩ (.int .i64 0)).alloc (.cells #[.int .i64 0, .int .i64 0] 76)) = w7 at x0 x1 x2 HF
    simp [Leaves, settle, results, Tryd.results30, go_sem, x0, x1, x2]
    exact HF.out
  | inr x =>
    obtain ⟨k, er⟩ := x
    rintro e w5 ⟨rfl, hfb⟩
    have hsz : ((((w.alloc (.cells #[.slice none 0 0] 62)).alloc (.cells #[.int .i64 0] 3)).alloc (.cells #[.int .i64 0] 31)).alloc (.cells #[.string s, .int .i64 0] 80)).heap.size = w.heap.size + 4 := by simp
    rw [hsz] at hfb
    have R4 : Res3 ((((w.alloc (.cells #[.slice none 0 0] 62)).alloc (.cells #[.int .i64 0] 3)).alloc (.cells #[.int .i64 0] 31)).alloc (.cells #[.string s, .int .i64 0] 80)) w.heap.size (.slice none 0 0) (.int .i64 0) (.int .i64 0) := HRR.out.keep (fun k _ hk => Below.heap_alloc _ _ _ (by simp; omega)) (by simp)
    have R5 : Res3 w5 w.heap.size (.slice none 0 0) (.int .i64 0) (.int .i64 0) := R4.keep (fun k _ hk => hfb.block k (by omega) (by omega)) hfb.size
    have HB5 : Hid (Below w.heap.size w w5) := ((below3 w (.slice none 0 0) (.int .i64 0) (.int .i64 0) 62 3 31).alloc (by simp; omega) (.cells #[.string s, .int .i64 0] 80)).trans ⟨hfb.os, hfb.tape, hfb.output, hfb.size, fun k hk => hfb.block k (by omega) (by omega)⟩
    clear R4 hfb hsz
    unfold gaveUp
    refine leaves_cons (f := 43) (args := #[.pointer (some ⟨w.heap.size, 0, none⟩), .pointer (some ⟨w.heap.size + 1, 0, none⟩), .pointer (some ⟨w.heap.size + 2, 0, none⟩)]) (by simp) (by simp [go_sem]) ?_
    refine (catch_panicking w.heap.size _ _ _ (k : Int) er [] _ R5.c0 R5.c1 R5.c2 R5.f0 R5.f1 R5.f2 R5.lt).mono ?_
    rintro e u' w6 ⟨rfl, rfl, x0, x1, x2, hbl⟩
    have HF : Hid (CutPost w (.err k er) (.returned (.tuple #[.slice none 0 0, .int .i64 (k : Int), .int .i64 er])) w6) := ⟨rfl, HB5.out.trans hbl⟩
    clear hbl
    simp [Leaves, settle, results, Tryd.results30, go_sem, x0, x1, x2]
    exact HF.out

set_option maxRecDepth 100000 in
/-- what lex.Cut answers, whatever the text -/
theorem cut_any (s : ByteArray) (w : World) (hm : s.size ≤ maxLen) :
    Calls Tryd.prog 30 #[.string s] w fun e w' => CutPost w (cut s.data.toList) e w' := by
  have hl : s.data.toList.length = s.size := by simp
  by_cases h : 8192 < s.size
  · have : cut s.data.toList = .err 0 30 := by unfold cut; rw [if_pos (by omega)]
    rw [this]
    exact cut_long s w h hm
  · rw [cut_eq _ (by omega), hl]
    exact cut_short s w (by omega)
end Go.Proofs.YtnofibjchhcmeabDoor
