/- What tree.Parse answers. -/
import Derived.Test.YtnofibjchhcmeabDoorSw
namespace Go.Proofs.YtnofibjchhcmeabDoor
open Go.RowKit Go.Maps
set_option linter.unusedVariables false

set_option maxRecDepth 100000 in
theorem info60 : (Tryd.prog.info? 60).map (fun i => i.zero) = some (some (.agg #[.int .i64 0, .int .i64 0])) := by kernel_rfl
set_option maxRecDepth 100000 in
theorem tassert_is (k er : Int) (w : World) : (Instr.typeAssert (.iface 60 (.agg #[.int .i64 k, .int .i64 er])) 20 60 true).run Tryd.prog w = .ok (.tuple #[.agg #[.int .i64 k, .int .i64 er], .bool true]) w := by
  simp [Instr.typeAssert, run_underlying Tryd.underlying60]
set_option maxRecDepth 100000 in
theorem tassert_nil (w : World) : (Instr.typeAssert .nilIface 20 60 true).run Tryd.prog w = .ok (.tuple #[.agg #[.int .i64 0, .int .i64 0], .bool false]) w := by
  have h := info60
  rcases e : Tryd.prog.info? 60 with _ | i
  · rw [e] at h; simp at h
  · rw [e] at h
    have hz : i.zero = some (.agg #[.int .i64 0, .int .i64 0]) := by simpa using h
    simp [Instr.typeAssert, run_underlying Tryd.underlying60, zeroValue, typeInfo, e, hz]

set_option maxRecDepth 100000 in
set_option maxHeartbeats 1000000 in
theorem tcatch_idle (p1 p2 p3 : Addr) (w : World) :
    CallsD Tryd.prog 29 #[.pointer (some p1), .pointer (some p2), .pointer (some p3)] .returning w fun e u' w' => e = .returned (.tuple #[]) ∧ u' = .returning ∧ w' = w.alloc (.cells #[.int .i64 0, .int .i64 0] 60) := by
  refine callsD_of_wpS Tryd.func29 rfl fun c₀ cs hu => ?_
  apply wpS_seq
  apply wpS_region
  simp [wpOpsS, go_sem, recoverD, hu, Tryd.ntmps29, Exit.thenS, tassert_nil]
  apply wpS_seq
  apply wpS_region
  simp [wpOpsS, go_sem, Exit.thenS]
  refine wpS_cond (t := false) (by simp [Act.eval, Array.replicate]) ?_
  simp only [Bool.false_eq_true, if_false]
  refine wpS_of_wp (wp_skip ?_)
  cases c₀
  simp_all [bodyPostS, results, Tryd.results29]

set_option maxRecDepth 100000 in
set_option maxHeartbeats 2000000 in
theorem tcatch_panicking (b : Nat) (v0 v1 v2 : Value) (k er : Int) (older : List PanicEntry) (w : World) (h0 : w.cell? ⟨b, 0, none⟩ = some v0) (h1 : w.cell? ⟨b + 1, 0, none⟩ = some v1) (h2 : w.cell? ⟨b + 2, 0, none⟩ = some v2) (f0 : w.frozen? ⟨b, 0, none⟩ = false) (f1 : w.frozen? ⟨b + 1, 0, none⟩ = false) (f2 : w.frozen? ⟨b + 2, 0, none⟩ = false) (hb : b + 2 < w.heap.size) :
    CallsD Tryd.prog 29 #[.pointer (some ⟨b, 0, none⟩), .pointer (some ⟨b + 1, 0, none⟩), .pointer (some ⟨b + 2, 0, none⟩)] (.panicking ({ v := .iface 60 (.agg #[.int .i64 k, .int .i64 er]), recovered := false } :: older)) w fun e u' w' =>
      e = .returned (.tuple #[]) ∧ u' = .panicking ({ v := .iface 60 (.agg #[.int .i64 k, .int .i64 er]), recovered := true } :: older) ∧ w'.cell? ⟨b, 0, none⟩ = some (.slice none 0 0) ∧ w'.cell? ⟨b + 1, 0, none⟩ = some (.int .i64 k) ∧ w'.cell? ⟨b + 2, 0, none⟩ = some (.int .i64 er) ∧ Below b w w' := by
  refine callsD_of_wpS Tryd.func29 rfl fun c₀ cs hu => ?_
  apply wpS_seq
  apply wpS_region
  simp [wpOpsS, go_sem, recoverD, hu, Tryd.ntmps29, Exit.thenS, tassert_is]
  apply wpS_seq
  apply wpS_region
  simp [wpOpsS, go_sem, Exit.thenS]
  refine wpS_cond (t := true) (by simp [Act.eval, Array.replicate]) ?_
  simp only [if_true]
  refine wpS_of_wp ?_
  have l0 : ∀ o : Obj, (w.alloc o).cell? ⟨b, 0, none⟩ = some v0 := by
    intro o
    rw [World.cell?_alloc_lt]
    · exact h0
    · show b < w.heap.size; omega
  have l1 : ∀ o : Obj, (w.alloc o).cell? ⟨b + 1, 0, none⟩ = some v1 := by
    intro o
    rw [World.cell?_alloc_lt]
    · exact h1
    · show b + 1 < w.heap.size; omega
  have l2 : ∀ o : Obj, (w.alloc o).cell? ⟨b + 2, 0, none⟩ = some v2 := by
    intro o
    rw [World.cell?_alloc_lt]
    · exact h2
    · show b + 2 < w.heap.size; omega
  generalize hact : Act.mk _ _ = act
  have ha : act = { tmps := #[.pointer (some ⟨b, 0, none⟩), .pointer (some ⟨b + 1, 0, none⟩), .pointer (some ⟨b + 2, 0, none⟩), .pointer (some ⟨w.heap.size, 0, none⟩), .bool true, .tuple #[.agg #[.int .i64 k, .int .i64 er], .bool true], .iface 60 (.agg #[.int .i64 k, .int .i64 er]), .tuple #[.agg #[.int .i64 k, .int .i64 er], .bool true], .agg #[.int .i64 k, .int .i64 er], .bool true, .bool true, undef, undef, undef, undef], defers := [] } := by
    rw [← hact]
    simp [Array.replicate, List.replicate]
  clear hact
  subst ha
  obtain ⟨W, hW⟩ : ∃ W, w.alloc (.cells #[.int .i64 k, .int .i64 er] 60) = W := ⟨_, rfl⟩
  have m0 := l0 (.cells #[.int .i64 k, .int .i64 er] 60)
  have m1 := l1 (.cells #[.int .i64 k, .int .i64 er] 60)
  have m2 := l2 (.cells #[.int .i64 k, .int .i64 er] 60)
  have m3 : (w.alloc (.cells #[.int .i64 k, .int .i64 er] 60)).cell? ⟨w.heap.size, 0, none⟩ = some (.int .i64 k) := by simp
  have m4 : (w.alloc (.cells #[.int .i64 k, .int .i64 er] 60)).cell? ⟨w.heap.size, 1, none⟩ = some (.int .i64 er) := by simp
  have g0 : (w.alloc (.cells #[.int .i64 k, .int .i64 er] 60)).frozen? ⟨b, 0, none⟩ = false := (World.frozen?_of_block (w := w) (a := ⟨b, 0, none⟩) (Below.heap_alloc _ _ _ (by show b < w.heap.size; omega))).trans f0
  have g1 : (w.alloc (.cells #[.int .i64 k, .int .i64 er] 60)).frozen? ⟨b + 1, 0, none⟩ = false := (World.frozen?_of_block (w := w) (a := ⟨b + 1, 0, none⟩) (Below.heap_alloc _ _ _ (by show b + 1 < w.heap.size; omega))).trans f1
  have g2 : (w.alloc (.cells #[.int .i64 k, .int .i64 er] 60)).frozen? ⟨b + 2, 0, none⟩ = false := (World.frozen?_of_block (w := w) (a := ⟨b + 2, 0, none⟩) (Below.heap_alloc _ _ _ (by show b + 2 < w.heap.size; omega))).trans f2
  have HBW : Hid (Below b w (w.alloc (.cells #[.int .i64 k, .int .i64 er] 60))) := ((Below.refl _ _).alloc (Nat.le_refl _) _).mono (by omega)
  rw [hW] at m0 m1 m2 m3 m4 g0 g1 g2 HBW
  rw [hW]
  clear l0 l1 l2 hW f0 f1 f2 h0 h1 h2
  obtain ⟨M, hM⟩ : ∃ M, w.heap.size = M := ⟨_, rfl⟩
  rw [hM] at m3 m4 hb
  rw [hM]
  have nb0 : ¬ M = b := by omega
  have nb1 : ¬ M = b + 1 := by omega
  have nb2 : ¬ M = b + 2 := by omega
  have nb0' : ¬ b = M := by omega
  have nb1' : ¬ b + 1 = M := by omega
  have nb2' : ¬ b + 2 = M := by omega
  clear hM
  have q1 : ∀ (u : World) (x y : Nat) (v : Value), x ≠ y → (u.setCell ⟨x, 0, none⟩ v).cell? ⟨y, 0, none⟩ = u.cell? ⟨y, 0, none⟩ := fun u x y v hne => World.cell?_setCell_other u _ _ _ (by intro e; cases e; exact hne rfl)
  have HF : Hid (((((W.setCell ⟨b, 0, none⟩ (.slice none 0 0)).setCell ⟨b + 1, 0, none⟩ (.int .i64 k)).setCell ⟨b + 2, 0, none⟩ (.int .i64 er)).drew).cell? ⟨b, 0, none⟩ = some (.slice none 0 0) ∧ ((((W.setCell ⟨b, 0, none⟩ (.slice none 0 0)).setCell ⟨b + 1, 0, none⟩ (.int .i64 k)).setCell ⟨b + 2, 0, none⟩ (.int .i64 er)).drew).cell? ⟨b + 1, 0, none⟩ = some (.int .i64 k) ∧ ((((W.setCell ⟨b, 0, none⟩ (.slice none 0 0)).setCell ⟨b + 1, 0, none⟩ (.int .i64 k)).setCell ⟨b + 2, 0, none⟩ (.int .i64 er)).drew).cell? ⟨b + 2, 0, none⟩ = some (.int .i64 er) ∧ Below b w ((((W.setCell ⟨b, 0, none⟩ (.slice none 0 0)).setCell ⟨b + 1, 0, none⟩ (.int .i64 k)).setCell ⟨b + 2, 0, none⟩ (.int .i64 er)).drew)) := by
    refine ⟨?_, ?_, ?_, ?_⟩
    · show (((W.setCell _ _).setCell _ _).setCell _ _).cell? _ = _
      rw [q1 _ (b + 2) b _ (by omega), q1 _ (b + 1) b _ (by omega)]
      exact World.cell?_setCell_same _ _ _ m0
    · show (((W.setCell _ _).setCell _ _).setCell _ _).cell? _ = _
      rw [q1 _ (b + 2) (b + 1) _ (by omega)]
      exact World.cell?_setCell_same _ _ _ ((q1 _ b (b + 1) _ (by omega)).trans m1)
    · show (((W.setCell _ _).setCell _ _).setCell _ _).cell? _ = _
      exact World.cell?_setCell_same _ _ _ ((q1 _ (b + 1) (b + 2) _ (by omega)).trans ((q1 _ b (b + 2) _ (by omega)).trans m2))
    · exact ((((HBW.out.setCell (p := ⟨b, 0, none⟩) (Nat.le_refl _) _).setCell (p := ⟨b + 1, 0, none⟩) (by show b ≤ b + 1; omega) _).setCell (p := ⟨b + 2, 0, none⟩) (by show b ≤ b + 2; omega) _)).drew
  clear q1
  go_region
  simp only [bodyPostS, results, Tryd.results29]
  have := HF.out
  simp
  exact this


theorem cutG_end : ∀ (f p : Nat) (R : List UInt8) (l : List Tok), cutG f p R = .inl l → (∃ a k, l = a ++ [⟨0, [], 0, k⟩]) ∧ l.length ≤ f := by
  intro f
  induction f with
  | zero => intro p R l h; cases h
  | succ f ih =>
    intro p R l h
    cases R with
    | nil => cases h; exact ⟨⟨[], p, rfl⟩, by simp⟩
    | cons b T =>
      rw [cutG_cons] at h
      rcases e : tokOf (b :: T) with ⟨k, m, n⟩ | ⟨o, er⟩
      · rw [e] at h
        simp only at h
        rcases e2 : cutS f (p + n) (List.drop n (b :: T)) with l2 | er2
        · rw [e2] at h
          unfold cutS at e2
          obtain ⟨⟨a, k2, h1⟩, h2⟩ := ih _ _ _ e2
          cases h
          exact ⟨⟨⟨k, List.take n (b :: T), m, p⟩ :: a, k2, by rw [h1]; rfl⟩, by simp; omega⟩
        · rw [e2] at h; cases h
      · rw [e] at h; cases h
theorem cut_end {s : List UInt8} {L : List Tok} (h : cut s = .inl L) : TEnd L ∧ 1 ≤ L.length ∧ L.length ≤ 8193 := by
  unfold cut at h
  split at h
  · cases h
  · obtain ⟨⟨a, k, h1⟩, h2⟩ := cutG_end _ _ _ _ h
    refine ⟨fun p hp => ?_, by rw [h1]; simp, by omega⟩
    subst h1
    have : p = a.length := by simp at hp; omega
    subst this
    have : tk (a ++ [⟨0, [], 0, k⟩]) a.length = ⟨0, [], 0, k⟩ := by unfold tk; simp
    rw [this]
    exact ⟨rfl, rfl⟩
end Go.Proofs.YtnofibjchhcmeabDoor
