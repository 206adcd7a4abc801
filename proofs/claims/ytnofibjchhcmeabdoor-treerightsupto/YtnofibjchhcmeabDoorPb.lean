/- What tree.Parse answers of a text that can be cut. -/
import Derived.Test.YtnofibjchhcmeabDoorSw
namespace Go.Proofs.YtnofibjchhcmeabDoor
open Go.RowKit Go.Maps
set_option linter.unusedVariables false

set_option maxRecDepth 100000 in
theorem info60 : (Tryd.prog.info? 60).map (fun i => i.zero) = some (some (.agg #[.int .i64 0, .int .i64 0])) := by kernel_rfl
set_option maxRecDepth 100000 in
theorem tassert_is (k er : Int) (w : World) : (Instr.typeAssert (.iface 60 (.agg #[.int .i64 k, .int .i64 er])) 20 60 true).run Tryd.prog w = .ok (.tuple #[.agg #[.int .i64 k, .int .i64 er], .bool true]) w := by
  simp [Instr.typeAssert, run_underlying Tryd.underlying60]
set_option maxRecDepth 100000 in
theorem tassert_nil (w : World) : (Instr.typeAssert .nilIface 20 60 true).run Tryd.prog w = .ok (.tuple #[.agg #[.int .i64 0, .int .i64 0], .bool false]) w := by
  have h := info60
  rcases e : Tryd.prog.info? 60 with _ | i
  · rw [e] at h; simp at h
  · rw [e] at h
    have hz : i.zero = some (.agg #[.int .i64 0, .int .i64 0]) := by simpa using h
    simp [Instr.typeAssert, run_underlying Tryd.underlying60, zeroValue, typeInfo, e, hz]

set_option maxRecDepth 100000 in
set_option maxHeartbeats 1000000 in
theorem tcatch_idle (p1 p2 p3 : Addr) (w : World) :
    CallsD Tryd.prog 29 #[.pointer (some p1), .pointer (some p2), .pointer (some p3)] .returning w fun e u' w' => e = .returned (.tuple #[]) ∧ u' = .returning ∧ w' = w.alloc (.cells #[.int .i64 0, .int .i64 0] 60) := by
  refine callsD_of_wpS Tryd.func29 rfl fun c₀ cs hu => ?_
  apply wpS_seq
  apply wpS_region
  simp [wpOpsS, go_sem, recoverD, hu, Tryd.ntmps29, Exit.thenS, tassert_nil]
  apply wpS_seq
  apply wpS_region
  simp [wpOpsS, go_sem, Exit.thenS]
  refine wpS_cond (t := false) (by simp [Act.eval, Array.replicate]) ?_
  simp only [Bool.false_eq_true, if_false]
  refine wpS_of_wp (wp_skip ?_)
  cases c₀
  simp_all [bodyPostS, results, Tryd.results29]

set_option maxRecDepth 100000 in
set_option maxHeartbeats 2000000 in
theorem tcatch_panicking (b : Nat) (v0 v1 v2 : Value) (k er : Int) (older : List PanicEntry) (w : World) (h0 : w.cell? ⟨b, 0, none⟩ = some v0) (h1 : w.cell? ⟨b + 1, 0, none⟩ = some v1) (h2 : w.cell? ⟨b + 2, 0, none⟩ = some v2) (f0 : w.frozen? ⟨b, 0, none⟩ = false) (f1 : w.frozen? ⟨b + 1, 0, none⟩ = false) (f2 : w.frozen? ⟨b + 2, 0, none⟩ = false) (hb : b + 2 < w.heap.size) :
    CallsD Tryd.prog 29 #[.pointer (some ⟨b, 0, none⟩), .pointer (some ⟨b + 1, 0, none⟩), .pointer (some ⟨b + 2, 0, none⟩)] (.panicking ({ v := .iface 60 (.agg #[.int .i64 k, .int .i64 er]), recovered := false } :: older)) w fun e u' w' =>
      e = .returned (.tuple #[]) ∧ u' = .panicking ({ v := .iface 60 (.agg #[.int .i64 k, .int .i64 er]), recovered := true } :: older) ∧ w'.cell? ⟨b, 0, none⟩ = some (.slice none 0 0) ∧ w'.cell? ⟨b + 1, 0, none⟩ = some (.int .i64 k) ∧ w'.cell? ⟨b + 2, 0, none⟩ = some (.int .i64 er) ∧ Below b w w' := by
  refine callsD_of_wpS Tryd.func29 rfl fun c₀ cs hu => ?_
  apply wpS_seq
  apply wpS_region
  simp [wpOpsS, go_sem, recoverD, hu, Tryd.ntmps29, Exit.thenS, tassert_is]
  apply wpS_seq
  apply wpS_region
  simp [wpOpsS, go_sem, Exit.thenS]
  refine wpS_cond (t := true) (by simp [Act.eval, Array.replicate]) ?_
  simp only [if_true]
  refine wpS_of_wp ?_
  have l0 : ∀ o : Obj, (w.alloc o).cell? ⟨b, 0, none⟩ = some v0 := by
    intro o
    rw [World.cell?_alloc_lt]
    · exact h0
    · show b < w.heap.size; omega
  have l1 : ∀ o : Obj, (w.alloc o).cell? ⟨b + 1, 0, none⟩ = some v1 := by
    intro o
    rw [World.cell?_alloc_lt]
    · exact h1
    · show b + 1 < w.heap.size; omega
  have l2 : ∀ o : Obj, (w.alloc o).cell? ⟨b + 2, 0, none⟩ = some v2 := by
    intro o
    rw [World.cell?_alloc_lt]
    · exact h2
    · show b + 2 < w.heap.size; omega
  generalize hact : Act.mk _ _ = act
  have ha : act = { tmps := #[.pointer (some ⟨b, 0, none⟩), .pointer (some ⟨b + 1, 0, none⟩), .pointer (some ⟨b + 2, 0, none⟩), .pointer (some ⟨w.heap.size, 0, none⟩), .bool true, .tuple #[.agg #[.int .i64 k, .int .i64 er], .bool true], .iface 60 (.agg #[.int .i64 k, .int .i64 er]), .tuple #[.agg #[.int .i64 k, .int .i64 er], .bool true], .agg #[.int .i64 k, .int .i64 er], .bool true, .bool true, undef, undef, undef, undef], defers := [] } := by
    rw [← hact]
    simp [Array.replicate, List.replicate]
  clear hact
  subst ha
  obtain ⟨W, hW⟩ : ∃ W, w.alloc (.cells #[.int .i64 k, .int .i64 er] 60) = W := ⟨_, rfl⟩
  have m0 := l0 (.cells #[.int .i64 k, .int .i64 er] 60)
  have m1 := l1 (.cells #[.int .i64 k, .int .i64 er] 60)
  have m2 := l2 (.cells #[.int .i64 k, .int .i64 er] 60)
  have m3 : (w.alloc (.cells #[.int .i64 k, .int .i64 er] 60)).cell? ⟨w.heap.size, 0, none⟩ = some (.int .i64 k) := by simp
  have m4 : (w.alloc (.cells #[.int .i64 k, .int .i64 er] 60)).cell? ⟨w.heap.size, 1, none⟩ = some (.int .i64 er) := by simp
  have g0 : (w.alloc (.cells #[.int .i64 k, .int .i64 er] 60)).frozen? ⟨b, 0, none⟩ = false := (World.frozen?_of_block (w := w) (a := ⟨b, 0, none⟩) (Below.heap_alloc _ _ _ (by show b < w.heap.size; omega))).trans f0
  have g1 : (w.alloc (.cells #[.int .i64 k, .int .i64 er] 60)).frozen? ⟨b + 1, 0, none⟩ = false := (World.frozen?_of_block (w := w) (a := ⟨b + 1, 0, none⟩) (Below.heap_alloc _ _ _ (by show b + 1 < w.heap.size; omega))).trans f1
  have g2 : (w.alloc (.cells #[.int .i64 k, .int .i64 er] 60)).frozen? ⟨b + 2, 0, none⟩ = false := (World.frozen?_of_block (w := w) (a := ⟨b + 2, 0, none⟩) (Below.heap_alloc _ _ _ (by show b + 2 < w.heap.size; omega))).trans f2
  have HBW : Hid (Below b w (w.alloc (.cells #[.int .i64 k, .int .i64 er] 60))) := ((Below.refl _ _).alloc (Nat.le_refl _) _).mono (by omega)
  rw [hW] at m0 m1 m2 m3 m4 g0 g1 g2 HBW
  rw [hW]
  clear l0 l1 l2 hW f0 f1 f2 h0 h1 h2
  obtain ⟨M, hM⟩ : ∃ M, w.heap.size = M := ⟨_, rfl⟩
  rw [hM] at m3 m4 hb
  rw [hM]
  have nb0 : ¬ M = b := by omega
  have nb1 : ¬ M = b + 1 := by omega
  have nb2 : ¬ M = b + 2 := by omega
  have nb0' : ¬ b = M := by omega
  have nb1' : ¬ b + 1 = M := by omega
  have nb2' : ¬ b + 2 = M := by omega
  clear hM
  have q1 : ∀ (u : World) (x y : Nat) (v : Value), x ≠ y → (u.setCell ⟨x, 0, none⟩ v).cell? ⟨y, 0, none⟩ = u.cell? ⟨y, 0, none⟩ := fun u x y v hne => World.cell?_setCell_other u _ _ _ (by intro e; cases e; exact hne rfl)
  have HF : Hid (((((W.setCell ⟨b, 0, none⟩ (.slice none 0 0)).setCell ⟨b + 1, 0, none⟩ (.int .i64 k)).setCell ⟨b + 2, 0, none⟩ (.int .i64 er)).drew).cell? ⟨b, 0, none⟩ = some (.slice none 0 0) ∧ ((((W.setCell ⟨b, 0, none⟩ (.slice none 0 0)).setCell ⟨b + 1, 0, none⟩ (.int .i64 k)).setCell ⟨b + 2, 0, none⟩ (.int .i64 er)).drew).cell? ⟨b + 1, 0, none⟩ = some (.int .i64 k) ∧ ((((W.setCell ⟨b, 0, none⟩ (.slice none 0 0)).setCell ⟨b + 1, 0, none⟩ (.int .i64 k)).setCell ⟨b + 2, 0, none⟩ (.int .i64 er)).drew).cell? ⟨b + 2, 0, none⟩ = some (.int .i64 er) ∧ Below b w ((((W.setCell ⟨b, 0, none⟩ (.slice none 0 0)).setCell ⟨b + 1, 0, none⟩ (.int .i64 k)).setCell ⟨b + 2, 0, none⟩ (.int .i64 er)).drew)) := by
    refine ⟨?_, ?_, ?_, ?_⟩
    · show (((W.setCell _ _).setCell _ _).setCell _ _).cell? _ = _
      rw [q1 _ (b + 2) b _ (by omega), q1 _ (b + 1) b _ (by omega)]
      exact World.cell?_setCell_same _ _ _ m0
    · show (((W.setCell _ _).setCell _ _).setCell _ _).cell? _ = _
      rw [q1 _ (b + 2) (b + 1) _ (by omega)]
      exact World.cell?_setCell_same _ _ _ ((q1 _ b (b + 1) _ (by omega)).trans m1)
    · show (((W.setCell _ _).setCell _ _).setCell _ _).cell? _ = _
      exact World.cell?_setCell_same _ _ _ ((q1 _ (b + 1) (b + 2) _ (by omega)).trans ((q1 _ b (b + 2) _ (by omega)).trans m2))
    · exact ((((HBW.out.setCell (p := ⟨b, 0, none⟩) (Nat.le_refl _) _).setCell (p := ⟨b + 1, 0, none⟩) (by show b ≤ b + 1; omega) _).setCell (p := ⟨b + 2, 0, none⟩) (by show b ≤ b + 2; omega) _)).drew
  clear q1
  go_region
  simp only [bodyPostS, results, Tryd.results29]
  have := HF.out
  simp
  exact this


theorem cutG_end : ∀ (f p : Nat) (R : List UInt8) (l : List Tok), cutG f p R = .inl l → (∃ a k, l = a ++ [⟨0, [], 0, k⟩]) ∧ l.length ≤ f := by
  intro f
  induction f with
  | zero => intro p R l h; cases h
  | succ f ih =>
    intro p R l h
    cases R with
    | nil => cases h; exact ⟨⟨[], p, rfl⟩, by simp⟩
    | cons b T =>
      rw [cutG_cons] at h
      rcases e : tokOf (b :: T) with ⟨k, m, n⟩ | ⟨o, er⟩
      · rw [e] at h
        simp only at h
        rcases e2 : cutS f (p + n) (List.drop n (b :: T)) with l2 | er2
        · rw [e2] at h
          unfold cutS at e2
          obtain ⟨⟨a, k2, h1⟩, h2⟩ := ih _ _ _ e2
          cases h
          exact ⟨⟨⟨k, List.take n (b :: T), m, p⟩ :: a, k2, by rw [h1]; rfl⟩, by simp; omega⟩
        · rw [e2] at h; cases h
      · rw [e] at h; cases h
theorem cut_end {s : List UInt8} {L : List Tok} (h : cut s = .inl L) : TEnd L ∧ 1 ≤ L.length ∧ L.length ≤ 8193 := by
  unfold cut at h
  split at h
  · cases h
  · obtain ⟨⟨a, k, h1⟩, h2⟩ := cutG_end _ _ _ _ h
    refine ⟨fun p hp => ?_, by rw [h1]; simp, by omega⟩
    subst h1
    have : p = a.length := by simp at hp; omega
    subst this
    have : tk (a ++ [⟨0, [], 0, k⟩]) a.length = ⟨0, [], 0, k⟩ := by unfold tk; simp
    rw [this]
    exact ⟨rfl, rfl⟩
end Go.Proofs.YtnofibjchhcmeabDoor
namespace Go.Proofs.YtnofibjchhcmeabDoor
open Go.RowKit Go.Maps
set_option linter.unusedVariables false

theorem tcs_at : ∀ (l : List Tok) (i : Nat) (hi : i < l.length), (tcs l)[i * 4]? = some (.int .i64 l[i].kind) ∧ (tcs l)[i * 4 + 1]? = some (.string ⟨l[i].text.toArray⟩) ∧ (tcs l)[i * 4 + 2]? = some (.int .i64 l[i].num) ∧ (tcs l)[i * 4 + 3]? = some (.int .i64 (l[i].pos : Int)) := by
  intro l
  induction l with
  | nil => intro i hi; exact absurd hi (Nat.not_lt_zero i)
  | cons t l ih =>
    intro i hi
    cases i with
    | zero => exact ⟨rfl, rfl, rfl, rfl⟩
    | succ i =>
      obtain ⟨h0, h1, h2, h3⟩ := ih i (by simpa using hi)
      have e : ∀ j, (tcs (t :: l))[j + 4]? = (tcs l)[j]? := fun j => by simp [tcs, tc]
      refine ⟨?_, ?_, ?_, ?_⟩
      · rw [show (i + 1) * 4 = i * 4 + 4 by omega, e]; exact h0
      · rw [show (i + 1) * 4 + 1 = i * 4 + 1 + 4 by omega, e]; exact h1
      · rw [show (i + 1) * 4 + 2 = i * 4 + 2 + 4 by omega, e]; exact h2
      · rw [show (i + 1) * 4 + 3 = i * 4 + 3 + 4 by omega, e]; exact h3
/-- tokens of the call's own, as a parser has them -/
theorem TOwn.at {w : World} {base : Nat} {v : Value} {L : List Tok} (h : TOwn w base v L) (hl : 1 ≤ L.length) : ∃ g cap, v = .slice (some ⟨g, 0, none⟩) L.length cap ∧ base ≤ g ∧ g < w.heap.size ∧ L.length ≤ cap ∧ cap ≤ 9223372036854775807 ∧ TAt w g L := by
  have hce := fun g => World.ownsRow.cells h (g := g)
  have hlt := World.ownsRow.lt h
  obtain ⟨h1, h2⟩ := h
  rcases h2 with ⟨h2, h3⟩ | ⟨g, cap, cur, e1, e2, e3, e4, e5, e6, e7⟩
  · omega
  · have hob : v.ownBlock = some g := by rw [e1]; rfl
    have hc : ∀ j u, (tcs L)[j]? = some u → w.cell? ⟨g, j, none⟩ = some u := by
      intro j u hj
      have := hce g hob j u hj
      rw [← this]
      congr 1
      unfold Addr.add
      split <;> simp_all
    refine ⟨g, cap, e1, e2, (hlt g hob).2, e4, by unfold maxLen at e5; omega, fun i hi => ?_⟩
    obtain ⟨a0, a1, a2, a3⟩ := tcs_at L i hi
    exact ⟨hc _ _ a0, hc _ _ a1, hc _ _ a2, hc _ _ a3⟩
/-- what comes of a text -/
def PPost (w : World) : Except (Nat × Int) (List PT) → Ending → World → Prop
  | .error (k, er), e, w' => e = .returned (.tuple #[.slice none 0 0, .int .i64 (k : Int), .int .i64 er]) ∧ Below w.heap.size w w'
  | .ok l, e, w' => ∃ v1 v2 v3, e = .returned (.tuple #[.slice v1 v2 v3, .int .i64 0, .int .i64 0]) ∧ SSlP w' (fun j => w.heap.size ≤ j) (.slice v1 v2 v3) (srow l) ∧ Below w.heap.size w w'
def outT : TR → Except (Nat × Int) (List PT)
  | .error e => .error e
  | .ok (l, _, _) => .ok l

set_option maxRecDepth 100000 in
set_option maxHeartbeats 8000000 in
theorem parse_cut (s : ByteArray) (w : World) (L : List Tok) (hcut : cut s.data.toList = .inl L) (hm : s.size ≤ maxLen) (hsg : ∃ A t fr, SA A ∧ w.heap[0]? = some (.cells A t fr)) (hst : ∀ pb g c, StOk pb g c L) (hfd : ∀ k, textF L (L.length + 1) 0 0 ≠ .error (k, -1)) :
    Calls Tryd.prog 19 #[.string s] w (PPost w (outT (textF L (L.length + 1) 0 0))) := by
  obtain ⟨hE, hl1, hl2⟩ := cut_end hcut
  have hmf : ∀ (fn : Fn) (first cap : Array Value) (w : World), (Instr.makeFunc fn first cap).run Tryd.prog w = .ok (.func fn first cap) w := fun _ _ _ _ => rfl
  have HRR : Hid (Res3 (((w.alloc (.cells #[.slice none 0 0] 27)).alloc (.cells #[.int .i64 0] 3)).alloc (.cells #[.int .i64 0] 31)) w.heap.size (.slice none 0 0) (.int .i64 0) (.int .i64 0)) := Res3.new w (.slice none 0 0) (.int .i64 0) (.int .i64 0) 27 3 31
  have HBB : Hid (Below w.heap.size w (((w.alloc (.cells #[.slice none 0 0] 27)).alloc (.cells #[.int .i64 0] 3)).alloc (.cells #[.int .i64 0] 31))) := below3 w _ _ _ _ _ _
  have hws : (((w.alloc (.cells #[.slice none 0 0] 27)).alloc (.cells #[.int .i64 0] 3)).alloc (.cells #[.int .i64 0] 31)).heap.size = w.heap.size + 3 := by simp
  have HCUT : Hid (Calls Tryd.prog 30 #[.string s] (((w.alloc (.cells #[.slice none 0 0] 27)).alloc (.cells #[.int .i64 0] 3)).alloc (.cells #[.int .i64 0] 31)) fun e w' => CutPost (((w.alloc (.cells #[.slice none 0 0] 27)).alloc (.cells #[.int .i64 0] 3)).alloc (.cells #[.int .i64 0] 31)) (.inl L) e w') := by have := cut_any s (((w.alloc (.cells #[.slice none 0 0] 27)).alloc (.cells #[.int .i64 0] 3)).alloc (.cells #[.int .i64 0] 31)) hm; rwa [hcut] at this
  obtain ⟨R, hR⟩ : ∃ R, textF L (L.length + 1) 0 0 = R := ⟨_, rfl⟩
  rw [hR] at hfd ⊢
  obtain ⟨P, hP⟩ : ∃ P, PPost w (outT R) = P := ⟨_, rfl⟩
  have HP : Hid (PPost w (outT R) = P) := hP
  rw [hP]
  have HR : Hid (textF L (L.length + 1) 0 0 = R) := hR
  have HFD : Hid (∀ k, R ≠ .error (k, -1)) := hfd
  have HST : Hid (∀ pb g c, StOk pb g c L) := hst
  have HL : Hid (TEnd L ∧ 1 ≤ L.length ∧ L.length ≤ 8193) := ⟨hE, hl1, hl2⟩
  have HSG : Hid (∃ A t fr, SA A ∧ w.heap[0]? = some (.cells A t fr)) := hsg
  clear hE hl1 hl2 hcut hm hR hP hfd hst hsg
  go_enter_defers Tryd.func19, Tryd.ntmps19
  go_wp2_with fail
  refine HCUT.out.mono ?_
  rintro e w1 ⟨v, rfl, hto, hb1⟩
  rw [hws] at hto hb1
  obtain ⟨g, cap, rfl, hg1, hg2, hg3, hg4, hta⟩ := hto.at HL.out.2.1
  have R1 : Res3 w1 w.heap.size (.slice none 0 0) (.int .i64 0) (.int .i64 0) := HRR.out.keep (fun k _ hk => hb1.block k (by omega)) hb1.size
  have B1 : Below w.heap.size w w1 := HBB.out.trans (hb1.mono (by omega))
  obtain ⟨x0, x1, x2, y0, y1, y2, hlt1⟩ := R1
  have x2' : w1.cell? ⟨w.heap.size + 1 + 1, 0, none⟩ = some (.int .i64 0) := x2
  have y2' : w1.frozen? ⟨w.heap.size + 1 + 1, 0, none⟩ = false := y2
  have HB1 : Hid (Below w.heap.size w w1) := B1
  have HTA : Hid (TAt w1 g L) := hta
  have HGG : Hid (w.heap.size + 3 ≤ g ∧ g < w1.heap.size ∧ L.length ≤ cap ∧ cap ≤ 9223372036854775807 ∧ w.heap.size + 2 < w1.heap.size) := ⟨hg1, hg2, hg3, hg4, hlt1⟩
  have HX : Hid (Res3 w1 w.heap.size (.slice none 0 0) (.int .i64 0) (.int .i64 0)) := ⟨x0, x1, x2, y0, y1, y2, hlt1⟩
  clear hto hb1 B1 hta hg1 hg2 hg3 hg4 HCUT HRR HBB hws
  go_wp2_with fail
  have q1 : ∀ (u : World) (x y : Nat) (v : Value), x ≠ y → (u.setCell ⟨x, 0, none⟩ v).cell? ⟨y, 0, none⟩ = u.cell? ⟨y, 0, none⟩ := fun u x y v hne => World.cell?_setCell_other u _ _ _ (by intro e; cases e; exact hne rfl)
  have hvs : ((w1.setCell ⟨w.heap.size + 1, 0, none⟩ (.int .i64 0)).setCell ⟨w.heap.size + 1 + 1, 0, none⟩ (.int .i64 0)).heap.size = w1.heap.size := by simp [World.setCell]
  have RV : Res3 ((w1.setCell ⟨w.heap.size + 1, 0, none⟩ (.int .i64 0)).setCell ⟨w.heap.size + 1 + 1, 0, none⟩ (.int .i64 0)) w.heap.size (.slice none 0 0) (.int .i64 0) (.int .i64 0) := by
    refine ⟨?_, ?_, ?_, by simpa using y0, by simpa using y1, by simpa using y2, by rw [hvs]; exact hlt1⟩
    · rw [q1 _ _ _ _ (by omega), q1 _ _ _ _ (by omega)]; exact x0
    · rw [q1 _ _ _ _ (by omega)]; exact World.cell?_setCell_same _ _ _ x1
    · exact World.cell?_setCell_same _ _ _ ((q1 _ _ _ _ (by omega)).trans x2')
  have BV : Below w.heap.size w ((w1.setCell ⟨w.heap.size + 1, 0, none⟩ (.int .i64 0)).setCell ⟨w.heap.size + 1 + 1, 0, none⟩ (.int .i64 0)) := (HB1.out.setCell (p := ⟨w.heap.size + 1, 0, none⟩) (by show w.heap.size ≤ w.heap.size + 1; omega) _).setCell (p := ⟨w.heap.size + 1 + 1, 0, none⟩) (by show w.heap.size ≤ w.heap.size + 1 + 1; omega) _
  have hgb : ((w1.setCell ⟨w.heap.size + 1, 0, none⟩ (.int .i64 0)).setCell ⟨w.heap.size + 1 + 1, 0, none⟩ (.int .i64 0)).heap[g]? = w1.heap[g]? := (Below.heap_setCell _ _ _ _ (by show g ≠ w.heap.size + 1 + 1; have := HGG.out; omega)).trans (Below.heap_setCell _ _ _ _ (by show g ≠ w.heap.size + 1; have := HGG.out; omega))
  have TV : TAt ((w1.setCell ⟨w.heap.size + 1, 0, none⟩ (.int .i64 0)).setCell ⟨w.heap.size + 1 + 1, 0, none⟩ (.int .i64 0)) g L := HTA.out.block hgb
  clear q1 hgb
  have hgg := HGG.out
  have HVS : Hid (((w1.setCell ⟨w.heap.size + 1, 0, none⟩ (.int .i64 0)).setCell ⟨w.heap.size + 1 + 1, 0, none⟩ (.int .i64 0)).heap.size = w1.heap.size) := hvs
  generalize ((w1.setCell ⟨w.heap.size + 1, 0, none⟩ (.int .i64 0)).setCell ⟨w.heap.size + 1 + 1, 0, none⟩ (.int .i64 0)) = V0 at hvs HVS RV BV TV ⊢
  have hvn := heap_alloc_new V0 (.cells #[.slice (some ⟨g, 0, none⟩) L.length cap, .int .i64 0, .int .i64 0, .int .i64 0] 67)
  have BA := (Below.refl V0.heap.size V0).alloc (Nat.le_refl _) (.cells #[.slice (some ⟨g, 0, none⟩) L.length cap, .int .i64 0, .int .i64 0, .int .i64 0] 67)
  have hva : (V0.alloc (.cells #[.slice (some ⟨g, 0, none⟩) L.length cap, .int .i64 0, .int .i64 0, .int .i64 0] 67)).heap.size = w1.heap.size + 1 := by simp [hvs]
  rw [hvs] at hvn BA
  have hps : PS (V0.alloc (.cells #[.slice (some ⟨g, 0, none⟩) L.length cap, .int .i64 0, .int .i64 0, .int .i64 0] 67)) w1.heap.size g cap L 0 0 0 0 := by
    refine ⟨?_, ?_, ?_, ?_, frozen_of_row _ _ 0 _ _ hvn, frozen_of_row _ _ 1 _ _ hvn, frozen_of_row _ _ 2 _ _ hvn, frozen_of_row _ _ 3 _ _ hvn, by omega, by omega, by omega, by have := HL.out; omega, hgg.2.2.1, hgg.2.2.2.1, TV.block (BA.block g (by omega))⟩
    · rw [cell_of_row _ _ 0 _ _ _ hvn]; simp
    · rw [cell_of_row _ _ 1 _ _ _ hvn]; rfl
    · rw [cell_of_row _ _ 2 _ _ _ hvn]; rfl
    · rw [cell_of_row _ _ 3 _ _ _ hvn]; rfl
  have hsg : SG (V0.alloc (.cells #[.slice (some ⟨g, 0, none⟩) L.length cap, .int .i64 0, .int .i64 0, .int .i64 0] 67)) w1.heap.size := by
    obtain ⟨A, ty, fr, h1, h2⟩ := HSG.out
    have h0 : 0 < w.heap.size := (Array.getElem?_eq_some_iff.1 h2).1
    exact ⟨by omega, A, ty, fr, h1, (BA.block 0 (by omega)).trans ((BV.block 0 h0).trans h2)⟩
  refine (text_any HL.out.1 HL.out.2.2 (HST.out _ _ _) R (L.length + 1) _ hps hsg HR.out HFD.out).mono ?_
  have RA : Res3 (V0.alloc (.cells #[.slice (some ⟨g, 0, none⟩) L.length cap, .int .i64 0, .int .i64 0, .int .i64 0] 67)) w.heap.size (.slice none 0 0) (.int .i64 0) (.int .i64 0) := RV.keep (fun k _ hk => BA.block k (by omega)) (by omega)
  have HRA : Hid (Res3 (V0.alloc (.cells #[.slice (some ⟨g, 0, none⟩) L.length cap, .int .i64 0, .int .i64 0, .int .i64 0] 67)) w.heap.size (.slice none 0 0) (.int .i64 0) (.int .i64 0)) := RA
  have HBA : Hid (Below w.heap.size w (V0.alloc (.cells #[.slice (some ⟨g, 0, none⟩) L.length cap, .int .i64 0, .int .i64 0, .int .i64 0] 67))) := BV.alloc (by omega) _
  clear hps hsg RA BA hvn TV BV RV x0 x1 x2 x2' y0 y1 y2 y2' HX HTA
  generalize V0.alloc (.cells #[.slice (some ⟨g, 0, none⟩) L.length cap, .int .i64 0, .int .i64 0, .int .i64 0] 67) = V at hva HRA HBA ⊢
  rcases R with ⟨k, er⟩ | ⟨l, q, m⟩
  · rintro e w3 ⟨rfl, hg3⟩
    have R3 : Res3 w3 w.heap.size (.slice none 0 0) (.int .i64 0) (.int .i64 0) := HRA.out.keep (fun j _ hj => hg3.block j (by omega) (by intro e; cases e; omega)) hg3.size
    have B3 : Below w.heap.size w w3 := ⟨hg3.os.trans HBA.out.os, hg3.tape.trans HBA.out.tape, hg3.output.trans HBA.out.output, Nat.le_trans HBA.out.size hg3.size, fun j hj => (hg3.block j (by omega) (by intro e; cases e; omega)).trans (HBA.out.block j hj)⟩
    unfold gaveUpT
    refine leaves_cons (f := 29) (args := #[.pointer (some ⟨w.heap.size, 0, none⟩), .pointer (some ⟨w.heap.size + 1, 0, none⟩), .pointer (some ⟨w.heap.size + 2, 0, none⟩)]) (by simp) (by simp [go_sem]) ?_
    refine (tcatch_panicking w.heap.size _ _ _ (k : Int) er [] _ R3.c0 R3.c1 R3.c2 R3.f0 R3.f1 R3.f2 R3.lt).mono ?_
    rintro e u' w6 ⟨rfl, rfl, x0, x1, x2, hbl⟩
    have HF : Hid (P (.returned (.tuple #[.slice none 0 0, .int .i64 (k : Int), .int .i64 er])) w6) := by show P _ _; rw [← HP.out]; exact ⟨rfl, B3.trans hbl⟩
    clear hbl
    simp [Leaves, settle, results, Tryd.results19, go_sem, x0, x1, x2]
    exact HF.out
  · rintro e w3 ⟨v1, v2, v3, rfl, hss, hg3, hm⟩
    have R3 : Res3 w3 w.heap.size (.slice none 0 0) (.int .i64 0) (.int .i64 0) := HRA.out.keep (fun j _ hj => hg3.block j (by omega) (by intro e; cases e; omega)) hg3.size
    have HB3 : Hid (Below w.heap.size w w3) := ⟨hg3.os.trans HBA.out.os, hg3.tape.trans HBA.out.tape, hg3.output.trans HBA.out.output, Nat.le_trans HBA.out.size hg3.size, fun j hj => (hg3.block j (by omega) (by intro e; cases e; omega)).trans (HBA.out.block j hj)⟩
    have HSS : Hid (SSlP w3 (fun j => w.heap.size + 3 ≤ j) (.slice v1 v2 v3) (srow l)) := hss.mono fun j hj => by have : V.heap.size ≤ j := hj; omega
    have hlt5 := R3.lt
    obtain ⟨c0, c1, c2, f0, f1, f2, _⟩ := R3
    have c2' : w3.cell? ⟨w.heap.size + 1 + 1, 0, none⟩ = some (.int .i64 0) := c2
    have f2' : w3.frozen? ⟨w.heap.size + 1 + 1, 0, none⟩ = false := f2
    clear hg3 hss hm
    go_wp2
    refine leaves_cons (f := 29) (args := #[.pointer (some ⟨w.heap.size, 0, none⟩), .pointer (some ⟨w.heap.size + 1, 0, none⟩), .pointer (some ⟨w.heap.size + 2, 0, none⟩)]) (by simp) (by simp [go_sem]) ?_
    refine (tcatch_idle _ _ _ _).mono ?_
    rintro e u' w7 ⟨rfl, rfl, rfl⟩
    have q1 : ∀ (u : World) (x y : Nat) (v : Value), x ≠ y → (u.setCell ⟨x, 0, none⟩ v).cell? ⟨y, 0, none⟩ = u.cell? ⟨y, 0, none⟩ := fun u x y v hne => World.cell?_setCell_other u _ _ _ (by intro e; cases e; exact hne rfl)
    have hs6 : (((w3.setCell ⟨w.heap.size, 0, none⟩ (.slice v1 v2 v3)).setCell ⟨w.heap.size + 1, 0, none⟩ (.int .i64 0)).setCell ⟨w.heap.size + 1 + 1, 0, none⟩ (.int .i64 0)).heap.size = w3.heap.size := by simp [World.setCell]
    have x0 : ((((w3.setCell ⟨w.heap.size, 0, none⟩ (.slice v1 v2 v3)).setCell ⟨w.heap.size + 1, 0, none⟩ (.int .i64 0)).setCell ⟨w.heap.size + 1 + 1, 0, none⟩ (.int .i64 0)).alloc (.cells #[.int .i64 0, .int .i64 0] 60)).cell? ⟨w.heap.size, 0, none⟩ = some (.slice v1 v2 v3) := by
      rw [World.cell?_of_block (a := ⟨w.heap.size, 0, none⟩) (Below.heap_alloc _ _ _ (by show w.heap.size < _; omega)), q1 _ _ _ _ (by omega), q1 _ _ _ _ (by omega)]
      exact World.cell?_setCell_same _ _ _ c0
    have x1 : ((((w3.setCell ⟨w.heap.size, 0, none⟩ (.slice v1 v2 v3)).setCell ⟨w.heap.size + 1, 0, none⟩ (.int .i64 0)).setCell ⟨w.heap.size + 1 + 1, 0, none⟩ (.int .i64 0)).alloc (.cells #[.int .i64 0, .int .i64 0] 60)).cell? ⟨w.heap.size + 1, 0, none⟩ = some (.int .i64 0) := by
      rw [World.cell?_of_block (a := ⟨w.heap.size + 1, 0, none⟩) (Below.heap_alloc _ _ _ (by show w.heap.size + 1 < _; omega)), q1 _ _ _ _ (by omega)]
      exact World.cell?_setCell_same _ _ _ ((q1 _ _ _ _ (by omega)).trans c1)
    have x2 : ((((w3.setCell ⟨w.heap.size, 0, none⟩ (.slice v1 v2 v3)).setCell ⟨w.heap.size + 1, 0, none⟩ (.int .i64 0)).setCell ⟨w.heap.size + 1 + 1, 0, none⟩ (.int .i64 0)).alloc (.cells #[.int .i64 0, .int .i64 0] 60)).cell? ⟨w.heap.size + 1 + 1, 0, none⟩ = some (.int .i64 0) := by
      rw [World.cell?_of_block (a := ⟨w.heap.size + 1 + 1, 0, none⟩) (Below.heap_alloc _ _ _ (by show w.heap.size + 1 + 1 < _; omega))]
      exact World.cell?_setCell_same _ _ _ ((q1 _ _ _ _ (by omega)).trans ((q1 _ _ _ _ (by omega)).trans c2'))
    have HF : Hid (P (.returned (.tuple #[.slice v1 v2 v3, .int .i64 0, .int .i64 0])) ((((w3.setCell ⟨w.heap.size, 0, none⟩ (.slice v1 v2 v3)).setCell ⟨w.heap.size + 1, 0, none⟩ (.int .i64 0)).setCell ⟨w.heap.size + 1 + 1, 0, none⟩ (.int .i64 0)).alloc (.cells #[.int .i64 0, .int .i64 0] 60))) := by
      show P _ _
      rw [← HP.out]
      refine ⟨v1, v2, v3, rfl, ?_, ?_⟩
      · refine (HSS.out.keep fun k hk hk2 => ?_).mono fun j hj => by omega
        rw [Below.heap_alloc _ _ _ (by omega), Below.heap_setCell _ _ _ _ (by show k ≠ w.heap.size + 1 + 1; omega), Below.heap_setCell _ _ _ _ (by show k ≠ w.heap.size + 1; omega), Below.heap_setCell _ _ _ _ (by show k ≠ w.heap.size; omega)]
      · exact (((HB3.out.setCell (p := ⟨w.heap.size, 0, none⟩) (Nat.le_refl _) _).setCell (p := ⟨w.heap.size + 1, 0, none⟩) (by show w.heap.size ≤ w.heap.size + 1; omega) _).setCell (p := ⟨w.heap.size + 1 + 1, 0, none⟩) (by show w.heap.size ≤ w.heap.size + 1 + 1; omega) _).alloc (by omega) _
    clear q1 hs6
    generalize ((((w3.setCell ⟨w.heap.size, 0, none⟩ (.slice v1 v2 v3)).setCell ⟨w.heap.size + 1, 0, none⟩ (.int .i64 0)).setCell ⟨w.heap.size + 1 + 1, 0, none⟩ (.int .i64 0)).alloc (.cells #[.int .i64 0, .int .i64 0] 60)) = w7 at x0 x1 x2 HF
    simp [Leaves, settle, results, Tryd.results19, go_sem, x0, x1, x2]
    exact HF.out
end Go.Proofs.YtnofibjchhcmeabDoor
