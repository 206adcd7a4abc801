/- AttemptPlays: the law's walk. -/
import Derived.Test.YtongeppdaeekeaaAtR
namespace Go.Proofs.Ytongeppdaeekeaa
open Go.RowKit Go.Maps
set_option linter.unusedVariables false

/-- eight cells hold the document's log -/
def box8 (d : Dg) (dv rv wv ov iv : Value) : Array Value := #[.int .i64 d.R, .int .i64 d.W, .int .i64 d.O, dv, rv, wv, ov, iv]
/-- both logs: the program's has labels 1 to 7, the box has 8 -/
structure PI (w W : World) (la : Nat) (s : Lg) (dv rv wv ov iv : Value) (d : Dg) (gr : Nat) (ahv : Value) (A : List Int) (lab : Nat → Nat) : Prop where
  lv : LV W lab 0 la s
  z : ∀ k, k < w.heap.size → lab k = 0
  bel : Below w.heap.size w W
  g8 : lab gr = 8 ∧ gr < W.heap.size ∧ w.heap.size ≤ gr
  box : W.heap[gr]? = some (.cells (box8 d dv rv wv ov iv) 35)
  dw : DW (Free lab) W (.agg (box8 d dv rv wv ov iv)) d
  ah : RS kN W ahv A
  ap : PB (Free lab) ahv
  lk : Lk s d
section
variable {w W W' : World} {la : Nat} {s : Lg} {dv rv wv ov iv : Value} {d : Dg} {gr : Nat} {ahv : Value} {A : List Int} {lab lab' : Nat → Nat}
theorem PI.below (h : PI w W la s dv rv wv ov iv d gr ahv A lab) (b : Below W.heap.size W W') : PI w W' la s dv rv wv ov iv d gr ahv A lab :=
  ⟨h.lv.below b, h.z, h.bel.trans (b.mono h.bel.size), ⟨h.g8.1, Nat.lt_of_lt_of_le h.g8.2.1 b.size, h.g8.2.2⟩, (b.block gr h.g8.2.1).trans h.box, h.dw.keep fun k hk hp => ⟨b.block k hk, hp⟩, h.ah.below b, h.ap, h.lk⟩
theorem PI.cell (h : PI w W la s dv rv wv ov iv d gr ahv A lab) : W.cell? ⟨gr, 0, none⟩ = some (.int .i64 d.R) ∧ W.cell? ⟨gr, 1, none⟩ = some (.int .i64 d.W) ∧ W.cell? ⟨gr, 2, none⟩ = some (.int .i64 d.O) ∧ W.cell? ⟨gr, 3, none⟩ = some dv ∧ W.cell? ⟨gr, 4, none⟩ = some rv ∧ W.cell? ⟨gr, 5, none⟩ = some wv ∧ W.cell? ⟨gr, 6, none⟩ = some ov ∧ W.cell? ⟨gr, 7, none⟩ = some iv := box_cell h.box
theorem PI.ok (h : PI w W la s dv rv wv ov iv d gr ahv A lab) : s.Ok := h.lv.ok
/-- what a call of both leaves, till the box is written anew -/
structure PJ (w W : World) (la : Nat) (s : Lg) (v : Value) (d : Dg) (gr : Nat) (ahv : Value) (A : List Int) (lab : Nat → Nat) : Prop where
  lv : LV W lab 0 la s
  z : ∀ k, k < w.heap.size → lab k = 0
  bel : Below w.heap.size w W
  g8 : lab gr = 8 ∧ gr < W.heap.size ∧ w.heap.size ≤ gr
  box : ∃ b0 b1 b2 b3 b4 b5 b6 b7, W.heap[gr]? = some (.cells #[b0, b1, b2, b3, b4, b5, b6, b7] 35)
  dw : DW (Free lab) W v d
  ah : RS kN W ahv A
  ap : PB (Free lab) ahv
  lk : Lk s d
theorem PI.one (h : PI w W la s dv rv wv ov iv d gr ahv A lab) (x : O4) (hx : R64 x.vl) (l4 : d.Is.length ≤ 1000) :
    Calls Try.prog 11 #[.pointer (some ⟨la, 0, none⟩), .agg (box8 d dv rv wv ov iv), opA x] W fun e W' => ∃ v, e = .returned (.tuple #[v, .bool true]) ∧ ∃ lab', PJ w W' la (oneS s d x) v (oneD s d x) gr ahv A lab' ∧ ∀ k, k < w.heap.size → W'.heap[k]? = W.heap[k]? := by
  have hl := h.lv.lens64
  have hk := h.lk.one h.ok.lw x hx
  have hc := one_any h.lv h.dw x (by rw [h.lk.r]; omega) (by rw [h.lk.w]; omega) (by rw [h.lk.o]; omega) l4
  rw [hk.1] at hc
  refine hc.mono ?_
  rintro e W' ⟨v, rfl, lab', l, q, dw⟩
  obtain ⟨x1, x2, x3⟩ := h.g8
  have hs := h.bel.size
  have e8 := q.2.block gr x2 (by rw [x1]; omega)
  obtain ⟨r1, r2⟩ := h.ah.part h.ap (p' := Free lab') (fun k k1 k2 => ⟨q.2.block k k1 (by have : lab k = 0 := k2; rw [this]; omega), (q.1 k k1).trans k2⟩)
  refine ⟨v, rfl, lab', ⟨l, fun k k1 => (q.1 k (by omega)).trans (h.z k k1), h.bel.trans (q.2.below hs fun k k1 => ?_), ⟨(q.1 gr x2).trans x1, Nat.lt_of_lt_of_le x2 q.2.size, x3⟩, ⟨_, _, _, _, _, _, _, _, e8.trans h.box⟩, dw, r1, r2, hk.2⟩, fun k k1 => q.2.block k (by omega) (by have := h.z k k1; omega)⟩
  rcases Nat.lt_or_ge k w.heap.size with r | r
  · have := h.z k r; omega
  · exact r
/-- the value that was answered -/
theorem PJ.form {v : Value} (h : PJ w W la s v d gr ahv A lab) : ∃ dv rv wv ov iv, v = .agg (box8 d dv rv wv ov iv) := by
  obtain ⟨dv, rv, wv, ov, iv, e, _⟩ := h.dw.out
  exact ⟨dv, rv, wv, ov, iv, e⟩
/-- the box is written anew -/
theorem PJ.put (h : PJ w W la s (.agg (box8 d dv rv wv ov iv)) d gr ahv A lab) : PI w (put8W W gr (.int .i64 d.R) (.int .i64 d.W) (.int .i64 d.O) dv rv wv ov iv) la s dv rv wv ov iv d gr ahv A lab := by
  obtain ⟨x1, x2, x3⟩ := h.g8
  obtain ⟨b0, b1, b2, b3, b4, b5, b6, b7, hb⟩ := h.box
  have hsz : (put8W W gr (.int .i64 d.R) (.int .i64 d.W) (.int .i64 d.O) dv rv wv ov iv).heap.size = W.heap.size := by simp [put8W, World.setCell]
  have hel := fun k (hk : k ≠ gr) => put8_else W gr k (.int .i64 d.R) (.int .i64 d.W) (.int .i64 d.O) dv rv wv ov iv hk
  have ne : ∀ k, lab k = 0 → k ≠ gr := fun k hk e => by rw [e] at hk; omega
  obtain ⟨⟨hb', bo, bn, rv', wv', ov', many, x⟩, z, bel, g8, _, dw, ah, ap, lk⟩ := h
  obtain ⟨r1, r2⟩ := ah.part ap (p' := Free lab) (w' := put8W W gr (.int .i64 d.R) (.int .i64 d.W) (.int .i64 d.O) dv rv wv ov iv) (fun k k1 k2 => ⟨hel k (ne k k2), k2⟩)
  refine ⟨(x.keep (fun k _ h1 h2 => ⟨hel k (fun e => by rw [e] at h2; omega), rfl⟩) (fun k h0 => by rw [hsz]; exact x.lt k h0)).lv, z, below8 bel x3 _ _ _ _ _ _ _ _, ⟨x1, by rw [hsz]; exact x2, x3⟩, put8V hb, dw.keep fun k k1 k2 => ⟨hel k (ne k k2), k2⟩, r1, r2, lk⟩
end
/-- a new log, and the document's in a new box -/
theorem PI.first {w w2 V : World} {r u o : Int} {Rd : List (Int × Int)} {dv : Value} {la : Nat} {lab : Nat → Nat} (hV : Below w.heap.size w V) (hr : RS kD w dv Rd) (l : LV w2 lab 0 la (newL r u o Rd)) (z : ∀ k, k < w.heap.size → lab k = 0) (hb : Below w.heap.size w w2) (h1 : 0 ≤ r) (h2 : 0 ≤ u) (h3 : 0 ≤ o) :
    ∃ lab', PI w (w2.alloc (.cells (box8 (newD r u o Rd) dv (.slice none 0 0) (.slice none 0 0) (.slice none 0 0) (.slice none 0 0)) 35)) la (newL r u o Rd) dv (.slice none 0 0) (.slice none 0 0) (.slice none 0 0) (.slice none 0 0) (newD r u o Rd) w2.heap.size (.slice none 0 0) [] lab' := by
  have hs := hb.size
  have hlt := l.lt
  have hb2 := bl1 w2 (.cells (box8 (newD r u o Rd) dv (.slice none 0 0) (.slice none 0 0) (.slice none 0 0) (.slice none 0 0)) 35)
  have hbb : Below w.heap.size w (w2.alloc (.cells (box8 (newD r u o Rd) dv (.slice none 0 0) (.slice none 0 0) (.slice none 0 0) (.slice none 0 0)) 35)) := hb.trans (hb2.mono hs)
  have z' : ∀ k, k < w.heap.size → (fun k => if k = w2.heap.size then 8 else lab k) k = 0 := fun k hk => by
    show (if k = w2.heap.size then 8 else lab k) = 0
    rw [if_neg (by omega)]; exact z k hk
  obtain ⟨hb', bo, bn, rv', wv', ov', many, x⟩ := l
  refine ⟨fun k => if k = w2.heap.size then 8 else lab k, (x.keep (fun k k1 h1 h2 => ⟨hb2.block k k1, ?_⟩) (fun k h0 => ?_)).lv, z', hbb, ⟨?_, by simp, hs⟩, heap_alloc_new _ _, newD_dw hr hbb z', RS.nil _ _, fun g o n c e => by (cases e), Lk.new r u o Rd h1 h2 h3⟩
  · show (if k = w2.heap.size then 8 else lab k) = lab k
    rw [if_neg (by omega)]
  · have h0' : (if k = w2.heap.size then 8 else lab k) ≠ 0 := h0
    rcases Nat.lt_trichotomy k w2.heap.size with q | q | q
    · simp; omega
    · rw [q]; simp
    · rw [if_neg (by omega)] at h0'
      have := hlt k h0'; omega
  · show (if w2.heap.size = w2.heap.size then 8 else lab w2.heap.size) = 8
    rw [if_pos rfl]
/-- numbers that lie in new blocks -/
theorem PI.ahead {w V W : World} {la : Nat} {s : Lg} {dv rv wv ov iv : Value} {d : Dg} {gr : Nat} {ahv ahv' : Value} {A A' : List Int} {lab : Nat → Nat} (h : PI w V la s dv rv wv ov iv d gr ahv A lab) (b : Below V.heap.size V W) (hz : RZ kN W ahv' A') (ho : ∀ g, ahv'.ownBlock = some g → V.heap.size ≤ g) : PI w W la s dv rv wv ov iv d gr ahv' A' lab := by
  have q := h.below b
  refine ⟨q.lv, q.z, q.bel, q.g8, q.box, q.dw, hz.rs, fun g o n c e _ => ?_, q.lk⟩
  have hg : V.heap.size ≤ g := ho g (by rw [e]; rfl)
  show lab g = 0
  rcases Nat.eq_zero_or_pos (lab g) with r | r
  · exact r
  · have := h.lv.lt g (by omega); omega
end Go.Proofs.Ytongeppdaeekeaa
namespace Go.Proofs.Ytongeppdaeekeaa
open Go.RowKit Go.Maps
set_option linter.unusedVariables false

set_option maxRecDepth 100000 in
set_option maxHeartbeats 16000000 in
theorem plays_walk (r u o : Int) (v0 v1 v2 : Value) (Rd : List (Int × Int)) (L : List O4) (M : List Int) (w : World) (h0 : RS kD w v0 Rd) (h1 : RS kX w v1 L) (h2 : RS kN w v2 M) (r0 : ∀ y ∈ Rd, R64 y.1 ∧ R64 y.2) (r1 : ∀ y ∈ L, R64 y.kd ∧ R64 y.at_ ∧ R64 y.fr ∧ R64 y.vl) (r2 : ∀ y ∈ M, R64 y) : Calls Try.prog 3 #[.agg #[.int .i64 r, .int .i64 u, .int .i64 o, v0], v1, v2] w (AN w (.bool true)) := by
  have HQ : Hid (∀ W, Below w.heap.size w W → AN w (.bool true) (.returned (.bool true)) W) := fun W hW => ⟨rfl, hW⟩
  have HAL : Hid (∀ W, Calls Try.prog 13 #[] W (AN W (.bool true))) := alive_any
  have H0 : Hid (RS kD w v0 Rd) := h0
  have H1 : Hid (RS kX w v1 L) := h1
  have H2 : Hid (RS kN w v2 M) := h2
  have R0 : Hid (∀ y ∈ Rd, R64 y.1 ∧ R64 y.2) := r0
  have R1 : Hid (∀ y ∈ L, R64 y.kd ∧ R64 y.at_ ∧ R64 y.fr ∧ R64 y.vl) := r1
  have R2 : Hid (∀ y ∈ M, R64 y) := r2
  have HNW : Hid (∀ W, Below w.heap.size w W → Calls Try.prog 9 #[.int .i64 r, .int .i64 u, .int .i64 o, v0] W (LNewQ r u o Rd W)) := fun W hW => lnew_any r u o Rd v0 W (H0.out.below hW).psl
  have HRN : Hid (∀ W, Below w.heap.size w W → Calls Try.prog 10 #[.int .i64 r, .int .i64 u, .int .i64 o, v0] W (RNewQ r u o v0 Rd W)) := fun W hW => rlnew_any (H0.out.below hW) r u o
  obtain ⟨a0, c0, e0⟩ := h0.form
  obtain ⟨a1, c1, e1⟩ := h1.form
  obtain ⟨a2, c2, e2⟩ := h2.form
  obtain ⟨n0, hn0⟩ : ∃ n, Rd.length = n := ⟨_, rfl⟩
  obtain ⟨n1, hn1⟩ : ∃ n, L.length = n := ⟨_, rfl⟩
  obtain ⟨n2, hn2⟩ : ∃ n, M.length = n := ⟨_, rfl⟩
  have HN0 : Hid (Rd.length = n0) := hn0
  have HN1 : Hid (L.length = n1) := hn1
  have HN2 : Hid (M.length = n2) := hn2
  rw [hn0] at e0
  rw [hn1] at e1
  rw [hn2] at e2
  subst e0 e1 e2
  clear h0 h1 h2 hn0 hn1 hn2 r0 r1 r2
  generalize AN w (.bool true) = P at *
  by_cases g1 : 120 < n1
  · have d1 : decide (120 < n1) = true := by simp [g1]
    have HF : Hid (∀ A, P (.returned (.bool true)) (w.alloc A)) := fun A => HQ.out _ (bl1 w A)
    go_enter Try.func3, Try.ntmps3
    go_wp2
    first | exact HF.out _ | (go_ret; exact HF.out _)
  have d1 : decide (120 < n1) = false := by simp; omega
  by_cases g2 : 100 < n2
  · have d2 : decide (100 < n2) = true := by simp [g2]
    have HF : Hid (∀ A, P (.returned (.bool true)) (w.alloc A)) := fun A => HQ.out _ (bl1 w A)
    go_enter Try.func3, Try.ntmps3
    go_wp2
    first | exact HF.out _ | (go_ret; exact HF.out _)
  have d2 : decide (100 < n2) = false := by simp; omega
  by_cases g3 : 50 < n0
  · have d3 : decide (50 < n0) = true := by simp [g3]
    have HF : Hid (∀ A, P (.returned (.bool true)) (w.alloc A)) := fun A => HQ.out _ (bl1 w A)
    go_enter Try.func3, Try.ntmps3
    go_wp2
    first | exact HF.out _ | (go_ret; exact HF.out _)
  have d3 : decide (50 < n0) = false := by simp; omega
  have HBX : Hid (Below w.heap.size w (w.alloc (.cells #[.int .i64 r, .int .i64 u, .int .i64 o, .slice a0 n0 c0] 24)) ∧ ∀ W, Below (w.heap.size + 1) (w.alloc (.cells #[.int .i64 r, .int .i64 u, .int .i64 o, .slice a0 n0 c0] 24)) W → W.cell? ⟨w.heap.size, 0, none⟩ = some (.int .i64 r) ∧ W.cell? ⟨w.heap.size, 1, none⟩ = some (.int .i64 u) ∧ W.cell? ⟨w.heap.size, 2, none⟩ = some (.int .i64 o) ∧ W.cell? ⟨w.heap.size, 3, none⟩ = some (.slice a0 n0 c0)) := ⟨bl1 w _, fun W hW => by
    have e := (hW.block w.heap.size (by omega)).trans (heap_alloc_new _ _)
    refine ⟨?_, ?_, ?_, ?_⟩ <;> (rw [cell_of_row W w.heap.size _ _ _ _ e]; rfl)⟩
  go_enter Try.func3, Try.ntmps3
  go_upto_region 3 with fail
  have hsz : w.heap.size + 1 ≤ (w.alloc (.cells #[.int .i64 r, .int .i64 u, .int .i64 o, .slice a0 n0 c0] 24)).heap.size := by simp
  generalize w.alloc (.cells #[.int .i64 r, .int .i64 u, .int .i64 o, .slice a0 n0 c0] 24) = V at *
  obtain ⟨gs, hgs⟩ : ∃ g, w.heap.size = g := ⟨_, rfl⟩
  have HGS : Hid (w.heap.size = gs) := hgs
  have HB0 : Hid (Below w.heap.size w V) := HBX.out.1
  have HB1 : Hid (∀ W, Below (gs + 1) V W → W.cell? ⟨gs, 0, none⟩ = some (.int .i64 r) ∧ W.cell? ⟨gs, 1, none⟩ = some (.int .i64 u) ∧ W.cell? ⟨gs, 2, none⟩ = some (.int .i64 o) ∧ W.cell? ⟨gs, 3, none⟩ = some (.slice a0 n0 c0)) := by
    have := HBX.out.2
    rw [hgs] at this
    exact this
  have HSZ : Hid (gs + 1 ≤ V.heap.size) := by rw [← hgs]; exact hsz
  rw [hgs]
  clear hgs hsz HBX
  obtain ⟨b0, b1, b2, b3⟩ := HB1.out V (Below.refl _ _)
  go_wp2_with fail
  refine (HNW.out V HB0.out).mono ?_
  rintro e w1 hq1
  have HQ1 : Hid (LNewQ r u o Rd V e w1) := hq1
  have HW1 : Hid (Below V.heap.size V w1) := hq1.1
  have HBw1 : Hid (Below w.heap.size w w1) := HB0.out.trans (hq1.1.mono HB0.out.size)
  have HBs1 : Hid (Below (gs + 1) V w1) := hq1.1.mono HSZ.out
  clear hq1 b0 b1 b2 b3 HNW
  obtain ⟨b0, b1, b2, b3⟩ := HB1.out w1 HBs1.out
  by_cases hE : errL r u o Rd = 0
  rotate_left
  · obtain ⟨E, hEE⟩ : ∃ E, errL r u o Rd = E := ⟨_, rfl⟩
    have he : e = .returned (.tuple #[.pointer none, .int .i64 E]) := by
      rcases HQ1.out.2 with ⟨_, h⟩ | ⟨h, _⟩
      · rw [← hEE]; exact h
      · exact absurd h hE
    subst he
    have tE : (E != 0) = true := by rw [hEE] at hE; simp [hE]
    have tE0 : (E == 0) = false := by rw [hEE] at hE; simp [hE]
    have tEE : (E != E) = false := by simp
    have HEE : Hid (errL r u o Rd = E) := hEE
    have HE0 : Hid (¬ errL r u o Rd = 0) := hE
    clear hE hEE HQ1
    go_wp2_with fail
    refine (HRN.out w1 HBw1.out).mono ?_
    rintro e w3 hq3
    have he : e = .returned (.tuple #[.agg #[.int .i64 0, .int .i64 0, .int .i64 0, .slice none 0 0, .slice none 0 0, .slice none 0 0, .slice none 0 0, .slice none 0 0], .int .i64 E]) := by
      rcases hq3.2 with ⟨_, h⟩ | ⟨h, _⟩
      · rw [← HEE.out]; exact h
      · exact absurd h HE0.out
    subst he
    have HBw3 : Hid (Below w.heap.size w w3) := HBw1.out.trans (hq3.1.mono HBw1.out.size)
    have HBs3 : Hid (Below (gs + 1) V w3) := HBs1.out.trans (hq3.1.mono (Nat.le_trans HSZ.out HW1.out.size))
    have HBV : Hid (Below w.heap.size w (w3.alloc (.cells #[.int .i64 0, .int .i64 0, .int .i64 0, .slice none 0 0, .slice none 0 0, .slice none 0 0, .slice none 0 0, .slice none 0 0] 35))) := HBw3.out.trans ((bl1 w3 _).mono HBw3.out.size)
    have HSV : Hid (Below (gs + 1) V (w3.alloc (.cells #[.int .i64 0, .int .i64 0, .int .i64 0, .slice none 0 0, .slice none 0 0, .slice none 0 0, .slice none 0 0, .slice none 0 0] 35))) := HBs3.out.trans ((bl1 w3 _).mono (Nat.le_trans HSZ.out HBs3.out.size))
    clear hq3 b0 b1 b2 b3
    go_upto_region 8 with fail
    generalize w3.alloc (.cells #[.int .i64 0, .int .i64 0, .int .i64 0, .slice none 0 0, .slice none 0 0, .slice none 0 0, .slice none 0 0, .slice none 0 0] 35) = V3 at *
    generalize w3.heap.size = gr at *
    have HS3 : Hid (gs + 1 ≤ V3.heap.size) := Nat.le_trans HSZ.out HSV.out.size
    clear HBw3 HBs3 HBw1 HBs1 HW1
    go_wp2_with fail
    go_loopw [11, 12] (fun ov i wr => ∃ q : Nat, i = .int .i64 (q : Int) ∧ q ≤ n0 ∧ (∃ a c, ov = .slice a q c) ∧ Hid (Below V3.heap.size V3 wr) ∧ Hid (RZ kN wr ov ((Rd.map Prod.snd).take q)) ∧ Hid (∀ g, ov.ownBlock = some g → V3.heap.size ≤ g)) (fun ov i _ => n0 - (intOf i).toNat)
    case atStart => exact ⟨0, rfl, Nat.zero_le _, ⟨_, _, rfl⟩, Below.refl _ _, RZ.nil _ _, fun g hg => by simp [Value.ownBlock] at hg⟩
    case round =>
      obtain ⟨q0, rfl, hq, ⟨ao, co, rfl⟩, HB, HO, HW⟩ := hrel
      have HS4 : Hid (Below (gs + 1) V wr) := HSV.out.trans (HB.out.mono HS3.out)
      obtain ⟨b0, b1, b2, b3⟩ := HB1.out wr HS4.out
      by_cases hlt : q0 < n0
      · have d4 : decide (q0 < n0) = true := by simp [hlt]
        have hq' : q0 < Rd.length := by rw [HN0.out]; exact hlt
        obtain ⟨b, bo, n', c', hg, hcl⟩ := (H0.out.below (HBV.out.trans (HB.out.mono HBV.out.size))).cell hq'
        simp only [Value.slice.injEq] at hg
        obtain ⟨rfl, rfl, rfl⟩ := hg
        obtain ⟨⟨z0, z1⟩, hz⟩ : ∃ x, Rd[q0]'hq' = x := ⟨_, rfl⟩
        rw [hz] at hcl
        obtain ⟨y0, y1⟩ := duo_cells rfl rfl hcl
        have i1 : (0 : Int) ≤ (q0 : Int) := by omega
        have i2 : (q0 : Int) < (n0 : Int) := by omega
        have HNX : Hid ((Rd.map Prod.snd).take (q0 + 1) = (Rd.map Prod.snd).take q0 ++ [z1]) := by
          show _ = _
          rw [List.take_succ_eq_append_getElem (by rw [List.length_map]; exact hq'), List.getElem_map, hz]
        have hlm : ((Rd.map Prod.snd).take q0).length = q0 := by rw [List.length_take, List.length_map]; omega
        have HLM : Hid (((Rd.map Prod.snd).take q0).length = q0) := hlm
        have HE : Hid (∀ A, RZ kN (wr.alloc A) (.slice ao q0 co) ((Rd.map Prod.snd).take q0)) := fun A => HO.out.below (bl1 wr A)
        have HP2 : Hid (RS kN (wr.alloc (.cells #[.int .i64 z1] 2)) (.slice (some ⟨wr.heap.size, 0, none⟩) 1 1) [z1]) := RS.one1 rfl rfl _ _ (by simp)
        have HL : Hid (((Rd.map Prod.snd).take q0).length + [z1].length ≤ 100000) := by
          show _ ≤ _
          rw [hlm]; show q0 + 1 ≤ _; omega
        clear hcl hz hq' HO hlm HS4
        go_wp2_with (at_builtin; refine push_row kN _ rfl _ _ rfl _ _ ((Rd.map Prod.snd).take q0) [z1] rfl rfl (HE.out _) HP2.out HL.out ?_)
        intro v5 w5 hz5 g5 ho5
        obtain ⟨B5, n5⟩ := push_more (V := V3) (HB.out.alloc HB.out.size _) HW.out g5 ho5 (by have := HB.out.size; first | omega | (simp; omega))
        obtain ⟨a8, k8, rfl⟩ := hz5.sl
        have hl8 : ((Rd.map Prod.snd).take q0 ++ [z1]).length = q0 + 1 := by rw [List.length_append, HLM.out]; rfl
        rw [hl8] at hz5 n5 ⊢
        have HZ5 : Hid (RZ kN w5 (.slice a8 (q0 + 1) k8) ((Rd.map Prod.snd).take (q0 + 1))) := by rw [HNX.out]; exact hz5
        have HN5 : Hid (∀ g, (Value.slice a8 (q0 + 1) k8).ownBlock = some g → V3.heap.size ≤ g) := n5
        have HB5 : Hid (Below V3.heap.size V3 w5) := B5
        clear hz5 g5 ho5 B5 n5 HE HP2 HL HB HNX hl8 HW HLM b0 b1 b2 b3 y0 y1
        go_wp2_with fail
        go_roundw
        case rel => exact ⟨q0 + 1, by go_num, by omega, ⟨_, _, rfl⟩, HB5, HZ5, HN5⟩
        case measure => simp [intOf]; omega
      · have d4 : decide (q0 < n0) = false := by simp; omega
        have hqn : q0 = n0 := by omega
        subst hqn
        have HTK : Hid ((Rd.map Prod.snd).take q0 = Rd.map Prod.snd) := List.take_of_length_le (by rw [List.length_map, HN0.out]; exact Nat.le_refl _)
        have HBE0 : Hid (Below w.heap.size w wr) := HBV.out.trans (HB.out.mono HBV.out.size)
        go_upto_region 12 with fail
        clear b0 b1 b2 b3 HB HO HW HS4
        generalize wr = wz at *
        go_wp2_with fail
        go_loopw [13, 14] (fun i ok wr => i = .int .i64 0 ∧ Hid (Below w.heap.size w wr)) (fun i ok _ => 0)
        case atStart => exact ⟨rfl, HBE0⟩
        case round =>
          obtain ⟨rfl, HBE⟩ := hrel
          by_cases h1n : 0 < n1
          · have d5 : decide (0 < n1) = true := by simp [h1n]
            go_wp2_with fail
            refine (HAL.out _).mono ?_
            rintro e w9 ⟨rfl, b9⟩
            have HF : Hid (P (.returned (.bool true)) w9) := HQ.out w9 (HBE.out.trans (b9.mono HBE.out.size))
            clear b9
            go_wp2
            first | exact HF.out | (go_ret; exact HF.out)
          · have d5 : decide (0 < n1) = false := by simp; omega
            go_wp2_with fail
            refine (HAL.out _).mono ?_
            rintro e w9 ⟨rfl, b9⟩
            have HF : Hid (P (.returned (.bool true)) w9) := HQ.out w9 (HBE.out.trans (b9.mono HBE.out.size))
            clear b9
            go_wp2
            first | exact HF.out | (go_ret; exact HF.out)
  have HE : Hid (errL r u o Rd = 0) := hE
  have hnn : 1 ≤ r ∧ 1 ≤ u ∧ 1 ≤ o := by
    have hr : (roomOk r && roomOk u && roomOk o) = true := by
      cases hb : (roomOk r && roomOk u && roomOk o) with
      | true => rfl
      | false => rw [errL_no hb] at hE; exact absurd hE (by decide)
    unfold roomOk at hr
    simp only [Bool.and_eq_true, decide_eq_true_eq] at hr
    omega
  have he : ∃ la lab, e = .returned (.tuple #[.pointer (some ⟨la, 0, none⟩), .int .i64 0]) ∧ (∀ k, k < V.heap.size → lab k = 0) ∧ LV w1 lab 0 la (newL r u o Rd) := by
    rcases HQ1.out.2 with ⟨h, _⟩ | ⟨_, la, h, _, hf⟩
    · exact absurd hE h
    · obtain ⟨lab, p1, p2⟩ := hf (fun _ => 0) 0 (fun k hk => absurd rfl hk)
      exact ⟨la, lab, h, fun k hk => p1 k hk, p2⟩
  obtain ⟨la, lab, rfl, hlz, hlv⟩ := he
  have HLZ : Hid ((∀ k, k < V.heap.size → lab k = 0) ∧ LV w1 lab 0 la (newL r u o Rd)) := ⟨hlz, hlv⟩
  have HNN : Hid (1 ≤ r ∧ 1 ≤ u ∧ 1 ≤ o) := hnn
  clear hE hlz hlv HQ1 hnn
  go_wp2_with fail
  refine (HRN.out w1 HBw1.out).mono ?_
  rintro e w3 hq3
  have he : e = .returned (.tuple #[.agg #[.int .i64 r, .int .i64 u, .int .i64 o, .slice a0 n0 c0, .slice none 0 0, .slice none 0 0, .slice none 0 0, .slice none 0 0], .int .i64 0]) := by
    rcases hq3.2 with ⟨h, _⟩ | ⟨_, h⟩
    · exact absurd HE.out h
    · exact h
  subst he
  have HBw3 : Hid (Below w.heap.size w w3) := HBw1.out.trans (hq3.1.mono HBw1.out.size)
  have HBs3 : Hid (Below (gs + 1) V w3) := HBs1.out.trans (hq3.1.mono (Nat.le_trans HSZ.out HW1.out.size))
  have HPI : Hid (∃ lab', PI w (w3.alloc (.cells #[.int .i64 r, .int .i64 u, .int .i64 o, .slice a0 n0 c0, .slice none 0 0, .slice none 0 0, .slice none 0 0, .slice none 0 0] 35)) la (newL r u o Rd) (.slice a0 n0 c0) (.slice none 0 0) (.slice none 0 0) (.slice none 0 0) (.slice none 0 0) (newD r u o Rd) w3.heap.size (.slice none 0 0) [] lab') :=
    PI.first HB0.out H0.out (HLZ.out.2.below hq3.1) (fun k hk => HLZ.out.1 k (Nat.lt_of_lt_of_le hk HB0.out.size)) HBw3.out (by have := HNN.out.1; omega) (by have := HNN.out.2.1; omega) (by have := HNN.out.2.2; omega)
  have HBV : Hid (Below w.heap.size w (w3.alloc (.cells #[.int .i64 r, .int .i64 u, .int .i64 o, .slice a0 n0 c0, .slice none 0 0, .slice none 0 0, .slice none 0 0, .slice none 0 0] 35))) := HBw3.out.trans ((bl1 w3 _).mono HBw3.out.size)
  have HSV : Hid (Below (gs + 1) V (w3.alloc (.cells #[.int .i64 r, .int .i64 u, .int .i64 o, .slice a0 n0 c0, .slice none 0 0, .slice none 0 0, .slice none 0 0, .slice none 0 0] 35))) := HBs3.out.trans ((bl1 w3 _).mono (Nat.le_trans HSZ.out HBs3.out.size))
  clear hq3 b0 b1 b2 b3 HLZ HNN HRN
  go_upto_region 8 with fail
  generalize w3.alloc (.cells #[.int .i64 r, .int .i64 u, .int .i64 o, .slice a0 n0 c0, .slice none 0 0, .slice none 0 0, .slice none 0 0, .slice none 0 0] 35) = V3 at *
  generalize w3.heap.size = gr at *
  have HS3 : Hid (gs + 1 ≤ V3.heap.size) := Nat.le_trans HSZ.out HSV.out.size
  clear HBw3 HBs3 HBw1 HBs1 HW1
  go_wp2_with fail
  go_loopw [11, 12] (fun ov i wr => ∃ q : Nat, i = .int .i64 (q : Int) ∧ q ≤ n0 ∧ (∃ a c, ov = .slice a q c) ∧ Hid (Below V3.heap.size V3 wr) ∧ Hid (RZ kN wr ov ((Rd.map Prod.snd).take q)) ∧ Hid (∀ g, ov.ownBlock = some g → V3.heap.size ≤ g)) (fun ov i _ => n0 - (intOf i).toNat)
  case atStart => exact ⟨0, rfl, Nat.zero_le _, ⟨_, _, rfl⟩, Below.refl _ _, RZ.nil _ _, fun g hg => by simp [Value.ownBlock] at hg⟩
  case round =>
    obtain ⟨q0, rfl, hq, ⟨ao, co, rfl⟩, HB, HO, HW⟩ := hrel
    have HS4 : Hid (Below (gs + 1) V wr) := HSV.out.trans (HB.out.mono HS3.out)
    obtain ⟨b0, b1, b2, b3⟩ := HB1.out wr HS4.out
    by_cases hlt : q0 < n0
    · have d4 : decide (q0 < n0) = true := by simp [hlt]
      have hq' : q0 < Rd.length := by rw [HN0.out]; exact hlt
      obtain ⟨b, bo, n', c', hg, hcl⟩ := (H0.out.below (HBV.out.trans (HB.out.mono HBV.out.size))).cell hq'
      simp only [Value.slice.injEq] at hg
      obtain ⟨rfl, rfl, rfl⟩ := hg
      obtain ⟨⟨z0, z1⟩, hz⟩ : ∃ x, Rd[q0]'hq' = x := ⟨_, rfl⟩
      rw [hz] at hcl
      obtain ⟨y0, y1⟩ := duo_cells rfl rfl hcl
      have i1 : (0 : Int) ≤ (q0 : Int) := by omega
      have i2 : (q0 : Int) < (n0 : Int) := by omega
      have HNX : Hid ((Rd.map Prod.snd).take (q0 + 1) = (Rd.map Prod.snd).take q0 ++ [z1]) := by
        show _ = _
        rw [List.take_succ_eq_append_getElem (by rw [List.length_map]; exact hq'), List.getElem_map, hz]
      have hlm : ((Rd.map Prod.snd).take q0).length = q0 := by rw [List.length_take, List.length_map]; omega
      have HLM : Hid (((Rd.map Prod.snd).take q0).length = q0) := hlm
      have HE : Hid (∀ A, RZ kN (wr.alloc A) (.slice ao q0 co) ((Rd.map Prod.snd).take q0)) := fun A => HO.out.below (bl1 wr A)
      have HP2 : Hid (RS kN (wr.alloc (.cells #[.int .i64 z1] 2)) (.slice (some ⟨wr.heap.size, 0, none⟩) 1 1) [z1]) := RS.one1 rfl rfl _ _ (by simp)
      have HL : Hid (((Rd.map Prod.snd).take q0).length + [z1].length ≤ 100000) := by
        show _ ≤ _
        rw [hlm]; show q0 + 1 ≤ _; omega
      clear hcl hz hq' HO hlm HS4
      go_wp2_with (at_builtin; refine push_row kN _ rfl _ _ rfl _ _ ((Rd.map Prod.snd).take q0) [z1] rfl rfl (HE.out _) HP2.out HL.out ?_)
      intro v5 w5 hz5 g5 ho5
      obtain ⟨B5, n5⟩ := push_more (V := V3) (HB.out.alloc HB.out.size _) HW.out g5 ho5 (by have := HB.out.size; first | omega | (simp; omega))
      obtain ⟨a8, k8, rfl⟩ := hz5.sl
      have hl8 : ((Rd.map Prod.snd).take q0 ++ [z1]).length = q0 + 1 := by rw [List.length_append, HLM.out]; rfl
      rw [hl8] at hz5 n5 ⊢
      have HZ5 : Hid (RZ kN w5 (.slice a8 (q0 + 1) k8) ((Rd.map Prod.snd).take (q0 + 1))) := by rw [HNX.out]; exact hz5
      have HN5 : Hid (∀ g, (Value.slice a8 (q0 + 1) k8).ownBlock = some g → V3.heap.size ≤ g) := n5
      have HB5 : Hid (Below V3.heap.size V3 w5) := B5
      clear hz5 g5 ho5 B5 n5 HE HP2 HL HB HNX hl8 HW HLM b0 b1 b2 b3 y0 y1
      go_wp2_with fail
      go_roundw
      case rel => exact ⟨q0 + 1, by go_num, by omega, ⟨_, _, rfl⟩, HB5, HZ5, HN5⟩
      case measure => simp [intOf]; omega
    · have d4 : decide (q0 < n0) = false := by simp; omega
      have hqn : q0 = n0 := by omega
      subst hqn
      have HTK : Hid ((Rd.map Prod.snd).take q0 = Rd.map Prod.snd) := List.take_of_length_le (by rw [List.length_map, HN0.out]; exact Nat.le_refl _)
      obtain ⟨lab0, hpi0⟩ := HPI.out
      have HPI0 : Hid (PI w wr la (newL r u o Rd) (.slice a0 q0 c0) (.slice none 0 0) (.slice none 0 0) (.slice none 0 0) (.slice none 0 0) (newD r u o Rd) gr (.slice ao q0 co) (Rd.map Prod.snd) lab0) := by
        have hz := HO.out
        rw [HTK.out] at hz
        exact hpi0.ahead HB.out hz HW.out
      go_upto_region 12 with fail
      clear b0 b1 b2 b3 HB HO HW HS4 hpi0 HPI HBV HSV HS3 HTK
      generalize wr = wz at *
      go_wp2_with fail
      go_loopw [13, 14] (fun i ok wr => ∃ (q : Nat) (s : Lg) (dv rv wv ov iv : Value) (d : Dg) (lab : Nat → Nat), i = .int .i64 (q : Int) ∧ q ≤ n1 ∧ Hid (PI w wr la s dv rv wv ov iv d gr (.slice ao q0 co) (Rd.map Prod.snd) lab) ∧ Hid (d.Rd = Rd ∧ d.Is.length ≤ q)) (fun i ok _ => n1 - (intOf i).toNat)
      case atStart => exact ⟨0, _, _, _, _, _, _, _, _, rfl, Nat.zero_le _, HPI0, ⟨rfl, Nat.zero_le _⟩⟩
      case round =>
        clear HPI0
        obtain ⟨q, s, dv, rv, wv, ov, iv, d, lab, rfl, hq, HI, HD⟩ := hrel
        by_cases hlt : q < n1
        · have d5 : decide (q < n1) = true := by simp [hlt]
          have hq' : q < L.length := by rw [HN1.out]; exact hlt
          obtain ⟨ob, oo, n', c', hv, hcl⟩ := H1.out.cell hq'
          simp only [Value.slice.injEq] at hv
          obtain ⟨rfl, rfl, rfl⟩ := hv
          obtain ⟨⟨xk, xa, xf, xv⟩, hx⟩ : ∃ x, L[q]'hq' = x := ⟨_, rfl⟩
          have hxr := R1.out _ (List.getElem_mem hq')
          rw [hx] at hcl hxr
          have hc0 := quad_cells hcl
          have HOP : Hid (∀ W, Below w.heap.size w W → W.cell? ⟨ob, oo + q * 4, none⟩ = some (.int .i64 xk) ∧ W.cell? ⟨ob, oo + q * 4 + 1, none⟩ = some (.int .i64 xa) ∧ W.cell? ⟨ob, oo + q * 4 + 2, none⟩ = some (.int .i64 xf) ∧ W.cell? ⟨ob, oo + q * 4 + 3, none⟩ = some (.int .i64 xv)) := fun W hW => ⟨(hW.cell (p := ⟨ob, oo + q * 4, none⟩) (World.block_lt_of_cell? w _ hc0.1)).trans hc0.1, (hW.cell (p := ⟨ob, oo + q * 4 + 1, none⟩) (World.block_lt_of_cell? w _ hc0.2.1)).trans hc0.2.1, (hW.cell (p := ⟨ob, oo + q * 4 + 2, none⟩) (World.block_lt_of_cell? w _ hc0.2.2.1)).trans hc0.2.2.1, (hW.cell (p := ⟨ob, oo + q * 4 + 3, none⟩) (World.block_lt_of_cell? w _ hc0.2.2.2)).trans hc0.2.2.2⟩
          have i1 : (0 : Int) ≤ (q : Int) := by omega
          have i2 : (q : Int) < (n1 : Int) := by omega
          have HId : Hid (PI w wr.drew la s dv rv wv ov iv d gr (.slice ao q0 co) (Rd.map Prod.snd) lab) := HI.out.below (Below.refl _ _).drew
          have HC : Hid (Calls Try.prog 11 #[.pointer (some ⟨la, 0, none⟩), .agg #[.int .i64 d.R, .int .i64 d.W, .int .i64 d.O, dv, rv, wv, ov, iv], .agg #[.int .i64 xk, .int .i64 xa, .int .i64 xf, .int .i64 xv]] wr.drew fun e W' => ∃ v, e = .returned (.tuple #[v, .bool true]) ∧ ∃ lab', PJ w W' la (oneS s d ⟨xk, xa, xf, xv⟩) v (oneD s d ⟨xk, xa, xf, xv⟩) gr (.slice ao q0 co) (Rd.map Prod.snd) lab' ∧ ∀ k, k < w.heap.size → W'.heap[k]? = wr.drew.heap[k]?) := HId.out.one ⟨xk, xa, xf, xv⟩ hxr.2.2.2 (by have := HD.out.2; omega)
          obtain ⟨b0, b1, b2, b3, b4, b5, b6, b7⟩ := HId.out.cell
          obtain ⟨x0, x2, x3, x4⟩ := HOP.out _ HId.out.bel
          clear hc0 hcl hx hq' hxr
          go_upto_region 16 with fail
          go_cut [14] from 89 to 98 (fun ok wx => ok = .bool true ∧ ∃ (dv' rv' wv' ov' iv' : Value) (lab' : Nat → Nat), Hid (PI w wx la (oneS s d ⟨xk, xa, xf, xv⟩) dv' rv' wv' ov' iv' (oneD s d ⟨xk, xa, xf, xv⟩) gr (.slice ao q0 co) (Rd.map Prod.snd) lab'))
          case first =>
            go_region_law
              (go_simp
               go_at_call 11
               refine HC.out.mono ?_
               rintro e w6 ⟨v6, rfl, lab6, j6, _⟩
               obtain ⟨a3, k3, a4, k4, a5, k5, a6, k6, a7, k7, rfl⟩ := j6.dw.forms
               obtain ⟨m0, m1, m2, m3, m4, m5, m6, m7, hk⟩ := j6.box
               obtain ⟨y0, y1, y2, y3, y4, y5, y6, y7⟩ := box_cell hk
               have f0 := frozen_of_row w6 gr 0 _ _ hk
               have f1 := frozen_of_row w6 gr 1 _ _ hk
               have f2 := frozen_of_row w6 gr 2 _ _ hk
               have f3 := frozen_of_row w6 gr 3 _ _ hk
               have f4 := frozen_of_row w6 gr 4 _ _ hk
               have f5 := frozen_of_row w6 gr 5 _ _ hk
               have f6 := frozen_of_row w6 gr 6 _ _ hk
               have f7 := frozen_of_row w6 gr 7 _ _ hk
               have HJ6 : Hid (PJ w w6 la (oneS s d ⟨xk, xa, xf, xv⟩) (.agg (box8 (oneD s d ⟨xk, xa, xf, xv⟩) (.slice a3 (oneD s d ⟨xk, xa, xf, xv⟩).Rd.length k3) (.slice a4 (oneD s d ⟨xk, xa, xf, xv⟩).Rs.length k4) (.slice a5 (oneD s d ⟨xk, xa, xf, xv⟩).Ws.length k5) (.slice a6 (oneD s d ⟨xk, xa, xf, xv⟩).Os.length k6) (.slice a7 (oneD s d ⟨xk, xa, xf, xv⟩).Is.length k7))) (oneD s d ⟨xk, xa, xf, xv⟩) gr (.slice ao q0 co) (Rd.map Prod.snd) lab6) := j6
               clear j6 hk)
            all_goals
              go_wp2_with fail
              go_meet
              exact ⟨rfl, _, _, _, _, _, _, HJ6.out.put⟩
          case rest =>
            obtain ⟨rfl, dv1, rv1, wv1, ov1, iv1, lab1, HP1⟩ := hcut
            have HDX : Hid ((oneD s d ⟨xk, xa, xf, xv⟩).Rd = Rd ∧ (oneD s d ⟨xk, xa, xf, xv⟩).Is.length ≤ q + 1) := by
              obtain ⟨f1, _, _, _, f5⟩ := oneD_fix s d ⟨xk, xa, xf, xv⟩
              exact ⟨f1.trans HD.out.1, Nat.le_trans f5 (Nat.succ_le_succ HD.out.2)⟩
            clear b0 b1 b2 b3 b4 b5 b6 b7 x0 x2 x3 x4 HC HId HI HD
            generalize oneS s d ⟨xk, xa, xf, xv⟩ = s1 at *
            generalize oneD s d ⟨xk, xa, xf, xv⟩ = d1 at *
            have HSA : Hid (∀ W, Below wc.heap.size wc W → Calls Try.prog 12 #[.pointer (some ⟨la, 0, none⟩), .agg #[.int .i64 d1.R, .int .i64 d1.W, .int .i64 d1.O, dv1, rv1, wv1, ov1, iv1], .int .i64 xa, .slice a2 n2 c2, .slice ao q0 co] W (AN W (.bool true))) := fun W hW => by
              have p := HP1.out.below hW
              exact same_any p.lv p.dw.dv p.lk xa _ _ M (Rd.map Prod.snd) (H2.out.below p.bel) p.ah (fun y hy => by obtain ⟨z, hz, rfl⟩ := List.mem_map.1 hy; exact (R0.out z hz).2) (by rw [HDX.out.1, HN0.out]; omega) (by have := HDX.out.2; omega) (by rw [List.length_map, HN0.out]; omega)
            have HSB : Hid (∀ W, Below wc.heap.size wc W → Calls Try.prog 12 #[.pointer (some ⟨la, 0, none⟩), .agg #[.int .i64 d1.R, .int .i64 d1.W, .int .i64 d1.O, dv1, rv1, wv1, ov1, iv1], .int .i64 xf, .slice a2 n2 c2, .slice a2 n2 c2] W (AN W (.bool true))) := fun W hW => by
              have p := HP1.out.below hW
              exact same_any p.lv p.dw.dv p.lk xf _ _ M M (H2.out.below p.bel) (H2.out.below p.bel) R2.out (by rw [HDX.out.1, HN0.out]; omega) (by have := HDX.out.2; omega) (by rw [HN2.out]; omega)
            have HCX : Hid (∀ W, Below wc.heap.size wc W → (W.cell? ⟨gr, 0, none⟩ = some (.int .i64 d1.R) ∧ W.cell? ⟨gr, 1, none⟩ = some (.int .i64 d1.W) ∧ W.cell? ⟨gr, 2, none⟩ = some (.int .i64 d1.O) ∧ W.cell? ⟨gr, 3, none⟩ = some dv1 ∧ W.cell? ⟨gr, 4, none⟩ = some rv1 ∧ W.cell? ⟨gr, 5, none⟩ = some wv1 ∧ W.cell? ⟨gr, 6, none⟩ = some ov1 ∧ W.cell? ⟨gr, 7, none⟩ = some iv1 ∧ W.cell? ⟨ob, oo + q * 4, none⟩ = some (.int .i64 xk) ∧ W.cell? ⟨ob, oo + q * 4 + 1, none⟩ = some (.int .i64 xa) ∧ W.cell? ⟨ob, oo + q * 4 + 2, none⟩ = some (.int .i64 xf) ∧ W.cell? ⟨ob, oo + q * 4 + 3, none⟩ = some (.int .i64 xv))) := fun W hW => by
              have p := HP1.out.below hW
              obtain ⟨y0, y1, y2, y3, y4, y5, y6, y7⟩ := p.cell
              exact ⟨y0, y1, y2, y3, y4, y5, y6, y7, HOP.out W p.bel⟩
            have hSd := HCX.out wc.drew (Below.refl _ _).drew
            clear HOP
            go_upto_region 17 with fail
            go_region_held3 (fun W => W.cell? ⟨gr, 0, none⟩ = some (.int .i64 d1.R) ∧ W.cell? ⟨gr, 1, none⟩ = some (.int .i64 d1.W) ∧ W.cell? ⟨gr, 2, none⟩ = some (.int .i64 d1.O) ∧ W.cell? ⟨gr, 3, none⟩ = some dv1 ∧ W.cell? ⟨gr, 4, none⟩ = some rv1 ∧ W.cell? ⟨gr, 5, none⟩ = some wv1 ∧ W.cell? ⟨gr, 6, none⟩ = some ov1 ∧ W.cell? ⟨gr, 7, none⟩ = some iv1 ∧ W.cell? ⟨ob, oo + q * 4, none⟩ = some (.int .i64 xk) ∧ W.cell? ⟨ob, oo + q * 4 + 1, none⟩ = some (.int .i64 xa) ∧ W.cell? ⟨ob, oo + q * 4 + 2, none⟩ = some (.int .i64 xf) ∧ W.cell? ⟨ob, oo + q * 4 + 3, none⟩ = some (.int .i64 xv))
              (first | with_reducible exact hSd | with_reducible exact hS3 | with_reducible exact hS4)
              (first
                | (go_at_call 12; refine (HSB.out _ E3).mono ?_; rintro e w4 ⟨rfl, b4⟩
                   have E4 : Below wc.heap.size wc w4 := E3.trans (b4.mono E3.size)
                   have hS4 := HCX.out w4 E4)
                | (go_at_call 12; refine (HSA.out _ (Below.refl _ wc).drew).mono ?_; rintro e w3 ⟨rfl, b3⟩
                   have E3 : Below wc.heap.size wc w3 := (Below.refl _ wc).drew.trans (b3.mono (Nat.le_refl _))
                   have hS3 := HCX.out w3 E3))
            have HP4 : Hid (PI w w4 la s1 dv1 rv1 wv1 ov1 iv1 d1 gr (.slice ao q0 co) (Rd.map Prod.snd) lab1) := HP1.out.below E4
            clear hSd hS3 hS4 E3 E4 b3 b4 HCX HSA HSB HP1
            go_wp2_with fail
            go_roundw
            case rel => exact ⟨q + 1, _, _, _, _, _, _, _, _, by go_num, by omega, HP4, HDX⟩
            case measure => simp [intOf]; omega
        · have d5 : decide (q < n1) = false := by simp; omega
          have HBE : Hid (Below w.heap.size w wr) := HI.out.bel
          clear HI HD
          go_wp2_with fail
          refine (HAL.out _).mono ?_
          rintro e w9 ⟨rfl, b9⟩
          have HF : Hid (P (.returned (.bool true)) w9) := HQ.out w9 (HBE.out.trans (b9.mono HBE.out.size))
          clear b9
          go_wp2
          first | exact HF.out | (go_ret; exact HF.out)
end Go.Proofs.Ytongeppdaeekeaa
