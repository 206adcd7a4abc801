/- Two logs side by side. -/
import Derived.Test.YtongeppdaeekeaaAtQ
namespace Go.Proofs.Ytongeppdaeekeaa
open Go.RowKit Go.Maps
set_option linter.unusedVariables false

def quad (z : O4) : List Value := [.int .i64 z.kd, .int .i64 z.at_, .int .i64 z.fr, .int .i64 z.vl]
theorem quad_one (z : O4) : ∀ u ∈ quad z, u.oneCell' = true := by intro u hu; simp [quad] at hu; rcases hu with rfl | rfl | rfl | rfl <;> rfl
/-- calls -/
def kX : RK O4 := { st := 25, et := 44, k := 4, bytes := 32, cl := quad, len := fun _ => rfl, one := quad_one, pos := by decide, zero := .agg #[.int .i64 0, .int .i64 0, .int .i64 0, .int .i64 0], und := Try.underlying25, inf := by kernel_rfl, zs := rfl, bd := by decide }
theorem quad_cells {w : World} {b o i : Nat} {z : O4} (h : ∀ j, j < kX.k → w.cell? ⟨b, o + (i * kX.k + j), none⟩ = (kX.cl z)[j]?) :
    w.cell? ⟨b, o + i * 4, none⟩ = some (.int .i64 z.kd) ∧ w.cell? ⟨b, o + i * 4 + 1, none⟩ = some (.int .i64 z.at_) ∧ w.cell? ⟨b, o + i * 4 + 2, none⟩ = some (.int .i64 z.fr) ∧ w.cell? ⟨b, o + i * 4 + 3, none⟩ = some (.int .i64 z.vl) := by
  have h0 := h 0 (by decide)
  have h1 := h 1 (by decide)
  have h2 := h 2 (by decide)
  have h3 := h 3 (by decide)
  rw [← Nat.add_assoc] at h0 h1 h2 h3
  exact ⟨h0, h1, h2, h3⟩
theorem LV.lens64 {w : World} {lab : Nat → Nat} {c lb : Nat} {s : Lg} (h : LV w lab c lb s) : s.Rs.length ≤ 64 ∧ s.Ws.length ≤ 64 ∧ s.Os.length ≤ 64 := by
  obtain ⟨_, _, _, _, _, _, _, h⟩ := h
  exact h.lens
theorem ints_rs {w : World} {g : Nat} {l : List Int} (h : w.heap[g]? = some (.cells (ints l) 2)) (hl : l.length ≤ maxLen) : RS kN w (.slice (some ⟨g, 0, none⟩) l.length l.length) l :=
  ⟨_, _, g, 0, rfl, Nat.le_refl _, hl, fun _ => rfl, fun i hi j hj => by
    match j, hj with
    | 0, _ =>
      have e : 0 + (i * kN.k + 0) = i := by show 0 + (i * 1 + 0) = i; omega
      rw [e, cell_of_row w g i _ _ _ h, ints_at l i hi]
      rfl⟩
theorem zeros_rs (w : World) (n : Nat) (hn : n ≤ 1000) : RS kN (w.alloc (.cells (ints (List.replicate n 0)) 2)) (.slice (some ⟨w.heap.size, 0, none⟩) n n) (List.replicate n 0) := by
  have := ints_rs (l := List.replicate n 0) (heap_alloc_new w (.cells (ints (List.replicate n 0)) 2)) (by unfold maxLen; simp; omega)
  simpa using this
/-- two logs of the call's own, and blocks beside them -/
structure TL (w W : World) (la lb : Nat) (sa sb : Lg) (Y : Nat → Prop) (lab : Nat → Nat) : Prop where
  a : LV W lab 0 la sa
  b : LV W lab 7 lb sb
  z : ∀ k, k < w.heap.size → lab k = 0
  bel : Below w.heap.size w W
  y : ∀ k, Y k → lab k = 0 ∧ k < W.heap.size ∧ w.heap.size ≤ k
section
variable {w W W' : World} {la lb : Nat} {sa sb s' : Lg} {Y : Nat → Prop} {lab lab' : Nat → Nat}
theorem TL.below (h : TL w W la lb sa sb Y lab) (b : Below W.heap.size W W') : TL w W' la lb sa sb Y lab := ⟨h.a.below b, h.b.below b, h.z, h.bel.trans (b.mono h.bel.size), fun k hk => ⟨(h.y k hk).1, Nat.lt_of_lt_of_le (h.y k hk).2.1 b.size, (h.y k hk).2.2⟩⟩
theorem TL.alloc (h : TL w W la lb sa sb Y lab) (A : Obj) : TL w (W.alloc A) la lb sa sb (fun k => Y k ∨ k = W.heap.size) lab := by
  have hb := h.below (bl1 W A)
  refine ⟨hb.a, hb.b, hb.z, hb.bel, fun k hk => ?_⟩
  rcases hk with hk | rfl
  · exact hb.y k hk
  · refine ⟨?_, by simp, h.bel.size⟩
    rcases Nat.eq_zero_or_pos (lab W.heap.size) with r | r
    · exact r
    · have := h.a.lt W.heap.size (by omega); omega
theorem TL.mono {Y' : Nat → Prop} (h : TL w W la lb sa sb Y lab) (hY : ∀ k, Y' k → Y k) : TL w W la lb sa sb Y' lab := ⟨h.a, h.b, h.z, h.bel, fun k hk => h.y k (hY k hk)⟩
theorem TL.frame (h : TL w W la lb sa sb Y lab) {c : Nat} (q : LabQ c lab lab' W W') : (∀ k, k < w.heap.size → lab' k = 0) ∧ Below w.heap.size w W' ∧ (∀ k, Y k → lab' k = 0 ∧ k < W'.heap.size ∧ w.heap.size ≤ k) ∧ ∀ k, Y k → W'.heap[k]? = W.heap[k]? := by
  have hs := h.bel.size
  refine ⟨fun k hk => (q.1 k (by omega)).trans (h.z k hk), h.bel.trans (q.2.below hs fun k hk => ?_), fun k hk => ?_, fun k hk => ?_⟩
  · rcases Nat.lt_or_ge k w.heap.size with r | r
    · have := h.z k r; omega
    · exact r
  · obtain ⟨x1, x2, x3⟩ := h.y k hk
    exact ⟨(q.1 k x2).trans x1, Nat.lt_of_lt_of_le x2 q.2.size, x3⟩
  · obtain ⟨x1, x2, x3⟩ := h.y k hk
    exact q.2.block k x2 (by rw [x1]; omega)
theorem TL.callA (h : TL w W la lb sa sb Y lab) (l : LV W' lab' 0 la s') (q : LabQ 0 lab lab' W W') : TL w W' la lb s' sb Y lab' ∧ ∀ k, Y k → W'.heap[k]? = W.heap[k]? := by
  obtain ⟨f1, f2, f3, f4⟩ := h.frame q
  exact ⟨⟨l, h.b.beside q l.lt (by omega), f1, f2, f3⟩, f4⟩
theorem TL.callB (h : TL w W la lb sa sb Y lab) (l : LV W' lab' 7 lb s') (q : LabQ 7 lab lab' W W') : TL w W' la lb sa s' Y lab' ∧ ∀ k, Y k → W'.heap[k]? = W.heap[k]? := by
  obtain ⟨f1, f2, f3, f4⟩ := h.frame q
  exact ⟨⟨h.a.beside q l.lt (by omega), l, f1, f2, f3⟩, f4⟩
end
/-- both are made -/
theorem TL.first {w w1 w2 : World} {r u o : Int} {Rd : List (Int × Int)} {e1 e2 : Ending} (h0 : errL r u o Rd = 0) {V : World} (hV : Below w.heap.size w V) (h1 : LNewQ r u o Rd V e1 w1) (h2 : LNewQ r u o Rd w1 e2 w2) :
    ∃ la lb lab, e1 = .returned (.tuple #[.pointer (some ⟨la, 0, none⟩), .int .i64 0]) ∧ e2 = .returned (.tuple #[.pointer (some ⟨lb, 0, none⟩), .int .i64 0]) ∧ TL w w2 la lb (newL r u o Rd) (newL r u o Rd) (fun k => w.heap.size ≤ k ∧ k < V.heap.size) lab := by
  rcases h1 with ⟨hb1, ⟨h1, _⟩ | ⟨_, la, rfl, hl1, hf1⟩⟩
  · exact absurd h0 h1
  rcases h2 with ⟨hb2, ⟨h2, _⟩ | ⟨_, lb, rfl, hl2, hf2⟩⟩
  · exact absurd h0 h2
  obtain ⟨lab1, p1, p2⟩ := hf1 (fun _ => 0) 0 (fun k hk => absurd rfl hk)
  obtain ⟨lab2, q1, q2⟩ := hf2 lab1 7 p2.lt
  have hs := hV.size
  have hs1 := hb1.size
  refine ⟨la, lb, lab2, rfl, rfl, p2.beside (d := 7) ⟨q1, Ch.of hb2⟩ q2.lt (by omega), q2, fun k hk => (q1 k (by omega)).trans (p1 k (by omega)), (hV.trans (hb1.mono hs)).trans (hb2.mono (by omega)), fun k hk => ⟨(q1 k (by omega)).trans (p1 k hk.2), by have := hb2.size; omega, hk.1⟩⟩
/-- the document's log as it is made -/
def newD (r u o : Int) (Rd : List (Int × Int)) : Dg := { R := r, W := u, O := o, Rd := Rd, Rs := [], Ws := [], Os := [], Is := [] }
theorem newD_dw {w W : World} {lab : Nat → Nat} {r u o : Int} {Rd : List (Int × Int)} {dv : Value} (h : RS kD w dv Rd) (hb : Below w.heap.size w W) (hz : ∀ k, k < w.heap.size → lab k = 0) :
    DW (Free lab) W (.agg #[.int .i64 r, .int .i64 u, .int .i64 o, dv, .slice none 0 0, .slice none 0 0, .slice none 0 0, .slice none 0 0]) (newD r u o Rd) := by
  have hn : ∀ p, PB p (.slice none 0 0) := fun p g o n c e => by cases e
  obtain ⟨q1, q2⟩ := h.part (w' := W) (p := fun _ => True) (p' := Free lab) (fun _ _ _ _ _ _ => trivial) (fun k hk _ => ⟨hb.block k hk, hz k hk⟩)
  exact ⟨⟨_, _, _, _, _, rfl, ⟨q1, RS.nil _ _, RS.nil _ _, RS.nil _ _, RS.nil _ _⟩, q2, hn _, hn _, hn _, hn _⟩⟩
/-- both logs, the setup and the document's log beside them -/
structure AI (w W : World) (la lb : Nat) (s t : Lg) (gs gr : Nat) (r u o : Int) (dv : Value) (lab : Nat → Nat) : Prop where
  tl : TL w W la lb s t (fun k => k = gs ∨ k = gr) lab
  b1 : W.heap[gs]? = some (.cells #[.int .i64 r, .int .i64 u, .int .i64 o, dv] 24)
  b2 : W.heap[gr]? = some (.cells #[.int .i64 r, .int .i64 u, .int .i64 o, dv, .slice none 0 0, .slice none 0 0, .slice none 0 0, .slice none 0 0] 35)
section
variable {w W W' : World} {la lb : Nat} {s t s' : Lg} {gs gr : Nat} {r u o : Int} {dv : Value} {lab lab' : Nat → Nat}
theorem AI.below (h : AI w W la lb s t gs gr r u o dv lab) (b : Below W.heap.size W W') : AI w W' la lb s t gs gr r u o dv lab :=
  ⟨h.tl.below b, (b.block gs (h.tl.y gs (.inl rfl)).2.1).trans h.b1, (b.block gr (h.tl.y gr (.inr rfl)).2.1).trans h.b2⟩
theorem AI.callA (h : AI w W la lb s t gs gr r u o dv lab) (l : LV W' lab' 0 la s') (q : LabQ 0 lab lab' W W') : AI w W' la lb s' t gs gr r u o dv lab' := by
  obtain ⟨f1, f2⟩ := h.tl.callA l q
  exact ⟨f1, (f2 gs (.inl rfl)).trans h.b1, (f2 gr (.inr rfl)).trans h.b2⟩
theorem AI.callB (h : AI w W la lb s t gs gr r u o dv lab) (l : LV W' lab' 7 lb s') (q : LabQ 7 lab lab' W W') : AI w W' la lb s s' gs gr r u o dv lab' := by
  obtain ⟨f1, f2⟩ := h.tl.callB l q
  exact ⟨f1, (f2 gs (.inl rfl)).trans h.b1, (f2 gr (.inr rfl)).trans h.b2⟩
theorem AI.c1 (h : AI w W la lb s t gs gr r u o dv lab) : W.cell? ⟨gs, 3, none⟩ = some dv := by rw [cell_of_row W gs _ _ _ _ h.b1]; rfl
theorem AI.c2 (h : AI w W la lb s t gs gr r u o dv lab) : W.cell? ⟨gr, 0, none⟩ = some (.int .i64 r) ∧ W.cell? ⟨gr, 1, none⟩ = some (.int .i64 u) ∧ W.cell? ⟨gr, 2, none⟩ = some (.int .i64 o) ∧ W.cell? ⟨gr, 3, none⟩ = some dv ∧ W.cell? ⟨gr, 4, none⟩ = some (.slice none 0 0) ∧ W.cell? ⟨gr, 5, none⟩ = some (.slice none 0 0) ∧ W.cell? ⟨gr, 6, none⟩ = some (.slice none 0 0) ∧ W.cell? ⟨gr, 7, none⟩ = some (.slice none 0 0) := box_cell h.b2
theorem AI.oneA {Rd : List (Int × Int)} (h : AI w W la lb s t gs gr r u o dv lab) (h0 : RS kD w dv Rd) (x : O4) : Calls Try.prog 11 #[.pointer (some ⟨la, 0, none⟩), .agg #[.int .i64 r, .int .i64 u, .int .i64 o, dv, .slice none 0 0, .slice none 0 0, .slice none 0 0, .slice none 0 0], opA x] W fun e W' => ∃ v b, e = .returned (.tuple #[v, .bool b]) ∧ ∃ lab', AI w W' la lb (oneS s (newD r u o Rd) x) t gs gr r u o dv lab' :=
  (one_any h.tl.a (newD_dw h0 h.tl.bel h.tl.z) x (Nat.zero_le _) (Nat.zero_le _) (Nat.zero_le _) (Nat.zero_le _)).mono fun e W' ⟨v, e1, lab', l, q, _⟩ => ⟨v, _, e1, lab', h.callA l q⟩
theorem AI.oneB {Rd : List (Int × Int)} (h : AI w W la lb s t gs gr r u o dv lab) (h0 : RS kD w dv Rd) (x : O4) : Calls Try.prog 11 #[.pointer (some ⟨lb, 0, none⟩), .agg #[.int .i64 r, .int .i64 u, .int .i64 o, dv, .slice none 0 0, .slice none 0 0, .slice none 0 0, .slice none 0 0], opA x] W fun e W' => ∃ v b, e = .returned (.tuple #[v, .bool b]) ∧ ∃ lab', AI w W' la lb s (oneS t (newD r u o Rd) x) gs gr r u o dv lab' :=
  (one_any h.tl.b (newD_dw h0 h.tl.bel h.tl.z) x (Nat.zero_le _) (Nat.zero_le _) (Nat.zero_le _) (Nat.zero_le _)).mono fun e W' ⟨v, e1, lab', l, q, _⟩ => ⟨v, _, e1, lab', h.callB l q⟩
theorem AI.clear (h : AI w W la lb s t gs gr r u o dv lab) : Calls Try.prog 14 #[.pointer (some ⟨la, 0, none⟩)] W fun e W' => e = .returned (.tuple #[]) ∧ ∃ lab', AI w W' la lb (clearS s) t gs gr r u o dv lab' :=
  (lclear_any h.tl.a).mono fun e W' ⟨e1, lab', l, q⟩ => ⟨e1, lab', h.callA l q⟩
end
/-- what no call turns -/
def Fx (s N : Lg) : Prop := s.R = N.R ∧ s.W = N.W ∧ s.O = N.O ∧ s.ops = N.ops
theorem Fx.one {s N : Lg} (h : Fx s N) (d : Dg) (x : O4) : Fx (oneS s d x) N := by
  obtain ⟨a, b, c, e⟩ := oneS_fix s d x
  exact ⟨a.trans h.1, b.trans h.2.1, c.trans h.2.2.1, e.trans h.2.2.2⟩
theorem Fx.clear {s : Lg} {r u o : Int} {Rd : List (Int × Int)} (h : Fx s (newL r u o Rd)) : clearS s = newL r u o Rd := by
  obtain ⟨R, W, O, Rs, Ws, Os, ops, now⟩ := s
  obtain ⟨a, b, c, e⟩ := h
  simp only at a b c e
  subst a b c e
  rfl
end Go.Proofs.Ytongeppdaeekeaa
