/- VerApart: the law's walk. -/
import Derived.Test.YtdohclnmcdempaaVrA1
import Derived.Test.YtdohclnmcdempaaVrB1
namespace Go.Proofs.Ytdohclnmcdempaa
open Go.RowKit Go.Maps
set_option linter.unusedVariables false

theorem neq62 (a b : Int) (w : World) : (binOp .neq 62 (.agg #[.int .i64 a, .int .i64 b]) (.agg #[.int .i64 a, .int .i64 b])).run Try.prog w = .ok (.bool false) w := by
  rw [run_neq_struct, run_equalIn_agg w 9999 62 _ _ und62 stood62]
  simp only [Program.fieldsOf, Try.underlying62]
  simp [go_sem]
theorem neg62 (a b c d : Int) (x y : Operand) (w : World) : (eqGuard .neq 62 x y (.agg #[.int .i64 a, .int .i64 b]) (.agg #[.int .i64 c, .int .i64 d])).run Try.prog w = .ok () w := by
  simp [eqGuard]
/-- where the first loop stands -/
def AL (w : World) (l : List O4) (age : Int) (rb sb tb j : Nat) (wr : World) : Prop :=
  ∃ (ns nt jt : Nat) (Kt : Nat → Ch2), ns ≤ 64 * j ∧ nt ≤ 64 * j ∧ jt ≤ j ∧ GK 512 64 Kt jt ∧ ApI age (Kf 512 64 l j) Kt ∧ TB w rb sb tb ns nt (Kf 512 64 l j) Kt wr
/-- the first store has had its call, not the second -/
def AM (w : World) (l : List O4) (age : Int) (rb sb tb j : Nat) (wr : World) : Prop :=
  ∃ (ns nt jt : Nat) (Kt : Nat → Ch2), ns ≤ 64 * (j + 1) ∧ nt ≤ 64 * j ∧ jt ≤ j ∧ GK 512 64 Kt jt ∧ ApI age (Kf 512 64 l j) Kt ∧ TB w rb sb tb ns nt (Kf 512 64 l (j + 1)) Kt wr
section
variable {w wr wr' : World} {l : List O4} {age : Int} {rb sb tb j : Nat}
theorem AL.call (h : AL w l age rb sb tb j wr) (hj : j < l.length) (hl : l.length ≤ 120) (hr : R64 l[j].ag) :
    Calls Try.prog 22 #[.pointer (some ⟨sb, 0, none⟩), .agg #[.int .i64 64, .int .i64 512, .slice none 0 0], .agg #[.int .i64 l[j].kd, .int .i64 l[j].at_, .int .i64 l[j].ag, .int .i64 l[j].vl]] wr (fun e w' => (∃ v, e = .returned v) ∧ AM w l age rb sb tb j w') := by
  obtain ⟨ns, nt, jt, Kt, h1, h2, h3, g, ap, t⟩ := h
  obtain ⟨Y, s, y, f⟩ := t.left
  refine (one0 s y l[j] hr (by omega)).mono ?_
  rintro e w' ⟨hv, s', c'⟩
  refine ⟨hv, ns + 64, nt, jt, Kt, by omega, h2, h3, g, ap, ?_⟩
  rw [Kf_next _ _ _ _ hj]
  exact f w' _ _ s' c'
theorem AM.call (h : AM w l age rb sb tb j wr) (hj : j < l.length) (hl : l.length ≤ 120) (hr : R64 l[j].ag) (hx : l[j].ag ≠ age) :
    Calls Try.prog 22 #[.pointer (some ⟨tb, 0, none⟩), .agg #[.int .i64 64, .int .i64 512, .slice none 0 0], .agg #[.int .i64 l[j].kd, .int .i64 l[j].at_, .int .i64 l[j].ag, .int .i64 l[j].vl]] wr (fun e w' => (∃ v, e = .returned v) ∧ AL w l age rb sb tb (j + 1) w') := by
  obtain ⟨ns, nt, jt, Kt, h1, h2, h3, g, ap, t⟩ := h
  obtain ⟨Y, s, y, f⟩ := t.swap.left
  refine (one0 s y l[j] hr (by omega)).mono ?_
  rintro e w' ⟨hv, s', c'⟩
  refine ⟨hv, ns, nt + 64, jt + 1, stepK 512 64 Kt l[j], h1, by omega, by omega, g.step _, ?_, (f w' _ _ s' c').swap⟩
  rw [Kf_next _ _ _ _ hj]
  exact ap.both (GK.all 512 64 l j (by omega)) g (by omega) (by omega) _ hx
theorem AM.skip (h : AM w l age rb sb tb j wr) (hj : j < l.length) (hl : l.length ≤ 120) (hx : l[j].ag = age) : AL w l age rb sb tb (j + 1) wr := by
  obtain ⟨ns, nt, jt, Kt, h1, h2, h3, g, ap, t⟩ := h
  refine ⟨ns, nt, jt, Kt, h1, by omega, by omega, g, ?_, t⟩
  rw [Kf_next _ _ _ _ hj]
  exact ap.one (GK.all 512 64 l j (by omega)) (by omega) _ hx
theorem AL.same (h : AL w l age rb sb tb j wr) (c : Below wr.heap.size wr wr') : AL w l age rb sb tb j wr' := by
  obtain ⟨ns, nt, jt, Kt, h1, h2, h3, g, ap, t⟩ := h
  exact ⟨ns, nt, jt, Kt, h1, h2, h3, g, ap, t.same c⟩
theorem AM.same (h : AM w l age rb sb tb j wr) (c : Below wr.heap.size wr wr') : AM w l age rb sb tb j wr' := by
  obtain ⟨ns, nt, jt, Kt, h1, h2, h3, g, ap, t⟩ := h
  exact ⟨ns, nt, jt, Kt, h1, h2, h3, g, ap, t.same c⟩
theorem AL.below (h : AL w l age rb sb tb j wr) : Below w.heap.size w wr := by obtain ⟨_, _, _, _, _, _, _, _, _, t⟩ := h; exact t.b
theorem AM.below (h : AM w l age rb sb tb j wr) : Below w.heap.size w wr := by obtain ⟨_, _, _, _, _, _, _, _, _, t⟩ := h; exact t.b
theorem AL.c (h : AL w l age rb sb tb j wr) : wr.cell? ⟨rb, 0, none⟩ = some (.int .i64 64) ∧ wr.cell? ⟨rb, 1, none⟩ = some (.int .i64 512) ∧ wr.cell? ⟨rb, 2, none⟩ = some (.slice none 0 0) := by obtain ⟨_, _, _, _, _, _, _, _, _, t⟩ := h; exact t.c
theorem AM.c (h : AM w l age rb sb tb j wr) : wr.cell? ⟨rb, 0, none⟩ = some (.int .i64 64) ∧ wr.cell? ⟨rb, 1, none⟩ = some (.int .i64 512) ∧ wr.cell? ⟨rb, 2, none⟩ = some (.slice none 0 0) := by obtain ⟨_, _, _, _, _, _, _, _, _, t⟩ := h; exact t.c
/-- behind DropAll both hold the same -/
def AE (w : World) (rb sb tb : Nat) (K : Nat → Ch2) (wr : World) : Prop := ∃ (ns nt : Nat) (Ks : Nat → Ch2), (∀ i, i < 64 → Ks i = K i) ∧ totK 64 Ks = totK 64 K ∧ TB w rb sb tb ns nt Ks K wr
theorem AL.last (h : AL w l age rb sb tb l.length wr) (hl : l.length ≤ 120) (ha : R64 age) :
    Calls Try.prog 28 #[.pointer (some ⟨sb, 0, none⟩), .int .i64 age] wr (fun e w' => (∃ z, e = .returned (.int .i64 z)) ∧ ∃ K, AE w rb sb tb K w') := by
  obtain ⟨ns, nt, jt, Kt, h1, h2, h3, g, ap, t⟩ := h
  obtain ⟨Y, s, y, f⟩ := t.left
  refine (s.dropAll age ha (by omega)).mono ?_
  rintro e w' ⟨rfl, s', c'⟩
  have G := GK.all 512 64 l l.length (Nat.le_refl _)
  exact ⟨⟨_, rfl⟩, Kt, _, nt, _, fun i hi => ap.last G g i hi, ap.tot G g, f w' _ _ s' c'⟩
theorem AE.same {K : Nat → Ch2} (h : AE w rb sb tb K wr) (c : Below wr.heap.size wr wr') : AE w rb sb tb K wr' := by
  obtain ⟨ns, nt, Ks, h1, h2, t⟩ := h
  exact ⟨ns, nt, Ks, h1, h2, t.same c⟩
theorem AE.below {K : Nat → Ch2} (h : AE w rb sb tb K wr) : Below w.heap.size w wr := by obtain ⟨_, _, _, _, _, t⟩ := h; exact t.b
theorem AE.live {K : Nat → Ch2} (h : AE w rb sb tb K wr) : Calls Try.prog 30 #[.pointer (some ⟨sb, 0, none⟩)] wr (QD wr (.int .i64 (totK 64 K : Int))) ∧ Calls Try.prog 30 #[.pointer (some ⟨tb, 0, none⟩)] wr (QD wr (.int .i64 (totK 64 K : Int))) := by
  obtain ⟨ns, nt, Ks, h1, h2, t⟩ := h
  obtain ⟨Y, s⟩ := t.sx
  obtain ⟨Z, s2⟩ := t.swap.sx
  exact ⟨by rw [← h2]; exact s.live, s2.live⟩
theorem SX.chain {X : Nat → Prop} {sb R W n : Nat} {K : Nat → Ch2} (h : SX X sb R W n K w) (z : Int) : Calls Try.prog 31 #[.pointer (some ⟨sb, 0, none⟩), .int .i64 z] w (ChnQ (K (wi W z)) w) := by
  obtain ⟨lab, s, l⟩ := h
  exact s.chain z
theorem AE.chain {K : Nat → Ch2} (h : AE w rb sb tb K wr) (i : Nat) (hi : i < 64) : Calls Try.prog 31 #[.pointer (some ⟨sb, 0, none⟩), .int .i64 (i : Int)] wr (ChnQ (K i) wr) ∧ Calls Try.prog 31 #[.pointer (some ⟨tb, 0, none⟩), .int .i64 (i : Int)] wr (ChnQ (K i) wr) := by
  obtain ⟨ns, nt, Ks, h1, h2, t⟩ := h
  obtain ⟨Y, s⟩ := t.sx
  obtain ⟨Z, s2⟩ := t.swap.sx
  have e1 := s.chain (i : Int)
  have e2 := s2.chain (i : Int)
  rw [wi_in hi] at e1 e2
  rw [h1 i hi] at e1
  exact ⟨e1, e2⟩
end
end Go.Proofs.Ytdohclnmcdempaa
