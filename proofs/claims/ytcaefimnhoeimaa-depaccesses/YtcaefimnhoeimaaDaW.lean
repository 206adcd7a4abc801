/- DepAccesses, its walk. -/
import Derived.Test.YtcaefimnhoeimaaRfD
import Derived.Test.YtcaefimnhoeimaaAv
import Derived.Deep.QuietTactic
import Derived.BigQuiet
namespace Go.Proofs.Ytcaefimnhoeimaa
open Go.RowKit Go.Maps
set_option linter.unusedVariables false
set_option linter.unusedSimpArgs false

theorem acs_at : ∀ (l : List (Bool × Fm)) (i : Nat) (h : i < l.length), (acs l)[i * 4]? = some (.bool l[i].1) ∧ (acs l)[i * 4 + 1]? = some (.bool l[i].2.k) ∧ (acs l)[i * 4 + 2]? = some (.int .i64 l[i].2.a) ∧ (acs l)[i * 4 + 3]? = some (.int .i64 l[i].2.c)
  | [], i, h => by simp at h
  | x :: l, 0, h => ⟨rfl, rfl, rfl, rfl⟩
  | x :: l, i + 1, h => by
    have ih := acs_at l i (by simpa using h)
    have e0 : (i + 1) * 4 = i * 4 + 1 + 1 + 1 + 1 := by omega
    have e1 : (i + 1) * 4 + 1 = i * 4 + 1 + 1 + 1 + 1 + 1 := by omega
    have e2 : (i + 1) * 4 + 2 = i * 4 + 2 + 1 + 1 + 1 + 1 := by omega
    have e3 : (i + 1) * 4 + 3 = i * 4 + 3 + 1 + 1 + 1 + 1 := by omega
    rw [e3, e2, e1, e0]
    simpa [acs] using ih
/-- an access of a row lies at a place -/
def At4 (w : World) (g i : Nat) (x : Bool × Fm) : Prop := w.cell? ⟨g, i * 4, none⟩ = some (.bool x.1) ∧ w.cell? ⟨g, i * 4 + 1, none⟩ = some (.bool x.2.k) ∧ w.cell? ⟨g, i * 4 + 2, none⟩ = some (.int .i64 x.2.a) ∧ w.cell? ⟨g, i * 4 + 3, none⟩ = some (.int .i64 x.2.c)
theorem At4.below {w w' : World} {g i : Nat} {x : Bool × Fm} (h : At4 w g i x) (hb : Below w.heap.size w w') : At4 w' g i x :=
  have hg : g < w.heap.size := World.block_lt_of_cell? w ⟨g, i * 4, none⟩ h.1
  ⟨(hb.cell (p := ⟨g, i * 4, none⟩) hg).trans h.1, (hb.cell (p := ⟨g, i * 4 + 1, none⟩) hg).trans h.2.1, (hb.cell (p := ⟨g, i * 4 + 2, none⟩) hg).trans h.2.2.1, (hb.cell (p := ⟨g, i * 4 + 3, none⟩) hg).trans h.2.2.2⟩
def RdA (w : World) (v : Value) (l : List (Bool × Fm)) : Prop := ∃ ad g cap, v = .slice ad l.length cap ∧ (0 < l.length → ad = some ⟨g, 0, none⟩) ∧ l.length ≤ cap ∧ cap ≤ maxLen ∧ ∀ i (h : i < l.length), At4 w g i l[i]
theorem AZ.rd {w : World} {base : Nat} {v : Value} {l : List (Bool × Fm)} (h : AZ w base v l) : RdA w v l := by
  have hc := fun g => World.ownsRow.cells h (g := g)
  rcases h.2 with ⟨rfl, h0⟩ | ⟨g, cap, cur, rfl, h2, h3, h4, h5, _⟩
  · obtain rfl : l = [] := by first | exact List.eq_nil_of_length_eq_zero h0 | (rw [← List.length_eq_zero_iff]; exact h0)
    exact ⟨none, 0, 0, rfl, fun h => absurd h (by simp), Nat.le_refl _, by unfold maxLen; omega, fun i h => absurd h (by simp)⟩
  · refine ⟨_, g, cap, rfl, fun _ => rfl, h4, h5, fun i hi => ?_⟩
    obtain ⟨q0, q1, q2, q3⟩ := acs_at l i hi
    exact ⟨by have := hc g rfl (i * 4) _ q0; rw [addn, Nat.zero_add] at this; exact this, by have := hc g rfl (i * 4 + 1) _ q1; rw [addn, Nat.zero_add] at this; exact this, by have := hc g rfl (i * 4 + 2) _ q2; rw [addn, Nat.zero_add] at this; exact this, by have := hc g rfl (i * 4 + 3) _ q3; rw [addn, Nat.zero_add] at this; exact this⟩
theorem AR.rd {w : World} {base : Nat} {v : Value} {l : List (Bool × Fm)} (h : AR w base v l) : RdA w v l := by
  have hc := fun g => World.ownsRow.cells h (g := g)
  rcases h.2 with ⟨rfl, h0⟩ | ⟨g, cap, cur, rfl, h2, h3, h4, h5, _⟩
  · obtain rfl : l = [] := by first | exact List.eq_nil_of_length_eq_zero h0 | (rw [← List.length_eq_zero_iff]; exact h0)
    exact ⟨none, 0, 0, rfl, fun h => absurd h (by simp), Nat.le_refl _, by unfold maxLen; omega, fun i h => absurd h (by simp)⟩
  · refine ⟨_, g, cap, rfl, fun _ => rfl, h4, h5, fun i hi => ?_⟩
    obtain ⟨q0, q1, q2, q3⟩ := acs_at l i hi
    exact ⟨by have := hc g rfl (i * 4) _ q0; rw [addn, Nat.zero_add] at this; exact this, by have := hc g rfl (i * 4 + 1) _ q1; rw [addn, Nat.zero_add] at this; exact this, by have := hc g rfl (i * 4 + 2) _ q2; rw [addn, Nat.zero_add] at this; exact this, by have := hc g rfl (i * 4 + 3) _ q3; rw [addn, Nat.zero_add] at this; exact this⟩
theorem RdA.below {w w' : World} {v : Value} {l : List (Bool × Fm)} (h : RdA w v l) (hb : Below w.heap.size w w') : RdA w' v l := by
  obtain ⟨ad, g, cap, h1, h2, h3, h4, h5⟩ := h
  exact ⟨ad, g, cap, h1, h2, h3, h4, fun i hi => (h5 i hi).below hb⟩

theorem to_rd {res : Option (List (Bool × Fm))} {w w' : World} {e : Ending} (h : ToP res w e w') : ∃ v, e = .returned (.tuple #[v, .bool res.isSome]) ∧ RdA w' v (res.getD []) ∧ Below w.heap.size w w' := by
  obtain ⟨hb, h⟩ := h
  rcases res with _ | l
  · exact ⟨_, h, ⟨none, 0, 0, rfl, fun h => absurd h (by simp), Nat.le_refl _, by unfold maxLen; omega, fun i h => absurd h (by simp)⟩, hb⟩
  · obtain ⟨v, h1, h2⟩ := h
    exact ⟨v, h1, h2.rd, hb⟩
theorem ro_rd {res : Option (List (Bool × Fm))} {w w' : World} {e : Ending} (h : RoP res w e w') : ∃ v, e = .returned (.tuple #[v, .bool res.isSome]) ∧ RdA w' v (res.getD []) ∧ Below w.heap.size w w' := by
  obtain ⟨hb, h⟩ := h
  rcases res with _ | l
  · exact ⟨_, h, ⟨none, 0, 0, rfl, fun h => absurd h (by simp), Nat.le_refl _, by unfold maxLen; omega, fun i h => absurd h (by simp)⟩, hb⟩
  · obtain ⟨v, h1, h2⟩ := h
    exact ⟨v, h1, h2.rd, hb⟩

set_option maxRecDepth 100000 in
set_option maxHeartbeats 8000000 in
theorem dacc_walk (L : List In) (cells : Int) (vL : Value) (w : World) (hv : ISl w vL L) : Calls Try.prog 3 #[vL, .int .i64 cells] w fun e w' => e = .returned (.bool true) ∧ Below w.heap.size w w' := by
  have HA : Hid (∀ W, Below w.heap.size w W → Calls Try.prog 5 #[vL, .int .i64 cells] W (ToP (accR L cells) W)) := fun W hW => accesses_any L cells vL W (hv.below hW)
  have HR : Hid (∀ W, Below w.heap.size w W → Calls Try.prog 6 #[vL, .int .i64 cells] W (RoP (accR L cells) W)) := fun W hW => racc_any L cells vL W (hv.below hW)
  obtain ⟨ad, cap, b, o, rfl, h2, h3, h4, h5⟩ := hv
  clear h4 h5
  generalize accR L cells = res at HA HR
  generalize L.length = N at HA HR h2 ⊢
  unfold maxLen at h3
  by_cases hlen : 700 < N
  · go_enter Try.func3, Try.ntmps3
    go_wp2
    go_ret
    exact ⟨rfl, Below.refl _ _⟩
  go_enter Try.func3, Try.ntmps3
  go_wp2_with fail
  refine (HA.out _ (Below.refl _ _)).mono ?_
  intro e w1 hp
  obtain ⟨v1, rfl, rd1, hb1⟩ := to_rd hp
  have B1 : Hid (Below w.heap.size w w1) := hb1
  have R1 : Hid (RdA w1 v1 (res.getD [])) := rd1
  clear hb1 rd1 hp
  obtain ⟨ok, hok⟩ : ∃ b, res.isSome = b := ⟨_, rfl⟩
  obtain ⟨l, hl⟩ : ∃ l, res.getD [] = l := ⟨_, rfl⟩
  have HOK : Hid (res.isSome = ok) := hok
  have HLL : Hid (res.getD [] = l) := hl
  rw [hok]
  clear hok hl
  have kk : (ok != ok) = false := by simp
  obtain ⟨a1', n1', c1', hv1⟩ : ∃ a n c, v1 = .slice a n c := by obtain ⟨a, _, c, h, _⟩ := R1.out; exact ⟨a, _, c, h⟩
  subst hv1
  go_wp2_with fail
  refine (HR.out _ B1.out).mono ?_
  intro e w2 hp
  obtain ⟨v2, rfl, rd2, hb2⟩ := ro_rd hp
  rw [HOK.out]
  have B2 : Hid (Below w.heap.size w w2) := B1.out.trans (hb2.mono B1.out.size)
  have r1 := R1.out.below hb2
  have r2 := rd2
  rw [HLL.out] at r1 r2
  clear hb2 hp rd2 R1 HOK HLL
  obtain ⟨ad1, g1, cap1, hq1, a1, a2, a3, A4⟩ := r1
  injection hq1 with q1 q2 q3
  subst q1 q2 q3
  obtain ⟨ad2, g2, cap2, rfl, c1, c2, c3, C4⟩ := r2
  obtain ⟨n, hn⟩ : ∃ n, l.length = n := ⟨_, rfl⟩
  have HN : Hid (l.length = n) := hn
  have HA4 : Hid (∀ i (h : i < l.length), At4 w2 g1 i l[i]) := A4
  have HC4 : Hid (∀ i (h : i < l.length), At4 w2 g2 i l[i]) := C4
  have HA1 : Hid (0 < n → a1' = some ⟨g1, 0, none⟩) := by rw [← hn]; exact a1
  have HC1 : Hid (0 < n → ad2 = some ⟨g2, 0, none⟩) := by rw [← hn]; exact c1
  rw [hn] at a2 c2 ⊢
  unfold maxLen at a3 c3
  clear hn A4 C4 a1 c1
  go_wp2_with fail
  go_loopw [9] (fun ii wr => ∃ i : Nat, ii = .int .i64 (i : Int) ∧ i ≤ n ∧ Hid (Below w2.heap.size w2 wr)) (fun ii _ => n - (intOf ii).toNat)
  case atStart => exact ⟨0, rfl, Nat.zero_le _, Below.refl _ _⟩
  case round =>
    obtain ⟨i, rfl, hi, HB⟩ := hrel
    by_cases hlt : i < n
    · have hiL : i < l.length := by rw [HN.out]; exact hlt
      have p1 := (HA4.out i hiL).below HB.out
      have p2 := (HC4.out i hiL).below HB.out
      obtain ⟨x, hx⟩ : ∃ x, l[i] = x := ⟨_, rfl⟩
      rw [hx] at p1 p2
      obtain ⟨xb, xk, xa, xc⟩ := x
      obtain ⟨d0, d1, d2, d3⟩ := p1
      obtain ⟨e0, e1, e2, e3⟩ := p2
      obtain rfl := HA1.out (by omega)
      obtain rfl := HC1.out (by omega)
      simp only at d0 d1 d2 d3 e0 e1 e2 e3
      have HBN : Hid (∀ k, Below w2.heap.size w2 (wr.drewN k)) := fun k => below_drewN HB.out k
      clear hx hiL
      have k0 : (xb != xb) = false := by simp
      have k1 : (xk != xk) = false := by simp
      have k2 : (xa != xa) = false := by simp
      have k3 : (xc != xc) = false := by simp
      go_wp2_with fail
      go_quiet (fail)
      go_wp2_with fail
      go_roundw
      case rel => exact ⟨i + 1, by go_num, by omega, HBN.out _⟩
      case measure => simp [intOf]; omega
    · have HW : Hid (Below w.heap.size w wr) := B2.out.trans (HB.out.mono B2.out.size)
      go_wp2_with fail
      refine (alive_any _).mono ?_
      rintro e w3 ⟨rfl, b3⟩
      have B3 : Hid (Below w.heap.size w w3) := HW.out.trans (b3.mono HW.out.size)
      clear b3
      go_wp2_with fail
      first | exact ⟨rfl, B3.out⟩ | (go_ret; exact ⟨rfl, B3.out⟩)
end Go.Proofs.Ytcaefimnhoeimaa
