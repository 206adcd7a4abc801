/- What the document's Same answers of rows of tokens that are the same. -/
import Derived.Test.YtnofibjchhcmeaaName
namespace Go.Proofs.Ytnofibjchhcmeaa
open Go.RowKit
set_option linter.unusedVariables false

/-- the slice v reads as the tokens l -/
def TRd (w : World) (v : Value) (l : List Tok) : Prop :=
  (v = .slice none 0 0 ∧ l = []) ∨ ∃ g off cap, v = .slice (some ⟨g, off, none⟩) l.length cap ∧ l.length ≤ cap ∧ cap ≤ maxLen ∧ g < w.heap.size ∧ ∀ i (hi : i < l.length), w.cell? ⟨g, off + i * 4, none⟩ = some (.int .i64 l[i].kind) ∧ w.cell? ⟨g, off + i * 4 + 1, none⟩ = some (.string ⟨l[i].text.toArray⟩) ∧ w.cell? ⟨g, off + i * 4 + 2, none⟩ = some (.int .i64 l[i].num) ∧ w.cell? ⟨g, off + i * 4 + 3, none⟩ = some (.int .i64 (l[i].pos : Int))
theorem TRd.below {w w' : World} {v : Value} {l : List Tok} (h : TRd w v l) (hb : Below w.heap.size w w') : TRd w' v l := by
  rcases h with h | ⟨g, off, cap, e1, e2, e3, e4, e5⟩
  · exact Or.inl h
  · refine Or.inr ⟨g, off, cap, e1, e2, e3, Nat.lt_of_lt_of_le e4 hb.size, fun i hi => ?_⟩
    obtain ⟨c0, c1, c2, c3⟩ := e5 i hi
    exact ⟨(hb.cell (p := ⟨g, off + i * 4, none⟩) e4).trans c0, (hb.cell (p := ⟨g, off + i * 4 + 1, none⟩) e4).trans c1, (hb.cell (p := ⟨g, off + i * 4 + 2, none⟩) e4).trans c2, (hb.cell (p := ⟨g, off + i * 4 + 3, none⟩) e4).trans c3⟩
theorem TOwn.rd {w : World} {base : Nat} {v : Value} {l : List Tok} (h : TOwn w base v l) (hne : l ≠ []) : TRd w v l := by
  obtain ⟨g, cap, h1, h2, h3, h4, h5, h6⟩ := h.read hne
  refine Or.inr ⟨g, 0, cap, h1, h2, h3, h5, fun i hi => ?_⟩
  rw [Nat.zero_add]
  exact h6 i hi

/-- two tokens are the same; with places or without -/
def alike (places : Bool) (x y : Tok) : Prop := x.kind = y.kind ∧ x.text = y.text ∧ x.num = y.num ∧ (places = true → x.pos = y.pos)
def alikes (places : Bool) (a b : List Tok) : Prop := a.length = b.length ∧ ∀ i (h1 : i < a.length) (h2 : i < b.length), alike places a[i] b[i]

set_option maxRecDepth 100000 in
set_option maxHeartbeats 4000000 in
theorem same_some (places : Bool) (g1 o1 c1 g2 o2 c2 : Nat) (a b : List Tok) (w : World) (hal : alikes places a b) (hn1 : a.length ≤ c1) (hn2 : b.length ≤ c2) (hm1 : c1 ≤ maxLen) (hm2 : c2 ≤ maxLen) (hg1 : g1 < w.heap.size) (hg2 : g2 < w.heap.size)
    (hc1 : Hid (∀ i (hi : i < a.length), w.cell? ⟨g1, o1 + i * 4, none⟩ = some (.int .i64 a[i].kind) ∧ w.cell? ⟨g1, o1 + i * 4 + 1, none⟩ = some (.string ⟨a[i].text.toArray⟩) ∧ w.cell? ⟨g1, o1 + i * 4 + 2, none⟩ = some (.int .i64 a[i].num) ∧ w.cell? ⟨g1, o1 + i * 4 + 3, none⟩ = some (.int .i64 (a[i].pos : Int))))
    (hc2 : Hid (∀ i (hi : i < b.length), w.cell? ⟨g2, o2 + i * 4, none⟩ = some (.int .i64 b[i].kind) ∧ w.cell? ⟨g2, o2 + i * 4 + 1, none⟩ = some (.string ⟨b[i].text.toArray⟩) ∧ w.cell? ⟨g2, o2 + i * 4 + 2, none⟩ = some (.int .i64 b[i].num) ∧ w.cell? ⟨g2, o2 + i * 4 + 3, none⟩ = some (.int .i64 (b[i].pos : Int)))) :
    Calls Try.prog 10 #[.slice (some ⟨g1, o1, none⟩) a.length c1, .slice (some ⟨g2, o2, none⟩) b.length c2, .bool places] w fun e w' => e = .returned (.bool true) ∧ Below w.heap.size w w' := by
  unfold maxLen at hm1 hm2
  have HAL : Hid (∀ i (h1 : i < a.length) (h2 : i < b.length), alike places a[i] b[i]) := hal.2
  have hlen := hal.1
  obtain ⟨n, hn⟩ : ∃ n, b.length = n := ⟨_, rfl⟩
  rw [hn] at hn2 hlen ⊢
  rw [hlen] at hn1 ⊢
  have HLA : Hid (a.length = n) := hlen
  have HLB : Hid (b.length = n) := hn
  clear hal hlen hn
  go_enter Try.func10, Try.ntmps10
  go_wp2
  go_loopw [7] (fun i wr => ∃ k : Nat, k ≤ n ∧ i = .int .i64 (k : Int) ∧ Hid (Below w.heap.size w wr)) (fun i _ => n - (intOf i).toNat)
  case atStart => exact ⟨0, Nat.zero_le _, rfl, Below.refl _ _⟩
  case round =>
    obtain ⟨k, hk, rfl, HB⟩ := hrel
    by_cases hlt : k < n
    · have ka : k < a.length := by have := HLA.out; omega
      have kb : k < b.length := by have := HLB.out; omega
      obtain ⟨x0, x1, x2, x3⟩ := hc1.out k ka
      obtain ⟨y0, y1, y2, y3⟩ := hc2.out k kb
      obtain ⟨z0, z1, z2, z3⟩ := HAL.out k ka kb
      rw [← z0] at y0
      rw [← z1] at y1
      rw [← z2] at y2
      generalize a[k].kind = kd at x0 y0
      generalize (⟨a[k].text.toArray⟩ : ByteArray) = T at x1 y1
      generalize a[k].num = nm at x2 y2
      generalize hpx : a[k].pos = px at x3 z3
      generalize hpy : b[k].pos = py at y3 z3
      have u0 : wr.cell? ⟨g1, o1 + k * 4, none⟩ = some (.int .i64 kd) := (HB.out.cell (p := ⟨g1, o1 + k * 4, none⟩) hg1).trans x0
      have u1 : wr.cell? ⟨g1, o1 + k * 4 + 1, none⟩ = some (.string T) := (HB.out.cell (p := ⟨g1, o1 + k * 4 + 1, none⟩) hg1).trans x1
      have u2 : wr.cell? ⟨g1, o1 + k * 4 + 2, none⟩ = some (.int .i64 nm) := (HB.out.cell (p := ⟨g1, o1 + k * 4 + 2, none⟩) hg1).trans x2
      have u3 : wr.cell? ⟨g1, o1 + k * 4 + 3, none⟩ = some (.int .i64 (px : Int)) := (HB.out.cell (p := ⟨g1, o1 + k * 4 + 3, none⟩) hg1).trans x3
      have v0 : wr.cell? ⟨g2, o2 + k * 4, none⟩ = some (.int .i64 kd) := (HB.out.cell (p := ⟨g2, o2 + k * 4, none⟩) hg2).trans y0
      have v1 : wr.cell? ⟨g2, o2 + k * 4 + 1, none⟩ = some (.string T) := (HB.out.cell (p := ⟨g2, o2 + k * 4 + 1, none⟩) hg2).trans y1
      have v2 : wr.cell? ⟨g2, o2 + k * 4 + 2, none⟩ = some (.int .i64 nm) := (HB.out.cell (p := ⟨g2, o2 + k * 4 + 2, none⟩) hg2).trans y2
      have v3 : wr.cell? ⟨g2, o2 + k * 4 + 3, none⟩ = some (.int .i64 (py : Int)) := (HB.out.cell (p := ⟨g2, o2 + k * 4 + 3, none⟩) hg2).trans y3
      have q1 : g1 < wr.heap.size := Nat.lt_of_lt_of_le hg1 HB.out.size
      have q2 : g2 < wr.heap.size := Nat.lt_of_lt_of_le hg2 HB.out.size
      clear x0 x1 x2 x3 y0 y1 y2 y3 z0 z1 z2 hpx hpy
      have t1 : (T.toList == T.toList) = true := by simp
      rcases places with _ | _
      · clear z3
        go_wp2
        go_region
        all_goals
          go_wp2
          go_roundw
          case rel => exact ⟨k + 1, by omega, by go_num, ((HB.out.alloc HB.out.size _).alloc (by have := HB.out.size; simp; omega) _).drew⟩
          case measure => simp [intOf]; omega
      · obtain rfl : px = py := z3 rfl
        clear z3
        go_wp2
        go_region
        all_goals
          go_wp2
          go_roundw
          case rel => exact ⟨k + 1, by omega, by go_num, ((HB.out.alloc HB.out.size _).alloc (by have := HB.out.size; simp; omega) _).drew⟩
          case measure => simp [intOf]; omega
    · go_wp2
      go_ret
      exact ⟨rfl, HB.out⟩

set_option maxHeartbeats 1000000 in
theorem same_nil (places : Bool) (w : World) :
    Calls Try.prog 10 #[.slice none 0 0, .slice none 0 0, .bool places] w fun e w' => e = .returned (.bool true) ∧ Below w.heap.size w w' := by
  go_enter Try.func10, Try.ntmps10
  go_wp2
  go_rounds 1
  go_ret
  exact ⟨rfl, Below.refl _ _⟩

/-- rows of tokens that lie somewhere, and are the same -/
theorem same_true (places : Bool) (va vb : Value) (a b : List Tok) (w : World) (hal : alikes places a b) (ha : TRd w va a) (hb : TRd w vb b) (hna : va ≠ .slice none 0 0) (hnb : vb ≠ .slice none 0 0) :
    Calls Try.prog 10 #[va, vb, .bool places] w fun e w' => e = .returned (.bool true) ∧ Below w.heap.size w w' := by
  rcases ha with ⟨h, _⟩ | ⟨g1, o1, c1, rfl, p1, p2, p3, p4⟩
  · exact absurd h hna
  · rcases hb with ⟨h, _⟩ | ⟨g2, o2, c2, rfl, q1, q2, q3, q4⟩
    · exact absurd h hnb
    · exact same_some places g1 o1 c1 g2 o2 c2 a b w hal p1 q1 p2 q2 p3 q3 p4 q4
end Go.Proofs.Ytnofibjchhcmeaa
