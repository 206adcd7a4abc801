/- Rows of registers held against each other. -/
import Derived.Test.YtiafdlebggegfabNew
import Derived.Deep.QuietTactic
import Derived.BigQuiet
namespace Go.Proofs.Ytiafdlebggegfab
open Go.RowKit Go.Maps Go.WideMaps
set_option linter.unusedVariables false

/-- the slice v reads as the integers l -/
def IRd (w : World) (v : Value) (l : List Int) : Prop := ∃ a cap b o, v = .slice a l.length cap ∧ l.length ≤ cap ∧ cap ≤ maxLen ∧ (0 < l.length → a = some ⟨b, o, none⟩ ∧ b < w.heap.size) ∧ ∀ i (h : i < l.length), w.cell? ⟨b, o + i, none⟩ = some (.int .i64 l[i])
theorem IRd.below {w w' : World} {v : Value} {l : List Int} (h : IRd w v l) (hb : Below w.heap.size w w') : IRd w' v l := by
  obtain ⟨a, cap, b, o, h1, h2, h3, h4, h5⟩ := h
  refine ⟨a, cap, b, o, h1, h2, h3, fun h0 => ⟨(h4 h0).1, Nat.lt_of_lt_of_le (h4 h0).2 hb.size⟩, fun i hi => ?_⟩
  exact (hb.cell (p := ⟨b, o + i, none⟩) (h4 (by omega)).2).trans (h5 i hi)
theorem Ints.rd {w : World} {base : Nat} {v : Value} {l : List Int} (h : Ints w base v l) : IRd w v l := by
  have hlt := h.own
  have hce := fun g => World.ownsRow.cells h (g := g)
  rcases h.2 with ⟨h1, h0⟩ | ⟨g, cap, cur, e1, e2, e3, e4, e5, _⟩
  · exact ⟨none, 0, 0, 0, by rw [h0]; exact h1, by omega, Nat.zero_le _, fun h => by omega, fun i hi => by omega⟩
  · refine ⟨some ⟨g, 0, none⟩, cap, g, 0, e1, e4, e5, fun _ => ⟨rfl, (hlt g (by rw [e1]; rfl)).2⟩, fun i hi => ?_⟩
    have := hce g (by rw [e1]; rfl) i (.int .i64 l[i]) (by rw [List.getElem?_map, List.getElem?_eq_getElem hi]; rfl)
    rw [Nat.zero_add, ← this]
    congr 1
    simp [Addr.add]
theorem IRd.nil (w : World) : IRd w (.slice none 0 0) [] := ⟨none, 0, 0, 0, rfl, Nat.le_refl _, Nat.zero_le _, fun h => absurd h (by simp), fun i hi => absurd hi (by simp)⟩
/-- its first ones -/
theorem IRd.take {w : World} {a : Option Addr} {n cap : Nat} {l : List Int} (h : IRd w (.slice a n cap) l) (k : Nat) (hk : k ≤ n) : IRd w (.slice a k cap) (l.take k) := by
  obtain ⟨a', cap', b, o, h1, h2, h3, h4, h5⟩ := h
  cases h1
  refine ⟨a, cap, b, o, by rw [List.length_take, Nat.min_eq_left hk], by simp; omega, h3, fun h0 => h4 (by simp at h0; omega), fun i hi => ?_⟩
  have hi' : i < l.length := by simp at hi; omega
  rw [h5 i hi', List.getElem_take]

set_option maxRecDepth 100000 in
set_option maxHeartbeats 1000000 in
theorem row_same (va vb : Value) (l : List Int) (w : World) (hl : l.length ≤ 1000000000) (ha : IRd w va l) (hb : IRd w vb l) :
    Calls Try.prog 13 #[va, vb] w fun e w' => e = .returned (.bool true) ∧ Below w.heap.size w w' := by
  obtain ⟨a, ca, ba, oa, rfl, a1, a2, a3, a4⟩ := ha
  obtain ⟨b, cb, bb, ob, rfl, b1, b2, b3, b4⟩ := hb
  have HA : Hid (∀ i (h : i < l.length), w.cell? ⟨ba, oa + i, none⟩ = some (.int .i64 l[i])) := a4
  have HB : Hid (∀ i (h : i < l.length), w.cell? ⟨bb, ob + i, none⟩ = some (.int .i64 l[i])) := b4
  obtain ⟨n, hn⟩ : ∃ n, l.length = n := ⟨_, rfl⟩
  have HN : Hid (l.length = n) := hn
  rw [hn] at hl a1 a3 b1 b3 ⊢
  unfold maxLen at a2 b2
  clear a4 b4 hn
  go_enter Try.func13, Try.ntmps13
  go_wp2
  go_loopw [5] (fun i wr => ∃ k : Nat, k ≤ n ∧ i = .int .i64 (k : Int) ∧ Hid (Below w.heap.size w wr)) (fun i _ => n - (intOf i).toNat)
  case atStart => exact ⟨0, Nat.zero_le _, rfl, Below.refl _ _⟩
  case round =>
    obtain ⟨k, hk, rfl, HBl⟩ := hrel
    by_cases hlt : k < n
    · obtain ⟨e1, g1⟩ := a3 (by omega)
      obtain ⟨e2, g2⟩ := b3 (by omega)
      subst e1 e2
      have hkl : k < l.length := by have := HN.out; omega
      obtain ⟨x, hx⟩ : ∃ x, l[k] = x := ⟨_, rfl⟩
      have x1 : wr.cell? ⟨ba, oa + k, none⟩ = some (.int .i64 x) := by rw [← hx]; exact (HBl.out.cell (p := ⟨ba, oa + k, none⟩) g1).trans (HA.out k hkl)
      have x2 : wr.cell? ⟨bb, ob + k, none⟩ = some (.int .i64 x) := by rw [← hx]; exact (HBl.out.cell (p := ⟨bb, ob + k, none⟩) g2).trans (HB.out k hkl)
      have q1 : ba < wr.heap.size := Nat.lt_of_lt_of_le g1 HBl.out.size
      have q2 : bb < wr.heap.size := Nat.lt_of_lt_of_le g2 HBl.out.size
      clear hx
      go_wp2
      go_region
      all_goals
        go_wp2
        go_roundw
        case rel => exact ⟨k + 1, by omega, by go_num, HBl.out.drew⟩
        case measure => simp [intOf]; omega
    · go_wp2
      go_ret
      exact ⟨rfl, HBl.out⟩
end Go.Proofs.Ytiafdlebggegfab
