/- The document's find: a name among those that are there. -/
import Derived.Test.YtiafdlebggegfabSlotsP
import Derived.Test.YtiafdlebggegfabBlock
import Derived.Deep.QuietTactic
import Derived.BigQuiet
namespace Go.Proofs.Ytiafdlebggegfab
open Go.RowKit Go.Maps Go.WideMaps
set_option linter.unusedVariables false

/-- what a call over registers that grow leaves alone -/
structure GO (w w' : World) (v v' : Value) : Prop where
  os : w'.os = w.os
  tape : w'.tape = w.tape
  output : w'.output = w.output
  size : w.heap.size ≤ w'.heap.size
  block : ∀ k, k < w.heap.size → some k ≠ v.ownBlock → w'.heap[k]? = w.heap[k]?
  loc : ∀ k, v'.ownBlock = some k → v.ownBlock = some k ∨ w.heap.size ≤ k
theorem GO.refl (w : World) (v : Value) : GO w w v v := ⟨rfl, rfl, rfl, Nat.le_refl _, fun _ _ _ => rfl, fun k h => Or.inl h⟩
theorem GO.trans {a b c : World} {v v1 v2 : Value} (h : GO a b v v1) (k : GO b c v1 v2) : GO a c v v2 := by
  refine ⟨k.os.trans h.os, k.tape.trans h.tape, k.output.trans h.output, Nat.le_trans h.size k.size, fun i hi h3 => ?_, fun i hi => ?_⟩
  · refine (k.block i (Nat.lt_of_lt_of_le hi h.size) ?_).trans (h.block i hi h3)
    intro e
    rcases h.loc i e.symm with h4 | h4
    · exact h3 h4.symm
    · omega
  · rcases k.loc i hi with h4 | h4
    · exact h.loc i h4
    · exact Or.inr (Nat.le_trans h.size h4)
theorem GO.of {b c : World} (v : Value) (k : Below b.heap.size b c) : GO b c v v := ⟨k.os, k.tape, k.output, k.size, fun i hi _ => k.block i hi, fun k h => Or.inl h⟩
theorem GO.after {a b c : World} {v v1 : Value} (h : GO a b v v1) (k : Below b.heap.size b c) : GO a c v v1 := h.trans (GO.of _ k)
theorem GO.below {B : Nat} {w w' : World} {v v' : Value} (h : GO w w' v v') (hB : B ≤ w.heap.size) (h3 : ∀ k, v.ownBlock = some k → B ≤ k) : Below B w w' :=
  ⟨h.os, h.tape, h.output, h.size, fun k hk => h.block k (by omega) (fun e => by have := h3 k e.symm; omega)⟩

/-- the names that are there, in memory, beside the registers ov -/
def TRd (w : World) (v ov : Value) (l : List ByteArray) : Prop := ∃ a cap b, v = .slice a l.length cap ∧ l.length ≤ cap ∧ cap ≤ maxLen ∧ (0 < l.length → a = some ⟨b, 0, none⟩ ∧ b < w.heap.size ∧ ov.ownBlock ≠ some b) ∧ ∀ i (h : i < l.length), w.cell? ⟨b, i, none⟩ = some (.string l[i])
theorem TRd.go {w w' : World} {v ov ov' : Value} {l : List ByteArray} (h : TRd w v ov l) (g : GO w w' ov ov') : TRd w' v ov' l := by
  obtain ⟨a, cap, b, h1, h2, h3, h4, h5⟩ := h
  refine ⟨a, cap, b, h1, h2, h3, fun h0 => ⟨(h4 h0).1, Nat.lt_of_lt_of_le (h4 h0).2.1 g.size, fun e => ?_⟩, fun i hi => ?_⟩
  · rcases g.loc b e with h | h
    · exact (h4 h0).2.2 h
    · have := (h4 h0).2.1; omega
  · obtain ⟨q1, q2, q3⟩ := h4 (by omega)
    exact (World.cell?_of_block (w := w) (a := ⟨b, i, none⟩) (g.block b q2 (fun e => q3 e.symm))).trans (h5 i hi)
theorem TRd.nil (w : World) (ov : Value) : TRd w (.slice none 0 0) ov [] := ⟨none, 0, 0, rfl, Nat.le_refl _, Nat.zero_le _, fun h => absurd h (by simp), fun i hi => absurd hi (by simp)⟩
theorem TRd.form {w : World} {v ov : Value} {l : List ByteArray} (h : TRd w v ov l) : ∃ a c, v = .slice a l.length c := by
  obtain ⟨a, cap, b, h1, _⟩ := h
  exact ⟨a, cap, h1⟩
theorem Strs.trd {w : World} {base : Nat} {v ov : Value} {l : List ByteArray} (h : Strs w base v l) (hne : ∀ g, v.ownBlock = some g → ov.ownBlock ≠ some g) : TRd w v ov l := by
  have hlt := h.own
  have hce := fun g => World.ownsRow.cells h (g := g)
  rcases h.2 with ⟨h1, h0⟩ | ⟨g, cap, cur, e1, e2, e3, e4, e5, _⟩
  · exact ⟨none, 0, 0, by rw [h0]; exact h1, by omega, Nat.zero_le _, fun h => by omega, fun i hi => by omega⟩
  · refine ⟨some ⟨g, 0, none⟩, cap, g, e1, e4, e5, fun _ => ⟨rfl, (hlt g (by rw [e1]; rfl)).2, hne g (by rw [e1]; rfl)⟩, fun i hi => ?_⟩
    have := hce g (by rw [e1]; rfl) i (.string l[i]) (by rw [List.getElem?_map, List.getElem?_eq_getElem hi]; rfl)
    rw [← this]
    congr 1
    simp [Addr.add]

theorem idxOf_at (s : ByteArray) (th : List ByteArray) : ∀ k, k < th.length → (∀ j (h : j < th.length), j < k → (th[j].toList == s.toList) = false) → ∀ i, idxOf s th i = idxOf s (th.drop k) (i + k) := by
  intro k
  induction k with
  | zero => intro _ _ i; simp
  | succ k ih =>
    intro hk hn i
    rw [ih (by omega) (fun j h hj => hn j h (by omega)) i, List.drop_eq_getElem_cons (by omega : k < th.length)]
    simp only [idxOf]
    rw [hn k (by omega) (by omega), if_neg (by simp)]
    congr 1
    omega
theorem idxOf_no (s : ByteArray) : ∀ (th : List ByteArray) (i : Int), (∀ j (h : j < th.length), (th[j].toList == s.toList) = false) → idxOf s th i = -1 := by
  intro th
  induction th with
  | nil => intro i _; rfl
  | cons t r ih =>
    intro i h
    have h0 := h 0 (by simp)
    simp only [List.getElem_cons_zero] at h0
    simp only [idxOf]
    rw [h0, if_neg (by simp)]
    exact ih (i + 1) (fun j hj => by have := h (j + 1) (by simp; omega); simpa using this)

def FPost (r : Int) (w : World) (e : Ending) (w' : World) : Prop := e = .returned (.int .i64 r) ∧ Below w.heap.size w w'

set_option maxRecDepth 100000 in
set_option maxHeartbeats 1000000 in
theorem find_any (th : List ByteArray) (vt ov : Value) (s : ByteArray) (w : World) (hT : TRd w vt ov th) (hl : th.length ≤ 8) :
    Calls Try.prog 30 #[vt, .string s] w (FPost (findI th s) w) := by
  obtain ⟨a, cap, b, rfl, h1, h2, h3, h4⟩ := hT
  have H4 : Hid (∀ i (h : i < th.length), w.cell? ⟨b, i, none⟩ = some (.string th[i])) := h4
  obtain ⟨n, hn⟩ : ∃ n, th.length = n := ⟨_, rfl⟩
  have HN : Hid (th.length = n) := hn
  rw [hn] at hl h1 h3 ⊢
  unfold maxLen at h2
  clear h4 hn
  unfold findI
  rcases t0 : (s.toList == [110]) with _ | _
  · rcases t1 : (s.toList == [105]) with _ | _
    · rcases t2 : (s.toList == [107]) with _ | _
      · rw [if_neg (by simp), if_neg (by simp), if_neg (by simp)]
        obtain ⟨res, hres⟩ : ∃ r, idxOf s th 3 = r := ⟨_, rfl⟩
        have HRES : Hid (idxOf s th 3 = res) := hres
        rw [hres]
        clear hres
        go_enter Try.func30, Try.ntmps30
        go_wp2
        go_loopw [5] (fun i wr => ∃ k : Nat, k ≤ n ∧ i = .int .i64 (k : Int) ∧ Hid (∀ j (h : j < th.length), j < k → (th[j].toList == s.toList) = false) ∧ Hid (Below w.heap.size w wr)) (fun i _ => n - (intOf i).toNat)
        case atStart => exact ⟨0, Nat.zero_le _, rfl, fun j _ h => by omega, Below.refl _ _⟩
        case round =>
          obtain ⟨k, hk, rfl, HNo, HBl⟩ := hrel
          by_cases hlt : k < n
          · obtain ⟨e1, g1, _⟩ := h3 (by omega)
            subst e1
            have hkl : k < th.length := by have := HN.out; omega
            obtain ⟨x, hx⟩ : ∃ x, th[k] = x := ⟨_, rfl⟩
            have HX : Hid (th[k] = x) := hx
            have x1 : wr.cell? ⟨b, k, none⟩ = some (.string x) := by rw [← hx]; exact (HBl.out.cell (p := ⟨b, k, none⟩) g1).trans (H4.out k hkl)
            have q1 : b < wr.heap.size := Nat.lt_of_lt_of_le g1 HBl.out.size
            clear hx
            rcases tk : (x.toList == s.toList) with _ | _
            · go_wp2
              go_roundw
              case rel => exact ⟨k + 1, by omega, by go_num, fun j h hj => by
                by_cases e : j = k
                · subst e; rw [HX.out]; exact tk
                · exact HNo.out j h (by omega), HBl⟩
              case measure => simp [intOf]; omega
            · have HRR : Hid (res = 3 + (k : Int)) := by
                show _ = _
                rw [← HRES.out, idxOf_at s th k hkl HNo.out, List.drop_eq_getElem_cons hkl]
                simp only [idxOf]
                rw [HX.out, tk, if_pos rfl]
              go_wp2
              go_ret
              exact ⟨by rw [HRR.out]; go_num, HBl.out⟩
          · have hkn : k = n := by omega
            have HRR : Hid (res = -1) := by show _ = _; rw [← HRES.out]; exact idxOf_no s th 3 (fun j h => HNo.out j h (by have := HN.out; omega))
            go_wp2
            go_ret
            exact ⟨by rw [HRR.out]; rfl, HBl.out⟩
      · rw [if_neg (by simp), if_neg (by simp), if_pos rfl]
        go_enter Try.func30, Try.ntmps30
        go_wp2
        go_ret
        exact ⟨rfl, Below.refl _ _⟩
    · rw [if_neg (by simp), if_pos rfl]
      go_enter Try.func30, Try.ntmps30
      go_wp2
      go_ret
      exact ⟨rfl, Below.refl _ _⟩
  · rw [if_pos rfl]
    go_enter Try.func30, Try.ntmps30
    go_wp2
    go_ret
    exact ⟨rfl, Below.refl _ _⟩
end Go.Proofs.Ytiafdlebggegfab
