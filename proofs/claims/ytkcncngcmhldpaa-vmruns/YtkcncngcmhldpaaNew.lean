/- A machine is made. -/
import Derived.Test.YtkcncngcmhldpaaMk
import Derived.Maps.AppendAt
import Derived.Lib.SliceRun
namespace Go.Proofs.Ytkcncngcmhldpaa
open Go.RowKit Go.Maps
set_option linter.unusedVariables false

def ic (x : In) : List Value := [.int .i64 x.kind, .int .i64 x.op, .int .i64 x.a, .int .i64 x.b, .int .i64 x.c, .int .i64 x.k]
def ics : List In → List Value
  | [] => []
  | x :: l => ic x ++ ics l
theorem ics_len (l : List In) : (ics l).length = l.length * 6 := by
  induction l with
  | nil => rfl
  | cons x l ih => simp [ics, ic, ih]; omega
theorem ics_one (l : List In) : ∀ u ∈ ics l, u.oneCell' = true := by
  induction l with
  | nil => intro u hu; cases hu
  | cons x l ih =>
    intro u hu
    simp only [ics] at hu
    rcases List.mem_append.1 hu with h | h
    · simp [ic] at h; rcases h with rfl | rfl | rfl | rfl | rfl | rfl <;> rfl
    · exact ih u h
theorem ics_at : ∀ (l : List In) (i j : Nat) (hi : i < l.length), j < 6 → (ics l)[i * 6 + j]? = (ic l[i])[j]?
  | x :: l, 0, j, hi, hj => by
    simp only [Nat.zero_mul, Nat.zero_add, List.getElem_cons_zero, ics]
    rw [List.getElem?_append_left (by simp [ic]; omega)]
  | x :: l, i + 1, j, hi, hj => by
    simp only [ics, List.getElem_cons_succ]
    rw [List.getElem?_append_right (by simp [ic]; omega)]
    have : (i + 1) * 6 + j - (ic x).length = i * 6 + j := by simp [ic]; omega
    rw [this]
    exact ics_at l i j (by simpa using hi) hj
theorem info76 : (Try.prog.info? 76).map (fun i => (i.zero, i.size, i.bytes)) = some (some (.agg #[.int .i64 0, .int .i64 0, .int .i64 0, .int .i64 0, .int .i64 0, .int .i64 0]), 6, 48) := by kernel_rfl
theorem info_parts {P : Program} {t : Nat} {z : Value} {s b : Nat} (h : (P.info? t).map (fun i => (i.zero, i.size, i.bytes)) = some (some z, s, b)) : ∃ i, P.info? t = some i ∧ i.zero = some z ∧ i.size = s ∧ i.bytes = b := by
  cases hq : P.info? t with
  | none => rw [hq] at h; cases h
  | some i => rw [hq] at h; simp at h; exact ⟨i, rfl, h.1, h.2.1, h.2.2⟩
/-- cells of a row of instructions, one behind the other -/
theorem ISl.news {w : World} {ad : Addr} {b o : Nat} {l : List In} (h : ∀ i (h : i < l.length), IAt w b (o + i * 6) l[i]) : ∀ j u, (ics l)[j]? = some u → w.cell? ((⟨b, o, none⟩ : Addr).add j) = some u := by
  intro j u hj
  have hl : j < l.length * 6 := by rw [← ics_len]; exact (List.getElem?_eq_some_iff.1 hj).1
  obtain ⟨c0, c1, c2, c3, c4, c5⟩ := h (j / 6) (by omega)
  have e := ics_at l (j / 6) (j % 6) (by omega) (by omega)
  rw [show j / 6 * 6 + j % 6 = j by omega, hj] at e
  rw [addn, show o + j = o + j / 6 * 6 + j % 6 by omega]
  have h6 : j % 6 = 0 ∨ j % 6 = 1 ∨ j % 6 = 2 ∨ j % 6 = 3 ∨ j % 6 = 4 ∨ j % 6 = 5 := by omega
  rcases h6 with h6 | h6 | h6 | h6 | h6 | h6 <;> rw [h6] at e ⊢
  · exact c0.trans e.symm
  · exact c1.trans e.symm
  · exact c2.trans e.symm
  · exact c3.trans e.symm
  · exact c4.trans e.symm
  · exact c5.trans e.symm
/-- what Clone leaves -/
def CloneP (l : List In) (w : World) (e : Ending) (w' : World) : Prop := ∃ g cap, e = .returned (.slice (some ⟨g, 0, none⟩) l.length cap) ∧ w.heap.size ≤ g ∧ l.length ≤ cap ∧ (∀ i (h : i < l.length), IAt w' g (i * 6) l[i]) ∧ Below w.heap.size w w'

set_option maxRecDepth 100000 in
set_option maxHeartbeats 2000000 in
theorem clone_any (l : List In) (v : Value) (hl : 0 < l.length ∧ l.length ≤ 1000) (w : World) (hv : ISl w v l) : Calls Try.prog 42 #[v] w (CloneP l w) := by
  obtain ⟨i0, hi, hz0, hz1, hz2⟩ := info_parts info76
  obtain ⟨ad, cap, b, o, rfl, h2, h3, h4, h5⟩ := hv
  obtain rfl := h4 hl.1
  obtain ⟨N, hN⟩ : ∃ N, l.length = N := ⟨_, rfl⟩
  have HN : Hid (l.length = N) := hN
  have H5 : Hid (∀ i (h : i < l.length), IAt w b (o + i * 6) l[i]) := h5
  rw [hN] at hl h2 ⊢
  clear hN h5 h4
  have hnil : (binOp .eql 22 (.slice (some ⟨b, o, none⟩) N cap) (.slice none 0 0)).run Try.prog w = .ok (.bool false) w := Lib.run_eql_slice_nil w 22 76 (some ⟨b, o, none⟩) N cap 0 0 Try.underlying22
  go_enter Try.func42, Try.ntmps42
  go_wp2_with (at_builtin; refine wpList_append_own_at _ rfl _ _ 22 rfl w.heap.size 76 i0 _ 6 48 Try.underlying22 hi hz0 hz1 hz2 rfl (by decide) _ 0 [] rfl ?d0 ⟨b, o, none⟩ N cap (ics l) rfl ?dl ?d1 (ics_one l) ?d3 ?d4 ?d5 ?_)
  case d0 => exact ⟨rfl, Or.inr ⟨w.heap.size, 0, #[], rfl, Nat.le_refl _, heap_alloc_new w _, Nat.le_refl _, by unfold maxLen; omega, rfl, rfl⟩⟩
  case dl => rw [ics_len, HN.out]
  case d1 => exact ISl.news (ad := ⟨b, o, none⟩) (fun i hi => (H5.out i hi).block (Below.heap_alloc _ _ _ (H5.out i hi).lt))
  case d3 => unfold maxLen; omega
  case d4 => omega
  case d5 => simp
  intro v' w' hown hg _ _
  have hce := fun g => World.ownsRow.cells hown (g := g)
  obtain ⟨_, h6⟩ := hown
  rcases h6 with ⟨_, h6⟩ | ⟨g, c', cur, rfl, e2, e3, e4, e5, e6, e7⟩
  · omega
  have HB : Hid (Below w.heap.size w w') := ⟨hg.os, hg.tape, hg.output, Nat.le_trans (by simp) hg.size, fun k hk => (hg.block k (by simp; omega) (by intro e; injection e with e; simp at e; omega)).trans (Below.heap_alloc _ _ _ hk)⟩
  have HR : Hid (∀ i (h : i < l.length), IAt w' g (i * 6) l[i]) := fun i hi => by
    have hc : ∀ j (hj : j < 6) (u : Value), (ic l[i])[j]? = some u → w'.cell? ⟨g, i * 6 + j, none⟩ = some u := by
      intro j hj u hu
      have := hce g rfl (i * 6 + j) u ((ics_at l i j hi hj).trans hu)
      rw [addn, Nat.zero_add] at this
      exact this
    exact ⟨hc 0 (by omega) _ rfl, hc 1 (by omega) _ rfl, hc 2 (by omega) _ rfl, hc 3 (by omega) _ rfl, hc 4 (by omega) _ rfl, hc 5 (by omega) _ rfl⟩
  clear hce hg e3 e6 e7 H5
  go_wp2
  go_ret
  exact ⟨g, c', by rw [HN.out]; rfl, e2, by rw [HN.out]; exact e4, HR.out, HB.out⟩

/-- New's error -/
def newE (C : List In) (cells words fuel : Int) : Int :=
  if (checkL C cells).2 ≠ 0 then (checkL C cells).2 else if words < 1 ∨ 64 < words then 130 else if fuel < 1 ∨ 4000 < fuel then 110 else 0
theorem checkL_ok {C : List In} {cells : Int} (h : (checkL C cells).2 = 0) : 0 < C.length ∧ C.length ≤ 600 := by
  unfold checkL at h
  split at h
  · cases h
  · omega
/-- what New leaves -/
def NewP (C : List In) (cells words fuel n i k : Int) (w : World) (e : Ending) (w' : World) : Prop :=
  (∃ er, e = .returned (.tuple #[.pointer none, .int .i64 er]) ∧ newE C cells words fuel = er ∧ er ≠ 0 ∧ Below w.heap.size w w') ∨
  (∃ (vb g cap : Nat) (m : Fx), e = .returned (.tuple #[.pointer (some ⟨vb, 0, none⟩), .int .i64 0]) ∧ newE C cells words fuel = 0 ∧ w.heap.size ≤ vb ∧ w.heap.size ≤ g ∧ m = ⟨.slice (some ⟨g, 0, none⟩) C.length cap, words, fuel, n, i, k⟩ ∧ MC w' vb g cap m C (St0 n i k) ∧ Below w.heap.size w w')

set_option maxRecDepth 100000 in
set_option maxHeartbeats 2000000 in
theorem new_any (C : List In) (v : Value) (cells words fuel n i k : Int) (w : World) (hv : ISl w v C) : Calls Try.prog 21 #[v, .int .i64 cells, .int .i64 words, .int .i64 fuel, .int .i64 n, .int .i64 i, .int .i64 k] w (NewP C cells words fuel n i k w) := by
  have HK : Hid (Calls Try.prog 41 #[v, .int .i64 cells] w fun e w' => e = .returned (.tuple #[.int .i64 (checkL C cells).1, .int .i64 (checkL C cells).2]) ∧ Below w.heap.size w w') := check_any C cells v w hv
  have HV : Hid (ISl w v C) := hv
  obtain ⟨r, hr⟩ : ∃ r, newE C cells words fuel = r := ⟨_, rfl⟩
  have HR : Hid (newE C cells words fuel = r) := hr
  unfold newE at hr
  have HC : Hid ((checkL C cells).2 = 0 → 0 < C.length ∧ C.length ≤ 600) := checkL_ok
  generalize (checkL C cells).1 = c1 at HK
  generalize (checkL C cells).2 = c2 at HK hr HC
  clear hv
  by_cases h2 : c2 = 0
  · subst h2
    rw [if_neg (by simp)] at hr
    have hlen := HC.out rfl
    by_cases hw1 : words < 1
    · rw [if_pos (by omega)] at hr
      subst hr
      have e1 : decide (words < 1) = true := by simp [hw1]
      clear HC hlen
      go_enter Try.func21, Try.ntmps21
      go_wp2_with (go_at_call 41; refine HK.out.mono ?_; rintro e w1 ⟨rfl, hb⟩; have HB : Hid (Below w.heap.size w w1) := hb; clear hb)
      go_ret2
      exact Or.inl ⟨130, rfl, HR.out, (by decide), HB.out⟩
    · have e1 : decide (words < 1) = false := by simp; omega
      by_cases hw2 : 64 < words
      · rw [if_pos (by omega)] at hr
        subst hr
        have e2 : decide (64 < words) = true := by simp [hw2]
        clear HC hlen
        go_enter Try.func21, Try.ntmps21
        go_wp2_with (go_at_call 41; refine HK.out.mono ?_; rintro e w1 ⟨rfl, hb⟩; have HB : Hid (Below w.heap.size w w1) := hb; clear hb)
        go_ret2
        exact Or.inl ⟨130, rfl, HR.out, (by decide), HB.out⟩
      · have e2 : decide (64 < words) = false := by simp; omega
        rw [if_neg (by omega)] at hr
        by_cases hf1 : fuel < 1
        · rw [if_pos (by omega)] at hr
          subst hr
          have e3 : decide (fuel < 1) = true := by simp [hf1]
          clear HC hlen
          go_enter Try.func21, Try.ntmps21
          go_wp2_with (go_at_call 41; refine HK.out.mono ?_; rintro e w1 ⟨rfl, hb⟩; have HB : Hid (Below w.heap.size w w1) := hb; clear hb)
          go_ret2
          exact Or.inl ⟨110, rfl, HR.out, (by decide), HB.out⟩
        · have e3 : decide (fuel < 1) = false := by simp; omega
          by_cases hf2 : 4000 < fuel
          · rw [if_pos (by omega)] at hr
            subst hr
            have e4 : decide (4000 < fuel) = true := by simp [hf2]
            clear HC hlen
            go_enter Try.func21, Try.ntmps21
            go_wp2_with (go_at_call 41; refine HK.out.mono ?_; rintro e w1 ⟨rfl, hb⟩; have HB : Hid (Below w.heap.size w w1) := hb; clear hb)
            go_ret2
            exact Or.inl ⟨110, rfl, HR.out, (by decide), HB.out⟩
          · have e4 : decide (4000 < fuel) = false := by simp; omega
            rw [if_neg (by omega)] at hr
            subst hr
            have HRS : Hid (∀ W vb m s, VM W vb m s → Calls Try.prog 24 #[.pointer (some ⟨vb, 0, none⟩)] W fun e w' => e = .returned (.tuple #[]) ∧ VM w' vb m (St0 m.n m.i m.k) ∧ Ch vb W w') := fun W vb m s hW => reset_any vb m s W hW
            have HL : Hid (∀ W, ISl W v C → Calls Try.prog 42 #[v] W (CloneP C W)) := fun W hW => clone_any C v (by omega) W hW
            clear HC
            go_enter Try.func21, Try.ntmps21
            go_wp2_with (first | (go_at_call 41; refine HK.out.mono ?_; rintro e w1 ⟨rfl, hb⟩; have HB : Hid (Below w.heap.size w w1) := hb; have HV1 : Hid (ISl w1 v C) := HV.out.below hb; clear hb) | (go_at_call 42; refine (HL.out w1 HV1.out).mono ?_; rintro e w2 ⟨g, cap, rfl, hg, hcap, hrow, hb⟩; have HRW : Hid (∀ i (h : i < C.length), IAt w2 g (i * 6) C[i]) := hrow; have HB2 : Hid (Below w.heap.size w w2) := HB.out.trans (hb.mono HB.out.size); have hge : w.heap.size ≤ g := Nat.le_trans HB.out.size hg; clear hrow hb hg) | (go_at_call 24; refine (HRS.out _ w2.heap.size ⟨.slice (some ⟨g, 0, none⟩) C.length cap, words, fuel, n, i, k⟩ StZ ⟨rfl, heap_alloc_new w2 _⟩).mono ?_; rintro e w3 ⟨rfl, h1, h2⟩))
            go_ret2
            exact Or.inr ⟨w2.heap.size, g, cap, _, rfl, HR.out, HB2.out.size, hge, rfl, ⟨h1, rfl, hcap, by omega, fun j hj => (HRW.out j hj).block ((h2.block g (by have := (HRW.out j hj).lt; simp; omega) (by have := (HRW.out j hj).lt; omega)).trans (Below.heap_alloc _ _ _ (HRW.out j hj).lt)), by have := (HRW.out 0 (by omega)).lt; omega⟩, (HB2.out.trans ⟨h2.os, h2.tape, h2.output, Nat.le_trans (by simp) h2.size, fun j hj => (h2.block j (by have := HB2.out.size; simp; omega) (by have := HB2.out.size; omega)).trans (Below.heap_alloc _ _ _ (by have := HB2.out.size; omega))⟩)⟩
  · rw [if_pos h2] at hr
    subst hr
    have e2 : (c2 != 0) = true := by simp [h2]
    clear HC
    go_enter Try.func21, Try.ntmps21
    go_wp2_with (go_at_call 41; refine HK.out.mono ?_; rintro e w1 ⟨rfl, hb⟩; have HB : Hid (Below w.heap.size w w1) := hb; clear hb)
    go_ret2
    exact Or.inl ⟨c2, rfl, HR.out, h2, HB.out⟩
end Go.Proofs.Ytkcncngcmhldpaa
