/- What Encode answers. -/
import Derived.Test.YthcidcfaodjbjaaLay
namespace Go.Proofs.Ythcidcfaodjbjaa
open Go.RowKit
set_option linter.unusedVariables false
set_option linter.unusedSimpArgs false

set_option maxRecDepth 100000 in
/-- what may be has small numbers -/
theorem pos_of_one (x : In) (cells long : Int) (h : oneC x cells long = 0) (hr : r64 x.k) : Pos x := by
  by_cases hb : x.kind < 1 ∨ 13 < x.kind
  · rw [oneC_none x cells long hb] at h; omega
  · obtain ⟨n, op, a, b, c, k⟩ := x
    have : n = 1 ∨ n = 2 ∨ n = 3 ∨ n = 4 ∨ n = 5 ∨ n = 6 ∨ n = 7 ∨ n = 8 ∨ n = 9 ∨ n = 10 ∨ n = 11 ∨ n = 12 ∨ n = 13 := by simp at hb; omega
    rcases this with rfl | rfl | rfl | rfl | rfl | rfl | rfl | rfl | rfl | rfl | rfl | rfl | rfl
    · rw [oneC_1] at h
      (repeat' split at h) <;> first | omega | (refine ⟨⟨?_, ?_⟩, ⟨?_, ?_⟩, ⟨?_, ?_⟩, ⟨?_, ?_⟩, ⟨?_, ?_⟩, hr⟩ <;> simp only <;> omega)
    · rw [oneC_2] at h
      (repeat' split at h) <;> first | omega | (refine ⟨⟨?_, ?_⟩, ⟨?_, ?_⟩, ⟨?_, ?_⟩, ⟨?_, ?_⟩, ⟨?_, ?_⟩, hr⟩ <;> simp only <;> omega)
    · rw [oneC_3] at h
      (repeat' split at h) <;> first | omega | (refine ⟨⟨?_, ?_⟩, ⟨?_, ?_⟩, ⟨?_, ?_⟩, ⟨?_, ?_⟩, ⟨?_, ?_⟩, hr⟩ <;> simp only <;> omega)
    · rw [oneC_4] at h
      (repeat' split at h) <;> first | omega | (refine ⟨⟨?_, ?_⟩, ⟨?_, ?_⟩, ⟨?_, ?_⟩, ⟨?_, ?_⟩, ⟨?_, ?_⟩, hr⟩ <;> simp only <;> omega)
    · rw [oneC_5] at h
      (repeat' split at h) <;> first | omega | (refine ⟨⟨?_, ?_⟩, ⟨?_, ?_⟩, ⟨?_, ?_⟩, ⟨?_, ?_⟩, ⟨?_, ?_⟩, hr⟩ <;> simp only <;> omega)
    · rw [oneC_6] at h
      (repeat' split at h) <;> first | omega | (refine ⟨⟨?_, ?_⟩, ⟨?_, ?_⟩, ⟨?_, ?_⟩, ⟨?_, ?_⟩, ⟨?_, ?_⟩, hr⟩ <;> simp only <;> omega)
    · rw [oneC_7] at h
      (repeat' split at h) <;> first | omega | (refine ⟨⟨?_, ?_⟩, ⟨?_, ?_⟩, ⟨?_, ?_⟩, ⟨?_, ?_⟩, ⟨?_, ?_⟩, hr⟩ <;> simp only <;> omega)
    · rw [oneC_8] at h
      (repeat' split at h) <;> first | omega | (refine ⟨⟨?_, ?_⟩, ⟨?_, ?_⟩, ⟨?_, ?_⟩, ⟨?_, ?_⟩, ⟨?_, ?_⟩, hr⟩ <;> simp only <;> omega)
    · rw [oneC_9] at h
      (repeat' split at h) <;> first | omega | (refine ⟨⟨?_, ?_⟩, ⟨?_, ?_⟩, ⟨?_, ?_⟩, ⟨?_, ?_⟩, ⟨?_, ?_⟩, hr⟩ <;> simp only <;> omega)
    · rw [oneC_10] at h
      (repeat' split at h) <;> first | omega | (refine ⟨⟨?_, ?_⟩, ⟨?_, ?_⟩, ⟨?_, ?_⟩, ⟨?_, ?_⟩, ⟨?_, ?_⟩, hr⟩ <;> simp only <;> omega)
    · rw [oneC_11] at h
      (repeat' split at h) <;> first | omega | (refine ⟨⟨?_, ?_⟩, ⟨?_, ?_⟩, ⟨?_, ?_⟩, ⟨?_, ?_⟩, ⟨?_, ?_⟩, hr⟩ <;> simp only <;> omega)
    · rw [oneC_12] at h
      (repeat' split at h) <;> first | omega | (refine ⟨⟨?_, ?_⟩, ⟨?_, ?_⟩, ⟨?_, ?_⟩, ⟨?_, ?_⟩, ⟨?_, ?_⟩, hr⟩ <;> simp only <;> omega)
    · rw [oneC_13] at h
      (repeat' split at h) <;> first | omega | (refine ⟨⟨?_, ?_⟩, ⟨?_, ?_⟩, ⟨?_, ?_⟩, ⟨?_, ?_⟩, ⟨?_, ?_⟩, hr⟩ <;> simp only <;> omega)

/-- an instruction's bytes, and a text's -/
def insB (x : In) : List UInt8 := uintB x.kind.toNat ++ partsB x ((lets x.kind).getD ⟨#[]⟩).data.toList
def rowB (l : List In) : List UInt8 := l.flatMap insB
def encB (l : List In) : List UInt8 := uintB l.length ++ rowB l
theorem insB_len (x : In) : (insB x).length ≤ 50 := by
  have h1 := uintF_len 9 x.kind.toNat
  have h2 := partsB_len x ((lets x.kind).getD ⟨#[]⟩).data.toList
  have h3 := lets_size x.kind
  have h4 : ((lets x.kind).getD ⟨#[]⟩).data.toList.length = ((lets x.kind).getD ⟨#[]⟩).size := by simp
  unfold insB uintB
  rw [List.length_append]
  omega
theorem rowB_len (l : List In) : (rowB l).length ≤ 50 * l.length := by
  unfold rowB
  induction l with
  | nil => simp
  | cons x l ih => have := insB_len x; simp only [List.flatMap_cons, List.length_append, List.length_cons]; omega
theorem rowB_next (l : List In) (k : Nat) (h : k < l.length) : rowB (l.take (k + 1)) = rowB (l.take k) ++ insB l[k] := by
  rw [List.take_succ_eq_append_getElem h]; unfold rowB; rw [List.flatMap_append]; simp only [List.flatMap_cons, List.flatMap_nil, List.append_nil]

theorem firstBad_none (cells long : Int) : ∀ (l : List In) (i : Nat), firstBad cells long i l = none → ∀ x ∈ l, oneC x cells long = 0
  | [], _, _, x, hx => absurd hx (by simp)
  | y :: l, i, h, x, hx => by
    unfold firstBad at h
    by_cases hy : oneC y cells long = 0
    · rw [if_pos hy] at h
      rcases List.mem_cons.1 hx with rfl | hx
      · exact hy
      · exact firstBad_none cells long l (i + 1) h x hx
    · rw [if_neg hy] at h; cases h
theorem firstBad_some (cells long : Int) : ∀ (l : List In) (i : Nat) (j : Nat) (e : Int), firstBad cells long i l = some (j, e) → e ≠ 0
  | [], _, _, _, h => by cases h
  | y :: l, i, j, e, h => by
    unfold firstBad at h
    by_cases hy : oneC y cells long = 0
    · rw [if_pos hy] at h; exact firstBad_some cells long l (i + 1) j e h
    · rw [if_neg hy] at h; injection h with h; injection h with _ h; rw [← h]; exact hy
theorem checkL_ok (l : List In) (cells : Int) (h : (checkL l cells).2 = 0) : 1 ≤ l.length ∧ l.length ≤ 600 ∧ ∀ x ∈ l, oneC x cells (l.length : Int) = 0 := by
  by_cases hlen : l.length = 0 ∨ 600 < l.length
  · rw [checkL_len l cells hlen] at h; simp at h
  · rcases hb : firstBad cells (l.length : Int) 0 l with _ | ⟨i, e⟩
    · exact ⟨by omega, by omega, firstBad_none _ _ l 0 hb⟩
    · rw [checkL_bad l cells hlen i e hb] at h
      exact absurd h (firstBad_some _ _ l 0 i e hb)

/-- what Encode answers -/
def EncPost (w : World) (l : List In) (cells : Int) (e : Ending) (w' : World) : Prop :=
  Below w.heap.size w w' ∧ (((checkL l cells).2 ≠ 0 ∧ e = .returned (.tuple #[.slice none 0 0, .int .i64 (checkL l cells).2])) ∨ ((checkL l cells).2 = 0 ∧ ∃ v, e = .returned (.tuple #[v, .int .i64 0]) ∧ Rd w' v (encB l)))
theorem rd_sl {w : World} {v : Value} {L : List UInt8} (h : Rd w v L) : ∃ a c, v = .slice a L.length c := by
  rcases h with ⟨rfl, rfl⟩ | ⟨b, off, cap, rfl, _⟩
  · exact ⟨none, 0, rfl⟩
  · exact ⟨_, _, rfl⟩

set_option maxRecDepth 100000 in
set_option maxHeartbeats 4000000 in
theorem encode_any (l : List In) (cells : Int) (v : Value) (w : World) (hv : ISl w v l) (hr : ∀ x ∈ l, r64 x.k) : Calls Try.prog 18 #[v, .int .i64 cells] w fun e w' => EncPost w l cells e w' := by
  have HV : Hid (ISl w v l) := hv
  have HR : Hid (∀ x ∈ l, r64 x.k) := hr
  obtain ⟨ad, cap, b, o, rfl, h2, h3, h4, h5⟩ := hv
  have H5 : Hid (∀ i (h : i < l.length), IAt w b (o + i * 6) l[i]) := h5
  unfold maxLen at h3
  clear hr h5
  go_enter Try.func18, Try.ntmps18
  go_wp2_with fail
  refine (check_any l cells _ w HV.out).mono ?_
  rintro e w1 ⟨rfl, b1⟩
  have B1 : Hid (Below w.heap.size w w1) := b1
  clear b1
  obtain ⟨c1, hc1⟩ : ∃ c, (checkL l cells).1 = c := ⟨_, rfl⟩
  obtain ⟨c2, hc2⟩ : ∃ c, (checkL l cells).2 = c := ⟨_, rfl⟩
  rw [hc1, hc2]
  have HC : Hid ((checkL l cells).2 = c2) := hc2
  clear hc1 hc2
  by_cases h0 : c2 = 0
  · subst h0
    obtain ⟨hl1, hl6, hone⟩ := checkL_ok l cells HC.out
    have HONE : Hid (∀ x ∈ l, oneC x cells (l.length : Int) = 0) := hone
    clear hone
    rw [h4 (by omega)]
    rw [h4 (by omega)] at HV
    clear h4
    go_wp2_with fail
    refine (new_any w1).mono ?_
    rintro e w2 ⟨rfl, k2, b2⟩
    have K2 : Hid (WS w2 w1.heap.size []) := k2
    have B2 : Hid (Below w1.heap.size w1 w2) := b2
    clear k2 b2
    obtain ⟨pb, hpb⟩ : ∃ pb, w1.heap.size = pb := ⟨_, rfl⟩
    rw [hpb] at K2 B2
    rw [hpb]
    have hle : w.heap.size ≤ pb := by rw [← hpb]; exact B1.out.size
    have B02 : Hid (Below w.heap.size w w2) := B1.out.trans (B2.out.mono hle)
    clear hpb
    go_wp2_with fail
    refine (uint_any pb l.length [] w2 (by omega) (by simp) K2.out).mono ?_
    rintro e w3 ⟨rfl, k3, b3, _⟩
    have K3 : Hid (WS w3 pb ([] ++ uintB l.length)) := k3
    have B3 : Hid (Below w.heap.size w w3) := B02.out.trans (b3.mono hle)
    clear k3 b3
    go_wp2
    go_loopw [28] (fun i wr => ∃ k : Nat, k ≤ l.length ∧ i = .int .i64 k ∧ Hid (WS wr pb (uintB l.length ++ rowB (l.take k))) ∧ Hid (Below w.heap.size w wr)) (fun i _ => l.length - (intOf i).toNat)
    case atStart => exact ⟨0, Nat.zero_le _, rfl, by have := K3.out; rw [List.nil_append] at this; rw [List.take_zero]; show WS _ _ (_ ++ []); rw [List.append_nil]; exact this, B3⟩
    case round =>
      obtain ⟨k, hk, rfl, HW, HB⟩ := hrel
      by_cases hlt : k < l.length
      · have hx : IAt wr b (o + k * 6) l[k] := (H5.out k hlt).block (HB.out.block b (H5.out k hlt).lt)
        have hm : l[k] ∈ l := List.getElem_mem hlt
        have HPOS : Hid (Pos l[k]) := pos_of_one _ cells (l.length : Int) (HONE.out _ hm) (HR.out _ hm)
        have HN : Hid (rowB (l.take (k + 1)) = rowB (l.take k) ++ insB l[k]) := rowB_next l k hlt
        obtain ⟨x, hxe⟩ : ∃ x, l[k] = x := ⟨_, rfl⟩
        rw [hxe] at hx HN HPOS
        obtain ⟨x0, x1, x2, x3, x4, x5⟩ := hx
        have hlen : (uintB l.length ++ rowB (l.take k)).length ≤ 100000 := by
          have h1 := rowB_len (l.take k)
          have h2 := uintF_len 9 l.length
          rw [List.length_append]
          unfold uintB
          simp only [List.length_take] at h1
          omega
        clear hxe hm
        go_wp2_with fail
        refine (lay_any pb x _ _ (by omega) HPOS.out (HW.out.below ((Below.refl _ _).alloc (Nat.le_refl _) _))).mono ?_
        rintro e w4 ⟨rfl, k4, b4⟩
        have K4 : Hid (WS w4 pb (uintB l.length ++ rowB (l.take (k + 1)))) := by
          show WS _ _ _
          rw [HN.out, ← List.append_assoc]
          exact k4
        have B4 : Hid (Below w.heap.size w w4) := (HB.out.alloc HB.out.size _).trans (b4.mono hle)
        clear k4 b4 x0 x1 x2 x3 x4 x5
        go_wp2
        go_roundw
        case rel => exact ⟨k + 1, hlt, by go_num, K4, B4⟩
        case measure => simp [intOf]; omega
      · have HW2 : Hid (WS wr pb (encB l)) := by
          have := HW.out
          rw [List.take_of_length_le (by omega)] at this
          exact this
        have hlen : (encB l).length ≤ 100000 := by
          have h1 := rowB_len l
          have h2 := uintF_len 9 l.length
          unfold encB uintB
          rw [List.length_append]
          omega
        go_wp2_with fail
        refine (bytes_any pb (encB l) _ (by omega) HW2.out).mono ?_
        rintro e w4 ⟨v4, rfl, r4, b4⟩
        have R4 : Hid (Rd w4 v4 (encB l)) := r4
        have B4 : Hid (Below w.heap.size w w4) := HB.out.trans (b4.mono HB.out.size)
        obtain ⟨a4, c4, rfl⟩ := rd_sl r4
        clear r4 b4
        go_wp2
        go_ret2
        exact ⟨B4.out, Or.inr ⟨HC.out, _, rfl, R4.out⟩⟩
  · go_wp2
    all_goals first | (exfalso; simp_all; done) | skip
    go_ret2
    exact ⟨B1.out, Or.inl ⟨by rw [HC.out]; exact h0, by rw [HC.out]; rfl⟩⟩
end Go.Proofs.Ythcidcfaodjbjaa
