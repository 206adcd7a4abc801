/- What dep.Accesses answers. -/
import Derived.Test.YtcaefimnhoeimaaTo
namespace Go.Proofs.Ytcaefimnhoeimaa
open Go.RowKit Go.Maps
set_option linter.unusedVariables false

set_option maxRecDepth 100000 in
set_option maxHeartbeats 2000000 in
theorem isHalt_any (x : In) (w : World) : Calls Try.prog 23 #[iv x] w fun e w' => e = .returned (.bool (x.kind == 1)) ∧ Below w.heap.size w w' := by
  unfold iv
  go_enter Try.func23, Try.ntmps23
  go_wp2
  go_ret
  exact ⟨rfl, bl1 _ _⟩
/-- the first place from i on -/
def haltFrom : Nat → List In → Option Nat
  | _, [] => none
  | i, x :: l => if x.kind = 1 then some i else haltFrom (i + 1) l
theorem haltFrom_next (l : List In) (i : Nat) (h : i < l.length) : haltFrom i (l.drop i) = if l[i].kind = 1 then some i else haltFrom (i + 1) (l.drop (i + 1)) := by
  rw [List.drop_eq_getElem_cons h]; rfl
theorem haltFrom_bd : ∀ (l : List In) (i j : Nat), haltFrom i l = some j → i ≤ j ∧ j < i + l.length
  | [], i, j, h => by cases h
  | x :: l, i, j, h => by
    unfold haltFrom at h
    split at h
    · injection h with h; subst h; simp
    · have := haltFrom_bd l (i + 1) j h; simp; omega
def haltI (l : List In) : Int := match haltFrom 0 l with | some i => (i : Int) | none => -1
set_option maxRecDepth 100000 in
set_option maxHeartbeats 2000000 in
theorem indexFunc_any (L : List In) (hlen : L.length ≤ 1000) (vL : Value) (w : World) (hv : ISl w vL L) : Calls Try.prog 22 #[vL, .func (.func 23) #[] #[]] w fun e w' => e = .returned (.int .i64 (haltI L)) ∧ Below w.heap.size w w' := by
  obtain ⟨ad, cap, b, o, rfl, h2, h3, h4, h5⟩ := hv
  obtain ⟨N, hN⟩ : ∃ N, L.length = N := ⟨_, rfl⟩
  have HN : Hid (L.length = N) := hN
  have H5 : Hid (∀ i (h : i < L.length), IAt w b (o + i * 6) L[i]) := h5
  have H4 : Hid (0 < L.length → ad = some ⟨b, o, none⟩) := h4
  obtain ⟨res, hres⟩ : ∃ r, haltI L = r := ⟨_, rfl⟩
  have HR : Hid (haltI L = res) := hres
  rw [hN, hres]
  rw [hN] at h2 hlen
  unfold maxLen at h3
  clear hN h5 h4 hres
  go_enter Try.func22, Try.ntmps22
  go_wp2_with fail
  go_loopw [8] (fun ii wr => ∃ (i : Nat), ii = .int .i64 (i : Int) ∧ i ≤ N ∧ Hid (haltFrom 0 L = haltFrom i (L.drop i)) ∧ Hid (Below w.heap.size w wr)) (fun ii _ => N - (intOf ii).toNat)
  case atStart => exact ⟨0, rfl, Nat.zero_le _, by show _ = _; rw [List.drop_zero], Below.refl _ _⟩
  case round =>
    obtain ⟨i, rfl, hi, HF, HB⟩ := hrel
    by_cases hlt : i < N
    · have hiL : i < L.length := by rw [HN.out]; exact hlt
      have hx : IAt wr b (o + i * 6) L[i] := (H5.out i hiL).block (HB.out.block b (H5.out i hiL).lt)
      obtain rfl := H4.out (by omega)
      have HNX : Hid (haltFrom 0 L = if L[i].kind = 1 then some i else haltFrom (i + 1) (L.drop (i + 1))) := HF.out.trans (haltFrom_next L i hiL)
      obtain ⟨x, hxx⟩ : ∃ x, L[i] = x := ⟨_, rfl⟩
      rw [hxx] at hx HNX
      clear hxx
      have HC : Hid (∀ W, Calls Try.prog 23 #[iv x] W fun e w' => e = .returned (.bool (x.kind == 1)) ∧ Below W.heap.size W w') := fun W => isHalt_any x W
      obtain ⟨kd, op, xa, xb, xc, xk⟩ := x
      obtain ⟨c0, c1, c2, c3, c4, c5⟩ := hx
      simp only at c0 c1 c2 c3 c4 c5 HNX
      unfold iv at HC
      simp only at HC
      by_cases hk : kd = 1
      · have HRS : Hid (res = (i : Int)) := by
          show _ = _
          rw [← HR.out]; unfold haltI; rw [HNX.out, if_pos hk]
        subst hk
        have e1 : ((1 : Int) == 1) = true := rfl
        rw [e1] at HC
        go_wp2_with fail
        refine (HC.out _).mono ?_
        rintro e w2 ⟨rfl, hb2⟩
        have HB2 : Hid (Below w.heap.size w w2) := HB.out.trans (hb2.mono HB.out.size)
        clear hb2
        go_wp2_with fail
        go_ret
        exact ⟨by rw [HRS.out]; rfl, HB2.out⟩
      · have HF2 : Hid (haltFrom 0 L = haltFrom (i + 1) (L.drop (i + 1))) := by
          show _ = _
          rw [HNX.out, if_neg hk]
        have e1 : (kd == 1) = false := by simpa using hk
        rw [e1] at HC
        go_wp2_with fail
        refine (HC.out _).mono ?_
        rintro e w2 ⟨rfl, hb2⟩
        have HB2 : Hid (Below w.heap.size w w2) := HB.out.trans (hb2.mono HB.out.size)
        clear hb2
        go_wp2_with fail
        go_roundw
        case rel => exact ⟨i + 1, by go_num, by omega, HF2, HB2⟩
        case measure => simp [intOf]; omega
    · have HRS : Hid (res = -1) := by
        show _ = _
        rw [← HR.out]; unfold haltI; rw [HF.out, List.drop_of_length_le (by rw [HN.out]; omega)]; rfl
      go_wp2_with fail
      go_ret
      exact ⟨by rw [HRS.out]; rfl, HB.out⟩
theorem ISl.take {w : World} {ad : Option Addr} {n cap : Nat} {l : List In} (h : ISl w (.slice ad n cap) l) (k : Nat) (hk : k ≤ l.length) : ISl w (.slice ad k cap) (l.take k) := by
  obtain ⟨a, c, b, o, h1, h2, h3, h4, h5⟩ := h
  injection h1 with e1 e2 e3
  subst e1 e3
  have hl : (l.take k).length = k := by simp; omega
  exact ⟨ad, cap, b, o, by rw [hl], by rw [hl]; omega, h3, fun h0 => h4 (by rw [hl] at h0; omega), fun i hi => by
    rw [List.getElem_take]; exact h5 i (by rw [hl] at hi; omega)⟩
set_option maxRecDepth 100000 in
set_option maxHeartbeats 2000000 in
theorem row_any (L : List In) (hlen : L.length ≤ 1000) (ad : Option Addr) (n cap : Nat) (w : World) (hv : ISl w (.slice ad n cap) L) (h0 : 0 < L.length) : Calls Try.prog 11 #[.slice ad n cap] w fun e w' => e = .returned (.slice ad (haltI L + 1).toNat cap) ∧ Below w.heap.size w w' := by
  have HI : Hid (∀ W, Below w.heap.size w W → Calls Try.prog 22 #[.slice ad n cap, .func (.func 23) #[] #[]] W fun e w' => e = .returned (.int .i64 (haltI L)) ∧ Below W.heap.size W w') := fun W hW => indexFunc_any L hlen _ W (hv.below hW)
  have hb : -1 ≤ haltI L ∧ haltI L < L.length := by
    unfold haltI
    rcases e : haltFrom 0 L with _ | j
    · simp; omega
    · have := haltFrom_bd L 0 j e; simp; omega
  obtain ⟨a, c, b, o, h1, h2, h3, h4, h5⟩ := hv
  injection h1 with e1 e2 e3
  subst e1 e2 e3
  obtain rfl := h4 h0
  obtain ⟨N, hN⟩ : ∃ N, L.length = N := ⟨_, rfl⟩
  rw [hN] at HI hb h2 h0 hlen ⊢
  obtain ⟨q, hq⟩ : ∃ q : Nat, haltI L = (q : Int) - 1 := ⟨(haltI L + 1).toNat, by omega⟩
  rw [hq] at HI hb ⊢
  have e : ((q : Int) - 1 + 1).toNat = q := by omega
  rw [e]
  unfold maxLen at h3
  clear h4 h5 hN hq e
  have hc0 : ¬ cap = 0 := by omega
  go_enter Try.func11, Try.ntmps11
  go_wp2_with fail
  refine (HI.out _ (Below.refl _ _)).mono ?_
  rintro e w2 ⟨rfl, hb2⟩
  have HB2 : Hid (Below w.heap.size w w2) := hb2
  clear hb2
  go_wp2_with fail
  go_ret
  exact ⟨rfl, HB2.out⟩

theorem oneC_ok {x : In} {cells long : Int} (h : oneC x cells long = 0) : OkI x := by
  obtain ⟨kd, op, xa, xb, xc, xk⟩ := x
  by_cases hk : kd < 1 ∨ 13 < kd
  · rw [oneC_none _ _ _ hk] at h; cases h
  have hk : kd = 1 ∨ kd = 2 ∨ kd = 3 ∨ kd = 4 ∨ kd = 5 ∨ kd = 6 ∨ kd = 7 ∨ kd = 8 ∨ kd = 9 ∨ kd = 10 ∨ kd = 11 ∨ kd = 12 ∨ kd = 13 := by omega
  rcases hk with rfl | rfl | rfl | rfl | rfl | rfl | rfl | rfl | rfl | rfl | rfl | rfl | rfl
  · rw [oneC_1] at h; (repeat' split at h) <;> first | (cases h; done) | (refine ⟨?_, ?_, ?_, ?_, ?_⟩ <;> dsimp only <;> omega)
  · rw [oneC_2] at h; (repeat' split at h) <;> first | (cases h; done) | (refine ⟨?_, ?_, ?_, ?_, ?_⟩ <;> dsimp only <;> omega)
  · rw [oneC_3] at h; (repeat' split at h) <;> first | (cases h; done) | (refine ⟨?_, ?_, ?_, ?_, ?_⟩ <;> dsimp only <;> omega)
  · rw [oneC_4] at h; (repeat' split at h) <;> first | (cases h; done) | (refine ⟨?_, ?_, ?_, ?_, ?_⟩ <;> dsimp only <;> omega)
  · rw [oneC_5] at h; (repeat' split at h) <;> first | (cases h; done) | (refine ⟨?_, ?_, ?_, ?_, ?_⟩ <;> dsimp only <;> omega)
  · rw [oneC_6] at h; (repeat' split at h) <;> first | (cases h; done) | (refine ⟨?_, ?_, ?_, ?_, ?_⟩ <;> dsimp only <;> omega)
  · rw [oneC_7] at h; (repeat' split at h) <;> first | (cases h; done) | (refine ⟨?_, ?_, ?_, ?_, ?_⟩ <;> dsimp only <;> omega)
  · rw [oneC_8] at h; (repeat' split at h) <;> first | (cases h; done) | (refine ⟨?_, ?_, ?_, ?_, ?_⟩ <;> dsimp only <;> omega)
  · rw [oneC_9] at h; (repeat' split at h) <;> first | (cases h; done) | (refine ⟨?_, ?_, ?_, ?_, ?_⟩ <;> dsimp only <;> omega)
  · rw [oneC_10] at h; (repeat' split at h) <;> first | (cases h; done) | (refine ⟨?_, ?_, ?_, ?_, ?_⟩ <;> dsimp only <;> omega)
  · rw [oneC_11] at h; (repeat' split at h) <;> first | (cases h; done) | (refine ⟨?_, ?_, ?_, ?_, ?_⟩ <;> dsimp only <;> omega)
  · rw [oneC_12] at h; (repeat' split at h) <;> first | (cases h; done) | (refine ⟨?_, ?_, ?_, ?_, ?_⟩ <;> dsimp only <;> omega)
  · rw [oneC_13] at h; (repeat' split at h) <;> first | (cases h; done) | (refine ⟨?_, ?_, ?_, ?_, ?_⟩ <;> dsimp only <;> omega)
theorem firstBad_none (cells long : Int) : ∀ (l : List In) (i : Nat), firstBad cells long i l = none → ∀ x ∈ l, oneC x cells long = 0
  | [], i, h, x, hx => by cases hx
  | y :: l, i, h, x, hx => by
    unfold firstBad at h
    split at h
    · rcases List.mem_cons.1 hx with rfl | hx
      · assumption
      · exact firstBad_none cells long l (i + 1) h x hx
    · cases h
theorem firstBad_zero (cells long : Int) : ∀ (l : List In) (i j : Nat), firstBad cells long i l = some (j, 0) → False
  | [], i, j, h => by cases h
  | y :: l, i, j, h => by
    unfold firstBad at h
    split at h
    · exact firstBad_zero cells long l (i + 1) j h
    · rename_i hn
      injection h with h
      injection h with _ h
      exact hn h
theorem check_ok {L : List In} {cells : Int} (h : (checkL L cells).2 = 0) : 0 < L.length ∧ L.length ≤ 600 ∧ ∀ x ∈ L, OkI x := by
  by_cases hl : L.length = 0 ∨ 600 < L.length
  · rw [checkL_len L cells hl] at h; cases h
  · refine ⟨by omega, by omega, fun x hx => ?_⟩
    rcases e : firstBad cells (L.length : Int) 0 L with _ | ⟨i, er⟩
    · exact oneC_ok (firstBad_none cells _ L 0 e x hx)
    · rw [checkL_bad L cells hl i er e] at h
      exfalso
      simp only at h
      subst h
      exact firstBad_zero cells _ L 0 i e
/-- what Accesses answers -/
def accR (L : List In) (cells : Int) : Option (List (Bool × Fm)) :=
  if (checkL L cells).2 = 0 then (match haltFrom 0 L with | some i => toldF startF (L.take i) | none => none) else none
set_option maxRecDepth 100000 in
set_option maxHeartbeats 2000000 in
theorem accesses_any (L : List In) (cells : Int) (vL : Value) (w : World) (hv : ISl w vL L) : Calls Try.prog 5 #[vL, .int .i64 cells] w (ToP (accR L cells) w) := by
  have HV : Hid (ISl w vL L) := hv
  have HC : Hid (∀ W, Below w.heap.size w W → Calls Try.prog 10 #[vL, .int .i64 cells] W fun e w' => e = .returned (.tuple #[.int .i64 (checkL L cells).1, .int .i64 (checkL L cells).2]) ∧ Below W.heap.size W w') := fun W hW => check_any L cells vL W (hv.below hW)
  obtain ⟨c1, hc1⟩ : ∃ c, (checkL L cells).1 = c := ⟨_, rfl⟩
  obtain ⟨c2, hc2⟩ : ∃ c, (checkL L cells).2 = c := ⟨_, rfl⟩
  rw [hc1, hc2] at HC
  obtain ⟨P, hP⟩ : ∃ P, ToP (accR L cells) w = P := ⟨_, rfl⟩
  have HP : Hid (ToP (accR L cells) w = P) := hP
  rw [hP]
  clear hP hc1
  by_cases h0 : c2 = 0
  · subst h0
    obtain ⟨l1, l2, l3⟩ := check_ok hc2
    have HR : Hid (accR L cells = match haltFrom 0 L with | some i => toldF startF (L.take i) | none => none) := by show _ = _; unfold accR; rw [if_pos hc2]
    obtain ⟨ad, cap, b, o, rfl, h2, h3, h4, h5⟩ := hv
    have HRW : Hid (∀ W, Below w.heap.size w W → Calls Try.prog 11 #[.slice ad L.length cap] W fun e w' => e = .returned (.slice ad (haltI L + 1).toNat cap) ∧ Below W.heap.size W w') := fun W hW => row_any L (by omega) ad _ cap W (HV.out.below hW) l1
    unfold haltI at HRW
    obtain rfl := h4 l1
    rcases hh : haltFrom 0 L with _ | j
    · rw [hh] at HRW HR
      simp only at HRW HR
      have e : ((-1 : Int) + 1).toNat = 0 := rfl
      rw [e] at HRW
      obtain ⟨N, hN⟩ : ∃ N, L.length = N := ⟨_, rfl⟩
      rw [hN] at HC HRW ⊢
      clear hh l3 h5 h4 hc2 e hN
      go_enter Try.func5, Try.ntmps5
      go_wp2_with fail
      refine (HC.out _ (Below.refl _ _)).mono ?_
      rintro e w2 ⟨rfl, hb2⟩
      have HB2 : Hid (Below w.heap.size w w2) := hb2
      clear hb2
      go_wp2_with fail
      refine (HRW.out _ HB2.out).mono ?_
      rintro e w3 ⟨rfl, hb3⟩
      have HB3 : Hid (Below w.heap.size w w3) := HB2.out.trans (hb3.mono HB2.out.size)
      have HF : Hid (P (.returned (.tuple #[.slice none 0 0, .bool false])) w3) := by
        show P _ _
        rw [← HP.out, HR.out]
        exact ⟨HB3.out, rfl⟩
      clear hb3
      go_wp2_with fail
      first | exact HF.out | (go_ret2; exact HF.out)
    · have hj := haltFrom_bd L 0 j hh
      rw [hh] at HRW HR
      simp only at HRW HR
      have e : ((j : Int) + 1).toNat = j + 1 := by omega
      rw [e] at HRW
      have HT : Hid (∀ W, Below w.heap.size w W → Calls Try.prog 12 #[.slice (some ⟨b, o, none⟩) j cap] W (ToP (toldF startF (L.take j)) W)) := fun W hW => told_any (L.take j) (fun x hx => l3 x (List.mem_of_mem_take hx)) (by simp; omega) _ W ((HV.out.below hW).take j (by omega))
      rw [← HR.out] at HT
      obtain ⟨N, hN⟩ : ∃ N, L.length = N := ⟨_, rfl⟩
      rw [hN] at HC HRW h2 hj l1 l2 ⊢
      unfold maxLen at h3
      have hc0 : ¬ cap = 0 := by omega
      clear hh l3 h5 h4 hc2 e hN
      go_enter Try.func5, Try.ntmps5
      go_wp2_with fail
      refine (HC.out _ (Below.refl _ _)).mono ?_
      rintro e w2 ⟨rfl, hb2⟩
      have HB2 : Hid (Below w.heap.size w w2) := hb2
      clear hb2
      go_wp2_with fail
      refine (HRW.out _ HB2.out).mono ?_
      rintro e w3 ⟨rfl, hb3⟩
      have HB3 : Hid (Below w.heap.size w w3) := HB2.out.trans (hb3.mono HB2.out.size)
      clear hb3
      go_wp2_with fail
      refine (HT.out _ HB3.out).mono ?_
      intro e w4 h4
      have HB4 : Hid (Below w.heap.size w w4) := HB3.out.trans (h4.1.mono HB3.out.size)
      generalize accR L cells = res at HP HR h4
      rcases res with _ | l
      · obtain rfl := h4.2
        have HF : Hid (P (.returned (.tuple #[.slice none 0 0, .bool false])) w4) := by
          show P _ _
          rw [← HP.out]
          exact ⟨HB4.out, rfl⟩
        clear h4
        go_wp2_with fail
        first | exact HF.out | (go_ret2; exact HF.out)
      · obtain ⟨v, rfl, haz⟩ := h4.2
        have HF : Hid (P (.returned (.tuple #[v, .bool true])) w4) := by
          show P _ _
          rw [← HP.out]
          exact ⟨HB4.out, v, rfl, haz.mono HB3.out.size⟩
        clear h4 haz
        go_wp2_with fail
        first | exact HF.out | (go_ret2; exact HF.out)
  · have HR : Hid (accR L cells = none) := by show _ = _; unfold accR; rw [if_neg (by rw [hc2]; exact h0)]
    have e0 : (c2 != 0) = true := by simpa using h0
    clear h0 hc2 hv
    go_enter Try.func5, Try.ntmps5
    go_wp2_with fail
    refine (HC.out _ (Below.refl _ _)).mono ?_
    rintro e w2 ⟨rfl, hb2⟩
    have HF : Hid (P (.returned (.tuple #[.slice none 0 0, .bool false])) w2) := by
      show P _ _
      rw [← HP.out, HR.out]
      exact ⟨hb2, rfl⟩
    clear hb2
    go_wp2_with fail
    first | exact HF.out | (go_ret2; exact HF.out)
end Go.Proofs.Ytcaefimnhoeimaa
