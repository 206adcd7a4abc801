/- What the document's reader takes up, in one form. -/
import Derived.Test.YthcidcfaodjbjaaPRefY
import Derived.Test.YthcidcfaodjbjaaBk
import Derived.Test.YthcidcfaodjbjaaRefS
import Derived.Test.YthcidcfaodjbjaaRefE
namespace Go.Proofs.Ythcidcfaodjbjaa
open Go.RowKit
set_option linter.unusedVariables false
set_option linter.unusedSimpArgs false

/-- the document's reader: what is left, and the error -/
def DRd (W : WG) (a : Option Addr) (n c : Nat) (L : List UInt8) (f : Int) : Prop := (f = 0 ∧ n = L.length ∧ RG W (.slice a n c) L) ∨ (f ≠ 0 ∧ L = [])
theorem dU (W : WG) (a : Option Addr) (n c : Nat) (L : List UInt8) (f : Int) (w : World) (hW : TG W w) (h : DRd W a n c L f) :
    Calls Try.prog 65 #[.agg #[.slice a n c, .int .i64 f]] w fun e w' => ∃ a' n' c', e = .returned (.tuple #[.agg #[.slice a' n' c', .int .i64 (rU L f).2.2], .int .u64 ((rU L f).1 : Int)]) ∧ DRd W a' n' c' (rU L f).2.1 (rU L f).2.2 ∧ Below w.heap.size w w' := by
  rcases h with ⟨rfl, rfl, hR⟩ | ⟨hf, rfl⟩
  · refine (tuint_ok W a c L w hW hR).mono ?_
    intro e w' hp
    unfold outU at hp
    unfold rU
    rw [if_pos rfl]
    rcases ht : tk 0 0 L with ⟨m, R⟩ | k
    · rw [ht] at hp
      obtain ⟨a', c', v, rfl, h1, rfl, h2⟩ := hp
      exact ⟨a', _, c', rfl, Or.inl ⟨rfl, rfl, h1⟩, h2⟩
    · rw [ht] at hp
      obtain ⟨a', n', c', rfl, h1, h2⟩ := hp
      exact ⟨a', n', c', rfl, Or.inr ⟨by simpa using h1, rfl⟩, h2⟩
  · refine (tuint_fail W a n c f w (by simp [hf])).mono ?_
    rintro e w' ⟨a', n', c', rfl, h1, h2⟩
    unfold rU
    rw [if_neg hf]
    exact ⟨a', n', c', rfl, Or.inr ⟨hf, rfl⟩, h2⟩
theorem dI (W : WG) (a : Option Addr) (n c : Nat) (L : List UInt8) (f : Int) (w : World) (hW : TG W w) (h : DRd W a n c L f) :
    Calls Try.prog 66 #[.agg #[.slice a n c, .int .i64 f]] w fun e w' => ∃ a' n' c', e = .returned (.tuple #[.agg #[.slice a' n' c', .int .i64 (rI L f).2.2], .int .i64 (rI L f).1]) ∧ DRd W a' n' c' (rI L f).2.1 (rI L f).2.2 ∧ Below w.heap.size w w' := by
  rcases h with ⟨rfl, rfl, hR⟩ | ⟨hf, rfl⟩
  · refine (tint_ok W a c L w hW hR).mono ?_
    intro e w' hp
    unfold outI at hp
    unfold rI
    rw [if_pos rfl]
    rcases ht : tk 0 0 L with ⟨m, R⟩ | k
    · rw [ht] at hp
      obtain ⟨a', c', v, rfl, h1, rfl, h2⟩ := hp
      exact ⟨a', _, c', rfl, Or.inl ⟨rfl, rfl, h1⟩, h2⟩
    · rw [ht] at hp
      obtain ⟨a', n', c', rfl, h1, h2⟩ := hp
      exact ⟨a', n', c', rfl, Or.inr ⟨by simpa using h1, rfl⟩, h2⟩
  · refine (tint_fail W a n c f w (by simp [hf])).mono ?_
    rintro e w' ⟨a', n', c', rfl, h1, h2⟩
    unfold rI
    rw [if_neg hf]
    exact ⟨a', n', c', rfl, Or.inr ⟨hf, rfl⟩, h2⟩

/-- a number, capped as the document caps it -/
def smR (n : Nat) : Int := if n ≤ 1000 then (n : Int) else 1000
set_option maxRecDepth 100000 in
set_option maxHeartbeats 2000000 in
theorem refTake_any (W : WG) (a : Option Addr) (n c : Nat) (L : List UInt8) (f : Int) (w : World) (hW : TG W w) (h : DRd W a n c L f) :
    Calls Try.prog 48 #[.agg #[.slice a n c, .int .i64 f]] w fun e w' => ∃ a' n' c', e = .returned (.tuple #[.agg #[.slice a' n' c', .int .i64 (rU L f).2.2], .int .i64 (smR (rU L f).1)]) ∧ DRd W a' n' c' (rU L f).2.1 (rU L f).2.2 ∧ Below w.heap.size w w' := by
  have HD : Hid (∀ w, TG W w → Calls Try.prog 65 #[.agg #[.slice a n c, .int .i64 f]] w fun e w' => ∃ a' n' c', e = .returned (.tuple #[.agg #[.slice a' n' c', .int .i64 (rU L f).2.2], .int .u64 ((rU L f).1 : Int)]) ∧ DRd W a' n' c' (rU L f).2.1 (rU L f).2.2 ∧ Below w.heap.size w w') := fun w hW => dU W a n c L f w hW h
  have HW : Hid (TG W w) := hW
  have hle := rU_le L f
  obtain ⟨⟨m, M, g⟩, hu⟩ : ∃ u, rU L f = u := ⟨_, rfl⟩
  rw [hu] at HD hle
  rw [hu]
  simp only at hle
  clear hu h hW
  have HBV : Hid (Below w.heap.size w ((w.alloc (.cells #[.slice a n c, .int .i64 f] 78)).alloc (.cells #[.slice none 0 0, .int .i64 0] 78))) := ((Below.refl _ _).alloc (Nat.le_refl _) _).alloc (by simp) _
  have HT1 : Hid (Two ((w.alloc (.cells #[.slice a n c, .int .i64 f] 78)).alloc (.cells #[.slice none 0 0, .int .i64 0] 78)) w.heap.size (.slice a n c) (.int .i64 f)) := (Two.new w w.heap.size rfl (.slice a n c) (.int .i64 f) 78).keep (Below.heap_alloc _ _ _ (by simp))
  have HT2 : Hid (Two ((w.alloc (.cells #[.slice a n c, .int .i64 f] 78)).alloc (.cells #[.slice none 0 0, .int .i64 0] 78)) (w.heap.size + 1) (.slice none 0 0) (.int .i64 0)) := Two.new _ _ (by simp) _ _ _
  obtain ⟨q, hq⟩ : ∃ q, smR m = q := ⟨_, rfl⟩
  rw [hq]
  have HQ : Hid (smR m = q) := hq
  clear hq
  go_enter Try.func48, Try.ntmps48
  go_wp2_with fail
  refine (HD.out _ (HW.out.next HBV.out)).mono ?_
  rintro e w2 ⟨a3, n3, c3, rfl, hr3, hb3⟩
  have HR3 : Hid (DRd W a3 n3 c3 M g) := hr3
  have T1 := HT1.out.keep (hb3.block _ HT1.out.lt)
  have T2 := HT2.out.keep (hb3.block _ HT2.out.lt)
  obtain ⟨x0, x1, x2, x3⟩ := id T1
  have HT1' : Hid (Two ((w2.setCell ⟨w.heap.size, 0, none⟩ (.slice a3 n3 c3)).setCell ⟨w.heap.size, 1, none⟩ (.int .i64 g)) w.heap.size (.slice a3 n3 c3) (.int .i64 g)) := (T1.set0 _).set1 _
  have HT2' : Hid (Two ((w2.setCell ⟨w.heap.size, 0, none⟩ (.slice a3 n3 c3)).setCell ⟨w.heap.size, 1, none⟩ (.int .i64 g)) (w.heap.size + 1) (.slice none 0 0) (.int .i64 0)) := (T2.other (by omega) _).other (by omega) _
  have HB2 : Hid (Below w.heap.size w ((w2.setCell ⟨w.heap.size, 0, none⟩ (.slice a3 n3 c3)).setCell ⟨w.heap.size, 1, none⟩ (.int .i64 g))) := ((HBV.out.trans (hb3.mono HBV.out.size)).setCell (p := ⟨w.heap.size, 0, none⟩) (Nat.le_refl _) _).setCell (p := ⟨w.heap.size, 1, none⟩) (Nat.le_refl _) _
  obtain ⟨v0, v1, v2, v3⟩ := HT1'.out
  obtain ⟨u0, u1, u2, u3⟩ := HT2'.out
  clear hb3 T1 T2 hr3
  by_cases h1 : m ≤ 1000
  · have HZ : Hid ((m : Int) = q) := by show _ = _; rw [← HQ.out]; unfold smR; rw [if_pos h1]
    have h1' : ¬ 1000 < (m : Int) := by omega
    go_wp2
    all_goals first | (exfalso; omega) | skip
    have T9 := (HT2'.out.set0 (.slice a3 n3 c3)).set1 (.int .i64 g)
    refine bodyPost_ret (ret_rd Try.results48 _ (w.heap.size + 1) rfl _ T9.c0 T9.c1) rfl ?_
    rw [← HZ.out]
    exact ⟨a3, n3, c3, rfl, HR3.out, (HB2.out.setCell (p := ⟨w.heap.size + 1, 0, none⟩) (Nat.le_succ _) _).setCell (p := ⟨w.heap.size + 1, 1, none⟩) (Nat.le_succ _) _⟩
  · have HZ : Hid (1000 = q) := by show _ = _; rw [← HQ.out]; unfold smR; rw [if_neg h1]
    have h1' : 1000 < (m : Int) := by omega
    go_wp2
    all_goals first | (exfalso; omega) | skip
    have T9 := (HT2'.out.set0 (.slice a3 n3 c3)).set1 (.int .i64 g)
    refine bodyPost_ret (ret_rd Try.results48 _ (w.heap.size + 1) rfl _ T9.c0 T9.c1) rfl ?_
    rw [← HZ.out]
    exact ⟨a3, n3, c3, rfl, HR3.out, (HB2.out.setCell (p := ⟨w.heap.size + 1, 0, none⟩) (Nat.le_succ _) _).setCell (p := ⟨w.heap.size + 1, 1, none⟩) (Nat.le_succ _) _⟩

/-! ### what the document's capping changes -/
def cap1 (n : Int) : Int := if n ≤ 1000 then n else 1000
def capI (x : In) : In := ⟨x.kind, cap1 x.op, cap1 x.a, cap1 x.b, cap1 x.c, x.k⟩
theorem smR_eq (n : Nat) : smR n = cap1 (sm n) := by unfold smR cap1 sm; (repeat' split) <;> omega
def stepR (t : In × List UInt8 × Int) (c : UInt8) : In × List UInt8 × Int :=
  if c = 107 ∨ c = 116 then (⟨t.1.kind, t.1.op, t.1.a, t.1.b, t.1.c, (rI t.2.1 t.2.2).1⟩, (rI t.2.1 t.2.2).2)
  else if c = 111 ∨ c = 112 then (⟨t.1.kind, smR (rU t.2.1 t.2.2).1, t.1.a, t.1.b, t.1.c, t.1.k⟩, (rU t.2.1 t.2.2).2)
  else if c = 97 then (⟨t.1.kind, t.1.op, smR (rU t.2.1 t.2.2).1, t.1.b, t.1.c, t.1.k⟩, (rU t.2.1 t.2.2).2)
  else if c = 98 then (⟨t.1.kind, t.1.op, t.1.a, smR (rU t.2.1 t.2.2).1, t.1.c, t.1.k⟩, (rU t.2.1 t.2.2).2)
  else (⟨t.1.kind, t.1.op, t.1.a, t.1.b, smR (rU t.2.1 t.2.2).1, t.1.k⟩, (rU t.2.1 t.2.2).2)
def foldR (t : In × List UInt8 × Int) (P : List UInt8) : In × List UInt8 × Int := P.foldl stepR t
theorem foldR_next (t : In × List UInt8 × Int) (s : ByteArray) (p : Nat) (h : p < s.size) : foldR t (s.data.toList.take (p + 1)) = stepR (foldR t (s.data.toList.take p)) s[p] := by
  rw [take_next s p h]; unfold foldR; exact fold_snoc _ _ _ _
def capT (t : In × List UInt8 × Int) : In × List UInt8 × Int := (capI t.1, t.2)
/-- the letters of the program and of the document -/
def twin (c : UInt8) (d : UInt8) : Prop := (c = 111 ∧ (d = 111 ∨ d = 112)) ∨ (c = 97 ∧ d = 97) ∨ (c = 98 ∧ d = 98) ∨ (c = 99 ∧ d = 99) ∨ (c = 114 ∧ d = 114) ∨ (c = 107 ∧ d = 107) ∨ (c = 108 ∧ d = 116)
theorem step_twin (t : In × List UInt8 × Int) (c d : UInt8) (h : twin c d) : stepR (capT t) d = capT (stepT t c) := by
  have e : ∀ n, cap1 (cap1 n) = cap1 n := by intro n; unfold cap1; (repeat' split) <;> omega
  rcases h with ⟨rfl, rfl | rfl⟩ | ⟨rfl, rfl⟩ | ⟨rfl, rfl⟩ | ⟨rfl, rfl⟩ | ⟨rfl, rfl⟩ | ⟨rfl, rfl⟩ | ⟨rfl, rfl⟩ <;> simp [stepR, stepT, capT, capI, smR_eq]
def twins : List UInt8 → List UInt8 → Prop
  | [], [] => True
  | c :: P, d :: Q => twin c d ∧ twins P Q
  | _, _ => False
theorem fold_twin : ∀ (P Q : List UInt8) (t : In × List UInt8 × Int), twins P Q → foldR (capT t) Q = capT (foldT t P)
  | [], [], t, _ => rfl
  | c :: P, d :: Q, t, h => by
    show foldR (stepR (capT t) d) Q = capT (foldT (stepT t c) P)
    rw [step_twin t c d h.1, fold_twin P Q _ h.2]
set_option maxRecDepth 100000 in
theorem oneC_cap (x : In) (cells long : Int) : oneC (capI x) cells long = oneC x cells long := by
  by_cases hb : x.kind < 1 ∨ 13 < x.kind
  · rw [oneC_none x cells long hb, oneC_none (capI x) cells long hb]
  · obtain ⟨n, op, a, b, c, k⟩ := x
    have : n = 1 ∨ n = 2 ∨ n = 3 ∨ n = 4 ∨ n = 5 ∨ n = 6 ∨ n = 7 ∨ n = 8 ∨ n = 9 ∨ n = 10 ∨ n = 11 ∨ n = 12 ∨ n = 13 := by simp at hb; omega
    have key : ∀ n : Int, cap1 n = n ∨ (1000 < n ∧ cap1 n = 1000) := by intro n; unfold cap1; split <;> omega
    have k1 := key op
    have k2 := key a
    have k3 := key b
    have k4 := key c
    unfold capI
    simp only
    generalize cap1 op = op' at *
    generalize cap1 a = a' at *
    generalize cap1 b = b' at *
    generalize cap1 c = c' at *
    rcases this with rfl | rfl | rfl | rfl | rfl | rfl | rfl | rfl | rfl | rfl | rfl | rfl | rfl
    · rw [oneC_1, oneC_1]; (repeat' split) <;> omega
    · rw [oneC_2, oneC_2]; (repeat' split) <;> omega
    · rw [oneC_3, oneC_3]; (repeat' split) <;> omega
    · rw [oneC_4, oneC_4]; (repeat' split) <;> omega
    · rw [oneC_5, oneC_5]; (repeat' split) <;> omega
    · rw [oneC_6, oneC_6]; (repeat' split) <;> omega
    · rw [oneC_7, oneC_7]; (repeat' split) <;> omega
    · rw [oneC_8, oneC_8]; (repeat' split) <;> omega
    · rw [oneC_9, oneC_9]; (repeat' split) <;> omega
    · rw [oneC_10, oneC_10]; (repeat' split) <;> omega
    · rw [oneC_11, oneC_11]; (repeat' split) <;> omega
    · rw [oneC_12, oneC_12]; (repeat' split) <;> omega
    · rw [oneC_13, oneC_13]; (repeat' split) <;> omega
theorem firstBad_cap (cells long : Int) : ∀ (l : List In) (i : Nat), firstBad cells long i (l.map capI) = firstBad cells long i l
  | [], _ => rfl
  | x :: l, i => by
    show (if oneC (capI x) cells long = 0 then _ else _) = (if oneC x cells long = 0 then _ else _)
    rw [oneC_cap, firstBad_cap cells long l (i + 1)]
theorem check_cap (l : List In) (cells : Int) : checkL (l.map capI) cells = checkL l cells := by
  by_cases hlen : l.length = 0 ∨ 600 < l.length
  · rw [checkL_len l cells hlen, checkL_len (l.map capI) cells (by rw [List.length_map]; exact hlen)]
  · have hlen' : ¬ ((l.map capI).length = 0 ∨ 600 < (l.map capI).length) := by rw [List.length_map]; exact hlen
    rcases hb : firstBad cells (l.length : Int) 0 l with _ | ⟨i, e⟩
    · have hb' : firstBad cells ((l.map capI).length : Int) 0 (l.map capI) = none := by rw [List.length_map, firstBad_cap]; exact hb
      have hl : l.length - 1 < l.length := by omega
      rw [checkL_good l cells hlen hb hl, checkL_good (l.map capI) cells hlen' hb' (by rw [List.length_map]; omega)]
      simp only [List.length_map, List.getElem_map]
      rfl
    · rw [checkL_bad l cells hlen i e hb, checkL_bad (l.map capI) cells hlen' i e (by rw [List.length_map, firstBad_cap]; exact hb)]
theorem cap_same (l : List In) (cells : Int) (h : (checkL l cells).2 = 0) (hr : ∀ x ∈ l, r64 x.k) : l.map capI = l := by
  have hone := (checkL_ok l cells h).2.2
  have : ∀ x ∈ l, capI x = x := by
    intro x hx
    have hp := pos_of_one x cells _ (hone x hx) (hr x hx)
    obtain ⟨_, ho, ha, hb, hc, _⟩ := hp
    unfold capI cap1
    rw [if_pos ho.2, if_pos ha.2, if_pos hb.2, if_pos hc.2]
  conv => rhs; rw [← List.map_id l]
  exact List.map_congr_left (fun x hx => this x hx)
set_option maxRecDepth 100000 in
theorem refParts_twin (n : Int) (h : 1 ≤ n ∧ n ≤ 13) : ∃ s : ByteArray, okR s ∧ s.size ≤ 4 ∧ twins ((lets n).getD ⟨#[]⟩).data.toList s.data.toList ∧ (s.toList == [63]) = false ∧ ∀ w, Calls Try.prog 30 #[.int .i64 n] w fun e w' => e = .returned (.string s) ∧ Below w.heap.size w w' := by
  have : n = 1 ∨ n = 2 ∨ n = 3 ∨ n = 4 ∨ n = 5 ∨ n = 6 ∨ n = 7 ∨ n = 8 ∨ n = 9 ∨ n = 10 ∨ n = 11 ∨ n = 12 ∨ n = 13 := by omega
  rcases this with rfl | rfl | rfl | rfl | rfl | rfl | rfl | rfl | rfl | rfl | rfl | rfl | rfl
  · exact ⟨⟨#[]⟩, okR_of _ (by decide), by decide, by simp [lets, twins, twin], by rw [ByteArray.toList_eq]; decide, fun w => refParts_1 w⟩
  · exact ⟨⟨#[97, 107]⟩, okR_of _ (by decide), by decide, by simp [lets, twins, twin], by rw [ByteArray.toList_eq]; decide, fun w => refParts_2 w⟩
  · exact ⟨⟨#[97, 98]⟩, okR_of _ (by decide), by decide, by simp [lets, twins, twin], by rw [ByteArray.toList_eq]; decide, fun w => refParts_3 w⟩
  · exact ⟨⟨#[112, 97, 98]⟩, okR_of _ (by decide), by decide, by simp [lets, twins, twin], by rw [ByteArray.toList_eq]; decide, fun w => refParts_4 w⟩
  · exact ⟨⟨#[111, 97, 98, 99]⟩, okR_of _ (by decide), by decide, by simp [lets, twins, twin], by rw [ByteArray.toList_eq]; decide, fun w => refParts_5 w⟩
  · exact ⟨⟨#[97, 98, 107]⟩, okR_of _ (by decide), by decide, by simp [lets, twins, twin], by rw [ByteArray.toList_eq]; decide, fun w => refParts_6 w⟩
  · exact ⟨⟨#[97, 98, 107]⟩, okR_of _ (by decide), by decide, by simp [lets, twins, twin], by rw [ByteArray.toList_eq]; decide, fun w => refParts_7 w⟩
  · exact ⟨⟨#[97, 114]⟩, okR_of _ (by decide), by decide, by simp [lets, twins, twin], by rw [ByteArray.toList_eq]; decide, fun w => refParts_8 w⟩
  · exact ⟨⟨#[97]⟩, okR_of _ (by decide), by decide, by simp [lets, twins, twin], by rw [ByteArray.toList_eq]; decide, fun w => refParts_9 w⟩
  · exact ⟨⟨#[116]⟩, okR_of _ (by decide), by decide, by simp [lets, twins, twin], by rw [ByteArray.toList_eq]; decide, fun w => refParts_10 w⟩
  · exact ⟨⟨#[97, 116]⟩, okR_of _ (by decide), by decide, by simp [lets, twins, twin], by rw [ByteArray.toList_eq]; decide, fun w => refParts_11 w⟩
  · exact ⟨⟨#[97, 116]⟩, okR_of _ (by decide), by decide, by simp [lets, twins, twin], by rw [ByteArray.toList_eq]; decide, fun w => refParts_12 w⟩
  · exact ⟨⟨#[97]⟩, okR_of _ (by decide), by decide, by simp [lets, twins, twin], by rw [ByteArray.toList_eq]; decide, fun w => refParts_13 w⟩
end Go.Proofs.Ythcidcfaodjbjaa
