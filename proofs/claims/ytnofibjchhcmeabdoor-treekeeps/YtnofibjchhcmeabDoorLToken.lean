/- The token from a place on: a number, a word or name, a sign; or the fault with which the cutter gives up. -/
import Derived.Test.YtnofibjchhcmeabDoorLSign
import Derived.Test.YtnofibjchhcmeabDoorLParse
namespace Go.Proofs.YtnofibjchhcmeabDoor
open Go.RowKit
set_option linter.unusedVariables false

def gaveUp (k e : Int) : Ending := .panicked [{ v := .iface 76 (.agg #[.int .i64 k, .int .i64 e]), recovered := false }]

set_option maxRecDepth 100000 in
set_option maxHeartbeats 400000 in
theorem giveUp_any (k n : Int) (w : World) : Calls Tryd.prog 44 #[.int .i64 k, .int .i64 n] w fun e w' => e = gaveUp k n ∧ w' = w := by
  go_enter Tryd.func44, Tryd.ntmps44
  go_wp2
  exact ⟨rfl, rfl, rfl⟩

/-- a token as a value -/
def tokV (k : Int) (t : ByteArray) (m : Int) (p : Nat) : Value := .agg #[.int .i64 k, .string t, .int .i64 m, .int .i64 (p : Int)]
/-- what comes of a token's reading -/
def TokPost (w : World) (pb : Nat) (s : ByteArray) (p : Nat) : One → Ending → World → Prop
  | .inl (k, m, n), e, w' => e = .returned (tokV k (s.extract p (p + n)) m p) ∧ CS w' pb s (p + n) ∧ Gr w w' pb
  | .inr (o, er), e, w' => e = gaveUp ((p + o : Nat) : Int) er ∧ Gr w w' pb

set_option maxRecDepth 100000 in
theorem CS.setNew {w : World} {pb p b o : Nat} {s : ByteArray} (h : CS w pb s p) (hb : pb ≠ b) (v : Value) : CS (w.setCell ⟨b, o, none⟩ v) pb s p :=
  h.block (Below.heap_setCell _ _ _ _ hb) (by simp [World.setCell])
set_option maxRecDepth 100000 in
theorem Gr.setNew {w w' : World} {pb b o : Nat} (h : Gr w w' pb) (hb : w.heap.size ≤ b) (v : Value) : Gr w (w'.setCell ⟨b, o, none⟩ v) pb :=
  ⟨h.os, h.tape, h.output, by have := h.size; simpa [World.setCell] using this, fun i hi hne => (Below.heap_setCell w' _ v i (by show i ≠ b; omega)).trans (h.block i hi hne)⟩
set_option maxRecDepth 100000 in
theorem Gr.drewN {a b : World} {g : Nat} (h : Gr a b g) (n : Nat) : Gr a (b.drewN n) g := by
  induction n with
  | zero => exact h
  | succ n ih => exact ih.drew

/-- a block of four cells -/
structure Four (w : World) (b : Nat) (a0 a1 a2 a3 : Value) : Prop where
  c0 : w.cell? ⟨b, 0, none⟩ = some a0
  c1 : w.cell? ⟨b, 1, none⟩ = some a1
  c2 : w.cell? ⟨b, 2, none⟩ = some a2
  c3 : w.cell? ⟨b, 3, none⟩ = some a3
  f0 : w.frozen? ⟨b, 0, none⟩ = false
  f1 : w.frozen? ⟨b, 1, none⟩ = false
  f2 : w.frozen? ⟨b, 2, none⟩ = false
  f3 : w.frozen? ⟨b, 3, none⟩ = false
set_option maxRecDepth 100000 in
theorem Four.keep {w w' : World} {b : Nat} {a0 a1 a2 a3 : Value} (h : Four w b a0 a1 a2 a3) (hb : w'.heap[b]? = w.heap[b]?) : Four w' b a0 a1 a2 a3 :=
  ⟨(World.cell?_of_block (w := w) (a := ⟨b, 0, none⟩) hb).trans h.c0, (World.cell?_of_block (w := w) (a := ⟨b, 1, none⟩) hb).trans h.c1, (World.cell?_of_block (w := w) (a := ⟨b, 2, none⟩) hb).trans h.c2, (World.cell?_of_block (w := w) (a := ⟨b, 3, none⟩) hb).trans h.c3,
   (World.frozen?_of_block (w := w) (a := ⟨b, 0, none⟩) hb).trans h.f0, (World.frozen?_of_block (w := w) (a := ⟨b, 1, none⟩) hb).trans h.f1, (World.frozen?_of_block (w := w) (a := ⟨b, 2, none⟩) hb).trans h.f2, (World.frozen?_of_block (w := w) (a := ⟨b, 3, none⟩) hb).trans h.f3⟩

set_option maxRecDepth 100000 in
theorem Four.stored {w : World} {b : Nat} {a0 a1 a2 a3 : Value} (h : Four w b a0 a1 a2 a3) (x0 x1 x2 x3 : Value) :
    Four ((((w.setCell ⟨b, 0, none⟩ x0).setCell ⟨b, 1, none⟩ x1).setCell ⟨b, 2, none⟩ x2).setCell ⟨b, 3, none⟩ x3) b x0 x1 x2 x3 := by
  have s1 : ∀ (u : World) (i j : Nat) (v : Value), i ≠ j → (u.setCell ⟨b, i, none⟩ v).cell? ⟨b, j, none⟩ = u.cell? ⟨b, j, none⟩ := fun u i j v hij => World.cell?_setCell_other u _ _ _ (by intro e; cases e; exact hij rfl)
  refine ⟨?_, ?_, ?_, ?_, by simpa using h.f0, by simpa using h.f1, by simpa using h.f2, by simpa using h.f3⟩
  · rw [s1 _ 3 0 _ (by decide), s1 _ 2 0 _ (by decide), s1 _ 1 0 _ (by decide)]
    exact World.cell?_setCell_same _ _ _ h.c0
  · rw [s1 _ 3 1 _ (by decide), s1 _ 2 1 _ (by decide)]
    exact World.cell?_setCell_same _ _ _ ((s1 _ 0 1 _ (by decide)).trans h.c1)
  · rw [s1 _ 3 2 _ (by decide)]
    exact World.cell?_setCell_same _ _ _ ((s1 _ 1 2 _ (by decide)).trans ((s1 _ 0 2 _ (by decide)).trans h.c2))
  · exact World.cell?_setCell_same _ _ _ ((s1 _ 2 3 _ (by decide)).trans ((s1 _ 1 3 _ (by decide)).trans ((s1 _ 0 3 _ (by decide)).trans h.c3)))

set_option maxRecDepth 100000 in
theorem ret_tok {fn : Func} (h : fn.results = #[.cell 2 84]) (tmps : Array Value) (b : Nat) (hb : tmps[2]?.getD undef = .pointer (some ⟨b, 0, none⟩)) (W : World) {a0 a1 a2 a3 : Value} (F : Four W b a0 a1 a2 a3) :
    (results fn tmps).run Tryd.prog W = .ok (.agg #[a0, a1, a2, a3]) W := by
  obtain ⟨c0, c1, c2, c3, _, _, _, _⟩ := F
  simp [results, h, hb, go_sem, c0, c1, c2, c3]

set_option maxRecDepth 100000 in
theorem ended_noN (pb q : Nat) (s : ByteArray) (w : World) (n : Nat) (h : CS w pb s q) (hs : s.size ≤ 1000000) (hne : q ≠ s.size) :
    Calls Tryd.prog 53 #[.pointer (some ⟨pb, 0, none⟩)] (w.drewN n) fun e w' => e = .returned (.bool false) ∧ ∃ m, w' = (w.drewN n).drewN m := by
  refine (ended_no pb q s (w.drewN n) (h.drewN n) hs hne).mono ?_
  rintro e w' ⟨rfl, rfl⟩
  exact ⟨rfl, 1, rfl⟩

set_option maxRecDepth 100000 in
theorem extract_list (s : ByteArray) (p n : Nat) : (s.extract p (p + n)).data.toList = (s.data.toList.drop p).take n := by
  rw [ByteArray.data_extract, Array.toList_extract, List.extract_eq_take_drop, Nat.add_sub_cancel_left]

set_option maxRecDepth 100000 in
set_option maxHeartbeats 4000000 in
theorem number_any (pb p : Nat) (s : ByteArray) (w : World) (h : CS w pb s p) (hp : p ≤ s.size) (hs : s.size ≤ 1000000) :
    Calls Tryd.prog 71 #[.pointer (some ⟨pb, 0, none⟩)] w fun e w' => TokPost w pb s p (numTok (s.data.toList.drop p)) e w' := by
  obtain ⟨h1, h2, h3, h4⟩ := h
  have HC : Hid (CS w pb s p) := ⟨h1, h2, h3, h4⟩
  obtain ⟨n, hn⟩ : ∃ n, ga dgStep () (s.data.toList.drop p) = n := ⟨_, rfl⟩
  have hpn : p + n ≤ s.size := by
    have := ga_le dgStep () (s.data.toList.drop p)
    rw [hn] at this
    simp at this
    omega
  obtain ⟨q, hq⟩ : ∃ q, p + n = q := ⟨_, rfl⟩
  obtain ⟨T, hT⟩ : ∃ T, s.extract p (p + n) = T := ⟨_, rfl⟩
  have hTl : T.data.toList = (s.data.toList.drop p).take n := by rw [← hT, extract_list]
  have hTs : T.size ≤ maxLen := by
    have e1 : T.data.toList.length = T.size := by simp
    rw [← e1, hTl]
    unfold maxLen
    simp
    omega
  obtain ⟨res, hres⟩ : ∃ r, numTok (s.data.toList.drop p) = r := ⟨_, rfl⟩
  have HR : Hid (numTok (s.data.toList.drop p) = res) := hres
  rw [hres]
  have HN : Hid (ga dgStep () (s.data.toList.drop p) = n) := hn
  have HTL : Hid (T.data.toList = (s.data.toList.drop p).take n) := hTl
  have HT : Hid (s.extract p q = T) := hq ▸ hT
  have HQ : Hid (p + n = q) := hq
  rw [hq] at hpn
  obtain ⟨pv, hpv⟩ : ∃ r, parse T.data.toList = r := ⟨_, rfl⟩
  have HPV : Hid (parse T.data.toList = pv) := hpv
  clear hres hn hT hTl hpv hq
  go_enter Tryd.func71, Tryd.ntmps71
  go_wp2_with fail
  refine (gather_any (looksD pb) p s () _ ?h1 hp hs trivial).mono ?_
  case h1 => exact (HC.out.block (Below.heap_alloc _ _ _ h4) (by simp)).block (Below.heap_alloc _ _ _ (by simp; omega)) (by simp)
  rintro e w3 ⟨rfl, hcs, hgr⟩
  rw [HN.out, HQ.out] at hcs
  rw [HN.out, HQ.out, HT.out]
  have F2 : Four w3 w.heap.size (.int .i64 0) (.string ⟨#[]⟩) (.int .i64 0) (.int .i64 0) :=
    Four.keep (w := (w.alloc (.cells #[.int .i64 0, .string ⟨#[]⟩, .int .i64 0, .int .i64 0] 84)).alloc (.cells #[.int .i64 1, .string ⟨#[]⟩, .int .i64 0, .int .i64 (p : Int)] 84)) ⟨by simp, by simp, by simp, by simp, by simp, by simp, by simp, by simp⟩ (hgr.block _ (by simp; omega) (by intro e; cases e; omega))
  have F3 : Four w3 (w.heap.size + 1) (.int .i64 1) (.string ⟨#[]⟩) (.int .i64 0) (.int .i64 (p : Int)) :=
    Four.keep (w := (w.alloc (.cells #[.int .i64 0, .string ⟨#[]⟩, .int .i64 0, .int .i64 0] 84)).alloc (.cells #[.int .i64 1, .string ⟨#[]⟩, .int .i64 0, .int .i64 (p : Int)] 84)) ⟨by simp, by simp, by simp, by simp, by simp, by simp, by simp, by simp⟩ (hgr.block _ (by simp) (by intro e; cases e; omega))
  have HG : Hid (Gr w w3 pb) := (((Gr.refl w pb).alloc _).alloc _).trans hgr
  have HCS : Hid (CS w3 pb s q) := hcs
  obtain ⟨a0, a1, a2, a3, b0, b1, b2, b3⟩ := F2
  obtain ⟨d0, d1, d2, d3, e0, e1, e2, e3⟩ := F3
  clear hcs hgr
  obtain ⟨v, er⟩ := pv
  by_cases hz : er = 0
  · subst hz
    go_wp2_with (go_at_call 87; refine (parse_any T hTs _).mono ?_; rintro e w' ⟨rfl, rfl⟩; rw [HPV.out])
    have HCX : Hid (CS (w3.setCell ⟨w.heap.size + 1, 1, none⟩ (.string T)) pb s q) := HCS.out.setNew (by omega) _
    by_cases hend : q = s.size
    · have HRES : Hid (res = .tok 1 v n) := by
        show _ = _
        rw [← HR.out]
        unfold numTok
        dsimp only
        rw [HN.out, ← HTL.out, HPV.out, if_neg (by simp), List.drop_drop, HQ.out, hend, List.drop_of_length_le (by simp)]
        rfl
      have HCX' : Hid (CS (w3.setCell ⟨w.heap.size + 1, 1, none⟩ (.string T)) pb s s.size) := hend ▸ HCX.out
      go_quiet (first | (go_at_call 53; refine Calls.quiet_of (ended_yesN pb s _ _ ?_ hs); exact HCX'.out))
      go_wp2
      refine bodyPost_ret (ret_tok Tryd.results71 _ w.heap.size rfl _ (Four.stored (a0 := .int .i64 0) (a1 := .string ⟨#[]⟩) (a2 := .int .i64 0) (a3 := .int .i64 0) ?_ _ _ _ _)) rfl ?_
      · exact Four.keep (w := w3) ⟨a0, a1, a2, a3, b0, b1, b2, b3⟩ (by rw [Below.heap_setCell _ _ _ _ (by show w.heap.size ≠ w.heap.size + 1; omega)]; exact Below.heap_setCell _ _ _ _ (by show w.heap.size ≠ w.heap.size + 1; omega))
      show TokPost _ _ _ _ _ _ _
      rw [HRES.out]
      refine ⟨by rw [HQ.out, HT.out]; rfl, ?_, ?_⟩
      · rw [HQ.out, hend]
        exact ((((((HCX'.out).drewN _).setNew (by omega) _).setNew (by omega) _).setNew (by omega) _).setNew (by omega) _).setNew (by omega) _
      · exact ((((((HG.out.setNew (by omega) _).drewN _).setNew (by omega) _).setNew (by omega) _).setNew (by omega) _).setNew (by omega) _).setNew (by omega) _
    · have hlt : q < s.size := by omega
      have HCY : Hid (CS (w3.setCell ⟨w.heap.size + 1, 1, none⟩ (.string T)) pb s q) := HCX.out
      have x0 : (w3.setCell ⟨w.heap.size + 1, 1, none⟩ (.string T)).cell? ⟨pb, 0, none⟩ = some (.string s) := HCX.out.1
      have x1 : (w3.setCell ⟨w.heap.size + 1, 1, none⟩ (.string T)).cell? ⟨pb, 1, none⟩ = some (.int .i64 (q : Int)) := HCX.out.2.1
      have y0 : w3.cell? ⟨pb, 0, none⟩ = some (.string s) := HCS.out.1
      have y1 : w3.cell? ⟨pb, 1, none⟩ = some (.int .i64 (q : Int)) := HCS.out.2.1
      have hhd : headL ((s.data.toList.drop p).drop n) = isL s[q] := by
        rw [List.drop_drop, HQ.out, List.drop_eq_getElem_cons (by simpa using hlt)]; rfl
      have hr2 : res = if headL ((s.data.toList.drop p).drop n) = true then .bad n 31 else .tok 1 v n := by
        rw [← HR.out]
        unfold numTok
        dsimp only
        rw [HN.out, ← HTL.out, HPV.out, if_neg (by simp)]
      rw [hhd] at hr2
      rcases hl : isL s[q] with _ | _
      · have HRES : Hid (res = .tok 1 v n) := by show _ = _; rw [hr2, hl]; rfl
        have HLL : Hid (isL s[q] = false) := hl
        clear hr2 hhd hl
        go_quiet (first | (go_at_call 53; refine Calls.quiet_of (ended_noN pb q s _ _ ?_ hs hend); exact HCX.out) | (go_at_call 72; refine Calls.quiet_of_same (HLL.out ▸ isLetter_any s[q] _)))
        go_wp2
        refine bodyPost_ret (ret_tok Tryd.results71 _ w.heap.size rfl _ (Four.stored (a0 := .int .i64 0) (a1 := .string ⟨#[]⟩) (a2 := .int .i64 0) (a3 := .int .i64 0) ?_ _ _ _ _)) rfl ?_
        · exact Four.keep (w := w3) ⟨a0, a1, a2, a3, b0, b1, b2, b3⟩ (by rw [Below.heap_setCell _ _ _ _ (by show w.heap.size ≠ w.heap.size + 1; omega)]; exact Below.heap_setCell _ _ _ _ (by show w.heap.size ≠ w.heap.size + 1; omega))
        show TokPost _ _ _ _ _ _ _
        rw [HRES.out]
        refine ⟨by rw [HQ.out, HT.out]; rfl, ?_, ?_⟩
        · rw [HQ.out]
          exact ((((((HCX.out).drewN _).setNew (by omega) _).setNew (by omega) _).setNew (by omega) _).setNew (by omega) _).setNew (by omega) _
        · exact ((((((HG.out.setNew (by omega) _).drewN _).setNew (by omega) _).setNew (by omega) _).setNew (by omega) _).setNew (by omega) _).setNew (by omega) _
      · have HRES : Hid (res = .bad n 31) := by show _ = _; rw [hr2, hl]; rfl
        have HLL : Hid (isL s[q] = true) := hl
        clear hr2 hhd hl
        go_quiet (first | (go_at_call 53; refine Calls.quiet_of (ended_noN pb q s _ _ ?_ hs hend); exact HCX.out) | (go_at_call 72; refine Calls.quiet_of_same (HLL.out ▸ isLetter_any s[q] _)))
        go_wp2_with fail
        refine (giveUp_any _ _ _).mono ?_
        rintro e w' ⟨rfl, rfl⟩
        refine ⟨rfl, ?_⟩
        rw [HRES.out]
        refine ⟨by rw [HQ.out]; rfl, ?_⟩
        exact (HG.out.setNew (by omega) _).drewN _
  · have hz' : (er == 0) = false := by simpa using hz
    have HRES : Hid (res = .bad 0 33) := by
      show _ = _
      rw [← HR.out]
      unfold numTok
      dsimp only
      rw [HN.out, ← HTL.out, HPV.out, if_pos hz]
    go_wp2_with (first | (go_at_call 87; refine (parse_any T hTs _).mono ?_; rintro e w' ⟨rfl, rfl⟩; rw [HPV.out]))
    refine (giveUp_any _ _ _).mono ?_
    rintro e w' ⟨rfl, rfl⟩
    refine ⟨rfl, ?_⟩
    rw [HRES.out]
    exact ⟨rfl, HG.out.setNew (by omega) _⟩
end Go.Proofs.YtnofibjchhcmeabDoor
