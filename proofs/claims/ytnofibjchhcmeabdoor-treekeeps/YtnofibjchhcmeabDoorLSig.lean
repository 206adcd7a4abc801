/- A sign, and a token of any kind. -/
import Derived.Test.YtnofibjchhcmeabDoorLWord
namespace Go.Proofs.YtnofibjchhcmeabDoor
open Go.RowKit
set_option linter.unusedVariables false

set_option maxRecDepth 100000 in
theorem FB.mono {B B' pb : Nat} {a b : World} (h : FB B pb a b) (hB : B' ≤ B) : FB B' pb a b := ⟨h.os, h.tape, h.output, h.size, fun k hk hne => h.block k (by omega) hne⟩
set_option maxRecDepth 100000 in
theorem ws_new (w : World) : WS (w.alloc (.cells #[.slice none 0 0] 105)) w.heap.size [] := ⟨.slice none 0 0, by simp, by simp, ⟨rfl, Or.inl ⟨rfl, rfl⟩⟩, by simp⟩
set_option maxRecDepth 100000 in
theorem own_nil (w : World) (base : Nat) : Own w base (.slice none 0 0) [] := ⟨rfl, Or.inl ⟨rfl, rfl⟩⟩

set_option maxRecDepth 100000 in
set_option maxHeartbeats 4000000 in
theorem lsign_any (pb p : Nat) (s : ByteArray) (w : World) (h : CS w pb s p) (hp : p ≤ s.size) (hs : s.size ≤ 1000000) :
    Calls Tryd.prog 74 #[.pointer (some ⟨pb, 0, none⟩)] w fun e w' => TokPost w pb s p (signTok (s.data.toList.drop p)) e w' := by
  obtain ⟨h1, h2, h3, h4⟩ := h
  have HC : Hid (CS w pb s p) := ⟨h1, h2, h3, h4⟩
  obtain ⟨n, hn⟩ : ∃ n, ga sgStep [] (s.data.toList.drop p) = n := ⟨_, rfl⟩
  have hpn : p + n ≤ s.size := by
    have := ga_le sgStep [] (s.data.toList.drop p)
    rw [hn] at this
    simp at this
    omega
  obtain ⟨q, hq⟩ : ∃ q, p + n = q := ⟨_, rfl⟩
  obtain ⟨T, hT⟩ : ∃ T, s.extract p (p + n) = T := ⟨_, rfl⟩
  have hTl : T.data.toList = (s.data.toList.drop p).take n := by rw [← hT, extract_list]
  have hTs : T.size = n := by
    have e1 : T.data.toList.length = T.size := by simp
    rw [← e1, hTl]
    simp
    omega
  obtain ⟨res, hres⟩ : ∃ r, signTok (s.data.toList.drop p) = r := ⟨_, rfl⟩
  have HR : Hid (signTok (s.data.toList.drop p) = res) := hres
  rw [hres]
  have HN : Hid (ga sgStep [] (s.data.toList.drop p) = n) := hn
  have HTL : Hid (T.data.toList = (s.data.toList.drop p).take n) := hTl
  have HT : Hid (s.extract p q = T) := hq ▸ hT
  have HQ : Hid (p + n = q) := hq
  rw [hq] at hpn
  have hn12 : n ≤ 1000000 := by omega
  clear hres hn hT hTl hq
  have hmf : ∀ (fn : Fn) (first cap : Array Value) (w : World), (Instr.makeFunc fn first cap).run Tryd.prog w = .ok (.func fn first cap) w := fun _ _ _ _ => rfl
  go_enter Tryd.func74, Tryd.ntmps74
  go_wp2_with fail
  refine (gather_any (looksS pb (w.heap.size + 2) (w.heap.size + 2) (by omega) (Nat.le_refl _)) p s [] (((w.alloc (.cells #[.int .i64 0, .string ⟨#[]⟩, .int .i64 0, .int .i64 0] 84)).alloc (.cells #[.int .i64 4, .string ⟨#[]⟩, .int .i64 0, .int .i64 (p : Int)] 84)).alloc (.cells #[.slice none 0 0] 105)) ?h1 hp hs ?h2).mono ?_
  case h1 => exact ((HC.out.block (Below.heap_alloc _ _ _ h4) (by simp)).block (Below.heap_alloc _ _ _ (by simp; omega)) (by simp)).block (Below.heap_alloc _ _ _ (by simp; omega)) (by simp)
  case h2 =>
    have hsz : w.heap.size + 2 = ((w.alloc (.cells #[.int .i64 0, .string ⟨#[]⟩, .int .i64 0, .int .i64 0] 84)).alloc (.cells #[.int .i64 4, .string ⟨#[]⟩, .int .i64 0, .int .i64 (p : Int)] 84)).heap.size := by simp
    rw [hsz]
    exact ⟨ws_new _, by simp⟩
  rintro e w3 ⟨rfl, hcs, hfb⟩
  rw [HN.out, HQ.out] at hcs
  rw [HN.out, HQ.out, HT.out]
  have F2 : Four w3 w.heap.size (.int .i64 0) (.string ⟨#[]⟩) (.int .i64 0) (.int .i64 0) :=
    Four.keep (w := (w.alloc (.cells #[.int .i64 0, .string ⟨#[]⟩, .int .i64 0, .int .i64 0] 84)).alloc (.cells #[.int .i64 4, .string ⟨#[]⟩, .int .i64 0, .int .i64 (p : Int)] 84)) ⟨by simp, by simp, by simp, by simp, by simp, by simp, by simp, by simp⟩ ((hfb.block _ (by omega) (by omega)).trans (Below.heap_alloc _ _ _ (by simp; omega)))
  have F3 : Four w3 (w.heap.size + 1) (.int .i64 4) (.string ⟨#[]⟩) (.int .i64 0) (.int .i64 (p : Int)) :=
    Four.keep (w := (w.alloc (.cells #[.int .i64 0, .string ⟨#[]⟩, .int .i64 0, .int .i64 0] 84)).alloc (.cells #[.int .i64 4, .string ⟨#[]⟩, .int .i64 0, .int .i64 (p : Int)] 84)) ⟨by simp, by simp, by simp, by simp, by simp, by simp, by simp, by simp⟩ ((hfb.block _ (by omega) (by omega)).trans (Below.heap_alloc _ _ _ (by simp)))
  have HG : Hid (Gr w w3 pb) := ((FB.below ((((Below.refl w.heap.size w).alloc (Nat.le_refl _) _).alloc (by simp) _).alloc (by simp; omega) _)).trans (hfb.mono (by omega))).gr (Nat.le_refl _)
  have HCS : Hid (CS w3 pb s q) := hcs
  obtain ⟨a0, a1, a2, a3, b0, b1, b2, b3⟩ := F2
  obtain ⟨d0, d1, d2, d3, e0, e1, e2, e3⟩ := F3
  clear hcs hfb
  have hr2 : res = if n = 0 then .bad 0 31 else .tok 4 0 n := by
    rw [← HR.out]
    unfold signTok
    dsimp only
    rw [HN.out]
  by_cases hz : n = 0
  · have HRES : Hid (res = .bad 0 31) := by show _ = _; rw [hr2, if_pos hz]
    have ht : T = ⟨#[]⟩ := by apply ByteArray.ext; exact Array.eq_empty_of_size_eq_zero (by rw [hz] at hTs; exact hTs)
    subst ht
    clear hr2
    go_wp2_with fail
    refine (giveUp_any _ _ _).mono ?_
    rintro e w' ⟨rfl, rfl⟩
    refine ⟨rfl, ?_⟩
    rw [HRES.out]
    exact ⟨rfl, HG.out.setNew (by omega) _⟩
  · have HRES : Hid (res = .tok 4 0 n) := by show _ = _; rw [hr2, if_neg hz]
    have hem : T.toList.isEmpty = false := ne_empty T (by omega)
    have hem2 : (T.toList == []) = false := by
      rcases e : T.toList with _ | ⟨a, r⟩
      · rw [e] at hem; cases hem
      · rfl
    clear hr2
    go_wp2
    refine bodyPost_ret (ret_tok Tryd.results74 _ w.heap.size rfl _ (Four.stored (a0 := .int .i64 0) (a1 := .string ⟨#[]⟩) (a2 := .int .i64 0) (a3 := .int .i64 0) ?_ _ _ _ _)) rfl ?_
    · exact Four.keep (w := w3) ⟨a0, a1, a2, a3, b0, b1, b2, b3⟩ (Below.heap_setCell _ _ _ _ (by show w.heap.size ≠ w.heap.size + 1; omega))
    show TokPost _ _ _ _ _ _ _
    rw [HRES.out]
    refine ⟨by rw [HQ.out, HT.out]; rfl, ?_, ?_⟩
    · rw [HQ.out]
      exact ((((HCS.out.setNew (by omega) _).setNew (by omega) _).setNew (by omega) _).setNew (by omega) _).setNew (by omega) _
    · exact ((((HG.out.setNew (by omega) _).setNew (by omega) _).setNew (by omega) _).setNew (by omega) _).setNew (by omega) _

set_option maxRecDepth 100000 in
theorem TokPost.from {w0 w : World} {pb p : Nat} {s : ByteArray} {r : One} {e : Ending} {w' : World} (h : TokPost w pb s p r e w') (g : Gr w0 w pb) : TokPost w0 pb s p r e w' := by
  cases r with
  | inl x => exact ⟨h.1, h.2.1, g.trans h.2.2⟩
  | inr x => exact ⟨h.1, g.trans h.2⟩

set_option maxRecDepth 100000 in
set_option maxHeartbeats 4000000 in
theorem token_any (pb p : Nat) (s : ByteArray) (w : World) (h : CS w pb s p) (hp : p < s.size) (hs : s.size ≤ 1000000) :
    Calls Tryd.prog 54 #[.pointer (some ⟨pb, 0, none⟩)] w fun e w' => TokPost w pb s p (tokOf (s.data.toList.drop p)) e w' := by
  obtain ⟨h1, h2, h3, h4⟩ := h
  have HC : Hid (CS w pb s p) := ⟨h1, h2, h3, h4⟩
  have hdr : s.data.toList.drop p = s[p] :: s.data.toList.drop (p + 1) := List.drop_eq_getElem_cons (by simpa using hp)
  obtain ⟨res, hres⟩ : ∃ r, tokOf (s.data.toList.drop p) = r := ⟨_, rfl⟩
  have hr2 : res = if isD s[p] = true then numTok (s.data.toList.drop p) else if isL s[p] = true then wordTok (s.data.toList.drop p) else signTok (s.data.toList.drop p) := by
    rw [← hres, hdr]; rfl
  rw [hres]
  clear hres hdr
  have g1 : ∀ (o : Obj) (n : Nat), CS ((w.alloc o).drewN n) pb s p := fun o n => (HC.out.block (Below.heap_alloc _ _ _ h4) (by simp)).drewN n
  have g2 : ∀ (o : Obj) (n : Nat), Gr w ((w.alloc o).drewN n) pb := fun o n => ((Gr.refl w pb).alloc o).drewN n
  have HG1 : Hid (∀ (o : Obj) (n : Nat), CS ((w.alloc o).drewN n) pb s p) := g1
  have HG2 : Hid (∀ (o : Obj) (n : Nat), Gr w ((w.alloc o).drewN n) pb) := g2
  clear g1 g2
  rcases hd : isD s[p] with _ | _
  · have HD : Hid (isD s[p] = false) := hd
    rcases hl : isL s[p] with _ | _
    · have HL : Hid (isL s[p] = false) := hl
      have HRES : Hid (res = signTok (s.data.toList.drop p)) := by show _ = _; rw [hr2, hd, hl]; rfl
      clear hr2 hd hl
      go_enter Tryd.func54, Tryd.ntmps54
      go_wp2
      go_quiet (fail)
      go_wp2_with (first | (go_at_call 70; refine (isDigit_any s[p] _).mono ?_; rintro e w' ⟨rfl, rfl⟩; rw [HD.out]) | (go_at_call 72; refine (isLetter_any s[p] _).mono ?_; rintro e w' ⟨rfl, rfl⟩; rw [HL.out]))
      refine (lsign_any pb p s _ (HG1.out _ _) (by omega) hs).mono ?_
      rcases e1 : signTok (s.data.toList.drop p) with ⟨k, m, n⟩ | ⟨o, er⟩
      · rintro e w3 ⟨rfl, hcs, hgr⟩
        have HRS : Hid (res = .tok k m n) := HRES.out.trans e1
        have HCS : Hid (CS w3 pb s (p + n)) := hcs
        have HG : Hid (Gr w w3 pb) := (HG2.out _ _).trans hgr
        have F2 : Four w3 w.heap.size (.int .i64 0) (.string ⟨#[]⟩) (.int .i64 0) (.int .i64 0) :=
          Four.keep (w := w.alloc (.cells #[.int .i64 0, .string ⟨#[]⟩, .int .i64 0, .int .i64 0] 84)) ⟨by simp, by simp, by simp, by simp, by simp, by simp, by simp, by simp⟩ (hgr.block _ (by show w.heap.size < (w.alloc _).heap.size; simp) (by intro e; cases e; omega))
        obtain ⟨a0, a1, a2, a3, b0, b1, b2, b3⟩ := F2
        clear hcs hgr e1
        unfold tokV
        go_wp2
        refine bodyPost_ret (ret_tok Tryd.results54 _ w.heap.size rfl _ (Four.stored (a0 := .int .i64 0) (a1 := .string ⟨#[]⟩) (a2 := .int .i64 0) (a3 := .int .i64 0) ⟨a0, a1, a2, a3, b0, b1, b2, b3⟩ _ _ _ _)) rfl ?_
        show TokPost _ _ _ _ _ _ _
        rw [HRS.out]
        exact ⟨rfl, (((HCS.out.setNew (by omega) _).setNew (by omega) _).setNew (by omega) _).setNew (by omega) _, (((HG.out.setNew (by omega) _).setNew (by omega) _).setNew (by omega) _).setNew (by omega) _⟩
      · rintro e w3 ⟨rfl, hgr⟩
        have HRS : Hid (res = .bad o er) := HRES.out.trans e1
        refine ⟨rfl, ?_⟩
        rw [HRS.out]
        exact ⟨rfl, (HG2.out _ _).trans hgr⟩
    · have HL : Hid (isL s[p] = true) := hl
      have HRES : Hid (res = wordTok (s.data.toList.drop p)) := by show _ = _; rw [hr2, hd, hl]; rfl
      clear hr2 hd hl
      go_enter Tryd.func54, Tryd.ntmps54
      go_wp2
      go_quiet (fail)
      go_wp2_with (first | (go_at_call 70; refine (isDigit_any s[p] _).mono ?_; rintro e w' ⟨rfl, rfl⟩; rw [HD.out]) | (go_at_call 72; refine (isLetter_any s[p] _).mono ?_; rintro e w' ⟨rfl, rfl⟩; rw [HL.out]))
      refine (word_any pb p s _ (HG1.out _ _) (by omega) hs).mono ?_
      rcases e1 : wordTok (s.data.toList.drop p) with ⟨k, m, n⟩ | ⟨o, er⟩
      · rintro e w3 ⟨rfl, hcs, hgr⟩
        have HRS : Hid (res = .tok k m n) := HRES.out.trans e1
        have HCS : Hid (CS w3 pb s (p + n)) := hcs
        have HG : Hid (Gr w w3 pb) := (HG2.out _ _).trans hgr
        have F2 : Four w3 w.heap.size (.int .i64 0) (.string ⟨#[]⟩) (.int .i64 0) (.int .i64 0) :=
          Four.keep (w := w.alloc (.cells #[.int .i64 0, .string ⟨#[]⟩, .int .i64 0, .int .i64 0] 84)) ⟨by simp, by simp, by simp, by simp, by simp, by simp, by simp, by simp⟩ (hgr.block _ (by show w.heap.size < (w.alloc _).heap.size; simp) (by intro e; cases e; omega))
        obtain ⟨a0, a1, a2, a3, b0, b1, b2, b3⟩ := F2
        clear hcs hgr e1
        unfold tokV
        go_wp2
        refine bodyPost_ret (ret_tok Tryd.results54 _ w.heap.size rfl _ (Four.stored (a0 := .int .i64 0) (a1 := .string ⟨#[]⟩) (a2 := .int .i64 0) (a3 := .int .i64 0) ⟨a0, a1, a2, a3, b0, b1, b2, b3⟩ _ _ _ _)) rfl ?_
        show TokPost _ _ _ _ _ _ _
        rw [HRS.out]
        exact ⟨rfl, (((HCS.out.setNew (by omega) _).setNew (by omega) _).setNew (by omega) _).setNew (by omega) _, (((HG.out.setNew (by omega) _).setNew (by omega) _).setNew (by omega) _).setNew (by omega) _⟩
      · rintro e w3 ⟨rfl, hgr⟩
        have HRS : Hid (res = .bad o er) := HRES.out.trans e1
        refine ⟨rfl, ?_⟩
        rw [HRS.out]
        exact ⟨rfl, (HG2.out _ _).trans hgr⟩
  · have HD : Hid (isD s[p] = true) := hd
    have HRES : Hid (res = numTok (s.data.toList.drop p)) := by show _ = _; rw [hr2, hd]; rfl
    clear hr2 hd
    go_enter Tryd.func54, Tryd.ntmps54
    go_wp2
    go_quiet (fail)
    go_wp2_with (go_at_call 70; refine (isDigit_any s[p] _).mono ?_; rintro e w' ⟨rfl, rfl⟩; rw [HD.out])
    refine (number_any pb p s _ (HG1.out _ _) (by omega) hs).mono ?_
    rcases e1 : numTok (s.data.toList.drop p) with ⟨k, m, n⟩ | ⟨o, er⟩
    · rintro e w3 ⟨rfl, hcs, hgr⟩
      have HRS : Hid (res = .tok k m n) := HRES.out.trans e1
      have HCS : Hid (CS w3 pb s (p + n)) := hcs
      have HG : Hid (Gr w w3 pb) := (HG2.out _ _).trans hgr
      have F2 : Four w3 w.heap.size (.int .i64 0) (.string ⟨#[]⟩) (.int .i64 0) (.int .i64 0) :=
        Four.keep (w := w.alloc (.cells #[.int .i64 0, .string ⟨#[]⟩, .int .i64 0, .int .i64 0] 84)) ⟨by simp, by simp, by simp, by simp, by simp, by simp, by simp, by simp⟩ (hgr.block _ (by show w.heap.size < (w.alloc _).heap.size; simp) (by intro e; cases e; omega))
      obtain ⟨a0, a1, a2, a3, b0, b1, b2, b3⟩ := F2
      clear hcs hgr e1
      unfold tokV
      go_wp2
      refine bodyPost_ret (ret_tok Tryd.results54 _ w.heap.size rfl _ (Four.stored (a0 := .int .i64 0) (a1 := .string ⟨#[]⟩) (a2 := .int .i64 0) (a3 := .int .i64 0) ⟨a0, a1, a2, a3, b0, b1, b2, b3⟩ _ _ _ _)) rfl ?_
      show TokPost _ _ _ _ _ _ _
      rw [HRS.out]
      exact ⟨rfl, (((HCS.out.setNew (by omega) _).setNew (by omega) _).setNew (by omega) _).setNew (by omega) _, (((HG.out.setNew (by omega) _).setNew (by omega) _).setNew (by omega) _).setNew (by omega) _⟩
    · rintro e w3 ⟨rfl, hgr⟩
      have HRS : Hid (res = .bad o er) := HRES.out.trans e1
      refine ⟨rfl, ?_⟩
      rw [HRS.out]
      exact ⟨rfl, (HG2.out _ _).trans hgr⟩
end Go.Proofs.YtnofibjchhcmeabDoor
