/- A word or a name, a sign, and a token of any kind. -/
import Derived.Test.YtnofibjchhcmeabDoorLToken
namespace Go.Proofs.YtnofibjchhcmeabDoor
open Go.RowKit
set_option linter.unusedVariables false

set_option maxRecDepth 100000 in
set_option maxHeartbeats 4000000 in
theorem word_any (pb p : Nat) (s : ByteArray) (w : World) (h : CS w pb s p) (hp : p ≤ s.size) (hs : s.size ≤ 1000000) :
    Calls Tryd.prog 73 #[.pointer (some ⟨pb, 0, none⟩)] w fun e w' => TokPost w pb s p (wordTok (s.data.toList.drop p)) e w' := by
  obtain ⟨h1, h2, h3, h4⟩ := h
  have HC : Hid (CS w pb s p) := ⟨h1, h2, h3, h4⟩
  obtain ⟨n, hn⟩ : ∃ n, ga alStep () (s.data.toList.drop p) = n := ⟨_, rfl⟩
  have hpn : p + n ≤ s.size := by
    have := ga_le alStep () (s.data.toList.drop p)
    rw [hn] at this
    simp at this
    omega
  obtain ⟨q, hq⟩ : ∃ q, p + n = q := ⟨_, rfl⟩
  obtain ⟨T, hT⟩ : ∃ T, s.extract p (p + n) = T := ⟨_, rfl⟩
  have hTl : T.data.toList = (s.data.toList.drop p).take n := by rw [← hT, extract_list]
  have hTs : T.size = n := by
    have e1 : T.data.toList.length = T.size := by simp
    rw [← e1, hTl]
    simp
    omega
  obtain ⟨res, hres⟩ : ∃ r, wordTok (s.data.toList.drop p) = r := ⟨_, rfl⟩
  have HR : Hid (wordTok (s.data.toList.drop p) = res) := hres
  rw [hres]
  have HN : Hid (ga alStep () (s.data.toList.drop p) = n) := hn
  have HTL : Hid (T.data.toList = (s.data.toList.drop p).take n) := hTl
  have HT : Hid (s.extract p q = T) := hq ▸ hT
  have HQ : Hid (p + n = q) := hq
  rw [hq] at hpn
  have hn12 : n ≤ 1000000 := by omega
  clear hres hn hT hTl hq
  go_enter Tryd.func73, Tryd.ntmps73
  go_wp2_with fail
  refine (gather_any (looksA pb) p s () _ ?h1 hp hs trivial).mono ?_
  case h1 => exact (HC.out.block (Below.heap_alloc _ _ _ h4) (by simp)).block (Below.heap_alloc _ _ _ (by simp; omega)) (by simp)
  rintro e w3 ⟨rfl, hcs, hgr⟩
  rw [HN.out, HQ.out] at hcs
  rw [HN.out, HQ.out, HT.out]
  have F2 : Four w3 w.heap.size (.int .i64 0) (.string ⟨#[]⟩) (.int .i64 0) (.int .i64 0) :=
    Four.keep (w := (w.alloc (.cells #[.int .i64 0, .string ⟨#[]⟩, .int .i64 0, .int .i64 0] 84)).alloc (.cells #[.int .i64 2, .string ⟨#[]⟩, .int .i64 0, .int .i64 (p : Int)] 84)) ⟨by simp, by simp, by simp, by simp, by simp, by simp, by simp, by simp⟩ (hgr.block _ (by simp; omega) (by intro e; cases e; omega))
  have F3 : Four w3 (w.heap.size + 1) (.int .i64 2) (.string ⟨#[]⟩) (.int .i64 0) (.int .i64 (p : Int)) :=
    Four.keep (w := (w.alloc (.cells #[.int .i64 0, .string ⟨#[]⟩, .int .i64 0, .int .i64 0] 84)).alloc (.cells #[.int .i64 2, .string ⟨#[]⟩, .int .i64 0, .int .i64 (p : Int)] 84)) ⟨by simp, by simp, by simp, by simp, by simp, by simp, by simp, by simp⟩ (hgr.block _ (by simp) (by intro e; cases e; omega))
  have HG : Hid (Gr w w3 pb) := (((Gr.refl w pb).alloc _).alloc _).trans hgr
  have HCS : Hid (CS w3 pb s q) := hcs
  obtain ⟨a0, a1, a2, a3, b0, b1, b2, b3⟩ := F2
  obtain ⟨d0, d1, d2, d3, e0, e1, e2, e3⟩ := F3
  clear hcs hgr
  have hr2 : res = if isW T.toList = true then .tok 3 0 n else if 12 < n then .bad 0 32 else .tok 2 0 n := by
    rw [← HR.out]
    unfold wordTok
    dsimp only
    rw [HN.out, ← HTL.out, ByteArray.toList_eq]
  rcases hl : isW T.toList with _ | _
  · have HLL : Hid (isW T.toList = false) := hl
    rw [hl] at hr2
    clear hl
    by_cases h12 : 12 < n
    · have HRES : Hid (res = .bad 0 32) := by show _ = _; rw [hr2, if_neg (by decide), if_pos h12]
      clear hr2
      go_wp2_with (go_at_call 86; refine (words_any T _).mono ?_; rintro e w' ⟨rfl, rfl⟩; rw [HLL.out])
      refine (giveUp_any _ _ _).mono ?_
      rintro e w' ⟨rfl, rfl⟩
      refine ⟨rfl, ?_⟩
      rw [HRES.out]
      exact ⟨rfl, HG.out.setNew (by omega) _⟩
    · have HRES : Hid (res = .tok 2 0 n) := by show _ = _; rw [hr2, if_neg (by decide), if_neg h12]
      clear hr2
      go_wp2_with (go_at_call 86; refine (words_any T _).mono ?_; rintro e w' ⟨rfl, rfl⟩; rw [HLL.out])
      refine bodyPost_ret (ret_tok Tryd.results73 _ w.heap.size rfl _ (Four.stored (a0 := .int .i64 0) (a1 := .string ⟨#[]⟩) (a2 := .int .i64 0) (a3 := .int .i64 0) ?_ _ _ _ _)) rfl ?_
      · exact Four.keep (w := w3) ⟨a0, a1, a2, a3, b0, b1, b2, b3⟩ (Below.heap_setCell _ _ _ _ (by show w.heap.size ≠ w.heap.size + 1; omega))
      show TokPost _ _ _ _ _ _ _
      rw [HRES.out]
      refine ⟨by rw [HQ.out, HT.out]; rfl, ?_, ?_⟩
      · rw [HQ.out]
        exact ((((HCS.out.setNew (by omega) _).setNew (by omega) _).setNew (by omega) _).setNew (by omega) _).setNew (by omega) _
      · exact ((((HG.out.setNew (by omega) _).setNew (by omega) _).setNew (by omega) _).setNew (by omega) _).setNew (by omega) _
  · have HLL : Hid (isW T.toList = true) := hl
    have HRES : Hid (res = .tok 3 0 n) := by show _ = _; rw [hr2, hl, if_pos rfl]
    clear hr2 hl
    go_wp2_with (go_at_call 86; refine (words_any T _).mono ?_; rintro e w' ⟨rfl, rfl⟩; rw [HLL.out])
    refine bodyPost_ret (ret_tok Tryd.results73 _ w.heap.size rfl _ (Four.stored (a0 := .int .i64 0) (a1 := .string ⟨#[]⟩) (a2 := .int .i64 0) (a3 := .int .i64 0) ?_ _ _ _ _)) rfl ?_
    · exact Four.keep (w := w3) ⟨a0, a1, a2, a3, b0, b1, b2, b3⟩ (by rw [Below.heap_setCell _ _ _ _ (by show w.heap.size ≠ w.heap.size + 1; omega)]; exact Below.heap_setCell _ _ _ _ (by show w.heap.size ≠ w.heap.size + 1; omega))
    show TokPost _ _ _ _ _ _ _
    rw [HRES.out]
    refine ⟨by rw [HQ.out, HT.out]; rfl, ?_, ?_⟩
    · rw [HQ.out]
      exact (((((HCS.out.setNew (by omega) _).setNew (by omega) _).setNew (by omega) _).setNew (by omega) _).setNew (by omega) _).setNew (by omega) _
    · exact (((((HG.out.setNew (by omega) _).setNew (by omega) _).setNew (by omega) _).setNew (by omega) _).setNew (by omega) _).setNew (by omega) _
end Go.Proofs.YtnofibjchhcmeabDoor
