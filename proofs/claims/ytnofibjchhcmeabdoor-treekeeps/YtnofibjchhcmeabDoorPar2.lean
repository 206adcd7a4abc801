/- The parser's counters. -/
import Derived.Test.YtnofibjchhcmeabDoorPar
namespace Go.Proofs.YtnofibjchhcmeabDoor
open Go.RowKit
set_option linter.unusedVariables false

set_option maxRecDepth 100000 in
set_option maxHeartbeats 1000000 in
theorem count_ok (pb g c : Nat) (L : List Tok) (p o b n : Nat) (t : Tok) (w : World) (h : PS w pb g c L p o b n) (hn : n + 1 ≤ 600) :
    Calls Tryd.prog 91 #[.pointer (some ⟨pb, 0, none⟩), tv t] w fun e w' => e = .returned (.tuple #[]) ∧ PS w' pb g c L p o b (n + 1) ∧ Gr w w' pb := by
  have HP : Hid (PS w pb g c L p o b n) := h
  have c3 := h.c3
  have f3 := h.f3
  have hlt := h.lt
  unfold tv
  have k3 := fld3
  clear h
  go_enter Tryd.func91, Tryd.ntmps91
  go_wp2
  go_end0
  exact ⟨rfl, (HP.out.set3 (n + 1)).below ((Below.refl _ _).alloc (Nat.le_refl _) _), ((Gr.refl w pb).set 3 _).alloc _⟩

set_option maxRecDepth 100000 in
set_option maxHeartbeats 1000000 in
theorem count_bad (pb g c : Nat) (L : List Tok) (p o b n : Nat) (t : Tok) (w : World) (h : PS w pb g c L p o b n) (hn : 600 < n + 1) (hn2 : n ≤ 100000) :
    Calls Tryd.prog 91 #[.pointer (some ⟨pb, 0, none⟩), tv t] w fun e w' => e = gaveUpT (t.pos : Int) 42 ∧ Gr w w' pb := by
  have HP : Hid (PS w pb g c L p o b n) := h
  have c3 := h.c3
  have f3 := h.f3
  have hlt := h.lt
  unfold tv
  have k3 := fld3
  clear h
  go_enter Tryd.func91, Tryd.ntmps91
  go_wp2_with fail
  refine (giveUpT_any _ _ _).mono ?_
  rintro e w2 ⟨rfl, hw2⟩
  rw [hw2]
  exact ⟨rfl, rfl, ((Gr.refl w pb).set 3 _).alloc _⟩

set_option maxRecDepth 100000 in
set_option maxHeartbeats 1000000 in
theorem enters_ok (pb g c : Nat) (L : List Tok) (p o b n : Nat) (t : Tok) (w : World) (h : PS w pb g c L p o b n) (hn : b < 12) :
    Calls Tryd.prog 95 #[.pointer (some ⟨pb, 0, none⟩), tv t] w fun e w' => e = .returned (.tuple #[]) ∧ PS w' pb g c L p o (b + 1) n ∧ Gr w w' pb := by
  have HP : Hid (PS w pb g c L p o b n) := h
  have c2 := h.c2
  have f2 := h.f2
  have hlt := h.lt
  unfold tv
  have k3 := fld3
  clear h
  go_enter Tryd.func95, Tryd.ntmps95
  go_wp2
  go_end0
  exact ⟨rfl, (HP.out.set2 (b + 1)).below ((Below.refl _ _).alloc (Nat.le_refl _) _), ((Gr.refl w pb).set 2 _).alloc _⟩

set_option maxRecDepth 100000 in
set_option maxHeartbeats 1000000 in
theorem enters_bad (pb g c : Nat) (L : List Tok) (p o b n : Nat) (t : Tok) (w : World) (h : PS w pb g c L p o b n) (hn : 12 ≤ b) (hn2 : b ≤ 100000) :
    Calls Tryd.prog 95 #[.pointer (some ⟨pb, 0, none⟩), tv t] w fun e w' => e = gaveUpT (t.pos : Int) 41 ∧ Gr w w' pb := by
  have HP : Hid (PS w pb g c L p o b n) := h
  have c2 := h.c2
  have f2 := h.f2
  have hlt := h.lt
  unfold tv
  have k3 := fld3
  clear h
  go_enter Tryd.func95, Tryd.ntmps95
  go_wp2_with fail
  refine (giveUpT_any _ _ _).mono ?_
  rintro e w2 ⟨rfl, hw2⟩
  rw [hw2]
  exact ⟨rfl, rfl, (Gr.refl w pb).alloc _⟩

set_option maxRecDepth 100000 in
set_option maxHeartbeats 1000000 in
theorem takeKind_any (pb g c : Nat) (L : List Tok) (p o b n : Nat) (k : Int) (w : World) (h : PS w pb g c L p o b n) (h1 : (L[p]'h.pl).kind = k → p + 1 < L.length) :
    Calls Tryd.prog 78 #[.pointer (some ⟨pb, 0, none⟩), .int .i64 k] w fun e w' => TakePost w pb g c L p o b n (L[p]'h.pl) (decide ((L[p]'h.pl).kind = k)) e w' := by
  have HP : Hid (PS w pb g c L p o b n) := h
  have hws : w.heap.size ≤ (w.alloc (.cells #[.int .i64 0, .string ⟨#[]⟩, .int .i64 0, .int .i64 0] 84)).heap.size := by simp
  have HB0 : Hid (Below w.heap.size w (w.alloc (.cells #[.int .i64 0, .string ⟨#[]⟩, .int .i64 0, .int .i64 0] 84))) := (Below.refl _ _).alloc (Nat.le_refl _) _
  have HP0 : Hid (PS (w.alloc (.cells #[.int .i64 0, .string ⟨#[]⟩, .int .i64 0, .int .i64 0] 84)) pb g c L p o b n) := h.below HB0.out
  have HPL : Hid (p < L.length) := h.pl
  have k0 := fld0
  by_cases e : (L[p]'h.pl).kind = k
  · rw [decide_eq_true e]
    have HLL : Hid (p + 1 < L.length) := h1 e
    have HK : Hid (∀ W, PS W pb g c L p o b n → Calls Tryd.prog 46 #[.pointer (some ⟨pb, 0, none⟩)] W fun e w' => (∃ s m q, e = .returned (.agg #[.int .i64 k, .string s, .int .i64 m, .int .i64 q])) ∧ Below W.heap.size W w') := fun W hW => (look_any pb g c L p o b n W hW).mono fun e' w' ⟨x1, x2⟩ => ⟨⟨⟨L[p].text.toArray⟩, L[p].num, (L[p].pos : Int), by rw [x1, ← e]; rfl⟩, x2⟩
    clear e h1
    go_enter Tryd.func78, Tryd.ntmps78
    go_wp2_with fail
    refine (HK.out _ HP0.out).mono ?_
    rintro e w1 ⟨⟨sx, mx, qx, rfl⟩, hb1⟩
    have HB1 : Hid (Below w.heap.size w w1) := HB0.out.trans (hb1.mono hws)
    have HP1 : Hid (PS w1 pb g c L p o b n) := HP.out.below HB1.out
    have HF1 : Hid (Four w1 w.heap.size (.int .i64 0) (.string ⟨#[]⟩) (.int .i64 0) (.int .i64 0)) := (Four.new w _ _ _ _).keep (hb1.block _ (by simp))
    clear hb1
    go_wp2_with fail
    refine (next_any pb g c L p o b n _ HP1.out HLL.out).mono ?_
    rintro e w2 ⟨rfl, hp2, hg2⟩
    have HP2 : Hid (PS w2 pb g c L (p + 1) o b n) := hp2
    have HG2 : Hid (Gr w w2 pb) := (Gr.below HB1.out).trans hg2
    have hpbne : pb ≠ w.heap.size := by have := HP.out.lt; omega
    have F2 : Four w2 w.heap.size (.int .i64 0) (.string ⟨#[]⟩) (.int .i64 0) (.int .i64 0) := HF1.out.keep (hg2.block _ (by have := HB1.out.size; have := HF1.out.c0; exact World.block_lt_of_cell? w1 _ this) (by intro e; cases e; exact hpbne rfl))
    have HF2 : Hid (Four w2 w.heap.size (.int .i64 0) (.string ⟨#[]⟩) (.int .i64 0) (.int .i64 0)) := F2
    obtain ⟨a0, a1, a2, a3, b0, b1, b2, b3⟩ := F2
    clear hp2 hg2
    unfold tv
    go_wp2
    refine bodyPost_ret (ret_tokN 4 Tryd.results78 _ w.heap.size rfl _ (HF2.out.stored _ _ _ _)) rfl ?_
    refine ⟨rfl, ?_, ?_⟩
    · have hgn : g ≠ w.heap.size := by have := HP.out.gl; omega
      exact (((HP2.out.setNew hpbne hgn _).setNew hpbne hgn _).setNew hpbne hgn _).setNew hpbne hgn _
    · exact (((HG2.out.setNew (Nat.le_refl _) _).setNew (Nat.le_refl _) _).setNew (Nat.le_refl _) _).setNew (Nat.le_refl _) _
  · rw [decide_eq_false e]
    have HK : Hid (∀ W, PS W pb g c L p o b n → Calls Tryd.prog 46 #[.pointer (some ⟨pb, 0, none⟩)] W fun e w' => (∃ kx s m q, ¬ kx = k ∧ e = .returned (.agg #[.int .i64 kx, .string s, .int .i64 m, .int .i64 q])) ∧ Below W.heap.size W w') := fun W hW => (look_any pb g c L p o b n W hW).mono fun e' w' ⟨x1, x2⟩ => ⟨⟨_, _, _, _, e, x1⟩, x2⟩
    clear e h1
    go_enter Tryd.func78, Tryd.ntmps78
    go_wp2_with fail
    refine (HK.out _ HP0.out).mono ?_
    rintro e w1 ⟨⟨kx, sx, mx, qx, hne, rfl⟩, hb1⟩
    have HB1 : Hid (Below w.heap.size w w1) := HB0.out.trans (hb1.mono hws)
    have HP1 : Hid (PS w1 pb g c L p o b n) := HP.out.below HB1.out
    clear hb1
    go_wp2_with fail
    refine (cannotStand_any pb g c L p o b n _ HP1.out).mono ?_
    rintro e w2 ⟨rfl, hb2⟩
    exact ⟨rfl, rfl, Gr.below (HB1.out.trans (hb2.mono HB1.out.size))⟩

theorem take_ok (pb g c : Nat) (L : List Tok) (p o b n : Nat) (s : ByteArray) (w : World) (h : PS w pb g c L p o b n) (he : (L[p]'h.pl).text = s.data.toList) (h1 : p + 1 < L.length) :
    Calls Tryd.prog 81 #[.pointer (some ⟨pb, 0, none⟩), .string s] w fun e w' => e = .returned (tv (L[p]'h.pl)) ∧ PS w' pb g c L (p + 1) o b n ∧ Gr w w' pb :=
  (take_any pb g c L p o b n s w h (fun _ => h1)).mono fun e w' hp => by
    unfold TakePost at hp
    rw [if_pos (by simpa using he)] at hp
    exact hp
theorem take_bad (pb g c : Nat) (L : List Tok) (p o b n : Nat) (s : ByteArray) (w : World) (h : PS w pb g c L p o b n) (he : ¬ (L[p]'h.pl).text = s.data.toList) :
    Calls Tryd.prog 81 #[.pointer (some ⟨pb, 0, none⟩), .string s] w fun e w' => e = gaveUpT ((L[p]'h.pl).pos : Int) 40 ∧ Gr w w' pb :=
  (take_any pb g c L p o b n s w h (fun e => absurd e he)).mono fun e w' hp => by
    unfold TakePost at hp
    rw [if_neg (by simpa using he)] at hp
    exact hp

set_option maxRecDepth 100000 in
set_option maxHeartbeats 1000000 in
theorem shuts_ok (pb g c : Nat) (L : List Tok) (p o b n : Nat) (s : ByteArray) (w : World) (h : PS w pb g c L p (o + 1) b n) (ho : o ≤ 100000) (he : (L[p]'h.pl).text = s.data.toList) (h1 : p + 1 < L.length) :
    Calls Tryd.prog 94 #[.pointer (some ⟨pb, 0, none⟩), .string s] w fun e w' => e = .returned (.tuple #[]) ∧ PS w' pb g c L (p + 1) o b n ∧ Gr w w' pb := by
  have HT := take_ok pb g c L p (o + 1) b n s w h he h1
  unfold tv at HT
  generalize L[p]'h.pl = t at HT
  have HT' : Hid (Calls Tryd.prog 81 #[.pointer (some ⟨pb, 0, none⟩), .string s] w fun e w' => e = .returned (.agg #[.int .i64 t.kind, .string ⟨t.text.toArray⟩, .int .i64 t.num, .int .i64 (t.pos : Int)]) ∧ PS w' pb g c L (p + 1) (o + 1) b n ∧ Gr w w' pb) := HT
  have hlt := h.lt
  clear h h1 HT he
  go_enter Tryd.func94, Tryd.ntmps94
  go_wp2_with fail
  refine HT'.out.mono ?_
  rintro e w1 ⟨rfl, hp, hg⟩
  have HP : Hid (PS w1 pb g c L (p + 1) (o + 1) b n) := hp
  have HG : Hid (Gr w w1 pb) := hg
  have c1 := hp.c1
  have f1 := hp.f1
  have hl1 := hp.lt
  have hco : ((o + 1 : Nat) : Int) = (o : Int) + 1 := by omega
  rw [hco] at c1
  clear hp hg hco
  go_wp2
  go_end0
  refine ⟨rfl, ?_, ?_⟩
  · have h2 := HP.out.set1 o
    simpa using h2
  · exact HG.out.set 1 _
set_option maxRecDepth 100000 in
set_option maxHeartbeats 1000000 in
theorem shuts_bad (pb g c : Nat) (L : List Tok) (p o b n : Nat) (s : ByteArray) (w : World) (h : PS w pb g c L p o b n) (he : ¬ (L[p]'h.pl).text = s.data.toList) :
    Calls Tryd.prog 94 #[.pointer (some ⟨pb, 0, none⟩), .string s] w fun e w' => e = gaveUpT ((L[p]'h.pl).pos : Int) 40 ∧ Gr w w' pb := by
  have HT := take_bad pb g c L p o b n s w h he
  generalize L[p]'h.pl = t at HT ⊢
  have HT' : Hid (Calls Tryd.prog 81 #[.pointer (some ⟨pb, 0, none⟩), .string s] w fun e w' => e = gaveUpT (t.pos : Int) 40 ∧ Gr w w' pb) := HT
  clear HT he
  go_enter Tryd.func94, Tryd.ntmps94
  go_wp2_with fail
  refine HT'.out.mono ?_
  rintro e w1 ⟨rfl, hg⟩
  exact ⟨rfl, rfl, hg⟩
end Go.Proofs.YtnofibjchhcmeabDoor
