/- The parser opens a bracket. -/
import Derived.Test.YtnofibjchhcmeabDoorPar2
namespace Go.Proofs.YtnofibjchhcmeabDoor
open Go.RowKit
set_option linter.unusedVariables false

set_option maxRecDepth 100000 in
set_option maxHeartbeats 1000000 in
theorem opens_no (pb g c : Nat) (L : List Tok) (p o b n : Nat) (s : ByteArray) (w : World) (h : PS w pb g c L p o b n) (he : ¬ (L[p]'h.pl).text = s.data.toList) :
    Calls Tryd.prog 92 #[.pointer (some ⟨pb, 0, none⟩), .string s] w fun e w' => e = gaveUpT ((L[p]'h.pl).pos : Int) 40 ∧ Gr w w' pb := by
  have HB0 : Hid (Below w.heap.size w (w.alloc (.cells #[.int .i64 0, .string ⟨#[]⟩, .int .i64 0, .int .i64 0] 84))) := (Below.refl _ _).alloc (Nat.le_refl _) _
  have HT := take_bad pb g c L p o b n s _ (h.below HB0.out) he
  generalize L[p]'h.pl = t at HT ⊢
  have HT' : Hid (Calls Tryd.prog 81 #[.pointer (some ⟨pb, 0, none⟩), .string s] (w.alloc (.cells #[.int .i64 0, .string ⟨#[]⟩, .int .i64 0, .int .i64 0] 84)) fun e w' => e = gaveUpT (t.pos : Int) 40 ∧ Gr (w.alloc (.cells #[.int .i64 0, .string ⟨#[]⟩, .int .i64 0, .int .i64 0] 84)) w' pb) := HT
  clear HT he
  go_enter Tryd.func92, Tryd.ntmps92
  go_wp2_with fail
  refine HT'.out.mono ?_
  rintro e w1 ⟨rfl, hg⟩
  exact ⟨rfl, rfl, (Gr.below HB0.out).trans hg⟩

set_option maxRecDepth 100000 in
set_option maxHeartbeats 1000000 in
theorem opens_ok (pb g c : Nat) (L : List Tok) (p o b n : Nat) (s : ByteArray) (w : World) (h : PS w pb g c L p o b n) (he : (L[p]'h.pl).text = s.data.toList) (h1 : p + 1 < L.length) (ho : o + 1 ≤ 48) :
    Calls Tryd.prog 92 #[.pointer (some ⟨pb, 0, none⟩), .string s] w fun e w' => e = .returned (tv (L[p]'h.pl)) ∧ PS w' pb g c L (p + 1) (o + 1) b n ∧ Gr w w' pb := by
  have HB0 : Hid (Below w.heap.size w (w.alloc (.cells #[.int .i64 0, .string ⟨#[]⟩, .int .i64 0, .int .i64 0] 84))) := (Below.refl _ _).alloc (Nat.le_refl _) _
  have HT := take_ok pb g c L p o b n s _ (h.below HB0.out) he h1
  have HPW : Hid (PS w pb g c L p o b n) := h
  unfold tv at HT ⊢
  generalize L[p]'h.pl = t at HT ⊢
  have HT' : Hid (Calls Tryd.prog 81 #[.pointer (some ⟨pb, 0, none⟩), .string s] (w.alloc (.cells #[.int .i64 0, .string ⟨#[]⟩, .int .i64 0, .int .i64 0] 84)) fun e w' => e = .returned (.agg #[.int .i64 t.kind, .string ⟨t.text.toArray⟩, .int .i64 t.num, .int .i64 (t.pos : Int)]) ∧ PS w' pb g c L (p + 1) o b n ∧ Gr (w.alloc (.cells #[.int .i64 0, .string ⟨#[]⟩, .int .i64 0, .int .i64 0] 84)) w' pb) := HT
  have hpbne : pb ≠ w.heap.size := by have := h.lt; omega
  have hgn : g ≠ w.heap.size := by have := h.gl; omega
  clear HT he h h1
  go_enter Tryd.func92, Tryd.ntmps92
  go_wp2_with fail
  refine HT'.out.mono ?_
  rintro e w1 ⟨rfl, hp, hg⟩
  have HP : Hid (PS w1 pb g c L (p + 1) o b n) := hp
  have HG : Hid (Gr w w1 pb) := (Gr.below HB0.out).trans hg
  have F1 : Four w1 w.heap.size (.int .i64 0) (.string ⟨#[]⟩) (.int .i64 0) (.int .i64 0) := (Four.new w _ _ _ _).keep (hg.block _ (by simp) (by intro e; cases e; exact hpbne rfl))
  have HF1 : Hid (Four w1 w.heap.size (.int .i64 0) (.string ⟨#[]⟩) (.int .i64 0) (.int .i64 0)) := F1
  have hw1 : w.heap.size < w1.heap.size := World.block_lt_of_cell? w1 _ F1.c0
  obtain ⟨a0, a1, a2, a3, b0, b1, b2, b3⟩ := F1
  have c1 := hp.c1
  have f1 := hp.f1
  have hl1 := hp.lt
  clear hp hg
  go_wp2
  have F2 := ((HF1.out.keep (w' := w1.setCell ⟨pb, 1, none⟩ (.int .i64 ((o : Int) + 1))) (Below.heap_setCell _ _ _ _ (fun e => hpbne e.symm))).stored (.int .i64 t.kind) (.string ⟨t.text.toArray⟩) (.int .i64 t.num) (.int .i64 (t.pos : Int)))
  refine bodyPost_ret (ret_tokN 4 Tryd.results92 _ w.heap.size rfl _ (F2.keep (Below.heap_alloc _ _ _ (by simp [World.setCell]; omega)))) rfl ?_
  refine ⟨rfl, ?_, ?_⟩
  · exact (((((HP.out.set1 (o + 1)).setNew hpbne hgn _).setNew hpbne hgn _).setNew hpbne hgn _).setNew hpbne hgn _).below ((Below.refl _ _).alloc (Nat.le_refl _) _)
  · exact (((((HG.out.set 1 _).setNew (Nat.le_refl _) _).setNew (Nat.le_refl _) _).setNew (Nat.le_refl _) _).setNew (Nat.le_refl _) _).alloc _

set_option maxRecDepth 100000 in
set_option maxHeartbeats 1000000 in
theorem opens_deep (pb g c : Nat) (L : List Tok) (p o b n : Nat) (s : ByteArray) (w : World) (h : PS w pb g c L p o b n) (he : (L[p]'h.pl).text = s.data.toList) (h1 : p + 1 < L.length) (ho : 48 < o + 1) (ho2 : o ≤ 100000) :
    Calls Tryd.prog 92 #[.pointer (some ⟨pb, 0, none⟩), .string s] w fun e w' => e = gaveUpT ((L[p]'h.pl).pos : Int) 41 ∧ Gr w w' pb := by
  have HB0 : Hid (Below w.heap.size w (w.alloc (.cells #[.int .i64 0, .string ⟨#[]⟩, .int .i64 0, .int .i64 0] 84))) := (Below.refl _ _).alloc (Nat.le_refl _) _
  have HT := take_ok pb g c L p o b n s _ (h.below HB0.out) he h1
  have HPW : Hid (PS w pb g c L p o b n) := h
  unfold tv at HT
  generalize L[p]'h.pl = t at HT ⊢
  have HT' : Hid (Calls Tryd.prog 81 #[.pointer (some ⟨pb, 0, none⟩), .string s] (w.alloc (.cells #[.int .i64 0, .string ⟨#[]⟩, .int .i64 0, .int .i64 0] 84)) fun e w' => e = .returned (.agg #[.int .i64 t.kind, .string ⟨t.text.toArray⟩, .int .i64 t.num, .int .i64 (t.pos : Int)]) ∧ PS w' pb g c L (p + 1) o b n ∧ Gr (w.alloc (.cells #[.int .i64 0, .string ⟨#[]⟩, .int .i64 0, .int .i64 0] 84)) w' pb) := HT
  have hpbne : pb ≠ w.heap.size := by have := h.lt; omega
  have hgn : g ≠ w.heap.size := by have := h.gl; omega
  clear HT he h h1
  go_enter Tryd.func92, Tryd.ntmps92
  go_wp2_with fail
  refine HT'.out.mono ?_
  rintro e w1 ⟨rfl, hp, hg⟩
  have HP : Hid (PS w1 pb g c L (p + 1) o b n) := hp
  have HG : Hid (Gr w w1 pb) := (Gr.below HB0.out).trans hg
  have F1 : Four w1 w.heap.size (.int .i64 0) (.string ⟨#[]⟩) (.int .i64 0) (.int .i64 0) := (Four.new w _ _ _ _).keep (hg.block _ (by simp) (by intro e; cases e; exact hpbne rfl))
  have HF1 : Hid (Four w1 w.heap.size (.int .i64 0) (.string ⟨#[]⟩) (.int .i64 0) (.int .i64 0)) := F1
  have hw1 : w.heap.size < w1.heap.size := World.block_lt_of_cell? w1 _ F1.c0
  obtain ⟨a0, a1, a2, a3, b0, b1, b2, b3⟩ := F1
  have c1 := hp.c1
  have f1 := hp.f1
  have hl1 := hp.lt
  clear hp hg
  go_wp2_with fail
  refine (giveUpT_any _ _ _).mono ?_
  rintro e w2 ⟨rfl, hw2⟩
  rw [hw2]
  exact ⟨rfl, rfl, (HG.out.set 1 _).alloc _⟩

end Go.Proofs.YtnofibjchhcmeabDoor
