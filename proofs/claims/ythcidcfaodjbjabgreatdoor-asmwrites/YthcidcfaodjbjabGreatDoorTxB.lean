/- asm.listed. -/
import Derived.Test.YthcidcfaodjbjabGreatDoorTxA
import Derived.Test.YthcidcfaodjbjabGreatDoorShfT
import Derived.Test.YthcidcfaodjbjabGreatDoorWord
import Derived.Test.YthcidcfaodjbjabGreatDoorQFd
namespace Go.Proofs.YthcidcfaodjbjabGreatDoor
open Go.RowKit Go.Maps
set_option linter.unusedVariables false
/-- an instruction's line, its end aside -/
def listT (x : In) : List UInt8 := Lib.join ((wordOf x).1 :: (wordOf x).2.map (pieceT x)) [32]

/-- at each part -/
structure LsI (w wr : World) (H0 : Nat) (x : In) (s : ByteArray) (v : Value) (l : List ByteArray) (pos : Nat) : Prop where
  it : wr.heap[H0 + 1]? = some (.stringIter s pos)
  six : Six wr w.heap.size x
  own : Strs wr H0 v l
  ne : v.ownBlock ≠ some (H0 + 1)
  hb : Below w.heap.size w wr
  h0 : w.heap.size < H0
theorem LsI.pos {w wr : World} {H0 : Nat} {x : In} {s : ByteArray} {v : Value} {l : List ByteArray} {q : Nat} (h : LsI w wr H0 x s v l q) : wr.iterPos (H0 + 1) = q := by simp [World.iterPos, h.it]
theorem LsI.hs {w wr : World} {H0 : Nat} {x : In} {s : ByteArray} {v : Value} {l : List ByteArray} {q : Nat} (h : LsI w wr H0 x s v l q) : H0 + 1 < wr.heap.size := (Array.getElem?_eq_some_iff.1 h.it).1
theorem LsI.next {w wr : World} {H0 : Nat} {x : In} {s : ByteArray} {v : Value} {l : List ByteArray} {q : Nat} (h : LsI w wr H0 x s v l q) (q' : Nat) : LsI w (wr.iterAt (H0 + 1) s q') H0 x s v l q' := by
  have h0 := h.h0
  have hs : wr.heap.size ≤ (wr.iterAt (H0 + 1) s q').heap.size := by rw [Lib.iterAt_size]; exact Nat.le_refl _
  exact ⟨Lib.iterAt_heap wr _ s q q' h.it, h.six.block (Lib.iterAt_other wr _ _ s q' (by omega)) hs, h.own.keep (fun k hk => Lib.iterAt_other wr _ _ s q' (fun e => h.ne (by rw [hk, e]))), h.ne, Lib.below_iterAt h.hb (by omega) s q', h.h0⟩
theorem LsI.below {w wr V : World} {H0 : Nat} {x : In} {s : ByteArray} {v : Value} {l : List ByteArray} {q : Nat} (h : LsI w wr H0 x s v l q) (hb : Below wr.heap.size wr V) : LsI w V H0 x s v l q :=
  ⟨(hb.block _ h.hs).trans h.it, h.six.block (hb.block _ h.six.lt) hb.size, h.own.below hb, h.ne, h.hb.trans (hb.mono h.hb.size), h.h0⟩
theorem LsI.app {w wr V : World} {H0 : Nat} {x : In} {s : ByteArray} {v v' : Value} {l : List ByteArray} {q : Nat} (h : LsI w wr H0 x s v l q) (y : ByteArray) (ho : Strs V H0 v' (l ++ [y])) (hg : wr.grownBy V v.ownBlock) (hv : v'.ownBlock = v.ownBlock ∨ v'.ownBlock = some wr.heap.size) : LsI w V H0 x s v' (l ++ [y]) q := by
  have h0 := h.h0
  have hs := h.hs
  have hlt := h.own.own
  refine ⟨(hg.block _ h.hs (Ne.symm h.ne)).trans h.it, h.six.block (hg.block _ h.six.lt (fun e => by have := (hlt _ e.symm).1; omega)) hg.size, ho, ?_, ?_, h.h0⟩
  · rcases hv with e | e
    · rw [e]; exact h.ne
    · rw [e]; intro e2; injection e2 with e2; omega
  · have hb := h.hb
    exact ⟨hg.os.trans hb.os, hg.tape.trans hb.tape, hg.output.trans hb.output, Nat.le_trans hb.size hg.size, fun k hk => (hg.block k (Nat.lt_of_lt_of_le hk hb.size) (fun e => by have := (hlt _ e.symm).1; omega)).trans (hb.block k hk)⟩
/-- the texts so far -/
def saidT (x : In) (pos : Nat) : List ByteArray := ⟨(wordOf x).1.toArray⟩ :: ((wordOf x).2.take pos).map fun c => ⟨(pieceT x c).toArray⟩
theorem wordGo_ok (k o : Int) : ∀ L : List Say, (L.all fun s => decide (s.word.length ≤ 5) && decide (s.parts.length ≤ 3) && s.parts.all fun c => decide (c.toNat < 128)) = true → (wordGo k o L).1.length ≤ 5 ∧ (wordGo k o L).2.length ≤ 3 ∧ ∀ c ∈ (wordGo k o L).2, c.toNat < 128
  | [], _ => ⟨Nat.zero_le _, Nat.zero_le _, fun c hc => by cases hc⟩
  | s :: L, h => by
    rw [List.all_cons, Bool.and_eq_true] at h
    unfold wordGo
    by_cases hs : s.kind = k ∧ s.op = o
    · rw [if_pos hs]
      have h1 := h.1
      simp only [Bool.and_eq_true, decide_eq_true_eq, List.all_eq_true] at h1
      exact ⟨h1.1.1, h1.1.2, fun c hc => h1.2 c hc⟩
    · rw [if_neg hs]
      exact wordGo_ok k o L h.2
theorem words_ok (x : In) : (wordOf x).1.length ≤ 5 ∧ (wordOf x).2.length ≤ 3 ∧ ∀ c ∈ (wordOf x).2, c.toNat < 128 := wordGo_ok _ _ saysL (by decide)

theorem piece_len (x : In) (c : UInt8) : (pieceT x c).length ≤ 23 := by
  unfold pieceT labelT
  have h1 := text_len x.a
  have h2 := text_len x.b
  have h3 := text_len x.c
  have h4 := text_len x.k
  repeat' split
  all_goals (simp; omega)
theorem tail_len (sep : List UInt8) : ∀ l : List (List UInt8), (∀ y ∈ l, y.length ≤ 23) → (Lib.joinTail sep l).length ≤ l.length * (23 + sep.length)
  | [], _ => by simp [Lib.joinTail]
  | y :: l, h => by
    have h1 := tail_len sep l (fun z hz => h z (List.mem_cons_of_mem _ hz))
    have h2 := h y (List.mem_cons_self ..)
    have e : Lib.joinTail sep (y :: l) = (sep ++ y) ++ Lib.joinTail sep l := by simp [Lib.joinTail]
    rw [e, List.length_append, List.length_append, List.length_cons, Nat.add_mul]
    omega
theorem join_len (sep : List UInt8) (l : List (List UInt8)) (h : ∀ y ∈ l, y.length ≤ 23) : (Lib.join l sep).length ≤ l.length * (23 + sep.length) := by
  cases l with
  | nil => simp [Lib.join_nil]
  | cons y l =>
    have h1 := tail_len sep l (fun z hz => h z (List.mem_cons_of_mem _ hz))
    have h2 := h y (List.mem_cons_self ..)
    rw [Lib.join_cons, List.length_append, List.length_cons, Nat.add_mul]
    omega
theorem list_len (x : In) : (listT x).length ≤ 140737488355328 := by
  obtain ⟨h1, h2, _⟩ := words_ok x
  have := join_len [32] ((wordOf x).1 :: (wordOf x).2.map (pieceT x)) (fun y hy => by
    rcases List.mem_cons.1 hy with rfl | hy
    · omega
    · obtain ⟨c, _, rfl⟩ := List.mem_map.1 hy
      exact piece_len x c)
  unfold listT
  simp at this ⊢
  omega

set_option maxRecDepth 100000 in
set_option maxHeartbeats 2000000 in
theorem listed_any (x : In) (hx : InW x) (w : World) : Calls Tryz.prog 11 #[iv x] w fun e w' => e = .returned (.string ⟨(listT x).toArray⟩) ∧ Below w.heap.size w w' := by
  obtain ⟨i0, hi, hz0, hz1, hz2⟩ := info_parts info9
  obtain ⟨S1, hS1⟩ : ∃ S : ByteArray, ⟨(wordOf x).1.toArray⟩ = S := ⟨_, rfl⟩
  obtain ⟨S2, hS2⟩ : ∃ S : ByteArray, ⟨(wordOf x).2.toArray⟩ = S := ⟨_, rfl⟩
  have HI : Hid (iv x = .agg #[.int .i64 x.kind, .int .i64 x.op, .int .i64 x.a, .int .i64 x.b, .int .i64 x.c, .int .i64 x.k]) := rfl
  have C6 : Hid (∀ w, Calls Tryz.prog 22 #[.agg #[.int .i64 x.kind, .int .i64 x.op, .int .i64 x.a, .int .i64 x.b, .int .i64 x.c, .int .i64 x.k]] w fun e w' => e = .returned (.tuple #[.string S1, .string S2]) ∧ Below w.heap.size w w') := fun w => by rw [← hS1, ← hS2]; exact word_any x w
  have C52 : Hid (∀ c : UInt8, ∀ W, Calls Tryz.prog 26 #[.agg #[.int .i64 x.kind, .int .i64 x.op, .int .i64 x.a, .int .i64 x.b, .int .i64 x.c, .int .i64 x.k], .int .i32 (c.toNat : Int)] W fun e w' => e = .returned (.string ⟨(pieceT x c).toArray⟩) ∧ Below W.heap.size W w') := fun c W => piece_any x hx c W
  rw [HI.out]
  have S0 : Hid (Six _ w.heap.size x) := Six.new w x
  have B0 : Hid (Below w.heap.size w _) := (Below.refl _ _).alloc (Nat.le_refl _) (.cells #[.int .i64 x.kind, .int .i64 x.op, .int .i64 x.a, .int .i64 x.b, .int .i64 x.c, .int .i64 x.k] 41)
  go_enter Tryz.func11, Tryz.ntmps11
  go_wp2_with fail
  refine (C6.out _).mono ?_
  rintro e w1 ⟨rfl, b1⟩
  have S1' : Hid (Six w1 w.heap.size x) := S0.out.block (b1.block _ S0.out.lt) b1.size
  have B1 : Hid (Below w.heap.size w w1) := B0.out.trans (b1.mono B0.out.size)
  clear b1 S0 B0
  go_wp2_with fail
  obtain ⟨W0, hW0⟩ : ∃ W0, (w1.alloc (Obj.cells #[Value.string S1] 9)).iter S2 0 = W0 := ⟨_, rfl⟩
  obtain ⟨H0, hH0⟩ : ∃ H0, w1.heap.size = H0 := ⟨_, rfl⟩
  have hw01 : w.heap.size < w1.heap.size := S1'.out.lt
  have HS : Hid (LsI w W0 H0 x S2 (.slice (some ⟨H0, 0, none⟩) 1 1) (saidT x 0) 0) := by
    have hb : Below w1.heap.size w1 W0 := by rw [← hW0]; exact ((Below.refl _ _).alloc (Nat.le_refl _) _).alloc (by simp) _
    refine ⟨?_, S1'.out.block (hb.block _ S1'.out.lt) hb.size, ⟨rfl, Or.inr ⟨H0, 1, #[Value.string S1], rfl, Nat.le_refl _, ?_, Nat.le_refl _, by unfold maxLen; omega, rfl, ?_⟩⟩, ?_, B1.out.trans (hb.mono B1.out.size), by omega⟩
    · have := World.iter_heap (w1.alloc (Obj.cells #[Value.string S1] 9)) S2 0
      rw [← hW0, ← hH0]
      simpa using this
    · rw [← hW0, ← hH0]
      exact (Below.heap_alloc _ _ _ (by simp)).trans (heap_alloc_new w1 _)
    · show [Value.string S1] = [Value.string ⟨(wordOf x).1.toArray⟩]
      rw [hS1]
    · simp [Value.ownBlock]
  have HPL : Hid (S2.data.toList = (wordOf x).2) := by show _ = _; rw [← hS2]
  obtain ⟨hwl, hpl, hasc⟩ := words_ok x
  have HAS : Hid (∀ c ∈ (wordOf x).2, c.toNat < 128) := hasc
  have hs2 : S2.size = (wordOf x).2.length := by rw [← HPL.out]; simp
  rw [hW0, hH0]
  clear hW0 hH0 hw01 S1' B1 hS1 hS2 hasc
  go_loopw [5] (fun v wr => ∃ (pos : Nat) (a : Option Addr) (c : Nat), pos ≤ S2.size ∧ v = .slice a (pos + 1) c ∧ LsI w wr H0 x S2 v (saidT x pos) pos) (fun _ wr => S2.size - wr.iterPos (H0 + 1))
  case atStart => exact ⟨0, _, _, Nat.zero_le _, rfl, HS.out⟩
  case round =>
    obtain ⟨pos, va, vc, hps, rfl, hL⟩ := hrel
    have HLI : Hid (LsI w wr H0 x S2 (.slice va (pos + 1) vc) (saidT x pos) pos) := hL
    clear HS
    by_cases hp : pos < S2.size
    · have hpp : pos < (wordOf x).2.length := by omega
      obtain ⟨c, hc8⟩ : ∃ c, S2[pos] = c := ⟨_, rfl⟩
      have eget : (wordOf x).2[pos] = c := by
        rw [← hc8]
        have h1 : S2[pos] = S2.data.toList[pos]'(by simpa using hp) := rfl
        rw [h1]
        congr 1
        exact HPL.out.symm
      have hca : c.toNat < 128 := by rw [← eget]; exact HAS.out _ (List.getElem_mem _)
      have hnx : ∀ ty, (Instr.next (.pointer (some ⟨H0 + 1, 0, none⟩)) true ty).run Tryz.prog wr = _ := fun ty => Lib.run_next_ascii_at wr (H0 + 1) S2 pos ty hL.it hp (by rw [hc8]; exact hca)
      have HL2 : Hid _ := hL.next (pos + 1)
      obtain ⟨W2, hW2⟩ : ∃ W2, wr.iterAt (H0 + 1) S2 (pos + 1) = W2 := ⟨_, rfl⟩
      rw [hW2] at hnx HL2
      rw [hc8] at hnx
      have HQP : Hid (wr.iterPos (H0 + 1) = pos) := hL.pos
      have HSD : Hid (saidT x pos ++ [⟨(pieceT x c).toArray⟩] = saidT x (pos + 1)) := by
        show _ = _
        unfold saidT
        rw [List.take_succ_eq_append_getElem hpp, eget]
        simp
      have hsl : (saidT x pos).length = pos + 1 := by unfold saidT; simp; omega
      have HSL : Hid ((saidT x pos).length = pos + 1) := hsl
      obtain ⟨P, hP⟩ : ∃ P : ByteArray, ⟨(pieceT x c).toArray⟩ = P := ⟨_, rfl⟩
      have C52c : Hid (∀ W, Calls Tryz.prog 26 #[.agg #[.int .i64 x.kind, .int .i64 x.op, .int .i64 x.a, .int .i64 x.b, .int .i64 x.c, .int .i64 x.k], .int .i32 (c.toNat : Int)] W fun e w' => e = .returned (.string P) ∧ Below W.heap.size W w') := fun W => by rw [← hP]; exact C52.out c W
      rw [hP] at HSD
      obtain ⟨x0, x1, x2, x3, x4, x5, _, _, _, _, _, _, _⟩ := HL2.out.six
      clear hL hW2 hc8 eget hP hsl HLI
      go_wp2_with (first | (go_at_call 26; refine (C52c.out _).mono ?_; rintro e w3 ⟨rfl, hb3⟩; have HL3 : Hid (LsI w w3 H0 x S2 (.slice va (pos + 1) vc) (saidT x pos) (pos + 1)) := (HL2.out.below hb3); clear hb3) | (at_builtin; refine wpList_append_own_at _ rfl _ _ 62 rfl H0 9 i0 (.string ⟨#[]⟩) 1 16 Tryz.underlying62 hi hz0 hz1 hz2 rfl (by decide) _ (pos + 1) ((saidT x pos).map fun x => Value.string x) rfl ?d0 ⟨w3.heap.size, 0, none⟩ 1 1 [.string P] rfl rfl ?d1 ?d2 ?d3 ?d4 ?d5 ?_))
      case d0 => have := (HL3.out.below ((Below.refl _ _).alloc (Nat.le_refl _) (Obj.cells #[Value.string P] 9))).own; unfold Strs at this; rw [HSL.out] at this; exact this
      case d1 => exact cell_one_new _ _ _
      case d2 => simp [Value.oneCell']
      case d3 => unfold maxLen; omega
      case d4 => omega
      case d5 => have := HL3.out.hs; simp; omega
      intro v' w4 hown hg _ hob
      obtain ⟨a1, a2, rfl⟩ : ∃ a c, v' = .slice a (pos + 1 + 1) c := by
        rcases hown.2 with ⟨_, h2⟩ | ⟨g, cap, _, h1, _⟩
        · omega
        · exact ⟨_, _, h1⟩
      obtain ⟨W3, hW3⟩ : ∃ W3, w3.alloc (Obj.cells #[Value.string P] 9) = W3 := ⟨_, rfl⟩
      have hz3 : W3.heap.size = w3.heap.size + 1 := by rw [← hW3]; simp
      rw [hW3] at hg
      rw [← hz3] at hob
      have HL4 : Hid (LsI w w4 H0 x S2 (.slice a1 (pos + 1 + 1) a2) (saidT x (pos + 1)) (pos + 1)) := by
        have h3 : LsI w W3 H0 x S2 (.slice va (pos + 1) vc) (saidT x pos) (pos + 1) := by rw [← hW3]; exact HL3.out.below ((Below.refl _ _).alloc (Nat.le_refl _) _)
        have ho : Strs w4 H0 (.slice a1 (pos + 1 + 1) a2) (saidT x pos ++ [P]) := by
          unfold Strs
          rw [List.length_append, HSL.out, List.map_append]
          exact hown
        have := h3.app P ho hg hob
        rw [HSD.out] at this
        exact this
      clear hown hg hob hW3 hz3
      go_wp2_with fail
      go_roundw
      case rel => exact ⟨pos + 1, a1, a2, by omega, rfl, HL4.out⟩
      case measure => rw [HL4.out.pos, HQP.out]; omega
    · have hnx : ∀ ty, (Instr.next (.pointer (some ⟨H0 + 1, 0, none⟩)) true ty).run Tryz.prog wr = _ := fun ty => Lib.run_next_end_at wr (H0 + 1) S2 pos ty hL.it hp
      have hpe : pos = S2.size := by omega
      have hsd : (saidT x pos).length = pos + 1 := by unfold saidT; simp; omega
      obtain ⟨g, hva, hcc, hgl, hcel⟩ : ∃ g, va = some ⟨g, 0, none⟩ ∧ pos + 1 ≤ vc ∧ g < wr.heap.size ∧ ∀ (j : Nat) y, (saidT x pos)[j]? = some y → wr.cell? ⟨g, 0 + j, none⟩ = some (.string y) := by
        rcases hL.own.cases with ⟨h1, _⟩ | ⟨g, cap, h1, h2, h3, h4⟩
        · cases h1
        · injection h1 with e1 e2 e3
          subst e3
          refine ⟨g, e1, by omega, h3, fun j y hy => ?_⟩
          have := h4 j (.string y) (by rw [List.getElem?_map, hy]; rfl)
          rw [addn] at this
          exact this
      subst hva
      have hjn : Lib.join ((saidT x pos).map (·.data.toList)) [32] = listT x := by
        unfold listT saidT
        rw [hpe, hs2, List.take_length]
        simp [Function.comp_def]
      have CJ : Hid (∀ W, W = wr → Calls Tryz.prog 27 #[.slice (some ⟨g, 0, none⟩) (pos + 1) vc, .string ⟨#[32]⟩] W fun e w' => e = .returned (.string ⟨(listT x).toArray⟩) ∧ Below W.heap.size W w') := fun W hW => by
        subst hW
        have := Tryz.strings_Join g 0 vc (saidT x pos) ⟨#[32]⟩ W hcel hgl (by omega) (by omega) (by show (Lib.join _ [32]).length ≤ _; rw [hjn]; exact list_len x)
        rw [hsd] at this
        rw [← hjn]
        exact this
      have HBR : Hid (Below w.heap.size w wr) := hL.hb
      clear hL HLI hsd hjn hcel hpe hs2 hp
      go_wp2_with (go_at_call 27; refine (CJ.out wr rfl).mono ?_; rintro e w5 ⟨rfl, hb5⟩)
      go_ret
      exact ⟨rfl, HBR.out.trans (hb5.mono HBR.out.size)⟩
end Go.Proofs.YthcidcfaodjbjabGreatDoor
