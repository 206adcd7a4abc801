/- The document's line of an instruction. -/
import Derived.Test.YthcidcfaodjbjabGreatDoorRTx
import Derived.Test.YthcidcfaodjbjabGreatDoorTxD
import Derived.Test.YthcidcfaodjbjabGreatDoorRefW
namespace Go.Proofs.YthcidcfaodjbjabGreatDoor
open Go.RowKit Go.Maps
set_option linter.unusedVariables false

set_option maxRecDepth 100000 in
set_option maxHeartbeats 1000000 in
theorem rnum_any (n : Int) (hn : -9223372036854775808 ≤ n ∧ n ≤ 9223372036854775807) (w : World) : Calls Tryz.prog 17 #[.int .i64 n] w fun e w' => e = .returned (.string ⟨(text n).toArray⟩) ∧ Below w.heap.size w w' := by
  have HT : Hid (Calls Tryz.prog 30 #[.int .i64 n] w fun e w' => e = .returned (.string ⟨(text n).toArray⟩) ∧ Below w.heap.size w w') := rtxt_any n hn.1 hn.2 w
  generalize (⟨(text n).toArray⟩ : ByteArray) = S at *
  go_enter Tryz.func17, Tryz.ntmps17
  go_wp2_with fail
  refine HT.out.mono ?_
  rintro e w1 ⟨rfl, b1⟩
  have B1 : Hid (Below w.heap.size w w1) := b1
  clear b1
  go_wp2
  go_ret
  exact ⟨rfl, B1.out⟩
theorem wordGo_let (k o : Int) : ∀ L : List Say, (L.all fun s => s.parts.all fun c => decide (c = 97 ∨ c = 98 ∨ c = 99 ∨ c = 114 ∨ c = 107 ∨ c = 108)) = true → ∀ c ∈ (wordGo k o L).2, c = 97 ∨ c = 98 ∨ c = 99 ∨ c = 114 ∨ c = 107 ∨ c = 108
  | [], _ => fun c hc => by cases hc
  | s :: L, h => by
    rw [List.all_cons, Bool.and_eq_true] at h
    unfold wordGo
    by_cases hs : s.kind = k ∧ s.op = o
    · rw [if_pos hs]
      have h1 := h.1
      simp only [decide_eq_true_eq, List.all_eq_true] at h1
      exact h1
    · rw [if_neg hs]
      exact wordGo_let k o L h.2
theorem words_let (x : In) : ∀ c ∈ (wordOf x).2, c = 97 ∨ c = 98 ∨ c = 99 ∨ c = 114 ∨ c = 107 ∨ c = 108 := wordGo_let _ _ saysL (by decide)
/-- the line so far -/
def lnQ (x : In) (q : Nat) : List UInt8 := (wordOf x).1 ++ ((wordOf x).2.take q).flatMap fun c => 32 :: pieceT x c
theorem lnQ_succ (x : In) (q : Nat) (h : q < (wordOf x).2.length) : lnQ x (q + 1) = lnQ x q ++ (32 :: pieceT x (wordOf x).2[q]) := by
  unfold lnQ
  rw [List.take_succ_eq_append_getElem h, List.flatMap_append, List.append_assoc]
  simp
theorem lnQ_all (x : In) : lnQ x (wordOf x).2.length = listT x := by
  unfold lnQ listT
  rw [List.take_length, Lib.join_cons, Lib.joinTail, List.map_map, List.flatMap_def]
  rfl
theorem lnQ_len (x : In) (q : Nat) (h : q ≤ 3) : (lnQ x q).length ≤ 100 := by
  have hw := words_ok x
  have : ∀ L : List UInt8, (L.flatMap fun c => 32 :: pieceT x c).length ≤ L.length * 24 := by
    intro L
    induction L with
    | nil => simp
    | cons c L ih =>
      have := piece_len x c
      simp only [List.flatMap_cons, List.length_append, List.length_cons] at *
      omega
  have h2 := this ((wordOf x).2.take q)
  have h3 : ((wordOf x).2.take q).length ≤ 3 := by rw [List.length_take]; omega
  unfold lnQ
  rw [List.length_append]
  omega
theorem str_app (a b : List UInt8) : (⟨a.toArray⟩ ++ ⟨b.toArray⟩ : ByteArray) = ⟨(a ++ b).toArray⟩ := by
  apply ByteArray.ext
  simp
theorem idx9 (l : List UInt8) (q : Nat) (h : q < l.length) (w : World) : (Instr.index 9 (.string ⟨l.toArray⟩) (.int .i64 (q : Int))).run Tryz.prog w = .ok (.int .u8 ((l[q].toNat : Nat) : Int)) w := by
  rw [run_index_string w 9 _ .i64 (q : Int) (by kernel_rfl)]
  have h2 : 0 ≤ (q : Int) ∧ (q : Int) < ((⟨l.toArray⟩ : ByteArray).size : Int) := by
    refine ⟨by omega, ?_⟩
    have : (⟨l.toArray⟩ : ByteArray).size = l.length := rfl
    rw [this]; omega
  rw [dif_pos h2]
  rfl

set_option maxRecDepth 100000 in
set_option maxHeartbeats 4000000 in
theorem rline_any (x : In) (hx : InW x) (w : World) : Calls Tryz.prog 18 #[iv x] w fun e w' => e = .returned (.string ⟨(listT x ++ [10]).toArray⟩) ∧ Below w.heap.size w w' := by
  have HW : Hid (∀ W, Calls Tryz.prog 31 #[iv x] W fun e w' => e = .returned (.tuple #[.string ⟨(wordOf x).1.toArray⟩, .string ⟨(wordOf x).2.toArray⟩]) ∧ Below W.heap.size W w') := fun W => refWord_any x W
  have HN : Hid (∀ n : Int, -9223372036854775808 ≤ n ∧ n ≤ 9223372036854775807 → ∀ W, Calls Tryz.prog 17 #[.int .i64 n] W fun e w' => e = .returned (.string ⟨(text n).toArray⟩) ∧ Below W.heap.size W w') := fun n hn W => rnum_any n hn W
  have HT : Hid (∀ n : Int, -9223372036854775808 ≤ n ∧ n ≤ 9223372036854775807 → ∀ W, Calls Tryz.prog 30 #[.int .i64 n] W fun e w' => e = .returned (.string ⟨(text n).toArray⟩) ∧ Below W.heap.size W w') := fun n hn W => rtxt_any n hn.1 hn.2 W
  obtain ⟨M, hM⟩ : ∃ M, (wordOf x).2.length = M := ⟨_, rfl⟩
  have HM : Hid ((wordOf x).2.length = M) := hM
  have hM3 : M ≤ 3 := by rw [← hM]; exact (words_ok x).2.1
  have HLE : Hid (∀ q, q < (wordOf x).2.length → ∀ c, (wordOf x).2[q]? = some c → c = 97 ∨ c = 98 ∨ c = 99 ∨ c = 114 ∨ c = 107 ∨ c = 108) := fun q hq c hc => words_let x c (List.mem_of_getElem? hc)
  have HIX : Hid (∀ q (h : q < (wordOf x).2.length) W, (Instr.index 9 (.string ⟨(wordOf x).2.toArray⟩) (.int .i64 (q : Int))).run Tryz.prog W = .ok (.int .u8 (((wordOf x).2[q].toNat : Nat) : Int)) W) := fun q h W => idx9 _ q h W
  have HL0 : Hid ((⟨(wordOf x).1.toArray⟩ : ByteArray) = ⟨(lnQ x 0).toArray⟩) := by show _ = _; simp [lnQ]
  obtain ⟨PS, hPS⟩ : ∃ PS : ByteArray, ⟨(wordOf x).2.toArray⟩ = PS := ⟨_, rfl⟩
  have hPM : Hid (PS.size = M) := by rw [← hPS]; exact hM
  rw [hPS] at HW HIX
  rw [HL0.out] at HW
  have HFIN : Hid ((⟨(lnQ x M).toArray⟩ ++ ⟨#[10]⟩ : ByteArray) = ⟨(listT x ++ [10]).toArray⟩) := by
    rw [← hM, lnQ_all]
    exact str_app (listT x) [10]
  rw [← HFIN.out]
  obtain ⟨hxa, hxb, hxc, hxk⟩ := hx
  clear hM hPS HFIN
  have HIV : Hid (iv x = .agg #[.int .i64 x.kind, .int .i64 x.op, .int .i64 x.a, .int .i64 x.b, .int .i64 x.c, .int .i64 x.k]) := rfl
  have HB0 : Hid (Below w.heap.size w (w.alloc (Obj.cells #[Value.int .i64 x.kind, .int .i64 x.op, .int .i64 x.a, .int .i64 x.b, .int .i64 x.c, .int .i64 x.k] 41))) := (Below.refl _ _).alloc (Nat.le_refl _) _
  have HW2 := HW
  rw [HIV.out] at HW2 ⊢
  have HW3 : Hid (∀ W, Calls Tryz.prog 31 #[.agg #[.int .i64 x.kind, .int .i64 x.op, .int .i64 x.a, .int .i64 x.b, .int .i64 x.c, .int .i64 x.k]] W fun e w' => e = .returned (.tuple #[.string ⟨(lnQ x 0).toArray⟩, .string PS]) ∧ Below W.heap.size W w') := HW2
  clear HW HW2 HIV HL0
  obtain ⟨S0, hS0⟩ : ∃ S0 : ByteArray, ⟨(lnQ x 0).toArray⟩ = S0 := ⟨_, rfl⟩
  rw [hS0] at HW3
  have HS0 : Hid ((⟨(lnQ x 0).toArray⟩ : ByteArray) = S0) := hS0
  clear hS0
  go_enter Tryz.func18, Tryz.ntmps18
  go_wp2_with fail
  refine (HW3.out _).mono ?_
  rintro e w1 ⟨rfl, b1⟩
  have B1 : Hid (Below w.heap.size w w1) := HB0.out.trans (b1.mono HB0.out.size)
  have C1 : Hid (w1.heap[w.heap.size]? = some (.cells #[Value.int .i64 x.kind, .int .i64 x.op, .int .i64 x.a, .int .i64 x.b, .int .i64 x.c, .int .i64 x.k] 41)) := (b1.block _ (by simp)).trans (heap_alloc_new w _)
  clear b1 HB0 HW3
  have hPs : PS.size = M := hPM.out
  go_wp2_with fail
  go_loopw [3, 5] (fun s i wr => ∃ (q : Nat) (S : ByteArray), i = .int .i64 (q : Int) ∧ s = .string S ∧ q ≤ M ∧ Hid ((⟨(lnQ x q).toArray⟩ : ByteArray) = S) ∧ Hid (Below w.heap.size w wr) ∧ Hid (wr.heap[w.heap.size]? = some (.cells #[Value.int .i64 x.kind, .int .i64 x.op, .int .i64 x.a, .int .i64 x.b, .int .i64 x.c, .int .i64 x.k] 41))) (fun _ i _ => M - (intOf i).toNat)
  case atStart => exact ⟨0, S0, rfl, rfl, Nat.zero_le _, HS0, B1, C1⟩
  case round =>
    clear B1 C1 HS0
    obtain ⟨q, S, rfl, rfl, hq, HS, HB, HC⟩ := hrel
    by_cases hlt : q < M
    · have q1 : q < (wordOf x).2.length := by rw [HM.out]; exact hlt
      have e1 : decide ((q : Int) < (M : Int)) = true := by simp; omega
      have hSs : S.size ≤ 100 := by rw [← HS.out]; exact lnQ_len x q (by omega)
      have d2 : wr.cell? ⟨w.heap.size, 2, none⟩ = some (.int .i64 x.a) := (cell_of_row wr _ 2 _ _ _ HC.out).trans rfl
      have d3 : wr.cell? ⟨w.heap.size, 3, none⟩ = some (.int .i64 x.b) := (cell_of_row wr _ 3 _ _ _ HC.out).trans rfl
      have d4 : wr.cell? ⟨w.heap.size, 4, none⟩ = some (.int .i64 x.c) := (cell_of_row wr _ 4 _ _ _ HC.out).trans rfl
      have d5 : wr.cell? ⟨w.heap.size, 5, none⟩ = some (.int .i64 x.k) := (cell_of_row wr _ 5 _ _ _ HC.out).trans rfl
      have hix := HIX.out q q1 wr
      have HSU := lnQ_succ x q q1
      obtain ⟨c, hc⟩ : ∃ c, (wordOf x).2[q] = c := ⟨_, rfl⟩
      have hcs := HLE.out q q1 c (by rw [List.getElem?_eq_getElem q1, hc])
      rw [hc] at hix HSU
      clear hc
      rcases hcs with rfl | rfl | rfl | rfl | rfl | rfl
      · have hix2 : (Instr.index 9 (.string PS) (.int .i64 (q : Int))).run Tryz.prog wr = .ok (.int .u8 97) wr := hix
        obtain ⟨T, hT⟩ : ∃ T : ByteArray, ⟨(text x.a).toArray⟩ = T := ⟨_, rfl⟩
        have hTs : T.size ≤ 22 := by rw [← hT]; exact text_len x.a
        have HCT : Hid (Calls Tryz.prog 17 #[.int .i64 x.a] wr fun e w' => e = .returned (.string T) ∧ Below wr.heap.size wr w') := by have := HN.out x.a hxa wr; rw [hT] at this; exact this
        have HNX : Hid ((⟨(lnQ x (q + 1)).toArray⟩ : ByteArray) = S ++ (⟨#[32, 114]⟩ ++ T)) := by
          show _ = _
          rw [← HS.out, ← hT, HSU]
          have e7 : (⟨#[32, 114]⟩ ++ ⟨(text x.a).toArray⟩ : ByteArray) = ⟨(32 :: pieceT x 97).toArray⟩ := str_app [32, 114] (text x.a)
          rw [e7, str_app]
        clear hT hix HSU
        go_wp2_with fail
        refine HCT.out.mono ?_
        rintro e w5 ⟨rfl, b5⟩
        have B5 : Hid (Below w.heap.size w w5) := HB.out.trans (b5.mono HB.out.size)
        have C5 : Hid (w5.heap[w.heap.size]? = some (.cells #[Value.int .i64 x.kind, .int .i64 x.op, .int .i64 x.a, .int .i64 x.b, .int .i64 x.c, .int .i64 x.k] 41)) := (b5.block _ (Array.getElem?_eq_some_iff.1 HC.out).1).trans HC.out
        clear b5
        go_wp2_with fail
        go_roundw
        case rel => exact ⟨q + 1, _, by go_num, rfl, by omega, HNX, B5, C5⟩
        case measure => simp [intOf]; omega
      · have hix2 : (Instr.index 9 (.string PS) (.int .i64 (q : Int))).run Tryz.prog wr = .ok (.int .u8 98) wr := hix
        obtain ⟨T, hT⟩ : ∃ T : ByteArray, ⟨(text x.b).toArray⟩ = T := ⟨_, rfl⟩
        have hTs : T.size ≤ 22 := by rw [← hT]; exact text_len x.b
        have HCT : Hid (Calls Tryz.prog 17 #[.int .i64 x.b] wr fun e w' => e = .returned (.string T) ∧ Below wr.heap.size wr w') := by have := HN.out x.b hxb wr; rw [hT] at this; exact this
        have HNX : Hid ((⟨(lnQ x (q + 1)).toArray⟩ : ByteArray) = S ++ (⟨#[32, 114]⟩ ++ T)) := by
          show _ = _
          rw [← HS.out, ← hT, HSU]
          have e7 : (⟨#[32, 114]⟩ ++ ⟨(text x.b).toArray⟩ : ByteArray) = ⟨(32 :: pieceT x 98).toArray⟩ := str_app [32, 114] (text x.b)
          rw [e7, str_app]
        clear hT hix HSU
        go_wp2_with fail
        refine HCT.out.mono ?_
        rintro e w5 ⟨rfl, b5⟩
        have B5 : Hid (Below w.heap.size w w5) := HB.out.trans (b5.mono HB.out.size)
        have C5 : Hid (w5.heap[w.heap.size]? = some (.cells #[Value.int .i64 x.kind, .int .i64 x.op, .int .i64 x.a, .int .i64 x.b, .int .i64 x.c, .int .i64 x.k] 41)) := (b5.block _ (Array.getElem?_eq_some_iff.1 HC.out).1).trans HC.out
        clear b5
        go_wp2_with fail
        go_roundw
        case rel => exact ⟨q + 1, _, by go_num, rfl, by omega, HNX, B5, C5⟩
        case measure => simp [intOf]; omega
      · have hix2 : (Instr.index 9 (.string PS) (.int .i64 (q : Int))).run Tryz.prog wr = .ok (.int .u8 99) wr := hix
        obtain ⟨T, hT⟩ : ∃ T : ByteArray, ⟨(text x.c).toArray⟩ = T := ⟨_, rfl⟩
        have hTs : T.size ≤ 22 := by rw [← hT]; exact text_len x.c
        have HCT : Hid (Calls Tryz.prog 17 #[.int .i64 x.c] wr fun e w' => e = .returned (.string T) ∧ Below wr.heap.size wr w') := by have := HN.out x.c hxc wr; rw [hT] at this; exact this
        have HNX : Hid ((⟨(lnQ x (q + 1)).toArray⟩ : ByteArray) = S ++ (⟨#[32, 114]⟩ ++ T)) := by
          show _ = _
          rw [← HS.out, ← hT, HSU]
          have e7 : (⟨#[32, 114]⟩ ++ ⟨(text x.c).toArray⟩ : ByteArray) = ⟨(32 :: pieceT x 99).toArray⟩ := str_app [32, 114] (text x.c)
          rw [e7, str_app]
        clear hT hix HSU
        go_wp2_with fail
        refine HCT.out.mono ?_
        rintro e w5 ⟨rfl, b5⟩
        have B5 : Hid (Below w.heap.size w w5) := HB.out.trans (b5.mono HB.out.size)
        have C5 : Hid (w5.heap[w.heap.size]? = some (.cells #[Value.int .i64 x.kind, .int .i64 x.op, .int .i64 x.a, .int .i64 x.b, .int .i64 x.c, .int .i64 x.k] 41)) := (b5.block _ (Array.getElem?_eq_some_iff.1 HC.out).1).trans HC.out
        clear b5
        go_wp2_with fail
        go_roundw
        case rel => exact ⟨q + 1, _, by go_num, rfl, by omega, HNX, B5, C5⟩
        case measure => simp [intOf]; omega
      · have hix2 : (Instr.index 9 (.string PS) (.int .i64 (q : Int))).run Tryz.prog wr = .ok (.int .u8 114) wr := hix
        obtain ⟨T, hT⟩ : ∃ T : ByteArray, ⟨(text x.c).toArray⟩ = T := ⟨_, rfl⟩
        have hTs : T.size ≤ 22 := by rw [← hT]; exact text_len x.c
        have HCT : Hid (Calls Tryz.prog 17 #[.int .i64 x.c] wr fun e w' => e = .returned (.string T) ∧ Below wr.heap.size wr w') := by have := HN.out x.c hxc wr; rw [hT] at this; exact this
        have HNX : Hid ((⟨(lnQ x (q + 1)).toArray⟩ : ByteArray) = S ++ (⟨#[32]⟩ ++ T)) := by
          show _ = _
          rw [← HS.out, ← hT, HSU]
          have e7 : (⟨#[32]⟩ ++ ⟨(text x.c).toArray⟩ : ByteArray) = ⟨(32 :: pieceT x 114).toArray⟩ := str_app [32] (text x.c)
          rw [e7, str_app]
        clear hT hix HSU
        go_wp2_with fail
        refine HCT.out.mono ?_
        rintro e w5 ⟨rfl, b5⟩
        have B5 : Hid (Below w.heap.size w w5) := HB.out.trans (b5.mono HB.out.size)
        have C5 : Hid (w5.heap[w.heap.size]? = some (.cells #[Value.int .i64 x.kind, .int .i64 x.op, .int .i64 x.a, .int .i64 x.b, .int .i64 x.c, .int .i64 x.k] 41)) := (b5.block _ (Array.getElem?_eq_some_iff.1 HC.out).1).trans HC.out
        clear b5
        go_wp2_with fail
        go_roundw
        case rel => exact ⟨q + 1, _, by go_num, rfl, by omega, HNX, B5, C5⟩
        case measure => simp [intOf]; omega
      · have hix2 : (Instr.index 9 (.string PS) (.int .i64 (q : Int))).run Tryz.prog wr = .ok (.int .u8 107) wr := hix
        obtain ⟨T, hT⟩ : ∃ T : ByteArray, ⟨(text x.k).toArray⟩ = T := ⟨_, rfl⟩
        have hTs : T.size ≤ 22 := by rw [← hT]; exact text_len x.k
        have HCT : Hid (Calls Tryz.prog 30 #[.int .i64 x.k] wr fun e w' => e = .returned (.string T) ∧ Below wr.heap.size wr w') := by have := HT.out x.k hxk wr; rw [hT] at this; exact this
        have HNX : Hid ((⟨(lnQ x (q + 1)).toArray⟩ : ByteArray) = S ++ (⟨#[32]⟩ ++ T)) := by
          show _ = _
          rw [← HS.out, ← hT, HSU]
          have e7 : (⟨#[32]⟩ ++ ⟨(text x.k).toArray⟩ : ByteArray) = ⟨(32 :: pieceT x 107).toArray⟩ := str_app [32] (text x.k)
          rw [e7, str_app]
        clear hT hix HSU
        go_wp2_with fail
        refine HCT.out.mono ?_
        rintro e w5 ⟨rfl, b5⟩
        have B5 : Hid (Below w.heap.size w w5) := HB.out.trans (b5.mono HB.out.size)
        have C5 : Hid (w5.heap[w.heap.size]? = some (.cells #[Value.int .i64 x.kind, .int .i64 x.op, .int .i64 x.a, .int .i64 x.b, .int .i64 x.c, .int .i64 x.k] 41)) := (b5.block _ (Array.getElem?_eq_some_iff.1 HC.out).1).trans HC.out
        clear b5
        go_wp2_with fail
        go_roundw
        case rel => exact ⟨q + 1, _, by go_num, rfl, by omega, HNX, B5, C5⟩
        case measure => simp [intOf]; omega
      · have hix2 : (Instr.index 9 (.string PS) (.int .i64 (q : Int))).run Tryz.prog wr = .ok (.int .u8 108) wr := hix
        obtain ⟨T, hT⟩ : ∃ T : ByteArray, ⟨(text x.k).toArray⟩ = T := ⟨_, rfl⟩
        have hTs : T.size ≤ 22 := by rw [← hT]; exact text_len x.k
        have HCT : Hid (Calls Tryz.prog 30 #[.int .i64 x.k] wr fun e w' => e = .returned (.string T) ∧ Below wr.heap.size wr w') := by have := HT.out x.k hxk wr; rw [hT] at this; exact this
        have HNX : Hid ((⟨(lnQ x (q + 1)).toArray⟩ : ByteArray) = S ++ (⟨#[32, 108]⟩ ++ T)) := by
          show _ = _
          rw [← HS.out, ← hT, HSU]
          have e7 : (⟨#[32, 108]⟩ ++ ⟨(text x.k).toArray⟩ : ByteArray) = ⟨(32 :: pieceT x 108).toArray⟩ := str_app [32, 108] (text x.k)
          rw [e7, str_app]
        clear hT hix HSU
        go_wp2_with fail
        refine HCT.out.mono ?_
        rintro e w5 ⟨rfl, b5⟩
        have B5 : Hid (Below w.heap.size w w5) := HB.out.trans (b5.mono HB.out.size)
        have C5 : Hid (w5.heap[w.heap.size]? = some (.cells #[Value.int .i64 x.kind, .int .i64 x.op, .int .i64 x.a, .int .i64 x.b, .int .i64 x.c, .int .i64 x.k] 41)) := (b5.block _ (Array.getElem?_eq_some_iff.1 HC.out).1).trans HC.out
        clear b5
        go_wp2_with fail
        go_roundw
        case rel => exact ⟨q + 1, _, by go_num, rfl, by omega, HNX, B5, C5⟩
        case measure => simp [intOf]; omega
    · have hqM : q = M := by omega
      subst hqM
      have e1 : decide ((q : Int) < (q : Int)) = false := by simp
      have hSs : S.size ≤ 100 := by rw [← HS.out]; exact lnQ_len x q (by omega)
      go_wp2
      go_ret
      exact ⟨by rw [HS.out]; rfl, HB.out⟩
end Go.Proofs.YthcidcfaodjbjabGreatDoor
