/- What lay lays down of an instruction. -/
import Derived.Test.YthcidcfaodjbjaaChk
import Derived.Test.YthcidcfaodjbjaaPWriter
namespace Go.Proofs.Ythcidcfaodjbjaa
open Go.RowKit
set_option linter.unusedVariables false
set_option linter.unusedSimpArgs false

/-- numbers from 0 on, where numbers from 0 on are laid down -/
structure Pos (x : In) : Prop where
  kind : 0 ≤ x.kind ∧ x.kind ≤ 1000
  op : 0 ≤ x.op ∧ x.op ≤ 1000
  a : 0 ≤ x.a ∧ x.a ≤ 1000
  b : 0 ≤ x.b ∧ x.b ≤ 1000
  c : 0 ≤ x.c ∧ x.c ≤ 1000
  k : r64 x.k
/-- a part's bytes -/
def partB (x : In) (c : UInt8) : List UInt8 :=
  if c = 111 then uintB x.op.toNat else if c = 107 ∨ c = 108 then uintB (zig x.k) else if c = 97 then uintB x.a.toNat else if c = 98 then uintB x.b.toNat else uintB x.c.toNat
def partsB (x : In) (L : List UInt8) : List UInt8 := L.flatMap (partB x)

theorem uintI_any (pb : Nat) (n : Int) (L : List UInt8) (w : World) (h0 : 0 ≤ n) (h1 : n ≤ 1000) (hL : L.length ≤ 1000000000) (hw : WS w pb L) :
    Calls Try.prog 38 #[.pointer (some ⟨pb, 0, none⟩), .int .u64 n] w fun e w' => e = .returned (.tuple #[]) ∧ WS w' pb (L ++ uintB n.toNat) ∧ Below pb w w' ∧ Lib.OthersKept 5 (some pb) w w' := by
  have := uint_any pb n.toNat L w (by omega) hL hw
  rw [show ((n.toNat : Nat) : Int) = n by omega] at this
  exact this

theorem heap_new (w : World) (o : Obj) : (w.alloc o).heap[w.heap.size]? = some o := by unfold World.alloc; simp
/-- what is so at each round's head of 'lay' -/
structure LI (w wr : World) (pb xb t : Nat) (s : ByteArray) (x : In) (M : List UInt8) (p : Nat) : Prop where
  it : wr.heap[t]? = some (.stringIter s p)
  hx : Six wr xb x
  ho : ∃ c fz, wr.heap[xb]? = some (.cells c 25 fz)
  ws : WS wr pb M
  hb : Below pb w wr
theorem LI.pos {w wr : World} {pb xb t : Nat} {s : ByteArray} {x : In} {M : List UInt8} {p : Nat} (h : LI w wr pb xb t s x M p) : wr.iterPos t = p := by simp [World.iterPos, h.it]
theorem LI.lt {w wr : World} {pb xb t : Nat} {s : ByteArray} {x : In} {M : List UInt8} {p : Nat} (h : LI w wr pb xb t s x M p) : pb < wr.heap.size := by obtain ⟨_, _, _, _, h⟩ := h.ws; exact h
theorem WS.iterAt {w : World} {pb t : Nat} {s : ByteArray} {M : List UInt8} {p : Nat} (h : WS w pb M) (hit : w.heap[t]? = some (.stringIter s p)) (ht : pb < t) (q : Nat) : WS (w.iterAt t s q) pb M := by
  obtain ⟨v, h1, h2, h3, h4⟩ := h
  have hb := Lib.iterAt_other w t pb s q (by omega)
  refine ⟨v, (World.cell?_of_block (w := w) (a := ⟨pb, 0, none⟩) hb).trans h1, (World.frozen?_of_block (w := w) (a := ⟨pb, 0, none⟩) hb).trans h2, ?_, by rw [Lib.iterAt_size]; exact h4⟩
  refine ⟨h3.1, ?_⟩
  rcases h3.2 with h | ⟨g, cap, cur, e1, e2, e3, e4⟩
  · exact Or.inl h
  · refine Or.inr ⟨g, cap, cur, e1, e2, ?_, e4⟩
    rw [Lib.iterAt_other w t g s q (by intro e; rw [e, hit] at e3; cases e3)]; exact e3
theorem LI.next {w wr : World} {pb xb t : Nat} {s : ByteArray} {x : In} {M : List UInt8} {p : Nat} (h : LI w wr pb xb t s x M p) (h1 : pb < xb) (h2 : xb < t) (q : Nat) : LI w (wr.iterAt t s q) pb xb t s x M q := by
  have hs : wr.heap.size ≤ (wr.iterAt t s q).heap.size := by rw [Lib.iterAt_size]; exact Nat.le_refl _
  have hx := Lib.iterAt_other wr t xb s q (by omega)
  obtain ⟨c, fz, ho⟩ := h.ho
  exact ⟨Lib.iterAt_heap wr _ s p q h.it, h.hx.block hx hs, ⟨c, fz, hx.trans ho⟩, h.ws.iterAt h.it (by omega) q, Lib.below_iterAt h.hb (by omega) s q⟩
theorem LI.call {w wr w' : World} {pb xb t : Nat} {s : ByteArray} {x : In} {M M' : List UInt8} {p : Nat} (h : LI w wr pb xb t s x M p) (h1 : pb < xb) (h2 : xb < t) (k : Lib.OthersKept 5 (some pb) wr w') (hw : WS w' pb M') (hb : Below pb wr w') : LI w w' pb xb t s x M' p := by
  obtain ⟨c, fz, ho⟩ := h.ho
  have hx' := k xb _ ho (fun e => by injection e with e; omega) (fun c' fz' e => by injection e with _ e; cases e)
  exact ⟨k.iter h.it (by omega), h.hx.block (hx'.trans ho.symm) hb.size, ⟨c, fz, hx'⟩, hw, h.hb.trans hb⟩
theorem partsB_next (x : In) (s : ByteArray) (p : Nat) (h : p < s.size) : partsB x (s.data.toList.take (p + 1)) = partsB x (s.data.toList.take p) ++ partB x s[p] := by
  rw [take_next s p h]; unfold partsB; simp
theorem partB_len (x : In) (c : UInt8) : (partB x c).length ≤ 10 := by
  unfold partB
  (repeat' split) <;> exact uintF_len 9 _
theorem partsB_len (x : In) (L : List UInt8) : (partsB x L).length ≤ 10 * L.length := by
  unfold partsB
  induction L with
  | nil => simp
  | cons c L ih => have := partB_len x c; simp only [List.flatMap_cons, List.length_append, List.length_cons]; omega
theorem lets_size (n : Int) : ((lets n).getD ⟨#[]⟩).size ≤ 4 := by
  unfold lets
  (repeat' split) <;> decide

set_option maxRecDepth 100000 in
set_option maxHeartbeats 4000000 in
theorem lay_any (pb : Nat) (x : In) (L : List UInt8) (w : World) (hL : L.length ≤ 900000000) (hx : Pos x) (hw : WS w pb L) : Calls Try.prog 39 #[.pointer (some ⟨pb, 0, none⟩), iv x] w fun e w' => e = .returned (.tuple #[]) ∧ WS w' pb (L ++ (uintB x.kind.toNat ++ partsB x ((lets x.kind).getD ⟨#[]⟩).data.toList)) ∧ Below pb w w' := by
  have HW : Hid (WS w pb L) := hw
  have hpb : pb < w.heap.size := by obtain ⟨_, _, _, _, h⟩ := hw; exact h
  have HX : Hid (Pos x) := hx
  obtain ⟨hk, ho, ha, hb, hc, hkk1, hkk2⟩ := hx
  have HO := lets_ok x.kind
  have HSZ := lets_size x.kind
  obtain ⟨is, his⟩ : ∃ b, (lets x.kind).isSome = b := ⟨_, rfl⟩
  obtain ⟨s, hs⟩ : ∃ s, (lets x.kind).getD ⟨#[]⟩ = s := ⟨_, rfl⟩
  have HP : Hid (∀ w, Calls Try.prog 24 #[.int .i64 x.kind] w fun e w' => e = .returned (.tuple #[.string s, .bool is]) ∧ w' = w) := by
    intro w
    rw [← hs, ← his]; exact partsOf_any x.kind w
  rw [hs] at HO HSZ
  rw [hs]
  have HS : Hid (okL s) := HO
  obtain ⟨M0, hM0⟩ : ∃ M, L ++ uintB x.kind.toNat = M := ⟨_, rfl⟩
  have HM0 : Hid (L ++ uintB x.kind.toNat = M0) := hM0
  have hM0l : M0.length ≤ 900000010 := by rw [← hM0, List.length_append]; have := uintF_len 9 x.kind.toNat; unfold uintB; omega
  rw [← List.append_assoc, hM0]
  clear hw hs his HO hM0
  unfold iv
  go_enter Try.func39, Try.ntmps39
  go_wp2_with fail
  have S0 : Six _ w.heap.size x := Six.new w x
  have O0 : ∃ c fz, (w.alloc (.cells #[.int .i64 x.kind, .int .i64 x.op, .int .i64 x.a, .int .i64 x.b, .int .i64 x.c, .int .i64 x.k] 25)).heap[w.heap.size]? = some (.cells c 25 fz) := ⟨_, _, heap_new w _⟩
  refine (uintI_any pb x.kind L _ hk.1 hk.2 (by omega) (HW.out.below ((Below.refl _ _).alloc (Nat.le_refl _) _))).mono ?_
  rintro e w1 ⟨rfl, k1, b1, q1⟩
  obtain ⟨c, fz, O0⟩ := O0
  have O1 := q1 w.heap.size _ O0 (fun e => by injection e with e; omega) (fun c' fz' e => by injection e with _ e; cases e)
  have S1 : Six w1 w.heap.size x := S0.block (O1.trans O0.symm) b1.size
  have HLI : Hid (LI w (w1.iter s 0) pb w.heap.size w1.heap.size s x M0 0) := by
    refine ⟨World.iter_heap w1 s 0, S1.alloc _, ⟨c, fz, (Below.heap_alloc _ _ _ S1.lt).trans O1⟩, ?_, ?_⟩
    · rw [HM0.out] at k1
      exact k1.below ((Below.refl _ _).alloc (Nat.le_refl _) _)
    · exact ((((Below.refl _ _).alloc (Nat.le_refl _) _).mono (by omega)).trans b1).alloc (by have := b1.size; simp at this; omega) _
  have hsz : w.heap.size < w1.heap.size := S1.lt
  obtain ⟨x0, x1, x2, x3, x4, x5, _⟩ := S1
  clear k1 b1 q1 O0 O1 S0 HM0
  go_wp2_with (go_at_call 24; refine (HP.out _).mono ?_; rintro e w2 ⟨rfl, rfl⟩)
  clear x0 x1 x2 x3 x4 x5
  obtain ⟨t, ht⟩ : ∃ t, w2.heap.size = t := ⟨_, rfl⟩
  rw [ht] at HLI hsz
  rw [ht]
  clear ht
  go_loopw [] (fun wr => ∃ pos : Nat, pos ≤ s.size ∧ Hid (LI w wr pb w.heap.size t s x (M0 ++ partsB x (s.data.toList.take pos)) pos)) (fun wr => s.size - wr.iterPos t)
  case atStart => exact ⟨0, Nat.zero_le _, by rw [List.take_zero]; show LI _ _ _ _ _ _ _ (M0 ++ []) _; rw [List.append_nil]; exact HLI.out⟩
  case round =>
    obtain ⟨pos, hps, H⟩ := hrel
    by_cases hp : pos < s.size
    · have hL := HS.out pos hp
      have hnx : ∀ ty, (Instr.next (.pointer (some ⟨t, 0, none⟩)) true ty).run Try.prog wr = _ := fun ty => Lib.run_next_ascii_at wr t s pos ty H.out.it hp (isL_lt hL)
      have H2 : Hid _ := H.out.next hpb hsz (pos + 1)
      have HN : Hid (partsB x (s.data.toList.take (pos + 1)) = partsB x (s.data.toList.take pos) ++ partB x s[pos]) := partsB_next x s pos hp
      have hml : (M0 ++ partsB x (s.data.toList.take pos)).length ≤ 900000100 := by
        have := partsB_len x (s.data.toList.take pos)
        rw [List.length_append]
        simp only [List.length_take] at this
        omega
      obtain ⟨M, hM⟩ : ∃ M, M0 ++ partsB x (s.data.toList.take pos) = M := ⟨_, rfl⟩
      have HM : Hid (M0 ++ partsB x (s.data.toList.take pos) = M) := hM
      have HE : Hid (wr.iterPos t = pos) := H.out.pos
      rw [hM] at H2 hml
      obtain ⟨W2, hW2⟩ : ∃ W2, wr.iterAt t s (pos + 1) = W2 := ⟨_, rfl⟩
      rw [hW2] at hnx H2
      obtain ⟨_, x1, x2, x3, x4, x5, _, _, _, _, _, _, _⟩ := H2.out.hx
      clear hW2 H hM
      rcases hL with ec | ec | ec | ec | ec | ec | ec
      · have hn : ((s[pos]).toNat : Int) = 111 := by rw [ec]; rfl
        rw [hn] at hnx
        rw [ec, show partB x 111 = uintB x.op.toNat from rfl] at HN
        go_wp2_with fail
        refine (uintI_any pb x.op M _ ho.1 ho.2 (by omega) H2.out.ws).mono ?_
        rintro e w3 ⟨rfl, k3, b3, q3⟩
        have H3 : Hid (LI w w3 pb w.heap.size t s x (M0 ++ partsB x (s.data.toList.take (pos + 1))) (pos + 1)) := by
          show LI _ _ _ _ _ _ _ _ _
          rw [HN.out, ← List.append_assoc, HM.out]
          exact H2.out.call hpb hsz q3 k3 b3
        clear k3 b3 q3
        go_wp2
        go_roundw
        case rel => exact ⟨pos + 1, hp, H3⟩
        case measure => rw [H3.out.pos, HE.out]; omega
      · have hn : ((s[pos]).toNat : Int) = 97 := by rw [ec]; rfl
        rw [hn] at hnx
        rw [ec, show partB x 97 = uintB x.a.toNat from rfl] at HN
        go_wp2_with (go_at_call 51; refine (intOf_any _ _ _ _).mono ?_; rintro e w' ⟨rfl, rfl⟩)
        refine (uintI_any pb x.a M _ ha.1 ha.2 (by omega) H2.out.ws).mono ?_
        rintro e w3 ⟨rfl, k3, b3, q3⟩
        have H3 : Hid (LI w w3 pb w.heap.size t s x (M0 ++ partsB x (s.data.toList.take (pos + 1))) (pos + 1)) := by
          show LI _ _ _ _ _ _ _ _ _
          rw [HN.out, ← List.append_assoc, HM.out]
          exact H2.out.call hpb hsz q3 k3 b3
        clear k3 b3 q3
        go_wp2
        go_roundw
        case rel => exact ⟨pos + 1, hp, H3⟩
        case measure => rw [H3.out.pos, HE.out]; omega
      · have hn : ((s[pos]).toNat : Int) = 98 := by rw [ec]; rfl
        rw [hn] at hnx
        rw [ec, show partB x 98 = uintB x.b.toNat from rfl] at HN
        go_wp2_with (go_at_call 51; refine (intOf_any _ _ _ _).mono ?_; rintro e w' ⟨rfl, rfl⟩)
        refine (uintI_any pb x.b M _ hb.1 hb.2 (by omega) H2.out.ws).mono ?_
        rintro e w3 ⟨rfl, k3, b3, q3⟩
        have H3 : Hid (LI w w3 pb w.heap.size t s x (M0 ++ partsB x (s.data.toList.take (pos + 1))) (pos + 1)) := by
          show LI _ _ _ _ _ _ _ _ _
          rw [HN.out, ← List.append_assoc, HM.out]
          exact H2.out.call hpb hsz q3 k3 b3
        clear k3 b3 q3
        go_wp2
        go_roundw
        case rel => exact ⟨pos + 1, hp, H3⟩
        case measure => rw [H3.out.pos, HE.out]; omega
      · have hn : ((s[pos]).toNat : Int) = 99 := by rw [ec]; rfl
        rw [hn] at hnx
        rw [ec, show partB x 99 = uintB x.c.toNat from rfl] at HN
        go_wp2_with (go_at_call 51; refine (intOf_any _ _ _ _).mono ?_; rintro e w' ⟨rfl, rfl⟩)
        refine (uintI_any pb x.c M _ hc.1 hc.2 (by omega) H2.out.ws).mono ?_
        rintro e w3 ⟨rfl, k3, b3, q3⟩
        have H3 : Hid (LI w w3 pb w.heap.size t s x (M0 ++ partsB x (s.data.toList.take (pos + 1))) (pos + 1)) := by
          show LI _ _ _ _ _ _ _ _ _
          rw [HN.out, ← List.append_assoc, HM.out]
          exact H2.out.call hpb hsz q3 k3 b3
        clear k3 b3 q3
        go_wp2
        go_roundw
        case rel => exact ⟨pos + 1, hp, H3⟩
        case measure => rw [H3.out.pos, HE.out]; omega
      · have hn : ((s[pos]).toNat : Int) = 114 := by rw [ec]; rfl
        rw [hn] at hnx
        rw [ec, show partB x 114 = uintB x.c.toNat from rfl] at HN
        go_wp2_with (go_at_call 51; refine (intOf_any _ _ _ _).mono ?_; rintro e w' ⟨rfl, rfl⟩)
        refine (uintI_any pb x.c M _ hc.1 hc.2 (by omega) H2.out.ws).mono ?_
        rintro e w3 ⟨rfl, k3, b3, q3⟩
        have H3 : Hid (LI w w3 pb w.heap.size t s x (M0 ++ partsB x (s.data.toList.take (pos + 1))) (pos + 1)) := by
          show LI _ _ _ _ _ _ _ _ _
          rw [HN.out, ← List.append_assoc, HM.out]
          exact H2.out.call hpb hsz q3 k3 b3
        clear k3 b3 q3
        go_wp2
        go_roundw
        case rel => exact ⟨pos + 1, hp, H3⟩
        case measure => rw [H3.out.pos, HE.out]; omega
      · have hn : ((s[pos]).toNat : Int) = 107 := by rw [ec]; rfl
        rw [hn] at hnx
        rw [ec, show partB x 107 = uintB (zig x.k) from rfl] at HN
        go_wp2_with fail
        refine (int_any pb M x.k _ hkk1 hkk2 (by omega) H2.out.ws).mono ?_
        rintro e w3 ⟨rfl, k3, b3, q3⟩
        have H3 : Hid (LI w w3 pb w.heap.size t s x (M0 ++ partsB x (s.data.toList.take (pos + 1))) (pos + 1)) := by
          show LI _ _ _ _ _ _ _ _ _
          rw [HN.out, ← List.append_assoc, HM.out]
          exact H2.out.call hpb hsz q3 k3 b3
        clear k3 b3 q3
        go_wp2
        go_roundw
        case rel => exact ⟨pos + 1, hp, H3⟩
        case measure => rw [H3.out.pos, HE.out]; omega
      · have hn : ((s[pos]).toNat : Int) = 108 := by rw [ec]; rfl
        rw [hn] at hnx
        rw [ec, show partB x 108 = uintB (zig x.k) from rfl] at HN
        go_wp2_with fail
        refine (int_any pb M x.k _ hkk1 hkk2 (by omega) H2.out.ws).mono ?_
        rintro e w3 ⟨rfl, k3, b3, q3⟩
        have H3 : Hid (LI w w3 pb w.heap.size t s x (M0 ++ partsB x (s.data.toList.take (pos + 1))) (pos + 1)) := by
          show LI _ _ _ _ _ _ _ _ _
          rw [HN.out, ← List.append_assoc, HM.out]
          exact H2.out.call hpb hsz q3 k3 b3
        clear k3 b3 q3
        go_wp2
        go_roundw
        case rel => exact ⟨pos + 1, hp, H3⟩
        case measure => rw [H3.out.pos, HE.out]; omega
    · have hnx : ∀ ty, (Instr.next (.pointer (some ⟨t, 0, none⟩)) true ty).run Try.prog wr = _ := fun ty => Lib.run_next_end_at wr t s pos ty H.out.it hp
      have H4 : Hid (WS wr pb (M0 ++ partsB x s.data.toList)) := by
        have := H.out.ws
        rw [List.take_of_length_le (by simp; omega)] at this
        exact this
      go_wp2
      go_end0
      exact ⟨rfl, H4.out, H.out.hb⟩
end Go.Proofs.Ythcidcfaodjbjaa
