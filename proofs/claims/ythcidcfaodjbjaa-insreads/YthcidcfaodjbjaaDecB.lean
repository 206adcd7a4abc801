/- What take takes up. -/
import Derived.Test.YthcidcfaodjbjaaDecA
namespace Go.Proofs.Ythcidcfaodjbjaa
open Go.RowKit
set_option linter.unusedVariables false
set_option linter.unusedSimpArgs false

def In0 : In := ⟨0, 0, 0, 0, 0, 0⟩
/-- one part is taken up -/
def stepT (t : In × List UInt8 × Int) (c : UInt8) : In × List UInt8 × Int :=
  if c = 111 then (⟨t.1.kind, sm (rU t.2.1 t.2.2).1, t.1.a, t.1.b, t.1.c, t.1.k⟩, (rU t.2.1 t.2.2).2)
  else if c = 107 ∨ c = 108 then (⟨t.1.kind, t.1.op, t.1.a, t.1.b, t.1.c, (rI t.2.1 t.2.2).1⟩, (rI t.2.1 t.2.2).2)
  else if c = 97 then (⟨t.1.kind, t.1.op, sm (rU t.2.1 t.2.2).1, t.1.b, t.1.c, t.1.k⟩, (rU t.2.1 t.2.2).2)
  else if c = 98 then (⟨t.1.kind, t.1.op, t.1.a, sm (rU t.2.1 t.2.2).1, t.1.c, t.1.k⟩, (rU t.2.1 t.2.2).2)
  else (⟨t.1.kind, t.1.op, t.1.a, t.1.b, sm (rU t.2.1 t.2.2).1, t.1.k⟩, (rU t.2.1 t.2.2).2)
def foldT (t : In × List UInt8 × Int) (P : List UInt8) : In × List UInt8 × Int := P.foldl stepT t
theorem foldT_next (t : In × List UInt8 × Int) (s : ByteArray) (p : Nat) (h : p < s.size) : foldT t (s.data.toList.take (p + 1)) = stepT (foldT t (s.data.toList.take p)) s[p] := by
  rw [take_next s p h]; unfold foldT; exact fold_snoc _ _ _ _
theorem stepT_left (t : In × List UInt8 × Int) (c : UInt8) (h : t.2.2 = 0 ∨ t.2.1 = []) : (stepT t c).2.2 = 0 ∨ (stepT t c).2.1 = [] := by
  unfold stepT
  (repeat' split) <;> first | exact rU_left _ _ h | exact rI_left _ _ h
theorem foldT_left (P : List UInt8) : ∀ t : In × List UInt8 × Int, t.2.2 = 0 ∨ t.2.1 = [] → (foldT t P).2.2 = 0 ∨ (foldT t P).2.1 = [] := by
  induction P with
  | nil => intro t h; exact h
  | cons c P ih => intro t h; exact ih _ (stepT_left t c h)
/-- the instruction, the error that is told, what is left, and the reader's error -/
def takeX (L : List UInt8) : In × Int × List UInt8 × Int :=
  if (rU L 0).2.2 ≠ 0 then (In0, (rU L 0).2.2, (rU L 0).2.1, (rU L 0).2.2) else
  if (lets (sm (rU L 0).1)).isSome = false then (In0, 21, (rU L 0).2.1, 0) else
  let t := foldT (⟨sm (rU L 0).1, 0, 0, 0, 0, 0⟩, (rU L 0).2.1, 0) ((lets (sm (rU L 0).1)).getD ⟨#[]⟩).data.toList
  (t.1, t.2.2, t.2.1, t.2.2)

/-- only block pb of those that were is written -/
abbrev GB (w w' : World) (pb : Nat) : Prop := w.grownBy w' (some pb)
theorem GB.iterAt {w w' : World} {pb t : Nat} (h : GB w w' pb) (ht : w.heap.size ≤ t) (s : ByteArray) (q : Nat) : GB w (w'.iterAt t s q) pb :=
  ⟨h.os, h.tape, h.output, by rw [Lib.iterAt_size]; exact h.size, fun k hk hne => (Lib.iterAt_other w' t k s q (by omega)).trans (h.block k hk hne)⟩
theorem GB.setNew {w w' : World} {pb b i : Nat} (h : GB w w' pb) (hb : w.heap.size ≤ b) (v : Value) : GB w (w'.setCell ⟨b, i, none⟩ v) pb :=
  ⟨h.os, h.tape, h.output, by simp [World.setCell]; exact h.size, fun k hk hne => (Below.heap_setCell _ _ _ _ (by show k ≠ b; omega)).trans (h.block k hk hne)⟩
theorem GB.drew {w w' : World} {pb : Nat} (h : GB w w' pb) : GB w w'.drew pb := ⟨h.os, h.tape, h.output, h.size, h.block⟩
theorem RS.same {w w' : World} {pb : Nat} {L : List UInt8} {f : Int} (h : RS w pb L f) (hb : ∀ k, k ≤ pb → w'.heap[k]? = w.heap[k]?) (hs : w.heap.size ≤ w'.heap.size) : RS w' pb L f := by
  obtain ⟨v, h1, h2, h3, h4, h5, h6⟩ := h
  have hb0 := hb pb (Nat.le_refl _)
  refine ⟨v, (World.cell?_of_block (w := w) (a := ⟨pb, 0, none⟩) hb0).trans h1, (World.cell?_of_block (w := w) (a := ⟨pb, 1, none⟩) hb0).trans h2, (World.frozen?_of_block (w := w) (a := ⟨pb, 0, none⟩) hb0).trans h3, (World.frozen?_of_block (w := w) (a := ⟨pb, 1, none⟩) hb0).trans h4, by omega, ?_⟩
  rcases h6 with h | ⟨g, off, cap, k1, k2, k3, k4, k5, k6⟩
  · exact Or.inl h
  · exact Or.inr ⟨g, off, cap, k1, k2, k3, by omega, k5, fun i hi => (World.cell?_of_block (w := w) (a := ⟨g, off + i, none⟩) (hb g (by omega))).trans (k6 i hi)⟩
theorem RS.drew {w : World} {pb : Nat} {L : List UInt8} {f : Int} (h : RS w pb L f) : RS w.drew pb L f := h.same (fun _ _ => rfl) (Nat.le_refl _)
/-- what is so at each round's head of 'take' -/
structure TI (w wr : World) (pb xb t : Nat) (s : ByteArray) (st : In × List UInt8 × Int) (q : Nat) : Prop where
  it : wr.heap[t]? = some (.stringIter s q)
  hx : Six wr xb st.1
  rs : RS wr pb st.2.1 st.2.2
  gb : GB w wr pb
  hz : ∃ y, Six wr w.heap.size y
theorem TI.pos {w wr : World} {pb xb t q : Nat} {s : ByteArray} {st : In × List UInt8 × Int} (h : TI w wr pb xb t s st q) : wr.iterPos t = q := by simp [World.iterPos, h.it]
theorem TI.next {w wr : World} {pb xb t q : Nat} {s : ByteArray} {st : In × List UInt8 × Int} (h : TI w wr pb xb t s st q) (h1 : pb < w.heap.size) (h2 : w.heap.size < xb) (h3 : xb < t) (q' : Nat) : TI w (wr.iterAt t s q') pb xb t s st q' := by
  have hs : wr.heap.size ≤ (wr.iterAt t s q').heap.size := by rw [Lib.iterAt_size]; exact Nat.le_refl _
  obtain ⟨y, hy⟩ := h.hz
  exact ⟨Lib.iterAt_heap wr _ s q q' h.it, h.hx.block (Lib.iterAt_other wr t xb s q' (by omega)) hs, h.rs.same (fun k hk => Lib.iterAt_other wr t k s q' (by omega)) hs, h.gb.iterAt (by omega) s q', y, hy.block (Lib.iterAt_other wr t _ s q' (by omega)) hs⟩
theorem TI.call {w wr w' : World} {pb xb t q : Nat} {s : ByteArray} {st : In × List UInt8 × Int} {L' : List UInt8} {f' : Int} (h : TI w wr pb xb t s st q) (h1 : pb < w.heap.size) (h2 : w.heap.size < xb) (h3 : xb < t) (hr : RS w' pb L' f') (hg : GB wr w' pb) : TI w w' pb xb t s (st.1, L', f') q := by
  have hlt : t < wr.heap.size := (Array.getElem?_eq_some_iff.1 h.it).1
  obtain ⟨y, hy⟩ := h.hz
  exact ⟨(hg.block t hlt (by intro e; injection e with e; omega)).trans h.it, h.hx.block (hg.block xb (by omega) (by intro e; injection e with e; omega)) hg.size, hr, grow_trans h.gb hg, y, hy.block (hg.block _ (by omega) (by intro e; injection e with e; omega)) hg.size⟩
theorem TI.set {w wr : World} {pb xb t q : Nat} {s : ByteArray} {st : In × List UInt8 × Int} (h : TI w wr pb xb t s st q) (h1 : pb < w.heap.size) (h2 : w.heap.size < xb) (h3 : xb < t) (i : Nat) (n : Int) (y : In) (hy : Six (wr.setCell ⟨xb, i, none⟩ (.int .i64 n)) xb y) : TI w (wr.setCell ⟨xb, i, none⟩ (.int .i64 n)) pb xb t s (y, st.2) q := by
  have hs : wr.heap.size ≤ (wr.setCell ⟨xb, i, none⟩ (.int .i64 n)).heap.size := by simp [World.setCell]
  obtain ⟨z, hz⟩ := h.hz
  exact ⟨(Below.heap_setCell _ _ _ _ (by show t ≠ xb; omega)).trans h.it, hy, h.rs.same (fun k hk => Below.heap_setCell _ _ _ _ (by show k ≠ xb; omega)) hs, h.gb.setNew (by omega) _, z, hz.block (Below.heap_setCell _ _ _ _ (by show w.heap.size ≠ xb; omega)) hs⟩

theorem ret_six2 {fn : Func} (k j : Nat) (h : fn.results = #[.cell k 25, .tmp j]) (tmps : Array Value) (b : Nat) (hb : tmps[k]?.getD undef = .pointer (some ⟨b, 0, none⟩)) (v : Value) (hv : tmps[j]?.getD undef = v) (W : World) {x : In} (F : Six W b x) :
    (results fn tmps).run Try.prog W = .ok (.tuple #[iv x, v]) W := by
  obtain ⟨c0, c1, c2, c3, c4, c5, _⟩ := F
  simp [results, h, hb, hv, go_sem, c0, c1, c2, c3, c4, c5, iv]
theorem put6_gb {w w' : World} {pb b : Nat} (h : GB w w' pb) (hb : w.heap.size ≤ b) (x : In) : GB w (put6 w' b x) pb :=
  ((((((h.setNew hb _).setNew hb _).setNew hb _).setNew hb _).setNew hb _).setNew hb _)
theorem put6_rs {w : World} {pb b : Nat} {L : List UInt8} {f : Int} (h : RS w pb L f) (hb : pb < b) (x : In) : RS (put6 w b x) pb L f :=
  h.same (fun k hk => put6_other w b k x (by omega)) (by rw [put6_size]; exact Nat.le_refl _)

set_option maxRecDepth 100000 in
set_option maxHeartbeats 4000000 in
theorem taking_any (pb : Nat) (L : List UInt8) (w : World) (h : RS w pb L 0) : Calls Try.prog 45 #[.pointer (some ⟨pb, 0, none⟩)] w fun e w' => e = .returned (.tuple #[iv (takeX L).1, .int .i64 (takeX L).2.1]) ∧ RS w' pb (takeX L).2.2.1 (takeX L).2.2.2 ∧ GB w w' pb := by
  have HS : Hid (RS w pb L 0) := h
  have hpb : pb < w.heap.size := h.lt
  have HU : Hid ((rU L 0).1 ≤ 18446744073709551615) := rU_le L 0
  have HC : Hid (∀ w, RS w pb L 0 → Calls Try.prog 62 #[.pointer (some ⟨pb, 0, none⟩)] w fun e w' => e = .returned (.int .u64 ((rU L 0).1 : Int)) ∧ RS w' pb (rU L 0).2.1 (rU L 0).2.2 ∧ w.grownBy w' (some pb)) := fun w h => uintR_any pb L 0 w h (Or.inl rfl)
  obtain ⟨tx, htx⟩ : ∃ t, takeX L = t := ⟨_, rfl⟩
  rw [htx]
  unfold takeX at htx
  obtain ⟨u, hu⟩ : ∃ u, rU L 0 = u := ⟨_, rfl⟩
  rw [hu] at htx HU HC
  obtain ⟨n, L1, f1⟩ := u
  have HT : Hid _ := htx
  clear h htx hu
  go_enter Try.func45, Try.ntmps45
  have Z0 : Six (w.alloc (.cells #[.int .i64 0, .int .i64 0, .int .i64 0, .int .i64 0, .int .i64 0, .int .i64 0] 25)) w.heap.size In0 := Six.new w In0
  go_wp2_with fail
  refine (HC.out _ (HS.out.below ((Below.refl _ _).alloc (Nat.le_refl _) _))).mono ?_
  rintro e w1 ⟨rfl, r1, g1⟩
  have Z1 : Hid (Six w1 w.heap.size In0) := Z0.block (g1.block _ Z0.lt (by intro e; injection e with e; omega)) g1.size
  have G1 : Hid (GB w w1 pb) := grow_trans (grow_alloc w _ _) g1
  have R1 : Hid (RS w1 pb L1 f1) := r1
  clear r1 g1 Z0 HC
  go_wp2_with (go_at_call 61; refine (small_any n _ HU.out).mono ?_; rintro e wa ⟨rfl, rfl⟩)
  obtain ⟨kd, hkd⟩ : ∃ k, sm n = k := ⟨_, rfl⟩
  rw [hkd] at HT
  rw [hkd]
  obtain ⟨xb, hxb⟩ : ∃ k, wa.heap.size = k := ⟨_, rfl⟩
  have hzx : w.heap.size < xb := by rw [← hxb]; exact Z1.out.lt
  have X2 : Hid (Six (wa.alloc (.cells #[.int .i64 kd, .int .i64 0, .int .i64 0, .int .i64 0, .int .i64 0, .int .i64 0] 25)) xb ⟨kd, 0, 0, 0, 0, 0⟩) := by rw [← hxb]; exact Six.new wa ⟨kd, 0, 0, 0, 0, 0⟩
  have Z2 : Hid (Six (wa.alloc (.cells #[.int .i64 kd, .int .i64 0, .int .i64 0, .int .i64 0, .int .i64 0, .int .i64 0] 25)) w.heap.size In0) := Z1.out.alloc _
  have G2 : Hid (GB w (wa.alloc (.cells #[.int .i64 kd, .int .i64 0, .int .i64 0, .int .i64 0, .int .i64 0, .int .i64 0] 25)) pb) := grow_trans G1.out (grow_alloc _ _ _)
  have R2 : Hid (RS (wa.alloc (.cells #[.int .i64 kd, .int .i64 0, .int .i64 0, .int .i64 0, .int .i64 0, .int .i64 0] 25)) pb L1 f1) := R1.out.below ((Below.refl _ _).alloc (Nat.le_refl _) _)
  have S2 : Hid ((wa.alloc (.cells #[.int .i64 kd, .int .i64 0, .int .i64 0, .int .i64 0, .int .i64 0, .int .i64 0] 25)).heap.size = xb + 1) := by show _ = _; rw [← hxb]; simp
  rw [hxb]
  obtain ⟨W, hW⟩ : ∃ W, wa.alloc (.cells #[.int .i64 kd, .int .i64 0, .int .i64 0, .int .i64 0, .int .i64 0, .int .i64 0] 25) = W := ⟨_, rfl⟩
  rw [hW] at X2 Z2 G2 R2 S2
  rw [hW]
  clear hW hxb hkd Z1 G1 R1
  refine (fail_any pb f1 L1 _ R2.out).mono ?_
  rintro e wb ⟨rfl, rfl⟩
  obtain ⟨z0, z1, z2, z3, z4, z5, k0, k1, k2, k3, k4, k5, _⟩ := Z2.out
  by_cases hf : f1 = 0
  · subst hf
    obtain ⟨x0, x1, x2, x3, x4, x5, _⟩ := X2.out
    obtain ⟨is, his⟩ : ∃ b, (lets kd).isSome = b := ⟨_, rfl⟩
    obtain ⟨s, hs⟩ : ∃ s, (lets kd).getD ⟨#[]⟩ = s := ⟨_, rfl⟩
    have HO : Hid (okL s) := by rw [← hs]; exact lets_ok kd
    have HP : Hid (∀ w, Calls Try.prog 24 #[.int .i64 kd] w fun e w' => e = .returned (.tuple #[.string s, .bool is]) ∧ w' = w) := by
      intro w
      rw [← hs, ← his]; exact partsOf_any kd w
    rw [his, hs] at HT
    clear his hs
    cases is with
    | false =>
      have HT2 : Hid ((In0, (21 : Int), L1, (0 : Int)) = tx) := by
        have := HT.out
        rw [if_neg (by simp), if_pos rfl] at this
        exact this
      go_wp2_with (go_at_call 24; refine (HP.out _).mono ?_; rintro e wc ⟨rfl, rfl⟩)
      refine bodyPost_ret (ret_six2 2 3 Try.results45 _ w.heap.size rfl _ rfl _ (put6_six Z2.out In0)) rfl ?_
      rw [← HT2.out]
      exact ⟨rfl, put6_rs R2.out hpb In0, put6_gb G2.out (Nat.le_refl _) In0⟩
    | true =>
      have HT2 : Hid (((foldT (⟨kd, 0, 0, 0, 0, 0⟩, L1, 0) s.data.toList).1, (foldT (⟨kd, 0, 0, 0, 0, 0⟩, L1, 0) s.data.toList).2.2, (foldT (⟨kd, 0, 0, 0, 0, 0⟩, L1, 0) s.data.toList).2.1, (foldT (⟨kd, 0, 0, 0, 0, 0⟩, L1, 0) s.data.toList).2.2) = tx) := by
        have := HT.out
        rw [if_neg (by simp), if_neg (by simp)] at this
        exact this
      go_wp2_with (go_at_call 24; refine (HP.out _).mono ?_; rintro e wc ⟨rfl, rfl⟩)
      have HTI : Hid (TI w (wc.iter s 0) pb xb wc.heap.size s (⟨kd, 0, 0, 0, 0, 0⟩, L1, 0) 0) := ⟨World.iter_heap wc s 0, X2.out.alloc _, R2.out.below ((Below.refl _ _).alloc (Nat.le_refl _) _), grow_trans G2.out (grow_alloc _ _ _), In0, Z2.out.alloc _⟩
      have hxt : xb < wc.heap.size := X2.out.lt
      obtain ⟨t, ht⟩ : ∃ t, wc.heap.size = t := ⟨_, rfl⟩
      rw [ht] at HTI hxt
      rw [ht]
      clear ht x0 x1 x2 x3 x4 x5 z0 z1 z2 z3 z4 z5 k0 k1 k2 k3 k4 k5 HT
      go_loopw [] (fun wr => ∃ pos : Nat, pos ≤ s.size ∧ Hid (TI w wr pb xb t s (foldT (⟨kd, 0, 0, 0, 0, 0⟩, L1, 0) (s.data.toList.take pos)) pos)) (fun wr => s.size - wr.iterPos t)
      case atStart => exact ⟨0, Nat.zero_le _, by rw [List.take_zero]; exact HTI⟩
      case round =>
        obtain ⟨pos, hps, H⟩ := hrel
        by_cases hp : pos < s.size
        · have hL := HO.out pos hp
          have hnx : ∀ ty, (Instr.next (.pointer (some ⟨t, 0, none⟩)) true ty).run Try.prog wr = _ := fun ty => Lib.run_next_ascii_at wr t s pos ty H.out.it hp (isL_lt hL)
          have H2 : Hid _ := H.out.next hpb hzx hxt (pos + 1)
          have HN : Hid (foldT (⟨kd, 0, 0, 0, 0, 0⟩, L1, 0) (s.data.toList.take (pos + 1)) = stepT (foldT (⟨kd, 0, 0, 0, 0, 0⟩, L1, 0) (s.data.toList.take pos)) s[pos]) := foldT_next _ s pos hp
          have HLF : Hid (_ ∨ _) := foldT_left (s.data.toList.take pos) (⟨kd, 0, 0, 0, 0, 0⟩, L1, 0) (Or.inl rfl)
          have HE : Hid (wr.iterPos t = pos) := H.out.pos
          obtain ⟨st, hst⟩ : ∃ st, foldT (⟨kd, 0, 0, 0, 0, 0⟩, L1, 0) (s.data.toList.take pos) = st := ⟨_, rfl⟩
          rw [hst] at H2 HN HLF
          obtain ⟨y, M, g⟩ := st
          have HUL : Hid ((rU M g).1 ≤ 18446744073709551615) := rU_le M g
          obtain ⟨W2, hW2⟩ : ∃ W2, wr.iterAt t s (pos + 1) = W2 := ⟨_, rfl⟩
          rw [hW2] at hnx H2
          have HC : Hid (∀ W, TI w W pb xb t s (y, M, g) (pos + 1) → Calls Try.prog 62 #[.pointer (some ⟨pb, 0, none⟩)] W fun e w' => e = .returned (.int .u64 ((rU M g).1 : Int)) ∧ TI w w' pb xb t s (y, (rU M g).2) (pos + 1)) := by
            intro W hW
            refine (uintR_any pb M g W hW.rs HLF.out).mono ?_
            rintro e w' ⟨rfl, r1, g1⟩
            exact ⟨rfl, hW.call hpb hzx hxt r1 g1⟩
          have HD : Hid (∀ W, TI w W pb xb t s (y, M, g) (pos + 1) → Calls Try.prog 64 #[.pointer (some ⟨pb, 0, none⟩)] W fun e w' => e = .returned (.int .i64 (rI M g).1) ∧ TI w w' pb xb t s (y, (rI M g).2) (pos + 1)) := by
            intro W hW
            refine (intR_any pb M g W hW.rs HLF.out).mono ?_
            rintro e w' ⟨rfl, r1, g1⟩
            exact ⟨rfl, hW.call hpb hzx hxt r1 g1⟩
          clear hW2 H hst
          rcases hL with ec | ec | ec | ec | ec | ec | ec
          · have hn : ((s[pos]).toNat : Int) = 111 := by rw [ec]; rfl
            rw [hn] at hnx
            rw [ec, show stepT (y, M, g) 111 = (⟨y.kind, sm (rU M g).1, y.a, y.b, y.c, y.k⟩, (rU M g).2) from rfl] at HN
            go_wp2_with fail
            refine (HC.out _ H2.out).mono ?_
            rintro e w3 ⟨rfl, h3⟩
            have H4 : Hid (TI w (w3.setCell ⟨xb, 1, none⟩ (.int .i64 (sm (rU M g).1))) pb xb t s (foldT (⟨kd, 0, 0, 0, 0, 0⟩, L1, 0) (s.data.toList.take (pos + 1))) (pos + 1)) := by
              show TI _ _ _ _ _ _ _ _
              rw [HN.out]
              exact h3.set hpb hzx hxt 1 (sm (rU M g).1) ⟨y.kind, sm (rU M g).1, y.a, y.b, y.c, y.k⟩ (h3.hx.set 1 (sm (rU M g).1) (by simp) (by simp) (by simp) (by simp) (by simp) (by simp))
            obtain ⟨_, y1, y2, y3, y4, y5, _, q1, q2, q3, q4, q5, _⟩ := h3.hx
            clear h3
            go_wp2_with (go_at_call 61; refine (small_any _ _ HUL.out).mono ?_; rintro e w4 ⟨rfl, rfl⟩)
            go_roundw
            case rel => exact ⟨pos + 1, hp, H4⟩
            case measure => rw [H4.out.pos, HE.out]; omega
          · have hn : ((s[pos]).toNat : Int) = 97 := by rw [ec]; rfl
            rw [hn] at hnx
            rw [ec, show stepT (y, M, g) 97 = (⟨y.kind, y.op, sm (rU M g).1, y.b, y.c, y.k⟩, (rU M g).2) from rfl] at HN
            go_wp2_with (go_at_call 51; refine (intOf_any _ _ _ _).mono ?_; rintro e w4 ⟨rfl, rfl⟩)
            refine (HC.out _ H2.out).mono ?_
            rintro e w3 ⟨rfl, h3⟩
            have H4 : Hid (TI w (w3.setCell ⟨xb, 2, none⟩ (.int .i64 (sm (rU M g).1))) pb xb t s (foldT (⟨kd, 0, 0, 0, 0, 0⟩, L1, 0) (s.data.toList.take (pos + 1))) (pos + 1)) := by
              show TI _ _ _ _ _ _ _ _
              rw [HN.out]
              exact h3.set hpb hzx hxt 2 (sm (rU M g).1) ⟨y.kind, y.op, sm (rU M g).1, y.b, y.c, y.k⟩ (h3.hx.set 2 (sm (rU M g).1) (by simp) (by simp) (by simp) (by simp) (by simp) (by simp))
            obtain ⟨_, y1, y2, y3, y4, y5, _, q1, q2, q3, q4, q5, _⟩ := h3.hx
            clear h3
            go_wp2_with (go_at_call 61; refine (small_any _ _ HUL.out).mono ?_; rintro e w4 ⟨rfl, rfl⟩)
            go_roundw
            case rel => exact ⟨pos + 1, hp, H4⟩
            case measure => rw [H4.out.pos, HE.out]; omega
          · have hn : ((s[pos]).toNat : Int) = 98 := by rw [ec]; rfl
            rw [hn] at hnx
            rw [ec, show stepT (y, M, g) 98 = (⟨y.kind, y.op, y.a, sm (rU M g).1, y.c, y.k⟩, (rU M g).2) from rfl] at HN
            go_wp2_with (go_at_call 51; refine (intOf_any _ _ _ _).mono ?_; rintro e w4 ⟨rfl, rfl⟩)
            refine (HC.out _ H2.out).mono ?_
            rintro e w3 ⟨rfl, h3⟩
            have H4 : Hid (TI w (w3.setCell ⟨xb, 3, none⟩ (.int .i64 (sm (rU M g).1))) pb xb t s (foldT (⟨kd, 0, 0, 0, 0, 0⟩, L1, 0) (s.data.toList.take (pos + 1))) (pos + 1)) := by
              show TI _ _ _ _ _ _ _ _
              rw [HN.out]
              exact h3.set hpb hzx hxt 3 (sm (rU M g).1) ⟨y.kind, y.op, y.a, sm (rU M g).1, y.c, y.k⟩ (h3.hx.set 3 (sm (rU M g).1) (by simp) (by simp) (by simp) (by simp) (by simp) (by simp))
            obtain ⟨_, y1, y2, y3, y4, y5, _, q1, q2, q3, q4, q5, _⟩ := h3.hx
            clear h3
            go_wp2_with (go_at_call 61; refine (small_any _ _ HUL.out).mono ?_; rintro e w4 ⟨rfl, rfl⟩)
            go_roundw
            case rel => exact ⟨pos + 1, hp, H4⟩
            case measure => rw [H4.out.pos, HE.out]; omega
          · have hn : ((s[pos]).toNat : Int) = 99 := by rw [ec]; rfl
            rw [hn] at hnx
            rw [ec, show stepT (y, M, g) 99 = (⟨y.kind, y.op, y.a, y.b, sm (rU M g).1, y.k⟩, (rU M g).2) from rfl] at HN
            go_wp2_with (go_at_call 51; refine (intOf_any _ _ _ _).mono ?_; rintro e w4 ⟨rfl, rfl⟩)
            refine (HC.out _ H2.out).mono ?_
            rintro e w3 ⟨rfl, h3⟩
            have H4 : Hid (TI w (w3.setCell ⟨xb, 4, none⟩ (.int .i64 (sm (rU M g).1))) pb xb t s (foldT (⟨kd, 0, 0, 0, 0, 0⟩, L1, 0) (s.data.toList.take (pos + 1))) (pos + 1)) := by
              show TI _ _ _ _ _ _ _ _
              rw [HN.out]
              exact h3.set hpb hzx hxt 4 (sm (rU M g).1) ⟨y.kind, y.op, y.a, y.b, sm (rU M g).1, y.k⟩ (h3.hx.set 4 (sm (rU M g).1) (by simp) (by simp) (by simp) (by simp) (by simp) (by simp))
            obtain ⟨_, y1, y2, y3, y4, y5, _, q1, q2, q3, q4, q5, _⟩ := h3.hx
            clear h3
            go_wp2_with (go_at_call 61; refine (small_any _ _ HUL.out).mono ?_; rintro e w4 ⟨rfl, rfl⟩)
            go_roundw
            case rel => exact ⟨pos + 1, hp, H4⟩
            case measure => rw [H4.out.pos, HE.out]; omega
          · have hn : ((s[pos]).toNat : Int) = 114 := by rw [ec]; rfl
            rw [hn] at hnx
            rw [ec, show stepT (y, M, g) 114 = (⟨y.kind, y.op, y.a, y.b, sm (rU M g).1, y.k⟩, (rU M g).2) from rfl] at HN
            go_wp2_with (go_at_call 51; refine (intOf_any _ _ _ _).mono ?_; rintro e w4 ⟨rfl, rfl⟩)
            refine (HC.out _ H2.out).mono ?_
            rintro e w3 ⟨rfl, h3⟩
            have H4 : Hid (TI w (w3.setCell ⟨xb, 4, none⟩ (.int .i64 (sm (rU M g).1))) pb xb t s (foldT (⟨kd, 0, 0, 0, 0, 0⟩, L1, 0) (s.data.toList.take (pos + 1))) (pos + 1)) := by
              show TI _ _ _ _ _ _ _ _
              rw [HN.out]
              exact h3.set hpb hzx hxt 4 (sm (rU M g).1) ⟨y.kind, y.op, y.a, y.b, sm (rU M g).1, y.k⟩ (h3.hx.set 4 (sm (rU M g).1) (by simp) (by simp) (by simp) (by simp) (by simp) (by simp))
            obtain ⟨_, y1, y2, y3, y4, y5, _, q1, q2, q3, q4, q5, _⟩ := h3.hx
            clear h3
            go_wp2_with (go_at_call 61; refine (small_any _ _ HUL.out).mono ?_; rintro e w4 ⟨rfl, rfl⟩)
            go_roundw
            case rel => exact ⟨pos + 1, hp, H4⟩
            case measure => rw [H4.out.pos, HE.out]; omega
          · have hn : ((s[pos]).toNat : Int) = 107 := by rw [ec]; rfl
            rw [hn] at hnx
            rw [ec, show stepT (y, M, g) 107 = (⟨y.kind, y.op, y.a, y.b, y.c, (rI M g).1⟩, (rI M g).2) from rfl] at HN
            go_wp2_with fail
            refine (HD.out _ H2.out).mono ?_
            rintro e w3 ⟨rfl, h3⟩
            have H4 : Hid (TI w (w3.setCell ⟨xb, 5, none⟩ (.int .i64 ((rI M g).1))) pb xb t s (foldT (⟨kd, 0, 0, 0, 0, 0⟩, L1, 0) (s.data.toList.take (pos + 1))) (pos + 1)) := by
              show TI _ _ _ _ _ _ _ _
              rw [HN.out]
              exact h3.set hpb hzx hxt 5 ((rI M g).1) ⟨y.kind, y.op, y.a, y.b, y.c, (rI M g).1⟩ (h3.hx.set 5 ((rI M g).1) (by simp) (by simp) (by simp) (by simp) (by simp) (by simp))
            obtain ⟨_, y1, y2, y3, y4, y5, _, q1, q2, q3, q4, q5, _⟩ := h3.hx
            clear h3
            go_wp2
            go_roundw
            case rel => exact ⟨pos + 1, hp, H4⟩
            case measure => rw [H4.out.pos, HE.out]; omega
          · have hn : ((s[pos]).toNat : Int) = 108 := by rw [ec]; rfl
            rw [hn] at hnx
            rw [ec, show stepT (y, M, g) 108 = (⟨y.kind, y.op, y.a, y.b, y.c, (rI M g).1⟩, (rI M g).2) from rfl] at HN
            go_wp2_with fail
            refine (HD.out _ H2.out).mono ?_
            rintro e w3 ⟨rfl, h3⟩
            have H4 : Hid (TI w (w3.setCell ⟨xb, 5, none⟩ (.int .i64 ((rI M g).1))) pb xb t s (foldT (⟨kd, 0, 0, 0, 0, 0⟩, L1, 0) (s.data.toList.take (pos + 1))) (pos + 1)) := by
              show TI _ _ _ _ _ _ _ _
              rw [HN.out]
              exact h3.set hpb hzx hxt 5 ((rI M g).1) ⟨y.kind, y.op, y.a, y.b, y.c, (rI M g).1⟩ (h3.hx.set 5 ((rI M g).1) (by simp) (by simp) (by simp) (by simp) (by simp) (by simp))
            obtain ⟨_, y1, y2, y3, y4, y5, _, q1, q2, q3, q4, q5, _⟩ := h3.hx
            clear h3
            go_wp2
            go_roundw
            case rel => exact ⟨pos + 1, hp, H4⟩
            case measure => rw [H4.out.pos, HE.out]; omega
        · have hnx : ∀ ty, (Instr.next (.pointer (some ⟨t, 0, none⟩)) true ty).run Try.prog wr = _ := fun ty => Lib.run_next_end_at wr t s pos ty H.out.it hp
          rw [List.take_of_length_le (by simp; omega)] at H
          obtain ⟨st, hst⟩ : ∃ st, foldT (⟨kd, 0, 0, 0, 0, 0⟩, L1, 0) s.data.toList = st := ⟨_, rfl⟩
          rw [hst] at H HT2
          obtain ⟨y, M, g⟩ := st
          obtain ⟨y0, y1, y2, y3, y4, y5, _⟩ := H.out.hx
          obtain ⟨zz, hz⟩ := H.out.hz
          have HZ : Hid (Six wr w.heap.size zz) := hz
          obtain ⟨z0, z1, z2, z3, z4, z5, k0, k1, k2, k3, k4, k5, _⟩ := hz
          clear hst
          have hne : xb ≠ w.heap.size := by omega
          have hne' : w.heap.size ≠ xb := by omega
          have HF : Hid (Calls Try.prog 63 #[.pointer (some ⟨pb, 0, none⟩)] wr.drew fun e w' => e = .returned (.int .i64 g) ∧ w' = wr.drew) := fail_any pb g M _ H.out.rs.drew
          have d0 : wr.drew.cell? ⟨w.heap.size, 0, none⟩ = _ := z0
          have d1 : wr.drew.cell? ⟨w.heap.size, 1, none⟩ = _ := z1
          have d2 : wr.drew.cell? ⟨w.heap.size, 2, none⟩ = _ := z2
          have d3 : wr.drew.cell? ⟨w.heap.size, 3, none⟩ = _ := z3
          have d4 : wr.drew.cell? ⟨w.heap.size, 4, none⟩ = _ := z4
          have d5 : wr.drew.cell? ⟨w.heap.size, 5, none⟩ = _ := z5
          have e0 : wr.drew.frozen? ⟨w.heap.size, 0, none⟩ = false := k0
          have e1 : wr.drew.frozen? ⟨w.heap.size, 1, none⟩ = false := k1
          have e2 : wr.drew.frozen? ⟨w.heap.size, 2, none⟩ = false := k2
          have e3 : wr.drew.frozen? ⟨w.heap.size, 3, none⟩ = false := k3
          have e4 : wr.drew.frozen? ⟨w.heap.size, 4, none⟩ = false := k4
          have e5 : wr.drew.frozen? ⟨w.heap.size, 5, none⟩ = false := k5
          have x0 : wr.drew.cell? ⟨xb, 0, none⟩ = _ := y0
          have x1 : wr.drew.cell? ⟨xb, 1, none⟩ = _ := y1
          have x2 : wr.drew.cell? ⟨xb, 2, none⟩ = _ := y2
          have x3 : wr.drew.cell? ⟨xb, 3, none⟩ = _ := y3
          have x4 : wr.drew.cell? ⟨xb, 4, none⟩ = _ := y4
          have x5 : wr.drew.cell? ⟨xb, 5, none⟩ = _ := y5
          go_wp2_with fail
          go_region_held3 (fun w' => w'.cell? ⟨xb, 0, none⟩ = some (.int .i64 y.kind) ∧ w'.cell? ⟨xb, 1, none⟩ = some (.int .i64 y.op) ∧ w'.cell? ⟨xb, 2, none⟩ = some (.int .i64 y.a) ∧ w'.cell? ⟨xb, 3, none⟩ = some (.int .i64 y.b) ∧ w'.cell? ⟨xb, 4, none⟩ = some (.int .i64 y.c) ∧ w'.cell? ⟨xb, 5, none⟩ = some (.int .i64 y.k)) (go_keep) (first | (go_at_call 63; refine HF.out.mono ?_; rintro e w4 ⟨rfl, hw4⟩; rw [hw4]))
          go_wp2
          refine bodyPost_ret (ret_six2 2 3 Try.results45 _ w.heap.size rfl _ rfl _ (put6_six HZ.out y).drew) rfl ?_
          rw [← HT2.out]
          exact ⟨rfl, (put6_rs H.out.rs hpb y).drew, (put6_gb H.out.gb (Nat.le_refl _) y).drew⟩
  · have HT2 : Hid ((In0, f1, L1, f1) = tx) := by
      have := HT.out
      rw [if_pos hf] at this
      exact this
    go_wp2_with fail
    refine (fail_any pb f1 L1 _ R2.out).mono ?_
    rintro e wc ⟨rfl, rfl⟩
    go_wp2
    refine bodyPost_ret (ret_six2 2 3 Try.results45 _ w.heap.size rfl _ rfl _ (put6_six Z2.out In0)) rfl ?_
    rw [← HT2.out]
    exact ⟨rfl, put6_rs R2.out hpb In0, put6_gb G2.out (Nat.le_refl _) In0⟩
end Go.Proofs.Ythcidcfaodjbjaa
