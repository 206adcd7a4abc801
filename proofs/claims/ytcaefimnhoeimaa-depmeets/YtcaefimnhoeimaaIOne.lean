/- What One answers. -/
import Derived.Test.YtcaefimnhoeimaaIIns
import Derived.Lib.Bytealg
import Derived.Deep.RegionHeld3
namespace Go.Proofs.Ytcaefimnhoeimaa
open Go.RowKit
set_option linter.unusedVariables false

theorem extern101 (s : ByteArray) (c : Int) (w : World) : (callFunc 78 #[.string s, .int .u8 c]).run Try.prog w = .ok (.value (.int .i64 (Lib.indexByte s.data.toList c.toNat.toUInt8))) w := by
  rw [run_callFunc_extern Try.func78 (by kernel_rfl) (by kernel_rfl) (by kernel_rfl) (e := Extern.BytealgIndexByte.indexByte) (by kernel_rfl), Lib.run_indexByteString]
  rfl
set_option maxRecDepth 100000 in
theorem index99_any (s : ByteArray) (c : Int) (w : World) :
    Calls Try.prog 77 #[.string s, .int .u8 c] w fun e w' => e = .returned (.int .i64 (Lib.indexByte s.data.toList c.toNat.toUInt8)) ∧ w' = w := by
  go_enter Try.func77, Try.ntmps77
  go_wp2
  rw [extern101]
  rw [Oper.upon_value]
  go_wp2
  go_ret
  exact ⟨rfl, rfl⟩
set_option maxRecDepth 100000 in
theorem index86_any (s : ByteArray) (c : Int) (w : World) :
    Calls Try.prog 73 #[.string s, .int .u8 c] w fun e w' => e = .returned (.int .i64 (Lib.indexByte s.data.toList c.toNat.toUInt8)) ∧ w' = w := by
  go_enter Try.func73, Try.ntmps73
  go_wp2_with (go_at_call 77; refine (index99_any _ _ _).mono ?_; rintro e w' ⟨rfl, rfl⟩)
  go_ret
  exact ⟨rfl, rfl⟩
set_option maxRecDepth 100000 in
set_option maxHeartbeats 1000000 in
theorem indexRune_any (s : ByteArray) (c : Int) (w : World) (h0 : 0 ≤ c) (h1 : c < 128) :
    Calls Try.prog 69 #[.string s, .int .i32 c] w fun e w' => e = .returned (.int .i64 (Lib.indexByte s.data.toList c.toNat.toUInt8)) ∧ w' = w := by
  go_enter Try.func69, Try.ntmps69
  go_wp2_with (go_at_call 73; refine (index86_any _ _ _).mono ?_; rintro e w' ⟨rfl, rfl⟩)
  go_ret
  exact ⟨by simp; try omega, rfl⟩
def hasL (s : ByteArray) (c : UInt8) : Bool := s.data.toList.contains c
theorem indexByte_contains (l : List UInt8) (c : UInt8) : decide (0 ≤ Lib.indexByte l c) = l.contains c := by
  induction l with
  | nil => rfl
  | cons b l ih =>
    unfold Lib.indexByte
    rw [List.contains_cons]
    by_cases h : (b == c) = true
    · have : b = c := by simpa using h
      subst this
      simp
    · have h' : (c == b) = false := by
        have : b ≠ c := by simpa using h
        simp; exact fun e => this e.symm
      rw [if_neg h, h', Bool.false_or, ← ih]
      have hg := Lib.indexByte_ge l c
      by_cases h2 : (Lib.indexByte l c == -1) = true
      · have : Lib.indexByte l c = -1 := by simpa using h2
        rw [if_pos h2, this]
      · have : Lib.indexByte l c ≠ -1 := by simpa using h2
        rw [if_neg h2]
        apply decide_eq_decide.2
        omega
set_option maxRecDepth 100000 in
theorem contains_any (s : ByteArray) (c : Int) (w : World) (h0 : 0 ≤ c) (h1 : c < 128) :
    Calls Try.prog 61 #[.string s, .int .i32 c] w fun e w' => e = .returned (.bool (hasL s c.toNat.toUInt8)) ∧ w' = w := by
  go_enter Try.func61, Try.ntmps61
  go_wp2_with (go_at_call 69; refine (indexRune_any _ _ _ h0 h1).mono ?_; rintro e w' ⟨rfl, rfl⟩)
  go_ret
  exact ⟨ret_b (indexByte_contains _ _), rfl⟩

set_option maxRecDepth 100000 in
theorem hasTarget_any (s : ByteArray) (w : World) : Calls Try.prog 62 #[.string s] w fun e w' => e = .returned (.bool (hasL s 108)) ∧ w' = w := by
  go_enter Try.func62, Try.ntmps62
  go_wp2_with (go_at_call 61; refine (contains_any _ _ _ (by omega) (by omega)).mono ?_; rintro e w' ⟨rfl, rfl⟩)
  go_ret
  exact ⟨rfl, rfl⟩
set_option maxRecDepth 100000 in
set_option maxHeartbeats 1000000 in
theorem targetFits_any (x : In) (s : ByteArray) (long : Int) (w : World) : Calls Try.prog 38 #[iv x, .string s, .int .i64 long] w fun e w' => e = .returned (.bool (!hasL s 108 || withinB x.k long)) ∧ Below w.heap.size w w' := by
  unfold iv
  obtain ⟨hb, hhb⟩ : ∃ b, hasL s 108 = b := ⟨_, rfl⟩
  have HH : Hid (hasL s 108 = hb) := hhb
  rw [hhb]
  clear hhb
  go_enter Try.func38, Try.ntmps38
  go_wp2_with fail
  refine (hasTarget_any _ _).mono ?_
  rintro e w' ⟨rfl, rfl⟩
  rw [HH.out]
  cases hb
  · go_wp2
    go_ret
    exact ⟨rfl, (Below.refl _ _).alloc (Nat.le_refl _) _⟩
  · go_wp2_with (go_at_call 59; refine (within_any _ _ _).mono ?_; rintro e w' ⟨rfl, rfl⟩)
    go_ret
    exact ⟨ret_b (by simp), (Below.refl _ _).alloc (Nat.le_refl _) _⟩
set_option maxRecDepth 100000 in
set_option maxHeartbeats 1000000 in
theorem reductionFits_any (x : In) (s : ByteArray) (cells : Int) (w : World) : Calls Try.prog 37 #[iv x, .string s, .int .i64 cells] w fun e w' => e = .returned (.bool (!hasL s 114 || withinB x.c (min cells 4))) ∧ Below w.heap.size w w' := by
  unfold iv
  obtain ⟨hb, hhb⟩ : ∃ b, hasL s 114 = b := ⟨_, rfl⟩
  have HH : Hid (hasL s 114 = hb) := hhb
  rw [hhb]
  clear hhb
  go_enter Try.func37, Try.ntmps37
  go_wp2_with fail
  refine (contains_any _ _ _ (by omega) (by omega)).mono ?_
  rintro e w' ⟨rfl, rfl⟩
  rw [show ((114 : Int).toNat.toUInt8) = 114 from rfl, HH.out]
  cases hb
  · go_wp2
    go_ret
    exact ⟨rfl, (Below.refl _ _).alloc (Nat.le_refl _) _⟩
  · go_wp2_with (go_at_call 59; refine (within_any _ _ _).mono ?_; rintro e w' ⟨rfl, rfl⟩)
    all_goals (go_ret; exact ⟨ret_b (by first | rw [Int.min_eq_right (by omega)] | rw [Int.min_eq_left (by omega)]), (Below.refl _ _).alloc (Nat.le_refl _) _⟩)

/-- a register is one -/
def regOk (x : In) (c : UInt8) : Bool := if c = 97 then withinB x.a 16 else if c = 98 then withinB x.b 16 else if c = 99 then withinB x.c 16 else true
/-- what is so at each round's head of 'registersFit' -/
structure RI (w wr : World) (s : ByteArray) (x : In) (p : Nat) : Prop where
  it : wr.heap[w.heap.size + 1]? = some (.stringIter s p)
  hx : Six wr w.heap.size x
  hb : Below w.heap.size w wr
theorem Six.drew {w : World} {b : Nat} {x : In} (h : Six w b x) : Six w.drew b x := ⟨h.c0, h.c1, h.c2, h.c3, h.c4, h.c5, h.f0, h.f1, h.f2, h.f3, h.f4, h.f5, h.lt⟩
theorem RI.pos {w wr : World} {s : ByteArray} {x : In} {p : Nat} (h : RI w wr s x p) : wr.iterPos (w.heap.size + 1) = p := by simp [World.iterPos, h.it]
theorem RI.next {w wr : World} {s : ByteArray} {x : In} {p : Nat} (h : RI w wr s x p) (q : Nat) : RI w (wr.iterAt (w.heap.size + 1) s q) s x q := by
  have hs : wr.heap.size ≤ (wr.iterAt (w.heap.size + 1) s q).heap.size := by rw [Lib.iterAt_size]; exact Nat.le_refl _
  exact ⟨Lib.iterAt_heap wr _ s p q h.it, h.hx.block (Lib.iterAt_other wr _ _ s q (by omega)) hs, Lib.below_iterAt h.hb (by omega) s q⟩
theorem RI.start (w : World) (s : ByteArray) (x : In) : RI w ((w.alloc (.cells #[.int .i64 x.kind, .int .i64 x.op, .int .i64 x.a, .int .i64 x.b, .int .i64 x.c, .int .i64 x.k] 53)).iter s 0) s x 0 := by
  refine ⟨?_, (Six.new w x).alloc _, ((Below.refl _ _).alloc (Nat.le_refl _) _).alloc (by simp) _⟩
  have := World.iter_heap (w.alloc (.cells #[.int .i64 x.kind, .int .i64 x.op, .int .i64 x.a, .int .i64 x.b, .int .i64 x.c, .int .i64 x.k] 53)) s 0
  simpa using this
theorem all_next (s : ByteArray) (f : UInt8 → Bool) (p : Nat) (h : p < s.size) : (s.data.toList.drop p).all f = (f s[p] && (s.data.toList.drop (p + 1)).all f) := by
  have hp : p < s.data.toList.length := by simpa using h
  rw [List.drop_eq_getElem_cons hp, List.all_cons]; rfl

set_option maxRecDepth 100000 in
set_option maxHeartbeats 4000000 in
theorem registersFit_any (x : In) (s : ByteArray) (w : World) (hs : okL s) : Calls Try.prog 35 #[iv x, .string s] w fun e w' => e = .returned (.bool (s.data.toList.all (regOk x))) ∧ Below w.heap.size w w' := by
  unfold iv
  have HS : Hid (okL s) := hs
  obtain ⟨R, hR⟩ : ∃ R, s.data.toList.all (regOk x) = R := ⟨_, rfl⟩
  rw [hR]
  have HR : Hid ((s.data.toList.drop 0).all (regOk x) = R) := hR
  clear hs hR
  go_enter Try.func35, Try.ntmps35
  go_wp2_with fail
  go_loopw [] (fun wr => ∃ pos : Nat, pos ≤ s.size ∧ Hid ((s.data.toList.drop pos).all (regOk x) = R) ∧ Hid (RI w wr s x pos)) (fun wr => s.size - wr.iterPos (w.heap.size + 1))
  case atStart => exact ⟨0, Nat.zero_le _, HR, RI.start w s x⟩
  case round =>
    obtain ⟨pos, hps, HP, H⟩ := hrel
    by_cases hp : pos < s.size
    · have hL := HS.out pos hp
      have hnx : ∀ ty, (Instr.next (.pointer (some ⟨w.heap.size + 1, 0, none⟩)) true ty).run Try.prog wr = _ := fun ty => Lib.run_next_ascii_at wr (w.heap.size + 1) s pos ty H.out.it hp (isL_lt hL)
      have H2 : Hid _ := H.out.next (pos + 1)
      have HE : Hid (s.size - (wr.iterAt (w.heap.size + 1) s (pos + 1)).iterPos (w.heap.size + 1) < s.size - wr.iterPos (w.heap.size + 1)) := by
        show _ < _
        rw [H2.out.pos, H.out.pos]; omega
      have HN : Hid ((regOk x s[pos] && (s.data.toList.drop (pos + 1)).all (regOk x)) = R) := by
        show _ = _
        rw [← all_next s _ pos hp]; exact HP.out
      obtain ⟨W2, hW2⟩ : ∃ W2, wr.iterAt (w.heap.size + 1) s (pos + 1) = W2 := ⟨_, rfl⟩
      rw [hW2] at hnx H2 HE
      obtain ⟨_, x1, x2, x3, x4, x5, _, _, _, _, _, _, _⟩ := H2.out.hx
      clear hW2
      rcases hL with ec | ec | ec | ec | ec | ec | ec
      · have hn : ((s[pos]).toNat : Int) = 111 := by rw [ec]; rfl
        rw [hn] at hnx
        rw [ec] at HN
        have HN2 : Hid ((s.data.toList.drop (pos + 1)).all (regOk x) = R) := by show _ = _; have := HN.out; simpa [regOk] using this
        clear HN
        go_wp2
        go_roundw
        case rel => exact ⟨pos + 1, hp, HN2, H2⟩
        case measure => exact HE.out
      · have hn : ((s[pos]).toNat : Int) = 97 := by rw [ec]; rfl
        rw [hn] at hnx
        rw [ec] at HN
        by_cases hw : withinB x.a 16 = true
        · have HN2 : Hid ((s.data.toList.drop (pos + 1)).all (regOk x) = R) := by show _ = _; have := HN.out; simpa [regOk, hw] using this
          clear HN
          go_wp2_with (first | (go_at_call 60; refine (intOf_any _ _ _ _).mono ?_; rintro e w' ⟨rfl, rfl⟩) | (go_at_call 59; refine (within_any _ _ _).mono ?_; rintro e w' ⟨rfl, rfl⟩; rw [hw]) | fail)
          go_roundw
          case rel => exact ⟨pos + 1, hp, HN2, H2⟩
          case measure => exact HE.out
        · have hw : withinB x.a 16 = false := by simpa using hw
          have HN2 : Hid (false = R) := by show _ = _; have := HN.out; simpa [regOk, hw] using this
          clear HN
          go_wp2_with (first | (go_at_call 60; refine (intOf_any _ _ _ _).mono ?_; rintro e w' ⟨rfl, rfl⟩) | (go_at_call 59; refine (within_any _ _ _).mono ?_; rintro e w' ⟨rfl, rfl⟩; rw [hw]) | fail)
          go_ret
          exact ⟨ret_b HN2.out, H2.out.hb⟩
      · have hn : ((s[pos]).toNat : Int) = 98 := by rw [ec]; rfl
        rw [hn] at hnx
        rw [ec] at HN
        by_cases hw : withinB x.b 16 = true
        · have HN2 : Hid ((s.data.toList.drop (pos + 1)).all (regOk x) = R) := by show _ = _; have := HN.out; simpa [regOk, hw] using this
          clear HN
          go_wp2_with (first | (go_at_call 60; refine (intOf_any _ _ _ _).mono ?_; rintro e w' ⟨rfl, rfl⟩) | (go_at_call 59; refine (within_any _ _ _).mono ?_; rintro e w' ⟨rfl, rfl⟩; rw [hw]) | fail)
          go_roundw
          case rel => exact ⟨pos + 1, hp, HN2, H2⟩
          case measure => exact HE.out
        · have hw : withinB x.b 16 = false := by simpa using hw
          have HN2 : Hid (false = R) := by show _ = _; have := HN.out; simpa [regOk, hw] using this
          clear HN
          go_wp2_with (first | (go_at_call 60; refine (intOf_any _ _ _ _).mono ?_; rintro e w' ⟨rfl, rfl⟩) | (go_at_call 59; refine (within_any _ _ _).mono ?_; rintro e w' ⟨rfl, rfl⟩; rw [hw]) | fail)
          go_ret
          exact ⟨ret_b HN2.out, H2.out.hb⟩
      · have hn : ((s[pos]).toNat : Int) = 99 := by rw [ec]; rfl
        rw [hn] at hnx
        rw [ec] at HN
        by_cases hw : withinB x.c 16 = true
        · have HN2 : Hid ((s.data.toList.drop (pos + 1)).all (regOk x) = R) := by show _ = _; have := HN.out; simpa [regOk, hw] using this
          clear HN
          go_wp2_with (first | (go_at_call 60; refine (intOf_any _ _ _ _).mono ?_; rintro e w' ⟨rfl, rfl⟩) | (go_at_call 59; refine (within_any _ _ _).mono ?_; rintro e w' ⟨rfl, rfl⟩; rw [hw]) | fail)
          go_roundw
          case rel => exact ⟨pos + 1, hp, HN2, H2⟩
          case measure => exact HE.out
        · have hw : withinB x.c 16 = false := by simpa using hw
          have HN2 : Hid (false = R) := by show _ = _; have := HN.out; simpa [regOk, hw] using this
          clear HN
          go_wp2_with (first | (go_at_call 60; refine (intOf_any _ _ _ _).mono ?_; rintro e w' ⟨rfl, rfl⟩) | (go_at_call 59; refine (within_any _ _ _).mono ?_; rintro e w' ⟨rfl, rfl⟩; rw [hw]) | fail)
          go_ret
          exact ⟨ret_b HN2.out, H2.out.hb⟩
      · have hn : ((s[pos]).toNat : Int) = 114 := by rw [ec]; rfl
        rw [hn] at hnx
        rw [ec] at HN
        have HN2 : Hid ((s.data.toList.drop (pos + 1)).all (regOk x) = R) := by show _ = _; have := HN.out; simpa [regOk] using this
        clear HN
        go_wp2
        go_roundw
        case rel => exact ⟨pos + 1, hp, HN2, H2⟩
        case measure => exact HE.out
      · have hn : ((s[pos]).toNat : Int) = 107 := by rw [ec]; rfl
        rw [hn] at hnx
        rw [ec] at HN
        have HN2 : Hid ((s.data.toList.drop (pos + 1)).all (regOk x) = R) := by show _ = _; have := HN.out; simpa [regOk] using this
        clear HN
        go_wp2
        go_roundw
        case rel => exact ⟨pos + 1, hp, HN2, H2⟩
        case measure => exact HE.out
      · have hn : ((s[pos]).toNat : Int) = 108 := by rw [ec]; rfl
        rw [hn] at hnx
        rw [ec] at HN
        have HN2 : Hid ((s.data.toList.drop (pos + 1)).all (regOk x) = R) := by show _ = _; have := HN.out; simpa [regOk] using this
        clear HN
        go_wp2
        go_roundw
        case rel => exact ⟨pos + 1, hp, HN2, H2⟩
        case measure => exact HE.out
    · have hnx : ∀ ty, (Instr.next (.pointer (some ⟨w.heap.size + 1, 0, none⟩)) true ty).run Try.prog wr = _ := fun ty => Lib.run_next_end_at wr (w.heap.size + 1) s pos ty H.out.it hp
      have HN2 : Hid (true = R) := by
        have := HP.out
        rw [List.drop_of_length_le (by simp; omega)] at this
        exact this
      go_wp2
      go_ret
      exact ⟨ret_b HN2.out, H.out.hb⟩

/-- the same instruction -/
def inEq (x y : In) : Bool := x.kind == y.kind && (x.op == y.op && (x.a == y.a && (x.b == y.b && (x.c == y.c && x.k == y.k))))
theorem stoodIn : Try.prog.stoodInHeld 53 = false := by kernel_rfl
theorem guard25 : Try.prog.eqGuardType Try.prog.depth 53 = false := by kernel_rfl
theorem und25 : Try.prog.underlying 53 = some (.struct (Try.prog.fieldsOf 53)) := by kernel_rfl
set_option maxRecDepth 100000 in
theorem neq_in (x y : In) (w : World) : (binOp .neq 53 (iv x) (iv y)).run Try.prog w = .ok (.bool (!inEq x y)) w := by
  unfold iv
  rw [run_neq_struct, run_equalIn_agg w 9999 53 _ _ und25 stoodIn]
  simp only [Program.fieldsOf, Try.underlying53]
  simp [go_sem]
  unfold inEq
  (repeat' split) <;> simp_all
set_option maxRecDepth 100000 in
theorem eql_in (x y : In) (w : World) : (binOp .eql 53 (iv x) (iv y)).run Try.prog w = .ok (.bool (inEq x y)) w := by
  unfold iv
  rw [run_eql_struct, run_equalIn_agg w 9999 53 _ _ und25 stoodIn]
  simp only [Program.fieldsOf, Try.underlying53]
  simp [go_sem]
  unfold inEq
  (repeat' split) <;> simp_all

theorem okL_of (s : ByteArray) (h : s.data.toList.all (fun c => c == 111 || (c == 97 || (c == 98 || (c == 99 || (c == 114 || (c == 107 || c == 108)))))) = true) : okL s := by
  intro i hi
  have h2 : i < s.data.toList.length := by simpa using hi
  have := List.all_eq_true.1 h _ (List.getElem_mem h2)
  simp only [Bool.or_eq_true, beq_iff_eq] at this
  exact this
theorem lets_ok (n : Int) : okL ((lets n).getD ⟨#[]⟩) := by
  apply okL_of
  unfold lets
  (repeat' split) <;> decide

/-- what One answers -/
def oneS (x : In) (s : ByteArray) (is : Bool) (cells long : Int) : Int :=
  if is = false ∨ opOk x = false then 81 else if s.data.toList.all (regOk x) = false then 82 else if inEq (keepL x s.data.toList) x = false then 83
  else if (!hasL s 114 || withinB x.c (min cells 4)) = false then 63 else if (!hasL s 108 || withinB x.k long) = false then 84 else 0
def oneC (x : In) (cells long : Int) : Int := oneS x ((lets x.kind).getD ⟨#[]⟩) (lets x.kind).isSome cells long

set_option maxRecDepth 100000 in
set_option maxHeartbeats 4000000 in
theorem one_any (x : In) (cells long : Int) (w : World) : Calls Try.prog 20 #[iv x, .int .i64 cells, .int .i64 long] w fun e w' => e = .returned (.int .i64 (oneC x cells long)) ∧ Below w.heap.size w w' := by
  have HI : Hid (∀ y : In, iv y = .agg #[.int .i64 y.kind, .int .i64 y.op, .int .i64 y.a, .int .i64 y.b, .int .i64 y.c, .int .i64 y.k]) := fun _ => rfl
  obtain ⟨R, hR⟩ : ∃ R, oneC x cells long = R := ⟨_, rfl⟩
  rw [hR]
  unfold oneC at hR
  have HO := lets_ok x.kind
  obtain ⟨is, his⟩ : ∃ b, (lets x.kind).isSome = b := ⟨_, rfl⟩
  obtain ⟨s, hs⟩ : ∃ s, (lets x.kind).getD ⟨#[]⟩ = s := ⟨_, rfl⟩
  have HP : Hid (∀ w, Calls Try.prog 33 #[.int .i64 x.kind] w fun e w' => e = .returned (.tuple #[.string s, .bool is]) ∧ w' = w) := by
    intro w
    rw [← hs, ← his]; exact partsOf_any x.kind w
  rw [his, hs] at hR
  unfold oneS at hR
  rw [hs] at HO
  have HO' : Hid (okL s) := HO
  have HR : Hid _ := hR
  clear hR hs his HO
  rw [HI.out x]
  obtain ⟨bo, hbo⟩ : ∃ b, opOk x = b := ⟨_, rfl⟩
  obtain ⟨br, hbr⟩ : ∃ b, s.data.toList.all (regOk x) = b := ⟨_, rfl⟩
  obtain ⟨y, hy⟩ : ∃ y, keepL x s.data.toList = y := ⟨_, rfl⟩
  obtain ⟨be, hbe⟩ : ∃ b, inEq y x = b := ⟨_, rfl⟩
  obtain ⟨bd, hbd⟩ : ∃ b, (!hasL s 114 || withinB x.c (min cells 4)) = b := ⟨_, rfl⟩
  obtain ⟨bt, hbt⟩ : ∃ b, (!hasL s 108 || withinB x.k long) = b := ⟨_, rfl⟩
  rw [hbo, hbr, hy, hbe, hbd, hbt] at HR
  have C1 : Hid (∀ w, Calls Try.prog 34 #[iv x] w fun e w' => e = .returned (.bool bo) ∧ Below w.heap.size w w') := fun w => by rw [← hbo]; exact opFits_any x w
  have C2 : Hid (∀ w, Calls Try.prog 35 #[iv x, .string s] w fun e w' => e = .returned (.bool br) ∧ Below w.heap.size w w') := fun w => by rw [← hbr]; exact registersFit_any x s w HO'.out
  have C3 : Hid (∀ w, Calls Try.prog 36 #[iv x, .string s] w fun e w' => e = .returned (.agg #[.int .i64 y.kind, .int .i64 y.op, .int .i64 y.a, .int .i64 y.b, .int .i64 y.c, .int .i64 y.k]) ∧ Below w.heap.size w w') := fun w => by rw [← hy]; exact only_any x s w HO'.out
  have C4 : Hid (∀ w, Calls Try.prog 37 #[iv x, .string s, .int .i64 cells] w fun e w' => e = .returned (.bool bd) ∧ Below w.heap.size w w') := fun w => by rw [← hbd]; exact reductionFits_any x s cells w
  have C5 : Hid (∀ w, Calls Try.prog 38 #[iv x, .string s, .int .i64 long] w fun e w' => e = .returned (.bool bt) ∧ Below w.heap.size w w') := fun w => by rw [← hbt]; exact targetFits_any x s long w
  have HE : ∀ w, (binOp .neq 53 (.agg #[.int .i64 y.kind, .int .i64 y.op, .int .i64 y.a, .int .i64 y.b, .int .i64 y.c, .int .i64 y.k]) (.agg #[.int .i64 x.kind, .int .i64 x.op, .int .i64 x.a, .int .i64 x.b, .int .i64 x.c, .int .i64 x.k])).run Try.prog w = .ok (.bool (!be)) w := fun w => by rw [← hbe]; exact neq_in y x w
  have hg := guard25
  clear hbo hbr hy hbe hbd hbt
  go_enter Try.func20, Try.ntmps20
  go_wp2_with fail
  refine (HP.out _).mono ?_
  rintro e w' ⟨rfl, rfl⟩
  have S0 : Hid (Six _ w.heap.size x) := Six.new w x
  have B0 : Hid (Below w.heap.size w _) := (Below.refl _ _).alloc (Nat.le_refl _) (.cells #[.int .i64 x.kind, .int .i64 x.op, .int .i64 x.a, .int .i64 x.b, .int .i64 x.c, .int .i64 x.k] 53)
  cases is with
  | false =>
    go_wp2
    go_ret
    exact ⟨by rw [← HR.out]; rfl, B0.out⟩
  | true =>
  go_wp2_with fail
  refine (C1.out _).mono ?_
  rintro e w1 ⟨rfl, b1⟩
  have S1 : Hid (Six w1 w.heap.size x) := S0.out.block (b1.block _ S0.out.lt) b1.size
  have B1 : Hid (Below w.heap.size w w1) := B0.out.trans (b1.mono B0.out.size)
  clear b1 S0 B0
  obtain ⟨x0, x1, x2, x3, x4, x5, _⟩ := S1.out
  cases bo with
  | false =>
    go_wp2
    go_ret
    exact ⟨by rw [← HR.out]; rfl, B1.out⟩
  | true =>
  go_wp2_with fail
  refine (C2.out _).mono ?_
  rintro e w2 ⟨rfl, b2⟩
  have S2 : Hid (Six w2 w.heap.size x) := S1.out.block (b2.block _ S1.out.lt) b2.size
  have B2 : Hid (Below w.heap.size w w2) := B1.out.trans (b2.mono B1.out.size)
  clear b2 S1 B1 x0 x1 x2 x3 x4 x5
  obtain ⟨x0, x1, x2, x3, x4, x5, _⟩ := S2.out
  cases br with
  | false =>
    go_wp2
    go_ret
    exact ⟨by rw [← HR.out]; rfl, B2.out⟩
  | true =>
  go_wp2_with fail
  go_region_held3 (fun w' => w'.cell? ⟨w.heap.size, 0, none⟩ = some (.int .i64 x.kind) ∧ w'.cell? ⟨w.heap.size, 1, none⟩ = some (.int .i64 x.op) ∧ w'.cell? ⟨w.heap.size, 2, none⟩ = some (.int .i64 x.a) ∧ w'.cell? ⟨w.heap.size, 3, none⟩ = some (.int .i64 x.b) ∧ w'.cell? ⟨w.heap.size, 4, none⟩ = some (.int .i64 x.c) ∧ w'.cell? ⟨w.heap.size, 5, none⟩ = some (.int .i64 x.k)) (go_keep) (first | (go_at_call 36; refine (C3.out w2.drew).mono ?_; rintro e w3 ⟨rfl, b3⟩; have S3 : Hid (Six w3 w.heap.size x) := S2.out.drew.block (b3.block _ S2.out.drew.lt) b3.size; obtain ⟨z0, z1, z2, z3, z4, z5, _⟩ := S3.out))

  have B3 : Hid (Below w.heap.size w w3) := B2.out.drew.trans (b3.mono B2.out.drew.size)
  clear b3 S2 B2 x0 x1 x2 x3 x4 x5
  cases be with
  | false =>
    go_wp2
    go_ret
    exact ⟨by rw [← HR.out]; rfl, B3.out⟩
  | true =>
  go_wp2_with fail
  refine (C4.out _).mono ?_
  rintro e w4 ⟨rfl, b4⟩
  have S4 : Hid (Six w4 w.heap.size x) := S3.out.block (b4.block _ S3.out.lt) b4.size
  have B4 : Hid (Below w.heap.size w w4) := B3.out.trans (b4.mono B3.out.size)
  clear b4 S3 B3 z0 z1 z2 z3 z4 z5
  obtain ⟨x0, x1, x2, x3, x4, x5, _⟩ := S4.out
  cases bd with
  | false =>
    go_wp2
    go_ret
    exact ⟨by rw [← HR.out]; rfl, B4.out⟩
  | true =>
  go_wp2_with fail
  refine (C5.out _).mono ?_
  rintro e w5 ⟨rfl, b5⟩
  have B5 : Hid (Below w.heap.size w w5) := B4.out.trans (b5.mono B4.out.size)
  clear b5 S4 B4 x0 x1 x2 x3 x4 x5
  cases bt with
  | false =>
    go_wp2
    go_ret
    exact ⟨by rw [← HR.out]; rfl, B5.out⟩
  | true =>
    go_wp2
    go_ret
    exact ⟨by rw [← HR.out]; rfl, B5.out⟩
end Go.Proofs.Ytcaefimnhoeimaa
