/- What reader.instruction answers. -/
import Derived.Test.YthcidcfaodjbjabGreatDoorPush
import Derived.Test.YthcidcfaodjbjabGreatDoorWord
namespace Go.Proofs.YthcidcfaodjbjabGreatDoor
open Go.RowKit Go.Maps Go.WideMaps
set_option linter.unusedVariables false

/-- a slice of strings -/
def SSl (w : World) (v : Value) (l : List ByteArray) : Prop :=
  ∃ ad cap A o, v = .slice ad l.length cap ∧ l.length ≤ cap ∧ cap ≤ 100000 ∧ (0 < l.length → ad = some ⟨A, o, none⟩) ∧ ∀ i (h : i < l.length), w.cell? ⟨A, o + i, none⟩ = some (.string l[i]) ∧ l[i].size ≤ 100000
theorem SSl.below {w w' : World} {v : Value} {l : List ByteArray} (h : SSl w v l) (hb : Below w.heap.size w w') : SSl w' v l := by
  obtain ⟨ad, cap, A, o, h1, h2, h3, h4, h5⟩ := h
  exact ⟨ad, cap, A, o, h1, h2, h3, h4, fun i hi => ⟨(hb.cell (p := ⟨A, o + i, none⟩) (World.block_lt_of_cell? w ⟨A, o + i, none⟩ (h5 i hi).1)).trans (h5 i hi).1, (h5 i hi).2⟩⟩
/-- letters of parts -/
def isP (c : UInt8) : Prop := c = 97 ∨ c = 98 ∨ c = 99 ∨ c = 114 ∨ c = 107 ∨ c = 108
theorem isP_lt {c : UInt8} (h : isP c) : c.toNat < 128 := by rcases h with rfl | rfl | rfl | rfl | rfl | rfl <;> decide
theorem meanGo_parts (w : List UInt8) : ∀ (L : List Say), (∀ s ∈ L, ∀ c ∈ s.parts, isP c) → ∀ s, meanGo w L = some s → ∀ c ∈ s.parts, isP c
  | [], _, s, h => by cases h
  | a :: L, hL, s, h => by
    unfold meanGo at h
    split at h
    · cases h; exact hL a (by simp)
    · exact meanGo_parts w L (fun s hs => hL s (by simp [hs])) s h
set_option maxRecDepth 100000 in
theorem says_parts : ∀ s ∈ saysL, ∀ c ∈ s.parts, isP c := by
  unfold saysL isP
  decide
theorem mean_parts {w : List UInt8} {s : Say} (h : meanL w = some s) : ∀ c ∈ s.parts, isP c := meanGo_parts w saysL says_parts s h
/-- what an instruction's line becomes -/
def insR (st : Rs) (n : Int) : Option (In × List UInt8) → Lr
  | none => .err 90
  | some y => .ok ⟨st.code ++ [y.1], st.frm ++ [(n, y.2)], st.tab⟩
theorem insL_none (t : List UInt8) (ss : List (List UInt8)) (h : meanL t = none) : insL t ss = none := by unfold insL; rw [h]; rfl
theorem insL_long (t : List UInt8) (ss : List (List UInt8)) (s : Say) (h : meanL t = some s) (hl : ss.length ≠ s.parts.length) : insL t ss = none := by
  unfold insL; rw [h]
  show (if _ then _ else _) = none
  rw [if_neg hl]
theorem insL_some (t : List UInt8) (ss : List (List UInt8)) (s : Say) (h : meanL t = some s) (hl : ss.length = s.parts.length) : insL t ss = readAll (⟨s.kind, s.op, 0, 0, 0, 0⟩, []) s.parts ss := by
  unfold insL; rw [h]
  show (if _ then _ else _) = _
  rw [if_pos hl]
theorem readAll_next (x : In × List UInt8) (ps : List UInt8) (ss : List (List UInt8)) (k : Nat) (h1 : k < ps.length) (h2 : k < ss.length) : readAll x (ps.drop k) (ss.drop k) = (readL x ps[k] ss[k]).bind fun y => readAll y (ps.drop (k + 1)) (ss.drop (k + 1)) := by
  rw [List.drop_eq_getElem_cons h1, List.drop_eq_getElem_cons h2]; rfl
/-- what is so at each round's head -/
structure QI (w wr : World) (xb ob tb : Nat) (s : ByteArray) (n : Int) (y : In × List UInt8) (q : Nat) : Prop where
  it : wr.heap[tb]? = some (.stringIter s q)
  hx : Six wr xb y.1
  ho : OAt wr ob n y.2
  hb : Below w.heap.size w wr
theorem QI.pos {w wr : World} {xb ob tb q : Nat} {s : ByteArray} {n : Int} {y : In × List UInt8} (h : QI w wr xb ob tb s n y q) : wr.iterPos tb = q := by simp [World.iterPos, h.it]
theorem QI.next {w wr : World} {xb ob tb q : Nat} {s : ByteArray} {n : Int} {y : In × List UInt8} (h : QI w wr xb ob tb s n y q) (h1 : xb ≠ tb) (h2 : ob ≠ tb) (h3 : w.heap.size ≤ tb) (q' : Nat) : QI w (wr.iterAt tb s q') xb ob tb s n y q' := by
  have hs : wr.heap.size ≤ (wr.iterAt tb s q').heap.size := by rw [Lib.iterAt_size]; exact Nat.le_refl _
  exact ⟨Lib.iterAt_heap wr _ s q q' h.it, h.hx.block (Lib.iterAt_other wr _ _ s q' h1) hs, h.ho.block (Lib.iterAt_other wr _ _ s q' h2) hs, Lib.below_iterAt h.hb h3 s q'⟩
theorem QI.read {w wr w' : World} {xb ob tb q : Nat} {s : ByteArray} {n : Int} {y y' : In × List UInt8} (h : QI w wr xb ob tb s n y q) (h1 : xb ≠ tb) (h2 : ob ≠ tb) (h3 : w.heap.size ≤ xb) (h4 : w.heap.size ≤ ob) (hx : Six w' xb y'.1) (ho : OAt w' ob n y'.2) (ht : Two wr w' xb ob) : QI w w' xb ob tb s n y' q :=
  ⟨(ht.block tb (fun e => h1 e.symm) (fun e => h2 e.symm)).trans h.it, hx, ho, ⟨ht.os.trans h.hb.os, ht.tape.trans h.hb.tape, ht.output.trans h.hb.output, by rw [ht.size]; exact h.hb.size, fun k hk => (ht.block k (by omega) (by omega)).trans (h.hb.block k hk)⟩⟩
theorem Two.below {w wr w' : World} {xb ob : Nat} (h : Below w.heap.size w wr) (h3 : w.heap.size ≤ xb) (h4 : w.heap.size ≤ ob) (ht : Two wr w' xb ob) : Below w.heap.size w w' :=
  ⟨ht.os.trans h.os, ht.tape.trans h.tape, ht.output.trans h.output, by rw [ht.size]; exact h.size, fun k hk => (ht.block k (by omega) (by omega)).trans (h.block k hk)⟩
theorem OAt.new (w : World) (n : Int) : OAt (w.alloc (.cells #[.int .i64 n, .string ⟨#[]⟩] 78)) w.heap.size n [] := ⟨by simp, by simp, by simp, by simp⟩
theorem QI.start (w w1 : World) (hb : Below w.heap.size w w1) (S : Obj) (ps : ByteArray) (n k o : Int) :
    QI w ((((w1.alloc S).alloc (.cells #[.int .i64 k, .int .i64 o, .int .i64 0, .int .i64 0, .int .i64 0, .int .i64 0] 41)).alloc (.cells #[.int .i64 n, .string ⟨#[]⟩] 78)).iter ps 0) (w1.heap.size + 1) (w1.heap.size + 1 + 1) (w1.heap.size + 3) ps n (⟨k, o, 0, 0, 0, 0⟩, []) 0 := by
  have hsz := hb.size
  have e1 : (w1.alloc S).heap.size = w1.heap.size + 1 := by simp
  have e2 : ((w1.alloc S).alloc (.cells #[.int .i64 k, .int .i64 o, .int .i64 0, .int .i64 0, .int .i64 0, .int .i64 0] 41)).heap.size = w1.heap.size + 1 + 1 := by simp
  have h1 := Six.new (w1.alloc S) ⟨k, o, 0, 0, 0, 0⟩
  rw [e1] at h1
  refine ⟨?_, ((h1.alloc _).alloc _), ?_, ((((hb.alloc hb.size _).alloc (by simp; omega) _).alloc (by simp; omega) _).alloc (by simp; omega) _)⟩
  · have := World.iter_heap (((w1.alloc S).alloc (.cells #[.int .i64 k, .int .i64 o, .int .i64 0, .int .i64 0, .int .i64 0, .int .i64 0] 41)).alloc (.cells #[.int .i64 n, .string ⟨#[]⟩] 78)) ps 0
    simpa using this
  · have h2 := OAt.new ((w1.alloc S).alloc (.cells #[.int .i64 k, .int .i64 o, .int .i64 0, .int .i64 0, .int .i64 0, .int .i64 0] 41)) n
    rw [e2] at h2
    exact h2.block (Below.heap_alloc _ _ _ h2.lt) (by simp [World.iter])

/-- the cells of an instruction and of its line -/
def CS (W : World) (xb ob : Nat) (x : In) (n : Int) (l : List UInt8) : Prop :=
  (W.cell? ⟨xb, 0, none⟩ = some (.int .i64 x.kind) ∧ W.cell? ⟨xb, 1, none⟩ = some (.int .i64 x.op) ∧ W.cell? ⟨xb, 2, none⟩ = some (.int .i64 x.a) ∧ W.cell? ⟨xb, 3, none⟩ = some (.int .i64 x.b) ∧ W.cell? ⟨xb, 4, none⟩ = some (.int .i64 x.c) ∧ W.cell? ⟨xb, 5, none⟩ = some (.int .i64 x.k)) ∧ (W.cell? ⟨ob, 0, none⟩ = some (.int .i64 n) ∧ W.cell? ⟨ob, 1, none⟩ = some (.string ⟨l.toArray⟩))
theorem cs_of {W : World} {xb ob : Nat} {x : In} {n : Int} {l : List UInt8} (h : Six W xb x) (k : OAt W ob n l) : CS W xb ob x n l := ⟨⟨h.c0, h.c1, h.c2, h.c3, h.c4, h.c5⟩, ⟨k.c0, k.c1⟩⟩

/-- append, that no step looks into -/
def appH (ats : Array TypeId) (ty : TypeId) (args : Array Value) : Sem Value := Builtin.append_ ats ty args
@[local go_sem ↓] theorem app_hold (ats : Array TypeId) (ty : TypeId) (args : Array Value) : Builtin.append_ ats ty args = appH ats ty args := rfl

set_option maxRecDepth 100000 in
set_option maxHeartbeats 4000000 in
theorem instruction_any (rb mb base : Nat) (vc vf v : Value) (st : Rs) (n : Int) (t : ByteArray) (ss : List ByteArray) (w : World) (h : RSt w rb mb base vc vf st) (hv : SSl w v ss) (hc : st.code.length ≤ 100000) (hf : st.frm.length ≤ 100000) :
    Calls Tryz.prog 55 #[.pointer (some ⟨rb, 0, none⟩), .int .i64 n, .string t, v] w fun e w' => LrP rb mb base w e w' (insR st n (insL t.data.toList (ss.map (·.data.toList)))) := by
  have HW : Hid (RSt w rb mb base vc vf st) := h
  have HV : Hid (SSl w v ss) := hv
  have hbs := h.bs
  have HFR : Hid (∀ w', Below w.heap.size w w' → FR rb mb base w w') := fun w' hb => FR.of hb hbs
  obtain ⟨ad, cap, A, o, rfl, h2, h3, h4, h5⟩ := hv
  have H5 : Hid _ := h5
  obtain ⟨N, hN⟩ : ∃ N, ss.length = N := ⟨_, rfl⟩
  have HNN : Hid (ss.length = N) := hN
  rw [hN] at h2 h4 HV
  have HAD : Hid (0 < N → ad = some ⟨A, o, none⟩) := h4
  rw [hN]
  rcases hm : meanL t.data.toList with _ | sy
  · have HM : Hid (meanL t.data.toList = none) := hm
    rw [insL_none _ _ hm]
    show Calls Tryz.prog 55 _ w fun e w' => e = .returned (.int .i64 90) ∧ (90 == (0 : Int)) = false ∧ FR rb mb base w w'
    clear h h5 hN h4 hm
    go_enter Tryz.func55, Tryz.ntmps55
    go_wp2_with (go_at_call 73; refine (meaning_any t _).mono ?_; intro e w1 hp; rw [HM.out] at hp; obtain ⟨rfl, b1⟩ := hp; have HB1 : Hid (∀ o, Below w.heap.size w (w1.alloc o)) := (fun o => b1.alloc b1.size _); unfold sayV; clear b1)
    go_ret
    exact ⟨rfl, rfl, HFR.out _ (HB1.out _)⟩
  · have HM : Hid (meanL t.data.toList = some sy) := hm
    have HPT : Hid (∀ c ∈ sy.parts, isP c) := mean_parts hm
    obtain ⟨ps, hps⟩ : ∃ ps : ByteArray, ⟨sy.parts.toArray⟩ = ps := ⟨_, rfl⟩
    have HPS : Hid ((⟨sy.parts.toArray⟩ : ByteArray) = ps) := hps
    have HPL : Hid (ps.data.toList = sy.parts) := by show _ = _; rw [← hps]
    have hpsz : ps.size = sy.parts.length := by rw [← HPL.out]; simp
    have hsl : (ss.map (·.data.toList)).length = N := by rw [List.length_map, hN]
    by_cases hl : N = ps.size
    · have HL : Hid (insL t.data.toList (ss.map (·.data.toList)) = readAll (⟨sy.kind, sy.op, 0, 0, 0, 0⟩, []) sy.parts (ss.map (·.data.toList))) := insL_some _ _ _ hm (by rw [hsl, hl, hpsz])
      have hneq : ((N : Int) == (ps.size : Int)) = true := by rw [beq_iff_eq]; omega
      have HNP : Hid (N = ps.size) := hl
      obtain ⟨out, hout⟩ : ∃ o, insL t.data.toList (ss.map (·.data.toList)) = o := ⟨_, rfl⟩
      rw [hout]
      have HOUT : Hid (readAll (⟨sy.kind, sy.op, 0, 0, 0, 0⟩, []) sy.parts (ss.map (·.data.toList)) = out) := HL.out.symm.trans hout
      obtain ⟨post, hpost⟩ : ∃ p : Ending → World → Prop, p = fun e w' => LrP rb mb base w e w' (insR st n out) := ⟨_, rfl⟩
      have HPOST : Hid (post = fun e w' => LrP rb mb base w e w' (insR st n out)) := hpost
      rw [← hpost]
      clear h h5 hN h4 hm hps hpsz hsl hl HL hout hpost
      go_enter Tryz.func55, Tryz.ntmps55
      go_wp2_with (go_at_call 73; refine (meaning_any t _).mono ?_; intro e w1 hp; rw [HM.out] at hp; obtain ⟨rfl, b1⟩ := hp; have HB1 : Hid (Below w.heap.size w w1) := b1; unfold sayV; rw [HPS.out]; clear b1)
      have hq : w.heap.size ≤ w1.heap.size := HB1.out.size
      obtain ⟨H0, hH0⟩ : ∃ H0, w1.heap.size = H0 := ⟨_, rfl⟩
      have HSTART : Hid _ := QI.start w w1 HB1.out (.cells #[.int .i64 sy.kind, .int .i64 sy.op, .int .i64 0, .int .i64 0, .int .i64 0, .int .i64 0, .string ⟨sy.word.toArray⟩, .string ps] 85) ps n sy.kind sy.op
      rw [hH0] at HSTART hq
      have hbne : ((N : Int) != (ps.size : Int)) = false := by unfold bne; rw [hneq]; rfl
      simp only [hH0, hbne]
      go_loopw [] (fun wr => ∃ (pos : Nat) (y : In × List UInt8), pos ≤ ps.size ∧ Hid (QI w wr (H0 + 1) (H0 + 1 + 1) (H0 + 3) ps n y pos) ∧ Hid (readAll y (sy.parts.drop pos) ((ss.map (·.data.toList)).drop pos) = out)) (fun wr => ps.size - wr.iterPos (H0 + 3))
      case atStart => exact ⟨0, _, Nat.zero_le _, HSTART, HOUT⟩
      case round =>
        obtain ⟨pos, y, hps, HQ, HRA⟩ := hrel
        clear HSTART hH0
        by_cases hp : pos < ps.size
        · have hpp : pos < sy.parts.length := by rw [← HPL.out]; simpa using hp
          have hpn : pos < ss.length := by rw [HNN.out, HNP.out]; exact hp
          have hpN : pos < N := by rw [HNP.out]; exact hp
          have eget : ps[pos] = sy.parts[pos] := by
            have : ps[pos] = ps.data.toList[pos]'(by simpa using hp) := rfl
            rw [this]; congr 1
          have HL : Hid (isP ps[pos]) := by show isP _; rw [eget]; exact HPT.out _ (List.getElem_mem _)
          have hnx : ∀ ty, (Instr.next (.pointer (some ⟨H0 + 3, 0, none⟩)) true ty).run Tryz.prog wr = _ := fun ty => Lib.run_next_ascii_at wr (H0 + 3) ps pos ty HQ.out.it hp (isP_lt HL.out)
          have HQ2 : Hid _ := HQ.out.next (by omega) (by omega) (by omega) (pos + 1)
          obtain ⟨W2, hW2⟩ : ∃ W2, wr.iterAt (H0 + 3) ps (pos + 1) = W2 := ⟨_, rfl⟩
          rw [hW2] at hnx HQ2
          obtain ⟨q1, q2⟩ := H5.out pos hpn
          have hcell : W2.cell? ⟨A, o + pos, none⟩ = some (.string ss[pos]) := (HQ2.out.hb.cell (p := ⟨A, o + pos, none⟩) (World.block_lt_of_cell? w ⟨A, o + pos, none⟩ q1)).trans q1
          have HNX : Hid _ := (readAll_next y sy.parts (ss.map (·.data.toList)) pos hpp (by simpa using hpn)).symm.trans HRA.out
          obtain ⟨sp, hsp⟩ : ∃ sp, ss[pos] = sp := ⟨_, rfl⟩
          rw [List.getElem_map, ← eget, hsp] at HNX
          rw [hsp] at hcell q2
          obtain ⟨c, hc8⟩ : ∃ c, ps[pos] = c := ⟨_, rfl⟩
          rw [hc8] at HNX hnx HL
          have had : ad = some ⟨A, o, none⟩ := HAD.out (by omega)
          subst had
          have HQP : Hid (wr.iterPos (H0 + 3) = pos) := HQ.out.pos
          clear hW2 hsp hc8 eget q1 HRA HQ hpn hpp
          rcases hr : readL y c sp.data.toList with _ | y'
          · have HR : Hid (readL y c sp.data.toList = none) := hr
            have HO : Hid (out = none) := by have := HNX.out; rw [hr] at this; exact this.symm
            clear hr HNX
            go_wp2_with (go_at_call 74; refine (read_any y.1 y.2 n c HL.out sp (by unfold maxLen; omega) (H0 + 1) (H0 + 1 + 1) (by omega) W2 HQ2.out.hx HQ2.out.ho).mono ?_; intro e w3 hp3; rw [show readL (y.1, y.2) c sp.data.toList = none from HR.out] at hp3; obtain ⟨rfl, ht3⟩ := hp3; have HB3 : Hid (Below w.heap.size w w3) := Two.below HQ2.out.hb (by omega) (by omega) ht3; clear ht3)
            rw [HPOST.out, HO.out]
            exact ⟨rfl, rfl, HFR.out _ HB3.out⟩
          · have HR : Hid (readL y c sp.data.toList = some y') := hr
            have HO : Hid (readAll y' (sy.parts.drop (pos + 1)) ((ss.map (·.data.toList)).drop (pos + 1)) = out) := by have := HNX.out; rw [hr] at this; exact this
            clear hr HNX
            go_wp2_with (go_at_call 74; refine (read_any y.1 y.2 n c HL.out sp (by unfold maxLen; omega) (H0 + 1) (H0 + 1 + 1) (by omega) W2 HQ2.out.hx HQ2.out.ho).mono ?_; intro e w3 hp3; rw [show readL (y.1, y.2) c sp.data.toList = some y' from HR.out] at hp3; obtain ⟨rfl, hx3, ho3, ht3⟩ := hp3; have HQ3 : Hid (QI w w3 (H0 + 1) (H0 + 1 + 1) (H0 + 3) ps n y' (pos + 1)) := HQ2.out.read (by omega) (by omega) (by omega) (by omega) hx3 ho3 ht3; clear ht3 hx3 ho3)
            go_roundw
            case rel => exact ⟨pos + 1, y', hp, HQ3, HO⟩
            case measure => rw [HQ3.out.pos, HQP.out]; omega
        · have hnx : ∀ ty, (Instr.next (.pointer (some ⟨H0 + 3, 0, none⟩)) true ty).run Tryz.prog wr = _ := fun ty => Lib.run_next_end_at wr (H0 + 3) ps pos ty HQ.out.it hp
          obtain rfl : pos = ps.size := by omega
          have HO : Hid (out = some y) := by
            have := HRA.out
            rw [List.drop_eq_nil_of_le (by rw [← HPL.out]; simp)] at this
            exact this.symm
          clear HRA
          obtain ⟨x, l⟩ := y
          have HX : Hid (Six wr (H0 + 1) x) := HQ.out.hx
          have HOA : Hid (OAt wr (H0 + 1 + 1) n l) := HQ.out.ho
          have HRW : Hid (RSt wr rb mb base vc vf st) := HW.out.below HQ.out.hb
          have hbw := HQ.out.hb.size
          have HVC : Hid (∀ k, vc.ownBlock = some k → k < w.heap.size) := fun k hk => (own_lt HW.out.code k hk).2
          obtain ⟨X, hX⟩ : ∃ X : Obj, Obj.cells #[.int .i64 x.kind, .int .i64 x.op, .int .i64 x.a, .int .i64 x.b, .int .i64 x.c, .int .i64 x.k] 41 = X := ⟨_, rfl⟩
          obtain ⟨O, hO⟩ : ∃ O : Obj, Obj.cells #[.int .i64 n, .string ⟨l.toArray⟩] 78 = O := ⟨_, rfl⟩
          have KX : Hid (∀ W, Below wr.heap.size wr W → Six W (H0 + 1) x ∧ OAt W (H0 + 1 + 1) n l ∧ W.cell? ⟨rb, 0, none⟩ = some vc ∧ W.cell? ⟨rb, 1, none⟩ = some vf) := fun W hb => ⟨HX.out.block (hb.block _ HX.out.lt) hb.size, HOA.out.block (hb.block _ HOA.out.lt) hb.size, (HRW.out.below hb).c0, (HRW.out.below hb).c1⟩
          have b0 : Below wr.heap.size wr wr.drew := (Below.refl _ _).drew
          have bX : Below wr.heap.size wr (wr.alloc X).drew := ((Below.refl _ _).alloc (Nat.le_refl _) _).drew
          have bO : Below wr.heap.size wr (wr.alloc O).drew := ((Below.refl _ _).alloc (Nat.le_refl _) _).drew
          have bXO : Below wr.heap.size wr ((wr.alloc X).alloc O).drew := (((Below.refl _ _).alloc (Nat.le_refl _) _).alloc (by simp) _).drew
          have bOX : Below wr.heap.size wr ((wr.alloc O).alloc X).drew := (((Below.refl _ _).alloc (Nat.le_refl _) _).alloc (by simp) _).drew
          have gX1 : (wr.alloc X).drew.heap[wr.heap.size]? = some X := heap_alloc_new wr X
          have gX2 : ((wr.alloc X).alloc O).drew.heap[wr.heap.size]? = some X := (Below.heap_alloc _ _ _ (by simp)).trans (heap_alloc_new wr X)
          have gO2 : ((wr.alloc X).alloc O).drew.heap[wr.heap.size + 1]? = some O := by have := heap_alloc_new (wr.alloc X) O; rw [show (wr.alloc X).heap.size = wr.heap.size + 1 by simp] at this; exact this
          have gX3 : ((wr.alloc O).alloc X).drew.heap[wr.heap.size + 1]? = some X := by have := heap_alloc_new (wr.alloc O) X; rw [show (wr.alloc O).heap.size = wr.heap.size + 1 by simp] at this; exact this
          have gO3 : ((wr.alloc O).alloc X).drew.heap[wr.heap.size]? = some O := (Below.heap_alloc _ _ _ (by simp)).trans (heap_alloc_new wr O)
          have eX : X = .cells (ic x).toArray 41 (0, 0) := hX.symm
          have eO : O = .cells (oc (n, l)).toArray 78 (0, 0) := hO.symm
          have hlim : w.heap.size ≤ wr.heap.size := hbw
          obtain ⟨v1, U1, r1, M1, F1, B1, S1, gv1, cv1, rfl⟩ := mid_of (x := x) HRW.out bX (by rw [gX1, eX]) hc
          obtain ⟨v2, U2, r2, M2, F2, B2, S2, gv2, cv2, rfl⟩ := mid_of (x := x) HRW.out bXO (by rw [gX2, eX]) hc
          obtain ⟨v3, U3, r3, M3, F3, B3, S3, gv3, cv3, rfl⟩ := mid_of (x := x) HRW.out bOX (by rw [gX3, eX]) hc
          have hs1 : (wr.alloc X).drew.heap.size = wr.heap.size + 1 := by show (wr.alloc X).heap.size = _; simp
          have hs2 : ((wr.alloc X).alloc O).drew.heap.size = wr.heap.size + 1 + 1 := by show ((wr.alloc X).alloc O).heap.size = _; simp
          have hs3 : ((wr.alloc O).alloc X).drew.heap.size = wr.heap.size + 1 + 1 := by show ((wr.alloc O).alloc X).heap.size = _; simp
          have nvc : ∀ k, w.heap.size ≤ k → some k ≠ vc.ownBlock := fun k hk e => by have := HVC.out k e.symm; omega
          obtain ⟨f1, Z1, z1, ⟨p10, p11, p12, p13⟩, R1, G1, C1, T1, gf1, cf1, rfl⟩ := fin_of (o := (n, l)) M1 ((Below.refl _ _).alloc (Nat.le_refl _) O) ((heap_alloc_new U1 O).trans (by rw [eO])) hf
          obtain ⟨f2, Z2, z2, ⟨p20, p21, p22, p23⟩, R2, G2, C2, T2, gf2, cf2, rfl⟩ := fin_of (o := (n, l)) M2 (Below.refl _ _) ((B2 (wr.heap.size + 1) (by omega) (nvc _ (by omega))).trans (by rw [gO2, eO])) hf
          obtain ⟨f3, Z3, z3, ⟨p30, p31, p32, p33⟩, R3, G3, C3, T3, gf3, cf3, rfl⟩ := fin_of (o := (n, l)) M3 (Below.refl _ _) ((B3 wr.heap.size (by omega) (nvc _ (by omega))).trans (by rw [gO3, eO])) hf
          have c00 := (KX.out _ b0).2.2.1
          have c01 := (KX.out _ b0).2.2.2
          have c10 := (KX.out _ bX).2.2.1
          have c11 := (KX.out _ bX).2.2.2
          have c20 := (KX.out _ bO).2.2.1
          have c21 := (KX.out _ bO).2.2.2
          have c30 := (KX.out _ bXO).2.2.1
          have c31 := (KX.out _ bXO).2.2.2
          have c40 := (KX.out _ bOX).2.2.1
          have c41 := (KX.out _ bOX).2.2.2
          have OU1 : OAt U1 (H0 + 1 + 1) n l := (KX.out _ bX).2.1.block (B1 _ (by have := HOA.out.lt; omega) (nvc _ (by omega))) S1
          have nvf : ∀ k, w.heap.size ≤ k → some k ≠ vf.ownBlock := fun k hk e => by have := (own_lt HW.out.frm k e.symm).2; omega
          have hxl := HX.out.lt
          have hol := HOA.out.lt
          have XU1 : Six U1 (H0 + 1) x := (KX.out _ bX).1.block (B1 _ (by omega) (nvc _ (by omega))) S1
          have XU2 : Six U2 (H0 + 1) x := (KX.out _ bXO).1.block (B2 _ (by omega) (nvc _ (by omega))) S2
          have XU3 : Six U3 (H0 + 1) x := (KX.out _ bOX).1.block (B3 _ (by omega) (nvc _ (by omega))) S3
          have OU2 : OAt U2 (H0 + 1 + 1) n l := (KX.out _ bXO).2.1.block (B2 _ (by omega) (nvc _ (by omega))) S2
          have OU3 : OAt U3 (H0 + 1 + 1) n l := (KX.out _ bOX).2.1.block (B3 _ (by omega) (nvc _ (by omega))) S3
          have XV1 : Six (U1.alloc O) (H0 + 1) x := XU1.alloc O
          have OV1 : OAt (U1.alloc O) (H0 + 1 + 1) n l := OU1.block (Below.heap_alloc _ _ _ OU1.lt) (by simp)
          have XZ1 : Six Z1 (H0 + 1) x := XV1.block (C1 _ XV1.lt (nvf _ (by omega))) T1
          have XZ2 : Six Z2 (H0 + 1) x := XU2.block (C2 _ XU2.lt (nvf _ (by omega))) T2
          have XZ3 : Six Z3 (H0 + 1) x := XU3.block (C3 _ XU3.lt (nvf _ (by omega))) T3
          have OZ1 : OAt Z1 (H0 + 1 + 1) n l := OV1.block (C1 _ OV1.lt (nvf _ (by omega))) T1
          have OZ2 : OAt Z2 (H0 + 1 + 1) n l := OU2.block (C2 _ OU2.lt (nvf _ (by omega))) T2
          have OZ3 : OAt Z3 (H0 + 1 + 1) n l := OU3.block (C3 _ OU3.lt (nvf _ (by omega))) T3
          have hrbb := HW.out.rlt
          have d11 := M1.c1
          have d21 := M2.c1
          have d31 := M3.c1
          have d12 : (U1.alloc O).cell? ⟨rb, 1, none⟩ = some vf := ((Below.refl _ U1).alloc (Nat.le_refl _) O).cell (p := ⟨rb, 1, none⟩) (World.block_lt_of_cell? U1 ⟨rb, 1, none⟩ d11) |>.trans d11
          have HFIN : Hid (∀ W, (W = (Z1.setCell ⟨rb, 0, none⟩ (.slice (some ⟨gv1, 0, none⟩) (st.code.length + 1) cv1)).setCell ⟨rb, 1, none⟩ (.slice (some ⟨gf1, 0, none⟩) (st.frm.length + 1) cf1) ∨ W = (Z2.setCell ⟨rb, 0, none⟩ (.slice (some ⟨gv2, 0, none⟩) (st.code.length + 1) cv2)).setCell ⟨rb, 1, none⟩ (.slice (some ⟨gf2, 0, none⟩) (st.frm.length + 1) cf2) ∨ W = (Z3.setCell ⟨rb, 0, none⟩ (.slice (some ⟨gv3, 0, none⟩) (st.code.length + 1) cv3)).setCell ⟨rb, 1, none⟩ (.slice (some ⟨gf3, 0, none⟩) (st.frm.length + 1) cf3)) → LrP rb mb base w (.returned (.int .i64 0)) W (insR st n (some (x, l)))) := by
            rintro W (rfl | rfl | rfl)
            · exact ⟨rfl, _, _, R1, (HFR.out _ HQ.out.hb).trans (F1.trans G1)⟩
            · exact ⟨rfl, _, _, R2, (HFR.out _ HQ.out.hb).trans (F2.trans G2)⟩
            · exact ⟨rfl, _, _, R3, (HFR.out _ HQ.out.hb).trans (F3.trans G3)⟩
          have E0 := cs_of (KX.out _ b0).1 (KX.out _ b0).2.1
          have EX := cs_of (KX.out _ bX).1 (KX.out _ bX).2.1
          have EO := cs_of (KX.out _ bO).1 (KX.out _ bO).2.1
          have EXO := cs_of (KX.out _ bXO).1 (KX.out _ bXO).2.1
          have EOX := cs_of (KX.out _ bOX).1 (KX.out _ bOX).2.1
          have EU1 := cs_of XU1 OU1
          have EU2 := cs_of XU2 OU2
          have EU3 := cs_of XU3 OU3
          have EV1 := cs_of XV1 OV1
          have EZ1 := cs_of XZ1 OZ1
          have EZ2 := cs_of XZ2 OZ2
          have EZ3 := cs_of XZ3 OZ3
          have KS1 : Hid (∀ i v, CS (Z1.setCell ⟨rb, i, none⟩ v) (H0 + 1) (H0 + 1 + 1) x n l) := fun i v => cs_of (XZ1.setO (by omega) _) (OZ1.setX (by omega) _)
          have KS2 : Hid (∀ i v, CS (Z2.setCell ⟨rb, i, none⟩ v) (H0 + 1) (H0 + 1 + 1) x n l) := fun i v => cs_of (XZ2.setO (by omega) _) (OZ2.setX (by omega) _)
          have KS3 : Hid (∀ i v, CS (Z3.setCell ⟨rb, i, none⟩ v) (H0 + 1) (H0 + 1 + 1) x n l) := fun i v => cs_of (XZ3.setO (by omega) _) (OZ3.setX (by omega) _)
          have KT1 : Hid (∀ i v i' v', CS ((Z1.setCell ⟨rb, i, none⟩ v).setCell ⟨rb, i', none⟩ v') (H0 + 1) (H0 + 1 + 1) x n l) := fun i v i' v' => cs_of ((XZ1.setO (by omega) _).setO (by omega) _) ((OZ1.setX (by omega) _).setX (by omega) _)
          have KT2 : Hid (∀ i v i' v', CS ((Z2.setCell ⟨rb, i, none⟩ v).setCell ⟨rb, i', none⟩ v') (H0 + 1) (H0 + 1 + 1) x n l) := fun i v i' v' => cs_of ((XZ2.setO (by omega) _).setO (by omega) _) ((OZ2.setX (by omega) _).setX (by omega) _)
          have KT3 : Hid (∀ i v i' v', CS ((Z3.setCell ⟨rb, i, none⟩ v).setCell ⟨rb, i', none⟩ v') (H0 + 1) (H0 + 1 + 1) x n l) := fun i v i' v' => cs_of ((XZ3.setO (by omega) _).setO (by omega) _) ((OZ3.setX (by omega) _).setX (by omega) _)
          unfold CS at E0 EX EO EXO EOX EU1 EU2 EU3 EV1 EZ1 EZ2 EZ3
          clear C1 C2 C3 T1 T2 T3
          clear XU1 XU2 XU3 OU1 OU2 OU3 XV1 OV1 XZ1 XZ2 XZ3 OZ1 OZ2 OZ3 nvc nvf hxl hol
          clear b0 bX bO bXO bOX gX1 gX2 gO2 gX3 gO3 eX eO M1 M2 M3 F1 F2 F3 B1 B2 B3 S1 S2 S3 hs1 hs2 hs3 R1 R2 R3 G1 G2 G3
          subst hX hO
          go_wp2_with fail
          clear HFR HQ HRW KX
          have s1 : (appH #[22, 22] 22 #[vc, .slice (some ⟨wr.heap.size, 0, none⟩) 1 1]).run Tryz.prog _ = _ := r1
          have s2 : (appH #[22, 22] 22 #[vc, .slice (some ⟨wr.heap.size, 0, none⟩) 1 1]).run Tryz.prog _ = _ := r2
          have s3 : (appH #[22, 22] 22 #[vc, .slice (some ⟨wr.heap.size + 1, 0, none⟩) 1 1]).run Tryz.prog _ = _ := r3
          have t1 : (appH #[73, 73] 73 #[vf, .slice (some ⟨U1.heap.size, 0, none⟩) 1 1]).run Tryz.prog _ = _ := z1
          have t2 : (appH #[73, 73] 73 #[vf, .slice (some ⟨wr.heap.size + 1, 0, none⟩) 1 1]).run Tryz.prog _ = _ := z2
          have t3 : (appH #[73, 73] 73 #[vf, .slice (some ⟨wr.heap.size, 0, none⟩) 1 1]).run Tryz.prog _ = _ := z3
          clear r1 r2 r3 z1 z2 z3
          obtain ⟨⟨e00, e01, e02, e03, e04, e05⟩, e06, e07⟩ := E0
          obtain ⟨_, eX6, eX7⟩ := EX
          obtain ⟨⟨eO0, eO1, eO2, eO3, eO4, eO5⟩, _⟩ := EO
          obtain ⟨_, eU6, eU7⟩ := EU1
          clear EXO EOX EU2 EU3 EV1 EZ1 EZ2 EZ3 KS1 KS2 KS3 KT1 KT2 KT3
          go_region
          all_goals
            go_wp2
            rw [HPOST.out, HO.out]
            exact HFIN.out _ (by first | exact Or.inl rfl | exact Or.inr (Or.inl rfl) | exact Or.inr (Or.inr rfl))
    · have HL : Hid (insL t.data.toList (ss.map (·.data.toList)) = none) := insL_long _ _ _ hm (by rw [hsl, ← hpsz]; exact hl)
      rw [HL.out]
      have hneq : ((N : Int) == (ps.size : Int)) = false := by rw [beq_eq_false_iff_ne]; omega
      show Calls Tryz.prog 55 _ w fun e w' => e = .returned (.int .i64 90) ∧ (90 == (0 : Int)) = false ∧ FR rb mb base w w'
      clear h h5 hN h4 hm hps hpsz hsl hl
      go_enter Tryz.func55, Tryz.ntmps55
      go_wp2_with (go_at_call 73; refine (meaning_any t _).mono ?_; intro e w1 hp; rw [HM.out] at hp; obtain ⟨rfl, b1⟩ := hp; have HB1 : Hid (∀ o, Below w.heap.size w (w1.alloc o)) := (fun o => b1.alloc b1.size _); unfold sayV; rw [HPS.out]; clear b1)
      go_ret
      exact ⟨rfl, rfl, HFR.out _ (HB1.out _)⟩
end Go.Proofs.YthcidcfaodjbjabGreatDoor
