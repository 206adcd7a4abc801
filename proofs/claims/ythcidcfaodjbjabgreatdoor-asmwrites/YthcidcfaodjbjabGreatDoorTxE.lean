/- asm.Text. -/
import Derived.Test.YthcidcfaodjbjabGreatDoorTxD
namespace Go.Proofs.YthcidcfaodjbjabGreatDoor
open Go.RowKit Go.Maps
set_option linter.unusedVariables false
theorem own_shape {w : World} {B : Nat} {e : TypeId} {v : Value} {n : Nat} {xs : List Value} (h : w.ownsRow B e 1 v n xs) (hn : 0 < n) : ∃ g cap, v = .slice (some ⟨g, 0, none⟩) n cap ∧ n ≤ cap ∧ cap ≤ maxLen := by
  rcases h.2 with ⟨_, h0⟩ | ⟨g, cap, cur, hv, hg, hh, r1, r2, _⟩
  · omega
  · exact ⟨g, cap, hv, r1, r2⟩

theorem write_any (B : Nat) (bs s : List UInt8) (S : ByteArray) (W : World) (hS : S = ⟨s.toArray⟩) (hlen : bs.length + s.length ≤ 200000) (hI : Lib.IsBuilderF 37 5 B B (Lib.byteCells bs) W) : Calls Tryz.prog 9 #[.pointer (some ⟨B, 0, none⟩), .string S] W fun e w' => ∃ n : Int, e = .returned (.tuple #[.int .i64 n, .nilIface]) ∧ Lib.IsBuilderF 37 5 B B (Lib.byteCells (bs ++ s)) w' ∧ Below B W w' ∧ Lib.OthersKept 5 (some B) W w' := by
  have hB : B < W.heap.size := by rcases hI with h | h <;> exact h.lt
  subst hS
  have hz : (⟨s.toArray⟩ : ByteArray).size = s.length := by simp [ByteArray.size]
  refine (Tryz.Builder_WriteString_k B B (Lib.byteCells bs) ⟨s.toArray⟩ W hI (by rw [Lib.byteCells_length, hz]; omega) (Nat.le_of_lt hB)).mono ?_
  rintro e w' ⟨rfl, h1, h2, h3⟩
  rw [strCells_two] at h1
  exact ⟨_, rfl, Or.inr h1, h2, h3⟩

set_option maxRecDepth 100000 in
set_option maxHeartbeats 4000000 in
theorem asmText_any (l : List In) (cells : Int) (v : Value) (w : World) (hW : ∀ x ∈ l, InW x) (hv : ISl w v l) : Calls Tryz.prog 4 #[v, .int .i64 cells] w fun e w' => e = .returned (.tuple #[.string ⟨(textA l cells).1.toArray⟩, .int .i64 (textA l cells).2]) ∧ Below w.heap.size w w' := by
  have C25 : Hid (Calls Tryz.prog 7 #[v, .int .i64 cells] w fun e w' => e = .returned (.tuple #[.int .i64 (checkL l cells).1, .int .i64 (checkL l cells).2]) ∧ Below w.heap.size w w') := check_any l cells v w hv
  have HV : Hid (ISl w v l) := hv
  have HWW : Hid (∀ x ∈ l, InW x) := hW
  obtain ⟨ad, cap, b, o, rfl, h2, h3, h4, h5⟩ := hv
  by_cases hc : (checkL l cells).2 = 0
  · obtain ⟨hl, _, hk⟩ := chk_tgt hc
    obtain rfl := h4 hl.1
    obtain ⟨T, hT⟩ : ∃ T, textN l l.length = T := ⟨_, rfl⟩
    have hTl : T.length ≤ 80000 := by rw [← hT]; have := textN_len l l.length; omega
    have C31 : Hid (∀ W, ISl W (.slice (some ⟨b, o, none⟩) l.length cap) l → Calls Tryz.prog 8 #[.slice (some ⟨b, o, none⟩) l.length cap] W (TgP l W)) := fun W h => targets_any l _ ⟨hl.1, by omega⟩ hk W h
    have H5 : Hid (∀ i (h : i < l.length), IAt w b (o + i * 6) l[i]) := h5
    unfold textA
    rw [if_pos hc, hT]
    obtain ⟨R, hR⟩ : ∃ R, (if 8192 < T.length then (([] : List UInt8), (30 : Int)) else (T, 0)) = R := ⟨_, rfl⟩
    have HR : Hid ((if 8192 < T.length then (([] : List UInt8), (30 : Int)) else (T, 0)) = R) := hR
    rw [hR]
    clear hR
    rw [hc] at C25
    unfold TgP at C31
    obtain ⟨N, hN⟩ : ∃ N, l.length = N := ⟨_, rfl⟩
    have HN : Hid (l.length = N) := hN
    have HT : Hid (textN l N = T) := by rw [← hN]; exact hT
    rw [hN] at hl h2 C31 C25 HV
    rw [hN]
    unfold maxLen at h3
    clear hN h5 h4 hk hW hT hc
    generalize (checkL l cells).1 = c1 at C25
    go_enter Tryz.func4, Tryz.ntmps4
    go_upto_region 5 with (first | (go_at_call 7; refine C25.out.mono ?_; rintro e w1 ⟨rfl, hb1⟩; have HB1 : Hid (Below w.heap.size w w1) := hb1; clear hb1) | (go_at_call 8; refine (C31.out _ (HV.out.below HB1.out)).mono ?_; rintro e w2 ⟨va, rfl, ho2, hb2⟩; have HO2 : Hid (w2.ownsRow w1.heap.size 4 1 va N (aimsT l N)) := ho2; have HB2 : Hid (Below w1.heap.size w1 w2) := hb2; clear ho2 hb2))
    obtain ⟨g, gc, rfl, hgc, hgm⟩ := own_shape HO2.out hl.1
    unfold maxLen at hgm
    have hgl : g < w2.heap.size := (HO2.out.lt g rfl).2
    have HBW : Hid (Below w.heap.size w w2) := HB1.out.trans (HB2.out.mono HB1.out.size)
    clear HB1 HB2 C25 C31
    have HI0 : Hid (Lib.IsBuilderF 37 5 w2.heap.size w2.heap.size (Lib.byteCells (textN l 0)) (w2.alloc (.cells #[.pointer none, .slice none 0 0] 37))) := Lib.IsBuilderF.of (Lib.fresh_isBuilder 37 5 w2)
    have HB0 : Hid (Below w2.heap.size w2 (w2.alloc (.cells #[.pointer none, .slice none 0 0] 37))) := (Below.refl _ _).alloc (Nat.le_refl _) _
    go_wp2_with fail
    go_loopw [25] (fun i wr => ∃ k : Nat, k ≤ N ∧ i = .int .i64 k ∧ Lib.IsBuilderF 37 5 w2.heap.size w2.heap.size (Lib.byteCells (textN l k)) wr ∧ Below w2.heap.size w2 wr) (fun i _ => N - (intOf i).toNat)
    case atStart => exact ⟨0, Nat.zero_le _, rfl, HI0.out, HB0.out⟩
    case round =>
      obtain ⟨k, hk, rfl, hI, hb⟩ := hrel
      have HI : Hid (Lib.IsBuilderF 37 5 w2.heap.size w2.heap.size (Lib.byteCells (textN l k)) wr) := hI
      have HB : Hid (Below w2.heap.size w2 wr) := hb
      clear hI hb HI0 HB0
      have hB2 : w2.heap.size < wr.heap.size := by rcases HI.out with h | h <;> exact h.lt
      by_cases hlt : k < N
      · have e1 : decide ((k : Int) < (N : Int)) = true := by simp; omega
        have hkl : k < l.length := by rw [HN.out]; exact hlt
        obtain ⟨x, hx⟩ : ∃ x, l[k] = x := ⟨_, rfl⟩
        have HTS : Hid (textN l (k + 1) = textN l k ++ lineT l k x) := by rw [← hx]; exact textN_succ l k hkl
        have hxm : x ∈ l := by rw [← hx]; exact List.getElem_mem _
        have hia : IAt wr b (o + k * 6) x := by
          have := H5.out k hkl
          rw [hx] at this
          have h2 := this.block (HBW.out.block b this.lt)
          exact h2.block (HB.out.block b h2.lt)
        obtain ⟨i1, i2, i3, i4, i5, i6⟩ := hia
        obtain ⟨⟨u, hu1, hu2⟩, huf⟩ := own_at HO2.out hlt
        rw [aims_at hlt] at hu2
        injection hu2 with hu2
        subst hu2
        have hgr : g < wr.heap.size := Nat.lt_trans hgl hB2
        have hua : ∀ A, (wr.alloc A).cell? ⟨g, k, none⟩ = some (.bool (aimT l k)) := fun A => ((Below.refl wr.heap.size wr).alloc (Nat.le_refl _) A |>.cell (p := ⟨g, k, none⟩) hgr).trans ((HB.out.cell (p := ⟨g, k, none⟩) hgl).trans hu1)
        obtain ⟨am, ham⟩ : ∃ am, aimT l k = am := ⟨_, rfl⟩
        have HX : Hid (Six _ wr.heap.size x) := Six.new wr x
        obtain ⟨S, hS⟩ : ∃ S : ByteArray, ⟨(listT x).toArray⟩ = S := ⟨_, rfl⟩
        have C34 : Hid (∀ W, Calls Tryz.prog 11 #[.agg #[.int .i64 x.kind, .int .i64 x.op, .int .i64 x.a, .int .i64 x.b, .int .i64 x.c, .int .i64 x.k]] W fun e w' => e = .returned (.string S) ∧ Below W.heap.size W w') := fun W => by rw [← hS]; exact listed_any x (HWW.out x hxm) W
        have hSs : S.size ≤ 96 := by rw [← hS]; exact list_len2 x
        have HSL : Hid ((S ++ ⟨#[10]⟩ : ByteArray) = ⟨(listT x ++ [10]).toArray⟩) := by rw [← hS]; exact str_snoc _ _
        have hTk : (textN l k).length ≤ 80000 := by have := textN_len l k; omega
        rw [ham] at hua
        clear hS hx hu1 huf
        have HIA : Hid (Lib.IsBuilderF 37 5 w2.heap.size w2.heap.size (Lib.byteCells (textN l k)) (wr.alloc (.cells #[.int .i64 x.kind, .int .i64 x.op, .int .i64 x.a, .int .i64 x.b, .int .i64 x.c, .int .i64 x.k] 41))) := IsBuilderF_below HI.out ((Below.refl _ _).alloc (Nat.le_refl _) _)
        have HBA : Hid (Below w2.heap.size w2 (wr.alloc (.cells #[.int .i64 x.kind, .int .i64 x.op, .int .i64 x.a, .int .i64 x.b, .int .i64 x.c, .int .i64 x.k] 41))) := HB.out.trans ((Below.refl _ _).alloc (Nat.le_of_lt hB2) _)
        have HXA : Hid ((wr.alloc (.cells #[.int .i64 x.kind, .int .i64 x.op, .int .i64 x.a, .int .i64 x.b, .int .i64 x.c, .int .i64 x.k] 41)).heap[wr.heap.size]? = some (.cells #[.int .i64 x.kind, .int .i64 x.op, .int .i64 x.a, .int .i64 x.b, .int .i64 x.c, .int .i64 x.k] 41)) := heap_alloc_new wr _
        have hll := list_len2 x
        cases am with
        | false =>
          have HLT : Hid (lineT l k x = listT x ++ [10]) := by unfold lineT; rw [ham]; rfl
          clear ham HI HB
          go_wp2_with (first | (go_at_call 11; refine (C34.out _).mono ?_; rintro e w5 ⟨rfl, hb5⟩; have HI5 : Hid (Lib.IsBuilderF 37 5 w2.heap.size w2.heap.size (Lib.byteCells (textN l k)) w5) := IsBuilderF_below HIA.out hb5; have HB5 : Hid (Below w2.heap.size w2 w5) := HBA.out.trans (hb5.mono HBA.out.size); clear hb5) | (go_at_call 9; refine (write_any w2.heap.size (textN l k) (listT x ++ [10]) _ _ HSL.out (by simp; omega) HI5.out).mono ?_; rintro e w6 ⟨n6, rfl, hI6, hb6, _⟩; have HI6 : Hid (Lib.IsBuilderF 37 5 w2.heap.size w2.heap.size (Lib.byteCells (textN l (k + 1))) w6) := (by rw [HTS.out, HLT.out]; exact hI6); have HB6 : Hid (Below w2.heap.size w2 w6) := HB5.out.trans hb6; clear hI6 hb6))
          go_roundw
          case rel => exact ⟨k + 1, by omega, by go_num, HI6.out, HB6.out⟩
          case measure => simp [intOf]; omega
        | true =>
          have HLT : Hid (lineT l k x = (labelT k ++ [58, 10]) ++ (listT x ++ [10])) := by unfold lineT; rw [ham]; rfl
          obtain ⟨S0, hS0⟩ : ∃ S : ByteArray, ⟨(labelT k).toArray⟩ = S := ⟨_, rfl⟩
          have C33 : Hid (∀ W, Calls Tryz.prog 10 #[.int .i64 k] W fun e w' => e = .returned (.string S0) ∧ Below W.heap.size W w') := fun W => by rw [← hS0]; exact labelOf_any k (by omega) (by omega) W
          have hS0s : S0.size ≤ 23 := by rw [← hS0]; exact label_len k
          have HS0 : Hid ((S0 ++ ⟨#[58]⟩ ++ ⟨#[10]⟩ : ByteArray) = ⟨(labelT k ++ [58, 10]).toArray⟩) := by
            show _ = _
            rw [← hS0, str_snoc, str_snoc, List.append_assoc]
            rfl
          have hlb := label_len k
          clear ham HI HB hS0
          go_upto_region 11 with (first | (go_at_call 10; refine (C33.out _).mono ?_; rintro e w3 ⟨rfl, hb3⟩; have HI3 : Hid (Lib.IsBuilderF 37 5 w2.heap.size w2.heap.size (Lib.byteCells (textN l k)) w3) := IsBuilderF_below HIA.out hb3; have HB3 : Hid (Below w2.heap.size w2 w3) := HBA.out.trans (hb3.mono HBA.out.size); have HX3 : Hid (w3.heap[wr.heap.size]? = some (.cells #[.int .i64 x.kind, .int .i64 x.op, .int .i64 x.a, .int .i64 x.b, .int .i64 x.c, .int .i64 x.k] 41)) := (hb3.block wr.heap.size (by simp)).trans HXA.out; clear hb3) | (go_at_call 9; refine (write_any w2.heap.size (textN l k) (labelT k ++ [58, 10]) _ _ HS0.out (by simp; omega) HI3.out).mono ?_; rintro e w4 ⟨n4, rfl, hI4, hb4, ho4⟩; have HI4 : Hid (Lib.IsBuilderF 37 5 w2.heap.size w2.heap.size (Lib.byteCells (textN l k ++ (labelT k ++ [58, 10]))) w4) := hI4; have HB4 : Hid (Below w2.heap.size w2 w4) := HB3.out.trans hb4; have HX4 : Hid (w4.heap[wr.heap.size]? = some (.cells #[.int .i64 x.kind, .int .i64 x.op, .int .i64 x.a, .int .i64 x.b, .int .i64 x.c, .int .i64 x.k] 41)) := ho4 _ _ HX3.out (fun e => by injection e with e; omega) (fun c fz e => by cases e); clear hI4 hb4 ho4))
          have hx4 := HX4.out
          have y0 : w4.cell? ⟨wr.heap.size, 0, none⟩ = some (.int .i64 x.kind) := (cell_of_row _ _ 0 _ _ _ hx4).trans rfl
          have y1 : w4.cell? ⟨wr.heap.size, 1, none⟩ = some (.int .i64 x.op) := (cell_of_row _ _ 1 _ _ _ hx4).trans rfl
          have y2 : w4.cell? ⟨wr.heap.size, 2, none⟩ = some (.int .i64 x.a) := (cell_of_row _ _ 2 _ _ _ hx4).trans rfl
          have y3 : w4.cell? ⟨wr.heap.size, 3, none⟩ = some (.int .i64 x.b) := (cell_of_row _ _ 3 _ _ _ hx4).trans rfl
          have y4 : w4.cell? ⟨wr.heap.size, 4, none⟩ = some (.int .i64 x.c) := (cell_of_row _ _ 4 _ _ _ hx4).trans rfl
          have y5 : w4.cell? ⟨wr.heap.size, 5, none⟩ = some (.int .i64 x.k) := (cell_of_row _ _ 5 _ _ _ hx4).trans rfl
          clear hx4 HX4 HX3 HB3 HI3 HIA HBA HXA
          go_wp2_with (first | (go_at_call 11; refine (C34.out _).mono ?_; rintro e w5 ⟨rfl, hb5⟩; have HI5 : Hid (Lib.IsBuilderF 37 5 w2.heap.size w2.heap.size (Lib.byteCells (textN l k ++ (labelT k ++ [58, 10]))) w5) := IsBuilderF_below HI4.out hb5; have HB5 : Hid (Below w2.heap.size w2 w5) := HB4.out.trans (hb5.mono HB4.out.size); clear hb5) | (go_at_call 9; refine (write_any w2.heap.size (textN l k ++ (labelT k ++ [58, 10])) (listT x ++ [10]) _ _ HSL.out (by simp; omega) HI5.out).mono ?_; rintro e w6 ⟨n6, rfl, hI6, hb6, _⟩; have HI6 : Hid (Lib.IsBuilderF 37 5 w2.heap.size w2.heap.size (Lib.byteCells (textN l (k + 1))) w6) := (by rw [HTS.out, HLT.out, ← List.append_assoc]; exact hI6); have HB6 : Hid (Below w2.heap.size w2 w6) := HB5.out.trans hb6; clear hI6 hb6))
          go_roundw
          case rel => exact ⟨k + 1, by omega, by go_num, HI6.out, HB6.out⟩
          case measure => simp [intOf]; omega
      · have e1 : decide ((k : Int) < (N : Int)) = false := by simp; omega
        obtain rfl : k = N := by omega
        rw [HT.out] at HI
        have HI2 : Hid (∀ W, Lib.IsBuilderF 37 5 w2.heap.size w2.heap.size (Lib.byteCells T) W → Calls Tryz.prog 12 #[.pointer (some ⟨w2.heap.size, 0, none⟩)] W fun e w' => e = .returned (.int .i64 T.length) ∧ w' = W) := fun W h => by
          have := Tryz.Builder_Len_f w2.heap.size w2.heap.size _ W h
          rw [Lib.byteCells_length] at this
          exact this
        have HBF : Hid (Below w.heap.size w wr) := HBW.out.trans (HB.out.mono HBW.out.size)
        by_cases hlong : 8192 < T.length
        · have HR2 : Hid (R = (([] : List UInt8), (30 : Int))) := by rw [← HR.out]; exact if_pos hlong
          have e2 : decide ((8192 : Int) < (T.length : Int)) = true := by simp; omega
          go_wp2_with (first | (go_at_call 12; refine (HI2.out _ HI.out).mono ?_; rintro e w3 ⟨rfl, hw3⟩; rw [hw3]; clear hw3))
          go_ret2
          exact ⟨by rw [HR2.out]; rfl, HBF.out⟩
        · have HR2 : Hid (R = (T, (0 : Int))) := by rw [← HR.out]; exact if_neg hlong
          have e2 : decide ((8192 : Int) < (T.length : Int)) = false := by simp; omega
          go_wp2_with (first | (go_at_call 12; refine (HI2.out _ HI.out).mono ?_; rintro e w3 ⟨rfl, hw3⟩; rw [hw3]; clear hw3) | (go_at_call 13; refine (Tryz.Builder_String_any_f w2.heap.size w2.heap.size T _ HI.out (Nat.le_of_lt hB2)).mono ?_; rintro e w4 ⟨rfl, hb4⟩; have HB4 : Hid (Below w2.heap.size wr w4) := hb4; clear hb4))
          go_ret2
          exact ⟨by rw [HR2.out]; rfl, HBF.out.trans (HB4.out.mono HBW.out.size)⟩
  · unfold textA
    rw [if_neg hc]
    generalize (checkL l cells).1 = c1 at C25
    generalize (checkL l cells).2 = c2 at C25 hc ⊢
    clear h2 h3 h4 h5 HV HWW
    go_enter Tryz.func4, Tryz.ntmps4
    go_wp2_with (first | (go_at_call 7; refine C25.out.mono ?_; rintro e w1 ⟨rfl, hb1⟩))
    go_ret2
    exact ⟨rfl, hb1⟩
end Go.Proofs.YthcidcfaodjbjabGreatDoor
