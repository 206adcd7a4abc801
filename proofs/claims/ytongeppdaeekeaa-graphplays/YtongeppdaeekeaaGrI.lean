/- slices.DeleteFunc of an age's edges; Remove. -/
import Derived.Test.YtongeppdaeekeaaGrH
namespace Go.Proofs.Ytongeppdaeekeaa
open Go.RowKit Go.Maps
set_option linter.unusedVariables false

def remS (E : Ed) (age : Int) : Ed := E.filter (fun z => !isA age z)
def DelQ (w : World) (sv : Value) (E' : Ed) (e : Ending) (w' : World) : Prop := ∃ v', e = .returned v' ∧ RZ kE w' v' E' ∧ Ch (fun k => sv.ownBlock = some k) w w' ∧ v'.ownBlock = sv.ownBlock
theorem RZ.cell2 {α : Type} {K : RK α} {w : World} {g n c i : Nat} {l : List α} (h : RZ K w (.slice (some ⟨g, 0, none⟩) n c) l) (hi : i < l.length) : (∀ j, j < K.k → w.cell? ⟨g, i * K.k + j, none⟩ = (K.cl l[i])[j]?) ∧ ∀ j, w.frozen? ⟨g, j, none⟩ = false := by
  obtain ⟨g', c', e, h1, h2⟩ := h.cell hi
  injection e with e1
  injection e1 with e1
  injection e1 with e1
  subst e1
  exact ⟨h1, h2⟩
/-- how far the row has been gone through -/
structure DnI (w W : World) (g n cap : Nat) (E : Ed) (age : Int) (i j : Nat) (L : Ed) : Prop where
  rz : RZ kE W (.slice (some ⟨g, 0, none⟩) n cap) L
  ll : L.length = n
  tk : L.take i = (E.take j).filter (fun z => !isA age z)
  dr : L.drop j = E.drop j
  ch : Ch (fun k => (Value.slice (some ⟨g, 0, none⟩) n cap).ownBlock = some k) w W
  ij : i < j ∧ j ≤ n
section
variable {w W W' : World} {g n cap i j : Nat} {E L : Ed} {age : Int}
theorem DnI.below (h : DnI w W g n cap E age i j L) (b : Below W.heap.size W W') : DnI w W' g n cap E age i j L := ⟨h.rz.below b, h.ll, h.tk, h.dr, h.ch.trans (Ch.of b), h.ij⟩
theorem DnI.at (h : DnI w W g n cap E age i j L) (hE : E.length = n) (hj : j < n) : L[j]'(by rw [h.ll]; exact hj) = E[j]'(by rw [hE]; exact hj) := by
  have e1 : L[j]? = E[j]? := by
    have h1 : (L.drop j)[0]? = (E.drop j)[0]? := by rw [h.dr]
    simpa using h1
  rw [List.getElem?_eq_getElem (by rw [h.ll]; exact hj), List.getElem?_eq_getElem (by rw [hE]; exact hj)] at e1
  injection e1
theorem DnI.skip (h : DnI w W g n cap E age i j L) (hE : E.length = n) (hj : j < n) (hp : isA age (E[j]'(by rw [hE]; exact hj)) = true) : DnI w W g n cap E age i (j + 1) L := by
  refine ⟨h.rz, h.ll, ?_, ?_, h.ch, by have := h.ij; omega⟩
  · rw [List.take_succ_eq_append_getElem (by rw [hE]; exact hj), List.filter_append, h.tk]
    simp [hp]
  · have := congrArg (List.drop 1) h.dr
    simpa [List.drop_drop] using this
theorem DnI.keep (h : DnI w W g n cap E age i j L) (hE : E.length = n) (hj : j < n) {z0 z1 : Int} (hz : E[j]'(by rw [hE]; exact hj) = (z0, z1)) (hp : isA age (z0, z1) = false) :
    DnI w ((W.setCell ⟨g, i * 2, none⟩ (.int .i64 z0)).setCell ⟨g, i * 2 + 1, none⟩ (.int .i64 z1)) g n cap E age (i + 1) (j + 1) (L.set i (z0, z1)) := by
  have hi : i < L.length := by rw [h.ll]; have := h.ij; omega
  obtain ⟨⟨y0, y1⟩, hy⟩ : ∃ y, L[i]'hi = y := ⟨_, rfl⟩
  have r1 := RZ.set (K := kE) h.rz hi (j := 0) (by decide) (.int .i64 z0) (z0, y1) (by rw [hy]; rfl)
  have hi2 : i < (L.set i (z0, y1)).length := by rw [List.length_set]; exact hi
  have r2 := RZ.set (K := kE) r1 hi2 (j := 1) (by decide) (.int .i64 z1) (z0, z1) (by rw [List.getElem_set_self]; rfl)
  rw [List.set_set] at r2
  have e0 : i * kE.k + 0 = i * 2 := rfl
  have e1 : i * kE.k + 1 = i * 2 + 1 := rfl
  rw [e0, e1] at r2
  refine ⟨r2, by rw [List.length_set]; exact h.ll, ?_, ?_, (h.ch.set (.inl rfl) _ _).set (.inl rfl) _ _, by have := h.ij; omega⟩
  · rw [List.take_succ_eq_append_getElem (by rw [List.length_set]; exact hi), List.getElem_set_self, List.take_set_of_le (Nat.le_refl _), h.tk, List.take_succ_eq_append_getElem (by rw [hE]; exact hj), List.filter_append, hz]
    simp [hp]
  · rw [List.drop_set_of_lt (by have := h.ij; omega)]
    have := congrArg (List.drop 1) h.dr
    simpa [List.drop_drop] using this
end
theorem DnI.first {w W : World} {g n cap : Nat} {E : Ed} {age : Int} (h : RZ kE W (.slice (some ⟨g, 0, none⟩) n cap) E) (hE : E.length = n) (b : Below w.heap.size w W) (hf : E.findIdx (isA age) < n) : DnI w W g n cap E age (E.findIdx (isA age)) (E.findIdx (isA age) + 1) E := by
  refine ⟨h, hE, ?_, rfl, Ch.of b, by omega⟩
  have hl : E.findIdx (isA age) < E.length := by omega
  rw [List.take_succ_eq_append_getElem hl, List.filter_append]
  have h1 : isA age (E[E.findIdx (isA age)]'hl) = true := List.findIdx_getElem (w := hl)
  have h2 : (E.take (E.findIdx (isA age))).filter (fun z => !isA age z) = E.take (E.findIdx (isA age)) := by
    rw [List.filter_eq_self]
    intro z hz
    obtain ⟨k, hk, rfl⟩ := List.getElem_of_mem hz
    rw [List.length_take] at hk
    rw [List.getElem_take]
    have := List.not_of_lt_findIdx (p := isA age) (xs := E) (i := k) (by omega)
    simpa using this
  rw [h2]
  simp [h1]
theorem zeroE : ∀ u ∈ kE.zero.cells.toList, u.oneCell' = true := by
  intro u hu
  have e : kE.zero.cells.toList = [.int .i64 0, .int .i64 0] := rfl
  rw [e] at hu
  simp at hu
  rw [hu]; rfl
set_option maxRecDepth 100000 in
set_option maxHeartbeats 8000000 in
theorem del_any (w : World) (sv : Value) (E : Ed) (h : RZ kE w sv E) (hl : E.length ≤ 1000) (bx : Nat) (age : Int) (hb : w.cell? ⟨bx, 0, none⟩ = some (.int .i64 age)) (hbx : sv.ownBlock ≠ some bx) :
    Calls Try.prog 81 #[sv, .func (.func 82) #[] #[.pointer (some ⟨bx, 0, none⟩)]] w (DelQ w sv (remS E age)) := by
  have hlt := World.block_lt_of_cell? w _ hb
  have HI : Hid (Calls Try.prog 97 #[sv, .func (.func 82) #[] #[.pointer (some ⟨bx, 0, none⟩)]] w (AN w (.int .i64 (fI E (isA age))))) := idx_any w E sv h.rs hl bx age hb
  by_cases hf : E.findIdx (isA age) < E.length
  rotate_left
  · have hfi : fI E (isA age) = -1 := by unfold fI; rw [if_neg hf]
    have hre : remS E age = E := by
      unfold remS
      rw [List.filter_eq_self]
      intro z hz
      obtain ⟨k, hk, rfl⟩ := List.getElem_of_mem hz
      have := List.not_of_lt_findIdx (p := isA age) (xs := E) (i := k) (by omega)
      simpa using this
    have HF : Hid (∀ W, Below w.heap.size w W → DelQ w sv (remS E age) (.returned sv) W) := fun W hW => ⟨sv, rfl, by rw [hre]; exact h.below hW, Ch.of hW, rfl⟩
    obtain ⟨a, c, hsv⟩ := h.sl
    subst hsv
    rw [hfi] at HI
    clear h hb hbx hlt hfi hre hf
    generalize DelQ w _ (remS E age) = P at *
    generalize E.length = n at *
    go_enter Try.func81, Try.ntmps81
    go_wp2_with fail
    refine HI.out.mono ?_
    rintro e w3 ⟨rfl, b3⟩
    have HR : Hid (P (.returned (.slice a n c)) w3) := HF.out w3 b3
    clear b3
    go_wp2
    first | exact HR.out | (go_ret; exact HR.out)
  · have hfi : fI E (isA age) = (E.findIdx (isA age) : Int) := by unfold fI; rw [if_pos hf]
    obtain ⟨n, hn⟩ : ∃ n, E.length = n := ⟨_, rfl⟩
    obtain ⟨g, cap, hsv, hcap⟩ : ∃ g cap, sv = .slice (some ⟨g, 0, none⟩) n cap ∧ n ≤ cap := by
      rcases h.2 with ⟨h1, h0⟩ | ⟨g, cap, cur, h1, _, _, h4, _⟩
      · omega
      · exact ⟨g, cap, by rw [h1, hn], by omega⟩
    subst hsv
    have hgb : g ≠ bx := fun e => hbx (by rw [e]; rfl)
    have hfn : E.findIdx (isA age) < n := by omega
    have HD0 : Hid (∀ W, Below w.heap.size w W → DnI w W g n cap E age (E.findIdx (isA age)) (E.findIdx (isA age) + 1) E) := fun W hW => DnI.first (h.below hW) hn hW hfn
    have HCL : Hid (∀ W z0 z1, Ch (fun k => (Value.slice (some ⟨g, 0, none⟩) n cap).ownBlock = some k) w W → Calls Try.prog 82 #[.agg #[.int .i64 z0, .int .i64 z1], .pointer (some ⟨bx, 0, none⟩)] W (AN W (.bool (isA age (z0, z1))))) := fun W z0 z1 hW => clo_any W bx age ((World.cell?_of_block (a := ⟨bx, 0, none⟩) (hW.block bx hlt (fun e => hgb (by injection e)))).trans hb) (z0, z1)
    have HN : Hid (E.length = n) := hn
    have HQ : Hid (∀ W v', RZ kE W v' (remS E age) → Ch (fun k => (Value.slice (some ⟨g, 0, none⟩) n cap).ownBlock = some k) w W → v'.ownBlock = some g → DelQ w (.slice (some ⟨g, 0, none⟩) n cap) (remS E age) (.returned v') W) := fun W v' h1 h2 h3 => ⟨v', rfl, h1, h2, h3⟩
    have HRE : Hid (E.filter (fun z => !isA age z) = remS E age) := rfl
    rw [hfi] at HI
    rw [hn] at hl
    clear h hb hbx hlt hfi hf hn
    generalize DelQ w _ (remS E age) = P at *
    generalize remS E age = R at *
    generalize E.findIdx (isA age) = f at *
    have x1 : ((f : Int) == (-1)) = false := by simp
    go_enter Try.func81, Try.ntmps81
    go_wp2_with fail
    refine HI.out.mono ?_
    rintro e w3 ⟨rfl, b3⟩
    have HD3 : Hid (DnI w w3 g n cap E age f (f + 1) E) := HD0.out w3 b3
    clear b3 HD0
    go_wp2_with fail
    go_loopw [5, 6, 7] (fun iv jv _ wr => ∃ (i j : Nat) (L : Ed), iv = .int .i64 (i : Int) ∧ jv = .int .i64 (j : Int) ∧ i < j ∧ j ≤ n ∧ Hid (DnI w wr g n cap E age i j L)) (fun _ jv _ _ => n - (intOf jv).toNat)
    case atStart => exact ⟨f, f + 1, E, rfl, by go_num, by omega, by omega, HD3⟩
    case round =>
      clear HD3
      obtain ⟨i, j, L, rfl, rfl, hij, hjn, HD⟩ := hrel
      by_cases hlt2 : j < n
      · have e1 : decide (j < n) = true := by simp; omega
        have hjL : j < L.length := by rw [HD.out.ll]; exact hlt2
        obtain ⟨hcl, hfr⟩ := HD.out.rz.cell2 hjL
        obtain ⟨⟨z0, z1⟩, hz⟩ : ∃ z, E[j]'(by rw [HN.out]; exact hlt2) = z := ⟨_, rfl⟩
        have HZ : Hid (E[j]'(by rw [HN.out]; exact hlt2) = (z0, z1)) := hz
        rw [HD.out.at HN.out hlt2, hz] at hcl
        obtain ⟨y0, y1⟩ := duo_own rfl rfl hcl
        have i1 : (0 : Int) ≤ (j : Int) := by omega
        have i2 : (j : Int) < (n : Int) := by omega
        have HCA := fun A => HCL.out (wr.alloc A) z0 z1 (HD.out.ch.trans (Ch.of (bl1 wr A)))
        have HDA : Hid (∀ A, DnI w (wr.alloc A) g n cap E age i j L) := fun A => HD.out.below (bl1 wr A)
        have HVB : Hid (∀ W, Below (wr.heap.size + 1) (wr.alloc (.cells #[.int .i64 z0, .int .i64 z1] 90)) W → W.cell? ⟨wr.heap.size, 0, none⟩ = some (.int .i64 z0) ∧ W.cell? ⟨wr.heap.size, 1, none⟩ = some (.int .i64 z1)) := fun W hW => by
          have e := (hW.block wr.heap.size (by omega)).trans (heap_alloc_new _ _)
          exact ⟨by rw [cell_of_row W wr.heap.size _ _ _ _ e]; rfl, by rw [cell_of_row W wr.heap.size _ _ _ _ e]; rfl⟩
        have HSZ : Hid (wr.heap.size + 1 ≤ (wr.alloc (.cells #[.int .i64 z0, .int .i64 z1] 90)).heap.size) := by show _ ≤ _; simp
        clear hcl hz hfr hjL HD
        go_upto_region 8 with fail
        have HC := HCA (.cells #[.int .i64 z0, .int .i64 z1] 90)
        have HDV : Hid (DnI w (wr.alloc (.cells #[.int .i64 z0, .int .i64 z1] 90)) g n cap E age i j L) := HDA.out _
        clear HCA HDA y0 y1
        generalize wr.alloc (.cells #[.int .i64 z0, .int .i64 z1] 90) = V at *
        generalize wr.heap.size = bv at *
        obtain ⟨y0, y1⟩ := HVB.out V (Below.refl _ _)
        cases hp : isA age (z0, z1) with
        | true =>
          rw [hp] at HC
          have HP2 : Hid (isA age (E[j]'(by rw [HN.out]; exact hlt2)) = true) := by rw [HZ.out]; exact hp
          clear hp HZ
          go_wp2_with fail
          refine HC.mono ?_
          rintro e w5 ⟨rfl, b5⟩
          have HD5 : Hid (DnI w w5 g n cap E age i (j + 1) L) := (HDV.out.below b5).skip HN.out hlt2 HP2.out
          clear b5 y0 y1
          go_wp2_with fail
          go_roundw
          case rel => exact ⟨i, j + 1, L, rfl, by go_num, by omega, by omega, HD5⟩
          case measure => simp [intOf] <;> omega
        | false =>
          rw [hp] at HC
          have HP2 : Hid (isA age (z0, z1) = false) := hp
          clear hp
          go_wp2_with fail
          refine HC.mono ?_
          rintro e w5 ⟨rfl, b5⟩
          have HD5 : Hid (DnI w w5 g n cap E age i j L) := HDV.out.below b5
          have HD6 : Hid (DnI w ((w5.setCell ⟨g, i * 2, none⟩ (.int .i64 z0)).setCell ⟨g, i * 2 + 1, none⟩ (.int .i64 z1)) g n cap E age (i + 1) (j + 1) (L.set i (z0, z1))) := HD5.out.keep HN.out hlt2 HZ.out HP2.out
          clear y0 y1
          obtain ⟨y0, y1⟩ := HVB.out w5 (b5.mono HSZ.out)
          have hiL : i < L.length := by rw [HD5.out.ll]; omega
          obtain ⟨hcl, hfr⟩ := HD5.out.rz.cell2 hiL
          obtain ⟨u0, u1⟩ := duo_own rfl rfl hcl
          have f0 := hfr (i * 2)
          have f1 := hfr (i * 2 + 1)
          have j1 : (0 : Int) ≤ (i : Int) := by omega
          have j2 : (i : Int) < (n : Int) := by omega
          clear b5 hcl hfr HP2 HZ HDV
          go_wp2_with fail
          go_roundw
          case rel => exact ⟨i + 1, j + 1, _, by go_num, by go_num, by omega, by omega, HD6⟩
          case measure => simp [intOf] <;> omega
      · have e1 : decide (j < n) = false := by simp; omega
        have hjn2 : j = n := by omega
        subst hjn2
        have HTK : Hid (L.take i = R) := by
          show _ = _
          rw [HD.out.tk, List.take_of_length_le (by rw [HN.out]; exact Nat.le_refl _)]
          exact HRE.out
        obtain ⟨cur, hcur, hcs, hct, hcm⟩ : ∃ cur : Array Value, wr.heap[g]? = some (.cells cur 90 (0, 0)) ∧ cur.size = cap * 2 ∧ cur.toList.take (j * 2) = kE.flat L ∧ cap ≤ maxLen := by
          have hll := HD.out.ll
          rcases HD.out.rz.2 with ⟨h1, h0⟩ | ⟨g', cap', cur', h1, _, h3, h4, h5, h6, h7⟩
          · cases h1
          · injection h1 with e1 e2 e3
            injection e1 with e1
            injection e1 with e1
            subst e1 e3
            exact ⟨cur', h3, h6, by rw [← hll]; exact h7, h5⟩
        have HCU : Hid (wr.heap[g]? = some (.cells cur.toList.toArray 90 (0, 0))) := hcur
        have hfit : Hid (i * 2 + (j - i) * kE.k ≤ cur.toList.length) := by
          show i * 2 + (j - i) * 2 ≤ _
          rw [Array.length_toList, hcs]; omega
        have HCT : Hid (cur.toList.take (j * 2) = kE.flat L ∧ cur.toList.length = cap * 2 ∧ cap ≤ maxLen) := ⟨hct, by rw [Array.length_toList]; exact hcs, hcm⟩
        have HDC : Hid (Ch (fun k => (Value.slice (some ⟨g, 0, none⟩) j cap).ownBlock = some k) w wr ∧ L.length = j) := ⟨HD.out.ch, HD.out.ll⟩
        have j0 : (0 : Int) ≤ (i : Int) := by omega
        have j1 : (i : Int) ≤ (j : Int) := by omega
        have j2 : (i : Int) ≤ (cap : Int) := by omega
        have x3 : ¬ (cap = i) := by omega
        clear hcur hcs hct HD hcm
        go_upto_region 11 with fail
        go_wp2_with (refine clear_k kE _ rfl _ rfl g (i * 2) _ _ rfl cur.toList 90 (by omega) HCU.out hfit.out zeroE ?c1)
        case c1 =>
          intro w6 cur' h6 h7 h8 g6 s6
          have HEND : Hid (P (.returned (.slice (some ⟨g, 0, none⟩) i cap)) w6) := by
            obtain ⟨q1, q2, q3⟩ := HCT.out
            obtain ⟨c1, c2⟩ := HDC.out
            have hRl : R.length = i := by rw [← HTK.out, List.length_take]; omega
            refine HQ.out w6 _ ⟨by rw [kE.flat_len], .inr ⟨g, cap, cur'.toArray, by rw [hRl], Nat.zero_le _, h6, by rw [hRl]; omega, q3, ?_, ?_⟩⟩ (c1.trans ⟨g6.os, g6.tape, g6.output, g6.size, fun k hk hne => g6.block k hk (fun e => hne (by injection e with e; rw [e]; rfl))⟩) rfl
            · show cur'.length = cap * 2
              rw [h7]; exact q2
            · rw [hRl]
              show cur'.take (i * 2) = _
              have e1 : cur.toList.take (i * 2) = (cur.toList.take (j * 2)).take (i * 2) := by rw [List.take_take, Nat.min_eq_left (by omega)]
              rw [h8, e1, q1, ← HTK.out]
              exact (kE.flat_take L i (by omega)).symm
          clear h6 h7 h8 g6 s6
          go_wp2
          first | exact HEND.out | (go_ret; exact HEND.out)
theorem OkE.rem {room : Nat} {E : Ed} (h : OkE room E) (age : Int) : OkE room (remS E age) :=
  ⟨h.srt.filter _, fun e he => h.up e (List.mem_filter.1 he).1, Nat.le_trans (List.length_filter_le _ _) h.len, h.r1⟩
set_option maxRecDepth 100000 in
set_option maxHeartbeats 4000000 in
theorem rem_any {w : World} {gb room : Nat} {ev : Value} {E : Ed} (h : GV w gb room ev E) (age : Int) : Calls Try.prog 40 #[.pointer (some ⟨gb, 0, none⟩), .int .i64 age] w (GQ w gb room ev (remS E age) (.int .i64 ((E.length : Int) - ((remS E age).length : Int)))) := by
  have hlen : (remS E age).length ≤ E.length := List.length_filter_le _ _
  have h5 := h.l512
  obtain ⟨a, c, hev⟩ := h.rz.sl
  obtain ⟨n, hn⟩ : ∃ n, E.length = n := ⟨_, rfl⟩
  obtain ⟨m, hm⟩ : ∃ m, (remS E age).length = m := ⟨_, rfl⟩
  rw [hn] at hev hlen h5 ⊢
  rw [hm] at hlen ⊢
  have hA := h.below (bl1 w (.cells #[.int .i64 age] 3))
  have HB1 : Hid (Below w.heap.size w (w.alloc (.cells #[.int .i64 age] 3))) := bl1 w _
  have HDL : Hid (Calls Try.prog 81 #[ev, .func (.func 82) #[] #[.pointer (some ⟨w.heap.size, 0, none⟩)]] (w.alloc (.cells #[.int .i64 age] 3)) (DelQ (w.alloc (.cells #[.int .i64 age] 3)) ev (remS E age))) :=
    del_any _ ev E hA.rz (by rw [hn]; omega) w.heap.size age (by simp) (fun e => by have := h.rz.own e; omega)
  have HP : Hid (∀ v' W', RZ kE W' v' (remS E age) → Ch (fun k => ev.ownBlock = some k) (w.alloc (.cells #[.int .i64 age] 3)) W' → v'.ownBlock = ev.ownBlock → GQ w gb room ev (remS E age) (.int .i64 ((n : Int) - (m : Int))) (.returned (.int .i64 ((n : Int) - (m : Int)))) (W'.setCell ⟨gb, 1, none⟩ v') ∧ W'.heap[gb]? = some (.cells #[.int .i64 (room : Int), ev] 131)) := fun v' W' h1 h2 h3 =>
    ⟨GQ.put h (bl1 w _) h1 ⟨h2.os, h2.tape, h2.output, h2.size, fun k hk hne => h2.block k hk (fun e => hne e.symm)⟩ (.inl h3) (h.ok.rem age), (h2.block gb (by have := h.lt; simp; omega) (fun e => h.ne e)).trans hA.bl⟩
  have c1 := hA.cell.2
  have HRM : Hid ((remS E age).length = m) := hm
  clear hA h hm hn
  generalize GQ w gb room ev (remS E age) (.int .i64 ((n : Int) - (m : Int))) = P at *
  generalize remS E age = R at *
  subst hev
  go_enter Try.func40, Try.ntmps40
  go_wp2_with fail
  refine HDL.out.mono ?_
  rintro e w6 ⟨v6, rfl, z6, g6, o6⟩
  obtain ⟨he, hbl⟩ := HP.out v6 w6 z6 g6 o6
  have HE : Hid (P (.returned (.int .i64 ((n : Int) - (m : Int)))) (w6.setCell ⟨gb, 1, none⟩ v6)) := he
  have f6 := frozen_of_row w6 gb 1 _ _ hbl
  have c6 : w6.cell? ⟨gb, 1, none⟩ = some (.slice a n c) := by rw [cell_of_row w6 gb _ _ _ _ hbl]; rfl
  obtain ⟨a6, k6, e6⟩ := z6.sl
  rw [HRM.out] at e6
  subst e6
  clear z6 g6 o6 hbl he c1
  go_wp2
  first | exact HE.out | (go_ret; exact HE.out)
end Go.Proofs.Ytongeppdaeekeaa
