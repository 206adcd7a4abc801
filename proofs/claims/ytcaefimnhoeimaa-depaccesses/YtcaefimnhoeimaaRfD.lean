/- What the document's Accesses answers. -/
import Derived.Test.YtcaefimnhoeimaaRfC
import Derived.Deep.CutRange
namespace Go.Proofs.Ytcaefimnhoeimaa
open Go.RowKit Go.Maps
set_option linter.unusedVariables false
set_option linter.unusedSimpArgs false

theorem okF_join (op : Int) (f g : Fm) : OkF (joinF op f g) := by
  unfold joinF
  repeat' split
  all_goals first | exact okF_kept _ _ | exact okF_fz
set_option maxRecDepth 100000 in
set_option maxHeartbeats 16000000 in
theorem racc_any (L : List In) (cells : Int) (vL : Value) (w : World) (hv : ISl w vL L) : Calls Try.prog 6 #[vL, .int .i64 cells] w (RoP (accR L cells) w) := by
  have HC : Hid (∀ W, Below w.heap.size w W → Calls Try.prog 13 #[vL, .int .i64 cells] W fun e w' => e = .returned (.tuple #[.int .i64 (checkL L cells).1, .int .i64 (checkL L cells).2]) ∧ Below W.heap.size W w') := fun W hW => refCheck_any L cells vL W (hv.below hW)
  obtain ⟨c1, hc1⟩ : ∃ c, (checkL L cells).1 = c := ⟨_, rfl⟩
  obtain ⟨c2, hc2⟩ : ∃ c, (checkL L cells).2 = c := ⟨_, rfl⟩
  rw [hc1, hc2] at HC
  obtain ⟨res, hres⟩ : ∃ r, accR L cells = r := ⟨_, rfl⟩
  have HR : Hid (res = if c2 = 0 then refT startF L else none) := by show _ = _; rw [← hres, ← hc2]; exact accR_ref L cells
  obtain ⟨P, hP⟩ : ∃ P, RoP res w = P := ⟨_, rfl⟩
  have HP : Hid (RoP res w = P) := hP
  rw [hres, hP]
  clear hP hc1 hres
  by_cases h0 : c2 = 0
  case neg =>
    have h0b : (c2 != 0) = true := by simpa using h0
    have HN : Hid (res = none) := by show _ = _; rw [HR.out, if_neg h0]
    obtain ⟨ad, cap, b, o, rfl, h2, h3, h4, h5⟩ := hv
    generalize L.length = N at HC h2 h3 ⊢
    clear h0 hc2 h4 h5
    go_enter Try.func6, Try.ntmps6
    go_wp2_with fail
    refine (HC.out _ (Below.refl _ _)).mono ?_
    rintro e w2 ⟨rfl, hb2⟩
    have HF : Hid (P (.returned (.tuple #[.slice none 0 0, .bool false])) w2) := by
      show P _ _
      rw [← HP.out, HN.out]
      exact ⟨hb2, rfl⟩
    clear hb2
    go_wp2_with fail
    first | exact HF.out | (go_ret2; exact HF.out)
  subst h0
  rw [if_pos rfl] at HR
  obtain ⟨l1, l2, hL⟩ := check_ok hc2
  obtain ⟨ad, cap, b, o, rfl, h2, h3, h4, h5⟩ := hv
  obtain ⟨N, hN⟩ : ∃ N, L.length = N := ⟨_, rfl⟩
  have HN : Hid (L.length = N) := hN
  have H5 : Hid (∀ i (h : i < L.length), IAt w b (o + i * 6) L[i]) := h5
  obtain rfl := h4 l1
  have HO : Hid (∀ x ∈ L, OkI x) := hL
  have HLB : Hid (∀ i (h : i < L.length), b < w.heap.size) := fun i h => (h5 i h).lt
  have HB0 : Hid (b < w.heap.size) := (h5 0 l1).lt
  rw [hN] at HC h2 l1 l2 ⊢
  unfold maxLen at h3
  clear hN h5 h4 hL hc2
  have mk := made49
  have HZ0 : Hid (FR (w.alloc (.cells (rcs (begF 0)).toArray 33)) w.heap.size (begF 0)) := ⟨begF_ok 0 (by omega), heap_alloc_new w _⟩
  obtain ⟨Z, hZ⟩ : ∃ Z, (rcs (begF 0)).toArray = Z := ⟨_, rfl⟩
  rw [hZ] at mk
  have HZ : Hid ((rcs (begF 0)).toArray = Z) := hZ
  clear hZ HZ0
  go_enter Try.func6, Try.ntmps6
  go_wp2_with fail
  refine (HC.out _ (Below.refl _ _)).mono ?_
  rintro e w2 ⟨rfl, hb2⟩
  have HB2 : Hid (Below w.heap.size w w2) := hb2
  clear hb2
  obtain ⟨fb, hfb⟩ : ∃ fb, w2.heap.size = fb := ⟨_, rfl⟩
  have HFS : Hid (w2.heap.size = fb) := hfb
  have HFW : Hid (w.heap.size ≤ fb) := by show _ ≤ _; rw [← hfb]; exact HB2.out.size
  clear hfb
  go_wp2_with fail
  rw [HFS.out]
  generalize hW : w2.alloc _ = w3
  have HF3 : Hid (FR w3 fb (begQ 1)) := ⟨begQ_ok 1 (by omega) (by omega), by rw [← hW, ← HZ.out, ← HFS.out]; exact heap_alloc_new w2 _⟩
  have HB3 : Hid (Below w.heap.size w w3) := by show Below _ _ _; rw [← hW]; exact HB2.out.trans ((bl1 w2 _).mono HB2.out.size)
  clear hW
  go_loopw [9] (fun i wr => ∃ r : Nat, i = .int .i64 (r : Int) ∧ 1 ≤ r ∧ r ≤ 16 ∧ Hid (FR wr fb (begQ r)) ∧ Hid (Below w.heap.size w wr)) (fun i _ => 16 - (intOf i).toNat)
  case atStart => exact ⟨1, rfl, by omega, by omega, HF3, HB3⟩
  case round =>
    obtain ⟨r, rfl, hr1, hr, HF, HB⟩ := hrel
    by_cases hlt : r < 16
    · have e1 : decide ((r : Int) < 16) = true := by simp; omega
      obtain ⟨y0, y1, y2⟩ := HF.out.c r hlt
      have yf := HF.out.frz
      have HF9 : Hid (FR (((wr.setCell ⟨fb, r * 3, none⟩ (.bool true)).setCell ⟨fb, r * 3 + 1, none⟩ (.int .i64 0)).setCell ⟨fb, r * 3 + 2, none⟩ (.int .i64 0)) fb (begQ (r + 1))) := by have := HF.out.put r ⟨true, 0, 0⟩ (by unfold OkF; simp); rw [begQ_set r hr1 hlt] at this; exact this
      have HB9 : Hid (Below w.heap.size w (((wr.setCell ⟨fb, r * 3, none⟩ (.bool true)).setCell ⟨fb, r * 3 + 1, none⟩ (.int .i64 0)).setCell ⟨fb, r * 3 + 2, none⟩ (.int .i64 0))) := put3q_below HB.out HFW.out r _ _ _
      go_wp2_with fail
      go_roundw
      case rel => exact ⟨r + 1, by go_num, by omega, by omega, HF9, HB9⟩
      case measure => simp [intOf]; omega
    · obtain rfl : r = 16 := by omega
      rw [show ((16 : Nat) : Int) = (16 : Int) from rfl]
      obtain ⟨y0, y1, y2⟩ := HF.out.c 1 (by omega)
      have yf := HF.out.frz
      simp only [Nat.one_mul] at y0 y1 y2
      have HT0 : Hid (RQ w fb N L res 0 startF [] (.slice none 0 0) (wr.setCell ⟨fb, 4, none⟩ (.int .i64 1))) := by
        have hp := HF.out.put 1 ⟨true, 1, 0⟩ (by unfold OkF; simp)
        rw [begQ_end] at hp
        have hbk := HF.out.blk
        have hb4 := heap_setCell_same wr fb 4 _ 33 (.int .i64 1) hbk
        have hF : FR (wr.setCell ⟨fb, 4, none⟩ (.int .i64 1)) fb startF := ⟨hp.ok, by rw [hb4]; rfl⟩
        refine ⟨hF, AR.nil _ _, HB.out.setCell HFW.out _, hF.lt, Nat.le_refl _, ?_⟩
        rw [HR.out, List.drop_zero]
        cases refT startF L <;> rfl
      go_wp2_with fail
      generalize hV : wr.setCell _ _ = V at HT0 ⊢
      clear hV y0 y1 y2 yf hlt hr hr1
      go_loopw [10, 11] (fun vv ii wr => ∃ (i : Nat) (R : List Fm) (l : List (Bool × Fm)) (v : Value), ii = .int .i64 (i : Int) ∧ v = vv ∧ i ≤ N ∧ Hid (RQ w fb N L res i R l v wr)) (fun _ ii _ => N - (intOf ii).toNat)
      case atStart => exact ⟨0, _, _, _, rfl, rfl, Nat.zero_le _, HT0⟩
      case round =>
        obtain ⟨i, R, l, v, rfl, rfl, hi, HT⟩ := hrel
        by_cases hlt : i < N
        · have hiL : i < L.length := by rw [HN.out]; exact hlt
          have hx : IAt wr b (o + i * 6) L[i] := (H5.out i hiL).block (HT.out.bl.block b (H5.out i hiL).lt)
          have hok : OkI L[i] := HO.out _ (List.getElem_mem hiL)
          obtain ⟨x, hxx⟩ : ∃ x, L[i] = x := ⟨_, rfl⟩
          rw [hxx] at hx hok
          have HXI : Hid (∃ hi : i < L.length, L[i] = x) := ⟨hiL, hxx⟩
          have HOK : Hid (OkI x) := hok
          clear hxx
          have hkd := hok.kd
          have hxa := hok.a
          have hxb := hok.b
          have hxc := hok.c
          clear hok
          obtain ⟨kd, op, xa, xb, xc, xk⟩ := x
          obtain ⟨c0, c1, c2, c3, c4, c5⟩ := hx
          simp only at c0 c1 c2 c3 c4 c5 hkd hxa hxb hxc
          obtain ⟨bx, hbx⟩ : ∃ bx, wr.heap.size = bx := ⟨_, rfl⟩
          have HBX : Hid (wr.heap.size = bx) := hbx
          have HLT : Hid (fb < bx) := by show _ < _; rw [← hbx]; exact HT.out.sz
          have HLM : Hid (∀ k, v.ownBlock = some k → k < bx) := fun k hk => by rw [← hbx]; exact (World.ownsRow.lt HT.out.az k hk).2
          have HLL : Hid (l.length ≤ 100000) := by show _ ≤ _; have := HT.out.len; omega
          clear hbx
          have hkk : kd = 1 ∨ kd = 2 ∨ kd = 3 ∨ kd = 4 ∨ kd = 5 ∨ kd = 6 ∨ kd = 7 ∨ kd = 8 ∨ kd = 9 ∨ kd = 10 ∨ kd = 11 ∨ kd = 12 ∨ kd = 13 := by omega
          clear hkd
          rcases hkk with rfl | rfl | rfl | rfl | rfl | rfl | rfl | rfl | rfl | rfl | rfl | rfl | rfl
          · have HF : Hid (∀ o, P (.returned (.tuple #[v, .bool true])) (wr.alloc o)) := fun o => by
              show P _ _
              rw [← HP.out, RQ.halt HT.out (by simp) HXI.out]
              exact ⟨HT.out.bl.trans ((bl1 wr o).mono HT.out.bl.size), _, rfl, (HT.out.az.below (bl1 _ _)).mono (by have := HFW.out; omega)⟩
            go_wp2_with fail
            first | exact HF.out _ | (go_ret2; exact HF.out _)
          · obtain ⟨n, rfl⟩ : ∃ n : Nat, xa = n := ⟨xa.toNat, by omega⟩
            have hn : n < 16 := by omega
            have HG : Hid (goB R ⟨2, op, (n : Int), xb, xc, xk⟩ = true) := by show _ = _; unfold goB; simp
            have HAC2 : Hid (accF R ⟨2, op, (n : Int), xb, xc, xk⟩ = []) := by show _ = _; unfold accF; simp
            have HPF : Hid (passF R ⟨2, op, (n : Int), xb, xc, xk⟩ = R.set n (numF xk)) := by show _ = _; unfold passF; simp
            have HK : Hid (∀ w, Calls Try.prog 14 #[.int .i64 0, .int .i64 xk] w (FP (numF xk) w)) := fun w => rkept_any 0 xk w
            have HO : Hid (OkF (numF xk)) := okF_kept _ _
            generalize numF xk = f at HK HO HPF
            obtain ⟨fk, fa, fc⟩ := f
            go_wp2_with fail
            rw [HBX.out]
            generalize hW : wr.alloc _ = w2
            have HX2 : Hid (w2.heap[bx]? = some (.cells #[.int .i64 2, .int .i64 op, .int .i64 (n : Int), .int .i64 xb, .int .i64 xc, .int .i64 xk] 53)) := by show _ = _; rw [← hW, ← HBX.out]; exact heap_alloc_new _ _
            have HB0 : Hid (Below wr.heap.size wr w2) := by show Below _ _ _; rw [← hW]; exact bl1 _ _
            clear hW c0 c1 c2 c3 c4 c5
            have HF2 : Hid (FR w2 fb R) := HT.out.fbk.below HB0.out
            have HA2 : Hid (AR w2 (fb + 1) v l) := HT.out.az.below HB0.out
            have HB2 : Hid (Below w.heap.size w w2) := HT.out.bl.trans (HB0.out.mono HT.out.bl.size)
            have HSZ : Hid (fb < w2.heap.size ∧ bx < w2.heap.size) := ⟨HF2.out.lt, (Array.getElem?_eq_some_iff.1 HX2.out).1⟩
            have k0 : w2.cell? ⟨bx, 0, none⟩ = some (.int .i64 2) := (cell_of_row _ _ 0 _ _ _ HX2.out).trans rfl
            have k1 : w2.cell? ⟨bx, 1, none⟩ = some (.int .i64 op) := (cell_of_row _ _ 1 _ _ _ HX2.out).trans rfl
            have k2 : w2.cell? ⟨bx, 2, none⟩ = some (.int .i64 (n : Int)) := (cell_of_row _ _ 2 _ _ _ HX2.out).trans rfl
            have k3 : w2.cell? ⟨bx, 3, none⟩ = some (.int .i64 xb) := (cell_of_row _ _ 3 _ _ _ HX2.out).trans rfl
            have k4 : w2.cell? ⟨bx, 4, none⟩ = some (.int .i64 xc) := (cell_of_row _ _ 4 _ _ _ HX2.out).trans rfl
            have k5 : w2.cell? ⟨bx, 5, none⟩ = some (.int .i64 xk) := (cell_of_row _ _ 5 _ _ _ HX2.out).trans rfl
            refine WE.start (fun w' => w'.cell? ⟨bx, 2, none⟩ = some (.int .i64 (n : Int)) ∧ w'.cell? ⟨bx, 5, none⟩ = some (.int .i64 xk)) 7 8 #[false, false, false, false, false, false, false, false] rfl rfl (by kernel_rfl) ⟨k2, k5⟩ (fun hS => ?_)
            refine WE.take (i := 0) (v := ?_) rfl (by kernel_rfl) (fun _ _ _ h => h) (Or.inl ⟨by rfl, ?_⟩) hS ?_
            rotate_left
            · intro w1 hSw; obtain ⟨s0, s1⟩ := hSw; go_simp; first | done | rfl
            try simp only [List.getElem_toArray, List.getElem_cons_zero, List.getElem_cons_succ, Act.put, List.setIfInBounds_toArray, List.set_cons_zero, List.set_cons_succ]
            refine WE.take (i := 1) (v := ?_) rfl (by kernel_rfl) (fun _ _ _ h => h) (Or.inl ⟨by rfl, ?_⟩) hS ?_
            rotate_left
            · intro w1 hSw; obtain ⟨s0, s1⟩ := hSw; go_simp; first | done | rfl
            try simp only [List.getElem_toArray, List.getElem_cons_zero, List.getElem_cons_succ, Act.put, List.setIfInBounds_toArray, List.set_cons_zero, List.set_cons_succ]
            refine WE.take (i := 2) (v := ?_) rfl (by kernel_rfl) (fun _ _ _ h => h) (Or.inl ⟨by rfl, ?_⟩) hS ?_
            rotate_left
            · intro w1 hSw; obtain ⟨s0, s1⟩ := hSw; go_simp; first | done | rfl
            try simp only [List.getElem_toArray, List.getElem_cons_zero, List.getElem_cons_succ, Act.put, List.setIfInBounds_toArray, List.set_cons_zero, List.set_cons_succ]
            refine WE.take (i := 3) (v := ?_) rfl (by kernel_rfl) (fun _ _ _ h => h) (Or.inl ⟨by rfl, ?_⟩) hS ?_
            rotate_left
            · intro w1 hSw; obtain ⟨s0, s1⟩ := hSw; go_simp; first | done | rfl
            try simp only [List.getElem_toArray, List.getElem_cons_zero, List.getElem_cons_succ, Act.put, List.setIfInBounds_toArray, List.set_cons_zero, List.set_cons_succ]
            refine WE.take (i := 4) (v := ?_) rfl (by kernel_rfl) (fun _ _ _ h => h) (Or.inl ⟨by rfl, ?_⟩) hS ?_
            rotate_left
            · intro w1 hSw; obtain ⟨s0, s1⟩ := hSw; go_simp; first | done | rfl
            try simp only [List.getElem_toArray, List.getElem_cons_zero, List.getElem_cons_succ, Act.put, List.setIfInBounds_toArray, List.set_cons_zero, List.set_cons_succ]
            refine WE.step (i := 5) rfl (by kernel_rfl) (fun K hK => ?_)
            rw [if_pos (by rfl)]
            go_simp
            refine (HK.out _).mono ?_
            rintro e w9 ⟨rfl, hb9⟩
            have HF9 : Hid (FR w9 fb R) := HF2.out.drew.below hb9
            have HA9 : Hid (AR w9 (fb + 1) v l) := (show AR w2.drew (fb + 1) v l from HA2.out).below hb9
            have HB9 : Hid (Below w.heap.size w w9) := (below_drew HB2.out).trans (hb9.mono HB2.out.size)
            have HC9 : Hid (Ch fb w2 w9) := (show Ch fb w2.drew w9 from Ch.of hb9) |> fun h => ⟨h.os, h.tape, h.output, h.size, h.block⟩
            have hS9 : (fun w' => w'.cell? ⟨bx, 2, none⟩ = some (.int .i64 (n : Int)) ∧ w'.cell? ⟨bx, 5, none⟩ = some (.int .i64 xk)) w9 := by
              have bc : ∀ p v, w2.drew.cell? p = some v → w9.cell? p = some v := fun p v hp => (hb9.cell (p := p) (World.block_lt_of_cell? _ _ hp)).trans hp
              obtain ⟨s0, s1⟩ := hS
              exact ⟨bc _ _ s0, bc _ _ s1⟩
            refine hK _ _ hS9 ?_
            clear hb9

            unfold fv
            clear hK K hS
            have hS := hS9
            clear hS9
            try simp only [List.getElem_toArray, List.getElem_cons_zero, List.getElem_cons_succ, Act.put, List.setIfInBounds_toArray, List.set_cons_zero, List.set_cons_succ]
            obtain ⟨y0, y1, y2⟩ := HF9.out.c n hn
            have yf := HF9.out.frz
            refine WE.take (i := 6) (v := ?_) rfl (by kernel_rfl) (fun _ _ _ h => h) (Or.inl ⟨by rfl, ?_⟩) hS ?_
            rotate_left
            · intro w1 hSw; obtain ⟨s0, s1⟩ := hSw; go_simp; first | done | rfl
            try simp only [List.getElem_toArray, List.getElem_cons_zero, List.getElem_cons_succ, Act.put, List.setIfInBounds_toArray, List.set_cons_zero, List.set_cons_succ]
            refine WE.last rfl (by kernel_rfl) (fun K hK => ?_)
            rw [if_pos (by rfl)]
            go_simp
            refine hK _ _ ?_
            clear hK K
            have HT8 : Hid (RQ w fb N L res (i + 1) (passF R ⟨2, op, (n : Int), xb, xc, xk⟩) l v _) :=
              RQ.next HT.out HG.out (by simp) HXI.out (by rw [HAC2.out, List.append_nil]) (by rw [HPF.out]; exact HF9.out.put n ⟨fk, fa, fc⟩ HO.out) HA9.out HB9.out ((Ch.refl fb w9).put n _ _ _) HFW.out
            try simp only [List.getElem_toArray, List.getElem_cons_zero, List.getElem_cons_succ, Act.put, List.setIfInBounds_toArray, List.set_cons_zero, List.set_cons_succ]
            go_wp2_with fail
            try simp only [List.getElem_toArray, List.getElem_cons_zero, List.getElem_cons_succ, Act.put, List.setIfInBounds_toArray, List.set_cons_zero, List.set_cons_succ]
            go_roundw
            case rel => exact ⟨i + 1, _, _, _, by go_num, rfl, by omega, HT8⟩
            case measure => simp [intOf]; omega
          · obtain ⟨n, rfl⟩ : ∃ n : Nat, xa = n := ⟨xa.toNat, by omega⟩
            have hn : n < 16 := by omega
            obtain ⟨p, rfl⟩ : ∃ p : Nat, xb = p := ⟨xb.toNat, by omega⟩
            have hp : p < 16 := by omega
            have HG : Hid (goB R ⟨3, op, (n : Int), (p : Int), xc, xk⟩ = true) := by show _ = _; unfold goB; simp
            have HAC2 : Hid (accF R ⟨3, op, (n : Int), (p : Int), xc, xk⟩ = []) := by show _ = _; unfold accF; simp
            have HPF : Hid (passF R ⟨3, op, (n : Int), (p : Int), xc, xk⟩ = R.set n (rgF R (p : Int))) := by show _ = _; unfold passF; simp
            obtain ⟨g, hg⟩ : ∃ g, rgF R (p : Int) = g := ⟨_, rfl⟩
            have HEg : Hid (rgF R (p : Int) = g) := hg
            have HOg : OkF g := by rw [← hg]; exact HT.out.fbk.ok.rg _
            rw [hg] at HPF
            have HO : Hid (OkF g) := HOg
            clear hg HOg
            obtain ⟨fk, fa, fc⟩ := g
            go_wp2_with fail
            rw [HBX.out]
            generalize hW : wr.alloc _ = w2
            have HX2 : Hid (w2.heap[bx]? = some (.cells #[.int .i64 3, .int .i64 op, .int .i64 (n : Int), .int .i64 (p : Int), .int .i64 xc, .int .i64 xk] 53)) := by show _ = _; rw [← hW, ← HBX.out]; exact heap_alloc_new _ _
            have HB0 : Hid (Below wr.heap.size wr w2) := by show Below _ _ _; rw [← hW]; exact bl1 _ _
            clear hW c0 c1 c2 c3 c4 c5
            have HF2 : Hid (FR w2 fb R) := HT.out.fbk.below HB0.out
            have HA2 : Hid (AR w2 (fb + 1) v l) := HT.out.az.below HB0.out
            have HB2 : Hid (Below w.heap.size w w2) := HT.out.bl.trans (HB0.out.mono HT.out.bl.size)
            have HSZ : Hid (fb < w2.heap.size ∧ bx < w2.heap.size) := ⟨HF2.out.lt, (Array.getElem?_eq_some_iff.1 HX2.out).1⟩
            have k0 : w2.cell? ⟨bx, 0, none⟩ = some (.int .i64 3) := (cell_of_row _ _ 0 _ _ _ HX2.out).trans rfl
            have k1 : w2.cell? ⟨bx, 1, none⟩ = some (.int .i64 op) := (cell_of_row _ _ 1 _ _ _ HX2.out).trans rfl
            have k2 : w2.cell? ⟨bx, 2, none⟩ = some (.int .i64 (n : Int)) := (cell_of_row _ _ 2 _ _ _ HX2.out).trans rfl
            have k3 : w2.cell? ⟨bx, 3, none⟩ = some (.int .i64 (p : Int)) := (cell_of_row _ _ 3 _ _ _ HX2.out).trans rfl
            have k4 : w2.cell? ⟨bx, 4, none⟩ = some (.int .i64 xc) := (cell_of_row _ _ 4 _ _ _ HX2.out).trans rfl
            have k5 : w2.cell? ⟨bx, 5, none⟩ = some (.int .i64 xk) := (cell_of_row _ _ 5 _ _ _ HX2.out).trans rfl
            obtain ⟨g0, g1, g2⟩ := HF2.out.c p hp
            rw [HEg.out] at g0 g1 g2
            refine WE.start (fun w' => w'.cell? ⟨bx, 2, none⟩ = some (.int .i64 (n : Int)) ∧ w'.cell? ⟨bx, 3, none⟩ = some (.int .i64 (p : Int)) ∧ w'.cell? ⟨fb, p * 3, none⟩ = some (.bool fk) ∧ w'.cell? ⟨fb, p * 3 + 1, none⟩ = some (.int .i64 fa) ∧ w'.cell? ⟨fb, p * 3 + 2, none⟩ = some (.int .i64 fc)) 9 10 #[false, false, false, false, false, false, false, false, false, false] rfl rfl (by kernel_rfl) ⟨k2, k3, g0, g1, g2⟩ (fun hS => ?_)
            have HF9 : Hid (FR w2.drew fb R) := HF2.out.drew
            have HA9 : Hid (AR w2.drew (fb + 1) v l) := HA2.out
            have HB9 : Hid (Below w.heap.size w w2.drew) := below_drew HB2.out
            obtain ⟨y0, y1, y2⟩ := HF2.out.c n hn
            have yf := HF2.out.frz
            refine WE.take (i := 0) (v := ?_) rfl (by kernel_rfl) (fun _ _ _ h => h) (Or.inl ⟨by rfl, ?_⟩) hS ?_
            rotate_left
            · intro w1 hSw; obtain ⟨s0, s1, s2, s3, s4⟩ := hSw; go_simp; first | done | rfl
            try simp only [List.getElem_toArray, List.getElem_cons_zero, List.getElem_cons_succ, Act.put, List.setIfInBounds_toArray, List.set_cons_zero, List.set_cons_succ]
            refine WE.take (i := 1) (v := ?_) rfl (by kernel_rfl) (fun _ _ _ h => h) (Or.inl ⟨by rfl, ?_⟩) hS ?_
            rotate_left
            · intro w1 hSw; obtain ⟨s0, s1, s2, s3, s4⟩ := hSw; go_simp; first | done | rfl
            try simp only [List.getElem_toArray, List.getElem_cons_zero, List.getElem_cons_succ, Act.put, List.setIfInBounds_toArray, List.set_cons_zero, List.set_cons_succ]
            refine WE.take (i := 2) (v := ?_) rfl (by kernel_rfl) (fun _ _ _ h => h) (Or.inl ⟨by rfl, ?_⟩) hS ?_
            rotate_left
            · intro w1 hSw; obtain ⟨s0, s1, s2, s3, s4⟩ := hSw; go_simp; first | done | rfl
            try simp only [List.getElem_toArray, List.getElem_cons_zero, List.getElem_cons_succ, Act.put, List.setIfInBounds_toArray, List.set_cons_zero, List.set_cons_succ]
            refine WE.take (i := 3) (v := ?_) rfl (by kernel_rfl) (fun _ _ _ h => h) (Or.inl ⟨by rfl, ?_⟩) hS ?_
            rotate_left
            · intro w1 hSw; obtain ⟨s0, s1, s2, s3, s4⟩ := hSw; go_simp; first | done | rfl
            try simp only [List.getElem_toArray, List.getElem_cons_zero, List.getElem_cons_succ, Act.put, List.setIfInBounds_toArray, List.set_cons_zero, List.set_cons_succ]
            refine WE.take (i := 4) (v := ?_) rfl (by kernel_rfl) (fun _ _ _ h => h) (Or.inl ⟨by rfl, ?_⟩) hS ?_
            rotate_left
            · intro w1 hSw; obtain ⟨s0, s1, s2, s3, s4⟩ := hSw; go_simp; first | done | rfl
            try simp only [List.getElem_toArray, List.getElem_cons_zero, List.getElem_cons_succ, Act.put, List.setIfInBounds_toArray, List.set_cons_zero, List.set_cons_succ]
            refine WE.take (i := 5) (v := ?_) rfl (by kernel_rfl) (fun _ _ _ h => h) (Or.inl ⟨by rfl, ?_⟩) hS ?_
            rotate_left
            · intro w1 hSw; obtain ⟨s0, s1, s2, s3, s4⟩ := hSw; go_simp; first | done | rfl
            try simp only [List.getElem_toArray, List.getElem_cons_zero, List.getElem_cons_succ, Act.put, List.setIfInBounds_toArray, List.set_cons_zero, List.set_cons_succ]
            refine WE.take (i := 6) (v := ?_) rfl (by kernel_rfl) (fun _ _ _ h => h) (Or.inl ⟨by rfl, ?_⟩) hS ?_
            rotate_left
            · intro w1 hSw; obtain ⟨s0, s1, s2, s3, s4⟩ := hSw; go_simp; first | done | rfl
            try simp only [List.getElem_toArray, List.getElem_cons_zero, List.getElem_cons_succ, Act.put, List.setIfInBounds_toArray, List.set_cons_zero, List.set_cons_succ]
            refine WE.take (i := 7) (v := ?_) rfl (by kernel_rfl) (fun _ _ _ h => h) (Or.inl ⟨by rfl, ?_⟩) hS ?_
            rotate_left
            · intro w1 hSw; obtain ⟨s0, s1, s2, s3, s4⟩ := hSw; go_simp; first | done | rfl
            try simp only [List.getElem_toArray, List.getElem_cons_zero, List.getElem_cons_succ, Act.put, List.setIfInBounds_toArray, List.set_cons_zero, List.set_cons_succ]
            refine WE.take (i := 8) (v := ?_) rfl (by kernel_rfl) (fun _ _ _ h => h) (Or.inl ⟨by rfl, ?_⟩) hS ?_
            rotate_left
            · intro w1 hSw; obtain ⟨s0, s1, s2, s3, s4⟩ := hSw; go_simp; first | done | rfl
            try simp only [List.getElem_toArray, List.getElem_cons_zero, List.getElem_cons_succ, Act.put, List.setIfInBounds_toArray, List.set_cons_zero, List.set_cons_succ]
            refine WE.last rfl (by kernel_rfl) (fun K hK => ?_)
            rw [if_pos (by rfl)]
            go_simp
            refine hK _ _ ?_
            clear hK K
            have HT8 : Hid (RQ w fb N L res (i + 1) (passF R ⟨3, op, (n : Int), (p : Int), xc, xk⟩) l v _) :=
              RQ.next HT.out HG.out (by simp) HXI.out (by rw [HAC2.out, List.append_nil]) (by rw [HPF.out]; exact HF9.out.put n ⟨fk, fa, fc⟩ HO.out) HA9.out HB9.out ((Ch.refl fb w2.drew).put n _ _ _) HFW.out
            try simp only [List.getElem_toArray, List.getElem_cons_zero, List.getElem_cons_succ, Act.put, List.setIfInBounds_toArray, List.set_cons_zero, List.set_cons_succ]
            go_wp2_with fail
            try simp only [List.getElem_toArray, List.getElem_cons_zero, List.getElem_cons_succ, Act.put, List.setIfInBounds_toArray, List.set_cons_zero, List.set_cons_succ]
            go_roundw
            case rel => exact ⟨i + 1, _, _, _, by go_num, rfl, by omega, HT8⟩
            case measure => simp [intOf]; omega
          · obtain ⟨n, rfl⟩ : ∃ n : Nat, xa = n := ⟨xa.toNat, by omega⟩
            have hn : n < 16 := by omega
            obtain ⟨p, rfl⟩ : ∃ p : Nat, xb = p := ⟨xb.toNat, by omega⟩
            have hp : p < 16 := by omega
            have HG : Hid (goB R ⟨4, op, (n : Int), (p : Int), xc, xk⟩ = true) := by show _ = _; unfold goB; simp
            have HAC2 : Hid (accF R ⟨4, op, (n : Int), (p : Int), xc, xk⟩ = []) := by show _ = _; unfold accF; simp
            have HPF : Hid (passF R ⟨4, op, (n : Int), (p : Int), xc, xk⟩ = R.set n (oneF op (rgF R (p : Int)))) := by show _ = _; unfold passF; simp
            obtain ⟨g, hg⟩ : ∃ g, rgF R (p : Int) = g := ⟨_, rfl⟩
            have HEg : Hid (rgF R (p : Int) = g) := hg
            have HOg : OkF g := by rw [← hg]; exact HT.out.fbk.ok.rg _
            rw [hg] at HPF
            have HK : Hid (∀ w, Calls Try.prog 15 #[.int .i64 op, fv g] w (FP (oneF op g) w)) := fun w => rone_any op g HOg w
            have HO : Hid (OkF (oneF op g)) := okF_one _ _
            generalize oneF op g = f at HK HO HPF
            clear hg HOg
            obtain ⟨fk, fa, fc⟩ := f
            obtain ⟨bk, ba, bc⟩ := g
            unfold fv at HK
            go_wp2_with fail
            rw [HBX.out]
            generalize hW : wr.alloc _ = w2
            have HX2 : Hid (w2.heap[bx]? = some (.cells #[.int .i64 4, .int .i64 op, .int .i64 (n : Int), .int .i64 (p : Int), .int .i64 xc, .int .i64 xk] 53)) := by show _ = _; rw [← hW, ← HBX.out]; exact heap_alloc_new _ _
            have HB0 : Hid (Below wr.heap.size wr w2) := by show Below _ _ _; rw [← hW]; exact bl1 _ _
            clear hW c0 c1 c2 c3 c4 c5
            have HF2 : Hid (FR w2 fb R) := HT.out.fbk.below HB0.out
            have HA2 : Hid (AR w2 (fb + 1) v l) := HT.out.az.below HB0.out
            have HB2 : Hid (Below w.heap.size w w2) := HT.out.bl.trans (HB0.out.mono HT.out.bl.size)
            have HSZ : Hid (fb < w2.heap.size ∧ bx < w2.heap.size) := ⟨HF2.out.lt, (Array.getElem?_eq_some_iff.1 HX2.out).1⟩
            have k0 : w2.cell? ⟨bx, 0, none⟩ = some (.int .i64 4) := (cell_of_row _ _ 0 _ _ _ HX2.out).trans rfl
            have k1 : w2.cell? ⟨bx, 1, none⟩ = some (.int .i64 op) := (cell_of_row _ _ 1 _ _ _ HX2.out).trans rfl
            have k2 : w2.cell? ⟨bx, 2, none⟩ = some (.int .i64 (n : Int)) := (cell_of_row _ _ 2 _ _ _ HX2.out).trans rfl
            have k3 : w2.cell? ⟨bx, 3, none⟩ = some (.int .i64 (p : Int)) := (cell_of_row _ _ 3 _ _ _ HX2.out).trans rfl
            have k4 : w2.cell? ⟨bx, 4, none⟩ = some (.int .i64 xc) := (cell_of_row _ _ 4 _ _ _ HX2.out).trans rfl
            have k5 : w2.cell? ⟨bx, 5, none⟩ = some (.int .i64 xk) := (cell_of_row _ _ 5 _ _ _ HX2.out).trans rfl
            obtain ⟨g0, g1, g2⟩ := HF2.out.c p hp
            rw [HEg.out] at g0 g1 g2
            refine WE.start (fun w' => w'.cell? ⟨bx, 1, none⟩ = some (.int .i64 op) ∧ w'.cell? ⟨bx, 2, none⟩ = some (.int .i64 (n : Int)) ∧ w'.cell? ⟨bx, 3, none⟩ = some (.int .i64 (p : Int)) ∧ w'.cell? ⟨fb, p * 3, none⟩ = some (.bool bk) ∧ w'.cell? ⟨fb, p * 3 + 1, none⟩ = some (.int .i64 ba) ∧ w'.cell? ⟨fb, p * 3 + 2, none⟩ = some (.int .i64 bc)) 12 13 #[false, false, false, false, false, false, false, false, false, false, false, false, false] rfl rfl (by kernel_rfl) ⟨k1, k2, k3, g0, g1, g2⟩ (fun hS => ?_)
            refine WE.take (i := 0) (v := ?_) rfl (by kernel_rfl) (fun _ _ _ h => h) (Or.inl ⟨by rfl, ?_⟩) hS ?_
            rotate_left
            · intro w1 hSw; obtain ⟨s0, s1, s2, s3, s4, s5⟩ := hSw; go_simp; first | done | rfl
            try simp only [List.getElem_toArray, List.getElem_cons_zero, List.getElem_cons_succ, Act.put, List.setIfInBounds_toArray, List.set_cons_zero, List.set_cons_succ]
            refine WE.take (i := 1) (v := ?_) rfl (by kernel_rfl) (fun _ _ _ h => h) (Or.inl ⟨by rfl, ?_⟩) hS ?_
            rotate_left
            · intro w1 hSw; obtain ⟨s0, s1, s2, s3, s4, s5⟩ := hSw; go_simp; first | done | rfl
            try simp only [List.getElem_toArray, List.getElem_cons_zero, List.getElem_cons_succ, Act.put, List.setIfInBounds_toArray, List.set_cons_zero, List.set_cons_succ]
            refine WE.take (i := 2) (v := ?_) rfl (by kernel_rfl) (fun _ _ _ h => h) (Or.inl ⟨by rfl, ?_⟩) hS ?_
            rotate_left
            · intro w1 hSw; obtain ⟨s0, s1, s2, s3, s4, s5⟩ := hSw; go_simp; first | done | rfl
            try simp only [List.getElem_toArray, List.getElem_cons_zero, List.getElem_cons_succ, Act.put, List.setIfInBounds_toArray, List.set_cons_zero, List.set_cons_succ]
            refine WE.take (i := 3) (v := ?_) rfl (by kernel_rfl) (fun _ _ _ h => h) (Or.inl ⟨by rfl, ?_⟩) hS ?_
            rotate_left
            · intro w1 hSw; obtain ⟨s0, s1, s2, s3, s4, s5⟩ := hSw; go_simp; first | done | rfl
            try simp only [List.getElem_toArray, List.getElem_cons_zero, List.getElem_cons_succ, Act.put, List.setIfInBounds_toArray, List.set_cons_zero, List.set_cons_succ]
            refine WE.take (i := 4) (v := ?_) rfl (by kernel_rfl) (fun _ _ _ h => h) (Or.inl ⟨by rfl, ?_⟩) hS ?_
            rotate_left
            · intro w1 hSw; obtain ⟨s0, s1, s2, s3, s4, s5⟩ := hSw; go_simp; first | done | rfl
            try simp only [List.getElem_toArray, List.getElem_cons_zero, List.getElem_cons_succ, Act.put, List.setIfInBounds_toArray, List.set_cons_zero, List.set_cons_succ]
            refine WE.take (i := 5) (v := ?_) rfl (by kernel_rfl) (fun _ _ _ h => h) (Or.inl ⟨by rfl, ?_⟩) hS ?_
            rotate_left
            · intro w1 hSw; obtain ⟨s0, s1, s2, s3, s4, s5⟩ := hSw; go_simp; first | done | rfl
            try simp only [List.getElem_toArray, List.getElem_cons_zero, List.getElem_cons_succ, Act.put, List.setIfInBounds_toArray, List.set_cons_zero, List.set_cons_succ]
            refine WE.take (i := 6) (v := ?_) rfl (by kernel_rfl) (fun _ _ _ h => h) (Or.inl ⟨by rfl, ?_⟩) hS ?_
            rotate_left
            · intro w1 hSw; obtain ⟨s0, s1, s2, s3, s4, s5⟩ := hSw; go_simp; first | done | rfl
            try simp only [List.getElem_toArray, List.getElem_cons_zero, List.getElem_cons_succ, Act.put, List.setIfInBounds_toArray, List.set_cons_zero, List.set_cons_succ]
            refine WE.take (i := 7) (v := ?_) rfl (by kernel_rfl) (fun _ _ _ h => h) (Or.inl ⟨by rfl, ?_⟩) hS ?_
            rotate_left
            · intro w1 hSw; obtain ⟨s0, s1, s2, s3, s4, s5⟩ := hSw; go_simp; first | done | rfl
            try simp only [List.getElem_toArray, List.getElem_cons_zero, List.getElem_cons_succ, Act.put, List.setIfInBounds_toArray, List.set_cons_zero, List.set_cons_succ]
            refine WE.take (i := 8) (v := ?_) rfl (by kernel_rfl) (fun _ _ _ h => h) (Or.inl ⟨by rfl, ?_⟩) hS ?_
            rotate_left
            · intro w1 hSw; obtain ⟨s0, s1, s2, s3, s4, s5⟩ := hSw; go_simp; first | done | rfl
            try simp only [List.getElem_toArray, List.getElem_cons_zero, List.getElem_cons_succ, Act.put, List.setIfInBounds_toArray, List.set_cons_zero, List.set_cons_succ]
            refine WE.take (i := 9) (v := ?_) rfl (by kernel_rfl) (fun _ _ _ h => h) (Or.inl ⟨by rfl, ?_⟩) hS ?_
            rotate_left
            · intro w1 hSw; obtain ⟨s0, s1, s2, s3, s4, s5⟩ := hSw; go_simp; first | done | rfl
            try simp only [List.getElem_toArray, List.getElem_cons_zero, List.getElem_cons_succ, Act.put, List.setIfInBounds_toArray, List.set_cons_zero, List.set_cons_succ]
            refine WE.step (i := 10) rfl (by kernel_rfl) (fun K hK => ?_)
            rw [if_pos (by rfl)]
            go_simp
            refine (HK.out _).mono ?_
            rintro e w9 ⟨rfl, hb9⟩
            have HF9 : Hid (FR w9 fb R) := HF2.out.drew.below hb9
            have HA9 : Hid (AR w9 (fb + 1) v l) := (show AR w2.drew (fb + 1) v l from HA2.out).below hb9
            have HB9 : Hid (Below w.heap.size w w9) := (below_drew HB2.out).trans (hb9.mono HB2.out.size)
            have HC9 : Hid (Ch fb w2 w9) := (show Ch fb w2.drew w9 from Ch.of hb9) |> fun h => ⟨h.os, h.tape, h.output, h.size, h.block⟩
            have hS9 : (fun w' => w'.cell? ⟨bx, 1, none⟩ = some (.int .i64 op) ∧ w'.cell? ⟨bx, 2, none⟩ = some (.int .i64 (n : Int)) ∧ w'.cell? ⟨bx, 3, none⟩ = some (.int .i64 (p : Int)) ∧ w'.cell? ⟨fb, p * 3, none⟩ = some (.bool bk) ∧ w'.cell? ⟨fb, p * 3 + 1, none⟩ = some (.int .i64 ba) ∧ w'.cell? ⟨fb, p * 3 + 2, none⟩ = some (.int .i64 bc)) w9 := by
              have bc : ∀ p v, w2.drew.cell? p = some v → w9.cell? p = some v := fun p v hp => (hb9.cell (p := p) (World.block_lt_of_cell? _ _ hp)).trans hp
              obtain ⟨s0, s1, s2, s3, s4, s5⟩ := hS
              exact ⟨bc _ _ s0, bc _ _ s1, bc _ _ s2, bc _ _ s3, bc _ _ s4, bc _ _ s5⟩
            refine hK _ _ hS9 ?_
            clear hb9

            unfold fv
            clear hK K hS
            have hS := hS9
            clear hS9
            try simp only [List.getElem_toArray, List.getElem_cons_zero, List.getElem_cons_succ, Act.put, List.setIfInBounds_toArray, List.set_cons_zero, List.set_cons_succ]
            obtain ⟨y0, y1, y2⟩ := HF9.out.c n hn
            have yf := HF9.out.frz
            refine WE.take (i := 11) (v := ?_) rfl (by kernel_rfl) (fun _ _ _ h => h) (Or.inl ⟨by rfl, ?_⟩) hS ?_
            rotate_left
            · intro w1 hSw; obtain ⟨s0, s1, s2, s3, s4, s5⟩ := hSw; go_simp; first | done | rfl
            try simp only [List.getElem_toArray, List.getElem_cons_zero, List.getElem_cons_succ, Act.put, List.setIfInBounds_toArray, List.set_cons_zero, List.set_cons_succ]
            refine WE.last rfl (by kernel_rfl) (fun K hK => ?_)
            rw [if_pos (by rfl)]
            go_simp
            refine hK _ _ ?_
            clear hK K
            have HT8 : Hid (RQ w fb N L res (i + 1) (passF R ⟨4, op, (n : Int), (p : Int), xc, xk⟩) l v _) :=
              RQ.next HT.out HG.out (by simp) HXI.out (by rw [HAC2.out, List.append_nil]) (by rw [HPF.out]; exact HF9.out.put n ⟨fk, fa, fc⟩ HO.out) HA9.out HB9.out ((Ch.refl fb w9).put n _ _ _) HFW.out
            try simp only [List.getElem_toArray, List.getElem_cons_zero, List.getElem_cons_succ, Act.put, List.setIfInBounds_toArray, List.set_cons_zero, List.set_cons_succ]
            go_wp2_with fail
            try simp only [List.getElem_toArray, List.getElem_cons_zero, List.getElem_cons_succ, Act.put, List.setIfInBounds_toArray, List.set_cons_zero, List.set_cons_succ]
            go_roundw
            case rel => exact ⟨i + 1, _, _, _, by go_num, rfl, by omega, HT8⟩
            case measure => simp [intOf]; omega
          · obtain ⟨n, rfl⟩ : ∃ n : Nat, xa = n := ⟨xa.toNat, by omega⟩
            have hn : n < 16 := by omega
            obtain ⟨p, rfl⟩ : ∃ p : Nat, xb = p := ⟨xb.toNat, by omega⟩
            have hp : p < 16 := by omega
            obtain ⟨q, rfl⟩ : ∃ q : Nat, xc = q := ⟨xc.toNat, by omega⟩
            have hq : q < 16 := by omega
            have HAC2 : Hid (accF R ⟨5, op, (n : Int), (p : Int), (q : Int), xk⟩ = []) := by show _ = _; unfold accF; simp
            have HPF : Hid (goB R ⟨5, op, (n : Int), (p : Int), (q : Int), xk⟩ = true → passF R ⟨5, op, (n : Int), (p : Int), (q : Int), xk⟩ = R.set n (joinF op (rgF R (p : Int)) (rgF R (q : Int)))) := fun hg => by
              have := join_go R ⟨5, op, (n : Int), (p : Int), (q : Int), xk⟩ HOK.out rfl hg
              simp only at this
              rw [this]; unfold passF; simp
            have HGB : Hid (goB R ⟨5, op, (n : Int), (p : Int), (q : Int), xk⟩ = (if op = 4 ∨ op = 5 then isNumB (rgF R (q : Int)) && !((rgF R (q : Int)).c == 0) else true)) := by show _ = _; unfold goB; simp
            obtain ⟨g, hg⟩ : ∃ g, rgF R (p : Int) = g := ⟨_, rfl⟩
            have HEg : Hid (rgF R (p : Int) = g) := hg
            have HOg : OkF g := by rw [← hg]; exact HT.out.fbk.ok.rg _
            obtain ⟨d, hd⟩ : ∃ g, rgF R (q : Int) = g := ⟨_, rfl⟩
            have HEd : Hid (rgF R (q : Int) = d) := hd
            have HOd : OkF d := by rw [← hd]; exact HT.out.fbk.ok.rg _
            rw [hg, hd] at HPF
            rw [hd] at HGB
            have HK : Hid (∀ w, Calls Try.prog 16 #[.int .i64 op, fv g, fv d] w (FP (joinF op g d) w)) := fun w => rjoin_any op g d HOg HOd w
            have HO : Hid (OkF (joinF op g d)) := okF_join _ _ _
            generalize joinF op g d = f at HK HO HPF
            clear hg HOg hd HOd
            obtain ⟨fk, fa, fc⟩ := f
            obtain ⟨bk, ba, bc⟩ := g
            obtain ⟨ck, ca, cc⟩ := d
            unfold fv at HK
            unfold isNumB at HGB
            simp only at HK HGB
            obtain ⟨d0, d1, d2⟩ := HT.out.fbk.c q hq
            rw [HEd.out] at d0 d1 d2
            have HDL : ∀ o, (wr.alloc o).cell? ⟨fb, q * 3, none⟩ = some (.bool ck) ∧ (wr.alloc o).cell? ⟨fb, q * 3 + 1, none⟩ = some (.int .i64 ca) ∧ (wr.alloc o).cell? ⟨fb, q * 3 + 2, none⟩ = some (.int .i64 cc) := fun o => by
              have := (HT.out.fbk.alloc o).c q hq
              rw [HEd.out] at this; exact this
            by_cases h4 : op = 4 ∨ op = 5
            case neg =>
              have o4 : (op == 4) = false := by simp; omega
              have o5 : (op == 5) = false := by simp; omega
              have HG : Hid (goB R ⟨5, op, (n : Int), (p : Int), (q : Int), xk⟩ = true) := by show _ = _; rw [HGB.out, if_neg h4]
              clear h4 HGB
              go_upto_region 30 with fail
              rw [HBX.out]
              generalize hW : wr.alloc _ = w0
              have HX0 : Hid (w0.heap[bx]? = some (.cells #[.int .i64 5, .int .i64 op, .int .i64 (n : Int), .int .i64 (p : Int), .int .i64 (q : Int), .int .i64 xk] 53)) := by show _ = _; rw [← hW, ← HBX.out]; exact heap_alloc_new _ _
              have HB0 : Hid (Below wr.heap.size wr w0) := by show Below _ _ _; rw [← hW]; exact bl1 _ _
              clear hW c0 c1 c2 c3 c4 c5 d0 d1 d2 HDL
              obtain ⟨d0, d1, d2⟩ := (HT.out.fbk.below HB0.out).c q hq
              rw [HEd.out] at d0 d1 d2
              have HF0 : Hid (FR w0 fb R) := HT.out.fbk.below HB0.out
              have k0 : w0.cell? ⟨bx, 0, none⟩ = some (.int .i64 5) := (cell_of_row _ _ 0 _ _ _ HX0.out).trans rfl
              have k1 : w0.cell? ⟨bx, 1, none⟩ = some (.int .i64 op) := (cell_of_row _ _ 1 _ _ _ HX0.out).trans rfl
              have k2 : w0.cell? ⟨bx, 2, none⟩ = some (.int .i64 (n : Int)) := (cell_of_row _ _ 2 _ _ _ HX0.out).trans rfl
              have k3 : w0.cell? ⟨bx, 3, none⟩ = some (.int .i64 (p : Int)) := (cell_of_row _ _ 3 _ _ _ HX0.out).trans rfl
              have k4 : w0.cell? ⟨bx, 4, none⟩ = some (.int .i64 (q : Int)) := (cell_of_row _ _ 4 _ _ _ HX0.out).trans rfl
              have k5 : w0.cell? ⟨bx, 5, none⟩ = some (.int .i64 xk) := (cell_of_row _ _ 5 _ _ _ HX0.out).trans rfl
              go_upto_region 31 with fail
              generalize hbd : w0.heap.size = bd
              have HBD : Hid (w0.heap.size = bd) := hbd
              clear hbd
              generalize hV : w0.alloc _ = w2
              have HXD : Hid (w2.heap[bd]? = some (.cells #[.bool ck, .int .i64 ca, .int .i64 cc] 33)) := by show _ = _; rw [← hV, ← HBD.out]; exact heap_alloc_new _ _
              have HBV : Hid (Below w0.heap.size w0 w2) := by show Below _ _ _; rw [← hV]; exact bl1 _ _
              clear hV d0 d1 d2 k0 k1 k2 k3 k4 k5
              have HX2 : Hid (w2.heap[bx]? = some (.cells #[.int .i64 5, .int .i64 op, .int .i64 (n : Int), .int .i64 (p : Int), .int .i64 (q : Int), .int .i64 xk] 53)) := (HBV.out.block bx (Array.getElem?_eq_some_iff.1 HX0.out).1).trans HX0.out
              have HF2 : Hid (FR w2 fb R) := HF0.out.below HBV.out
              have HA2 : Hid (AR w2 (fb + 1) v l) := (HT.out.az.below HB0.out).below HBV.out
              have HB2 : Hid (Below w.heap.size w w2) := by
                have h1 := HT.out.bl.trans (HB0.out.mono HT.out.bl.size)
                exact h1.trans (HBV.out.mono h1.size)
              have k0 : w2.cell? ⟨bx, 0, none⟩ = some (.int .i64 5) := (cell_of_row _ _ 0 _ _ _ HX2.out).trans rfl
              have k1 : w2.cell? ⟨bx, 1, none⟩ = some (.int .i64 op) := (cell_of_row _ _ 1 _ _ _ HX2.out).trans rfl
              have k2 : w2.cell? ⟨bx, 2, none⟩ = some (.int .i64 (n : Int)) := (cell_of_row _ _ 2 _ _ _ HX2.out).trans rfl
              have k3 : w2.cell? ⟨bx, 3, none⟩ = some (.int .i64 (p : Int)) := (cell_of_row _ _ 3 _ _ _ HX2.out).trans rfl
              have k4 : w2.cell? ⟨bx, 4, none⟩ = some (.int .i64 (q : Int)) := (cell_of_row _ _ 4 _ _ _ HX2.out).trans rfl
              have k5 : w2.cell? ⟨bx, 5, none⟩ = some (.int .i64 xk) := (cell_of_row _ _ 5 _ _ _ HX2.out).trans rfl
              have z0 : w2.cell? ⟨bd, 0, none⟩ = some (.bool ck) := (cell_of_row _ _ 0 _ _ _ HXD.out).trans rfl
              have z1 : w2.cell? ⟨bd, 1, none⟩ = some (.int .i64 ca) := (cell_of_row _ _ 1 _ _ _ HXD.out).trans rfl
              have z2 : w2.cell? ⟨bd, 2, none⟩ = some (.int .i64 cc) := (cell_of_row _ _ 2 _ _ _ HXD.out).trans rfl
              obtain ⟨g0, g1, g2⟩ := HF2.out.c p hp
              rw [HEg.out] at g0 g1 g2
              go_wp2_with fail
              refine WE.start (fun w' => w'.cell? ⟨bx, 1, none⟩ = some (.int .i64 op) ∧ w'.cell? ⟨bx, 2, none⟩ = some (.int .i64 (n : Int)) ∧ w'.cell? ⟨bx, 3, none⟩ = some (.int .i64 (p : Int)) ∧ w'.cell? ⟨fb, p * 3, none⟩ = some (.bool bk) ∧ w'.cell? ⟨fb, p * 3 + 1, none⟩ = some (.int .i64 ba) ∧ w'.cell? ⟨fb, p * 3 + 2, none⟩ = some (.int .i64 bc) ∧ w'.cell? ⟨bd, 0, none⟩ = some (.bool ck) ∧ w'.cell? ⟨bd, 1, none⟩ = some (.int .i64 ca) ∧ w'.cell? ⟨bd, 2, none⟩ = some (.int .i64 cc)) 13 14 #[false, false, false, false, false, false, false, false, false, false, false, false, false, false] rfl rfl (by kernel_rfl) ⟨k1, k2, k3, g0, g1, g2, z0, z1, z2⟩ (fun hS => ?_)
              refine WE.take (i := 0) (v := ?_) rfl (by kernel_rfl) (fun _ _ _ h => h) (Or.inl ⟨by rfl, ?_⟩) hS ?_
              rotate_left
              · intro w1 hSw; obtain ⟨s0, s1, s2, s3, s4, s5, s6, s7, s8⟩ := hSw; go_simp; first | done | rfl
              try simp only [List.getElem_toArray, List.getElem_cons_zero, List.getElem_cons_succ, Act.put, List.setIfInBounds_toArray, List.set_cons_zero, List.set_cons_succ]
              refine WE.take (i := 1) (v := ?_) rfl (by kernel_rfl) (fun _ _ _ h => h) (Or.inl ⟨by rfl, ?_⟩) hS ?_
              rotate_left
              · intro w1 hSw; obtain ⟨s0, s1, s2, s3, s4, s5, s6, s7, s8⟩ := hSw; go_simp; first | done | rfl
              try simp only [List.getElem_toArray, List.getElem_cons_zero, List.getElem_cons_succ, Act.put, List.setIfInBounds_toArray, List.set_cons_zero, List.set_cons_succ]
              refine WE.take (i := 2) (v := ?_) rfl (by kernel_rfl) (fun _ _ _ h => h) (Or.inl ⟨by rfl, ?_⟩) hS ?_
              rotate_left
              · intro w1 hSw; obtain ⟨s0, s1, s2, s3, s4, s5, s6, s7, s8⟩ := hSw; go_simp; first | done | rfl
              try simp only [List.getElem_toArray, List.getElem_cons_zero, List.getElem_cons_succ, Act.put, List.setIfInBounds_toArray, List.set_cons_zero, List.set_cons_succ]
              refine WE.take (i := 3) (v := ?_) rfl (by kernel_rfl) (fun _ _ _ h => h) (Or.inl ⟨by rfl, ?_⟩) hS ?_
              rotate_left
              · intro w1 hSw; obtain ⟨s0, s1, s2, s3, s4, s5, s6, s7, s8⟩ := hSw; go_simp; first | done | rfl
              try simp only [List.getElem_toArray, List.getElem_cons_zero, List.getElem_cons_succ, Act.put, List.setIfInBounds_toArray, List.set_cons_zero, List.set_cons_succ]
              refine WE.take (i := 4) (v := ?_) rfl (by kernel_rfl) (fun _ _ _ h => h) (Or.inl ⟨by rfl, ?_⟩) hS ?_
              rotate_left
              · intro w1 hSw; obtain ⟨s0, s1, s2, s3, s4, s5, s6, s7, s8⟩ := hSw; go_simp; first | done | rfl
              try simp only [List.getElem_toArray, List.getElem_cons_zero, List.getElem_cons_succ, Act.put, List.setIfInBounds_toArray, List.set_cons_zero, List.set_cons_succ]
              refine WE.take (i := 5) (v := ?_) rfl (by kernel_rfl) (fun _ _ _ h => h) (Or.inl ⟨by rfl, ?_⟩) hS ?_
              rotate_left
              · intro w1 hSw; obtain ⟨s0, s1, s2, s3, s4, s5, s6, s7, s8⟩ := hSw; go_simp; first | done | rfl
              try simp only [List.getElem_toArray, List.getElem_cons_zero, List.getElem_cons_succ, Act.put, List.setIfInBounds_toArray, List.set_cons_zero, List.set_cons_succ]
              refine WE.take (i := 6) (v := ?_) rfl (by kernel_rfl) (fun _ _ _ h => h) (Or.inl ⟨by rfl, ?_⟩) hS ?_
              rotate_left
              · intro w1 hSw; obtain ⟨s0, s1, s2, s3, s4, s5, s6, s7, s8⟩ := hSw; go_simp; first | done | rfl
              try simp only [List.getElem_toArray, List.getElem_cons_zero, List.getElem_cons_succ, Act.put, List.setIfInBounds_toArray, List.set_cons_zero, List.set_cons_succ]
              refine WE.take (i := 7) (v := ?_) rfl (by kernel_rfl) (fun _ _ _ h => h) (Or.inl ⟨by rfl, ?_⟩) hS ?_
              rotate_left
              · intro w1 hSw; obtain ⟨s0, s1, s2, s3, s4, s5, s6, s7, s8⟩ := hSw; go_simp; first | done | rfl
              try simp only [List.getElem_toArray, List.getElem_cons_zero, List.getElem_cons_succ, Act.put, List.setIfInBounds_toArray, List.set_cons_zero, List.set_cons_succ]
              refine WE.take (i := 8) (v := ?_) rfl (by kernel_rfl) (fun _ _ _ h => h) (Or.inl ⟨by rfl, ?_⟩) hS ?_
              rotate_left
              · intro w1 hSw; obtain ⟨s0, s1, s2, s3, s4, s5, s6, s7, s8⟩ := hSw; go_simp; first | done | rfl
              try simp only [List.getElem_toArray, List.getElem_cons_zero, List.getElem_cons_succ, Act.put, List.setIfInBounds_toArray, List.set_cons_zero, List.set_cons_succ]
              refine WE.take (i := 9) (v := ?_) rfl (by kernel_rfl) (fun _ _ _ h => h) (Or.inl ⟨by rfl, ?_⟩) hS ?_
              rotate_left
              · intro w1 hSw; obtain ⟨s0, s1, s2, s3, s4, s5, s6, s7, s8⟩ := hSw; go_simp; first | done | rfl
              try simp only [List.getElem_toArray, List.getElem_cons_zero, List.getElem_cons_succ, Act.put, List.setIfInBounds_toArray, List.set_cons_zero, List.set_cons_succ]
              refine WE.take (i := 10) (v := ?_) rfl (by kernel_rfl) (fun _ _ _ h => h) (Or.inl ⟨by rfl, ?_⟩) hS ?_
              rotate_left
              · intro w1 hSw; obtain ⟨s0, s1, s2, s3, s4, s5, s6, s7, s8⟩ := hSw; go_simp; first | done | rfl
              try simp only [List.getElem_toArray, List.getElem_cons_zero, List.getElem_cons_succ, Act.put, List.setIfInBounds_toArray, List.set_cons_zero, List.set_cons_succ]
              refine WE.step (i := 11) rfl (by kernel_rfl) (fun K hK => ?_)
              rw [if_pos (by rfl)]
              go_simp
              refine (HK.out _).mono ?_
              rintro e w9 ⟨rfl, hb9⟩
              have HF9 : Hid (FR w9 fb R) := HF2.out.drew.below hb9
              have HA9 : Hid (AR w9 (fb + 1) v l) := (show AR w2.drew (fb + 1) v l from HA2.out).below hb9
              have HB9 : Hid (Below w.heap.size w w9) := (below_drew HB2.out).trans (hb9.mono HB2.out.size)
              have HC9 : Hid (Ch fb w2 w9) := (show Ch fb w2.drew w9 from Ch.of hb9) |> fun h => ⟨h.os, h.tape, h.output, h.size, h.block⟩
              have hS9 : (fun w' => w'.cell? ⟨bx, 1, none⟩ = some (.int .i64 op) ∧ w'.cell? ⟨bx, 2, none⟩ = some (.int .i64 (n : Int)) ∧ w'.cell? ⟨bx, 3, none⟩ = some (.int .i64 (p : Int)) ∧ w'.cell? ⟨fb, p * 3, none⟩ = some (.bool bk) ∧ w'.cell? ⟨fb, p * 3 + 1, none⟩ = some (.int .i64 ba) ∧ w'.cell? ⟨fb, p * 3 + 2, none⟩ = some (.int .i64 bc) ∧ w'.cell? ⟨bd, 0, none⟩ = some (.bool ck) ∧ w'.cell? ⟨bd, 1, none⟩ = some (.int .i64 ca) ∧ w'.cell? ⟨bd, 2, none⟩ = some (.int .i64 cc)) w9 := by
                have bc : ∀ p v, w2.drew.cell? p = some v → w9.cell? p = some v := fun p v hp => (hb9.cell (p := p) (World.block_lt_of_cell? _ _ hp)).trans hp
                obtain ⟨s0, s1, s2, s3, s4, s5, s6, s7, s8⟩ := hS
                exact ⟨bc _ _ s0, bc _ _ s1, bc _ _ s2, bc _ _ s3, bc _ _ s4, bc _ _ s5, bc _ _ s6, bc _ _ s7, bc _ _ s8⟩
              refine hK _ _ hS9 ?_
              clear hb9

              unfold fv
              clear hK K hS
              have hS := hS9
              clear hS9
              try simp only [List.getElem_toArray, List.getElem_cons_zero, List.getElem_cons_succ, Act.put, List.setIfInBounds_toArray, List.set_cons_zero, List.set_cons_succ]
              obtain ⟨y0, y1, y2⟩ := HF9.out.c n hn
              have yf := HF9.out.frz
              refine WE.take (i := 12) (v := ?_) rfl (by kernel_rfl) (fun _ _ _ h => h) (Or.inl ⟨by rfl, ?_⟩) hS ?_
              rotate_left
              · intro w1 hSw; obtain ⟨s0, s1, s2, s3, s4, s5, s6, s7, s8⟩ := hSw; go_simp; first | done | rfl
              try simp only [List.getElem_toArray, List.getElem_cons_zero, List.getElem_cons_succ, Act.put, List.setIfInBounds_toArray, List.set_cons_zero, List.set_cons_succ]
              refine WE.last rfl (by kernel_rfl) (fun K hK => ?_)
              rw [if_pos (by rfl)]
              go_simp
              refine hK _ _ ?_
              clear hK K
              have HT8 : Hid (RQ w fb N L res (i + 1) (passF R ⟨5, op, (n : Int), (p : Int), (q : Int), xk⟩) l v _) :=
                RQ.next HT.out HG.out (by simp) HXI.out (by rw [HAC2.out, List.append_nil]) (by rw [HPF.out HG.out]; exact HF9.out.put n ⟨fk, fa, fc⟩ HO.out) HA9.out HB9.out ((Ch.refl fb w9).put n _ _ _) HFW.out
              try simp only [List.getElem_toArray, List.getElem_cons_zero, List.getElem_cons_succ, Act.put, List.setIfInBounds_toArray, List.set_cons_zero, List.set_cons_succ]
              go_wp2_with fail
              try simp only [List.getElem_toArray, List.getElem_cons_zero, List.getElem_cons_succ, Act.put, List.setIfInBounds_toArray, List.set_cons_zero, List.set_cons_succ]
              go_roundw
              case rel => exact ⟨i + 1, _, _, _, by go_num, rfl, by omega, HT8⟩
              case measure => simp [intOf]; omega
            case pos =>
              have HOP : Hid (op = 4 ∨ op = 5) := h4
              rw [if_pos h4] at HGB
              clear h4
              have hop : (op == 4) = true ∨ ((op == 4) = false ∧ (op == 5) = true) := by
                rcases HOP.out with h | h
                · left; simp [h]
                · right; simp [h]
              by_cases hgo : ck = true ∧ ca = 0 ∧ ¬ cc = 0
              · obtain ⟨hck, hca, hcc⟩ := hgo
                have c0b : (cc == 0) = false := by simpa using hcc
                have c1b : (ca != 0) = false := by simpa using hca
                have c1e : (ca == 0) = true := by simpa using hca
                have HG : Hid (goB R ⟨5, op, (n : Int), (p : Int), (q : Int), xk⟩ = true) := by show _ = _; rw [HGB.out, c0b, c1e, hck]; rfl
                clear HGB hcc hca c1e HOP
                subst hck
                rcases hop with o4 | ⟨o4, o5⟩
                · go_upto_region 30 with fail
                  rw [HBX.out]
                  generalize hW : wr.alloc _ = w0
                  have HX0 : Hid (w0.heap[bx]? = some (.cells #[.int .i64 5, .int .i64 op, .int .i64 (n : Int), .int .i64 (p : Int), .int .i64 (q : Int), .int .i64 xk] 53)) := by show _ = _; rw [← hW, ← HBX.out]; exact heap_alloc_new _ _
                  have HB0 : Hid (Below wr.heap.size wr w0) := by show Below _ _ _; rw [← hW]; exact bl1 _ _
                  clear hW c0 c1 c2 c3 c4 c5 d0 d1 d2 HDL
                  obtain ⟨d0, d1, d2⟩ := (HT.out.fbk.below HB0.out).c q hq
                  rw [HEd.out] at d0 d1 d2
                  have HF0 : Hid (FR w0 fb R) := HT.out.fbk.below HB0.out
                  have k0 : w0.cell? ⟨bx, 0, none⟩ = some (.int .i64 5) := (cell_of_row _ _ 0 _ _ _ HX0.out).trans rfl
                  have k1 : w0.cell? ⟨bx, 1, none⟩ = some (.int .i64 op) := (cell_of_row _ _ 1 _ _ _ HX0.out).trans rfl
                  have k2 : w0.cell? ⟨bx, 2, none⟩ = some (.int .i64 (n : Int)) := (cell_of_row _ _ 2 _ _ _ HX0.out).trans rfl
                  have k3 : w0.cell? ⟨bx, 3, none⟩ = some (.int .i64 (p : Int)) := (cell_of_row _ _ 3 _ _ _ HX0.out).trans rfl
                  have k4 : w0.cell? ⟨bx, 4, none⟩ = some (.int .i64 (q : Int)) := (cell_of_row _ _ 4 _ _ _ HX0.out).trans rfl
                  have k5 : w0.cell? ⟨bx, 5, none⟩ = some (.int .i64 xk) := (cell_of_row _ _ 5 _ _ _ HX0.out).trans rfl
                  go_upto_region 31 with fail
                  generalize hbd : w0.heap.size = bd
                  have HBD : Hid (w0.heap.size = bd) := hbd
                  clear hbd
                  generalize hV : w0.alloc _ = w2
                  have HXD : Hid (w2.heap[bd]? = some (.cells #[.bool true, .int .i64 ca, .int .i64 cc] 33)) := by show _ = _; rw [← hV, ← HBD.out]; exact heap_alloc_new _ _
                  have HBV : Hid (Below w0.heap.size w0 w2) := by show Below _ _ _; rw [← hV]; exact bl1 _ _
                  clear hV d0 d1 d2 k0 k1 k2 k3 k4 k5
                  have HX2 : Hid (w2.heap[bx]? = some (.cells #[.int .i64 5, .int .i64 op, .int .i64 (n : Int), .int .i64 (p : Int), .int .i64 (q : Int), .int .i64 xk] 53)) := (HBV.out.block bx (Array.getElem?_eq_some_iff.1 HX0.out).1).trans HX0.out
                  have HF2 : Hid (FR w2 fb R) := HF0.out.below HBV.out
                  have HA2 : Hid (AR w2 (fb + 1) v l) := (HT.out.az.below HB0.out).below HBV.out
                  have HB2 : Hid (Below w.heap.size w w2) := by
                    have h1 := HT.out.bl.trans (HB0.out.mono HT.out.bl.size)
                    exact h1.trans (HBV.out.mono h1.size)
                  have k0 : w2.cell? ⟨bx, 0, none⟩ = some (.int .i64 5) := (cell_of_row _ _ 0 _ _ _ HX2.out).trans rfl
                  have k1 : w2.cell? ⟨bx, 1, none⟩ = some (.int .i64 op) := (cell_of_row _ _ 1 _ _ _ HX2.out).trans rfl
                  have k2 : w2.cell? ⟨bx, 2, none⟩ = some (.int .i64 (n : Int)) := (cell_of_row _ _ 2 _ _ _ HX2.out).trans rfl
                  have k3 : w2.cell? ⟨bx, 3, none⟩ = some (.int .i64 (p : Int)) := (cell_of_row _ _ 3 _ _ _ HX2.out).trans rfl
                  have k4 : w2.cell? ⟨bx, 4, none⟩ = some (.int .i64 (q : Int)) := (cell_of_row _ _ 4 _ _ _ HX2.out).trans rfl
                  have k5 : w2.cell? ⟨bx, 5, none⟩ = some (.int .i64 xk) := (cell_of_row _ _ 5 _ _ _ HX2.out).trans rfl
                  have z0 : w2.cell? ⟨bd, 0, none⟩ = some (.bool true) := (cell_of_row _ _ 0 _ _ _ HXD.out).trans rfl
                  have z1 : w2.cell? ⟨bd, 1, none⟩ = some (.int .i64 ca) := (cell_of_row _ _ 1 _ _ _ HXD.out).trans rfl
                  have z2 : w2.cell? ⟨bd, 2, none⟩ = some (.int .i64 cc) := (cell_of_row _ _ 2 _ _ _ HXD.out).trans rfl
                  obtain ⟨g0, g1, g2⟩ := HF2.out.c p hp
                  rw [HEg.out] at g0 g1 g2
                  go_wp2_with fail
                  refine WE.start (fun w' => w'.cell? ⟨bx, 1, none⟩ = some (.int .i64 op) ∧ w'.cell? ⟨bx, 2, none⟩ = some (.int .i64 (n : Int)) ∧ w'.cell? ⟨bx, 3, none⟩ = some (.int .i64 (p : Int)) ∧ w'.cell? ⟨fb, p * 3, none⟩ = some (.bool bk) ∧ w'.cell? ⟨fb, p * 3 + 1, none⟩ = some (.int .i64 ba) ∧ w'.cell? ⟨fb, p * 3 + 2, none⟩ = some (.int .i64 bc) ∧ w'.cell? ⟨bd, 0, none⟩ = some (.bool true) ∧ w'.cell? ⟨bd, 1, none⟩ = some (.int .i64 ca) ∧ w'.cell? ⟨bd, 2, none⟩ = some (.int .i64 cc)) 13 14 #[false, false, false, false, false, false, false, false, false, false, false, false, false, false] rfl rfl (by kernel_rfl) ⟨k1, k2, k3, g0, g1, g2, z0, z1, z2⟩ (fun hS => ?_)
                  refine WE.take (i := 0) (v := ?_) rfl (by kernel_rfl) (fun _ _ _ h => h) (Or.inl ⟨by rfl, ?_⟩) hS ?_
                  rotate_left
                  · intro w1 hSw; obtain ⟨s0, s1, s2, s3, s4, s5, s6, s7, s8⟩ := hSw; go_simp; first | done | rfl
                  try simp only [List.getElem_toArray, List.getElem_cons_zero, List.getElem_cons_succ, Act.put, List.setIfInBounds_toArray, List.set_cons_zero, List.set_cons_succ]
                  refine WE.take (i := 1) (v := ?_) rfl (by kernel_rfl) (fun _ _ _ h => h) (Or.inl ⟨by rfl, ?_⟩) hS ?_
                  rotate_left
                  · intro w1 hSw; obtain ⟨s0, s1, s2, s3, s4, s5, s6, s7, s8⟩ := hSw; go_simp; first | done | rfl
                  try simp only [List.getElem_toArray, List.getElem_cons_zero, List.getElem_cons_succ, Act.put, List.setIfInBounds_toArray, List.set_cons_zero, List.set_cons_succ]
                  refine WE.take (i := 2) (v := ?_) rfl (by kernel_rfl) (fun _ _ _ h => h) (Or.inl ⟨by rfl, ?_⟩) hS ?_
                  rotate_left
                  · intro w1 hSw; obtain ⟨s0, s1, s2, s3, s4, s5, s6, s7, s8⟩ := hSw; go_simp; first | done | rfl
                  try simp only [List.getElem_toArray, List.getElem_cons_zero, List.getElem_cons_succ, Act.put, List.setIfInBounds_toArray, List.set_cons_zero, List.set_cons_succ]
                  refine WE.take (i := 3) (v := ?_) rfl (by kernel_rfl) (fun _ _ _ h => h) (Or.inl ⟨by rfl, ?_⟩) hS ?_
                  rotate_left
                  · intro w1 hSw; obtain ⟨s0, s1, s2, s3, s4, s5, s6, s7, s8⟩ := hSw; go_simp; first | done | rfl
                  try simp only [List.getElem_toArray, List.getElem_cons_zero, List.getElem_cons_succ, Act.put, List.setIfInBounds_toArray, List.set_cons_zero, List.set_cons_succ]
                  refine WE.take (i := 4) (v := ?_) rfl (by kernel_rfl) (fun _ _ _ h => h) (Or.inl ⟨by rfl, ?_⟩) hS ?_
                  rotate_left
                  · intro w1 hSw; obtain ⟨s0, s1, s2, s3, s4, s5, s6, s7, s8⟩ := hSw; go_simp; first | done | rfl
                  try simp only [List.getElem_toArray, List.getElem_cons_zero, List.getElem_cons_succ, Act.put, List.setIfInBounds_toArray, List.set_cons_zero, List.set_cons_succ]
                  refine WE.take (i := 5) (v := ?_) rfl (by kernel_rfl) (fun _ _ _ h => h) (Or.inl ⟨by rfl, ?_⟩) hS ?_
                  rotate_left
                  · intro w1 hSw; obtain ⟨s0, s1, s2, s3, s4, s5, s6, s7, s8⟩ := hSw; go_simp; first | done | rfl
                  try simp only [List.getElem_toArray, List.getElem_cons_zero, List.getElem_cons_succ, Act.put, List.setIfInBounds_toArray, List.set_cons_zero, List.set_cons_succ]
                  refine WE.take (i := 6) (v := ?_) rfl (by kernel_rfl) (fun _ _ _ h => h) (Or.inl ⟨by rfl, ?_⟩) hS ?_
                  rotate_left
                  · intro w1 hSw; obtain ⟨s0, s1, s2, s3, s4, s5, s6, s7, s8⟩ := hSw; go_simp; first | done | rfl
                  try simp only [List.getElem_toArray, List.getElem_cons_zero, List.getElem_cons_succ, Act.put, List.setIfInBounds_toArray, List.set_cons_zero, List.set_cons_succ]
                  refine WE.take (i := 7) (v := ?_) rfl (by kernel_rfl) (fun _ _ _ h => h) (Or.inl ⟨by rfl, ?_⟩) hS ?_
                  rotate_left
                  · intro w1 hSw; obtain ⟨s0, s1, s2, s3, s4, s5, s6, s7, s8⟩ := hSw; go_simp; first | done | rfl
                  try simp only [List.getElem_toArray, List.getElem_cons_zero, List.getElem_cons_succ, Act.put, List.setIfInBounds_toArray, List.set_cons_zero, List.set_cons_succ]
                  refine WE.take (i := 8) (v := ?_) rfl (by kernel_rfl) (fun _ _ _ h => h) (Or.inl ⟨by rfl, ?_⟩) hS ?_
                  rotate_left
                  · intro w1 hSw; obtain ⟨s0, s1, s2, s3, s4, s5, s6, s7, s8⟩ := hSw; go_simp; first | done | rfl
                  try simp only [List.getElem_toArray, List.getElem_cons_zero, List.getElem_cons_succ, Act.put, List.setIfInBounds_toArray, List.set_cons_zero, List.set_cons_succ]
                  refine WE.take (i := 9) (v := ?_) rfl (by kernel_rfl) (fun _ _ _ h => h) (Or.inl ⟨by rfl, ?_⟩) hS ?_
                  rotate_left
                  · intro w1 hSw; obtain ⟨s0, s1, s2, s3, s4, s5, s6, s7, s8⟩ := hSw; go_simp; first | done | rfl
                  try simp only [List.getElem_toArray, List.getElem_cons_zero, List.getElem_cons_succ, Act.put, List.setIfInBounds_toArray, List.set_cons_zero, List.set_cons_succ]
                  refine WE.take (i := 10) (v := ?_) rfl (by kernel_rfl) (fun _ _ _ h => h) (Or.inl ⟨by rfl, ?_⟩) hS ?_
                  rotate_left
                  · intro w1 hSw; obtain ⟨s0, s1, s2, s3, s4, s5, s6, s7, s8⟩ := hSw; go_simp; first | done | rfl
                  try simp only [List.getElem_toArray, List.getElem_cons_zero, List.getElem_cons_succ, Act.put, List.setIfInBounds_toArray, List.set_cons_zero, List.set_cons_succ]
                  refine WE.step (i := 11) rfl (by kernel_rfl) (fun K hK => ?_)
                  rw [if_pos (by rfl)]
                  go_simp
                  refine (HK.out _).mono ?_
                  rintro e w9 ⟨rfl, hb9⟩
                  have HF9 : Hid (FR w9 fb R) := HF2.out.drew.below hb9
                  have HA9 : Hid (AR w9 (fb + 1) v l) := (show AR w2.drew (fb + 1) v l from HA2.out).below hb9
                  have HB9 : Hid (Below w.heap.size w w9) := (below_drew HB2.out).trans (hb9.mono HB2.out.size)
                  have HC9 : Hid (Ch fb w2 w9) := (show Ch fb w2.drew w9 from Ch.of hb9) |> fun h => ⟨h.os, h.tape, h.output, h.size, h.block⟩
                  have hS9 : (fun w' => w'.cell? ⟨bx, 1, none⟩ = some (.int .i64 op) ∧ w'.cell? ⟨bx, 2, none⟩ = some (.int .i64 (n : Int)) ∧ w'.cell? ⟨bx, 3, none⟩ = some (.int .i64 (p : Int)) ∧ w'.cell? ⟨fb, p * 3, none⟩ = some (.bool bk) ∧ w'.cell? ⟨fb, p * 3 + 1, none⟩ = some (.int .i64 ba) ∧ w'.cell? ⟨fb, p * 3 + 2, none⟩ = some (.int .i64 bc) ∧ w'.cell? ⟨bd, 0, none⟩ = some (.bool true) ∧ w'.cell? ⟨bd, 1, none⟩ = some (.int .i64 ca) ∧ w'.cell? ⟨bd, 2, none⟩ = some (.int .i64 cc)) w9 := by
                    have bc : ∀ p v, w2.drew.cell? p = some v → w9.cell? p = some v := fun p v hp => (hb9.cell (p := p) (World.block_lt_of_cell? _ _ hp)).trans hp
                    obtain ⟨s0, s1, s2, s3, s4, s5, s6, s7, s8⟩ := hS
                    exact ⟨bc _ _ s0, bc _ _ s1, bc _ _ s2, bc _ _ s3, bc _ _ s4, bc _ _ s5, bc _ _ s6, bc _ _ s7, bc _ _ s8⟩
                  refine hK _ _ hS9 ?_
                  clear hb9

                  unfold fv
                  clear hK K hS
                  have hS := hS9
                  clear hS9
                  try simp only [List.getElem_toArray, List.getElem_cons_zero, List.getElem_cons_succ, Act.put, List.setIfInBounds_toArray, List.set_cons_zero, List.set_cons_succ]
                  obtain ⟨y0, y1, y2⟩ := HF9.out.c n hn
                  have yf := HF9.out.frz
                  refine WE.take (i := 12) (v := ?_) rfl (by kernel_rfl) (fun _ _ _ h => h) (Or.inl ⟨by rfl, ?_⟩) hS ?_
                  rotate_left
                  · intro w1 hSw; obtain ⟨s0, s1, s2, s3, s4, s5, s6, s7, s8⟩ := hSw; go_simp; first | done | rfl
                  try simp only [List.getElem_toArray, List.getElem_cons_zero, List.getElem_cons_succ, Act.put, List.setIfInBounds_toArray, List.set_cons_zero, List.set_cons_succ]
                  refine WE.last rfl (by kernel_rfl) (fun K hK => ?_)
                  rw [if_pos (by rfl)]
                  go_simp
                  refine hK _ _ ?_
                  clear hK K
                  have HT8 : Hid (RQ w fb N L res (i + 1) (passF R ⟨5, op, (n : Int), (p : Int), (q : Int), xk⟩) l v _) :=
                    RQ.next HT.out HG.out (by simp) HXI.out (by rw [HAC2.out, List.append_nil]) (by rw [HPF.out HG.out]; exact HF9.out.put n ⟨fk, fa, fc⟩ HO.out) HA9.out HB9.out ((Ch.refl fb w9).put n _ _ _) HFW.out
                  try simp only [List.getElem_toArray, List.getElem_cons_zero, List.getElem_cons_succ, Act.put, List.setIfInBounds_toArray, List.set_cons_zero, List.set_cons_succ]
                  go_wp2_with fail
                  try simp only [List.getElem_toArray, List.getElem_cons_zero, List.getElem_cons_succ, Act.put, List.setIfInBounds_toArray, List.set_cons_zero, List.set_cons_succ]
                  go_roundw
                  case rel => exact ⟨i + 1, _, _, _, by go_num, rfl, by omega, HT8⟩
                  case measure => simp [intOf]; omega
                · go_upto_region 30 with fail
                  rw [HBX.out]
                  generalize hW : wr.alloc _ = w0
                  have HX0 : Hid (w0.heap[bx]? = some (.cells #[.int .i64 5, .int .i64 op, .int .i64 (n : Int), .int .i64 (p : Int), .int .i64 (q : Int), .int .i64 xk] 53)) := by show _ = _; rw [← hW, ← HBX.out]; exact heap_alloc_new _ _
                  have HB0 : Hid (Below wr.heap.size wr w0) := by show Below _ _ _; rw [← hW]; exact bl1 _ _
                  clear hW c0 c1 c2 c3 c4 c5 d0 d1 d2 HDL
                  obtain ⟨d0, d1, d2⟩ := (HT.out.fbk.below HB0.out).c q hq
                  rw [HEd.out] at d0 d1 d2
                  have HF0 : Hid (FR w0 fb R) := HT.out.fbk.below HB0.out
                  have k0 : w0.cell? ⟨bx, 0, none⟩ = some (.int .i64 5) := (cell_of_row _ _ 0 _ _ _ HX0.out).trans rfl
                  have k1 : w0.cell? ⟨bx, 1, none⟩ = some (.int .i64 op) := (cell_of_row _ _ 1 _ _ _ HX0.out).trans rfl
                  have k2 : w0.cell? ⟨bx, 2, none⟩ = some (.int .i64 (n : Int)) := (cell_of_row _ _ 2 _ _ _ HX0.out).trans rfl
                  have k3 : w0.cell? ⟨bx, 3, none⟩ = some (.int .i64 (p : Int)) := (cell_of_row _ _ 3 _ _ _ HX0.out).trans rfl
                  have k4 : w0.cell? ⟨bx, 4, none⟩ = some (.int .i64 (q : Int)) := (cell_of_row _ _ 4 _ _ _ HX0.out).trans rfl
                  have k5 : w0.cell? ⟨bx, 5, none⟩ = some (.int .i64 xk) := (cell_of_row _ _ 5 _ _ _ HX0.out).trans rfl
                  go_upto_region 31 with fail
                  generalize hbd : w0.heap.size = bd
                  have HBD : Hid (w0.heap.size = bd) := hbd
                  clear hbd
                  generalize hV : w0.alloc _ = w2
                  have HXD : Hid (w2.heap[bd]? = some (.cells #[.bool true, .int .i64 ca, .int .i64 cc] 33)) := by show _ = _; rw [← hV, ← HBD.out]; exact heap_alloc_new _ _
                  have HBV : Hid (Below w0.heap.size w0 w2) := by show Below _ _ _; rw [← hV]; exact bl1 _ _
                  clear hV d0 d1 d2 k0 k1 k2 k3 k4 k5
                  have HX2 : Hid (w2.heap[bx]? = some (.cells #[.int .i64 5, .int .i64 op, .int .i64 (n : Int), .int .i64 (p : Int), .int .i64 (q : Int), .int .i64 xk] 53)) := (HBV.out.block bx (Array.getElem?_eq_some_iff.1 HX0.out).1).trans HX0.out
                  have HF2 : Hid (FR w2 fb R) := HF0.out.below HBV.out
                  have HA2 : Hid (AR w2 (fb + 1) v l) := (HT.out.az.below HB0.out).below HBV.out
                  have HB2 : Hid (Below w.heap.size w w2) := by
                    have h1 := HT.out.bl.trans (HB0.out.mono HT.out.bl.size)
                    exact h1.trans (HBV.out.mono h1.size)
                  have k0 : w2.cell? ⟨bx, 0, none⟩ = some (.int .i64 5) := (cell_of_row _ _ 0 _ _ _ HX2.out).trans rfl
                  have k1 : w2.cell? ⟨bx, 1, none⟩ = some (.int .i64 op) := (cell_of_row _ _ 1 _ _ _ HX2.out).trans rfl
                  have k2 : w2.cell? ⟨bx, 2, none⟩ = some (.int .i64 (n : Int)) := (cell_of_row _ _ 2 _ _ _ HX2.out).trans rfl
                  have k3 : w2.cell? ⟨bx, 3, none⟩ = some (.int .i64 (p : Int)) := (cell_of_row _ _ 3 _ _ _ HX2.out).trans rfl
                  have k4 : w2.cell? ⟨bx, 4, none⟩ = some (.int .i64 (q : Int)) := (cell_of_row _ _ 4 _ _ _ HX2.out).trans rfl
                  have k5 : w2.cell? ⟨bx, 5, none⟩ = some (.int .i64 xk) := (cell_of_row _ _ 5 _ _ _ HX2.out).trans rfl
                  have z0 : w2.cell? ⟨bd, 0, none⟩ = some (.bool true) := (cell_of_row _ _ 0 _ _ _ HXD.out).trans rfl
                  have z1 : w2.cell? ⟨bd, 1, none⟩ = some (.int .i64 ca) := (cell_of_row _ _ 1 _ _ _ HXD.out).trans rfl
                  have z2 : w2.cell? ⟨bd, 2, none⟩ = some (.int .i64 cc) := (cell_of_row _ _ 2 _ _ _ HXD.out).trans rfl
                  obtain ⟨g0, g1, g2⟩ := HF2.out.c p hp
                  rw [HEg.out] at g0 g1 g2
                  go_wp2_with fail
                  refine WE.start (fun w' => w'.cell? ⟨bx, 1, none⟩ = some (.int .i64 op) ∧ w'.cell? ⟨bx, 2, none⟩ = some (.int .i64 (n : Int)) ∧ w'.cell? ⟨bx, 3, none⟩ = some (.int .i64 (p : Int)) ∧ w'.cell? ⟨fb, p * 3, none⟩ = some (.bool bk) ∧ w'.cell? ⟨fb, p * 3 + 1, none⟩ = some (.int .i64 ba) ∧ w'.cell? ⟨fb, p * 3 + 2, none⟩ = some (.int .i64 bc) ∧ w'.cell? ⟨bd, 0, none⟩ = some (.bool true) ∧ w'.cell? ⟨bd, 1, none⟩ = some (.int .i64 ca) ∧ w'.cell? ⟨bd, 2, none⟩ = some (.int .i64 cc)) 13 14 #[false, false, false, false, false, false, false, false, false, false, false, false, false, false] rfl rfl (by kernel_rfl) ⟨k1, k2, k3, g0, g1, g2, z0, z1, z2⟩ (fun hS => ?_)
                  refine WE.take (i := 0) (v := ?_) rfl (by kernel_rfl) (fun _ _ _ h => h) (Or.inl ⟨by rfl, ?_⟩) hS ?_
                  rotate_left
                  · intro w1 hSw; obtain ⟨s0, s1, s2, s3, s4, s5, s6, s7, s8⟩ := hSw; go_simp; first | done | rfl
                  try simp only [List.getElem_toArray, List.getElem_cons_zero, List.getElem_cons_succ, Act.put, List.setIfInBounds_toArray, List.set_cons_zero, List.set_cons_succ]
                  refine WE.take (i := 1) (v := ?_) rfl (by kernel_rfl) (fun _ _ _ h => h) (Or.inl ⟨by rfl, ?_⟩) hS ?_
                  rotate_left
                  · intro w1 hSw; obtain ⟨s0, s1, s2, s3, s4, s5, s6, s7, s8⟩ := hSw; go_simp; first | done | rfl
                  try simp only [List.getElem_toArray, List.getElem_cons_zero, List.getElem_cons_succ, Act.put, List.setIfInBounds_toArray, List.set_cons_zero, List.set_cons_succ]
                  refine WE.take (i := 2) (v := ?_) rfl (by kernel_rfl) (fun _ _ _ h => h) (Or.inl ⟨by rfl, ?_⟩) hS ?_
                  rotate_left
                  · intro w1 hSw; obtain ⟨s0, s1, s2, s3, s4, s5, s6, s7, s8⟩ := hSw; go_simp; first | done | rfl
                  try simp only [List.getElem_toArray, List.getElem_cons_zero, List.getElem_cons_succ, Act.put, List.setIfInBounds_toArray, List.set_cons_zero, List.set_cons_succ]
                  refine WE.take (i := 3) (v := ?_) rfl (by kernel_rfl) (fun _ _ _ h => h) (Or.inl ⟨by rfl, ?_⟩) hS ?_
                  rotate_left
                  · intro w1 hSw; obtain ⟨s0, s1, s2, s3, s4, s5, s6, s7, s8⟩ := hSw; go_simp; first | done | rfl
                  try simp only [List.getElem_toArray, List.getElem_cons_zero, List.getElem_cons_succ, Act.put, List.setIfInBounds_toArray, List.set_cons_zero, List.set_cons_succ]
                  refine WE.take (i := 4) (v := ?_) rfl (by kernel_rfl) (fun _ _ _ h => h) (Or.inl ⟨by rfl, ?_⟩) hS ?_
                  rotate_left
                  · intro w1 hSw; obtain ⟨s0, s1, s2, s3, s4, s5, s6, s7, s8⟩ := hSw; go_simp; first | done | rfl
                  try simp only [List.getElem_toArray, List.getElem_cons_zero, List.getElem_cons_succ, Act.put, List.setIfInBounds_toArray, List.set_cons_zero, List.set_cons_succ]
                  refine WE.take (i := 5) (v := ?_) rfl (by kernel_rfl) (fun _ _ _ h => h) (Or.inl ⟨by rfl, ?_⟩) hS ?_
                  rotate_left
                  · intro w1 hSw; obtain ⟨s0, s1, s2, s3, s4, s5, s6, s7, s8⟩ := hSw; go_simp; first | done | rfl
                  try simp only [List.getElem_toArray, List.getElem_cons_zero, List.getElem_cons_succ, Act.put, List.setIfInBounds_toArray, List.set_cons_zero, List.set_cons_succ]
                  refine WE.take (i := 6) (v := ?_) rfl (by kernel_rfl) (fun _ _ _ h => h) (Or.inl ⟨by rfl, ?_⟩) hS ?_
                  rotate_left
                  · intro w1 hSw; obtain ⟨s0, s1, s2, s3, s4, s5, s6, s7, s8⟩ := hSw; go_simp; first | done | rfl
                  try simp only [List.getElem_toArray, List.getElem_cons_zero, List.getElem_cons_succ, Act.put, List.setIfInBounds_toArray, List.set_cons_zero, List.set_cons_succ]
                  refine WE.take (i := 7) (v := ?_) rfl (by kernel_rfl) (fun _ _ _ h => h) (Or.inl ⟨by rfl, ?_⟩) hS ?_
                  rotate_left
                  · intro w1 hSw; obtain ⟨s0, s1, s2, s3, s4, s5, s6, s7, s8⟩ := hSw; go_simp; first | done | rfl
                  try simp only [List.getElem_toArray, List.getElem_cons_zero, List.getElem_cons_succ, Act.put, List.setIfInBounds_toArray, List.set_cons_zero, List.set_cons_succ]
                  refine WE.take (i := 8) (v := ?_) rfl (by kernel_rfl) (fun _ _ _ h => h) (Or.inl ⟨by rfl, ?_⟩) hS ?_
                  rotate_left
                  · intro w1 hSw; obtain ⟨s0, s1, s2, s3, s4, s5, s6, s7, s8⟩ := hSw; go_simp; first | done | rfl
                  try simp only [List.getElem_toArray, List.getElem_cons_zero, List.getElem_cons_succ, Act.put, List.setIfInBounds_toArray, List.set_cons_zero, List.set_cons_succ]
                  refine WE.take (i := 9) (v := ?_) rfl (by kernel_rfl) (fun _ _ _ h => h) (Or.inl ⟨by rfl, ?_⟩) hS ?_
                  rotate_left
                  · intro w1 hSw; obtain ⟨s0, s1, s2, s3, s4, s5, s6, s7, s8⟩ := hSw; go_simp; first | done | rfl
                  try simp only [List.getElem_toArray, List.getElem_cons_zero, List.getElem_cons_succ, Act.put, List.setIfInBounds_toArray, List.set_cons_zero, List.set_cons_succ]
                  refine WE.take (i := 10) (v := ?_) rfl (by kernel_rfl) (fun _ _ _ h => h) (Or.inl ⟨by rfl, ?_⟩) hS ?_
                  rotate_left
                  · intro w1 hSw; obtain ⟨s0, s1, s2, s3, s4, s5, s6, s7, s8⟩ := hSw; go_simp; first | done | rfl
                  try simp only [List.getElem_toArray, List.getElem_cons_zero, List.getElem_cons_succ, Act.put, List.setIfInBounds_toArray, List.set_cons_zero, List.set_cons_succ]
                  refine WE.step (i := 11) rfl (by kernel_rfl) (fun K hK => ?_)
                  rw [if_pos (by rfl)]
                  go_simp
                  refine (HK.out _).mono ?_
                  rintro e w9 ⟨rfl, hb9⟩
                  have HF9 : Hid (FR w9 fb R) := HF2.out.drew.below hb9
                  have HA9 : Hid (AR w9 (fb + 1) v l) := (show AR w2.drew (fb + 1) v l from HA2.out).below hb9
                  have HB9 : Hid (Below w.heap.size w w9) := (below_drew HB2.out).trans (hb9.mono HB2.out.size)
                  have HC9 : Hid (Ch fb w2 w9) := (show Ch fb w2.drew w9 from Ch.of hb9) |> fun h => ⟨h.os, h.tape, h.output, h.size, h.block⟩
                  have hS9 : (fun w' => w'.cell? ⟨bx, 1, none⟩ = some (.int .i64 op) ∧ w'.cell? ⟨bx, 2, none⟩ = some (.int .i64 (n : Int)) ∧ w'.cell? ⟨bx, 3, none⟩ = some (.int .i64 (p : Int)) ∧ w'.cell? ⟨fb, p * 3, none⟩ = some (.bool bk) ∧ w'.cell? ⟨fb, p * 3 + 1, none⟩ = some (.int .i64 ba) ∧ w'.cell? ⟨fb, p * 3 + 2, none⟩ = some (.int .i64 bc) ∧ w'.cell? ⟨bd, 0, none⟩ = some (.bool true) ∧ w'.cell? ⟨bd, 1, none⟩ = some (.int .i64 ca) ∧ w'.cell? ⟨bd, 2, none⟩ = some (.int .i64 cc)) w9 := by
                    have bc : ∀ p v, w2.drew.cell? p = some v → w9.cell? p = some v := fun p v hp => (hb9.cell (p := p) (World.block_lt_of_cell? _ _ hp)).trans hp
                    obtain ⟨s0, s1, s2, s3, s4, s5, s6, s7, s8⟩ := hS
                    exact ⟨bc _ _ s0, bc _ _ s1, bc _ _ s2, bc _ _ s3, bc _ _ s4, bc _ _ s5, bc _ _ s6, bc _ _ s7, bc _ _ s8⟩
                  refine hK _ _ hS9 ?_
                  clear hb9

                  unfold fv
                  clear hK K hS
                  have hS := hS9
                  clear hS9
                  try simp only [List.getElem_toArray, List.getElem_cons_zero, List.getElem_cons_succ, Act.put, List.setIfInBounds_toArray, List.set_cons_zero, List.set_cons_succ]
                  obtain ⟨y0, y1, y2⟩ := HF9.out.c n hn
                  have yf := HF9.out.frz
                  refine WE.take (i := 12) (v := ?_) rfl (by kernel_rfl) (fun _ _ _ h => h) (Or.inl ⟨by rfl, ?_⟩) hS ?_
                  rotate_left
                  · intro w1 hSw; obtain ⟨s0, s1, s2, s3, s4, s5, s6, s7, s8⟩ := hSw; go_simp; first | done | rfl
                  try simp only [List.getElem_toArray, List.getElem_cons_zero, List.getElem_cons_succ, Act.put, List.setIfInBounds_toArray, List.set_cons_zero, List.set_cons_succ]
                  refine WE.last rfl (by kernel_rfl) (fun K hK => ?_)
                  rw [if_pos (by rfl)]
                  go_simp
                  refine hK _ _ ?_
                  clear hK K
                  have HT8 : Hid (RQ w fb N L res (i + 1) (passF R ⟨5, op, (n : Int), (p : Int), (q : Int), xk⟩) l v _) :=
                    RQ.next HT.out HG.out (by simp) HXI.out (by rw [HAC2.out, List.append_nil]) (by rw [HPF.out HG.out]; exact HF9.out.put n ⟨fk, fa, fc⟩ HO.out) HA9.out HB9.out ((Ch.refl fb w9).put n _ _ _) HFW.out
                  try simp only [List.getElem_toArray, List.getElem_cons_zero, List.getElem_cons_succ, Act.put, List.setIfInBounds_toArray, List.set_cons_zero, List.set_cons_succ]
                  go_wp2_with fail
                  try simp only [List.getElem_toArray, List.getElem_cons_zero, List.getElem_cons_succ, Act.put, List.setIfInBounds_toArray, List.set_cons_zero, List.set_cons_succ]
                  go_roundw
                  case rel => exact ⟨i + 1, _, _, _, by go_num, rfl, by omega, HT8⟩
                  case measure => simp [intOf]; omega
              · have HRN : Hid (res = none) := by
                  refine RQ.none HT.out (by simp) ?_ HXI.out
                  rw [HGB.out]
                  cases ck
                  · rfl
                  · by_cases h1 : ca = 0
                    · by_cases h2 : cc = 0
                      · simp [h1, h2]
                      · exact absurd ⟨rfl, h1, h2⟩ hgo
                    · simp [h1]
                clear HGB HK HO HPF HOP
                cases ck
                · clear hgo
                  rcases hop with o4 | ⟨o4, o5⟩
                  · go_upto_region 30 with fail
                    rw [HBX.out]
                    generalize hW : wr.alloc _ = w0
                    have HX0 : Hid (w0.heap[bx]? = some (.cells #[.int .i64 5, .int .i64 op, .int .i64 (n : Int), .int .i64 (p : Int), .int .i64 (q : Int), .int .i64 xk] 53)) := by show _ = _; rw [← hW, ← HBX.out]; exact heap_alloc_new _ _
                    have HB0 : Hid (Below wr.heap.size wr w0) := by show Below _ _ _; rw [← hW]; exact bl1 _ _
                    clear hW c0 c1 c2 c3 c4 c5 d0 d1 d2 HDL
                    obtain ⟨d0, d1, d2⟩ := (HT.out.fbk.below HB0.out).c q hq
                    rw [HEd.out] at d0 d1 d2
                    have HF0 : Hid (FR w0 fb R) := HT.out.fbk.below HB0.out
                    have k0 : w0.cell? ⟨bx, 0, none⟩ = some (.int .i64 5) := (cell_of_row _ _ 0 _ _ _ HX0.out).trans rfl
                    have k1 : w0.cell? ⟨bx, 1, none⟩ = some (.int .i64 op) := (cell_of_row _ _ 1 _ _ _ HX0.out).trans rfl
                    have k2 : w0.cell? ⟨bx, 2, none⟩ = some (.int .i64 (n : Int)) := (cell_of_row _ _ 2 _ _ _ HX0.out).trans rfl
                    have k3 : w0.cell? ⟨bx, 3, none⟩ = some (.int .i64 (p : Int)) := (cell_of_row _ _ 3 _ _ _ HX0.out).trans rfl
                    have k4 : w0.cell? ⟨bx, 4, none⟩ = some (.int .i64 (q : Int)) := (cell_of_row _ _ 4 _ _ _ HX0.out).trans rfl
                    have k5 : w0.cell? ⟨bx, 5, none⟩ = some (.int .i64 xk) := (cell_of_row _ _ 5 _ _ _ HX0.out).trans rfl
                    go_upto_region 31 with fail
                    generalize hbd : w0.heap.size = bd
                    have HBD : Hid (w0.heap.size = bd) := hbd
                    clear hbd
                    generalize hV : w0.alloc _ = w2
                    have HXD : Hid (w2.heap[bd]? = some (.cells #[.bool false, .int .i64 ca, .int .i64 cc] 33)) := by show _ = _; rw [← hV, ← HBD.out]; exact heap_alloc_new _ _
                    have HBV : Hid (Below w0.heap.size w0 w2) := by show Below _ _ _; rw [← hV]; exact bl1 _ _
                    clear hV d0 d1 d2 k0 k1 k2 k3 k4 k5
                    have HX2 : Hid (w2.heap[bx]? = some (.cells #[.int .i64 5, .int .i64 op, .int .i64 (n : Int), .int .i64 (p : Int), .int .i64 (q : Int), .int .i64 xk] 53)) := (HBV.out.block bx (Array.getElem?_eq_some_iff.1 HX0.out).1).trans HX0.out
                    have HF2 : Hid (FR w2 fb R) := HF0.out.below HBV.out
                    have HA2 : Hid (AR w2 (fb + 1) v l) := (HT.out.az.below HB0.out).below HBV.out
                    have HB2 : Hid (Below w.heap.size w w2) := by
                      have h1 := HT.out.bl.trans (HB0.out.mono HT.out.bl.size)
                      exact h1.trans (HBV.out.mono h1.size)
                    have k0 : w2.cell? ⟨bx, 0, none⟩ = some (.int .i64 5) := (cell_of_row _ _ 0 _ _ _ HX2.out).trans rfl
                    have k1 : w2.cell? ⟨bx, 1, none⟩ = some (.int .i64 op) := (cell_of_row _ _ 1 _ _ _ HX2.out).trans rfl
                    have k2 : w2.cell? ⟨bx, 2, none⟩ = some (.int .i64 (n : Int)) := (cell_of_row _ _ 2 _ _ _ HX2.out).trans rfl
                    have k3 : w2.cell? ⟨bx, 3, none⟩ = some (.int .i64 (p : Int)) := (cell_of_row _ _ 3 _ _ _ HX2.out).trans rfl
                    have k4 : w2.cell? ⟨bx, 4, none⟩ = some (.int .i64 (q : Int)) := (cell_of_row _ _ 4 _ _ _ HX2.out).trans rfl
                    have k5 : w2.cell? ⟨bx, 5, none⟩ = some (.int .i64 xk) := (cell_of_row _ _ 5 _ _ _ HX2.out).trans rfl
                    have z0 : w2.cell? ⟨bd, 0, none⟩ = some (.bool false) := (cell_of_row _ _ 0 _ _ _ HXD.out).trans rfl
                    have z1 : w2.cell? ⟨bd, 1, none⟩ = some (.int .i64 ca) := (cell_of_row _ _ 1 _ _ _ HXD.out).trans rfl
                    have z2 : w2.cell? ⟨bd, 2, none⟩ = some (.int .i64 cc) := (cell_of_row _ _ 2 _ _ _ HXD.out).trans rfl
                    have HF : Hid (P (.returned (.tuple #[.slice none 0 0, .bool false])) w2) := by
                      show P _ _
                      rw [← HP.out, HRN.out]
                      exact ⟨HB2.out, rfl⟩
                    go_wp2_with fail
                    first | exact HF.out | (go_ret2; exact HF.out)
                  · go_upto_region 30 with fail
                    rw [HBX.out]
                    generalize hW : wr.alloc _ = w0
                    have HX0 : Hid (w0.heap[bx]? = some (.cells #[.int .i64 5, .int .i64 op, .int .i64 (n : Int), .int .i64 (p : Int), .int .i64 (q : Int), .int .i64 xk] 53)) := by show _ = _; rw [← hW, ← HBX.out]; exact heap_alloc_new _ _
                    have HB0 : Hid (Below wr.heap.size wr w0) := by show Below _ _ _; rw [← hW]; exact bl1 _ _
                    clear hW c0 c1 c2 c3 c4 c5 d0 d1 d2 HDL
                    obtain ⟨d0, d1, d2⟩ := (HT.out.fbk.below HB0.out).c q hq
                    rw [HEd.out] at d0 d1 d2
                    have HF0 : Hid (FR w0 fb R) := HT.out.fbk.below HB0.out
                    have k0 : w0.cell? ⟨bx, 0, none⟩ = some (.int .i64 5) := (cell_of_row _ _ 0 _ _ _ HX0.out).trans rfl
                    have k1 : w0.cell? ⟨bx, 1, none⟩ = some (.int .i64 op) := (cell_of_row _ _ 1 _ _ _ HX0.out).trans rfl
                    have k2 : w0.cell? ⟨bx, 2, none⟩ = some (.int .i64 (n : Int)) := (cell_of_row _ _ 2 _ _ _ HX0.out).trans rfl
                    have k3 : w0.cell? ⟨bx, 3, none⟩ = some (.int .i64 (p : Int)) := (cell_of_row _ _ 3 _ _ _ HX0.out).trans rfl
                    have k4 : w0.cell? ⟨bx, 4, none⟩ = some (.int .i64 (q : Int)) := (cell_of_row _ _ 4 _ _ _ HX0.out).trans rfl
                    have k5 : w0.cell? ⟨bx, 5, none⟩ = some (.int .i64 xk) := (cell_of_row _ _ 5 _ _ _ HX0.out).trans rfl
                    go_upto_region 31 with fail
                    generalize hbd : w0.heap.size = bd
                    have HBD : Hid (w0.heap.size = bd) := hbd
                    clear hbd
                    generalize hV : w0.alloc _ = w2
                    have HXD : Hid (w2.heap[bd]? = some (.cells #[.bool false, .int .i64 ca, .int .i64 cc] 33)) := by show _ = _; rw [← hV, ← HBD.out]; exact heap_alloc_new _ _
                    have HBV : Hid (Below w0.heap.size w0 w2) := by show Below _ _ _; rw [← hV]; exact bl1 _ _
                    clear hV d0 d1 d2 k0 k1 k2 k3 k4 k5
                    have HX2 : Hid (w2.heap[bx]? = some (.cells #[.int .i64 5, .int .i64 op, .int .i64 (n : Int), .int .i64 (p : Int), .int .i64 (q : Int), .int .i64 xk] 53)) := (HBV.out.block bx (Array.getElem?_eq_some_iff.1 HX0.out).1).trans HX0.out
                    have HF2 : Hid (FR w2 fb R) := HF0.out.below HBV.out
                    have HA2 : Hid (AR w2 (fb + 1) v l) := (HT.out.az.below HB0.out).below HBV.out
                    have HB2 : Hid (Below w.heap.size w w2) := by
                      have h1 := HT.out.bl.trans (HB0.out.mono HT.out.bl.size)
                      exact h1.trans (HBV.out.mono h1.size)
                    have k0 : w2.cell? ⟨bx, 0, none⟩ = some (.int .i64 5) := (cell_of_row _ _ 0 _ _ _ HX2.out).trans rfl
                    have k1 : w2.cell? ⟨bx, 1, none⟩ = some (.int .i64 op) := (cell_of_row _ _ 1 _ _ _ HX2.out).trans rfl
                    have k2 : w2.cell? ⟨bx, 2, none⟩ = some (.int .i64 (n : Int)) := (cell_of_row _ _ 2 _ _ _ HX2.out).trans rfl
                    have k3 : w2.cell? ⟨bx, 3, none⟩ = some (.int .i64 (p : Int)) := (cell_of_row _ _ 3 _ _ _ HX2.out).trans rfl
                    have k4 : w2.cell? ⟨bx, 4, none⟩ = some (.int .i64 (q : Int)) := (cell_of_row _ _ 4 _ _ _ HX2.out).trans rfl
                    have k5 : w2.cell? ⟨bx, 5, none⟩ = some (.int .i64 xk) := (cell_of_row _ _ 5 _ _ _ HX2.out).trans rfl
                    have z0 : w2.cell? ⟨bd, 0, none⟩ = some (.bool false) := (cell_of_row _ _ 0 _ _ _ HXD.out).trans rfl
                    have z1 : w2.cell? ⟨bd, 1, none⟩ = some (.int .i64 ca) := (cell_of_row _ _ 1 _ _ _ HXD.out).trans rfl
                    have z2 : w2.cell? ⟨bd, 2, none⟩ = some (.int .i64 cc) := (cell_of_row _ _ 2 _ _ _ HXD.out).trans rfl
                    have HF : Hid (P (.returned (.tuple #[.slice none 0 0, .bool false])) w2) := by
                      show P _ _
                      rw [← HP.out, HRN.out]
                      exact ⟨HB2.out, rfl⟩
                    go_wp2_with fail
                    first | exact HF.out | (go_ret2; exact HF.out)
                · by_cases h1 : ca = 0
                  · have h2 : cc = 0 := by by_cases h2 : cc = 0; exact h2; exact absurd ⟨rfl, h1, h2⟩ hgo
                    have c1b : (ca != 0) = false := by simpa using h1
                    have c0b : (cc == 0) = true := by simpa using h2
                    clear hgo h1 h2
                    rcases hop with o4 | ⟨o4, o5⟩
                    · go_upto_region 30 with fail
                      rw [HBX.out]
                      generalize hW : wr.alloc _ = w0
                      have HX0 : Hid (w0.heap[bx]? = some (.cells #[.int .i64 5, .int .i64 op, .int .i64 (n : Int), .int .i64 (p : Int), .int .i64 (q : Int), .int .i64 xk] 53)) := by show _ = _; rw [← hW, ← HBX.out]; exact heap_alloc_new _ _
                      have HB0 : Hid (Below wr.heap.size wr w0) := by show Below _ _ _; rw [← hW]; exact bl1 _ _
                      clear hW c0 c1 c2 c3 c4 c5 d0 d1 d2 HDL
                      obtain ⟨d0, d1, d2⟩ := (HT.out.fbk.below HB0.out).c q hq
                      rw [HEd.out] at d0 d1 d2
                      have HF0 : Hid (FR w0 fb R) := HT.out.fbk.below HB0.out
                      have k0 : w0.cell? ⟨bx, 0, none⟩ = some (.int .i64 5) := (cell_of_row _ _ 0 _ _ _ HX0.out).trans rfl
                      have k1 : w0.cell? ⟨bx, 1, none⟩ = some (.int .i64 op) := (cell_of_row _ _ 1 _ _ _ HX0.out).trans rfl
                      have k2 : w0.cell? ⟨bx, 2, none⟩ = some (.int .i64 (n : Int)) := (cell_of_row _ _ 2 _ _ _ HX0.out).trans rfl
                      have k3 : w0.cell? ⟨bx, 3, none⟩ = some (.int .i64 (p : Int)) := (cell_of_row _ _ 3 _ _ _ HX0.out).trans rfl
                      have k4 : w0.cell? ⟨bx, 4, none⟩ = some (.int .i64 (q : Int)) := (cell_of_row _ _ 4 _ _ _ HX0.out).trans rfl
                      have k5 : w0.cell? ⟨bx, 5, none⟩ = some (.int .i64 xk) := (cell_of_row _ _ 5 _ _ _ HX0.out).trans rfl
                      go_upto_region 31 with fail
                      generalize hbd : w0.heap.size = bd
                      have HBD : Hid (w0.heap.size = bd) := hbd
                      clear hbd
                      generalize hV : w0.alloc _ = w2
                      have HXD : Hid (w2.heap[bd]? = some (.cells #[.bool true, .int .i64 ca, .int .i64 cc] 33)) := by show _ = _; rw [← hV, ← HBD.out]; exact heap_alloc_new _ _
                      have HBV : Hid (Below w0.heap.size w0 w2) := by show Below _ _ _; rw [← hV]; exact bl1 _ _
                      clear hV d0 d1 d2 k0 k1 k2 k3 k4 k5
                      have HX2 : Hid (w2.heap[bx]? = some (.cells #[.int .i64 5, .int .i64 op, .int .i64 (n : Int), .int .i64 (p : Int), .int .i64 (q : Int), .int .i64 xk] 53)) := (HBV.out.block bx (Array.getElem?_eq_some_iff.1 HX0.out).1).trans HX0.out
                      have HF2 : Hid (FR w2 fb R) := HF0.out.below HBV.out
                      have HA2 : Hid (AR w2 (fb + 1) v l) := (HT.out.az.below HB0.out).below HBV.out
                      have HB2 : Hid (Below w.heap.size w w2) := by
                        have h1 := HT.out.bl.trans (HB0.out.mono HT.out.bl.size)
                        exact h1.trans (HBV.out.mono h1.size)
                      have k0 : w2.cell? ⟨bx, 0, none⟩ = some (.int .i64 5) := (cell_of_row _ _ 0 _ _ _ HX2.out).trans rfl
                      have k1 : w2.cell? ⟨bx, 1, none⟩ = some (.int .i64 op) := (cell_of_row _ _ 1 _ _ _ HX2.out).trans rfl
                      have k2 : w2.cell? ⟨bx, 2, none⟩ = some (.int .i64 (n : Int)) := (cell_of_row _ _ 2 _ _ _ HX2.out).trans rfl
                      have k3 : w2.cell? ⟨bx, 3, none⟩ = some (.int .i64 (p : Int)) := (cell_of_row _ _ 3 _ _ _ HX2.out).trans rfl
                      have k4 : w2.cell? ⟨bx, 4, none⟩ = some (.int .i64 (q : Int)) := (cell_of_row _ _ 4 _ _ _ HX2.out).trans rfl
                      have k5 : w2.cell? ⟨bx, 5, none⟩ = some (.int .i64 xk) := (cell_of_row _ _ 5 _ _ _ HX2.out).trans rfl
                      have z0 : w2.cell? ⟨bd, 0, none⟩ = some (.bool true) := (cell_of_row _ _ 0 _ _ _ HXD.out).trans rfl
                      have z1 : w2.cell? ⟨bd, 1, none⟩ = some (.int .i64 ca) := (cell_of_row _ _ 1 _ _ _ HXD.out).trans rfl
                      have z2 : w2.cell? ⟨bd, 2, none⟩ = some (.int .i64 cc) := (cell_of_row _ _ 2 _ _ _ HXD.out).trans rfl
                      have HF : Hid (P (.returned (.tuple #[.slice none 0 0, .bool false])) w2) := by
                        show P _ _
                        rw [← HP.out, HRN.out]
                        exact ⟨HB2.out, rfl⟩
                      go_wp2_with fail
                      first | exact HF.out | (go_ret2; exact HF.out)
                    · go_upto_region 30 with fail
                      rw [HBX.out]
                      generalize hW : wr.alloc _ = w0
                      have HX0 : Hid (w0.heap[bx]? = some (.cells #[.int .i64 5, .int .i64 op, .int .i64 (n : Int), .int .i64 (p : Int), .int .i64 (q : Int), .int .i64 xk] 53)) := by show _ = _; rw [← hW, ← HBX.out]; exact heap_alloc_new _ _
                      have HB0 : Hid (Below wr.heap.size wr w0) := by show Below _ _ _; rw [← hW]; exact bl1 _ _
                      clear hW c0 c1 c2 c3 c4 c5 d0 d1 d2 HDL
                      obtain ⟨d0, d1, d2⟩ := (HT.out.fbk.below HB0.out).c q hq
                      rw [HEd.out] at d0 d1 d2
                      have HF0 : Hid (FR w0 fb R) := HT.out.fbk.below HB0.out
                      have k0 : w0.cell? ⟨bx, 0, none⟩ = some (.int .i64 5) := (cell_of_row _ _ 0 _ _ _ HX0.out).trans rfl
                      have k1 : w0.cell? ⟨bx, 1, none⟩ = some (.int .i64 op) := (cell_of_row _ _ 1 _ _ _ HX0.out).trans rfl
                      have k2 : w0.cell? ⟨bx, 2, none⟩ = some (.int .i64 (n : Int)) := (cell_of_row _ _ 2 _ _ _ HX0.out).trans rfl
                      have k3 : w0.cell? ⟨bx, 3, none⟩ = some (.int .i64 (p : Int)) := (cell_of_row _ _ 3 _ _ _ HX0.out).trans rfl
                      have k4 : w0.cell? ⟨bx, 4, none⟩ = some (.int .i64 (q : Int)) := (cell_of_row _ _ 4 _ _ _ HX0.out).trans rfl
                      have k5 : w0.cell? ⟨bx, 5, none⟩ = some (.int .i64 xk) := (cell_of_row _ _ 5 _ _ _ HX0.out).trans rfl
                      go_upto_region 31 with fail
                      generalize hbd : w0.heap.size = bd
                      have HBD : Hid (w0.heap.size = bd) := hbd
                      clear hbd
                      generalize hV : w0.alloc _ = w2
                      have HXD : Hid (w2.heap[bd]? = some (.cells #[.bool true, .int .i64 ca, .int .i64 cc] 33)) := by show _ = _; rw [← hV, ← HBD.out]; exact heap_alloc_new _ _
                      have HBV : Hid (Below w0.heap.size w0 w2) := by show Below _ _ _; rw [← hV]; exact bl1 _ _
                      clear hV d0 d1 d2 k0 k1 k2 k3 k4 k5
                      have HX2 : Hid (w2.heap[bx]? = some (.cells #[.int .i64 5, .int .i64 op, .int .i64 (n : Int), .int .i64 (p : Int), .int .i64 (q : Int), .int .i64 xk] 53)) := (HBV.out.block bx (Array.getElem?_eq_some_iff.1 HX0.out).1).trans HX0.out
                      have HF2 : Hid (FR w2 fb R) := HF0.out.below HBV.out
                      have HA2 : Hid (AR w2 (fb + 1) v l) := (HT.out.az.below HB0.out).below HBV.out
                      have HB2 : Hid (Below w.heap.size w w2) := by
                        have h1 := HT.out.bl.trans (HB0.out.mono HT.out.bl.size)
                        exact h1.trans (HBV.out.mono h1.size)
                      have k0 : w2.cell? ⟨bx, 0, none⟩ = some (.int .i64 5) := (cell_of_row _ _ 0 _ _ _ HX2.out).trans rfl
                      have k1 : w2.cell? ⟨bx, 1, none⟩ = some (.int .i64 op) := (cell_of_row _ _ 1 _ _ _ HX2.out).trans rfl
                      have k2 : w2.cell? ⟨bx, 2, none⟩ = some (.int .i64 (n : Int)) := (cell_of_row _ _ 2 _ _ _ HX2.out).trans rfl
                      have k3 : w2.cell? ⟨bx, 3, none⟩ = some (.int .i64 (p : Int)) := (cell_of_row _ _ 3 _ _ _ HX2.out).trans rfl
                      have k4 : w2.cell? ⟨bx, 4, none⟩ = some (.int .i64 (q : Int)) := (cell_of_row _ _ 4 _ _ _ HX2.out).trans rfl
                      have k5 : w2.cell? ⟨bx, 5, none⟩ = some (.int .i64 xk) := (cell_of_row _ _ 5 _ _ _ HX2.out).trans rfl
                      have z0 : w2.cell? ⟨bd, 0, none⟩ = some (.bool true) := (cell_of_row _ _ 0 _ _ _ HXD.out).trans rfl
                      have z1 : w2.cell? ⟨bd, 1, none⟩ = some (.int .i64 ca) := (cell_of_row _ _ 1 _ _ _ HXD.out).trans rfl
                      have z2 : w2.cell? ⟨bd, 2, none⟩ = some (.int .i64 cc) := (cell_of_row _ _ 2 _ _ _ HXD.out).trans rfl
                      have HF : Hid (P (.returned (.tuple #[.slice none 0 0, .bool false])) w2) := by
                        show P _ _
                        rw [← HP.out, HRN.out]
                        exact ⟨HB2.out, rfl⟩
                      go_wp2_with fail
                      first | exact HF.out | (go_ret2; exact HF.out)
                  · have c1b : (ca != 0) = true := by simpa using h1
                    clear hgo h1
                    rcases hop with o4 | ⟨o4, o5⟩
                    · go_upto_region 30 with fail
                      rw [HBX.out]
                      generalize hW : wr.alloc _ = w0
                      have HX0 : Hid (w0.heap[bx]? = some (.cells #[.int .i64 5, .int .i64 op, .int .i64 (n : Int), .int .i64 (p : Int), .int .i64 (q : Int), .int .i64 xk] 53)) := by show _ = _; rw [← hW, ← HBX.out]; exact heap_alloc_new _ _
                      have HB0 : Hid (Below wr.heap.size wr w0) := by show Below _ _ _; rw [← hW]; exact bl1 _ _
                      clear hW c0 c1 c2 c3 c4 c5 d0 d1 d2 HDL
                      obtain ⟨d0, d1, d2⟩ := (HT.out.fbk.below HB0.out).c q hq
                      rw [HEd.out] at d0 d1 d2
                      have HF0 : Hid (FR w0 fb R) := HT.out.fbk.below HB0.out
                      have k0 : w0.cell? ⟨bx, 0, none⟩ = some (.int .i64 5) := (cell_of_row _ _ 0 _ _ _ HX0.out).trans rfl
                      have k1 : w0.cell? ⟨bx, 1, none⟩ = some (.int .i64 op) := (cell_of_row _ _ 1 _ _ _ HX0.out).trans rfl
                      have k2 : w0.cell? ⟨bx, 2, none⟩ = some (.int .i64 (n : Int)) := (cell_of_row _ _ 2 _ _ _ HX0.out).trans rfl
                      have k3 : w0.cell? ⟨bx, 3, none⟩ = some (.int .i64 (p : Int)) := (cell_of_row _ _ 3 _ _ _ HX0.out).trans rfl
                      have k4 : w0.cell? ⟨bx, 4, none⟩ = some (.int .i64 (q : Int)) := (cell_of_row _ _ 4 _ _ _ HX0.out).trans rfl
                      have k5 : w0.cell? ⟨bx, 5, none⟩ = some (.int .i64 xk) := (cell_of_row _ _ 5 _ _ _ HX0.out).trans rfl
                      go_upto_region 31 with fail
                      generalize hbd : w0.heap.size = bd
                      have HBD : Hid (w0.heap.size = bd) := hbd
                      clear hbd
                      generalize hV : w0.alloc _ = w2
                      have HXD : Hid (w2.heap[bd]? = some (.cells #[.bool true, .int .i64 ca, .int .i64 cc] 33)) := by show _ = _; rw [← hV, ← HBD.out]; exact heap_alloc_new _ _
                      have HBV : Hid (Below w0.heap.size w0 w2) := by show Below _ _ _; rw [← hV]; exact bl1 _ _
                      clear hV d0 d1 d2 k0 k1 k2 k3 k4 k5
                      have HX2 : Hid (w2.heap[bx]? = some (.cells #[.int .i64 5, .int .i64 op, .int .i64 (n : Int), .int .i64 (p : Int), .int .i64 (q : Int), .int .i64 xk] 53)) := (HBV.out.block bx (Array.getElem?_eq_some_iff.1 HX0.out).1).trans HX0.out
                      have HF2 : Hid (FR w2 fb R) := HF0.out.below HBV.out
                      have HA2 : Hid (AR w2 (fb + 1) v l) := (HT.out.az.below HB0.out).below HBV.out
                      have HB2 : Hid (Below w.heap.size w w2) := by
                        have h1 := HT.out.bl.trans (HB0.out.mono HT.out.bl.size)
                        exact h1.trans (HBV.out.mono h1.size)
                      have k0 : w2.cell? ⟨bx, 0, none⟩ = some (.int .i64 5) := (cell_of_row _ _ 0 _ _ _ HX2.out).trans rfl
                      have k1 : w2.cell? ⟨bx, 1, none⟩ = some (.int .i64 op) := (cell_of_row _ _ 1 _ _ _ HX2.out).trans rfl
                      have k2 : w2.cell? ⟨bx, 2, none⟩ = some (.int .i64 (n : Int)) := (cell_of_row _ _ 2 _ _ _ HX2.out).trans rfl
                      have k3 : w2.cell? ⟨bx, 3, none⟩ = some (.int .i64 (p : Int)) := (cell_of_row _ _ 3 _ _ _ HX2.out).trans rfl
                      have k4 : w2.cell? ⟨bx, 4, none⟩ = some (.int .i64 (q : Int)) := (cell_of_row _ _ 4 _ _ _ HX2.out).trans rfl
                      have k5 : w2.cell? ⟨bx, 5, none⟩ = some (.int .i64 xk) := (cell_of_row _ _ 5 _ _ _ HX2.out).trans rfl
                      have z0 : w2.cell? ⟨bd, 0, none⟩ = some (.bool true) := (cell_of_row _ _ 0 _ _ _ HXD.out).trans rfl
                      have z1 : w2.cell? ⟨bd, 1, none⟩ = some (.int .i64 ca) := (cell_of_row _ _ 1 _ _ _ HXD.out).trans rfl
                      have z2 : w2.cell? ⟨bd, 2, none⟩ = some (.int .i64 cc) := (cell_of_row _ _ 2 _ _ _ HXD.out).trans rfl
                      have HF : Hid (P (.returned (.tuple #[.slice none 0 0, .bool false])) w2) := by
                        show P _ _
                        rw [← HP.out, HRN.out]
                        exact ⟨HB2.out, rfl⟩
                      go_wp2_with fail
                      first | exact HF.out | (go_ret2; exact HF.out)
                    · go_upto_region 30 with fail
                      rw [HBX.out]
                      generalize hW : wr.alloc _ = w0
                      have HX0 : Hid (w0.heap[bx]? = some (.cells #[.int .i64 5, .int .i64 op, .int .i64 (n : Int), .int .i64 (p : Int), .int .i64 (q : Int), .int .i64 xk] 53)) := by show _ = _; rw [← hW, ← HBX.out]; exact heap_alloc_new _ _
                      have HB0 : Hid (Below wr.heap.size wr w0) := by show Below _ _ _; rw [← hW]; exact bl1 _ _
                      clear hW c0 c1 c2 c3 c4 c5 d0 d1 d2 HDL
                      obtain ⟨d0, d1, d2⟩ := (HT.out.fbk.below HB0.out).c q hq
                      rw [HEd.out] at d0 d1 d2
                      have HF0 : Hid (FR w0 fb R) := HT.out.fbk.below HB0.out
                      have k0 : w0.cell? ⟨bx, 0, none⟩ = some (.int .i64 5) := (cell_of_row _ _ 0 _ _ _ HX0.out).trans rfl
                      have k1 : w0.cell? ⟨bx, 1, none⟩ = some (.int .i64 op) := (cell_of_row _ _ 1 _ _ _ HX0.out).trans rfl
                      have k2 : w0.cell? ⟨bx, 2, none⟩ = some (.int .i64 (n : Int)) := (cell_of_row _ _ 2 _ _ _ HX0.out).trans rfl
                      have k3 : w0.cell? ⟨bx, 3, none⟩ = some (.int .i64 (p : Int)) := (cell_of_row _ _ 3 _ _ _ HX0.out).trans rfl
                      have k4 : w0.cell? ⟨bx, 4, none⟩ = some (.int .i64 (q : Int)) := (cell_of_row _ _ 4 _ _ _ HX0.out).trans rfl
                      have k5 : w0.cell? ⟨bx, 5, none⟩ = some (.int .i64 xk) := (cell_of_row _ _ 5 _ _ _ HX0.out).trans rfl
                      go_upto_region 31 with fail
                      generalize hbd : w0.heap.size = bd
                      have HBD : Hid (w0.heap.size = bd) := hbd
                      clear hbd
                      generalize hV : w0.alloc _ = w2
                      have HXD : Hid (w2.heap[bd]? = some (.cells #[.bool true, .int .i64 ca, .int .i64 cc] 33)) := by show _ = _; rw [← hV, ← HBD.out]; exact heap_alloc_new _ _
                      have HBV : Hid (Below w0.heap.size w0 w2) := by show Below _ _ _; rw [← hV]; exact bl1 _ _
                      clear hV d0 d1 d2 k0 k1 k2 k3 k4 k5
                      have HX2 : Hid (w2.heap[bx]? = some (.cells #[.int .i64 5, .int .i64 op, .int .i64 (n : Int), .int .i64 (p : Int), .int .i64 (q : Int), .int .i64 xk] 53)) := (HBV.out.block bx (Array.getElem?_eq_some_iff.1 HX0.out).1).trans HX0.out
                      have HF2 : Hid (FR w2 fb R) := HF0.out.below HBV.out
                      have HA2 : Hid (AR w2 (fb + 1) v l) := (HT.out.az.below HB0.out).below HBV.out
                      have HB2 : Hid (Below w.heap.size w w2) := by
                        have h1 := HT.out.bl.trans (HB0.out.mono HT.out.bl.size)
                        exact h1.trans (HBV.out.mono h1.size)
                      have k0 : w2.cell? ⟨bx, 0, none⟩ = some (.int .i64 5) := (cell_of_row _ _ 0 _ _ _ HX2.out).trans rfl
                      have k1 : w2.cell? ⟨bx, 1, none⟩ = some (.int .i64 op) := (cell_of_row _ _ 1 _ _ _ HX2.out).trans rfl
                      have k2 : w2.cell? ⟨bx, 2, none⟩ = some (.int .i64 (n : Int)) := (cell_of_row _ _ 2 _ _ _ HX2.out).trans rfl
                      have k3 : w2.cell? ⟨bx, 3, none⟩ = some (.int .i64 (p : Int)) := (cell_of_row _ _ 3 _ _ _ HX2.out).trans rfl
                      have k4 : w2.cell? ⟨bx, 4, none⟩ = some (.int .i64 (q : Int)) := (cell_of_row _ _ 4 _ _ _ HX2.out).trans rfl
                      have k5 : w2.cell? ⟨bx, 5, none⟩ = some (.int .i64 xk) := (cell_of_row _ _ 5 _ _ _ HX2.out).trans rfl
                      have z0 : w2.cell? ⟨bd, 0, none⟩ = some (.bool true) := (cell_of_row _ _ 0 _ _ _ HXD.out).trans rfl
                      have z1 : w2.cell? ⟨bd, 1, none⟩ = some (.int .i64 ca) := (cell_of_row _ _ 1 _ _ _ HXD.out).trans rfl
                      have z2 : w2.cell? ⟨bd, 2, none⟩ = some (.int .i64 cc) := (cell_of_row _ _ 2 _ _ _ HXD.out).trans rfl
                      have HF : Hid (P (.returned (.tuple #[.slice none 0 0, .bool false])) w2) := by
                        show P _ _
                        rw [← HP.out, HRN.out]
                        exact ⟨HB2.out, rfl⟩
                      go_wp2_with fail
                      first | exact HF.out | (go_ret2; exact HF.out)
          · obtain ⟨n, rfl⟩ : ∃ n : Nat, xa = n := ⟨xa.toNat, by omega⟩
            have hn : n < 16 := by omega
            obtain ⟨p, rfl⟩ : ∃ p : Nat, xb = p := ⟨xb.toNat, by omega⟩
            have hp : p < 16 := by omega
            have HG : Hid (goB R ⟨6, op, (n : Int), (p : Int), xc, xk⟩ = true) := by show _ = _; unfold goB; simp
            have HAC : Hid (accF R ⟨6, op, (n : Int), (p : Int), xc, xk⟩ = [(false, joinF 1 (rgF R (p : Int)) (numF xk))]) := by show _ = _; rw [join_moved]; unfold accF; simp
            have HPF : Hid (passF R ⟨6, op, (n : Int), (p : Int), xc, xk⟩ = R.set n fz) := by show _ = _; unfold passF; simp
            obtain ⟨g, hg⟩ : ∃ g, rgF R (p : Int) = g := ⟨_, rfl⟩
            have HEg : Hid (rgF R (p : Int) = g) := hg
            have HOg : OkF g := by rw [← hg]; exact HT.out.fbk.ok.rg _
            rw [hg] at HAC
            have HK0 : Hid (∀ w, Calls Try.prog 14 #[.int .i64 0, .int .i64 xk] w (FP (numF xk) w)) := fun w => rkept_any 0 xk w
            have HK : Hid (∀ w, Calls Try.prog 16 #[.int .i64 1, fv g, fv (numF xk)] w (FP (joinF 1 g (numF xk)) w)) := fun w => rjoin_any 1 g (numF xk) HOg (okF_kept _ _) w
            generalize joinF 1 g (numF xk) = f at HK HAC
            generalize numF xk = z at HK HK0
            clear hg HOg
            obtain ⟨mk, ma, mc⟩ := f
            obtain ⟨bk, ba, bc⟩ := g
            obtain ⟨zk, za, zc⟩ := z
            unfold fv at HK
            simp only at HK
            go_wp2_with fail
            rw [HBX.out]
            generalize hW : wr.alloc _ = w2
            have HX2 : Hid (w2.heap[bx]? = some (.cells #[.int .i64 6, .int .i64 op, .int .i64 (n : Int), .int .i64 (p : Int), .int .i64 xc, .int .i64 xk] 53)) := by show _ = _; rw [← hW, ← HBX.out]; exact heap_alloc_new _ _
            have HB0 : Hid (Below wr.heap.size wr w2) := by show Below _ _ _; rw [← hW]; exact bl1 _ _
            clear hW c0 c1 c2 c3 c4 c5
            have HF2 : Hid (FR w2 fb R) := HT.out.fbk.below HB0.out
            have HA2 : Hid (AR w2 (fb + 1) v l) := HT.out.az.below HB0.out
            have HB2 : Hid (Below w.heap.size w w2) := HT.out.bl.trans (HB0.out.mono HT.out.bl.size)
            have HSZ : Hid (fb < w2.heap.size ∧ bx < w2.heap.size) := ⟨HF2.out.lt, (Array.getElem?_eq_some_iff.1 HX2.out).1⟩
            have k0 : w2.cell? ⟨bx, 0, none⟩ = some (.int .i64 6) := (cell_of_row _ _ 0 _ _ _ HX2.out).trans rfl
            have k1 : w2.cell? ⟨bx, 1, none⟩ = some (.int .i64 op) := (cell_of_row _ _ 1 _ _ _ HX2.out).trans rfl
            have k2 : w2.cell? ⟨bx, 2, none⟩ = some (.int .i64 (n : Int)) := (cell_of_row _ _ 2 _ _ _ HX2.out).trans rfl
            have k3 : w2.cell? ⟨bx, 3, none⟩ = some (.int .i64 (p : Int)) := (cell_of_row _ _ 3 _ _ _ HX2.out).trans rfl
            have k4 : w2.cell? ⟨bx, 4, none⟩ = some (.int .i64 xc) := (cell_of_row _ _ 4 _ _ _ HX2.out).trans rfl
            have k5 : w2.cell? ⟨bx, 5, none⟩ = some (.int .i64 xk) := (cell_of_row _ _ 5 _ _ _ HX2.out).trans rfl
            have HLM2 : Hid (∀ k, v.ownBlock = some k → k < bx) := HLM.out
            obtain ⟨g0, g1, g2⟩ := HF2.out.c p hp
            rw [HEg.out] at g0 g1 g2
            refine WE.start (fun w' => w'.cell? ⟨bx, 0, none⟩ = some (.int .i64 6) ∧ w'.cell? ⟨bx, 3, none⟩ = some (.int .i64 (p : Int)) ∧ w'.cell? ⟨bx, 5, none⟩ = some (.int .i64 xk) ∧ w'.cell? ⟨fb, p * 3, none⟩ = some (.bool bk) ∧ w'.cell? ⟨fb, p * 3 + 1, none⟩ = some (.int .i64 ba) ∧ w'.cell? ⟨fb, p * 3 + 2, none⟩ = some (.int .i64 bc)) 16 17 #[false, false, false, false, false, false, false, false, false, false, false, false, false, false, false, false, false] rfl rfl (by kernel_rfl) ⟨k0, k3, k5, g0, g1, g2⟩ (fun hS => ?_)
            refine WE.take (i := 0) (v := ?_) rfl (by kernel_rfl) (fun _ _ _ h => h) (Or.inl ⟨by rfl, ?_⟩) hS ?_
            rotate_left
            · intro w1 hSw; obtain ⟨s0, s1, s2, s3, s4, s5⟩ := hSw; go_simp; first | done | rfl
            try simp only [List.getElem_toArray, List.getElem_cons_zero, List.getElem_cons_succ, Act.put, List.setIfInBounds_toArray, List.set_cons_zero, List.set_cons_succ]
            refine WE.take (i := 1) (v := ?_) rfl (by kernel_rfl) (fun _ _ _ h => h) (Or.inl ⟨by rfl, ?_⟩) hS ?_
            rotate_left
            · intro w1 hSw; obtain ⟨s0, s1, s2, s3, s4, s5⟩ := hSw; go_simp; first | done | rfl
            try simp only [List.getElem_toArray, List.getElem_cons_zero, List.getElem_cons_succ, Act.put, List.setIfInBounds_toArray, List.set_cons_zero, List.set_cons_succ]
            refine WE.take (i := 2) (v := ?_) rfl (by kernel_rfl) (fun _ _ _ h => h) (Or.inl ⟨by rfl, ?_⟩) hS ?_
            rotate_left
            · intro w1 hSw; obtain ⟨s0, s1, s2, s3, s4, s5⟩ := hSw; go_simp; first | done | rfl
            try simp only [List.getElem_toArray, List.getElem_cons_zero, List.getElem_cons_succ, Act.put, List.setIfInBounds_toArray, List.set_cons_zero, List.set_cons_succ]
            refine WE.take (i := 3) (v := ?_) rfl (by kernel_rfl) (fun _ _ _ h => h) (Or.inl ⟨by rfl, ?_⟩) hS ?_
            rotate_left
            · intro w1 hSw; obtain ⟨s0, s1, s2, s3, s4, s5⟩ := hSw; go_simp; first | done | rfl
            try simp only [List.getElem_toArray, List.getElem_cons_zero, List.getElem_cons_succ, Act.put, List.setIfInBounds_toArray, List.set_cons_zero, List.set_cons_succ]
            refine WE.take (i := 4) (v := ?_) rfl (by kernel_rfl) (fun _ _ _ h => h) (Or.inl ⟨by rfl, ?_⟩) hS ?_
            rotate_left
            · intro w1 hSw; obtain ⟨s0, s1, s2, s3, s4, s5⟩ := hSw; go_simp; first | done | rfl
            try simp only [List.getElem_toArray, List.getElem_cons_zero, List.getElem_cons_succ, Act.put, List.setIfInBounds_toArray, List.set_cons_zero, List.set_cons_succ]
            refine WE.take (i := 5) (v := ?_) rfl (by kernel_rfl) (fun _ _ _ h => h) (Or.inl ⟨by rfl, ?_⟩) hS ?_
            rotate_left
            · intro w1 hSw; obtain ⟨s0, s1, s2, s3, s4, s5⟩ := hSw; go_simp; first | done | rfl
            try simp only [List.getElem_toArray, List.getElem_cons_zero, List.getElem_cons_succ, Act.put, List.setIfInBounds_toArray, List.set_cons_zero, List.set_cons_succ]
            refine WE.take (i := 6) (v := ?_) rfl (by kernel_rfl) (fun _ _ _ h => h) (Or.inl ⟨by rfl, ?_⟩) hS ?_
            rotate_left
            · intro w1 hSw; obtain ⟨s0, s1, s2, s3, s4, s5⟩ := hSw; go_simp; first | done | rfl
            try simp only [List.getElem_toArray, List.getElem_cons_zero, List.getElem_cons_succ, Act.put, List.setIfInBounds_toArray, List.set_cons_zero, List.set_cons_succ]
            refine WE.take (i := 7) (v := ?_) rfl (by kernel_rfl) (fun _ _ _ h => h) (Or.inl ⟨by rfl, ?_⟩) hS ?_
            rotate_left
            · intro w1 hSw; obtain ⟨s0, s1, s2, s3, s4, s5⟩ := hSw; go_simp; first | done | rfl
            try simp only [List.getElem_toArray, List.getElem_cons_zero, List.getElem_cons_succ, Act.put, List.setIfInBounds_toArray, List.set_cons_zero, List.set_cons_succ]
            refine WE.take (i := 8) (v := ?_) rfl (by kernel_rfl) (fun _ _ _ h => h) (Or.inl ⟨by rfl, ?_⟩) hS ?_
            rotate_left
            · intro w1 hSw; obtain ⟨s0, s1, s2, s3, s4, s5⟩ := hSw; go_simp; first | done | rfl
            try simp only [List.getElem_toArray, List.getElem_cons_zero, List.getElem_cons_succ, Act.put, List.setIfInBounds_toArray, List.set_cons_zero, List.set_cons_succ]
            refine WE.take (i := 9) (v := ?_) rfl (by kernel_rfl) (fun _ _ _ h => h) (Or.inl ⟨by rfl, ?_⟩) hS ?_
            rotate_left
            · intro w1 hSw; obtain ⟨s0, s1, s2, s3, s4, s5⟩ := hSw; go_simp; first | done | rfl
            try simp only [List.getElem_toArray, List.getElem_cons_zero, List.getElem_cons_succ, Act.put, List.setIfInBounds_toArray, List.set_cons_zero, List.set_cons_succ]
            refine WE.take (i := 10) (v := ?_) rfl (by kernel_rfl) (fun _ _ _ h => h) (Or.inl ⟨by rfl, ?_⟩) hS ?_
            rotate_left
            · intro w1 hSw; obtain ⟨s0, s1, s2, s3, s4, s5⟩ := hSw; go_simp; first | done | rfl
            try simp only [List.getElem_toArray, List.getElem_cons_zero, List.getElem_cons_succ, Act.put, List.setIfInBounds_toArray, List.set_cons_zero, List.set_cons_succ]
            refine WE.step (i := 11) rfl (by kernel_rfl) (fun K hK => ?_)
            rw [if_pos (by rfl)]
            go_simp
            refine (HK0.out _).mono ?_
            rintro e w4 ⟨rfl, hb9⟩
            have HF4 : Hid (FR w4 fb R) := HF2.out.drew.below hb9
            have HA4 : Hid (AR w4 (fb + 1) v l) := (show AR w2.drew (fb + 1) v l from HA2.out).below hb9
            have HB4 : Hid (Below w.heap.size w w4) := (below_drew HB2.out).trans (hb9.mono HB2.out.size)
            have HC4 : Hid (Ch fb w2 w4) := (show Ch fb w2.drew w4 from Ch.of hb9) |> fun h => ⟨h.os, h.tape, h.output, h.size, h.block⟩
            have hS9 : (fun w' => w'.cell? ⟨bx, 0, none⟩ = some (.int .i64 6) ∧ w'.cell? ⟨bx, 3, none⟩ = some (.int .i64 (p : Int)) ∧ w'.cell? ⟨bx, 5, none⟩ = some (.int .i64 xk) ∧ w'.cell? ⟨fb, p * 3, none⟩ = some (.bool bk) ∧ w'.cell? ⟨fb, p * 3 + 1, none⟩ = some (.int .i64 ba) ∧ w'.cell? ⟨fb, p * 3 + 2, none⟩ = some (.int .i64 bc)) w4 := by
              have bc : ∀ p v, w2.drew.cell? p = some v → w4.cell? p = some v := fun p v hp => (hb9.cell (p := p) (World.block_lt_of_cell? _ _ hp)).trans hp
              obtain ⟨s0, s1, s2, s3, s4, s5⟩ := hS
              exact ⟨bc _ _ s0, bc _ _ s1, bc _ _ s2, bc _ _ s3, bc _ _ s4, bc _ _ s5⟩
            refine hK _ _ hS9 ?_
            clear hb9

            unfold fv
            clear hK K hS
            have hS := hS9
            clear hS9
            try simp only [List.getElem_toArray, List.getElem_cons_zero, List.getElem_cons_succ, Act.put, List.setIfInBounds_toArray, List.set_cons_zero, List.set_cons_succ]
            refine WE.step (i := 12) rfl (by kernel_rfl) (fun K hK => ?_)
            rw [if_pos (by rfl)]
            go_simp
            refine (HK.out _).mono ?_
            rintro e w5 ⟨rfl, hb9⟩
            have HF5 : Hid (FR w5 fb R) := HF4.out.below hb9
            have HA5 : Hid (AR w5 (fb + 1) v l) := HA4.out.below hb9
            have HB5 : Hid (Below w.heap.size w w5) := HB4.out.trans (hb9.mono HB4.out.size)
            have HX4 : Hid (w4.heap[bx]? = some (.cells #[.int .i64 6, .int .i64 op, .int .i64 (n : Int), .int .i64 (p : Int), .int .i64 xc, .int .i64 xk] 53)) := (HC4.out.block bx HSZ.out.2 (by have := HLT.out; omega)).trans HX2.out
            have HX5 : Hid (w5.heap[bx]? = some (.cells #[.int .i64 6, .int .i64 op, .int .i64 (n : Int), .int .i64 (p : Int), .int .i64 xc, .int .i64 xk] 53)) := (hb9.block bx (Array.getElem?_eq_some_iff.1 HX4.out).1).trans HX4.out
            have hS9 : (fun w' => w'.cell? ⟨bx, 0, none⟩ = some (.int .i64 6) ∧ w'.cell? ⟨bx, 3, none⟩ = some (.int .i64 (p : Int)) ∧ w'.cell? ⟨bx, 5, none⟩ = some (.int .i64 xk) ∧ w'.cell? ⟨fb, p * 3, none⟩ = some (.bool bk) ∧ w'.cell? ⟨fb, p * 3 + 1, none⟩ = some (.int .i64 ba) ∧ w'.cell? ⟨fb, p * 3 + 2, none⟩ = some (.int .i64 bc)) w5 := by
              have bc : ∀ p v, w4.cell? p = some v → w5.cell? p = some v := fun p v hp => (hb9.cell (p := p) (World.block_lt_of_cell? _ _ hp)).trans hp
              obtain ⟨s0, s1, s2, s3, s4, s5⟩ := hS
              exact ⟨bc _ _ s0, bc _ _ s1, bc _ _ s2, bc _ _ s3, bc _ _ s4, bc _ _ s5⟩
            have HZ5 : Hid (bx < w5.heap.size ∧ fb < w5.heap.size) := ⟨(Array.getElem?_eq_some_iff.1 HX5.out).1, HF5.out.lt⟩
            refine hK _ _ hS9 ?_
            clear hb9

            unfold fv
            clear hK K hS
            have hS := hS9
            clear hS9
            try simp only [List.getElem_toArray, List.getElem_cons_zero, List.getElem_cons_succ, Act.put, List.setIfInBounds_toArray, List.set_cons_zero, List.set_cons_succ]
            refine WE.take (i := 13) (v := ?_) rfl (by kernel_rfl) (fun _ _ _ h => h) (Or.inl ⟨by rfl, ?_⟩) hS ?_
            rotate_left
            · intro w1 hSw; obtain ⟨s0, s1, s2, s3, s4, s5⟩ := hSw; go_simp; first | done | rfl
            try simp only [List.getElem_toArray, List.getElem_cons_zero, List.getElem_cons_succ, Act.put, List.setIfInBounds_toArray, List.set_cons_zero, List.set_cons_succ]
            refine WE.step (i := 14) rfl (by kernel_rfl) (fun K hK => ?_)
            rw [if_pos (by rfl)]
            go_simp
            generalize hW : w5.alloc _ = w6
            have HN6 : Hid (w6.heap[w5.heap.size]? = some (.cells #[.bool false, .bool mk, .int .i64 ma, .int .i64 mc] 35)) := by show _ = _; rw [← hW]; exact heap_alloc_new _ _
            have HBB : Hid (Below w5.heap.size w5 w6) := by show Below _ _ _; rw [← hW]; exact bl1 _ _
            clear hW
            have HF6 : Hid (FR w6 fb R) := HF5.out.below HBB.out
            have HA6 : Hid (AR w6 (fb + 1) v l) := HA5.out.below HBB.out
            have HX6 : Hid (w6.heap[bx]? = some (.cells #[.int .i64 6, .int .i64 op, .int .i64 (n : Int), .int .i64 (p : Int), .int .i64 xc, .int .i64 xk] 53)) := (HBB.out.block bx HZ5.out.1).trans HX5.out
            have HB6 : Hid (Below w.heap.size w w6) := HB5.out.trans (HBB.out.mono HB5.out.size)
            have HZ6 : Hid (bx < w6.heap.size ∧ fb < w6.heap.size) := ⟨(Array.getElem?_eq_some_iff.1 HX6.out).1, HF6.out.lt⟩
            have hS9 : (fun w' => w'.cell? ⟨bx, 0, none⟩ = some (.int .i64 6) ∧ w'.cell? ⟨bx, 3, none⟩ = some (.int .i64 (p : Int)) ∧ w'.cell? ⟨bx, 5, none⟩ = some (.int .i64 xk) ∧ w'.cell? ⟨fb, p * 3, none⟩ = some (.bool bk) ∧ w'.cell? ⟨fb, p * 3 + 1, none⟩ = some (.int .i64 ba) ∧ w'.cell? ⟨fb, p * 3 + 2, none⟩ = some (.int .i64 bc)) w6 := by
              have bc : ∀ p v, w5.cell? p = some v → w6.cell? p = some v := fun p v hp => (HBB.out.cell (p := p) (World.block_lt_of_cell? _ _ hp)).trans hp
              obtain ⟨s0, s1, s2, s3, s4, s5⟩ := hS
              exact ⟨bc _ _ s0, bc _ _ s1, bc _ _ s2, bc _ _ s3, bc _ _ s4, bc _ _ s5⟩
            refine hK _ _ hS9 ?_

            clear hK K hS
            have hS := hS9
            clear hS9
            try simp only [List.getElem_toArray, List.getElem_cons_zero, List.getElem_cons_succ, Act.put, List.setIfInBounds_toArray, List.set_cons_zero, List.set_cons_succ]
            refine WE.step (i := 15) rfl (by kernel_rfl) (fun K hK => ?_)
            rw [if_pos (by rfl)]
            refine push_racc w6 (.tmp 134) (.tmp 148) rfl (fb + 1) v l false ⟨mk, ma, mc⟩ rfl HA6.out w5.heap.size rfl HN6.out HLL.out (by have := HZ6.out.2; omega) bx HLM2.out ?_
            intro v' w7 hA7 hG7
            have HA7 : Hid (AR w7 (fb + 1) v' (l ++ [(false, ⟨mk, ma, mc⟩)])) := hA7
            have HF7 : Hid (FR w7 fb R) := ⟨HF6.out.ok, (hG7.bl.block fb (by omega)).trans HF6.out.blk⟩
            have HX7 : Hid (w7.heap[bx]? = some (.cells #[.int .i64 6, .int .i64 op, .int .i64 (n : Int), .int .i64 (p : Int), .int .i64 xc, .int .i64 xk] 53)) := (hG7.keep bx (Nat.le_refl _) HZ6.out.1).trans HX6.out
            have HB7 : Hid (Below w.heap.size w w7) := HB6.out.trans (hG7.bl.mono (by have := HFW.out; omega))
            have hS7 : (fun w' => w'.cell? ⟨bx, 0, none⟩ = some (.int .i64 6) ∧ w'.cell? ⟨bx, 3, none⟩ = some (.int .i64 (p : Int)) ∧ w'.cell? ⟨bx, 5, none⟩ = some (.int .i64 xk) ∧ w'.cell? ⟨fb, p * 3, none⟩ = some (.bool bk) ∧ w'.cell? ⟨fb, p * 3 + 1, none⟩ = some (.int .i64 ba) ∧ w'.cell? ⟨fb, p * 3 + 2, none⟩ = some (.int .i64 bc)) w7 := by
              obtain ⟨q0, q1, q2⟩ := HF7.out.c p hp
              rw [HEg.out] at q0 q1 q2
              exact ⟨(cell_of_row _ _ 0 _ _ _ HX7.out).trans rfl, (cell_of_row _ _ 3 _ _ _ HX7.out).trans rfl, (cell_of_row _ _ 5 _ _ _ HX7.out).trans rfl, q0, q1, q2⟩
            refine hK _ _ hS7 ?_
            clear hK K hS hA7 hG7
            clear hS7
            try simp only [List.getElem_toArray, List.getElem_cons_zero, List.getElem_cons_succ, Act.put, List.setIfInBounds_toArray, List.set_cons_zero, List.set_cons_succ]
            refine WE.last rfl (by kernel_rfl) (fun K hK => ?_)
            rw [if_pos (by rfl)]
            go_simp
            refine hK _ _ ?_
            clear hK K
            have x0 : w7.cell? ⟨bx, 0, none⟩ = some (.int .i64 6) := (cell_of_row _ _ 0 _ _ _ HX7.out).trans rfl
            have x1 : w7.cell? ⟨bx, 1, none⟩ = some (.int .i64 op) := (cell_of_row _ _ 1 _ _ _ HX7.out).trans rfl
            have x2 : w7.cell? ⟨bx, 2, none⟩ = some (.int .i64 (n : Int)) := (cell_of_row _ _ 2 _ _ _ HX7.out).trans rfl
            have x3 : w7.cell? ⟨bx, 3, none⟩ = some (.int .i64 (p : Int)) := (cell_of_row _ _ 3 _ _ _ HX7.out).trans rfl
            have x4 : w7.cell? ⟨bx, 4, none⟩ = some (.int .i64 xc) := (cell_of_row _ _ 4 _ _ _ HX7.out).trans rfl
            have x5 : w7.cell? ⟨bx, 5, none⟩ = some (.int .i64 xk) := (cell_of_row _ _ 5 _ _ _ HX7.out).trans rfl
            obtain ⟨y0, y1, y2⟩ := HF7.out.c n hn
            have yf := HF7.out.frz
            have HT8 : Hid (RQ w fb N L res (i + 1) (passF R ⟨6, op, (n : Int), (p : Int), xc, xk⟩) (l ++ [(false, ⟨mk, ma, mc⟩)]) v' (((w7.setCell ⟨fb, n * 3, none⟩ (.bool false)).setCell ⟨fb, n * 3 + 1, none⟩ (.int .i64 0)).setCell ⟨fb, n * 3 + 2, none⟩ (.int .i64 0))) :=
              RQ.next HT.out HG.out (by simp) HXI.out (by rw [HAC.out]) (by rw [HPF.out]; exact HF7.out.put n fz okF_fz) HA7.out HB7.out ((Ch.refl fb w7).put n _ _ _) HFW.out
            try simp only [List.getElem_toArray, List.getElem_cons_zero, List.getElem_cons_succ, Act.put, List.setIfInBounds_toArray, List.set_cons_zero, List.set_cons_succ]
            go_wp2_with fail
            try simp only [List.getElem_toArray, List.getElem_cons_zero, List.getElem_cons_succ, Act.put, List.setIfInBounds_toArray, List.set_cons_zero, List.set_cons_succ]
            go_roundw
            case rel => exact ⟨i + 1, _, _, _, by go_num, rfl, by omega, HT8⟩
            case measure => simp [intOf]; omega
          · obtain ⟨p, rfl⟩ : ∃ p : Nat, xb = p := ⟨xb.toNat, by omega⟩
            have hp : p < 16 := by omega
            have HG : Hid (goB R ⟨7, op, xa, (p : Int), xc, xk⟩ = true) := by show _ = _; unfold goB; simp
            have HAC : Hid (accF R ⟨7, op, xa, (p : Int), xc, xk⟩ = [(true, joinF 1 (rgF R (p : Int)) (numF xk))]) := by show _ = _; rw [join_moved]; unfold accF; simp
            have HPF : Hid (passF R ⟨7, op, xa, (p : Int), xc, xk⟩ = R) := by show _ = _; unfold passF; simp
            obtain ⟨g, hg⟩ : ∃ g, rgF R (p : Int) = g := ⟨_, rfl⟩
            have HEg : Hid (rgF R (p : Int) = g) := hg
            have HOg : OkF g := by rw [← hg]; exact HT.out.fbk.ok.rg _
            rw [hg] at HAC
            have HK0 : Hid (∀ w, Calls Try.prog 14 #[.int .i64 0, .int .i64 xk] w (FP (numF xk) w)) := fun w => rkept_any 0 xk w
            have HK : Hid (∀ w, Calls Try.prog 16 #[.int .i64 1, fv g, fv (numF xk)] w (FP (joinF 1 g (numF xk)) w)) := fun w => rjoin_any 1 g (numF xk) HOg (okF_kept _ _) w
            generalize joinF 1 g (numF xk) = f at HK HAC
            generalize numF xk = z at HK HK0
            clear hg HOg
            obtain ⟨mk, ma, mc⟩ := f
            obtain ⟨bk, ba, bc⟩ := g
            obtain ⟨zk, za, zc⟩ := z
            unfold fv at HK
            simp only at HK
            go_wp2_with fail
            rw [HBX.out]
            generalize hW : wr.alloc _ = w2
            have HX2 : Hid (w2.heap[bx]? = some (.cells #[.int .i64 7, .int .i64 op, .int .i64 xa, .int .i64 (p : Int), .int .i64 xc, .int .i64 xk] 53)) := by show _ = _; rw [← hW, ← HBX.out]; exact heap_alloc_new _ _
            have HB0 : Hid (Below wr.heap.size wr w2) := by show Below _ _ _; rw [← hW]; exact bl1 _ _
            clear hW c0 c1 c2 c3 c4 c5
            have HF2 : Hid (FR w2 fb R) := HT.out.fbk.below HB0.out
            have HA2 : Hid (AR w2 (fb + 1) v l) := HT.out.az.below HB0.out
            have HB2 : Hid (Below w.heap.size w w2) := HT.out.bl.trans (HB0.out.mono HT.out.bl.size)
            have HSZ : Hid (fb < w2.heap.size ∧ bx < w2.heap.size) := ⟨HF2.out.lt, (Array.getElem?_eq_some_iff.1 HX2.out).1⟩
            have k0 : w2.cell? ⟨bx, 0, none⟩ = some (.int .i64 7) := (cell_of_row _ _ 0 _ _ _ HX2.out).trans rfl
            have k1 : w2.cell? ⟨bx, 1, none⟩ = some (.int .i64 op) := (cell_of_row _ _ 1 _ _ _ HX2.out).trans rfl
            have k2 : w2.cell? ⟨bx, 2, none⟩ = some (.int .i64 xa) := (cell_of_row _ _ 2 _ _ _ HX2.out).trans rfl
            have k3 : w2.cell? ⟨bx, 3, none⟩ = some (.int .i64 (p : Int)) := (cell_of_row _ _ 3 _ _ _ HX2.out).trans rfl
            have k4 : w2.cell? ⟨bx, 4, none⟩ = some (.int .i64 xc) := (cell_of_row _ _ 4 _ _ _ HX2.out).trans rfl
            have k5 : w2.cell? ⟨bx, 5, none⟩ = some (.int .i64 xk) := (cell_of_row _ _ 5 _ _ _ HX2.out).trans rfl
            have HLM2 : Hid (∀ k, v.ownBlock = some k → k < bx) := HLM.out
            obtain ⟨g0, g1, g2⟩ := HF2.out.c p hp
            rw [HEg.out] at g0 g1 g2
            refine WE.start (fun w' => w'.cell? ⟨bx, 0, none⟩ = some (.int .i64 7) ∧ w'.cell? ⟨bx, 3, none⟩ = some (.int .i64 (p : Int)) ∧ w'.cell? ⟨bx, 5, none⟩ = some (.int .i64 xk) ∧ w'.cell? ⟨fb, p * 3, none⟩ = some (.bool bk) ∧ w'.cell? ⟨fb, p * 3 + 1, none⟩ = some (.int .i64 ba) ∧ w'.cell? ⟨fb, p * 3 + 2, none⟩ = some (.int .i64 bc)) 16 17 #[false, false, false, false, false, false, false, false, false, false, false, false, false, false, false, false, false] rfl rfl (by kernel_rfl) ⟨k0, k3, k5, g0, g1, g2⟩ (fun hS => ?_)
            refine WE.take (i := 0) (v := ?_) rfl (by kernel_rfl) (fun _ _ _ h => h) (Or.inl ⟨by rfl, ?_⟩) hS ?_
            rotate_left
            · intro w1 hSw; obtain ⟨s0, s1, s2, s3, s4, s5⟩ := hSw; go_simp; first | done | rfl
            try simp only [List.getElem_toArray, List.getElem_cons_zero, List.getElem_cons_succ, Act.put, List.setIfInBounds_toArray, List.set_cons_zero, List.set_cons_succ]
            refine WE.take (i := 1) (v := ?_) rfl (by kernel_rfl) (fun _ _ _ h => h) (Or.inl ⟨by rfl, ?_⟩) hS ?_
            rotate_left
            · intro w1 hSw; obtain ⟨s0, s1, s2, s3, s4, s5⟩ := hSw; go_simp; first | done | rfl
            try simp only [List.getElem_toArray, List.getElem_cons_zero, List.getElem_cons_succ, Act.put, List.setIfInBounds_toArray, List.set_cons_zero, List.set_cons_succ]
            refine WE.take (i := 2) (v := ?_) rfl (by kernel_rfl) (fun _ _ _ h => h) (Or.inl ⟨by rfl, ?_⟩) hS ?_
            rotate_left
            · intro w1 hSw; obtain ⟨s0, s1, s2, s3, s4, s5⟩ := hSw; go_simp; first | done | rfl
            try simp only [List.getElem_toArray, List.getElem_cons_zero, List.getElem_cons_succ, Act.put, List.setIfInBounds_toArray, List.set_cons_zero, List.set_cons_succ]
            refine WE.take (i := 3) (v := ?_) rfl (by kernel_rfl) (fun _ _ _ h => h) (Or.inl ⟨by rfl, ?_⟩) hS ?_
            rotate_left
            · intro w1 hSw; obtain ⟨s0, s1, s2, s3, s4, s5⟩ := hSw; go_simp; first | done | rfl
            try simp only [List.getElem_toArray, List.getElem_cons_zero, List.getElem_cons_succ, Act.put, List.setIfInBounds_toArray, List.set_cons_zero, List.set_cons_succ]
            refine WE.take (i := 4) (v := ?_) rfl (by kernel_rfl) (fun _ _ _ h => h) (Or.inl ⟨by rfl, ?_⟩) hS ?_
            rotate_left
            · intro w1 hSw; obtain ⟨s0, s1, s2, s3, s4, s5⟩ := hSw; go_simp; first | done | rfl
            try simp only [List.getElem_toArray, List.getElem_cons_zero, List.getElem_cons_succ, Act.put, List.setIfInBounds_toArray, List.set_cons_zero, List.set_cons_succ]
            refine WE.take (i := 5) (v := ?_) rfl (by kernel_rfl) (fun _ _ _ h => h) (Or.inl ⟨by rfl, ?_⟩) hS ?_
            rotate_left
            · intro w1 hSw; obtain ⟨s0, s1, s2, s3, s4, s5⟩ := hSw; go_simp; first | done | rfl
            try simp only [List.getElem_toArray, List.getElem_cons_zero, List.getElem_cons_succ, Act.put, List.setIfInBounds_toArray, List.set_cons_zero, List.set_cons_succ]
            refine WE.take (i := 6) (v := ?_) rfl (by kernel_rfl) (fun _ _ _ h => h) (Or.inl ⟨by rfl, ?_⟩) hS ?_
            rotate_left
            · intro w1 hSw; obtain ⟨s0, s1, s2, s3, s4, s5⟩ := hSw; go_simp; first | done | rfl
            try simp only [List.getElem_toArray, List.getElem_cons_zero, List.getElem_cons_succ, Act.put, List.setIfInBounds_toArray, List.set_cons_zero, List.set_cons_succ]
            refine WE.take (i := 7) (v := ?_) rfl (by kernel_rfl) (fun _ _ _ h => h) (Or.inl ⟨by rfl, ?_⟩) hS ?_
            rotate_left
            · intro w1 hSw; obtain ⟨s0, s1, s2, s3, s4, s5⟩ := hSw; go_simp; first | done | rfl
            try simp only [List.getElem_toArray, List.getElem_cons_zero, List.getElem_cons_succ, Act.put, List.setIfInBounds_toArray, List.set_cons_zero, List.set_cons_succ]
            refine WE.take (i := 8) (v := ?_) rfl (by kernel_rfl) (fun _ _ _ h => h) (Or.inl ⟨by rfl, ?_⟩) hS ?_
            rotate_left
            · intro w1 hSw; obtain ⟨s0, s1, s2, s3, s4, s5⟩ := hSw; go_simp; first | done | rfl
            try simp only [List.getElem_toArray, List.getElem_cons_zero, List.getElem_cons_succ, Act.put, List.setIfInBounds_toArray, List.set_cons_zero, List.set_cons_succ]
            refine WE.take (i := 9) (v := ?_) rfl (by kernel_rfl) (fun _ _ _ h => h) (Or.inl ⟨by rfl, ?_⟩) hS ?_
            rotate_left
            · intro w1 hSw; obtain ⟨s0, s1, s2, s3, s4, s5⟩ := hSw; go_simp; first | done | rfl
            try simp only [List.getElem_toArray, List.getElem_cons_zero, List.getElem_cons_succ, Act.put, List.setIfInBounds_toArray, List.set_cons_zero, List.set_cons_succ]
            refine WE.take (i := 10) (v := ?_) rfl (by kernel_rfl) (fun _ _ _ h => h) (Or.inl ⟨by rfl, ?_⟩) hS ?_
            rotate_left
            · intro w1 hSw; obtain ⟨s0, s1, s2, s3, s4, s5⟩ := hSw; go_simp; first | done | rfl
            try simp only [List.getElem_toArray, List.getElem_cons_zero, List.getElem_cons_succ, Act.put, List.setIfInBounds_toArray, List.set_cons_zero, List.set_cons_succ]
            refine WE.step (i := 11) rfl (by kernel_rfl) (fun K hK => ?_)
            rw [if_pos (by rfl)]
            go_simp
            refine (HK0.out _).mono ?_
            rintro e w4 ⟨rfl, hb9⟩
            have HF4 : Hid (FR w4 fb R) := HF2.out.drew.below hb9
            have HA4 : Hid (AR w4 (fb + 1) v l) := (show AR w2.drew (fb + 1) v l from HA2.out).below hb9
            have HB4 : Hid (Below w.heap.size w w4) := (below_drew HB2.out).trans (hb9.mono HB2.out.size)
            have HC4 : Hid (Ch fb w2 w4) := (show Ch fb w2.drew w4 from Ch.of hb9) |> fun h => ⟨h.os, h.tape, h.output, h.size, h.block⟩
            have hS9 : (fun w' => w'.cell? ⟨bx, 0, none⟩ = some (.int .i64 7) ∧ w'.cell? ⟨bx, 3, none⟩ = some (.int .i64 (p : Int)) ∧ w'.cell? ⟨bx, 5, none⟩ = some (.int .i64 xk) ∧ w'.cell? ⟨fb, p * 3, none⟩ = some (.bool bk) ∧ w'.cell? ⟨fb, p * 3 + 1, none⟩ = some (.int .i64 ba) ∧ w'.cell? ⟨fb, p * 3 + 2, none⟩ = some (.int .i64 bc)) w4 := by
              have bc : ∀ p v, w2.drew.cell? p = some v → w4.cell? p = some v := fun p v hp => (hb9.cell (p := p) (World.block_lt_of_cell? _ _ hp)).trans hp
              obtain ⟨s0, s1, s2, s3, s4, s5⟩ := hS
              exact ⟨bc _ _ s0, bc _ _ s1, bc _ _ s2, bc _ _ s3, bc _ _ s4, bc _ _ s5⟩
            refine hK _ _ hS9 ?_
            clear hb9

            unfold fv
            clear hK K hS
            have hS := hS9
            clear hS9
            try simp only [List.getElem_toArray, List.getElem_cons_zero, List.getElem_cons_succ, Act.put, List.setIfInBounds_toArray, List.set_cons_zero, List.set_cons_succ]
            refine WE.step (i := 12) rfl (by kernel_rfl) (fun K hK => ?_)
            rw [if_pos (by rfl)]
            go_simp
            refine (HK.out _).mono ?_
            rintro e w5 ⟨rfl, hb9⟩
            have HF5 : Hid (FR w5 fb R) := HF4.out.below hb9
            have HA5 : Hid (AR w5 (fb + 1) v l) := HA4.out.below hb9
            have HB5 : Hid (Below w.heap.size w w5) := HB4.out.trans (hb9.mono HB4.out.size)
            have HX4 : Hid (w4.heap[bx]? = some (.cells #[.int .i64 7, .int .i64 op, .int .i64 xa, .int .i64 (p : Int), .int .i64 xc, .int .i64 xk] 53)) := (HC4.out.block bx HSZ.out.2 (by have := HLT.out; omega)).trans HX2.out
            have HX5 : Hid (w5.heap[bx]? = some (.cells #[.int .i64 7, .int .i64 op, .int .i64 xa, .int .i64 (p : Int), .int .i64 xc, .int .i64 xk] 53)) := (hb9.block bx (Array.getElem?_eq_some_iff.1 HX4.out).1).trans HX4.out
            have hS9 : (fun w' => w'.cell? ⟨bx, 0, none⟩ = some (.int .i64 7) ∧ w'.cell? ⟨bx, 3, none⟩ = some (.int .i64 (p : Int)) ∧ w'.cell? ⟨bx, 5, none⟩ = some (.int .i64 xk) ∧ w'.cell? ⟨fb, p * 3, none⟩ = some (.bool bk) ∧ w'.cell? ⟨fb, p * 3 + 1, none⟩ = some (.int .i64 ba) ∧ w'.cell? ⟨fb, p * 3 + 2, none⟩ = some (.int .i64 bc)) w5 := by
              have bc : ∀ p v, w4.cell? p = some v → w5.cell? p = some v := fun p v hp => (hb9.cell (p := p) (World.block_lt_of_cell? _ _ hp)).trans hp
              obtain ⟨s0, s1, s2, s3, s4, s5⟩ := hS
              exact ⟨bc _ _ s0, bc _ _ s1, bc _ _ s2, bc _ _ s3, bc _ _ s4, bc _ _ s5⟩
            have HZ5 : Hid (bx < w5.heap.size ∧ fb < w5.heap.size) := ⟨(Array.getElem?_eq_some_iff.1 HX5.out).1, HF5.out.lt⟩
            refine hK _ _ hS9 ?_
            clear hb9

            unfold fv
            clear hK K hS
            have hS := hS9
            clear hS9
            try simp only [List.getElem_toArray, List.getElem_cons_zero, List.getElem_cons_succ, Act.put, List.setIfInBounds_toArray, List.set_cons_zero, List.set_cons_succ]
            refine WE.take (i := 13) (v := ?_) rfl (by kernel_rfl) (fun _ _ _ h => h) (Or.inl ⟨by rfl, ?_⟩) hS ?_
            rotate_left
            · intro w1 hSw; obtain ⟨s0, s1, s2, s3, s4, s5⟩ := hSw; go_simp; first | done | rfl
            try simp only [List.getElem_toArray, List.getElem_cons_zero, List.getElem_cons_succ, Act.put, List.setIfInBounds_toArray, List.set_cons_zero, List.set_cons_succ]
            refine WE.step (i := 14) rfl (by kernel_rfl) (fun K hK => ?_)
            rw [if_pos (by rfl)]
            go_simp
            generalize hW : w5.alloc _ = w6
            have HN6 : Hid (w6.heap[w5.heap.size]? = some (.cells #[.bool true, .bool mk, .int .i64 ma, .int .i64 mc] 35)) := by show _ = _; rw [← hW]; exact heap_alloc_new _ _
            have HBB : Hid (Below w5.heap.size w5 w6) := by show Below _ _ _; rw [← hW]; exact bl1 _ _
            clear hW
            have HF6 : Hid (FR w6 fb R) := HF5.out.below HBB.out
            have HA6 : Hid (AR w6 (fb + 1) v l) := HA5.out.below HBB.out
            have HX6 : Hid (w6.heap[bx]? = some (.cells #[.int .i64 7, .int .i64 op, .int .i64 xa, .int .i64 (p : Int), .int .i64 xc, .int .i64 xk] 53)) := (HBB.out.block bx HZ5.out.1).trans HX5.out
            have HB6 : Hid (Below w.heap.size w w6) := HB5.out.trans (HBB.out.mono HB5.out.size)
            have HZ6 : Hid (bx < w6.heap.size ∧ fb < w6.heap.size) := ⟨(Array.getElem?_eq_some_iff.1 HX6.out).1, HF6.out.lt⟩
            have hS9 : (fun w' => w'.cell? ⟨bx, 0, none⟩ = some (.int .i64 7) ∧ w'.cell? ⟨bx, 3, none⟩ = some (.int .i64 (p : Int)) ∧ w'.cell? ⟨bx, 5, none⟩ = some (.int .i64 xk) ∧ w'.cell? ⟨fb, p * 3, none⟩ = some (.bool bk) ∧ w'.cell? ⟨fb, p * 3 + 1, none⟩ = some (.int .i64 ba) ∧ w'.cell? ⟨fb, p * 3 + 2, none⟩ = some (.int .i64 bc)) w6 := by
              have bc : ∀ p v, w5.cell? p = some v → w6.cell? p = some v := fun p v hp => (HBB.out.cell (p := p) (World.block_lt_of_cell? _ _ hp)).trans hp
              obtain ⟨s0, s1, s2, s3, s4, s5⟩ := hS
              exact ⟨bc _ _ s0, bc _ _ s1, bc _ _ s2, bc _ _ s3, bc _ _ s4, bc _ _ s5⟩
            refine hK _ _ hS9 ?_

            clear hK K hS
            have hS := hS9
            clear hS9
            try simp only [List.getElem_toArray, List.getElem_cons_zero, List.getElem_cons_succ, Act.put, List.setIfInBounds_toArray, List.set_cons_zero, List.set_cons_succ]
            refine WE.step (i := 15) rfl (by kernel_rfl) (fun K hK => ?_)
            rw [if_pos (by rfl)]
            refine push_racc w6 (.tmp 134) (.tmp 148) rfl (fb + 1) v l true ⟨mk, ma, mc⟩ rfl HA6.out w5.heap.size rfl HN6.out HLL.out (by have := HZ6.out.2; omega) bx HLM2.out ?_
            intro v' w7 hA7 hG7
            have HA7 : Hid (AR w7 (fb + 1) v' (l ++ [(true, ⟨mk, ma, mc⟩)])) := hA7
            have HF7 : Hid (FR w7 fb R) := ⟨HF6.out.ok, (hG7.bl.block fb (by omega)).trans HF6.out.blk⟩
            have HX7 : Hid (w7.heap[bx]? = some (.cells #[.int .i64 7, .int .i64 op, .int .i64 xa, .int .i64 (p : Int), .int .i64 xc, .int .i64 xk] 53)) := (hG7.keep bx (Nat.le_refl _) HZ6.out.1).trans HX6.out
            have HB7 : Hid (Below w.heap.size w w7) := HB6.out.trans (hG7.bl.mono (by have := HFW.out; omega))
            have hS7 : (fun w' => w'.cell? ⟨bx, 0, none⟩ = some (.int .i64 7) ∧ w'.cell? ⟨bx, 3, none⟩ = some (.int .i64 (p : Int)) ∧ w'.cell? ⟨bx, 5, none⟩ = some (.int .i64 xk) ∧ w'.cell? ⟨fb, p * 3, none⟩ = some (.bool bk) ∧ w'.cell? ⟨fb, p * 3 + 1, none⟩ = some (.int .i64 ba) ∧ w'.cell? ⟨fb, p * 3 + 2, none⟩ = some (.int .i64 bc)) w7 := by
              obtain ⟨q0, q1, q2⟩ := HF7.out.c p hp
              rw [HEg.out] at q0 q1 q2
              exact ⟨(cell_of_row _ _ 0 _ _ _ HX7.out).trans rfl, (cell_of_row _ _ 3 _ _ _ HX7.out).trans rfl, (cell_of_row _ _ 5 _ _ _ HX7.out).trans rfl, q0, q1, q2⟩
            refine hK _ _ hS7 ?_
            clear hK K hS hA7 hG7
            clear hS7
            try simp only [List.getElem_toArray, List.getElem_cons_zero, List.getElem_cons_succ, Act.put, List.setIfInBounds_toArray, List.set_cons_zero, List.set_cons_succ]
            refine WE.last rfl (by kernel_rfl) (fun K hK => ?_)
            rw [if_pos (by rfl)]
            go_simp
            refine hK _ _ ?_
            clear hK K
            have x0 : w7.cell? ⟨bx, 0, none⟩ = some (.int .i64 7) := (cell_of_row _ _ 0 _ _ _ HX7.out).trans rfl
            have x1 : w7.cell? ⟨bx, 1, none⟩ = some (.int .i64 op) := (cell_of_row _ _ 1 _ _ _ HX7.out).trans rfl
            have x2 : w7.cell? ⟨bx, 2, none⟩ = some (.int .i64 xa) := (cell_of_row _ _ 2 _ _ _ HX7.out).trans rfl
            have x3 : w7.cell? ⟨bx, 3, none⟩ = some (.int .i64 (p : Int)) := (cell_of_row _ _ 3 _ _ _ HX7.out).trans rfl
            have x4 : w7.cell? ⟨bx, 4, none⟩ = some (.int .i64 xc) := (cell_of_row _ _ 4 _ _ _ HX7.out).trans rfl
            have x5 : w7.cell? ⟨bx, 5, none⟩ = some (.int .i64 xk) := (cell_of_row _ _ 5 _ _ _ HX7.out).trans rfl
            have HT8 : Hid (RQ w fb N L res (i + 1) (passF R ⟨7, op, xa, (p : Int), xc, xk⟩) (l ++ [(true, ⟨mk, ma, mc⟩)]) v' w7) :=
              RQ.next HT.out HG.out (by simp) HXI.out (by rw [HAC.out]) (by rw [HPF.out]; exact HF7.out) HA7.out HB7.out (Ch.refl _ _) HFW.out
            try simp only [List.getElem_toArray, List.getElem_cons_zero, List.getElem_cons_succ, Act.put, List.setIfInBounds_toArray, List.set_cons_zero, List.set_cons_succ]
            go_wp2_with fail
            try simp only [List.getElem_toArray, List.getElem_cons_zero, List.getElem_cons_succ, Act.put, List.setIfInBounds_toArray, List.set_cons_zero, List.set_cons_succ]
            go_roundw
            case rel => exact ⟨i + 1, _, _, _, by go_num, rfl, by omega, HT8⟩
            case measure => simp [intOf]; omega
          · have HG : Hid (goB R ⟨8, op, xa, xb, xc, xk⟩ = true) := by show _ = _; unfold goB; simp
            have HAC2 : Hid (accF R ⟨8, op, xa, xb, xc, xk⟩ = []) := by show _ = _; unfold accF; simp
            have HPF : Hid (passF R ⟨8, op, xa, xb, xc, xk⟩ = R) := by show _ = _; unfold passF; simp
            have HT8 : Hid (∀ o, RQ w fb N L res (i + 1) R l v (wr.alloc o)) := fun o => by
              have := RQ.next (w8 := wr.alloc o) HT.out HG.out (by simp) HXI.out (by rw [HAC2.out, List.append_nil]) (by rw [HPF.out]; exact HT.out.fbk.below (bl1 _ _)) (HT.out.az.below (bl1 _ _)) (HT.out.bl.trans ((bl1 wr o).mono HT.out.bl.size)) (Ch.refl _ _) HFW.out
              rw [HPF.out] at this; exact this
            go_wp2_with fail
            go_roundw
            case rel => exact ⟨i + 1, _, _, _, by go_num, rfl, by omega, HT8.out _⟩
            case measure => simp [intOf]; omega
          · have HG : Hid (goB R ⟨9, op, xa, xb, xc, xk⟩ = true) := by show _ = _; unfold goB; simp
            have HAC2 : Hid (accF R ⟨9, op, xa, xb, xc, xk⟩ = []) := by show _ = _; unfold accF; simp
            have HPF : Hid (passF R ⟨9, op, xa, xb, xc, xk⟩ = R) := by show _ = _; unfold passF; simp
            have HT8 : Hid (∀ o, RQ w fb N L res (i + 1) R l v (wr.alloc o)) := fun o => by
              have := RQ.next (w8 := wr.alloc o) HT.out HG.out (by simp) HXI.out (by rw [HAC2.out, List.append_nil]) (by rw [HPF.out]; exact HT.out.fbk.below (bl1 _ _)) (HT.out.az.below (bl1 _ _)) (HT.out.bl.trans ((bl1 wr o).mono HT.out.bl.size)) (Ch.refl _ _) HFW.out
              rw [HPF.out] at this; exact this
            go_wp2_with fail
            go_roundw
            case rel => exact ⟨i + 1, _, _, _, by go_num, rfl, by omega, HT8.out _⟩
            case measure => simp [intOf]; omega
          · have HF : Hid (∀ o, P (.returned (.tuple #[.slice none 0 0, .bool false])) (wr.alloc o)) := fun o => by
              show P _ _
              rw [← HP.out, RQ.none HT.out (by simp) (by unfold goB; simp) HXI.out]
              exact ⟨HT.out.bl.trans ((bl1 wr o).mono HT.out.bl.size), rfl⟩
            go_wp2_with fail
            first | exact HF.out _ | (go_ret2; exact HF.out _)
          · have HF : Hid (∀ o, P (.returned (.tuple #[.slice none 0 0, .bool false])) (wr.alloc o)) := fun o => by
              show P _ _
              rw [← HP.out, RQ.none HT.out (by simp) (by unfold goB; simp) HXI.out]
              exact ⟨HT.out.bl.trans ((bl1 wr o).mono HT.out.bl.size), rfl⟩
            go_wp2_with fail
            first | exact HF.out _ | (go_ret2; exact HF.out _)
          · have HF : Hid (∀ o, P (.returned (.tuple #[.slice none 0 0, .bool false])) (wr.alloc o)) := fun o => by
              show P _ _
              rw [← HP.out, RQ.none HT.out (by simp) (by unfold goB; simp) HXI.out]
              exact ⟨HT.out.bl.trans ((bl1 wr o).mono HT.out.bl.size), rfl⟩
            go_wp2_with fail
            first | exact HF.out _ | (go_ret2; exact HF.out _)
          · have HF : Hid (∀ o, P (.returned (.tuple #[.slice none 0 0, .bool false])) (wr.alloc o)) := fun o => by
              show P _ _
              rw [← HP.out, RQ.none HT.out (by simp) (by unfold goB; simp) HXI.out]
              exact ⟨HT.out.bl.trans ((bl1 wr o).mono HT.out.bl.size), rfl⟩
            go_wp2_with fail
            first | exact HF.out _ | (go_ret2; exact HF.out _)
        · have HRS : Hid (res = none) := by
            show _ = _
            rw [← HT.out.eq, List.drop_of_length_le (by rw [HN.out]; omega)]
            rfl
          have HF : Hid (P (.returned (.tuple #[.slice none 0 0, .bool false])) wr) := by
            show P _ _
            rw [← HP.out, HRS.out]
            exact ⟨HT.out.bl, rfl⟩
          go_wp2_with fail
          first | exact HF.out | (go_ret2; exact HF.out)
end Go.Proofs.Ytcaefimnhoeimaa
