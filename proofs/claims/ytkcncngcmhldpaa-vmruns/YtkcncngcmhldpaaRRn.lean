/- The document's run. -/
import Derived.Test.YtkcncngcmhldpaaRunX
import Derived.Test.YtkcncngcmhldpaaRSt5
import Derived.Test.YtkcncngcmhldpaaRWnt
namespace Go.Proofs.Ytkcncngcmhldpaa
open Go.RowKit Go.Maps
set_option linter.unusedVariables false
/-- the document's machine in block mb, what it has done in block xb -/
structure DRI (w W : World) (B mb xb : Nat) (C : List In) (v : Value) (words fuel : Int) (s : St) (ms : List Value) (mv ov nv : Value) (E : Ef) : Prop where
  be : Below w.heap.size w W
  wv : w.heap.size ≤ mb ∧ mb < B
  hB : B ≤ W.heap.size
  ok : Ok C fuel s
  len : s.regs.length = 16
  cv : ISl w v C
  good : Good C
  rk : ∀ x ∈ C, R64 x.k
  blk : W.heap[mb]? = some (.cells ms.toArray 29)
  ef : EF W 54 B xb mv ov nv E
  rv : ∃ g c, ms = (mC v (.slice (some ⟨g, 0, none⟩) 16 c) words fuel s).toList ∧ 16 ≤ c ∧ c ≤ maxLen ∧ (∀ r, r < 16 → W.cell? ⟨g, r, none⟩ = some (.int .i64 (rg s r))) ∧ g ≠ xb ∧ g ≠ mb ∧ mv.ownBlock ≠ some g ∧ ov.ownBlock ≠ some g ∧ nv.ownBlock ≠ some g
section
variable {w W V : World} {B mb xb : Nat} {C : List In} {v : Value} {words fuel : Int} {s : St} {ms : List Value} {mv ov nv : Value} {E : Ef}
theorem DRI.below (h : DRI w W B mb xb C v words fuel s ms mv ov nv E) (hb : Below W.heap.size W V) : DRI w V B mb xb C v words fuel s ms mv ov nv E := by
  obtain ⟨g, c, e1, e2, e3, e4, e5⟩ := h.rv
  exact ⟨h.be.trans (hb.mono h.be.size), h.wv, Nat.le_trans h.hB hb.size, h.ok, h.len, h.cv, h.good, h.rk, (hb.block _ (Array.getElem?_eq_some_iff.1 h.blk).1).trans h.blk, h.ef.below hb, ⟨g, c, e1, e2, e3, fun r hr => (hb.cell (p := ⟨g, r, none⟩) (World.block_lt_of_cell? W _ (e4 r hr))).trans (e4 r hr), e5⟩⟩
theorem DRI.alloc (h : DRI w W B mb xb C v words fuel s ms mv ov nv E) (o : Obj) : DRI w (W.alloc o) B mb xb C v words fuel s ms mv ov nv E := h.below ((Below.refl _ _).alloc (Nat.le_refl _) _)
theorem DRI.drew (h : DRI w W B mb xb C v words fuel s ms mv ov nv E) : DRI w W.drew B mb xb C v words fuel s ms mv ov nv E := h.below (Below.refl _ _).drew
theorem DRI.c5 (h : DRI w W B mb xb C v words fuel s ms mv ov nv E) : W.cell? ⟨mb, 5, none⟩ = some (.int .i64 s.steps) := by
  obtain ⟨g, c, e, _⟩ := h.rv
  rw [cell_of_row W _ 5 _ _ _ h.blk, e]; rfl
theorem DRI.c6 (h : DRI w W B mb xb C v words fuel s ms mv ov nv E) : W.cell? ⟨mb, 6, none⟩ = some (.int .i64 s.over) := by
  obtain ⟨g, c, e, _⟩ := h.rv
  rw [cell_of_row W _ 6 _ _ _ h.blk, e]; rfl
theorem DRI.c7 (h : DRI w W B mb xb C v words fuel s ms mv ov nv E) : W.cell? ⟨mb, 7, none⟩ = some (.int .i64 s.value) := by
  obtain ⟨g, c, e, _⟩ := h.rv
  rw [cell_of_row W _ 7 _ _ _ h.blk, e]; rfl
theorem DRI.l8 (h : DRI w W B mb xb C v words fuel s ms mv ov nv E) : ms.length = 8 := by
  obtain ⟨g, c, e, _⟩ := h.rv
  rw [e]; rfl
theorem DRI.rng (h : DRI w W B mb xb C v words fuel s ms mv ov nv E) : W.rangeAt mb 0 ms := fun j u hu => by rw [Nat.zero_add, cell_of_row W _ j _ _ _ h.blk]; simpa using hu
theorem DRI.rok (h : DRI w W B mb xb C v words fuel s ms mv ov nv E) : ROk C fuel s := ⟨h.ok, h.len, by have := h.good.len; omega, h.good.ok, h.rk⟩
theorem DRI.rcd (h : DRI w W B mb xb C v words fuel s ms mv ov nv E) : ∃ cb co cp, RCd W v C cb co cp := by
  obtain ⟨ad, cp, vb0, vo0, e, h2, h3, h4, h5⟩ := h.cv.below h.be
  have := h4 h.good.len.1
  subst this
  exact ⟨vb0, vo0, cp, e, h2, h3, fun i hi => h5 i hi⟩
theorem DRI.want (h : DRI w W B mb xb C v words fuel s ms mv ov nv E) : Calls Try.prog 10 #[.agg ms.toArray] W fun e V => e = .returned (wtV (wantS C words fuel s)) ∧ DRI w V B mb xb C v words fuel s ms mv ov nv E := by
  obtain ⟨g, c, e, h16, hm, hcl, _⟩ := h.rv
  obtain ⟨cb, co, cp, hc⟩ := h.rcd
  have : Value.agg ms.toArray = mV v (.slice (some ⟨g, 0, none⟩) 16 c) words fuel s := by rw [e]; rfl
  rw [this]
  refine (rwant_any C v cb co cp words fuel _ s h.rok W hc ⟨g, c, rfl, h16, hm, hcl⟩).mono ?_
  rintro e V ⟨rfl, hb⟩
  exact ⟨rfl, h.below hb⟩
/-- the memory is written -/
theorem DRI.put (h : DRI w W B mb xb C v words fuel s ms mv ov nv E) {g cap : Nat} (hv : mv = .slice (some ⟨g, 0, none⟩) E.mem.length cap) (hg : B ≤ g) (i : Nat) (hi : i < E.mem.length) (x : Int) : DRI w (W.setCell ⟨g, i, none⟩ (.int .i64 x)) B mb xb C v words fuel s ms mv ov nv { E with mem := E.mem.set i x } := by
  obtain ⟨q, c, e1, e2, e3, e4, e5, e6, e7, e8⟩ := h.rv
  have hq : q ≠ g := fun e => e7 (by rw [hv, e]; rfl)
  have hs := h.be.size
  have hw := h.wv
  refine ⟨below_put h.be (by omega), h.wv, by simpa [World.setCell] using h.hB, h.ok, h.len, h.cv, h.good, h.rk, (Below.heap_setCell _ _ _ _ (by show mb ≠ g; omega)).trans h.blk, h.ef.put hv i hi x, ⟨q, c, e1, e2, e3, fun r hr => ?_, e5, e6, e7, e8⟩⟩
  exact (World.cell?_of_block (a := ⟨q, r, none⟩) (Below.heap_setCell _ _ _ _ hq)).trans (e4 r hr)
theorem DRI.grown {row : Value} (h : DRI w W B mb xb C v words fuel s ms mv ov nv E) (hg : W.grownBy V row.ownBlock) (hr : ∀ k, row.ownBlock = some k → B ≤ k) : Below w.heap.size w V ∧ V.heap[mb]? = some (.cells ms.toArray 29) := by
  have hs := h.be.size
  have hw := h.wv
  have hB := h.hB
  refine ⟨⟨hg.os.trans h.be.os, hg.tape.trans h.be.tape, hg.output.trans h.be.output, Nat.le_trans h.be.size hg.size, fun k hk => (hg.block k (by omega) (fun e => by have := hr k e.symm; omega)).trans (h.be.block k hk)⟩, (hg.block mb (by omega) (fun e => by have := hr mb e.symm; omega)).trans h.blk⟩
theorem DRI.out (h : DRI w W B mb xb C v words fuel s ms mv ov nv E) (x : Int) {v' : Value} (hw : V.ownsRow B 2 1 v' (E.outs.length + 1) (iE E.outs ++ [.int .i64 x])) (hg : W.grownBy V ov.ownBlock) (hv : v'.ownBlock = ov.ownBlock ∨ v'.ownBlock = some W.heap.size) : DRI w (V.setCell ⟨xb, 1, none⟩ v') B mb xb C v words fuel s ms mv v' nv { E with outs := E.outs ++ [x] } := by
  obtain ⟨q, c, e1, e2, e3, e4, e5, e6, e7, e8, e9⟩ := h.rv
  obtain ⟨b1, b2⟩ := h.grown hg h.ef.nb.1
  have hlt : q < W.heap.size := World.block_lt_of_cell? W ⟨q, 0, none⟩ (e4 0 (by omega))
  have hbs := h.ef.base
  have hwv := h.wv
  refine ⟨below_put b1 (by omega), h.wv, by simpa [World.setCell] using Nat.le_trans h.hB hg.size, h.ok, h.len, h.cv, h.good, h.rk, (Below.heap_setCell _ _ _ _ (by show mb ≠ xb; omega)).trans b2, h.ef.out x hw hg hv, ⟨q, c, e1, e2, e3, fun r hr => ?_, e5, e6, e7, ?_, e9⟩⟩
  · exact (World.cell?_of_block (a := ⟨q, r, none⟩) ((Below.heap_setCell _ _ _ _ e5).trans (hg.block q hlt (Ne.symm e8)))).trans (e4 r hr)
  · rcases hv with e | e
    · rw [e]; exact e8
    · rw [e]; intro e'; injection e' with e'; omega
theorem DRI.into (h : DRI w W B mb xb C v words fuel s ms mv ov nv E) (x y : Int) {v' : Value} (hw : V.ownsRow B 97 2 v' (E.intos.length + 1) (pE E.intos ++ [.int .i64 x, .int .i64 y])) (hg : W.grownBy V nv.ownBlock) (hv : v'.ownBlock = nv.ownBlock ∨ v'.ownBlock = some W.heap.size) : DRI w (V.setCell ⟨xb, 2, none⟩ v') B mb xb C v words fuel s ms mv ov v' { E with intos := E.intos ++ [(x, y)] } := by
  obtain ⟨q, c, e1, e2, e3, e4, e5, e6, e7, e8, e9⟩ := h.rv
  obtain ⟨b1, b2⟩ := h.grown hg h.ef.nb.2
  have hlt : q < W.heap.size := World.block_lt_of_cell? W ⟨q, 0, none⟩ (e4 0 (by omega))
  have hbs := h.ef.base
  have hwv := h.wv
  refine ⟨below_put b1 (by omega), h.wv, by simpa [World.setCell] using Nat.le_trans h.hB hg.size, h.ok, h.len, h.cv, h.good, h.rk, (Below.heap_setCell _ _ _ _ (by show mb ≠ xb; omega)).trans b2, h.ef.into x y hw hg hv, ⟨q, c, e1, e2, e3, fun r hr => ?_, e5, e6, e7, e8, ?_⟩⟩
  · exact (World.cell?_of_block (a := ⟨q, r, none⟩) ((Below.heap_setCell _ _ _ _ e5).trans (hg.block q hlt (Ne.symm e9)))).trans (e4 r hr)
  · rcases hv with e | e
    · rw [e]; exact e9
    · rw [e]; intro e'; injection e' with e'; omega
theorem DRI.step (got : Int) (hg : R64 got) (h : DRI w W B mb xb C v words fuel s ms mv ov nv E) : Calls Try.prog 13 #[.agg ms.toArray, .int .i64 got] W fun e V => ∃ ms' : List Value, e = .returned (.agg ms'.toArray) ∧ ms'.length = 8 ∧ (∀ u ∈ ms', u.oneCell' = true) ∧ V.heap[mb]? = some (.cells ms.toArray 29) ∧ DRI w (V.setRow mb ms'.toArray) B mb xb C v words fuel (stepS C words fuel s got) ms' mv ov nv E := by
  obtain ⟨q, c, e1, e2, e3, e4, e5, e6, e7, e8, e9⟩ := h.rv
  obtain ⟨cb, co, cp, hc⟩ := h.rcd
  have : Value.agg ms.toArray = mV v (.slice (some ⟨q, 0, none⟩) 16 c) words fuel s := by rw [e1]; rfl
  rw [this]
  refine (rstep_any C v cb co cp got words fuel _ s h.rok W hc ⟨q, c, rfl, e2, e3, e4⟩).mono ?_
  rintro e V ⟨rv2, rfl, hr2, hb, hnw⟩
  have hS := h.below hb
  have hv : Value.slice (some ⟨cb, co, none⟩) C.length cp = v := hc.v.symm
  rw [hv]
  obtain ⟨g2, c2, rfl, k1, k2, k3⟩ := hr2
  have hgl : g2 < V.heap.size := World.block_lt_of_cell? V ⟨g2, 0, none⟩ (k3 0 (by omega))
  have hlx := h.ef.lt
  have hlm : mb < W.heap.size := (Array.getElem?_eq_some_iff.1 h.blk).1
  have hap : g2 ≠ xb ∧ g2 ≠ mb ∧ mv.ownBlock ≠ some g2 ∧ ov.ownBlock ≠ some g2 ∧ nv.ownBlock ≠ some g2 := by
    rcases hnw with e | ⟨g3, c3, e, hg3⟩
    · injection e with a b d
      injection a with a
      injection a with a
      subst a
      exact ⟨e5, e6, e7, e8, e9⟩
    · injection e with a b d
      injection a with a
      injection a with a
      subst a
      exact ⟨by omega, by omega, ownBlock_ne h.ef.m hg3, ownBlock_ne h.ef.o hg3, ownBlock_ne h.ef.n hg3⟩
  have hwv := h.wv
  have hbs := h.ef.base
  have hne : ∀ (cs : Array Value) k, k ≠ mb → (V.setRow mb cs).heap[k]? = V.heap[k]? := fun cs k hk => setRow_other _ _ _ _ hk
  refine ⟨(mC v (.slice (some ⟨g2, 0, none⟩) 16 c2) words fuel (stepS C words fuel s got)).toList, rfl, rfl, ?_, hS.blk, ⟨below_setRow hS.be h.wv.1 _, h.wv, by simpa using hS.hB, step_ok h.good h.rk h.len h.ok hg, (step_len _ _ _ _ _).trans h.len, h.cv, h.good, h.rk, setRow_heap V mb _ _ _ _ hS.blk, hS.ef.keep (fun k hk _ => hne _ k (by omega)), ⟨g2, c2, rfl, k1, k2, fun r hr => ?_, hap⟩⟩⟩
  · rw [← hv]; unfold mC; intro u hu; simp at hu; rcases hu with rfl | rfl | rfl | rfl | rfl | rfl | rfl | rfl <;> rfl
  · exact (World.cell?_of_block (a := ⟨g2, r, none⟩) (hne _ _ hap.2.1)).trans (k3 r hr)
end
end Go.Proofs.Ytkcncngcmhldpaa
namespace Go.Proofs.Ytkcncngcmhldpaa
open Go.RowKit Go.Maps
set_option linter.unusedVariables false
theorem own_drew {w : World} {B : Nat} {e : TypeId} {size n : Nat} {v : Value} {xs : List Value} (h : w.ownsRow B e size v n xs) : w.drew.ownsRow B e size v n xs := h
theorem EF.memc {w : World} {t B wb g n cap : Nat} {mv ov nv : Value} {E : Ef} (h : EF w t B wb mv ov nv E) (hv : mv = .slice (some ⟨g, 0, none⟩) n cap) (i : Nat) (hi : i < E.mem.length) : w.cell? ⟨g, i, none⟩ = some (.int .i64 E.mem[i]) ∧ w.frozen? ⟨g, i, none⟩ = false := by
  obtain ⟨g', cap', e, _, _, _, _, h6, h7⟩ := h.mem (by omega)
  rw [hv] at e
  injection e with a b d
  injection a with a
  injection a with a
  subst a
  exact ⟨h6 i hi, h7 i⟩
/-- at each round's head -/
def RrW (w : World) (B mb xb : Nat) (C : List In) (v : Value) (words fuel : Int) (F : St × Ef) (W : World) : Prop :=
  ∃ (k : Nat) (s : St) (ms : List Value) (mv ov nv : Value) (E : Ef), DRI w W B mb xb C v words fuel s ms mv ov nv E ∧ EI words s E ∧ runS C words fuel k (s, E) = F ∧ farS fuel s ≤ k
def farM (mb : Nat) (fuel : Int) (W : World) : Nat :=
  match W.cell? ⟨mb, 6, none⟩, W.cell? ⟨mb, 5, none⟩ with
  | some (.int _ o), some (.int _ q) => if o ≠ 0 then 0 else (fuel + 1 - q).toNat
  | _, _ => 0
theorem DRI.far {w W : World} {B mb xb : Nat} {C : List In} {v : Value} {words fuel : Int} {s : St} {ms : List Value} {mv ov nv : Value} {E : Ef} (h : DRI w W B mb xb C v words fuel s ms mv ov nv E) : farM mb fuel W = farS fuel s := by
  unfold farM
  rw [h.c6, h.c5]
  rfl

set_option maxRecDepth 100000 in
set_option maxHeartbeats 4000000 in
theorem rrun_any (C : List In) (v mv : Value) (cells fuel n i k : Int) (M : List Int) (hM : M.length ≤ 100) (hn : R64 n) (hi : R64 i) (hk : R64 k) (hR : ∀ x ∈ C, R64 x.k) (hMr : ∀ x ∈ M, R64 x) (w : World) (hv : ISl w v C) (hm : GSl w mv M) : Calls Try.prog 18 #[v, .int .i64 cells, .int .i64 fuel, inV mv n i k] w (RunQ C cells fuel n i k M w) := by
  have HNW : Hid (∀ W, Below w.heap.size w W → Calls Try.prog 25 #[v, .int .i64 cells, .int .i64 (M.length : Int), .int .i64 fuel, .int .i64 n, .int .i64 i, .int .i64 k] W (RNewP C v cells M.length fuel n i k W)) := fun W hb => rnew_any C v cells M.length fuel n i k W (hv.below hb)
  have HGM : Hid (GSl w mv M) := hm
  have HIV : Hid (ISl w v C) := hv
  obtain ⟨ad, cp, vb0, vo0, rfl, _, _, _⟩ := hv
  obtain ⟨mad, mcp, mb0, mo0, rfl, hm2, hm3, hm4⟩ := hm
  obtain ⟨ml, hml⟩ : ∃ ml, M.length = ml := ⟨_, rfl⟩
  have HML : Hid (M.length = ml) := hml
  obtain ⟨post, hpost⟩ : ∃ p, RunQ C cells fuel n i k M w = p := ⟨_, rfl⟩
  have HP : Hid (RunQ C cells fuel n i k M w = post) := hpost
  rw [hpost]
  unfold inV
  rw [hml] at HNW HGM hm2 hM ⊢
  unfold maxLen at hm3
  clear hml hpost hm4
  obtain ⟨cl, hcl⟩ : ∃ cl, C.length = cl := ⟨_, rfl⟩
  rw [hcl] at HNW HIV ⊢
  clear hcl
  go_enter Try.func18, Try.ntmps18
  go_wp2_with fail
  obtain ⟨W1, hW1⟩ : ∃ W1, (w.alloc (Obj.cells #[Value.slice mad ml mcp, Value.int IntKind.i64 n, Value.int IntKind.i64 i, Value.int IntKind.i64 k] 49)).alloc (Obj.cells #[Value.slice none 0 0, Value.slice none 0 0, Value.slice none 0 0, Value.int IntKind.i64 0, Value.int IntKind.i64 0, Value.int IntKind.i64 0] 54) = W1 := ⟨_, rfl⟩
  have HBW : Hid (Below w.heap.size w W1) := by rw [← hW1]; exact ((Below.refl _ _).alloc (Nat.le_refl _) _).alloc (by simp) _
  have HX : Hid (W1.heap[w.heap.size]? = some (.cells #[Value.slice mad ml mcp, Value.int IntKind.i64 n, Value.int IntKind.i64 i, Value.int IntKind.i64 k] 49)) := by rw [← hW1]; exact (Below.heap_alloc _ _ _ (by simp)).trans (heap_alloc_new w _)
  have HY : Hid (W1.heap[w.heap.size + 1]? = some (.cells efZ 54)) := by rw [← hW1]; have := heap_alloc_new (w.alloc (Obj.cells #[Value.slice mad ml mcp, Value.int IntKind.i64 n, Value.int IntKind.i64 i, Value.int IntKind.i64 k] 49)) (Obj.cells efZ 54); rw [World.size_alloc] at this; exact this
  rw [hW1]
  clear hW1
  refine (HNW.out _ HBW.out).mono ?_
  clear HNW
  rintro e w2 (⟨er, rfl, hr, hne, hb⟩ | ⟨rv, rfl, hr, hrr, hb⟩)
  · have HB2 : Hid (Below w.heap.size w w2) := HBW.out.trans (hb.mono HBW.out.size)
    have HY2 : Hid (∀ o, (w2.alloc o).heap[w.heap.size + 1]? = some (.cells efZ 54)) := fun o => (Below.heap_alloc _ _ _ (Nat.lt_of_lt_of_le (Array.getElem?_eq_some_iff.1 HY.out).1 hb.size)).trans ((hb.block _ (Array.getElem?_eq_some_iff.1 HY.out).1).trans HY.out)
    have hner : (er != 0) = true := by simp [hne]
    have HR : Hid (newE C cells ml fuel = er ∧ er ≠ 0) := ⟨hr, hne⟩
    clear hb hr hne
    unfold mZ
    go_wp2_with (refine wpList_store_row rfl 54 _ _ rfl (w.heap.size + 1) efZ rfl rfl 54 _ (HY2.out _) size54 rfl efZ_one ?_)
    rw [← HP.out]
    refine bodyPost_ret (ret_e Try.results18 _ (w.heap.size + 1) rfl _ rfl _ efZ rfl (setRow_heap _ _ _ _ _ _ (HY2.out _))) rfl ?_
    exact Or.inl ⟨er, rfl, by rw [HML.out]; exact HR.out.1, HR.out.2, below_setRow (HB2.out.alloc HB2.out.size _) (by omega) _⟩
  obtain ⟨hgood, hwd, hfu⟩ := newE_good hr
  have HNE : Hid (newE C cells ml fuel = 0) := hr
  have HB2 : Hid (Below w.heap.size w w2) := HBW.out.trans (hb.mono HBW.out.size)
  have HX2 : w2.heap[w.heap.size]? = some (.cells #[Value.slice mad ml mcp, Value.int IntKind.i64 n, Value.int IntKind.i64 i, Value.int IntKind.i64 k] 49) := (hb.block _ (Array.getElem?_eq_some_iff.1 HX.out).1).trans HX.out
  have HY2 : Hid (w2.heap[w.heap.size + 1]? = some (.cells efZ 54)) := (hb.block _ (Array.getElem?_eq_some_iff.1 HY.out).1).trans HY.out
  have hlt2 : w.heap.size + 1 < w2.heap.size := (Array.getElem?_eq_some_iff.1 HY2.out).1
  have x0 : w2.cell? ⟨w.heap.size, 0, none⟩ = some (.slice mad ml mcp) := by rw [cell_of_row w2 _ 0 _ _ _ HX2]; rfl
  have x0' : ∀ A D, ((w2.alloc A).alloc D).cell? ⟨w.heap.size, 0, none⟩ = some (.slice mad ml mcp) := fun A D => (World.cell?_of_block (a := ⟨w.heap.size, 0, none⟩) ((Below.heap_alloc _ _ _ (by simp; omega)).trans (Below.heap_alloc _ _ _ (by show w.heap.size < _; omega)))).trans x0
  have HGD : Hid (Good C ∧ ∀ x ∈ C, R64 x.k) := ⟨hgood, hR⟩
  have HOK : Hid (Ok C fuel (St0 n i k)) := st0_ok (words := 0) hgood hfu hn hi hk
  have HEI : Hid (EI ml (St0 n i k) ⟨M, [], []⟩) := ⟨by rw [← HML.out], hMr, by show (0 : Int) ≤ 0; omega, by show (0 : Int) ≤ 0; omega⟩
  have HRR : Hid (RRg w2 rv (St0 n i k)) := hrr
  have HG2 : Hid (GSl w2 (.slice mad ml mcp) M) := HGM.out.below HB2.out
  have HFU : Hid (1 ≤ fuel ∧ fuel ≤ 4000) := hfu
  have hml64 : 1 ≤ ml ∧ ml ≤ 64 := by omega
  obtain ⟨rb, rc, rfl, hr16, hrm, _⟩ := hrr
  clear hb hr HX HY HX2 hgood hwd hR hMr hn hi hk HGM
  unfold mV mC
  rw [show (St0 n i k).pc = 0 from rfl, show (St0 n i k).steps = 0 from rfl, show (St0 n i k).over = 0 from rfl, show (St0 n i k).value = 0 from rfl]
  obtain ⟨i0, hi, hz0, hz1, hz2⟩ := info_parts info2
  obtain ⟨gad, gcap, gb, go, hge, hg2, hg3, hg4, hg5⟩ := HG2.out
  have hgl : M.length = ml := HML.out
  injection hge with ge1 ge2 ge3
  subst ge1 ge3
  have hgad := hg4 (by omega)
  subst hgad
  have HG5 : Hid (∀ i (h : i < M.length), w2.cell? ⟨gb, go + i, none⟩ = some (.int .i64 M[i])) := hg5
  clear ge2 hgl hg4 hg5 hg2
  go_wp2_with (at_builtin; refine wpList_append_own_at _ rfl _ _ 25 rfl (w2.heap.size + 1) 2 i0 _ 1 8 Try.underlying25 hi hz0 hz1 hz2 rfl (by decide) _ 0 [] rfl ?d0 ⟨gb, go, none⟩ ml mcp (iE M) rfl ?dl ?d1 ?d2 ?d3 ?d4 ?d5 ?_)
  case d0 => exact ⟨rfl, Or.inr ⟨w2.heap.size + 1, 0, #[], rfl, Nat.le_refl _, by have := heap_alloc_new (w2.alloc (Obj.cells #[Value.slice ad cl cp, Value.int IntKind.i64 ml, Value.int IntKind.i64 fuel, Value.slice (some ⟨rb, 0, none⟩) 16 rc, Value.int IntKind.i64 0, Value.int IntKind.i64 0, Value.int IntKind.i64 0, Value.int IntKind.i64 0] 29)) (Obj.cells #[] 2); rw [World.size_alloc] at this; exact this, Nat.le_refl _, by unfold maxLen; omega, rfl, rfl⟩⟩
  case dl => rw [iE_len, HML.out]; omega
  case d1 =>
    intro j u hu
    have hj : j < M.length := by
      rcases Nat.lt_or_ge j M.length with h | h
      · exact h
      · rw [List.getElem?_eq_none (by rw [iE_len]; exact h)] at hu; cases hu
    rw [iE_at M j hj] at hu
    injection hu with hu
    subst hu
    rw [addn]
    have hc := HG5.out j hj
    have hl := World.block_lt_of_cell? w2 _ hc
    exact (World.cell?_of_block (a := ⟨gb, go + j, none⟩) ((Below.heap_alloc _ _ _ (by simp; exact Nat.lt_succ_of_lt hl)).trans (Below.heap_alloc _ _ _ hl))).trans hc
  case d2 => intro u hu; simp [iE] at hu; obtain ⟨x, _, rfl⟩ := hu; rfl
  case d3 => unfold maxLen; omega
  case d4 => omega
  case d5 => simp
  intro v' w3 hown hg _ hob
  have HB3 : Hid (Below w2.heap.size w2 w3) := ⟨hg.os, hg.tape, hg.output, Nat.le_trans (by simp; omega) hg.size, fun k hk => (hg.block k (by simp; omega) (by intro e; injection e with e; simp at e; omega)).trans ((Below.heap_alloc _ _ _ (by simp; omega)).trans (Below.heap_alloc _ _ _ hk))⟩
  have HM3 : Hid (w3.heap[w2.heap.size]? = some (.cells #[Value.slice ad cl cp, Value.int IntKind.i64 ml, Value.int IntKind.i64 fuel, Value.slice (some ⟨rb, 0, none⟩) 16 rc, Value.int IntKind.i64 0, Value.int IntKind.i64 0, Value.int IntKind.i64 0, Value.int IntKind.i64 0] 29)) := (hg.block _ (by simp; omega) (by intro e; injection e with e; simp at e)).trans ((Below.heap_alloc _ _ _ (by simp)).trans (heap_alloc_new w2 _))
  have HOW : Hid (w3.ownsRow (w2.heap.size + 1) 2 1 v' M.length (iE M)) := by rw [HML.out]; exact hown
  have hs3 : w2.heap.size + 1 < w3.heap.size := by have := hg.size; simp at this; omega
  obtain ⟨c1, c2, c3, rfl⟩ := owns_slice hown
  have hrbl : rb < w2.heap.size := by
    obtain ⟨g, c, e, _, _, h⟩ := HRR.out
    injection e with a b d
    injection a with a
    injection a with a
    subst a
    exact World.block_lt_of_cell? w2 ⟨rb, 0, none⟩ (h 0 (by omega))
  clear hown hg hob x0 x0'
  go_wp2_with fail
  obtain ⟨B, hB⟩ : ∃ B, w2.heap.size + 1 = B := ⟨_, rfl⟩
  obtain ⟨mb, hmb⟩ : ∃ mb, w2.heap.size = mb := ⟨_, rfl⟩
  obtain ⟨xb, hxb⟩ : ∃ xb, w3.heap.size = xb := ⟨_, rfl⟩
  obtain ⟨W4, hW4⟩ : ∃ W4, w3.alloc (Obj.cells #[Value.slice c1 c2 c3, Value.slice none 0 0, Value.slice none 0 0, Value.int IntKind.i64 0, Value.int IntKind.i64 0, Value.int IntKind.i64 0] 54) = W4 := ⟨_, rfl⟩
  obtain ⟨F, hF⟩ : ∃ F, runS C ml fuel (fuel.toNat + 1) (St0 n i k, ⟨M, [], []⟩) = F := ⟨_, rfl⟩
  have HB4 : Hid (Below w2.heap.size w2 W4) := by rw [← hW4]; exact HB3.out.alloc HB3.out.size _
  have HY4 : Hid (W4.heap[w.heap.size + 1]? = some (.cells efZ 54)) := (HB4.out.block _ hlt2).trans HY2.out
  have HI : Hid (RrW w2 B mb xb C (.slice ad cl cp) ml fuel F W4) := by
    refine ⟨_, _, [Value.slice ad cl cp, .int .i64 ml, .int .i64 fuel, .slice (some ⟨rb, 0, none⟩) 16 rc, .int .i64 0, .int .i64 0, .int .i64 0, .int .i64 0], _, _, _, _, ⟨HB4.out, by omega, by rw [← hW4]; simp; omega, HOK.out, rfl, HIV.out.below HB2.out, HGD.out.1, HGD.out.2, ?_, ⟨by rw [← hW4, ← hxb]; exact heap_alloc_new w3 _, by omega, ?_, World.ownsRow_nil _ _ _ _, World.ownsRow_nil _ _ _ _, Or.inr (Or.inl rfl), Or.inr (Or.inl rfl), Or.inl rfl, ?_, by simp [Value.ownBlock], by simp [Value.ownBlock]⟩, ⟨rb, rc, rfl, hr16, hrm, ?_, by omega, by omega, ?_, by simp [Value.ownBlock], by simp [Value.ownBlock]⟩⟩, HEI.out, hF, ?_⟩
    · rw [← hW4, ← hmb]; exact (Below.heap_alloc _ _ _ (by omega)).trans HM3.out
    · rw [← hW4, ← hB]; exact HOW.out.alloc _
    · rw [← hxb]; exact ownBlock_ne HOW.out (Nat.le_refl _)
    · intro r hr
      obtain ⟨g, c, e, _, _, h⟩ := HRR.out
      injection e with a b d
      injection a with a
      injection a with a
      subst a
      exact (HB4.out.cell (p := ⟨rb, r, none⟩) (World.block_lt_of_cell? w2 _ (h r hr))).trans (h r hr)
    · intro e
      have := (HOW.out.lt rb e).1
      omega
    · have h0 : (St0 n i k).steps = 0 := rfl
      unfold farS
      rw [if_neg (by simp [St0]), h0]
      have := HFU.out
      omega
  have HFE : Hid (F = lastS C ml fuel n i k M) := by show _ = _; rw [← hF]; rfl
  have hlt4 : w.heap.size + 1 < mb := by omega
  have HMB : Hid (w2.heap.size = mb) := hmb
  rw [hW4, hxb, hmb]
  clear hW4 hF HB4 HB3 HOW hxb hB hmb HM3 HOK HEI hrbl hs3 HRR HG2 HG5 hg3 hr16 hrm hm2 hm3
  go_loopw [] (fun wr => RrW w2 B mb xb C (.slice ad cl cp) ml fuel F wr) (fun wr => farM mb fuel wr)
  case atStart => exact HI.out
  case round =>
    obtain ⟨k', s, ms, mv, ov, nv, E, hS, hE, hF, hkf⟩ := hrel
    have HS : Hid (DRI w2 wr B mb xb C (.slice ad cl cp) ml fuel s ms mv ov nv E) := hS
    have HEI : Hid (EI ml s E) := hE
    have HKF : Hid (runS C ml fuel k' (s, E) = F ∧ farS fuel s ≤ k') := ⟨hF, hkf⟩
    have c6 := hS.c6
    clear hF hkf HI HY4
    by_cases h0 : s.over = 0
    · obtain ⟨T, hT⟩ : ∃ T, wantS C ml fuel s = T := ⟨_, rfl⟩
      obtain ⟨z, hz⟩ : ∃ z, gotE E T = z := ⟨_, rfl⟩
      have HZR : Hid (R64 z) := by rw [← hz]; exact got_R hE T
      have HRD : Hid (roundS C ml fuel (s, E) = (stepS C ml fuel s z, doE E T)) := by show roundS _ _ _ _ = _; unfold roundS; dsimp only; rw [hT, hz]
      have hin := want_in (words := (ml : Int)) hS.good hS.ok
      rw [hT] at hin
      have hlm : E.mem.length = ml := by have := hE.len; omega
      have ho4 : E.outs.length ≤ 4000 := by have h1 := hE.outs; have h2 := hS.ok.steps; have h3 := hS.ok.fuel; omega
      have hn4 : E.intos.length ≤ 4000 := by have h1 := hE.intos; have h2 := hS.ok.steps; have h3 := hS.ok.fuel; omega
      have HNX : Hid (∀ V ms' mv' ov' nv', DRI w2 V B mb xb C (.slice ad cl cp) ml fuel (stepS C ml fuel s z) ms' mv' ov' nv' (doE E T) → RrW w2 B mb xb C (.slice ad cl cp) ml fuel F V ∧ farM mb fuel V < farM mb fuel wr) := fun V ms' mv' ov' nv' hV => by
        obtain ⟨r1, r2, r3⟩ := round_ok (words := (ml : Int)) (fuel := fuel) (p := (s, E)) hS.good hS.rk hS.len hS.ok hE
        have hf := round_far (words := (ml : Int)) (p := (s, E)) h0 hS.ok
        rw [HRD.out] at r3 hf
        have hk : farS fuel (s, E).1 ≤ k' := HKF.out.2
        have h2 : farS fuel (stepS C ml fuel s z) < farS fuel (s, E).1 := hf
        obtain ⟨k2, rfl⟩ : ∃ k2, k' = k2 + 1 := ⟨k' - 1, by omega⟩
        refine ⟨⟨k2, _, _, _, _, _, _, hV, r3, ?_, by omega⟩, ?_⟩
        · have := HKF.out.1
          unfold runS at this
          rw [HRD.out] at this
          exact this
        · rw [hV.far, HS.out.far]; exact hf
      have HL8 : Hid ((Try.prog.info? 29).map (·.size) = some ms.length) := by show _ = _; rw [hS.l8]; exact size29
      have hwv := hS.wv
      have hbs := hS.ef.base
      obtain ⟨kd, ps, vl⟩ := T
      have HTE : Hid (wantS C ml fuel s = ⟨kd, ps, vl⟩) := hT
      dsimp only at hin
      clear hE hT
      by_cases k1 : kd = 1
      · subst k1
        obtain ⟨p, rfl⟩ : ∃ p : Nat, ps = p := ⟨ps.toNat, by have := hin.1 (Or.inl rfl); omega⟩
        have hp : p < E.mem.length := by have := hin.1 (Or.inl rfl); omega
        obtain ⟨g, cap, hmv, hg, hgx, hc, hcm, _, _⟩ := hS.ef.mem (by omega)
        have hzp : z = E.mem[p] := by rw [← hz]; unfold gotE; rw [if_pos rfl]; simp [List.getD, hp]
        have HMC : Hid (∀ W, DRI w2 W B mb xb C (.slice ad cl cp) ml fuel s ms mv ov nv E → W.cell? ⟨xb, 0, none⟩ = some (.slice (some ⟨g, 0, none⟩) ml cap) ∧ W.cell? ⟨g, p, none⟩ = some (.int .i64 z)) := fun W hW => ⟨by rw [hW.ef.c0, hmv, hlm], by rw [hzp]; exact (hW.ef.memc hmv p hp).1⟩
        rw [hlm] at hc hp
        unfold maxLen at hcm
        clear hz hzp hin hmv hlm hS
        go_wp2_with (first | (refine wpList_load_mid rfl 29 _ rfl mb 0 rfl ms _ HS.out.rng Try.underlying29 rfl HL8.out ?_) | (go_at_call 10; refine HS.out.want.mono ?_; rintro e w5 ⟨rfl, h5⟩; rw [HTE.out]; unfold wtV; have HS5 : Hid (DRI w2 w5 B mb xb C (.slice ad cl cp) ml fuel s ms mv ov nv E) := h5; have q0 := fun A => cell_alloc (HMC.out _ HS5.out).1 A; have q1 := fun A => cell_alloc (HMC.out _ HS5.out).2 A; have HS6 : Hid (∀ A, DRI w2 (w5.alloc A) B mb xb C (.slice ad cl cp) ml fuel s ms mv ov nv E) := (fun A => HS5.out.alloc A); clear h5) | (refine wpList_load_mid rfl 29 _ rfl mb 0 rfl ms _ (HS6.out _).rng Try.underlying29 rfl HL8.out ?_) | (go_at_call 13; refine ((HS6.out _).step z HZR.out).mono ?_; rintro e w10 ⟨ms', rfl, h8, ho, hblk, hs11⟩; have HBK : Hid (w10.heap[mb]? = some (.cells ms.toArray 29)) := hblk; have HS11 : Hid (DRI w2 (w10.setRow mb ms'.toArray) B mb xb C (.slice ad cl cp) ml fuel (stepS C ml fuel s z) ms' mv ov nv E) := hs11; have HO8 : Hid (ms'.toArray.all (·.oneCell') = true) := all_oneCell_toArray ho; have HI8 : Hid ((Try.prog.info? 29).map (·.size) = some ms'.toArray.size) := (by show _ = _; rw [List.size_toArray, h8]; exact size29); have HZ8 : Hid (ms.toArray.size = ms'.toArray.size) := (by show _ = _; rw [List.size_toArray, List.size_toArray, h8, HS.out.l8]); clear h8 ho hblk hs11) | (refine wpList_store_row rfl 29 _ _ rfl mb ms'.toArray rfl rfl 29 _ HBK.out HI8.out HZ8.out HO8.out ?_))
        simp only [Act.put]
        go_roundw
        case rel => exact (HNX.out _ _ _ _ _ HS11.out).1
        case measure => exact (HNX.out _ _ _ _ _ HS11.out).2
      by_cases k2 : kd = 2
      · subst k2
        obtain ⟨p, rfl⟩ : ∃ p : Nat, ps = p := ⟨ps.toNat, by have := hin.1 (Or.inr rfl); omega⟩
        have hp : p < E.mem.length := by have := hin.1 (Or.inr rfl); omega
        obtain ⟨g, cap, hmv, hg, hgx, hc, hcm, _, _⟩ := hS.ef.mem (by omega)
        have hzp : 0 = z := by rw [← hz]; rfl
        subst hzp
        have HMC : Hid (∀ W, DRI w2 W B mb xb C (.slice ad cl cp) ml fuel s ms mv ov nv E → W.cell? ⟨xb, 0, none⟩ = some (.slice (some ⟨g, 0, none⟩) ml cap) ∧ ∃ u, W.cell? ⟨g, p, none⟩ = some (.int .i64 u) ∧ W.frozen? ⟨g, p, none⟩ = false) := fun W hW => ⟨by rw [hW.ef.c0, hmv, hlm], _, hW.ef.memc hmv p hp⟩
        have HPT : Hid (∀ W, DRI w2 W B mb xb C (.slice ad cl cp) ml fuel s ms mv ov nv E → DRI w2 (W.setCell ⟨g, p, none⟩ (.int .i64 vl)) B mb xb C (.slice ad cl cp) ml fuel s ms mv ov nv (doE E ⟨2, p, vl⟩)) := fun W hW => hW.put hmv hg p hp vl
        rw [hlm] at hc hp
        unfold maxLen at hcm
        clear hz hin hmv hlm hS
        go_wp2_with (first | (refine wpList_load_mid rfl 29 _ rfl mb 0 rfl ms _ HS.out.rng Try.underlying29 rfl HL8.out ?_) | (go_at_call 10; refine HS.out.want.mono ?_; rintro e w5 ⟨rfl, h5⟩; rw [HTE.out]; unfold wtV; have HS5 : Hid (DRI w2 w5 B mb xb C (.slice ad cl cp) ml fuel s ms mv ov nv E) := h5; have q0 := (fun A => (HMC.out _ (HS5.out.alloc A)).1); obtain ⟨u, hu⟩ : ∃ u, w5.cell? ⟨g, p, none⟩ = some (.int .i64 u) := ⟨_, (HMC.out _ HS5.out).2.choose_spec.1⟩; have q1 := fun A => cell_alloc hu A; have q2 := (fun A => (HMC.out _ (HS5.out.alloc A)).2.choose_spec.2); have HS6 : Hid (∀ A, DRI w2 ((w5.alloc A).setCell ⟨g, p, none⟩ (.int .i64 vl)) B mb xb C (.slice ad cl cp) ml fuel s ms mv ov nv (doE E ⟨2, p, vl⟩)) := (fun A => HPT.out _ (HS5.out.alloc A)); clear h5) | (refine wpList_load_mid rfl 29 _ rfl mb 0 rfl ms _ (HS6.out _).rng Try.underlying29 rfl HL8.out ?_) | (go_at_call 13; refine ((HS6.out _).step 0 HZR.out).mono ?_; rintro e w10 ⟨ms', rfl, h8, ho, hblk, hs11⟩; have HBK : Hid (w10.heap[mb]? = some (.cells ms.toArray 29)) := hblk; have HS11 : Hid (DRI w2 (w10.setRow mb ms'.toArray) B mb xb C (.slice ad cl cp) ml fuel (stepS C ml fuel s 0) ms' mv ov nv (doE E ⟨2, p, vl⟩)) := hs11; have HO8 : Hid (ms'.toArray.all (·.oneCell') = true) := all_oneCell_toArray ho; have HI8 : Hid ((Try.prog.info? 29).map (·.size) = some ms'.toArray.size) := (by show _ = _; rw [List.size_toArray, h8]; exact size29); have HZ8 : Hid (ms.toArray.size = ms'.toArray.size) := (by show _ = _; rw [List.size_toArray, List.size_toArray, h8, HS.out.l8]); clear h8 ho hblk hs11) | (refine wpList_store_row rfl 29 _ _ rfl mb ms'.toArray rfl rfl 29 _ HBK.out HI8.out HZ8.out HO8.out ?_))
        simp only [Act.put]
        go_roundw
        case rel => exact (HNX.out _ _ _ _ _ HS11.out).1
        case measure => exact (HNX.out _ _ _ _ _ HS11.out).2
      by_cases k3 : kd = 3
      · subst k3
        have hzp : 0 = z := by rw [← hz]; rfl
        subst hzp
        obtain ⟨i9, hi9, hy0, hy1, hy2⟩ := info_parts info97
        obtain ⟨L, hL⟩ : ∃ L, E.intos.length = L := ⟨_, rfl⟩
        have HL : Hid (E.intos.length = L) := hL
        have hl4 : L ≤ 4000 := by rw [← hL]; exact hn4
        clear hz hin hlm hS hL ho4 hn4
        go_wp2_with (first | (refine wpList_load_mid rfl 29 _ rfl mb 0 rfl ms _ HS.out.rng Try.underlying29 rfl HL8.out ?_) | (go_at_call 10; refine HS.out.want.mono ?_; rintro e w5 ⟨rfl, h5⟩; rw [HTE.out]; unfold wtV; have HS5 : Hid (DRI w2 w5 B mb xb C (.slice ad cl cp) ml fuel s ms mv ov nv E) := h5; have q0 := (fun A => (HS5.out.alloc A).ef.c2); have HS6 : Hid (∀ A, DRI w2 (w5.alloc A) B mb xb C (.slice ad cl cp) ml fuel s ms mv ov nv E) := (fun A => HS5.out.alloc A); clear h5) | (at_builtin; refine wpList_append_own_at _ rfl _ _ 52 rfl B 97 i9 (.agg #[.int .i64 0, .int .i64 0]) 2 16 Try.underlying52 hi9 hy0 hy1 hy2 rfl (by decide) _ L (pE E.intos) rfl ?d0 ⟨w5.heap.size + 1, 0, none⟩ 1 1 [.int .i64 ps, .int .i64 vl] rfl rfl ?d1 ?d2 ?d3 ?d4 ?d5 ?_))
        case d0 => rw [← HL.out]; exact ((HS6.out _).alloc _).ef.n
        case d1 => have hq := cell_two_new (w5.alloc (Obj.cells #[Value.int IntKind.i64 3, Value.int IntKind.i64 ps, Value.int IntKind.i64 vl] 35)) (.int .i64 ps) (.int .i64 vl) 97; rw [World.size_alloc] at hq; exact hq
        case d2 => simp [Value.oneCell']
        case d3 => unfold maxLen; omega
        case d4 => omega
        case d5 => exact ((HS6.out _).alloc _).hB
        intro v2 w7 hown hg _ hob
        obtain ⟨W6, hW6⟩ : ∃ W6, (w5.alloc (Obj.cells #[Value.int IntKind.i64 3, Value.int IntKind.i64 ps, Value.int IntKind.i64 vl] 35)).alloc (Obj.cells #[Value.int IntKind.i64 ps, Value.int IntKind.i64 vl] 97) = W6 := ⟨_, rfl⟩
        have hz6 : W6.heap.size = w5.heap.size + 1 + 1 := by rw [← hW6]; simp
        rw [hW6] at hg
        rw [← hz6] at hob
        clear hz6
        have HW6 : Hid (DRI w2 W6 B mb xb C (.slice ad cl cp) ml fuel s ms mv ov nv E) := by rw [← hW6]; exact (HS6.out _).alloc _
        obtain ⟨a1, a2, a3, rfl⟩ := owns_slice hown
        have HS7 : Hid (DRI w2 (w7.setCell ⟨xb, 2, none⟩ (.slice a1 a2 a3)) B mb xb C (.slice ad cl cp) ml fuel s ms mv ov (.slice a1 a2 a3) (doE E ⟨3, ps, vl⟩)) := by
          rw [← HL.out] at hown
          exact HW6.out.into ps vl hown hg hob
        have hbl : w7.heap[xb]? = _ := (hg.block xb HW6.out.ef.lt (Ne.symm HW6.out.ef.nw)).trans HW6.out.ef.blk
        have r1 : w7.cell? ⟨xb, 2, none⟩ = some nv := by rw [cell_of_row w7 _ 2 _ _ _ hbl]; rfl
        have r2 : w7.frozen? ⟨xb, 2, none⟩ = false := frozen_of_row w7 xb 2 _ _ hbl
        clear hown hg hob hbl hW6
        go_wp2_with (first | (refine wpList_load_mid rfl 29 _ rfl mb 0 rfl ms _ (HS7.out).rng Try.underlying29 rfl HL8.out ?_) | (go_at_call 13; refine ((HS7.out).step 0 HZR.out).mono ?_; rintro e w10 ⟨ms', rfl, h8, ho, hblk, hs11⟩; have HBK : Hid (w10.heap[mb]? = some (.cells ms.toArray 29)) := hblk; have HS11 : Hid (DRI w2 (w10.setRow mb ms'.toArray) B mb xb C (.slice ad cl cp) ml fuel (stepS C ml fuel s 0) ms' mv ov (.slice a1 a2 a3) (doE E ⟨3, ps, vl⟩)) := hs11; have HO8 : Hid (ms'.toArray.all (·.oneCell') = true) := all_oneCell_toArray ho; have HI8 : Hid ((Try.prog.info? 29).map (·.size) = some ms'.toArray.size) := (by show _ = _; rw [List.size_toArray, h8]; exact size29); have HZ8 : Hid (ms.toArray.size = ms'.toArray.size) := (by show _ = _; rw [List.size_toArray, List.size_toArray, h8, HS.out.l8]); clear h8 ho hblk hs11) | (refine wpList_store_row rfl 29 _ _ rfl mb ms'.toArray rfl rfl 29 _ HBK.out HI8.out HZ8.out HO8.out ?_))
        simp only [Act.put]
        go_roundw
        case rel => exact (HNX.out _ _ _ _ _ HS11.out).1
        case measure => exact (HNX.out _ _ _ _ _ HS11.out).2
      by_cases k4 : kd = 4
      · subst k4
        have hzp : 0 = z := by rw [← hz]; rfl
        subst hzp
        obtain ⟨i9, hi9, hy0, hy1, hy2⟩ := info_parts info2
        obtain ⟨L, hL⟩ : ∃ L, E.outs.length = L := ⟨_, rfl⟩
        have HL : Hid (E.outs.length = L) := hL
        have hl4 : L ≤ 4000 := by rw [← hL]; exact ho4
        clear hz hin hlm hS hL ho4 hn4
        go_wp2_with (first | (refine wpList_load_mid rfl 29 _ rfl mb 0 rfl ms _ HS.out.rng Try.underlying29 rfl HL8.out ?_) | (go_at_call 10; refine HS.out.want.mono ?_; rintro e w5 ⟨rfl, h5⟩; rw [HTE.out]; unfold wtV; have HS5 : Hid (DRI w2 w5 B mb xb C (.slice ad cl cp) ml fuel s ms mv ov nv E) := h5; have q0 := (fun A => (HS5.out.alloc A).ef.c1); have HS6 : Hid (∀ A, DRI w2 (w5.alloc A) B mb xb C (.slice ad cl cp) ml fuel s ms mv ov nv E) := (fun A => HS5.out.alloc A); clear h5) | (at_builtin; refine wpList_append_own_at _ rfl _ _ 25 rfl B 2 i9 (.int .i64 0) 1 8 Try.underlying25 hi9 hy0 hy1 hy2 rfl (by decide) _ L (iE E.outs) rfl ?d0 ⟨w5.heap.size + 1, 0, none⟩ 1 1 [.int .i64 vl] rfl rfl ?d1 ?d2 ?d3 ?d4 ?d5 ?_))
        case d0 => rw [← HL.out]; exact ((HS6.out _).alloc _).ef.o
        case d1 => have hq := cell_one_new (w5.alloc (Obj.cells #[Value.int IntKind.i64 4, Value.int IntKind.i64 ps, Value.int IntKind.i64 vl] 35)) (.int .i64 vl) 2; rw [World.size_alloc] at hq; exact hq
        case d2 => simp [Value.oneCell']
        case d3 => unfold maxLen; omega
        case d4 => omega
        case d5 => exact ((HS6.out _).alloc _).hB
        intro v2 w7 hown hg _ hob
        obtain ⟨W6, hW6⟩ : ∃ W6, (w5.alloc (Obj.cells #[Value.int IntKind.i64 4, Value.int IntKind.i64 ps, Value.int IntKind.i64 vl] 35)).alloc (Obj.cells #[Value.int IntKind.i64 vl] 2) = W6 := ⟨_, rfl⟩
        have hz6 : W6.heap.size = w5.heap.size + 1 + 1 := by rw [← hW6]; simp
        rw [hW6] at hg
        rw [← hz6] at hob
        clear hz6
        have HW6 : Hid (DRI w2 W6 B mb xb C (.slice ad cl cp) ml fuel s ms mv ov nv E) := by rw [← hW6]; exact (HS6.out _).alloc _
        obtain ⟨a1, a2, a3, rfl⟩ := owns_slice hown
        have HS7 : Hid (DRI w2 (w7.setCell ⟨xb, 1, none⟩ (.slice a1 a2 a3)) B mb xb C (.slice ad cl cp) ml fuel s ms mv (.slice a1 a2 a3) nv (doE E ⟨4, ps, vl⟩)) := by
          rw [← HL.out] at hown
          exact HW6.out.out vl hown hg hob
        have hbl : w7.heap[xb]? = _ := (hg.block xb HW6.out.ef.lt (Ne.symm HW6.out.ef.ow)).trans HW6.out.ef.blk
        have r1 : w7.cell? ⟨xb, 1, none⟩ = some ov := by rw [cell_of_row w7 _ 1 _ _ _ hbl]; rfl
        have r2 : w7.frozen? ⟨xb, 1, none⟩ = false := frozen_of_row w7 xb 1 _ _ hbl
        clear hown hg hob hbl hW6
        go_wp2_with (first | (refine wpList_load_mid rfl 29 _ rfl mb 0 rfl ms _ (HS7.out).rng Try.underlying29 rfl HL8.out ?_) | (go_at_call 13; refine ((HS7.out).step 0 HZR.out).mono ?_; rintro e w10 ⟨ms', rfl, h8, ho, hblk, hs11⟩; have HBK : Hid (w10.heap[mb]? = some (.cells ms.toArray 29)) := hblk; have HS11 : Hid (DRI w2 (w10.setRow mb ms'.toArray) B mb xb C (.slice ad cl cp) ml fuel (stepS C ml fuel s 0) ms' mv (.slice a1 a2 a3) nv (doE E ⟨4, ps, vl⟩)) := hs11; have HO8 : Hid (ms'.toArray.all (·.oneCell') = true) := all_oneCell_toArray ho; have HI8 : Hid ((Try.prog.info? 29).map (·.size) = some ms'.toArray.size) := (by show _ = _; rw [List.size_toArray, h8]; exact size29); have HZ8 : Hid (ms.toArray.size = ms'.toArray.size) := (by show _ = _; rw [List.size_toArray, List.size_toArray, h8, HS.out.l8]); clear h8 ho hblk hs11) | (refine wpList_store_row rfl 29 _ _ rfl mb ms'.toArray rfl rfl 29 _ HBK.out HI8.out HZ8.out HO8.out ?_))
        simp only [Act.put]
        go_roundw
        case rel => exact (HNX.out _ _ _ _ _ HS11.out).1
        case measure => exact (HNX.out _ _ _ _ _ HS11.out).2
      have k5 : kd ≠ 3 ∧ kd ≠ 4 := ⟨k3, k4⟩
      have hzp : 0 = z := by rw [← hz]; unfold gotE; rw [if_neg k1]
      subst hzp
      have hdo : doE E ⟨kd, ps, vl⟩ = E := by unfold doE; rw [if_neg k2, if_neg k5.1, if_neg k5.2]
      rw [hdo] at HNX
      have d1 : (kd == 1) = false := by simpa using k1
      have d2 : (kd == 2) = false := by simpa using k2
      have d3 : (kd == 3) = false := by simpa using k5.1
      have d4 : (kd == 4) = false := by simpa using k5.2
      clear hz hin hlm hS hdo
      go_wp2_with (first | (refine wpList_load_mid rfl 29 _ rfl mb 0 rfl ms _ HS.out.rng Try.underlying29 rfl HL8.out ?_) | (go_at_call 10; refine HS.out.want.mono ?_; rintro e w5 ⟨rfl, h5⟩; rw [HTE.out]; unfold wtV; have HS5 : Hid (DRI w2 w5 B mb xb C (.slice ad cl cp) ml fuel s ms mv ov nv E) := h5; have HS6 : Hid (∀ A, DRI w2 (w5.alloc A) B mb xb C (.slice ad cl cp) ml fuel s ms mv ov nv E) := (fun A => HS5.out.alloc A); clear h5) | (refine wpList_load_mid rfl 29 _ rfl mb 0 rfl ms _ (HS6.out _).rng Try.underlying29 rfl HL8.out ?_) | (go_at_call 13; refine ((HS6.out _).step 0 HZR.out).mono ?_; rintro e w10 ⟨ms', rfl, h8, ho, hblk, hs11⟩; have HBK : Hid (w10.heap[mb]? = some (.cells ms.toArray 29)) := hblk; have HS11 : Hid (DRI w2 (w10.setRow mb ms'.toArray) B mb xb C (.slice ad cl cp) ml fuel (stepS C ml fuel s 0) ms' mv ov nv E) := hs11; have HO8 : Hid (ms'.toArray.all (·.oneCell') = true) := all_oneCell_toArray ho; have HI8 : Hid ((Try.prog.info? 29).map (·.size) = some ms'.toArray.size) := (by show _ = _; rw [List.size_toArray, h8]; exact size29); have HZ8 : Hid (ms.toArray.size = ms'.toArray.size) := (by show _ = _; rw [List.size_toArray, List.size_toArray, h8, HS.out.l8]); clear h8 ho hblk hs11) | (refine wpList_store_row rfl 29 _ _ rfl mb ms'.toArray rfl rfl 29 _ HBK.out HI8.out HZ8.out HO8.out ?_))
      simp only [Act.put]
      go_roundw
      case rel => exact (HNX.out _ _ _ _ _ HS11.out).1
      case measure => exact (HNX.out _ _ _ _ _ HS11.out).2
    · have hFe : (s, E) = F := by have := HKF.out.1; rw [run_over k' h0] at this; exact this
      have HFS : Hid ((s, E) = F) := hFe
      have hov : (s.over == 0) = false := by simpa using h0
      have hwv := hS.wv
      have hbs := hS.ef.base
      have hne : xb ≠ mb := by omega
      have hne2 : mb ≠ xb := by omega
      have c5 := hS.c5
      have c7 := hS.c7
      obtain ⟨m1, m2, m3, rfl⟩ := owns_slice hS.ef.m
      obtain ⟨o1, o2, o3, rfl⟩ := owns_slice hS.ef.o
      obtain ⟨n1, n2, n3, rfl⟩ := owns_slice hS.ef.n
      have z0 := hS.ef.c0
      have z1 := hS.ef.c1
      have z2 := hS.ef.c2
      have z3 : wr.cell? ⟨xb, 3, none⟩ = some (.int .i64 0) := by rw [cell_of_row wr _ 3 _ _ _ hS.ef.blk]; rfl
      have z4 : wr.cell? ⟨xb, 4, none⟩ = some (.int .i64 0) := by rw [cell_of_row wr _ 4 _ _ _ hS.ef.blk]; rfl
      have z5 : wr.cell? ⟨xb, 5, none⟩ = some (.int .i64 0) := by rw [cell_of_row wr _ 5 _ _ _ hS.ef.blk]; rfl
      have y3 := hS.ef.fz 3
      have y4 := hS.ef.fz 4
      have y5 := hS.ef.fz 5
      obtain ⟨V6, hV6⟩ : ∃ V6, (((wr.setCell ⟨xb, 3, none⟩ (Value.int .i64 s.over)).setCell ⟨xb, 4, none⟩ (Value.int .i64 s.value)).setCell ⟨xb, 5, none⟩ (Value.int .i64 s.steps)).drew = V6 := ⟨_, rfl⟩
      have hbk : ∀ j, j ≠ xb → V6.heap[j]? = wr.heap[j]? := fun j hj => by rw [← hV6]; exact (Below.heap_setCell _ _ _ _ hj).trans ((Below.heap_setCell _ _ _ _ hj).trans (Below.heap_setCell _ _ _ _ hj))
      have HY6 : Hid (V6.heap[w.heap.size + 1]? = some (.cells efZ 54)) := by
        show _ = _
        rw [hbk _ (by omega), hS.be.block _ (by rw [HMB.out]; exact hlt4)]
        exact HY2.out
      have HE6 : Hid (∀ cs, ER (V6.setRow (w.heap.size + 1) cs) (.slice m1 m2 m3) (.slice o1 o2 o3) (.slice n1 n2 n3) E) := fun cs => by
        have h := hS.ef
        have hk : ∀ j, B ≤ j → j < V6.heap.size → (V6.setRow (w.heap.size + 1) cs).heap[j]? = V6.heap[j]? := fun j hj _ => setRow_other _ _ _ _ (by omega)
        refine ⟨gsl_own (B := B) (ownsRow_blocks ?_ hk), gsl_own (B := B) (ownsRow_blocks ?_ hk), psl_own (B := B) (ownsRow_blocks ?_ hk)⟩ <;> rw [← hV6]
        · exact own_drew (ownsRow_setCell_other (ownsRow_setCell_other (ownsRow_setCell_other h.m h.mw _) h.mw _) h.mw _)
        · exact own_drew (ownsRow_setCell_other (ownsRow_setCell_other (ownsRow_setCell_other h.o h.ow _) h.ow _) h.ow _)
        · exact own_drew (ownsRow_setCell_other (ownsRow_setCell_other (ownsRow_setCell_other h.n h.nw _) h.nw _) h.nw _)
      have HB6 : Hid (Below w.heap.size w V6) := by
        have h : Below w.heap.size w wr := HB2.out.trans (hS.be.mono HB2.out.size)
        rw [← hV6]
        exact (below_put (below_put (below_put h (by omega)) (by omega)) (by omega)).drew
      have HONE : Hid ((efV (.slice m1 m2 m3) (.slice o1 o2 o3) (.slice n1 n2 n3) s).all (·.oneCell') = true) := all_oneCell_toArray (cs := [.slice m1 m2 m3, .slice o1 o2 o3, .slice n1 n2 n3, .int .i64 s.over, .int .i64 s.value, .int .i64 s.steps]) (by intro v hv; simp at hv; rcases hv with rfl | rfl | rfl | rfl | rfl | rfl <;> rfl)
      have HV6 : Hid ((((wr.setCell ⟨xb, 3, none⟩ (Value.int .i64 s.over)).setCell ⟨xb, 4, none⟩ (Value.int .i64 s.value)).setCell ⟨xb, 5, none⟩ (Value.int .i64 s.steps)).drew = V6) := hV6
      have u0 : V6.cell? ⟨xb, 0, none⟩ = some (.slice m1 m2 m3) := by rw [← hV6]; exact (World.cell?_setCell_other _ _ _ _ (by simp)).trans ((World.cell?_setCell_other _ _ _ _ (by simp)).trans ((World.cell?_setCell_other _ _ _ _ (by simp)).trans z0))
      have u1 : V6.cell? ⟨xb, 1, none⟩ = some (.slice o1 o2 o3) := by rw [← hV6]; exact (World.cell?_setCell_other _ _ _ _ (by simp)).trans ((World.cell?_setCell_other _ _ _ _ (by simp)).trans ((World.cell?_setCell_other _ _ _ _ (by simp)).trans z1))
      have u2 : V6.cell? ⟨xb, 2, none⟩ = some (.slice n1 n2 n3) := by rw [← hV6]; exact (World.cell?_setCell_other _ _ _ _ (by simp)).trans ((World.cell?_setCell_other _ _ _ _ (by simp)).trans ((World.cell?_setCell_other _ _ _ _ (by simp)).trans z2))
      have hb6 : V6.heap[xb]? = some (.cells #[.slice m1 m2 m3, .slice o1 o2 o3, .slice n1 n2 n3, .int .i64 s.over, .int .i64 s.value, .int .i64 s.steps] 54) := by rw [← hV6]; exact heap_setCell_same _ xb 5 _ 54 _ (heap_setCell_same _ xb 4 _ 54 _ (heap_setCell_same _ xb 3 _ 54 _ hS.ef.blk))
      have u3 : V6.cell? ⟨xb, 3, none⟩ = some (.int .i64 s.over) := by rw [cell_of_row V6 _ 3 _ _ _ hb6]; rfl
      have u4 : V6.cell? ⟨xb, 4, none⟩ = some (.int .i64 s.value) := by rw [cell_of_row V6 _ 4 _ _ _ hb6]; rfl
      have u5 : V6.cell? ⟨xb, 5, none⟩ = some (.int .i64 s.steps) := by rw [cell_of_row V6 _ 5 _ _ _ hb6]; rfl
      clear hV6 hbk hS hE hFe HEI HKF HS hb6
      go_wp2_with fail
      go_region_held3 (fun w' => w'.cell? ⟨mb, 5, none⟩ = some (.int .i64 s.steps) ∧ w'.cell? ⟨mb, 6, none⟩ = some (.int .i64 s.over) ∧ w'.cell? ⟨mb, 7, none⟩ = some (.int .i64 s.value)) (go_keep) (fail)
      rw [HV6.out]
      clear HV6
      go_wp2_with (refine wpList_store_row rfl 54 _ _ rfl (w.heap.size + 1) (efV (.slice m1 m2 m3) (.slice o1 o2 o3) (.slice n1 n2 n3) s) rfl rfl 54 _ HY6.out size54 rfl HONE.out ?_)
      rw [← HP.out]
      refine bodyPost_ret (ret_e Try.results18 _ (w.heap.size + 1) rfl _ rfl _ _ rfl (setRow_heap _ _ _ _ _ _ HY6.out)) rfl ?_
      have hFl : lastS C M.length fuel n i k M = (s, E) := by rw [HML.out, ← HFE.out, ← HFS.out]
      refine Or.inr ⟨.slice m1 m2 m3, .slice o1 o2 o3, .slice n1 n2 n3, ?_, by rw [HML.out]; exact HNE.out, ?_, below_setRow HB6.out (by omega) _⟩
      · rw [hFl]; rfl
      · rw [hFl]
        exact HE6.out _
end Go.Proofs.Ytkcncngcmhldpaa
