/- A call of both graphs. -/
import Derived.Test.YtongeppdaeekeaaGfB
namespace Go.Proofs.Ytongeppdaeekeaa
open Go.RowKit Go.Maps
set_option linter.unusedVariables false

theorem RS.lt {α : Type} {K : RK α} {w : World} {l : List α} {g o n c : Nat} (h : RS K w (.slice (some ⟨g, o, none⟩) n c) l) (h0 : 0 < l.length) : g < w.heap.size := by
  obtain ⟨b, bo, n', c', e, hc⟩ := h.cell h0
  injection e with e1
  injection e1 with e1
  injection e1 with e1
  subst e1
  obtain ⟨u, hu⟩ := cl_some K (l[0]'h0) 0 K.pos
  have := hc 0 K.pos
  rw [hu] at this
  exact World.block_lt_of_cell? w _ this
/-- the program's graph, and the document's -/
structure GD {α : Type} (K : RK α) (w W : World) (gb room : Nat) (ev : Value) (E : Ed) (v : Value) (L : List α) : Prop where
  gm : GM w W gb room ev E
  rs : RS K W v L
  sep : 0 < L.length → ∀ g o n c, v = .slice (some ⟨g, o, none⟩) n c → g ≠ gb ∧ ev.ownBlock ≠ some g
section
variable {w W W' : World} {gb room : Nat} {ev v v' : Value} {E E' : Ed} {α : Type} {K : RK α} {L L' : List α}
theorem GD.below (h : GD K w W gb room ev E v L) (b : Below W.heap.size W W') : GD K w W' gb room ev E v L := ⟨h.gm.below b, h.rs.below b, h.sep⟩
theorem GD.gstep {x : Value} {e : Ending} (h : GD K w W gb room ev E v L) (q : GQ W gb room ev E' x e W') : ∃ ev', e = .returned x ∧ GD K w W' gb room ev' E' v L ∧ (ev'.ownBlock = ev.ownBlock ∨ ∃ n, W.heap.size ≤ n ∧ ev'.ownBlock = some n) := by
  obtain ⟨ev3, e3, a3, c, o3⟩ := q
  have m3 : GM w W' gb room ev3 E' := by
    refine ⟨a3, ⟨c.os.trans h.gm.bl.os, c.tape.trans h.gm.bl.tape, c.output.trans h.gm.bl.output, Nat.le_trans h.gm.bl.size c.size, fun k hk => (c.block k (by have := h.gm.bl.size; omega) (fun r => ?_)).trans (h.gm.bl.block k hk)⟩, h.gm.nb, fun g hg => ?_⟩
    · rcases r with r | r
      · have := h.gm.nb; omega
      · have := h.gm.ne k r; omega
    · rcases o3 with r | ⟨n, h1, h2⟩
      · exact h.gm.ne g (r ▸ hg)
      · rw [h2] at hg; injection hg with hg; have := h.gm.bl.size; omega
  refine ⟨ev3, e3, ⟨m3, h.rs.keep (fun g hg hf hp => ?_), fun hp g oo n cc hv => ?_⟩, o3⟩
  · obtain ⟨oo, n, cc, rfl⟩ := hf
    have hs := h.sep hp g oo n cc rfl
    exact c.block g hg (fun r => by rcases r with r | r; exact hs.1 r; exact hs.2 r)
  · have hs := h.sep hp g oo n cc hv
    have hr := h.rs
    rw [hv] at hr
    have hlt := hr.lt hp
    refine ⟨hs.1, ?_⟩
    rcases o3 with r | ⟨k, k1, k2⟩
    · rw [r]; exact hs.2
    · rw [k2]; intro e; injection e with e; omega
theorem GD.dstep (h : GD K w W gb room ev E v L) (b : Below W.heap.size W W') (hr : RS K W' v' L') (hf : FG W.heap.size v v') : GD K w W' gb room ev E v' L' := by
  refine ⟨h.gm.below b, hr, fun hp g o n c hv => ?_⟩
  rcases hf with rfl | hf
  · obtain ⟨a1, c1, f1⟩ := h.rs.form
    obtain ⟨a2, c2, f2⟩ := hr.form
    rw [f1] at f2
    injection f2 with _ f2 _
    exact h.sep (by omega) g o n c hv
  · have h1 := hf g o n c hv
    have h2 := h.gm.gv.lt
    refine ⟨by omega, fun e => ?_⟩
    have := h.gm.gv.rz.own e
    omega
end
theorem put2_cell (W : World) (g1 : Nat) (a0 a1 : Value) (k j : Nat) (hk : k ≠ g1) : (put2W W g1 a0 a1).cell? ⟨k, j, none⟩ = W.cell? ⟨k, j, none⟩ := World.cell?_of_block (a := ⟨k, j, none⟩) (put2_else _ _ _ _ _ hk)
theorem two_cell {W : World} {g : Nat} {a b : Value} {ty : TypeId} (h : W.heap[g]? = some (.cells #[a, b] ty)) : W.cell? ⟨g, 0, none⟩ = some a ∧ W.cell? ⟨g, 1, none⟩ = some b := ⟨by rw [cell_of_row W g _ _ _ _ h]; rfl, by rw [cell_of_row W g _ _ _ _ h]; rfl⟩
abbrev O3 := Int × Int × Int
def opG (x : O3) : Value := .agg #[.int .i64 x.1, .int .i64 x.2.1, .int .i64 x.2.2]
/-- the boxes of a call of both -/
structure BO (U : World) (g0 : Nat) (dr : Int) (v : Value) (x : O3) : Prop where
  b0 : U.heap[g0]? = some (.cells #[.int .i64 dr, v] 72)
  b1 : U.heap[g0 + 1]? = some (.cells #[.int .i64 x.1, .int .i64 x.2.1, .int .i64 x.2.2] 78)
  b2 : U.heap[g0 + 2]? = some (.cells #[.int .i64 0, .slice none 0 0] 72)
section
variable {U V : World} {g0 : Nat} {dr : Int} {v : Value} {x : O3}
theorem BO.lt (h : BO U g0 dr v x) : g0 + 2 < U.heap.size := (Array.getElem?_eq_some_iff.1 h.b2).1
theorem BO.keep (h : BO U g0 dr v x) (hk : ∀ k, k = g0 ∨ k = g0 + 1 ∨ k = g0 + 2 → V.heap[k]? = U.heap[k]?) : BO V g0 dr v x := ⟨(hk g0 (.inl rfl)).trans h.b0, (hk (g0 + 1) (.inr (.inl rfl))).trans h.b1, (hk (g0 + 2) (.inr (.inr rfl))).trans h.b2⟩
theorem BO.below (h : BO U g0 dr v x) (b : Below U.heap.size U V) : BO V g0 dr v x := h.keep fun k hk => b.block k (by have := h.lt; omega)
theorem BO.c0 (h : BO U g0 dr v x) : U.cell? ⟨g0, 0, none⟩ = some (.int .i64 dr) ∧ U.cell? ⟨g0, 1, none⟩ = some v := ⟨by rw [cell_of_row U g0 _ _ _ _ h.b0]; rfl, by rw [cell_of_row U g0 _ _ _ _ h.b0]; rfl⟩
theorem BO.c1 (h : BO U g0 dr v x) : U.cell? ⟨g0 + 1, 0, none⟩ = some (.int .i64 x.1) ∧ U.cell? ⟨g0 + 1, 1, none⟩ = some (.int .i64 x.2.1) ∧ U.cell? ⟨g0 + 1, 2, none⟩ = some (.int .i64 x.2.2) := ⟨by rw [cell_of_row U (g0 + 1) _ _ _ _ h.b1]; rfl, by rw [cell_of_row U (g0 + 1) _ _ _ _ h.b1]; rfl, by rw [cell_of_row U (g0 + 1) _ _ _ _ h.b1]; rfl⟩
theorem BO.c2 (h : BO U g0 dr v x) : U.cell? ⟨g0 + 2, 0, none⟩ = some (.int .i64 0) ∧ U.cell? ⟨g0 + 2, 1, none⟩ = some (.slice none 0 0) := ⟨by rw [cell_of_row U (g0 + 2) _ _ _ _ h.b2]; rfl, by rw [cell_of_row U (g0 + 2) _ _ _ _ h.b2]; rfl⟩
theorem BO.f2 (h : BO U g0 dr v x) (j : Nat) : U.frozen? ⟨g0 + 2, j, none⟩ = false := frozen_of_row U (g0 + 2) j _ _ h.b2
end
def opRem (x : O3) : Bool := (x.1.tmod 4 + 4).tmod 4 == 3
def oneGE (room : Nat) (E : Ed) (x : O3) : Ed := if opRem x then remS E x.2.2 else addS room E x.2.1 x.2.2
def oneGL (dr : Int) (L : Ed) (x : O3) : Ed := if opRem x then remS L x.2.2 else raddS dr L x.2.1 x.2.2
def oneGB (room : Nat) (dr : Int) (E L : Ed) (x : O3) : Bool := if opRem x then ((E.length : Int) - ((remS E x.2.2).length : Int)) == ((L.length : Int) - ((remS L x.2.2).length : Int)) else addE room E x.2.1 x.2.2 == raddE dr L x.2.1 x.2.2
/-- what is left alone between two worlds -/
structure GFr (W W' : World) (gb : Nat) (ev ev' : Value) : Prop where
  fr : ∀ k, k < W.heap.size → k ≠ gb → ev.ownBlock ≠ some k → W'.heap[k]? = W.heap[k]?
  ow : ev'.ownBlock = ev.ownBlock ∨ ∃ n, W.heap.size ≤ n ∧ ev'.ownBlock = some n
def OneGQ (w W : World) (gb room : Nat) (ev : Value) (dr : Int) (E' L' : Ed) (b : Bool) (e : Ending) (W' : World) : Prop := ∃ ev' v', e = .returned (.tuple #[.agg #[.int .i64 dr, v'], .bool b]) ∧ GD kF w W' gb room ev' E' v' L' ∧ GFr W W' gb ev ev'
theorem one_fin {w W V : World} {gb room g : Nat} {ev0 ev v : Value} {E L : Ed} (h : GD kF w V gb room ev E v L) (dr : Int) (b : Bool) (a0 a1 : Value) (h1 : w.heap.size ≤ g) (h2 : g ≠ gb) (h3 : ev.ownBlock ≠ some g) (h4 : 0 < L.length → ∀ o n c, v ≠ .slice (some ⟨g, o, none⟩) n c) (h5 : GFr W V gb ev0 ev) (h6 : W.heap.size ≤ g) : OneGQ w W gb room ev0 dr E L b (.returned (.tuple #[.agg #[.int .i64 dr, v], .bool b])) (put2W V g a0 a1) := by
  have hk : ∀ k, k ≠ g → (put2W V g a0 a1).heap[k]? = V.heap[k]? := fun k hk => put2_else _ _ _ _ _ hk
  refine ⟨ev, v, rfl, ⟨⟨⟨(hk gb h2.symm).trans h.gm.gv.bl, h.gm.gv.rz.keep (fun k hkk => hk k (fun e => h3 (e ▸ hkk))), h.gm.gv.ne, h.gm.gv.ok⟩, below2 h.gm.bl h1 _ _, h.gm.nb, h.gm.ne⟩, h.rs.keep (fun k _ hf hp => hk k (fun e => ?_)), h.sep⟩, ⟨fun k k1 k2 k3 => (hk k (by omega)).trans (h5.fr k k1 k2 k3), h5.ow⟩⟩
  obtain ⟨o, n, c, hv⟩ := hf
  subst e
  exact h4 hp o n c hv

set_option maxRecDepth 100000 in
set_option maxHeartbeats 8000000 in
theorem one_rem {w W : World} {gb room : Nat} {ev v : Value} {E L : Ed} (h : GD kF w W gb room ev E v L) (hl : L.length ≤ 600) (dr k r wt : Int) (hk : opRem (k, r, wt) = true) :
    Calls Try.prog 27 #[.pointer (some ⟨gb, 0, none⟩), .agg #[.int .i64 dr, v], .agg #[.int .i64 k, .int .i64 r, .int .i64 wt]] W (OneGQ w W gb room ev dr (remS E wt) (remS L wt) (((E.length : Int) - ((remS E wt).length : Int)) == ((L.length : Int) - ((remS L wt).length : Int)))) := by
  obtain ⟨a, c, e⟩ := h.rs.form
  obtain ⟨n, hn⟩ : ∃ n, L.length = n := ⟨_, rfl⟩
  have HN : Hid (L.length = n) := hn
  rw [hn] at e
  subst e
  obtain ⟨U, hU⟩ : ∃ U, ((W.alloc (.cells #[.int .i64 dr, .slice a n c] 72)).alloc (.cells #[.int .i64 k, .int .i64 r, .int .i64 wt] 78)).alloc (.cells #[.int .i64 0, .slice none 0 0] 72) = U := ⟨_, rfl⟩
  have HU : Hid _ := hU
  obtain ⟨g0, hg0⟩ : ∃ g, W.heap.size = g := ⟨_, rfl⟩
  have HG : Hid (W.heap.size = g0) := hg0
  have hB : BO U g0 dr (.slice a n c) (k, r, wt) := by
    rw [← hU, ← hg0]
    refine ⟨by rw [heap_alloc_old _ _ (by simp; omega), heap_alloc_old _ _ (by simp), heap_alloc_new], by rw [heap_alloc_old _ _ (by simp)]; exact heap_alloc2_new _ _ _, ?_⟩
    generalize hA : ((W.alloc (.cells #[.int .i64 dr, .slice a n c] 72)).alloc (.cells #[.int .i64 k, .int .i64 r, .int .i64 wt] 78)) = A
    have e : W.heap.size + 2 = A.heap.size := by rw [← hA]; simp
    rw [e, heap_alloc_new]
  have hbl : Below W.heap.size W U := by rw [← hU]; exact ((bl1 W _).alloc (bl1 W _).size _).alloc ((bl1 W _).alloc (bl1 W _).size _).size _
  have hD : GD kF w U gb room ev E (.slice a n c) L := h.below hbl
  have HBW : Hid (Below W.heap.size W U) := hbl
  have HRW : Hid (RS kF W (.slice a n c) L) := h.rs
  have HDU : Hid (GD kF w U gb room ev E (.slice a n c) L) := hD
  have HB : Hid (BO U g0 dr (.slice a n c) (k, r, wt)) := hB
  have HNE : Hid (w.heap.size ≤ g0 ∧ gb < g0 ∧ ∀ g, ev.ownBlock = some g → g < g0) := ⟨by have := h.gm.bl.size; omega, by have := h.gm.gv.lt; omega, fun g hg => by have := h.gm.gv.rz.own hg; omega⟩
  have HDC : Hid (Calls Try.prog 70 #[.agg #[.int .i64 dr, .slice a n c], .int .i64 wt] U (GDQ U dr (.slice a n c) (remS L wt) (.int .i64 ((L.length : Int) - ((remS L wt).length : Int))))) := rrem_any (h.rs.below hbl) hl dr wt
  have HPC : Hid (∀ V, GV V gb room ev E → Calls Try.prog 40 #[.pointer (some ⟨gb, 0, none⟩), .int .i64 wt] V (GQ V gb room ev (remS E wt) (.int .i64 ((E.length : Int) - ((remS E wt).length : Int))))) := fun V hV => rem_any hV wt
  obtain ⟨o0, o1, o2⟩ := hB.c1
  obtain ⟨b0, b1⟩ := hB.c0
  obtain ⟨k0, hk0⟩ : ∃ k0, k.tmod 4 = k0 := ⟨_, rfl⟩
  have hk0b : -3 ≤ k0 ∧ k0 ≤ 3 := by
    have h1 := Int.tmod_lt_of_pos k (b := 4) (by decide)
    have h2 := Int.lt_tmod_of_pos k (b := 4) (by decide)
    omega
  obtain ⟨k1, hk1⟩ : ∃ k1, k0 + 4 = k1 := ⟨_, rfl⟩
  have w1 : IntKind.i64.wrap k1 = k1 := by rw [IntKind.wrap_i64]; omega
  have w1' : wrap64 k1 = k1 := w64in _ (by omega)
  obtain ⟨k2, hk2⟩ : ∃ k2, k1.tmod 4 = k2 := ⟨_, rfl⟩
  have w2 : IntKind.i64.wrap k2 = k2 := by
    rw [IntKind.wrap_i64]
    have h1 := Int.tmod_lt_of_pos k1 (b := 4) (by decide)
    have h2 := Int.lt_tmod_of_pos k1 (b := 4) (by decide)
    omega
  have w0 : IntKind.i64.wrap k0 = k0 := by rw [IntKind.wrap_i64]; omega
  have t0 : (k2 == 3) = true := by
    unfold opRem at hk
    simp only at hk
    rw [hk0, hk1, hk2] at hk
    exact hk
  generalize ((E.length : Int) - ((remS E wt).length : Int)) = X1 at *
  generalize ((L.length : Int) - ((remS L wt).length : Int)) = X2 at *
  generalize remS E wt = E' at *
  generalize remS L wt = L' at *
  clear hU hg0 hbl hD hB h hl hk hk0b hn
  go_enter Try.func27, Try.ntmps27
  go_upto_region 1 with fail
  rw [HU.out, HG.out]
  go_wp2_with fail
  refine HDC.out.mono ?_
  rintro e w5 ⟨bw, v', rfl, hr', hf⟩
  have hD5 := HDU.out.dstep bw hr' hf
  obtain ⟨a', c', e'⟩ := hr'.form
  obtain ⟨m', hm'⟩ : ∃ m, L'.length = m := ⟨_, rfl⟩
  rw [hm'] at e'
  subst e'
  have HB5 : Hid (BO w5 g0 dr (.slice a n c) (k, r, wt)) := HB.out.below bw
  have HD5 : Hid (GD kF w w5 gb room ev E (.slice a' m' c') L') := hD5
  have HNV : Hid (0 < L'.length → ∀ o n1 c1, Value.slice a' m' c' ≠ .slice (some ⟨g0 + 2, o, none⟩) n1 c1) := fun hp o n1 c1 e => by
    rcases hf with r | r
    · have hlen : m' = n := by injection r
      have hrw := HRW.out
      rw [← r, e] at hrw
      have h2 := hrw.lt (by have := HN.out; omega)
      have := HG.out
      omega
    · have := r (g0 + 2) o n1 c1 e
      have := HB.out.lt
      omega
  have HW5 : Hid (Below W.heap.size W w5) := HBW.out.trans (bw.mono HBW.out.size)
  clear bw hr' hf hD5 hm' b0 b1 o0 o1 o2
  go_upto_region 3 with fail
  have HB6 : Hid (BO (w5.alloc (.cells #[.int .i64 dr, .slice a' m' c'] 72)) g0 dr (.slice a n c) (k, r, wt)) := HB5.out.below (bl1 _ _)
  have HD6 : Hid (GD kF w (w5.alloc (.cells #[.int .i64 dr, .slice a' m' c'] 72)) gb room ev E (.slice a' m' c') L') := HD5.out.below (bl1 _ _)
  have HG6 : Hid ((w5.alloc (.cells #[.int .i64 dr, .slice a' m' c'] 72)).heap[w5.heap.size]? = some (.cells #[.int .i64 dr, .slice a' m' c'] 72)) := heap_alloc_new _ _
  have HW6 : Hid (Below W.heap.size W (w5.alloc (.cells #[.int .i64 dr, .slice a' m' c'] 72))) := HW5.out.alloc HW5.out.size _
  have hg3 : g0 + 2 < w5.heap.size := HB5.out.lt
  generalize w5.alloc (.cells #[.int .i64 dr, .slice a' m' c'] 72) = V at *
  clear HB5 HD5 HW5
  generalize w5.heap.size = g3 at *
  have n2 : g0 + 1 ≠ g0 + 2 := by omega
  have n3 : g3 ≠ g0 + 2 := by omega
  have n2' : g0 + 2 ≠ g0 + 1 := by omega
  have n3' : g0 + 2 ≠ g3 := by omega
  have HLT3 : Hid (g0 + 2 < g3) := hg3
  clear hg3
  obtain ⟨o0, o1, o2⟩ := HB6.out.c1
  have hr01 : V.cell? ⟨g3, 0, none⟩ = some (.int .i64 dr) ∧ V.cell? ⟨g3, 1, none⟩ = some (.slice a' m' c') := ⟨by rw [cell_of_row V g3 _ _ _ _ HG6.out]; rfl, by rw [cell_of_row V g3 _ _ _ _ HG6.out]; rfl⟩
  obtain ⟨r0, r1⟩ := hr01
  have HC : Hid (Calls Try.prog 40 #[.pointer (some ⟨gb, 0, none⟩), .int .i64 wt] V.drew (GQ V.drew gb room ev E' (.int .i64 X1))) := HPC.out V.drew (HD6.out.gm.gv.below (Below.refl _ _).drew)
  have HDd : Hid (GD kF w V.drew gb room ev E (.slice a' m' c') L') := HD6.out.below (Below.refl _ _).drew
  have HSS : Hid (∀ e w6, GQ V.drew gb room ev E' (.int .i64 X1) e w6 → ∀ k, k < V.heap.size → k ≠ gb → ev.ownBlock ≠ some k → w6.heap[k]? = V.heap[k]?) := fun e w6 q k hk h1 h2 => by
    obtain ⟨_, _, _, c, _⟩ := q
    exact c.block k hk (fun r => by
      rcases r with r | r
      · exact h1 r
      · exact h2 r)
  have HNE2 : Hid (∀ k, g0 ≤ k → k ≠ gb ∧ ev.ownBlock ≠ some k) := fun k hk => by
    have := HNE.out
    exact ⟨by omega, fun e => by have := this.2.2 k e; omega⟩
  have HSZ : Hid (g3 < V.heap.size) := (Array.getElem?_eq_some_iff.1 HG6.out).1
  clear HPC
  have hV0 : V.drew.cell? ⟨g3, 0, none⟩ = some (.int .i64 dr) ∧ V.drew.cell? ⟨g3, 1, none⟩ = some (.slice a' m' c') ∧ V.drew.cell? ⟨g0 + 1, 2, none⟩ = some (.int .i64 wt) := ⟨r0, r1, o2⟩
  clear r0 r1 o0 o1 o2
  go_region_held3 (fun w' => w'.cell? ⟨g3, 0, none⟩ = some (.int .i64 dr) ∧ w'.cell? ⟨g3, 1, none⟩ = some (.slice a' m' c') ∧ w'.cell? ⟨g0 + 1, 2, none⟩ = some (.int .i64 wt)) (first | with_reducible exact hV0 | with_reducible exact ⟨s0, s1, p2⟩ | with_reducible exact ⟨(hS g3 0 n3).trans s0, (hS g3 1 n3).trans s1, (hS (g0 + 1) 2 n2).trans p2⟩)
    (first | (go_at_call 40; refine HC.out.mono ?_; intro e w6 q6; have hS6 := HSS.out e w6 q6; obtain ⟨ev6, rfl, D6, O6⟩ := HDd.out.gstep q6; have hB7 := (HB6.out.keep (fun k hk => hS6 k (by have := HSZ.out; have := HLT3.out; omega) (HNE2.out k (by omega)).1 (HNE2.out k (by omega)).2) : BO w6 g0 dr (.slice a n c) (k, r, wt)); have hs3 := (hS6 g3 HSZ.out (HNE2.out g3 (by have := HLT3.out; omega)).1 (HNE2.out g3 (by have := HLT3.out; omega)).2).trans HG6.out; obtain ⟨s0, s1⟩ := two_cell hs3; obtain ⟨p0, p1, p2⟩ := hB7.c1; obtain ⟨z0, z1⟩ := hB7.c2; have f0 := hB7.f2 0; have f1 := hB7.f2 1; have hS := put2_cell w6 (g0 + 2) (.int .i64 dr) (.slice a' m' c'); unfold put2W at hS))
  have HQ : Hid (OneGQ w W gb room ev dr E' L' (X1 == X2) (.returned (.tuple #[.agg #[.int .i64 dr, .slice a' m' c'], .bool (X1 == X2)])) (put2W w6 (g0 + 2) (.int .i64 dr) (.slice a' m' c'))) := by
    refine one_fin D6 dr _ _ _ (by have := HNE.out.1; omega) (by have := HNE.out.2.1; omega) ?_ HNV.out ?_ (by have := HG.out; omega)
    rotate_left
    · refine ⟨fun k k1 k2 k3 => (hS6 k (by have := HW6.out.size; omega) k2 k3).trans (HW6.out.block k k1), ?_⟩
      rcases O6 with r | ⟨k, q1, q2⟩
      · exact .inl r
      · exact .inr ⟨k, Nat.le_trans HW6.out.size q1, q2⟩
    have hz := HSZ.out
    have h3 := HLT3.out
    rcases O6 with r | ⟨k, q1, q2⟩
    · rw [r]; intro e
      have := HNE.out.2.2 _ e
      omega
    · rw [q2]; intro e
      injection e with e
      have q1 : V.heap.size ≤ k := q1
      omega
  have HB2 : Hid (w6.heap[g0 + 2]? = some (.cells #[.int .i64 0, .slice none 0 0] 72)) := hB7.b2
  clear hS s0 s1 p0 p1 p2 z0 z1 f0 f1 hB7 D6 hV0 HC HDd HB6 HD6 HG6 hS6 hs3 q6 O6
  go_wp2_with fail
  refine bodyPost_ret (ret_G2 Try.results27 _ (g0 + 2) rfl _ _ _ (put2V HB2.out)) rfl ?_
  exact HQ.out

set_option maxRecDepth 100000 in
set_option maxHeartbeats 8000000 in
theorem one_add {w W : World} {gb room : Nat} {ev v : Value} {E L : Ed} (h : GD kF w W gb room ev E v L) (hl : L.length ≤ 600) (dr k r wt : Int) (hk : opRem (k, r, wt) = false) :
    Calls Try.prog 27 #[.pointer (some ⟨gb, 0, none⟩), .agg #[.int .i64 dr, v], .agg #[.int .i64 k, .int .i64 r, .int .i64 wt]] W (OneGQ w W gb room ev dr (addS room E r wt) (raddS dr L r wt) ((addE room E r wt) == (raddE dr L r wt))) := by
  obtain ⟨a, c, e⟩ := h.rs.form
  obtain ⟨n, hn⟩ : ∃ n, L.length = n := ⟨_, rfl⟩
  have HN : Hid (L.length = n) := hn
  rw [hn] at e
  subst e
  obtain ⟨U, hU⟩ : ∃ U, ((W.alloc (.cells #[.int .i64 dr, .slice a n c] 72)).alloc (.cells #[.int .i64 k, .int .i64 r, .int .i64 wt] 78)).alloc (.cells #[.int .i64 0, .slice none 0 0] 72) = U := ⟨_, rfl⟩
  have HU : Hid _ := hU
  obtain ⟨g0, hg0⟩ : ∃ g, W.heap.size = g := ⟨_, rfl⟩
  have HG : Hid (W.heap.size = g0) := hg0
  have hB : BO U g0 dr (.slice a n c) (k, r, wt) := by
    rw [← hU, ← hg0]
    refine ⟨by rw [heap_alloc_old _ _ (by simp; omega), heap_alloc_old _ _ (by simp), heap_alloc_new], by rw [heap_alloc_old _ _ (by simp)]; exact heap_alloc2_new _ _ _, ?_⟩
    generalize hA : ((W.alloc (.cells #[.int .i64 dr, .slice a n c] 72)).alloc (.cells #[.int .i64 k, .int .i64 r, .int .i64 wt] 78)) = A
    have e : W.heap.size + 2 = A.heap.size := by rw [← hA]; simp
    rw [e, heap_alloc_new]
  have hbl : Below W.heap.size W U := by rw [← hU]; exact ((bl1 W _).alloc (bl1 W _).size _).alloc ((bl1 W _).alloc (bl1 W _).size _).size _
  have hD : GD kF w U gb room ev E (.slice a n c) L := h.below hbl
  have HBW : Hid (Below W.heap.size W U) := hbl
  have HRW : Hid (RS kF W (.slice a n c) L) := h.rs
  have HDU : Hid (GD kF w U gb room ev E (.slice a n c) L) := hD
  have HB : Hid (BO U g0 dr (.slice a n c) (k, r, wt)) := hB
  have HNE : Hid (w.heap.size ≤ g0 ∧ gb < g0 ∧ ∀ g, ev.ownBlock = some g → g < g0) := ⟨by have := h.gm.bl.size; omega, by have := h.gm.gv.lt; omega, fun g hg => by have := h.gm.gv.rz.own hg; omega⟩
  have HDC : Hid (Calls Try.prog 71 #[.agg #[.int .i64 dr, .slice a n c], .int .i64 r, .int .i64 wt] U (GDQ U dr (.slice a n c) (raddS dr L r wt) (.int .i64 (raddE dr L r wt)))) := radd_any (h.rs.below hbl) hl dr r wt
  have HPC : Hid (∀ V, GV V gb room ev E → Calls Try.prog 41 #[.pointer (some ⟨gb, 0, none⟩), .int .i64 r, .int .i64 wt] V (GQ V gb room ev (addS room E r wt) (.int .i64 (addE room E r wt)))) := fun V hV => add_any hV r wt
  obtain ⟨o0, o1, o2⟩ := hB.c1
  obtain ⟨b0, b1⟩ := hB.c0
  obtain ⟨k0, hk0⟩ : ∃ k0, k.tmod 4 = k0 := ⟨_, rfl⟩
  have hk0b : -3 ≤ k0 ∧ k0 ≤ 3 := by
    have h1 := Int.tmod_lt_of_pos k (b := 4) (by decide)
    have h2 := Int.lt_tmod_of_pos k (b := 4) (by decide)
    omega
  obtain ⟨k1, hk1⟩ : ∃ k1, k0 + 4 = k1 := ⟨_, rfl⟩
  have w1 : IntKind.i64.wrap k1 = k1 := by rw [IntKind.wrap_i64]; omega
  have w1' : wrap64 k1 = k1 := w64in _ (by omega)
  obtain ⟨k2, hk2⟩ : ∃ k2, k1.tmod 4 = k2 := ⟨_, rfl⟩
  have w2 : IntKind.i64.wrap k2 = k2 := by
    rw [IntKind.wrap_i64]
    have h1 := Int.tmod_lt_of_pos k1 (b := 4) (by decide)
    have h2 := Int.lt_tmod_of_pos k1 (b := 4) (by decide)
    omega
  have w0 : IntKind.i64.wrap k0 = k0 := by rw [IntKind.wrap_i64]; omega
  have t0 : (k2 == 3) = false := by
    unfold opRem at hk
    simp only at hk
    rw [hk0, hk1, hk2] at hk
    exact hk
  generalize (addE room E r wt) = X1 at *
  generalize (raddE dr L r wt) = X2 at *
  generalize addS room E r wt = E' at *
  generalize raddS dr L r wt = L' at *
  clear hU hg0 hbl hD hB h hl hk hk0b hn
  go_enter Try.func27, Try.ntmps27
  go_upto_region 1 with fail
  rw [HU.out, HG.out]
  go_wp2_with fail
  refine HDC.out.mono ?_
  rintro e w5 ⟨bw, v', rfl, hr', hf⟩
  have hD5 := HDU.out.dstep bw hr' hf
  obtain ⟨a', c', e'⟩ := hr'.form
  obtain ⟨m', hm'⟩ : ∃ m, L'.length = m := ⟨_, rfl⟩
  rw [hm'] at e'
  subst e'
  have HB5 : Hid (BO w5 g0 dr (.slice a n c) (k, r, wt)) := HB.out.below bw
  have HD5 : Hid (GD kF w w5 gb room ev E (.slice a' m' c') L') := hD5
  have HNV : Hid (0 < L'.length → ∀ o n1 c1, Value.slice a' m' c' ≠ .slice (some ⟨g0 + 2, o, none⟩) n1 c1) := fun hp o n1 c1 e => by
    rcases hf with r | r
    · have hlen : m' = n := by injection r
      have hrw := HRW.out
      rw [← r, e] at hrw
      have h2 := hrw.lt (by have := HN.out; omega)
      have := HG.out
      omega
    · have := r (g0 + 2) o n1 c1 e
      have := HB.out.lt
      omega
  have HW5 : Hid (Below W.heap.size W w5) := HBW.out.trans (bw.mono HBW.out.size)
  clear bw hr' hf hD5 hm' b0 b1 o0 o1 o2
  go_upto_region 5 with fail
  have HB6 : Hid (BO (w5.alloc (.cells #[.int .i64 dr, .slice a' m' c'] 72)) g0 dr (.slice a n c) (k, r, wt)) := HB5.out.below (bl1 _ _)
  have HD6 : Hid (GD kF w (w5.alloc (.cells #[.int .i64 dr, .slice a' m' c'] 72)) gb room ev E (.slice a' m' c') L') := HD5.out.below (bl1 _ _)
  have HG6 : Hid ((w5.alloc (.cells #[.int .i64 dr, .slice a' m' c'] 72)).heap[w5.heap.size]? = some (.cells #[.int .i64 dr, .slice a' m' c'] 72)) := heap_alloc_new _ _
  have HW6 : Hid (Below W.heap.size W (w5.alloc (.cells #[.int .i64 dr, .slice a' m' c'] 72))) := HW5.out.alloc HW5.out.size _
  have hg3 : g0 + 2 < w5.heap.size := HB5.out.lt
  generalize w5.alloc (.cells #[.int .i64 dr, .slice a' m' c'] 72) = V at *
  clear HB5 HD5 HW5
  generalize w5.heap.size = g3 at *
  have n2 : g0 + 1 ≠ g0 + 2 := by omega
  have n3 : g3 ≠ g0 + 2 := by omega
  have n2' : g0 + 2 ≠ g0 + 1 := by omega
  have n3' : g0 + 2 ≠ g3 := by omega
  have HLT3 : Hid (g0 + 2 < g3) := hg3
  clear hg3
  obtain ⟨o0, o1, o2⟩ := HB6.out.c1
  have hr01 : V.cell? ⟨g3, 0, none⟩ = some (.int .i64 dr) ∧ V.cell? ⟨g3, 1, none⟩ = some (.slice a' m' c') := ⟨by rw [cell_of_row V g3 _ _ _ _ HG6.out]; rfl, by rw [cell_of_row V g3 _ _ _ _ HG6.out]; rfl⟩
  obtain ⟨r0, r1⟩ := hr01
  have HC : Hid (Calls Try.prog 41 #[.pointer (some ⟨gb, 0, none⟩), .int .i64 r, .int .i64 wt] V.drew (GQ V.drew gb room ev E' (.int .i64 X1))) := HPC.out V.drew (HD6.out.gm.gv.below (Below.refl _ _).drew)
  have HDd : Hid (GD kF w V.drew gb room ev E (.slice a' m' c') L') := HD6.out.below (Below.refl _ _).drew
  have HSS : Hid (∀ e w6, GQ V.drew gb room ev E' (.int .i64 X1) e w6 → ∀ k, k < V.heap.size → k ≠ gb → ev.ownBlock ≠ some k → w6.heap[k]? = V.heap[k]?) := fun e w6 q k hk h1 h2 => by
    obtain ⟨_, _, _, c, _⟩ := q
    exact c.block k hk (fun r => by
      rcases r with r | r
      · exact h1 r
      · exact h2 r)
  have HNE2 : Hid (∀ k, g0 ≤ k → k ≠ gb ∧ ev.ownBlock ≠ some k) := fun k hk => by
    have := HNE.out
    exact ⟨by omega, fun e => by have := this.2.2 k e; omega⟩
  have HSZ : Hid (g3 < V.heap.size) := (Array.getElem?_eq_some_iff.1 HG6.out).1
  clear HPC
  have hV0 : V.drew.cell? ⟨g3, 0, none⟩ = some (.int .i64 dr) ∧ V.drew.cell? ⟨g3, 1, none⟩ = some (.slice a' m' c') ∧ V.drew.cell? ⟨g0 + 1, 1, none⟩ = some (.int .i64 r) ∧ V.drew.cell? ⟨g0 + 1, 2, none⟩ = some (.int .i64 wt) := ⟨r0, r1, o1, o2⟩
  clear r0 r1 o0 o1 o2
  go_region_held3 (fun w' => w'.cell? ⟨g3, 0, none⟩ = some (.int .i64 dr) ∧ w'.cell? ⟨g3, 1, none⟩ = some (.slice a' m' c') ∧ w'.cell? ⟨g0 + 1, 1, none⟩ = some (.int .i64 r) ∧ w'.cell? ⟨g0 + 1, 2, none⟩ = some (.int .i64 wt)) (first | with_reducible exact hV0 | with_reducible exact ⟨s0, s1, p1, p2⟩ | with_reducible exact ⟨(hS g3 0 n3).trans s0, (hS g3 1 n3).trans s1, (hS (g0 + 1) 1 n2).trans p1, (hS (g0 + 1) 2 n2).trans p2⟩)
    (first | (go_at_call 41; refine HC.out.mono ?_; intro e w6 q6; have hS6 := HSS.out e w6 q6; obtain ⟨ev6, rfl, D6, O6⟩ := HDd.out.gstep q6; have hB7 := (HB6.out.keep (fun k hk => hS6 k (by have := HSZ.out; have := HLT3.out; omega) (HNE2.out k (by omega)).1 (HNE2.out k (by omega)).2) : BO w6 g0 dr (.slice a n c) (k, r, wt)); have hs3 := (hS6 g3 HSZ.out (HNE2.out g3 (by have := HLT3.out; omega)).1 (HNE2.out g3 (by have := HLT3.out; omega)).2).trans HG6.out; obtain ⟨s0, s1⟩ := two_cell hs3; obtain ⟨p0, p1, p2⟩ := hB7.c1; obtain ⟨z0, z1⟩ := hB7.c2; have f0 := hB7.f2 0; have f1 := hB7.f2 1; have hS := put2_cell w6 (g0 + 2) (.int .i64 dr) (.slice a' m' c'); unfold put2W at hS))
  have HQ : Hid (OneGQ w W gb room ev dr E' L' (X1 == X2) (.returned (.tuple #[.agg #[.int .i64 dr, .slice a' m' c'], .bool (X1 == X2)])) (put2W w6 (g0 + 2) (.int .i64 dr) (.slice a' m' c'))) := by
    refine one_fin D6 dr _ _ _ (by have := HNE.out.1; omega) (by have := HNE.out.2.1; omega) ?_ HNV.out ?_ (by have := HG.out; omega)
    rotate_left
    · refine ⟨fun k k1 k2 k3 => (hS6 k (by have := HW6.out.size; omega) k2 k3).trans (HW6.out.block k k1), ?_⟩
      rcases O6 with r | ⟨k, q1, q2⟩
      · exact .inl r
      · exact .inr ⟨k, Nat.le_trans HW6.out.size q1, q2⟩
    have hz := HSZ.out
    have h3 := HLT3.out
    rcases O6 with r | ⟨k, q1, q2⟩
    · rw [r]; intro e
      have := HNE.out.2.2 _ e
      omega
    · rw [q2]; intro e
      injection e with e
      have q1 : V.heap.size ≤ k := q1
      omega
  have HB2 : Hid (w6.heap[g0 + 2]? = some (.cells #[.int .i64 0, .slice none 0 0] 72)) := hB7.b2
  clear hS s0 s1 p0 p1 p2 z0 z1 f0 f1 hB7 D6 hV0 HC HDd HB6 HD6 HG6 hS6 hs3 q6 O6
  go_wp2_with fail
  refine bodyPost_ret (ret_G2 Try.results27 _ (g0 + 2) rfl _ _ _ (put2V HB2.out)) rfl ?_
  exact HQ.out
end Go.Proofs.Ytongeppdaeekeaa
