/- How many nodes there are: the document's Count, Nodes, and Great. -/
import Derived.Test.YtnofibjchhcmeabDoorNd
import Derived.Deep.RegionHeld3
namespace Go.Proofs.YtnofibjchhcmeabDoor
open Go.RowKit Go.Maps
set_option linter.unusedVariables false

structure Five (w : World) (b : Nat) (v0 v1 v2 v3 v4 : Value) : Prop where
  c0 : w.cell? ⟨b, 0, none⟩ = some v0
  c1 : w.cell? ⟨b, 1, none⟩ = some v1
  c2 : w.cell? ⟨b, 2, none⟩ = some v2
  c3 : w.cell? ⟨b, 3, none⟩ = some v3
  c4 : w.cell? ⟨b, 4, none⟩ = some v4
theorem Five.keep {w w' : World} {b : Nat} {v0 v1 v2 v3 v4 : Value} (h : Five w b v0 v1 v2 v3 v4) (hb : w'.heap[b]? = w.heap[b]?) : Five w' b v0 v1 v2 v3 v4 :=
  ⟨(World.cell?_of_block (w := w) (a := ⟨b, 0, none⟩) hb).trans h.c0, (World.cell?_of_block (w := w) (a := ⟨b, 1, none⟩) hb).trans h.c1, (World.cell?_of_block (w := w) (a := ⟨b, 2, none⟩) hb).trans h.c2, (World.cell?_of_block (w := w) (a := ⟨b, 3, none⟩) hb).trans h.c3, (World.cell?_of_block (w := w) (a := ⟨b, 4, none⟩) hb).trans h.c4⟩
theorem Five.new (w : World) (v0 v1 v2 v3 v4 : Value) (t : TypeId) : Five (w.alloc (.cells #[v0, v1, v2, v3, v4] t)) w.heap.size v0 v1 v2 v3 v4 := ⟨by simp, by simp, by simp, by simp, by simp⟩

/-- an expression of a row, read -/
structure ERd (w : World) (b o : Nat) (k n : Int) (s : ByteArray) (p : Int) (ad : Option Addr) (m cap : Nat) : Prop where
  lt : b < w.heap.size
  x0 : w.cell? ⟨b, o, none⟩ = some (.int .i64 k)
  x1 : w.cell? ⟨b, o + 1, none⟩ = some (.int .i64 n)
  x2 : w.cell? ⟨b, o + 2, none⟩ = some (.string s)
  x3 : w.cell? ⟨b, o + 3, none⟩ = some (.int .i64 p)
  x4 : w.cell? ⟨b, o + 4, none⟩ = some (.slice ad m cap)
abbrev EAx (w : World) (l : EL) (b o : Nat) : Prop := EAt w (fun _ => True) l b o
abbrev ESx (w : World) (v : Value) (l : EL) : Prop := ESlP w (fun _ => True) v l
abbrev SAx (w : World) (l : SL) (b o : Nat) : Prop := SAt w (fun _ => True) l b o
abbrev SSx (w : World) (v : Value) (l : SL) : Prop := SSlP w (fun _ => True) v l
theorem SSlP.below {w w' : World} {ok : Nat → Prop} {v : Value} {l : SL} (h : SSlP w ok v l) (hb : Below w.heap.size w w') : SSlP w' ok v l := h.keep fun k _ hs => hb.block k hs
theorem EAx.read {w w' : World} {i : Nat} {u : Unit} {k n : Int} {s : ByteArray} {p : Int} {a r : EL} {b o : Nat} (h : EAx w (.inner i (k, n, s, p) u a r) b o) (hb : Below w.heap.size w w') :
    ∃ ad cap, ERd w' b o k n s p ad (elen a) cap ∧ ESx w' (.slice ad (elen a) cap) a ∧ EAx w r b (o + 5) := by
  obtain ⟨h1, h2, h3, h4, ⟨ad, cap, b', o', g1, g2, g3, g4, g5⟩, h7⟩ := h
  have hlt : b < w.heap.size := World.block_lt_of_cell? w ⟨b, o, none⟩ h1
  exact ⟨ad, cap, ⟨Nat.lt_of_lt_of_le hlt hb.size, (hb.cell (p := ⟨b, o, none⟩) hlt).trans h1, (hb.cell (p := ⟨b, o + 1, none⟩) hlt).trans h2, (hb.cell (p := ⟨b, o + 2, none⟩) hlt).trans h3, (hb.cell (p := ⟨b, o + 3, none⟩) hlt).trans h4, (hb.cell (p := ⟨b, o + 4, none⟩) hlt).trans g1⟩, ESlP.below ⟨ad, cap, b', o', rfl, g2, g3, g4, g5⟩ hb, h7⟩

theorem ret_i {a b : Int} (h : a = b) : Ending.returned (.int .i64 a) = .returned (.int .i64 b) := by rw [h]
def CountC (l : EL) : Prop := ∀ (k n : Int) (s : ByteArray) (p : Int) (ad : Option Addr) (cap : Nat) (w : World), ESx w (.slice ad (elen l) cap) l → Calls Tryd.prog 25 #[.agg #[.int .i64 k, .int .i64 n, .string s, .int .i64 p, .slice ad (elen l) cap]] w fun e w' => e = .returned (.int .i64 ((ecnt l + 1 : Nat) : Int)) ∧ Below w.heap.size w w'

set_option maxRecDepth 100000 in
set_option maxHeartbeats 2000000 in
theorem count_any : ∀ (N : Nat) (l : EL), ecnt l ≤ N → ecnt l ≤ 1000000000 → CountC l := by
  intro N
  induction N with
  | zero =>
    intro l hN h9 k n s p ad cap w hE
    have : l = .leaf := by cases l with
      | leaf => rfl
      | inner i d u a r => simp only [ecnt] at hN; omega
    subst this
    go_enter Tryd.func25, Tryd.ntmps25
    go_wp2
    go_rounds 1
    go_ret
    exact ⟨rfl, (Below.refl _ _).alloc (Nat.le_refl _) _⟩
  | succ N ih =>
    intro l hN h9 k n s p ad cap w hE
    obtain ⟨ad', cap', b, o, e0, h1, h2, h3, h4⟩ := hE
    cases e0
    have HI : Hid (∀ l : EL, ecnt l ≤ N → ecnt l ≤ 1000000000 → CountC l) := ih
    have HE0 : Hid (EAx w l b o) := h4
    obtain ⟨m, hm⟩ : ∃ m, elen l = m := ⟨_, rfl⟩
    have HLM : Hid (elen l = m) := hm
    rw [hm] at h1 h3 ⊢
    have hm9 : m ≤ 1000000000 := by have := elen_le l; omega
    have HN : Hid (ecnt l ≤ N + 1) := hN
    clear ih h4 hm hN
    unfold maxLen at h2
    have HBX : Hid (∀ o, Below w.heap.size w (w.alloc o)) := fun o => (Below.refl _ _).alloc (Nat.le_refl _) o
    go_enter Tryd.func25, Tryd.ntmps25
    go_wp2
    go_loopw [3, 4] (fun t i wr => ∃ (j x : Nat) (r : EL), j ≤ m ∧ x ≤ 1000000001 ∧ i = .int .i64 (j : Int) ∧ t = .int .i64 (x : Int) ∧ Hid (j + elen r = m) ∧ Hid (EAx w r b (o + 5 * j)) ∧ Hid (x + ecnt r = ecnt l + 1) ∧ Hid (ecnt r ≤ N + 1 ∧ ecnt r ≤ 1000000000) ∧ Hid (Below (w.heap.size + 1) (w.alloc (.cells #[.int .i64 k, .int .i64 n, .string s, .int .i64 p, .slice ad m cap] 42)) wr)) (fun _ i _ => m - (intOf i).toNat)
    case atStart => exact ⟨0, 1, l, Nat.zero_le _, by omega, rfl, rfl, by show _ = _; rw [Nat.zero_add]; exact HLM.out, HE0, by show _ = _; omega, ⟨HN.out, h9⟩, Below.refl _ _⟩
    case round =>
      obtain ⟨j, x, r, hj, hx9, rfl, rfl, HJ, HE, HX, HR, HB⟩ := hrel
      have HBw : Hid (Below w.heap.size w wr) := (HBX.out _).trans (HB.out.mono (Nat.le_succ _))
      have F0 := (Five.new w (.int .i64 k) (.int .i64 n) (.string s) (.int .i64 p) (.slice ad m cap) 42).keep (HB.out.block w.heap.size (Nat.lt_succ_self _))
      have y4 := F0.c4
      have hsw : w.heap.size < wr.heap.size := by have := HB.out.size; simp at this; omega
      clear F0
      by_cases hlt : j < m
      · have e0 := (h3 (by omega)).1
        subst e0
        cases r with
        | leaf => have := HJ.out; simp only [elen] at this; omega
        | inner i0 d0 u0 a r =>
          obtain ⟨kd, nm, s', p'⟩ := d0
          obtain ⟨ad2, cap2, hrd, hsl, hrest⟩ := EAx.read HE.out HBw.out
          rw [Nat.mul_comm 5 j] at hrd
          obtain ⟨z0, z1, z2, z3, z4, z5⟩ := hrd
          have HSl : Hid (ESx wr (.slice ad2 (elen a) cap2) a) := hsl
          have HRest : Hid (EAx w r b (o + 5 * (j + 1))) := by rw [show o + 5 * (j + 1) = o + 5 * j + 5 by omega]; exact hrest
          have HC : Hid (CountC a) := HI.out a (by have := HR.out.1; simp only [ecnt] at this; omega) (by have := HR.out.2; simp only [ecnt] at this; omega)
          have hxa : x + (ecnt a + 1) ≤ 1000000001 := by have := HX.out; simp only [ecnt] at this; omega
          have HX2 : Hid (x + (ecnt a + 1) + ecnt r = ecnt l + 1) := by have := HX.out; simp only [ecnt] at this; show _ = _; omega
          have HR2 : Hid (ecnt r ≤ N + 1 ∧ ecnt r ≤ 1000000000) := by have := HR.out; simp only [ecnt] at this; exact ⟨by omega, by omega⟩
          clear hsl hrest
          go_wp2_with fail
          refine (HC.out kd nm s' p' ad2 cap2 wr HSl.out).mono ?_
          rintro e w2 ⟨rfl, hb2⟩
          have HB2 : Hid _ := HB.out.trans (hb2.mono hsw)
          clear hb2
          go_wp2
          go_roundw
          case rel => exact ⟨j + 1, x + (ecnt a + 1), r, by omega, hxa, by go_num, by go_num, by have := HJ.out; simp only [elen] at this; show _ = _; omega, HRest, HX2, HR2, HB2⟩
          case measure => simp [intOf]; omega
      · have hr : r = .leaf := by cases r with
          | leaf => rfl
          | inner i0 d0 u0 a r => have := HJ.out; simp only [elen] at this; omega
        subst hr
        have HXX : Hid (x = ecnt l + 1) := HX.out
        go_wp2
        go_ret
        exact ⟨ret_i (by have := HXX.out; omega), HBw.out⟩

/-- a statement of a row, read -/
structure SRd (w : World) (b o : Nat) (k : Int) (s : ByteArray) (c : Int) (ad : Option Addr) (m cap : Nat) (bd : Option Addr) (bm bcap : Nat) (ed : Option Addr) (em ecap : Nat) : Prop where
  lt : b < w.heap.size
  x0 : w.cell? ⟨b, o, none⟩ = some (.int .i64 k)
  x1 : w.cell? ⟨b, o + 1, none⟩ = some (.string s)
  x2 : w.cell? ⟨b, o + 2, none⟩ = some (.int .i64 c)
  x3 : w.cell? ⟨b, o + 3, none⟩ = some (.slice ad m cap)
  x4 : w.cell? ⟨b, o + 4, none⟩ = some (.slice bd bm bcap)
  x5 : w.cell? ⟨b, o + 5, none⟩ = some (.slice ed em ecap)
theorem SRd.below {w w' : World} {b o : Nat} {k : Int} {s : ByteArray} {c : Int} {ad : Option Addr} {m cap : Nat} {bd : Option Addr} {bm bcap : Nat} {ed : Option Addr} {em ecap : Nat} (h : SRd w b o k s c ad m cap bd bm bcap ed em ecap) (hb : Below w.heap.size w w') : SRd w' b o k s c ad m cap bd bm bcap ed em ecap :=
  ⟨Nat.lt_of_lt_of_le h.lt hb.size, (hb.cell (p := ⟨b, o, none⟩) h.lt).trans h.x0, (hb.cell (p := ⟨b, o + 1, none⟩) h.lt).trans h.x1, (hb.cell (p := ⟨b, o + 2, none⟩) h.lt).trans h.x2, (hb.cell (p := ⟨b, o + 3, none⟩) h.lt).trans h.x3, (hb.cell (p := ⟨b, o + 4, none⟩) h.lt).trans h.x4, (hb.cell (p := ⟨b, o + 5, none⟩) h.lt).trans h.x5⟩
theorem SAx.read {w w' : World} {i : Nat} {u : Unit} {k : Int} {s : ByteArray} {c : Int} {a : EL} {x r : SL} {b o : Nat} (h : SAx w (.inner i (k, s, c, a) u x r) b o) (hb : Below w.heap.size w w') :
    ∃ ad cap bd bcap ed ecap, SRd w' b o k s c ad (elen a) cap bd (slen (slft x)) bcap ed (slen (srgt x)) ecap ∧ ESx w' (.slice ad (elen a) cap) a ∧ SSx w' (.slice bd (slen (slft x)) bcap) (slft x) ∧ SSx w' (.slice ed (slen (srgt x)) ecap) (srgt x) ∧ SAx w r b (o + 6) := by
  obtain ⟨h1, h2, h3, va, vb, ve, h4, h5, h6, pa, pb, pe, hr⟩ := SAt.parts h
  have qa := pa.below hb
  have qb := pb.below hb
  have qe := pe.below hb
  obtain ⟨ad, cap, _, _, rfl, _⟩ := pa
  obtain ⟨bd, bcap, _, _, rfl, _⟩ := pb
  obtain ⟨ed, ecap, _, _, rfl, _⟩ := pe
  have hlt : b < w.heap.size := World.block_lt_of_cell? w ⟨b, o, none⟩ h1
  exact ⟨ad, cap, bd, bcap, ed, ecap, ⟨Nat.lt_of_lt_of_le hlt hb.size, (hb.cell (p := ⟨b, o, none⟩) hlt).trans h1, (hb.cell (p := ⟨b, o + 1, none⟩) hlt).trans h2, (hb.cell (p := ⟨b, o + 2, none⟩) hlt).trans h3, (hb.cell (p := ⟨b, o + 3, none⟩) hlt).trans h4, (hb.cell (p := ⟨b, o + 4, none⟩) hlt).trans h5, (hb.cell (p := ⟨b, o + 5, none⟩) hlt).trans h6⟩, qa, qb, qe, hr⟩

def NodesC (l : SL) : Prop := ∀ (va : Value) (w : World), SSx w va l → Calls Tryd.prog 16 #[va] w fun e w' => e = .returned (.int .i64 (scnt l : Int)) ∧ Below w.heap.size w w'

set_option maxRecDepth 100000 in
set_option maxHeartbeats 1000000 in
theorem rnodes_any : ∀ (N : Nat) (l : SL), scnt l ≤ N → scnt l ≤ 1000000000 → NodesC l := by
  intro N
  induction N with
  | zero =>
    intro l hN h9 va w hE
    have : l = .leaf := by cases l with
      | leaf => rfl
      | inner i0 d0 u0 x0 r => obtain ⟨k, s, c, a⟩ := d0; rw [scnt_inner] at hN; omega
    subst this
    obtain ⟨ad, cap, b, o, rfl, h1, h2, h3, h4⟩ := hE
    go_enter Tryd.func16, Tryd.ntmps16
    go_wp2
    go_rounds 1
    go_ret
    exact ⟨rfl, Below.refl _ _⟩
  | succ N ih =>
    intro l hN h9 va w hE
    obtain ⟨ad, cap, b, o, rfl, h1, h2, h3, h4⟩ := hE
    have HI : Hid (∀ l : SL, scnt l ≤ N → scnt l ≤ 1000000000 → NodesC l) := ih
    have HE0 : Hid (SAx w l b o) := h4
    obtain ⟨m, hm⟩ : ∃ m, slen l = m := ⟨_, rfl⟩
    have HLM : Hid (slen l = m) := hm
    rw [hm] at h1 h3 ⊢
    have hm9 : m ≤ 1000000000 := by have := slen_le l; omega
    have HN : Hid (scnt l ≤ N + 1) := hN
    obtain ⟨C, hC⟩ : ∃ C, scnt l = C := ⟨_, rfl⟩
    have HCl : Hid (scnt l = C) := hC
    rw [hC] at h9 ⊢
    clear ih h4 hm hN hC
    unfold maxLen at h2
    go_enter Tryd.func16, Tryd.ntmps16
    go_wp2
    go_loopw [3, 4, 5] (fun t i _ wr => ∃ (j x : Nat) (r : SL), j ≤ m ∧ x ≤ C ∧ i = .int .i64 (j : Int) ∧ t = .int .i64 (x : Int) ∧ Hid (j + slen r = m) ∧ Hid (SAx w r b (o + 6 * j)) ∧ Hid (x + scnt r = C + slen r) ∧ Hid (scnt r ≤ N + 1) ∧ Hid (Below w.heap.size w wr)) (fun _ i _ _ => m - (intOf i).toNat)
    case atStart => exact ⟨0, m, l, Nat.zero_le _, by have := slen_le l; have := HLM.out; have := HCl.out; omega, rfl, rfl, by show _ = _; rw [Nat.zero_add]; exact HLM.out, HE0, by have := HLM.out; have := HCl.out; show _ = _; omega, HN.out, Below.refl _ _⟩
    case round =>
      obtain ⟨j, x, r, hj, hx9, rfl, rfl, HJ, HE, HX, HR, HB⟩ := hrel
      by_cases hlt : j < m
      · have e0 := (h3 (by omega)).1
        subst e0
        cases r with
        | leaf => have := HJ.out; simp only [slen] at this; omega
        | inner i0 d0 u0 x0 r =>
          obtain ⟨kd, s, c, a⟩ := d0
          obtain ⟨ad1, cap1, bd, bcap, ed, ecap, hrd, hsa, hsd, hse, hrest⟩ := SAx.read HE.out HB.out
          rw [Nat.mul_comm 6 j] at hrd
          have HRD : Hid (SRd wr b (o + j * 6) kd s c ad1 (elen a) cap1 bd (slen (slft x0)) bcap ed (slen (srgt x0)) ecap) := hrd
          obtain ⟨z0, _, _, _, z3, z4, z5⟩ := hrd
          obtain ⟨ad1', cap1', b1, o1, e1, g1, g2, g3, g4⟩ := hsa
          cases e1
          have HSA : Hid (EAx wr a b1 o1) := g4
          have HSD : Hid (SSx wr (.slice bd (slen (slft x0)) bcap) (slft x0)) := hsd
          have HSE : Hid (SSx wr (.slice ed (slen (srgt x0)) ecap) (srgt x0)) := hse
          have HRest : Hid (SAx w r b (o + 6 * (j + 1))) := by rw [show o + 6 * (j + 1) = o + 6 * j + 6 by omega]; exact hrest
          have hcs : ecnt a + scnt (slft x0) + scnt (srgt x0) + x + scnt r = C + slen r ∧ ecnt a + scnt (slft x0) + scnt (srgt x0) ≤ N ∧ scnt r ≤ N + 1 ∧ slen r ≤ scnt r := by
            have h5 := HX.out
            have h6 := HR.out
            have h7 := slen_le r
            rw [scnt_inner] at h5 h6; simp only [slen] at h5
            exact ⟨by omega, by omega, by omega, h7⟩
          have HCS : Hid (ecnt a + scnt (slft x0) + scnt (srgt x0) + x + scnt r = C + slen r ∧ ecnt a + scnt (slft x0) + scnt (srgt x0) ≤ N ∧ scnt r ≤ N + 1 ∧ slen r ≤ scnt r) := hcs
          have hsum : ecnt a + scnt (slft x0) + scnt (srgt x0) + x ≤ C := by omega
          obtain ⟨na, hna⟩ : ∃ na, elen a = na := ⟨_, rfl⟩
          have HNA : Hid (elen a = na) := hna
          rw [hna] at z3 g1 g3
          have hna9 : na ≤ 1000000000 := by have := elen_le a; omega
          have HCd : Hid (NodesC (slft x0)) := HI.out (slft x0) (by omega) (by omega)
          have HCe : Hid (NodesC (srgt x0)) := HI.out (srgt x0) (by omega) (by omega)
          unfold maxLen at g2
          clear hsd hse hrest hcs hna g4
          go_wp2
          go_loopw [3, 5] (fun t i wq => ∃ (j2 y : Nat) (ra : EL), j2 ≤ na ∧ y ≤ C ∧ i = .int .i64 (j2 : Int) ∧ t = .int .i64 (y : Int) ∧ Hid (j2 + elen ra = na) ∧ Hid (EAx wr ra b1 (o1 + 5 * j2)) ∧ Hid (y + ecnt ra = x + ecnt a) ∧ Hid (Below wr.heap.size wr wq)) (fun _ i _ => na - (intOf i).toNat)
          case atStart => exact ⟨0, x, a, Nat.zero_le _, hx9, rfl, rfl, by show _ = _; rw [Nat.zero_add]; exact HNA.out, HSA, rfl, Below.refl _ _⟩
          case round =>
            obtain ⟨j2, y, ra, hj2, hy9, rfl, rfl, HJ2, HE2, HX2, HB2⟩ := hrel
            have HRD2 : Hid (SRd wr b (o + j * 6) kd s c ad1 na cap1 bd (slen (slft x0)) bcap ed (slen (srgt x0)) ecap) := HNA.out ▸ HRD.out.below HB2.out
            clear z0 z3 z4 z5
            obtain ⟨z0, _, _, _, z3, z4, z5⟩ := HRD2.out
            by_cases hlt2 : j2 < na
            · have e1 := (g3 (by omega)).1
              subst e1
              cases ra with
              | leaf => have := HJ2.out; simp only [elen] at this; omega
              | inner i1 d1 u1 a' ra =>
                obtain ⟨kd', nm, s', p'⟩ := d1
                obtain ⟨ad2, cap2, hrd2, hsl2, hrest2⟩ := EAx.read HE2.out HB2.out
                rw [Nat.mul_comm 5 j2] at hrd2
                obtain ⟨q0, q1, q2, q3, q4, q5⟩ := hrd2
                have HSl : Hid (ESx wr (.slice ad2 (elen a') cap2) a') := hsl2
                have HRest2 : Hid _ := hrest2
                have hy2 : y + (ecnt a' + 1) ≤ C ∧ ecnt a' ≤ 1000000000 := by
                  have h5 := HX2.out
                  simp only [ecnt] at h5
                  exact ⟨by omega, by omega⟩
                have HC : Hid (CountC a') := count_any _ a' (Nat.le_refl _) hy2.2
                have hyy := hy2.1
                have HX3 : Hid (y + (ecnt a' + 1) + ecnt ra = x + ecnt a) := by have := HX2.out; simp only [ecnt] at this; show _ = _; omega
                clear hsl2 hrest2 hy2
                go_wp2_with fail
                refine (HC.out kd' nm s' p' ad2 cap2 wr HSl.out).mono ?_
                rintro e w2 ⟨rfl, hb2⟩
                have HB3 : Hid _ := HB2.out.trans (hb2.mono HB2.out.size)
                clear hb2
                go_wp2
                go_roundw
                case rel => exact ⟨j2 + 1, y + (ecnt a' + 1), ra, by omega, hyy, by go_num, by go_num, by have := HJ2.out; simp only [elen] at this; show _ = _; omega, by have := HRest2.out; rw [show o1 + 5 * (j2 + 1) = o1 + 5 * j2 + 5 by omega]; exact this, HX3, HB3⟩
                case measure => simp [intOf]; omega
            · have hr : ra = .leaf := by cases ra with
                | leaf => rfl
                | inner i1 d1 u1 a r => have := HJ2.out; simp only [elen] at this; omega
              subst hr
              have HYY : Hid (y = x + ecnt a) := HX2.out
              have hyx : y + scnt (slft x0) + scnt (srgt x0) ≤ C := by have := HYY.out; omega
              have HSD2 : Hid (∀ w', Below wr.heap.size wr w' → SSx w' (.slice bd (slen (slft x0)) bcap) (slft x0)) := fun w' hb => (HSD.out.below HB2.out).below hb
              have HSE2 : Hid (∀ w', Below wr.heap.size wr w' → SSx w' (.slice ed (slen (srgt x0)) ecap) (srgt x0)) := fun w' hb => (HSE.out.below HB2.out).below hb
              have HB0 : Hid (Below wr.heap.size wr wr.drew) := (Below.refl _ _).drew
              have HSC : Hid (∀ w', Below wr.heap.size wr w' → w'.cell? ⟨b, o + j * 6 + 4, none⟩ = some (.slice bd (slen (slft x0)) bcap) ∧ w'.cell? ⟨b, o + j * 6 + 5, none⟩ = some (.slice ed (slen (srgt x0)) ecap)) := fun w' hb => ⟨(HRD2.out.below hb).x4, (HRD2.out.below hb).x5⟩
              go_wp2
              go_region_held3 (fun w' => w'.cell? ⟨b, o + j * 6 + 4, none⟩ = some (.slice bd (slen (slft x0)) bcap) ∧ w'.cell? ⟨b, o + j * 6 + 5, none⟩ = some (.slice ed (slen (srgt x0)) ecap)) (go_keep) (first | (go_at_call 16; have hq4 := HB4; refine (HCe.out _ w4 (HSE2.out w4 HB4.out)).mono ?_; rintro e w5 ⟨rfl, hb5⟩; have HB5 : Hid (Below wr.heap.size wr w5) := HB4.out.trans (hb5.mono HB4.out.size); obtain ⟨p7, p8⟩ := HSC.out w5 HB5.out; clear hb5) | (go_at_call 16; refine (HCd.out _ wr.drew (HSD2.out wr.drew HB0.out)).mono ?_; rintro e w4 ⟨rfl, hb4⟩; have HB4 : Hid (Below wr.heap.size wr w4) := HB0.out.trans hb4; obtain ⟨p5, p6⟩ := HSC.out w4 HB4.out; clear hb4))
              have ew1 : IntKind.i64.wrap (((scnt (slft x0) : Nat) : Int) + (scnt (srgt x0) : Int)) = ((scnt (slft x0) + scnt (srgt x0) : Nat) : Int) := by rw [IntKind.wrap_i64]; omega
              have ew2 : IntKind.i64.wrap ((y : Int) + ((scnt (slft x0) + scnt (srgt x0) : Nat) : Int)) = ((y + scnt (slft x0) + scnt (srgt x0) : Nat) : Int) := by rw [IntKind.wrap_i64]; omega
              rw [ew1, ew2]
              clear ew1 ew2
              go_wp2
              go_roundw
              case rel =>
                refine ⟨j + 1, y + scnt (slft x0) + scnt (srgt x0), r, by omega, hyx, by go_num, by go_num, by have := HJ.out; simp only [slen] at this; show _ = _; omega, HRest, ?_, HCS.out.2.2.1, HB.out.trans ((HB2.out.trans (HB5.out.mono HB2.out.size)).mono HB.out.size)⟩
                have := HCS.out.1
                have := HYY.out
                show _ = _
                omega
              case measure => simp [intOf]; omega
      · have hr : r = .leaf := by cases r with
          | leaf => rfl
          | inner i0 d0 u0 x0 r => have := HJ.out; simp only [slen] at this; omega
        subst hr
        have HXX : Hid (x = C) := HX.out
        go_wp2
        go_ret
        exact ⟨ret_i (by have := HXX.out; omega), HB.out⟩

theorem great_any (l : SL) (va : Value) (w : World) (hE : SSx w va l) (h9 : scnt l ≤ 1000000000) :
    Calls Tryd.prog 12 #[va] w fun e w' => e = .returned (.bool (decide (5000 < (scnt l : Int)))) ∧ Below w.heap.size w w' := by
  have HN : Hid (NodesC l)   := rnodes_any _ l (Nat.le_refl _) h9
  have HE : Hid (SSx w va l) := hE
  obtain ⟨ad, cap, b, o, rfl, _⟩ := hE
  go_enter Tryd.func12, Tryd.ntmps12
  go_wp2_with fail
  refine (HN.out _ w HE.out).mono ?_
  rintro e w2 ⟨rfl, hb2⟩
  have HB2 : Hid _ := hb2
  clear hb2
  go_wp2
  all_goals
    go_ret
    exact ⟨by simp [*], HB2.out⟩
end Go.Proofs.YtnofibjchhcmeabDoor
