/- How many nodes there are: the document's Count, Nodes, and Great. -/
import Derived.Test.YtiafdlebggegfabExprs
import Derived.Deep.RegionHeld3
namespace Go.Proofs.Ytiafdlebggegfab
open Go.RowKit Go.Maps Go.WideMaps
set_option linter.unusedVariables false

structure Five (w : World) (b : Nat) (v0 v1 v2 v3 v4 : Value) : Prop where
  c0 : w.cell? ⟨b, 0, none⟩ = some v0
  c1 : w.cell? ⟨b, 1, none⟩ = some v1
  c2 : w.cell? ⟨b, 2, none⟩ = some v2
  c3 : w.cell? ⟨b, 3, none⟩ = some v3
  c4 : w.cell? ⟨b, 4, none⟩ = some v4
theorem Five.keep {w w' : World} {b : Nat} {v0 v1 v2 v3 v4 : Value} (h : Five w b v0 v1 v2 v3 v4) (hb : w'.heap[b]? = w.heap[b]?) : Five w' b v0 v1 v2 v3 v4 :=
  ⟨(World.cell?_of_block (w := w) (a := ⟨b, 0, none⟩) hb).trans h.c0, (World.cell?_of_block (w := w) (a := ⟨b, 1, none⟩) hb).trans h.c1, (World.cell?_of_block (w := w) (a := ⟨b, 2, none⟩) hb).trans h.c2, (World.cell?_of_block (w := w) (a := ⟨b, 3, none⟩) hb).trans h.c3, (World.cell?_of_block (w := w) (a := ⟨b, 4, none⟩) hb).trans h.c4⟩
theorem Five.new (w : World) (v0 v1 v2 v3 v4 : Value) (t : TypeId) : Five (w.alloc (.cells #[v0, v1, v2, v3, v4] t)) w.heap.size v0 v1 v2 v3 v4 := ⟨by simp, by simp, by simp, by simp, by simp⟩

/-- an expression of a row, read -/
structure ERd (w : World) (b o : Nat) (k n : Int) (s : ByteArray) (p : Int) (ad : Option Addr) (m cap : Nat) : Prop where
  lt : b < w.heap.size
  x0 : w.cell? ⟨b, o, none⟩ = some (.int .i64 k)
  x1 : w.cell? ⟨b, o + 1, none⟩ = some (.int .i64 n)
  x2 : w.cell? ⟨b, o + 2, none⟩ = some (.string s)
  x3 : w.cell? ⟨b, o + 3, none⟩ = some (.int .i64 p)
  x4 : w.cell? ⟨b, o + 4, none⟩ = some (.slice ad m cap)
theorem EAt.read {w w' : World} {k n : Int} {s : ByteArray} {p : Int} {a r : EL} {b o : Nat} (h : EAt w (.cons k n s p a r) b o) (hb : Below w.heap.size w w') :
    ∃ ad cap, ERd w' b o k n s p ad a.len cap ∧ ESl w' (.slice ad a.len cap) a ∧ s.size ≤ maxLen ∧ EAt w r b (o + 5) := by
  obtain ⟨h1, h2, h3, h4, h5, ⟨ad, cap, b', o', g1, g2, g3, g4, g5⟩, h7⟩ := h
  have hlt : b < w.heap.size := World.block_lt_of_cell? w ⟨b, o, none⟩ h1
  exact ⟨ad, cap, ⟨Nat.lt_of_lt_of_le hlt hb.size, (hb.cell (p := ⟨b, o, none⟩) hlt).trans h1, (hb.cell (p := ⟨b, o + 1, none⟩) hlt).trans h2, (hb.cell (p := ⟨b, o + 2, none⟩) hlt).trans h3, (hb.cell (p := ⟨b, o + 3, none⟩) hlt).trans h4, (hb.cell (p := ⟨b, o + 4, none⟩) hlt).trans g1⟩, ⟨ad, cap, b', o', rfl, g2, g3, g4, g5.below hb⟩, h5, h7⟩

theorem ret_i {a b : Int} (h : a = b) : Ending.returned (.int .i64 a) = .returned (.int .i64 b) := by rw [h]
def CountC (l : EL) : Prop := ∀ (k n : Int) (s : ByteArray) (p : Int) (ad : Option Addr) (cap : Nat) (w : World), ESl w (.slice ad l.len cap) l → Calls Try.prog 19 #[eV k n s p (.slice ad l.len cap)] w fun e w' => e = .returned (.int .i64 ((l.cnt + 1 : Nat) : Int)) ∧ Below w.heap.size w w'

set_option maxRecDepth 100000 in
set_option maxHeartbeats 2000000 in
theorem count_any : ∀ (N : Nat) (l : EL), l.cnt ≤ N → l.cnt ≤ 1000000000 → CountC l := by
  intro N
  induction N with
  | zero =>
    intro l hN h9 k n s p ad cap w hE
    have : l = .nil := by cases l with
      | nil => rfl
      | cons k n s p a r => simp only [EL.cnt] at hN; omega
    subst this
    unfold eV
    go_enter Try.func19, Try.ntmps19
    go_wp2
    go_rounds 1
    go_ret
    exact ⟨rfl, (Below.refl _ _).alloc (Nat.le_refl _) _⟩
  | succ N ih =>
    intro l hN h9 k n s p ad cap w hE
    obtain ⟨ad', cap', b, o, e0, h1, h2, h3, h4⟩ := hE
    cases e0
    have HI : Hid (∀ l : EL, l.cnt ≤ N → l.cnt ≤ 1000000000 → CountC l) := ih
    have HE0 : Hid (EAt w l b o) := h4
    obtain ⟨m, hm⟩ : ∃ m, l.len = m := ⟨_, rfl⟩
    have HLM : Hid (l.len = m) := hm
    rw [hm] at h1 h3 ⊢
    have hm9 : m ≤ 1000000000 := by have := l.len_le; omega
    have HN : Hid (l.cnt ≤ N + 1) := hN
    clear ih h4 hm hN
    unfold maxLen at h2
    unfold eV
    have HBX : Hid (∀ o, Below w.heap.size w (w.alloc o)) := fun o => (Below.refl _ _).alloc (Nat.le_refl _) o
    go_enter Try.func19, Try.ntmps19
    go_wp2
    go_loopw [3, 4] (fun t i wr => ∃ (j x : Nat) (r : EL), j ≤ m ∧ x ≤ 1000000001 ∧ i = .int .i64 (j : Int) ∧ t = .int .i64 (x : Int) ∧ Hid (j + r.len = m) ∧ Hid (EAt w r b (o + 5 * j)) ∧ Hid (x + r.cnt = l.cnt + 1) ∧ Hid (r.cnt ≤ N + 1 ∧ r.cnt ≤ 1000000000) ∧ Hid (Below (w.heap.size + 1) (w.alloc (.cells #[.int .i64 k, .int .i64 n, .string s, .int .i64 p, .slice ad m cap] 41)) wr)) (fun _ i _ => m - (intOf i).toNat)
    case atStart => exact ⟨0, 1, l, Nat.zero_le _, by omega, rfl, rfl, by show _ = _; rw [Nat.zero_add]; exact HLM.out, HE0, by show _ = _; omega, ⟨HN.out, h9⟩, Below.refl _ _⟩
    case round =>
      obtain ⟨j, x, r, hj, hx9, rfl, rfl, HJ, HE, HX, HR, HB⟩ := hrel
      have HBw : Hid (Below w.heap.size w wr) := (HBX.out _).trans (HB.out.mono (Nat.le_succ _))
      have F0 := (Five.new w (.int .i64 k) (.int .i64 n) (.string s) (.int .i64 p) (.slice ad m cap) 41).keep (HB.out.block w.heap.size (Nat.lt_succ_self _))
      have y4 := F0.c4
      have hsw : w.heap.size < wr.heap.size := by have := HB.out.size; simp at this; omega
      clear F0
      by_cases hlt : j < m
      · have e0 := h3 (by omega)
        subst e0
        cases r with
        | nil => have := HJ.out; simp only [EL.len] at this; omega
        | cons kd nm s' p' a r =>
          obtain ⟨ad2, cap2, hrd, hsl, _, hrest⟩ := HE.out.read HBw.out
          rw [Nat.mul_comm 5 j] at hrd
          obtain ⟨z0, z1, z2, z3, z4, z5⟩ := hrd
          have HSl : Hid (ESl wr (.slice ad2 a.len cap2) a) := hsl
          have HRest : Hid (EAt w r b (o + 5 * (j + 1))) := by rw [show o + 5 * (j + 1) = o + 5 * j + 5 by omega]; exact hrest
          have HC : Hid (CountC a) := HI.out a (by have := HR.out.1; simp only [EL.cnt] at this; omega) (by have := HR.out.2; simp only [EL.cnt] at this; omega)
          have hxa : x + (a.cnt + 1) ≤ 1000000001 := by have := HX.out; simp only [EL.cnt] at this; omega
          have HX2 : Hid (x + (a.cnt + 1) + r.cnt = l.cnt + 1) := by have := HX.out; simp only [EL.cnt] at this; show _ = _; omega
          have HR2 : Hid (r.cnt ≤ N + 1 ∧ r.cnt ≤ 1000000000) := by have := HR.out; simp only [EL.cnt] at this; exact ⟨by omega, by omega⟩
          clear hsl hrest
          go_wp2_with fail
          refine (HC.out kd nm s' p' ad2 cap2 wr HSl.out).mono ?_
          rintro e w2 ⟨rfl, hb2⟩
          have HB2 : Hid _ := HB.out.trans (hb2.mono hsw)
          clear hb2
          go_wp2
          go_roundw
          case rel => exact ⟨j + 1, x + (a.cnt + 1), r, by omega, hxa, by go_num, by go_num, by have := HJ.out; simp only [EL.len] at this; show _ = _; omega, HRest, HX2, HR2, HB2⟩
          case measure => simp [intOf]; omega
      · have hr : r = .nil := by cases r with
          | nil => rfl
          | cons kd nm s p a r => have := HJ.out; simp only [EL.len] at this; omega
        subst hr
        have HXX : Hid (x = l.cnt + 1) := HX.out
        go_wp2
        go_ret
        exact ⟨ret_i (by have := HXX.out; omega), HBw.out⟩

/-- a statement of a row, read -/
structure SRd (w : World) (b o : Nat) (k : Int) (s : ByteArray) (c : Int) (ad : Option Addr) (m cap : Nat) (bd : Option Addr) (bm bcap : Nat) (ed : Option Addr) (em ecap : Nat) : Prop where
  lt : b < w.heap.size
  x0 : w.cell? ⟨b, o, none⟩ = some (.int .i64 k)
  x1 : w.cell? ⟨b, o + 1, none⟩ = some (.string s)
  x2 : w.cell? ⟨b, o + 2, none⟩ = some (.int .i64 c)
  x3 : w.cell? ⟨b, o + 3, none⟩ = some (.slice ad m cap)
  x4 : w.cell? ⟨b, o + 4, none⟩ = some (.slice bd bm bcap)
  x5 : w.cell? ⟨b, o + 5, none⟩ = some (.slice ed em ecap)
theorem SRd.below {w w' : World} {b o : Nat} {k : Int} {s : ByteArray} {c : Int} {ad : Option Addr} {m cap : Nat} {bd : Option Addr} {bm bcap : Nat} {ed : Option Addr} {em ecap : Nat} (h : SRd w b o k s c ad m cap bd bm bcap ed em ecap) (hb : Below w.heap.size w w') : SRd w' b o k s c ad m cap bd bm bcap ed em ecap :=
  ⟨Nat.lt_of_lt_of_le h.lt hb.size, (hb.cell (p := ⟨b, o, none⟩) h.lt).trans h.x0, (hb.cell (p := ⟨b, o + 1, none⟩) h.lt).trans h.x1, (hb.cell (p := ⟨b, o + 2, none⟩) h.lt).trans h.x2, (hb.cell (p := ⟨b, o + 3, none⟩) h.lt).trans h.x3, (hb.cell (p := ⟨b, o + 4, none⟩) h.lt).trans h.x4, (hb.cell (p := ⟨b, o + 5, none⟩) h.lt).trans h.x5⟩
theorem SAt.read {w w' : World} {k : Int} {s : ByteArray} {c : Int} {a : EL} {d e r : SL} {b o : Nat} (h : SAt w (.cons k s c a d e r) b o) (hb : Below w.heap.size w w') :
    ∃ ad cap bd bcap ed ecap, SRd w' b o k s c ad a.len cap bd d.len bcap ed e.len ecap ∧ ESl w' (.slice ad a.len cap) a ∧ SSl w' (.slice bd d.len bcap) d ∧ SSl w' (.slice ed e.len ecap) e ∧ s.size ≤ maxLen ∧ SAt w r b (o + 6) := by
  obtain ⟨h1, h2, h3, h4, ⟨v, h5, h5'⟩, ⟨bd, bcap, b', o', g1, g2, g3, g4, g5⟩, ⟨ed, ecap, b'', o'', f1, f2, f3, f4, f5⟩, h7⟩ := h
  obtain ⟨ad, cap, ba, oa, rfl, _⟩ := id h5'
  have hlt : b < w.heap.size := World.block_lt_of_cell? w ⟨b, o, none⟩ h1
  exact ⟨ad, cap, bd, bcap, ed, ecap, ⟨Nat.lt_of_lt_of_le hlt hb.size, (hb.cell (p := ⟨b, o, none⟩) hlt).trans h1, (hb.cell (p := ⟨b, o + 1, none⟩) hlt).trans h2, (hb.cell (p := ⟨b, o + 2, none⟩) hlt).trans h3, (hb.cell (p := ⟨b, o + 3, none⟩) hlt).trans h5, (hb.cell (p := ⟨b, o + 4, none⟩) hlt).trans g1, (hb.cell (p := ⟨b, o + 5, none⟩) hlt).trans f1⟩, h5'.below hb, ⟨bd, bcap, b', o', rfl, g2, g3, g4, g5.below hb⟩, ⟨ed, ecap, b'', o'', rfl, f2, f3, f4, f5.below hb⟩, h4, h7⟩

def NodesC (l : SL) : Prop := ∀ (va : Value) (w : World), SSl w va l → Calls Try.prog 14 #[va] w fun e w' => e = .returned (.int .i64 (l.cnt : Int)) ∧ Below w.heap.size w w'

set_option maxRecDepth 100000 in
set_option maxHeartbeats 1000000 in
theorem nodes_any : ∀ (N : Nat) (l : SL), l.cnt ≤ N → l.cnt ≤ 1000000000 → NodesC l := by
  intro N
  induction N with
  | zero =>
    intro l hN h9 va w hE
    have : l = .nil := by cases l with
      | nil => rfl
      | cons k s c a d e r => simp only [SL.cnt] at hN; omega
    subst this
    obtain ⟨ad, cap, b, o, rfl, h1, h2, h3, h4⟩ := hE
    go_enter Try.func14, Try.ntmps14
    go_wp2
    go_rounds 1
    go_ret
    exact ⟨rfl, Below.refl _ _⟩
  | succ N ih =>
    intro l hN h9 va w hE
    obtain ⟨ad, cap, b, o, rfl, h1, h2, h3, h4⟩ := hE
    have HI : Hid (∀ l : SL, l.cnt ≤ N → l.cnt ≤ 1000000000 → NodesC l) := ih
    have HE0 : Hid (SAt w l b o) := h4
    obtain ⟨m, hm⟩ : ∃ m, l.len = m := ⟨_, rfl⟩
    have HLM : Hid (l.len = m) := hm
    rw [hm] at h1 h3 ⊢
    have hm9 : m ≤ 1000000000 := by have := l.len_le; omega
    have HN : Hid (l.cnt ≤ N + 1) := hN
    obtain ⟨C, hC⟩ : ∃ C, l.cnt = C := ⟨_, rfl⟩
    have HCl : Hid (l.cnt = C) := hC
    rw [hC] at h9 ⊢
    clear ih h4 hm hN hC
    unfold maxLen at h2
    go_enter Try.func14, Try.ntmps14
    go_wp2
    go_loopw [3, 4, 5] (fun t i _ wr => ∃ (j x : Nat) (r : SL), j ≤ m ∧ x ≤ C ∧ i = .int .i64 (j : Int) ∧ t = .int .i64 (x : Int) ∧ Hid (j + r.len = m) ∧ Hid (SAt w r b (o + 6 * j)) ∧ Hid (x + r.cnt = C + r.len) ∧ Hid (r.cnt ≤ N + 1) ∧ Hid (Below w.heap.size w wr)) (fun _ i _ _ => m - (intOf i).toNat)
    case atStart => exact ⟨0, m, l, Nat.zero_le _, by have := l.len_le; have := HLM.out; have := HCl.out; omega, rfl, rfl, by show _ = _; rw [Nat.zero_add]; exact HLM.out, HE0, by have := HLM.out; have := HCl.out; show _ = _; omega, HN.out, Below.refl _ _⟩
    case round =>
      obtain ⟨j, x, r, hj, hx9, rfl, rfl, HJ, HE, HX, HR, HB⟩ := hrel
      by_cases hlt : j < m
      · have e0 := h3 (by omega)
        subst e0
        cases r with
        | nil => have := HJ.out; simp only [SL.len] at this; omega
        | cons kd s c a d e r =>
          obtain ⟨ad1, cap1, bd, bcap, ed, ecap, hrd, hsa, hsd, hse, _, hrest⟩ := HE.out.read HB.out
          rw [Nat.mul_comm 6 j] at hrd
          have HRD : Hid (SRd wr b (o + j * 6) kd s c ad1 a.len cap1 bd d.len bcap ed e.len ecap) := hrd
          obtain ⟨z0, _, _, _, z3, z4, z5⟩ := hrd
          obtain ⟨ad1', cap1', b1, o1, e1, g1, g2, g3, g4⟩ := hsa
          cases e1
          have HSA : Hid (EAt wr a b1 o1) := g4
          have HSD : Hid (SSl wr (.slice bd d.len bcap) d) := hsd
          have HSE : Hid (SSl wr (.slice ed e.len ecap) e) := hse
          have HRest : Hid (SAt w r b (o + 6 * (j + 1))) := by rw [show o + 6 * (j + 1) = o + 6 * j + 6 by omega]; exact hrest
          have hcs : a.cnt + d.cnt + e.cnt + x + r.cnt = C + r.len ∧ a.cnt + d.cnt + e.cnt ≤ N ∧ r.cnt ≤ N + 1 ∧ r.len ≤ r.cnt := by
            have h5 := HX.out
            have h6 := HR.out
            have h7 := r.len_le
            simp only [SL.cnt, SL.len] at h5 h6
            exact ⟨by omega, by omega, by omega, h7⟩
          have HCS : Hid (a.cnt + d.cnt + e.cnt + x + r.cnt = C + r.len ∧ a.cnt + d.cnt + e.cnt ≤ N ∧ r.cnt ≤ N + 1 ∧ r.len ≤ r.cnt) := hcs
          have hsum : a.cnt + d.cnt + e.cnt + x ≤ C := by omega
          obtain ⟨na, hna⟩ : ∃ na, a.len = na := ⟨_, rfl⟩
          have HNA : Hid (a.len = na) := hna
          rw [hna] at z3 g1 g3
          have hna9 : na ≤ 1000000000 := by have := a.len_le; omega
          have HCd : Hid (NodesC d) := HI.out d (by omega) (by omega)
          have HCe : Hid (NodesC e) := HI.out e (by omega) (by omega)
          unfold maxLen at g2
          clear hsd hse hrest hcs hna g4
          go_wp2
          go_loopw [3, 5] (fun t i wq => ∃ (j2 y : Nat) (ra : EL), j2 ≤ na ∧ y ≤ C ∧ i = .int .i64 (j2 : Int) ∧ t = .int .i64 (y : Int) ∧ Hid (j2 + ra.len = na) ∧ Hid (EAt wr ra b1 (o1 + 5 * j2)) ∧ Hid (y + ra.cnt = x + a.cnt) ∧ Hid (Below wr.heap.size wr wq)) (fun _ i _ => na - (intOf i).toNat)
          case atStart => exact ⟨0, x, a, Nat.zero_le _, hx9, rfl, rfl, by show _ = _; rw [Nat.zero_add]; exact HNA.out, HSA, rfl, Below.refl _ _⟩
          case round =>
            obtain ⟨j2, y, ra, hj2, hy9, rfl, rfl, HJ2, HE2, HX2, HB2⟩ := hrel
            have HRD2 : Hid (SRd wr b (o + j * 6) kd s c ad1 na cap1 bd d.len bcap ed e.len ecap) := HNA.out ▸ HRD.out.below HB2.out
            clear z0 z3 z4 z5
            obtain ⟨z0, _, _, _, z3, z4, z5⟩ := HRD2.out
            by_cases hlt2 : j2 < na
            · have e1 := g3 (by omega)
              subst e1
              cases ra with
              | nil => have := HJ2.out; simp only [EL.len] at this; omega
              | cons kd' nm s' p' a' ra =>
                obtain ⟨ad2, cap2, hrd2, hsl2, _, hrest2⟩ := HE2.out.read HB2.out
                rw [Nat.mul_comm 5 j2] at hrd2
                obtain ⟨q0, q1, q2, q3, q4, q5⟩ := hrd2
                have HSl : Hid (ESl wr (.slice ad2 a'.len cap2) a') := hsl2
                have HRest2 : Hid _ := hrest2
                have hy2 : y + (a'.cnt + 1) ≤ C ∧ a'.cnt ≤ 1000000000 := by
                  have h5 := HX2.out
                  simp only [EL.cnt] at h5
                  exact ⟨by omega, by omega⟩
                have HC : Hid (CountC a') := count_any _ a' (Nat.le_refl _) hy2.2
                have hyy := hy2.1
                have HX3 : Hid (y + (a'.cnt + 1) + ra.cnt = x + a.cnt) := by have := HX2.out; simp only [EL.cnt] at this; show _ = _; omega
                clear hsl2 hrest2 hy2
                go_wp2_with fail
                refine (HC.out kd' nm s' p' ad2 cap2 wr HSl.out).mono ?_
                rintro e w2 ⟨rfl, hb2⟩
                have HB3 : Hid _ := HB2.out.trans (hb2.mono HB2.out.size)
                clear hb2
                go_wp2
                go_roundw
                case rel => exact ⟨j2 + 1, y + (a'.cnt + 1), ra, by omega, hyy, by go_num, by go_num, by have := HJ2.out; simp only [EL.len] at this; show _ = _; omega, by have := HRest2.out; rw [show o1 + 5 * (j2 + 1) = o1 + 5 * j2 + 5 by omega]; exact this, HX3, HB3⟩
                case measure => simp [intOf]; omega
            · have hr : ra = .nil := by cases ra with
                | nil => rfl
                | cons kd s p nm a r => have := HJ2.out; simp only [EL.len] at this; omega
              subst hr
              have HYY : Hid (y = x + a.cnt) := HX2.out
              have hyx : y + d.cnt + e.cnt ≤ C := by have := HYY.out; omega
              have HSD2 : Hid (∀ w', Below wr.heap.size wr w' → SSl w' (.slice bd d.len bcap) d) := fun w' hb => (HSD.out.below HB2.out).below hb
              have HSE2 : Hid (∀ w', Below wr.heap.size wr w' → SSl w' (.slice ed e.len ecap) e) := fun w' hb => (HSE.out.below HB2.out).below hb
              have HB0 : Hid (Below wr.heap.size wr wr.drew) := (Below.refl _ _).drew
              have HSC : Hid (∀ w', Below wr.heap.size wr w' → w'.cell? ⟨b, o + j * 6 + 4, none⟩ = some (.slice bd d.len bcap) ∧ w'.cell? ⟨b, o + j * 6 + 5, none⟩ = some (.slice ed e.len ecap)) := fun w' hb => ⟨(HRD2.out.below hb).x4, (HRD2.out.below hb).x5⟩
              go_wp2
              go_region_held3 (fun w' => w'.cell? ⟨b, o + j * 6 + 4, none⟩ = some (.slice bd d.len bcap) ∧ w'.cell? ⟨b, o + j * 6 + 5, none⟩ = some (.slice ed e.len ecap)) (go_keep) (first | (go_at_call 14; have hq4 := HB4; refine (HCe.out _ w4 (HSE2.out w4 HB4.out)).mono ?_; rintro e w5 ⟨rfl, hb5⟩; have HB5 : Hid (Below wr.heap.size wr w5) := HB4.out.trans (hb5.mono HB4.out.size); obtain ⟨p7, p8⟩ := HSC.out w5 HB5.out; clear hb5) | (go_at_call 14; refine (HCd.out _ wr.drew (HSD2.out wr.drew HB0.out)).mono ?_; rintro e w4 ⟨rfl, hb4⟩; have HB4 : Hid (Below wr.heap.size wr w4) := HB0.out.trans hb4; obtain ⟨p5, p6⟩ := HSC.out w4 HB4.out; clear hb4))
              have ew1 : IntKind.i64.wrap ((d.cnt : Int) + (e.cnt : Int)) = ((d.cnt + e.cnt : Nat) : Int) := by rw [IntKind.wrap_i64]; omega
              have ew2 : IntKind.i64.wrap ((y : Int) + ((d.cnt + e.cnt : Nat) : Int)) = ((y + d.cnt + e.cnt : Nat) : Int) := by rw [IntKind.wrap_i64]; omega
              rw [ew1, ew2]
              clear ew1 ew2
              go_wp2
              go_roundw
              case rel =>
                refine ⟨j + 1, y + d.cnt + e.cnt, r, by omega, hyx, by go_num, by go_num, by have := HJ.out; simp only [SL.len] at this; show _ = _; omega, HRest, ?_, HCS.out.2.2.1, HB.out.trans ((HB2.out.trans (HB5.out.mono HB2.out.size)).mono HB.out.size)⟩
                have := HCS.out.1
                have := HYY.out
                show _ = _
                omega
              case measure => simp [intOf]; omega
      · have hr : r = .nil := by cases r with
          | nil => rfl
          | cons kd s c a d e r => have := HJ.out; simp only [SL.len] at this; omega
        subst hr
        have HXX : Hid (x = C) := HX.out
        go_wp2
        go_ret
        exact ⟨ret_i (by have := HXX.out; omega), HB.out⟩

theorem great_any (l : SL) (va : Value) (w : World) (hE : SSl w va l) (h9 : l.cnt ≤ 1000000000) :
    Calls Try.prog 7 #[va] w fun e w' => e = .returned (.bool (decide (5000 < (l.cnt : Int)))) ∧ Below w.heap.size w w' := by
  have HN : Hid (NodesC l) := nodes_any _ l (Nat.le_refl _) h9
  have HE : Hid (SSl w va l) := hE
  obtain ⟨ad, cap, b, o, rfl, _⟩ := hE
  go_enter Try.func7, Try.ntmps7
  go_wp2_with fail
  refine (HN.out _ w HE.out).mono ?_
  rintro e w2 ⟨rfl, hb2⟩
  have HB2 : Hid _ := hb2
  clear hb2
  go_wp2
  all_goals
    go_ret
    exact ⟨by simp [*], HB2.out⟩
end Go.Proofs.Ytiafdlebggegfab
