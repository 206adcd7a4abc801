/- What the document takes up of an instruction. -/
import Derived.Test.YthcidcfaodjbjaaRdA
namespace Go.Proofs.Ythcidcfaodjbjaa
open Go.RowKit
set_option linter.unusedVariables false
set_option linter.unusedSimpArgs false

theorem Two.alloc {w : World} {b : Nat} {x y : Value} (h : Two w b x y) (o : Obj) : Two (w.alloc o) b x y := h.keep (Below.heap_alloc _ _ _ h.lt)
/-- the blocks of 'one' -/
structure QI (w wr : World) (a : Option Addr) (n c : Nat) (f : Int) (y : In) : Prop where
  r : Two wr w.heap.size (.slice a n c) (.int .i64 f)
  x : Six wr (w.heap.size + 1) y
  zr : ∃ u v, Two wr (w.heap.size + 1 + 1) u v
  zx : ∃ z, Six wr (w.heap.size + 1 + 1 + 1) z
  hb : Below w.heap.size w wr
theorem QI.below {w wr w' : World} {a : Option Addr} {n c : Nat} {f : Int} {y : In} (h : QI w wr a n c f y) (hb : Below wr.heap.size wr w') : QI w w' a n c f y := by
  obtain ⟨u, v, hz⟩ := h.zr
  obtain ⟨z, hx⟩ := h.zx
  exact ⟨h.r.keep (hb.block _ h.r.lt), h.x.block (hb.block _ h.x.lt) hb.size, ⟨u, v, hz.keep (hb.block _ hz.lt)⟩, ⟨z, hx.block (hb.block _ hx.lt) hb.size⟩, h.hb.trans (hb.mono h.hb.size)⟩
theorem QI.setR {w wr : World} {a : Option Addr} {n c : Nat} {f : Int} {y : In} (h : QI w wr a n c f y) (a' : Option Addr) (n' c' : Nat) (f' : Int) : QI w ((wr.setCell ⟨w.heap.size, 0, none⟩ (.slice a' n' c')).setCell ⟨w.heap.size, 1, none⟩ (.int .i64 f')) a' n' c' f' y := by
  obtain ⟨u, v, hz⟩ := h.zr
  obtain ⟨z, hx⟩ := h.zx
  have hh : ∀ k, k ≠ w.heap.size → ((wr.setCell ⟨w.heap.size, 0, none⟩ (.slice a' n' c')).setCell ⟨w.heap.size, 1, none⟩ (.int .i64 f')).heap[k]? = wr.heap[k]? := fun k hk => (Below.heap_setCell _ _ _ _ hk).trans (Below.heap_setCell _ _ _ _ hk)
  have hs : wr.heap.size ≤ ((wr.setCell ⟨w.heap.size, 0, none⟩ (.slice a' n' c')).setCell ⟨w.heap.size, 1, none⟩ (.int .i64 f')).heap.size := by simp [World.setCell]
  exact ⟨(h.r.set0 _).set1 _, h.x.block (hh _ (by omega)) hs, ⟨u, v, hz.keep (hh _ (by omega))⟩, ⟨z, hx.block (hh _ (by omega)) hs⟩, (h.hb.setCell (p := ⟨w.heap.size, 0, none⟩) (Nat.le_refl _) _).setCell (p := ⟨w.heap.size, 1, none⟩) (Nat.le_refl _) _⟩
theorem QI.setX {w wr : World} {a : Option Addr} {n c : Nat} {f : Int} {y : In} (h : QI w wr a n c f y) (i : Nat) (v : Int) (y' : In) (hy : Six (wr.setCell ⟨w.heap.size + 1, i, none⟩ (.int .i64 v)) (w.heap.size + 1) y') : QI w (wr.setCell ⟨w.heap.size + 1, i, none⟩ (.int .i64 v)) a n c f y' := by
  obtain ⟨u, v', hz⟩ := h.zr
  obtain ⟨z, hx⟩ := h.zx
  have hh : ∀ k, k ≠ w.heap.size + 1 → (wr.setCell ⟨w.heap.size + 1, i, none⟩ (.int .i64 v)).heap[k]? = wr.heap[k]? := fun k hk => Below.heap_setCell _ _ _ _ hk
  have hs : wr.heap.size ≤ (wr.setCell ⟨w.heap.size + 1, i, none⟩ (.int .i64 v)).heap.size := by simp [World.setCell]
  exact ⟨h.r.keep (hh _ (by omega)), hy, ⟨u, v', hz.keep (hh _ (by omega))⟩, ⟨z, hx.block (hh _ (by omega)) hs⟩, h.hb.setCell (p := ⟨w.heap.size + 1, i, none⟩) (Nat.le_succ _) _⟩
theorem QI.drew {w wr : World} {a : Option Addr} {n c : Nat} {f : Int} {y : In} (h : QI w wr a n c f y) : QI w wr.drew a n c f y := by
  obtain ⟨u, v, hz⟩ := h.zr
  obtain ⟨z, hx⟩ := h.zx
  exact ⟨h.r.keep rfl, h.x.drew, ⟨u, v, hz.keep rfl⟩, ⟨z, hx.drew⟩, h.hb.drew⟩

theorem Two.drew {w : World} {b : Nat} {x y : Value} (h : Two w b x y) : Two w.drew b x y := h.keep rfl
theorem ret_two_six {fn : Func} {t u : Tmp} (h : fn.results = #[.cell t 78, .cell u 25]) (tmps : Array Value) (b d : Nat) (hb : tmps[t]?.getD undef = .pointer (some ⟨b, 0, none⟩)) (hd : tmps[u]?.getD undef = .pointer (some ⟨d, 0, none⟩)) (W : World) {c0 c1 : Value} {x : In} (h0 : Two W b c0 c1) (h1 : Six W d x) :
    (results fn tmps).run Try.prog W = .ok (.tuple #[.agg #[c0, c1], iv x]) W := by
  obtain ⟨e0, e1, _, _⟩ := h0
  obtain ⟨d0, d1, d2, d3, d4, d5, _⟩ := h1
  simp [results, h, hb, hd, go_sem, e0, e1, d0, d1, d2, d3, d4, d5, iv]

set_option maxRecDepth 100000 in
set_option maxHeartbeats 4000000 in
theorem refParts1_any (W : WG) (a : Option Addr) (n c : Nat) (L : List UInt8) (f : Int) (x : In) (w : World) (hW : TG W w) (h : DRd W a n c L f) (s : ByteArray) (hs1 : okR s) (hs2 : s.size ≤ 4) (hs4 : ∀ w, Calls Try.prog 30 #[.int .i64 x.kind] w fun e w' => e = .returned (.string s) ∧ Below w.heap.size w w') :
    Calls Try.prog 49 #[.agg #[.slice a n c, .int .i64 f], iv x] w fun e w' => ∃ a' n' c', e = .returned (.tuple #[.agg #[.slice a' n' c', .int .i64 (foldR (x, L, f) s.data.toList).2.2], iv (foldR (x, L, f) s.data.toList).1]) ∧ DRd W a' n' c' (foldR (x, L, f) s.data.toList).2.1 (foldR (x, L, f) s.data.toList).2.2 ∧ Below w.heap.size w w' := by
  have HW : Hid (TG W w) := hW
  have HD : Hid (DRd W a n c L f) := h
  have HS1 : Hid (okR s) := hs1
  have HS4 : Hid (∀ w, Calls Try.prog 30 #[.int .i64 x.kind] w fun e w' => e = .returned (.string s) ∧ Below w.heap.size w w') := hs4
  have HI : Hid (iv x = .agg #[.int .i64 x.kind, .int .i64 x.op, .int .i64 x.a, .int .i64 x.b, .int .i64 x.c, .int .i64 x.k]) := rfl
  rw [HI.out]
  clear hW h hs1 hs4 HI
  obtain ⟨⟨YY, MM, FF⟩, hFS⟩ : ∃ t, foldR (x, L, f) s.data.toList = t := ⟨_, rfl⟩
  rw [hFS]
  have HFS : Hid (foldR (x, L, f) s.data.toList = (YY, MM, FF)) := hFS
  clear hFS
  go_enter Try.func49, Try.ntmps49
  have Q0 : Hid (QI w ((((w.alloc (.cells #[.slice a n c, .int .i64 f] 78)).alloc (.cells #[.int .i64 x.kind, .int .i64 x.op, .int .i64 x.a, .int .i64 x.b, .int .i64 x.c, .int .i64 x.k] 25)).alloc (.cells #[.slice none 0 0, .int .i64 0] 78)).alloc (.cells #[.int .i64 0, .int .i64 0, .int .i64 0, .int .i64 0, .int .i64 0, .int .i64 0] 25)) a n c f x) := by
    refine ⟨(((Two.new w w.heap.size rfl (.slice a n c) (.int .i64 f) 78).alloc _).alloc _).alloc _, ?_, ⟨.slice none 0 0, .int .i64 0, ?_⟩, ⟨⟨0, 0, 0, 0, 0, 0⟩, ?_⟩, ((((Below.refl _ _).alloc (Nat.le_refl _) _).alloc (by simp) _).alloc (by simp; omega) _).alloc (by simp; omega) _⟩
    · have h1 := Six.new (w.alloc (.cells #[.slice a n c, .int .i64 f] 78)) x
      rw [show (w.alloc (.cells #[.slice a n c, .int .i64 f] 78)).heap.size = w.heap.size + 1 by simp] at h1
      exact (h1.alloc _).alloc _
    · exact (Two.new _ _ (by simp) _ _ _).alloc _
    · have h1 := Six.new (((w.alloc (.cells #[.slice a n c, .int .i64 f] 78)).alloc (.cells #[.int .i64 x.kind, .int .i64 x.op, .int .i64 x.a, .int .i64 x.b, .int .i64 x.c, .int .i64 x.k] 25)).alloc (.cells #[.slice none 0 0, .int .i64 0] 78)) ⟨0, 0, 0, 0, 0, 0⟩
      rw [show (((w.alloc (.cells #[.slice a n c, .int .i64 f] 78)).alloc (.cells #[.int .i64 x.kind, .int .i64 x.op, .int .i64 x.a, .int .i64 x.b, .int .i64 x.c, .int .i64 x.k] 25)).alloc (.cells #[.slice none 0 0, .int .i64 0] 78)).heap.size = w.heap.size + 1 + 1 + 1 by simp] at h1
      exact h1
  go_wp2_with fail
  refine (HS4.out _).mono ?_
  rintro e w1 ⟨rfl, b1⟩
  have Q1 : Hid (QI w w1 a n c f x) := Q0.out.below b1
  clear b1 Q0
  go_wp2
  go_loopw [8] (fun i wr => ∃ (j : Nat) (a' : Option Addr) (n' c' : Nat), j ≤ s.size ∧ i = .int .i64 j ∧ Hid (QI w wr a' n' c' (foldR (x, L, f) (s.data.toList.take j)).2.2 (foldR (x, L, f) (s.data.toList.take j)).1) ∧ Hid (DRd W a' n' c' (foldR (x, L, f) (s.data.toList.take j)).2.1 (foldR (x, L, f) (s.data.toList.take j)).2.2)) (fun i _ => s.size - (intOf i).toNat)
  case atStart =>
    exact ⟨0, a, n, c, Nat.zero_le _, rfl, by rw [List.take_zero]; exact Q1, by rw [List.take_zero]; exact HD⟩
  case round =>
    obtain ⟨j, a', n', c', hj, rfl, HQ, HDj⟩ := hrel
    by_cases hlt : j < s.size
    · have hL := HS1.out j hlt
      have HN : Hid (foldR (x, L, f) (s.data.toList.take (j + 1)) = stepR (foldR (x, L, f) (s.data.toList.take j)) s[j]) := foldR_next _ s j hlt
      obtain ⟨st, hst⟩ : ∃ st, foldR (x, L, f) (s.data.toList.take j) = st := ⟨_, rfl⟩
      rw [hst] at HQ HDj HN
      obtain ⟨y, M, g⟩ := st
      simp only at HQ HDj
      have HTG : Hid (TG W wr) := HW.out.next HQ.out.hb
      have HC : Hid (∀ V, Below wr.heap.size wr V → Calls Try.prog 48 #[.agg #[.slice a' n' c', .int .i64 g]] V fun e w' => ∃ a2 n2 c2, e = .returned (.tuple #[.agg #[.slice a2 n2 c2, .int .i64 (rU M g).2.2], .int .i64 (smR (rU M g).1)]) ∧ DRd W a2 n2 c2 (rU M g).2.1 (rU M g).2.2 ∧ Below V.heap.size V w') := fun V hV => refTake_any W a' n' c' M g V (HTG.out.next hV) HDj.out
      have HI : Hid (∀ V, Below wr.heap.size wr V → Calls Try.prog 66 #[.agg #[.slice a' n' c', .int .i64 g]] V fun e w' => ∃ a2 n2 c2, e = .returned (.tuple #[.agg #[.slice a2 n2 c2, .int .i64 (rI M g).2.2], .int .i64 (rI M g).1]) ∧ DRd W a2 n2 c2 (rI M g).2.1 (rI M g).2.2 ∧ Below V.heap.size V w') := fun V hV => dI W a' n' c' M g V (HTG.out.next hV) HDj.out
      obtain ⟨v0, v1, v2, v3⟩ := HQ.out.r
      obtain ⟨_, x1, x2, x3, x4, x5, _, g1, g2, g3, g4, g5, _⟩ := HQ.out.x
      clear hst
      rcases hL with ec | ec | ec | ec | ec | ec | ec | ec
      · have hn : ((s[j]).toNat : Int) = 111 := by rw [ec]; rfl
        rw [ec, show stepR (y, M, g) 111 = (⟨y.kind, smR (rU M g).1, y.a, y.b, y.c, y.k⟩, (rU M g).2) from rfl] at HN
        go_wp2_with fail
        refine (HC.out _ (Below.refl _ _)).mono ?_
        rintro e w3 ⟨a2, n2, c2, rfl, hd, b3⟩
        have Q3 := HQ.out.below b3
        have Q4 := Q3.setR a2 n2 c2 (rU M g).2.2
        have Q5 : Hid (QI w (((w3.setCell ⟨w.heap.size, 0, none⟩ (.slice a2 n2 c2)).setCell ⟨w.heap.size, 1, none⟩ (.int .i64 (rU M g).2.2)).setCell ⟨w.heap.size + 1, 1, none⟩ (.int .i64 (smR (rU M g).1))) a2 n2 c2 (rU M g).2.2 ⟨y.kind, smR (rU M g).1, y.a, y.b, y.c, y.k⟩) := Q4.setX 1 (smR (rU M g).1) ⟨y.kind, smR (rU M g).1, y.a, y.b, y.c, y.k⟩ (Q4.x.set 1 (smR (rU M g).1) (by simp) (by simp) (by simp) (by simp) (by simp) (by simp))
        have D5 : Hid (DRd W a2 n2 c2 (rU M g).2.1 (rU M g).2.2) := hd
        clear v0 v1 v2 v3 x1 x2 x3 x4 x5 g1 g2 g3 g4 g5
        obtain ⟨v0, v1, v2, v3⟩ := Q3.r
        obtain ⟨_, x1, x2, x3, x4, x5, _, g1, g2, g3, g4, g5, _⟩ := Q4.x
        clear Q3 Q4 hd b3
        go_wp2
        go_roundw
        case rel => exact ⟨j + 1, a2, n2, c2, hlt, by go_num, by rw [HN.out]; exact Q5, by rw [HN.out]; exact D5⟩
        case measure => simp [intOf]; omega
      · have hn : ((s[j]).toNat : Int) = 112 := by rw [ec]; rfl
        rw [ec, show stepR (y, M, g) 112 = (⟨y.kind, smR (rU M g).1, y.a, y.b, y.c, y.k⟩, (rU M g).2) from rfl] at HN
        go_wp2_with fail
        refine (HC.out _ (Below.refl _ _)).mono ?_
        rintro e w3 ⟨a2, n2, c2, rfl, hd, b3⟩
        have Q3 := HQ.out.below b3
        have Q4 := Q3.setR a2 n2 c2 (rU M g).2.2
        have Q5 : Hid (QI w (((w3.setCell ⟨w.heap.size, 0, none⟩ (.slice a2 n2 c2)).setCell ⟨w.heap.size, 1, none⟩ (.int .i64 (rU M g).2.2)).setCell ⟨w.heap.size + 1, 1, none⟩ (.int .i64 (smR (rU M g).1))) a2 n2 c2 (rU M g).2.2 ⟨y.kind, smR (rU M g).1, y.a, y.b, y.c, y.k⟩) := Q4.setX 1 (smR (rU M g).1) ⟨y.kind, smR (rU M g).1, y.a, y.b, y.c, y.k⟩ (Q4.x.set 1 (smR (rU M g).1) (by simp) (by simp) (by simp) (by simp) (by simp) (by simp))
        have D5 : Hid (DRd W a2 n2 c2 (rU M g).2.1 (rU M g).2.2) := hd
        clear v0 v1 v2 v3 x1 x2 x3 x4 x5 g1 g2 g3 g4 g5
        obtain ⟨v0, v1, v2, v3⟩ := Q3.r
        obtain ⟨_, x1, x2, x3, x4, x5, _, g1, g2, g3, g4, g5, _⟩ := Q4.x
        clear Q3 Q4 hd b3
        go_wp2
        go_roundw
        case rel => exact ⟨j + 1, a2, n2, c2, hlt, by go_num, by rw [HN.out]; exact Q5, by rw [HN.out]; exact D5⟩
        case measure => simp [intOf]; omega
      · have hn : ((s[j]).toNat : Int) = 97 := by rw [ec]; rfl
        rw [ec, show stepR (y, M, g) 97 = (⟨y.kind, y.op, smR (rU M g).1, y.b, y.c, y.k⟩, (rU M g).2) from rfl] at HN
        go_wp2_with fail
        refine (HC.out _ (Below.refl _ _)).mono ?_
        rintro e w3 ⟨a2, n2, c2, rfl, hd, b3⟩
        have Q3 := HQ.out.below b3
        have Q4 := Q3.setR a2 n2 c2 (rU M g).2.2
        have Q5 : Hid (QI w (((w3.setCell ⟨w.heap.size, 0, none⟩ (.slice a2 n2 c2)).setCell ⟨w.heap.size, 1, none⟩ (.int .i64 (rU M g).2.2)).setCell ⟨w.heap.size + 1, 2, none⟩ (.int .i64 (smR (rU M g).1))) a2 n2 c2 (rU M g).2.2 ⟨y.kind, y.op, smR (rU M g).1, y.b, y.c, y.k⟩) := Q4.setX 2 (smR (rU M g).1) ⟨y.kind, y.op, smR (rU M g).1, y.b, y.c, y.k⟩ (Q4.x.set 2 (smR (rU M g).1) (by simp) (by simp) (by simp) (by simp) (by simp) (by simp))
        have D5 : Hid (DRd W a2 n2 c2 (rU M g).2.1 (rU M g).2.2) := hd
        clear v0 v1 v2 v3 x1 x2 x3 x4 x5 g1 g2 g3 g4 g5
        obtain ⟨v0, v1, v2, v3⟩ := Q3.r
        obtain ⟨_, x1, x2, x3, x4, x5, _, g1, g2, g3, g4, g5, _⟩ := Q4.x
        clear Q3 Q4 hd b3
        go_wp2
        go_roundw
        case rel => exact ⟨j + 1, a2, n2, c2, hlt, by go_num, by rw [HN.out]; exact Q5, by rw [HN.out]; exact D5⟩
        case measure => simp [intOf]; omega
      · have hn : ((s[j]).toNat : Int) = 98 := by rw [ec]; rfl
        rw [ec, show stepR (y, M, g) 98 = (⟨y.kind, y.op, y.a, smR (rU M g).1, y.c, y.k⟩, (rU M g).2) from rfl] at HN
        go_wp2_with fail
        refine (HC.out _ (Below.refl _ _)).mono ?_
        rintro e w3 ⟨a2, n2, c2, rfl, hd, b3⟩
        have Q3 := HQ.out.below b3
        have Q4 := Q3.setR a2 n2 c2 (rU M g).2.2
        have Q5 : Hid (QI w (((w3.setCell ⟨w.heap.size, 0, none⟩ (.slice a2 n2 c2)).setCell ⟨w.heap.size, 1, none⟩ (.int .i64 (rU M g).2.2)).setCell ⟨w.heap.size + 1, 3, none⟩ (.int .i64 (smR (rU M g).1))) a2 n2 c2 (rU M g).2.2 ⟨y.kind, y.op, y.a, smR (rU M g).1, y.c, y.k⟩) := Q4.setX 3 (smR (rU M g).1) ⟨y.kind, y.op, y.a, smR (rU M g).1, y.c, y.k⟩ (Q4.x.set 3 (smR (rU M g).1) (by simp) (by simp) (by simp) (by simp) (by simp) (by simp))
        have D5 : Hid (DRd W a2 n2 c2 (rU M g).2.1 (rU M g).2.2) := hd
        clear v0 v1 v2 v3 x1 x2 x3 x4 x5 g1 g2 g3 g4 g5
        obtain ⟨v0, v1, v2, v3⟩ := Q3.r
        obtain ⟨_, x1, x2, x3, x4, x5, _, g1, g2, g3, g4, g5, _⟩ := Q4.x
        clear Q3 Q4 hd b3
        go_wp2
        go_roundw
        case rel => exact ⟨j + 1, a2, n2, c2, hlt, by go_num, by rw [HN.out]; exact Q5, by rw [HN.out]; exact D5⟩
        case measure => simp [intOf]; omega
      · have hn : ((s[j]).toNat : Int) = 99 := by rw [ec]; rfl
        rw [ec, show stepR (y, M, g) 99 = (⟨y.kind, y.op, y.a, y.b, smR (rU M g).1, y.k⟩, (rU M g).2) from rfl] at HN
        go_wp2_with fail
        refine (HC.out _ (Below.refl _ _)).mono ?_
        rintro e w3 ⟨a2, n2, c2, rfl, hd, b3⟩
        have Q3 := HQ.out.below b3
        have Q4 := Q3.setR a2 n2 c2 (rU M g).2.2
        have Q5 : Hid (QI w (((w3.setCell ⟨w.heap.size, 0, none⟩ (.slice a2 n2 c2)).setCell ⟨w.heap.size, 1, none⟩ (.int .i64 (rU M g).2.2)).setCell ⟨w.heap.size + 1, 4, none⟩ (.int .i64 (smR (rU M g).1))) a2 n2 c2 (rU M g).2.2 ⟨y.kind, y.op, y.a, y.b, smR (rU M g).1, y.k⟩) := Q4.setX 4 (smR (rU M g).1) ⟨y.kind, y.op, y.a, y.b, smR (rU M g).1, y.k⟩ (Q4.x.set 4 (smR (rU M g).1) (by simp) (by simp) (by simp) (by simp) (by simp) (by simp))
        have D5 : Hid (DRd W a2 n2 c2 (rU M g).2.1 (rU M g).2.2) := hd
        clear v0 v1 v2 v3 x1 x2 x3 x4 x5 g1 g2 g3 g4 g5
        obtain ⟨v0, v1, v2, v3⟩ := Q3.r
        obtain ⟨_, x1, x2, x3, x4, x5, _, g1, g2, g3, g4, g5, _⟩ := Q4.x
        clear Q3 Q4 hd b3
        go_wp2
        go_roundw
        case rel => exact ⟨j + 1, a2, n2, c2, hlt, by go_num, by rw [HN.out]; exact Q5, by rw [HN.out]; exact D5⟩
        case measure => simp [intOf]; omega
      · have hn : ((s[j]).toNat : Int) = 114 := by rw [ec]; rfl
        rw [ec, show stepR (y, M, g) 114 = (⟨y.kind, y.op, y.a, y.b, smR (rU M g).1, y.k⟩, (rU M g).2) from rfl] at HN
        go_wp2_with fail
        refine (HC.out _ (Below.refl _ _)).mono ?_
        rintro e w3 ⟨a2, n2, c2, rfl, hd, b3⟩
        have Q3 := HQ.out.below b3
        have Q4 := Q3.setR a2 n2 c2 (rU M g).2.2
        have Q5 : Hid (QI w (((w3.setCell ⟨w.heap.size, 0, none⟩ (.slice a2 n2 c2)).setCell ⟨w.heap.size, 1, none⟩ (.int .i64 (rU M g).2.2)).setCell ⟨w.heap.size + 1, 4, none⟩ (.int .i64 (smR (rU M g).1))) a2 n2 c2 (rU M g).2.2 ⟨y.kind, y.op, y.a, y.b, smR (rU M g).1, y.k⟩) := Q4.setX 4 (smR (rU M g).1) ⟨y.kind, y.op, y.a, y.b, smR (rU M g).1, y.k⟩ (Q4.x.set 4 (smR (rU M g).1) (by simp) (by simp) (by simp) (by simp) (by simp) (by simp))
        have D5 : Hid (DRd W a2 n2 c2 (rU M g).2.1 (rU M g).2.2) := hd
        clear v0 v1 v2 v3 x1 x2 x3 x4 x5 g1 g2 g3 g4 g5
        obtain ⟨v0, v1, v2, v3⟩ := Q3.r
        obtain ⟨_, x1, x2, x3, x4, x5, _, g1, g2, g3, g4, g5, _⟩ := Q4.x
        clear Q3 Q4 hd b3
        go_wp2
        go_roundw
        case rel => exact ⟨j + 1, a2, n2, c2, hlt, by go_num, by rw [HN.out]; exact Q5, by rw [HN.out]; exact D5⟩
        case measure => simp [intOf]; omega
      · have hn : ((s[j]).toNat : Int) = 107 := by rw [ec]; rfl
        rw [ec, show stepR (y, M, g) 107 = (⟨y.kind, y.op, y.a, y.b, y.c, (rI M g).1⟩, (rI M g).2) from rfl] at HN
        go_wp2_with fail
        refine (HI.out _ (Below.refl _ _)).mono ?_
        rintro e w3 ⟨a2, n2, c2, rfl, hd, b3⟩
        have Q3 := HQ.out.below b3
        have Q4 := Q3.setR a2 n2 c2 (rI M g).2.2
        have Q5 : Hid (QI w (((w3.setCell ⟨w.heap.size, 0, none⟩ (.slice a2 n2 c2)).setCell ⟨w.heap.size, 1, none⟩ (.int .i64 (rI M g).2.2)).setCell ⟨w.heap.size + 1, 5, none⟩ (.int .i64 ((rI M g).1))) a2 n2 c2 (rI M g).2.2 ⟨y.kind, y.op, y.a, y.b, y.c, (rI M g).1⟩) := Q4.setX 5 ((rI M g).1) ⟨y.kind, y.op, y.a, y.b, y.c, (rI M g).1⟩ (Q4.x.set 5 ((rI M g).1) (by simp) (by simp) (by simp) (by simp) (by simp) (by simp))
        have D5 : Hid (DRd W a2 n2 c2 (rI M g).2.1 (rI M g).2.2) := hd
        clear v0 v1 v2 v3 x1 x2 x3 x4 x5 g1 g2 g3 g4 g5
        obtain ⟨v0, v1, v2, v3⟩ := Q3.r
        obtain ⟨_, x1, x2, x3, x4, x5, _, g1, g2, g3, g4, g5, _⟩ := Q4.x
        clear Q3 Q4 hd b3
        go_wp2
        go_roundw
        case rel => exact ⟨j + 1, a2, n2, c2, hlt, by go_num, by rw [HN.out]; exact Q5, by rw [HN.out]; exact D5⟩
        case measure => simp [intOf]; omega
      · have hn : ((s[j]).toNat : Int) = 116 := by rw [ec]; rfl
        rw [ec, show stepR (y, M, g) 116 = (⟨y.kind, y.op, y.a, y.b, y.c, (rI M g).1⟩, (rI M g).2) from rfl] at HN
        go_wp2_with fail
        refine (HI.out _ (Below.refl _ _)).mono ?_
        rintro e w3 ⟨a2, n2, c2, rfl, hd, b3⟩
        have Q3 := HQ.out.below b3
        have Q4 := Q3.setR a2 n2 c2 (rI M g).2.2
        have Q5 : Hid (QI w (((w3.setCell ⟨w.heap.size, 0, none⟩ (.slice a2 n2 c2)).setCell ⟨w.heap.size, 1, none⟩ (.int .i64 (rI M g).2.2)).setCell ⟨w.heap.size + 1, 5, none⟩ (.int .i64 ((rI M g).1))) a2 n2 c2 (rI M g).2.2 ⟨y.kind, y.op, y.a, y.b, y.c, (rI M g).1⟩) := Q4.setX 5 ((rI M g).1) ⟨y.kind, y.op, y.a, y.b, y.c, (rI M g).1⟩ (Q4.x.set 5 ((rI M g).1) (by simp) (by simp) (by simp) (by simp) (by simp) (by simp))
        have D5 : Hid (DRd W a2 n2 c2 (rI M g).2.1 (rI M g).2.2) := hd
        clear v0 v1 v2 v3 x1 x2 x3 x4 x5 g1 g2 g3 g4 g5
        obtain ⟨v0, v1, v2, v3⟩ := Q3.r
        obtain ⟨_, x1, x2, x3, x4, x5, _, g1, g2, g3, g4, g5, _⟩ := Q4.x
        clear Q3 Q4 hd b3
        go_wp2
        go_roundw
        case rel => exact ⟨j + 1, a2, n2, c2, hlt, by go_num, by rw [HN.out]; exact Q5, by rw [HN.out]; exact D5⟩
        case measure => simp [intOf]; omega
    · rw [List.take_of_length_le (by simp; omega), HFS.out] at HQ HDj
      simp only at HQ HDj
      have HQd := HQ.out.drew
      obtain ⟨v0, v1, v2, v3⟩ := HQd.r
      obtain ⟨x0, x1, x2, x3, x4, x5, _⟩ := HQd.x
      obtain ⟨u, u', hz⟩ := HQd.zr
      obtain ⟨z, hx⟩ := HQd.zx
      have HBd : Hid (Below w.heap.size w wr.drew) := HQd.hb
      obtain ⟨z0, z1, z2, z3⟩ := id hz
      obtain ⟨k0, k1, k2, k3, k4, k5, l0, l1, l2, l3, l4, l5, _⟩ := id hx
      have HZ : Hid (Two wr.drew (w.heap.size + 1 + 1) u u') := hz
      have HX : Hid (Six wr.drew (w.heap.size + 1 + 1 + 1) z) := hx
      clear hz hx HQd
      have w0 : wr.cell? ⟨w.heap.size, 0, none⟩ = _ := v0
      have w1 : wr.cell? ⟨w.heap.size, 1, none⟩ = _ := v1
      have y0 : wr.cell? ⟨w.heap.size + 1, 0, none⟩ = _ := x0
      have y1 : wr.cell? ⟨w.heap.size + 1, 1, none⟩ = _ := x1
      have y2 : wr.cell? ⟨w.heap.size + 1, 2, none⟩ = _ := x2
      have y3 : wr.cell? ⟨w.heap.size + 1, 3, none⟩ = _ := x3
      have y4 : wr.cell? ⟨w.heap.size + 1, 4, none⟩ = _ := x4
      have y5 : wr.cell? ⟨w.heap.size + 1, 5, none⟩ = _ := x5
      have q0 : wr.cell? ⟨w.heap.size + 1 + 1, 0, none⟩ = _ := z0
      have q1 : wr.cell? ⟨w.heap.size + 1 + 1, 1, none⟩ = _ := z1
      have q2 : wr.frozen? ⟨w.heap.size + 1 + 1, 0, none⟩ = false := z2
      have q3 : wr.frozen? ⟨w.heap.size + 1 + 1, 1, none⟩ = false := z3
      have m0 : wr.cell? ⟨w.heap.size + 1 + 1 + 1, 0, none⟩ = _ := k0
      have m1 : wr.cell? ⟨w.heap.size + 1 + 1 + 1, 1, none⟩ = _ := k1
      have m2 : wr.cell? ⟨w.heap.size + 1 + 1 + 1, 2, none⟩ = _ := k2
      have m3 : wr.cell? ⟨w.heap.size + 1 + 1 + 1, 3, none⟩ = _ := k3
      have m4 : wr.cell? ⟨w.heap.size + 1 + 1 + 1, 4, none⟩ = _ := k4
      have m5 : wr.cell? ⟨w.heap.size + 1 + 1 + 1, 5, none⟩ = _ := k5
      have r0 : wr.frozen? ⟨w.heap.size + 1 + 1 + 1, 0, none⟩ = false := l0
      have r1 : wr.frozen? ⟨w.heap.size + 1 + 1 + 1, 1, none⟩ = false := l1
      have r2 : wr.frozen? ⟨w.heap.size + 1 + 1 + 1, 2, none⟩ = false := l2
      have r3 : wr.frozen? ⟨w.heap.size + 1 + 1 + 1, 3, none⟩ = false := l3
      have r4 : wr.frozen? ⟨w.heap.size + 1 + 1 + 1, 4, none⟩ = false := l4
      have r5 : wr.frozen? ⟨w.heap.size + 1 + 1 + 1, 5, none⟩ = false := l5
      go_wp2_with fail
      go_region
      have Z9 : Hid (Two ((wr.setCell ⟨w.heap.size + 1 + 1, 0, none⟩ (.slice a' n' c')).setCell ⟨w.heap.size + 1 + 1, 1, none⟩ (.int .i64 FF)) (w.heap.size + 1 + 1) (.slice a' n' c') (.int .i64 FF)) := by
        have hz : Two wr (w.heap.size + 1 + 1) u u' := ⟨q0, q1, q2, q3⟩
        exact (hz.set0 _).set1 _
      have X9 : Hid (Six ((wr.setCell ⟨w.heap.size + 1 + 1, 0, none⟩ (.slice a' n' c')).setCell ⟨w.heap.size + 1 + 1, 1, none⟩ (.int .i64 FF)) (w.heap.size + 1 + 1 + 1) z) := by
        have hx : Six wr (w.heap.size + 1 + 1 + 1) z := ⟨m0, m1, m2, m3, m4, m5, r0, r1, r2, r3, r4, r5, HX.out.lt⟩
        exact hx.block ((Below.heap_setCell _ _ _ _ (by show w.heap.size + 1 + 1 + 1 ≠ w.heap.size + 1 + 1; omega)).trans (Below.heap_setCell _ _ _ _ (by show w.heap.size + 1 + 1 + 1 ≠ w.heap.size + 1 + 1; omega))) (by simp [World.setCell])
      have B9 : Hid (Below w.heap.size w ((wr.setCell ⟨w.heap.size + 1 + 1, 0, none⟩ (.slice a' n' c')).setCell ⟨w.heap.size + 1 + 1, 1, none⟩ (.int .i64 FF))) := (HQ.out.hb.setCell (p := ⟨w.heap.size + 1 + 1, 0, none⟩) (by show w.heap.size ≤ w.heap.size + 1 + 1; omega) _).setCell (p := ⟨w.heap.size + 1 + 1, 1, none⟩) (by show w.heap.size ≤ w.heap.size + 1 + 1; omega) _
      have T9 : Hid (Two (put6 ((wr.setCell ⟨w.heap.size + 1 + 1, 0, none⟩ (.slice a' n' c')).setCell ⟨w.heap.size + 1 + 1, 1, none⟩ (.int .i64 FF)) (w.heap.size + 1 + 1 + 1) YY) (w.heap.size + 1 + 1) (.slice a' n' c') (.int .i64 FF)) := Z9.out.keep (put6_other _ _ _ _ (by omega))
      go_wp2
      refine bodyPost_ret (ret_two_six Try.results49 _ (w.heap.size + 1 + 1) (w.heap.size + 1 + 1 + 1) rfl rfl _ T9.out.drew (put6_six X9.out YY).drew) rfl ?_
      exact ⟨a', n', c', rfl, HDj.out, (put6_below B9.out (by omega) YY).drew⟩
end Go.Proofs.Ythcidcfaodjbjaa
