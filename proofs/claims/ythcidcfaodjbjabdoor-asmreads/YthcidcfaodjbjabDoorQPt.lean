/- What the document's parts answers: pieces become an instruction's parts. -/
import Derived.Test.YthcidcfaodjbjabDoorQSm
import Derived.Test.YthcidcfaodjbjabDoorLine
import Derived.Test.YthcidcfaodjbjabDoorRefLab
namespace Go.Proofs.YthcidcfaodjbjabDoor
open Go.RowKit
set_option linter.unusedVariables false

theorem ret_six3 {fn : Func} (k a b : Nat) (h : fn.results = #[.cell k 25, .tmp a, .tmp b]) (tmps : Array Value) (c : Nat) (hb : tmps[k]?.getD undef = .pointer (some ⟨c, 0, none⟩)) (v1 v2 : Value) (h1 : tmps[a]?.getD undef = v1) (h2 : tmps[b]?.getD undef = v2) (W : World) {x : In} (F : Six W c x) :
    (results fn tmps).run Tryd.prog W = .ok (.tuple #[iv x, v1, v2]) W := by
  obtain ⟨c0, c1, c2, c3, c4, c5, _⟩ := F
  simp [results, h, hb, h1, h2, go_sem, c0, c1, c2, c3, c4, c5, iv]
/-- an instruction and the label that it names -/
def yv (y : In × List UInt8) (b : Bool) : Value := .tuple #[iv y.1, .string ⟨y.2.toArray⟩, .bool b]
def RpP (w : World) (e : Ending) (w' : World) (o : Option (In × List UInt8)) : Prop :=
  (∃ y, e = .returned (yv y o.isSome) ∧ ∀ z, o = some z → y = z) ∧ Below w.heap.size w w'
/-- the registers may be -/
def Pos3 (x : In) : Prop := 0 ≤ x.a ∧ 0 ≤ x.b ∧ 0 ≤ x.c
/-- pieces: each has a byte -/
structure PAt (w : World) (A : Nat) (l : List ByteArray) : Prop where
  c : ∀ i (h : i < l.length), w.cell? ⟨A, i, none⟩ = some (.string l[i]) ∧ l[i].size ≤ 8192 ∧ 0 < l[i].size
theorem smallL_pos {s : List UInt8} {n : Int} (h : smallL s = some n) : 0 ≤ n := by
  unfold smallL at h
  split at h
  · rename_i g; cases h; exact g.2.1
  · cases h
theorem regL_pos {s : List UInt8} {n : Int} (h : regL s = some n) : 0 ≤ n := by
  cases s with
  | nil => cases h
  | cons b r =>
    change (if b = 114 then smallL r else none) = some n at h
    split at h
    · exact smallL_pos h
    · cases h
/-- at each round's head -/
inductive PI (w : World) (p : ByteArray) (l : List ByteArray) (out : Option (In × List UInt8)) (v i : Value) (wr : World) : Prop
  | mk (k : Nat) (y : In × List UInt8) (hk : k ≤ p.size) (hi : i = .int .i64 k) (hv : v = .string ⟨y.2.toArray⟩) (hy : Pos3 y.1) (hr : readAll y (p.data.toList.drop k) ((l.map (·.data.toList)).drop (k + 1)) = out) (hs : Six wr w.heap.size y.1) (hz : ∃ z, Six wr (w.heap.size + 1) z) (hb : Below w.heap.size w wr) : PI w p l out v i wr
theorem Six.drewN {w : World} {b : Nat} {x : In} (h : Six w b x) (k : Nat) : Six (w.drewN k) b x := ⟨h.c0, h.c1, h.c2, h.c3, h.c4, h.c5, h.f0, h.f1, h.f2, h.f3, h.f4, h.f5, h.lt⟩

set_option maxRecDepth 100000 in
set_option maxHeartbeats 4000000 in
theorem rparts_any (x : In) (hx : Pos3 x) (p : ByteArray) (hp3 : p.size ≤ 3) (hp : ∀ i (h : i < p.size), p[i] = 97 ∨ p[i] = 98 ∨ p[i] = 99 ∨ p[i] = 114 ∨ p[i] = 107 ∨ p[i] = 108) (A N C : Nat) (l : List ByteArray) (hl : l.length = N) (hN : N ≤ 8193) (w : World) (hw : PAt w A l) (hA : A < w.heap.size) :
    Calls Tryd.prog 46 #[iv x, .string p, .slice (some ⟨A, 0, none⟩) N C] w fun e w' => RpP w e w' (if N = p.size + 1 then readAll (x, []) p.data.toList ((l.map (·.data.toList)).drop 1) else none) := by
  have HI : Hid (iv x = .agg #[.int .i64 x.kind, .int .i64 x.op, .int .i64 x.a, .int .i64 x.b, .int .i64 x.c, .int .i64 x.k]) := rfl
  rw [HI.out]
  obtain ⟨out, hout⟩ : ∃ o, (if N = p.size + 1 then readAll (x, []) p.data.toList ((l.map (·.data.toList)).drop 1) else none) = o := ⟨_, rfl⟩
  rw [hout]
  have HX : Hid (Pos3 x) := hx
  have HL : Hid (l.length = N) := hl
  have HPT : Hid (∀ i (h : i < p.size), p[i] = 97 ∨ p[i] = 98 ∨ p[i] = 99 ∨ p[i] = 114 ∨ p[i] = 107 ∨ p[i] = 108) := hp
  obtain ⟨post, hpost⟩ : ∃ q : Ending → World → Prop, q = fun e w' => RpP w e w' out := ⟨_, rfl⟩
  have HPO : Hid (∀ y b w', Below w.heap.size w w' → (b = out.isSome ∧ ∀ z, out = some z → y = z) → post (.returned (yv y b)) w') := by
    rw [hpost]
    rintro y b w' hb ⟨rfl, h⟩
    exact ⟨⟨y, rfl, h⟩, hb⟩
  rw [← hpost]
  clear hpost hx hl hp
  obtain ⟨w0, hw0⟩ : ∃ w0, (w.alloc (.cells #[.int .i64 x.kind, .int .i64 x.op, .int .i64 x.a, .int .i64 x.b, .int .i64 x.c, .int .i64 x.k] 25)).alloc (.cells #[.int .i64 0, .int .i64 0, .int .i64 0, .int .i64 0, .int .i64 0, .int .i64 0] 25) = w0 := ⟨_, rfl⟩
  have HW0 : Hid ((w.alloc (.cells #[.int .i64 x.kind, .int .i64 x.op, .int .i64 x.a, .int .i64 x.b, .int .i64 x.c, .int .i64 x.k] 25)).alloc (.cells #[.int .i64 0, .int .i64 0, .int .i64 0, .int .i64 0, .int .i64 0, .int .i64 0] 25) = w0) := hw0
  have B0 : Hid (Below w.heap.size w w0) := by rw [← hw0]; exact below2 _ _ _
  have S0 : Hid (Six w0 w.heap.size x) := by rw [← hw0]; exact (Six.new w x).alloc _
  have S1 : Hid (Six w0 (w.heap.size + 1) ⟨0, 0, 0, 0, 0, 0⟩) := by rw [← hw0]; exact Six.new2 w _ ⟨0, 0, 0, 0, 0, 0⟩
  clear hw0
  by_cases hNp : N = p.size + 1
  · subst hNp
    rw [if_pos rfl] at hout
    have HOUT : Hid (readAll (x, []) p.data.toList ((l.map (·.data.toList)).drop 1) = out) := hout
    clear hout
    go_enter Tryd.func46, Tryd.ntmps46
    go_upto_region 1 with fail
    rw [HW0.out]
    clear HW0
    go_wp2
    go_loopw [9, 10] (fun v i wr => PI w p l out v i wr) (fun _ i _ => p.size - (intOf i).toNat)
    case atStart => exact PI.mk 0 (x, []) (Nat.zero_le _) rfl rfl HX.out HOUT.out S0.out ⟨_, S1.out⟩ B0.out
    case round =>
      clear S0 S1 B0 HOUT
      obtain ⟨k, y, hk, rfl, rfl, hY, hR, hS, hZ, hB⟩ := hrel
      have HY : Hid (Pos3 y.1) := hY
      have HR : Hid (readAll y (p.data.toList.drop k) ((l.map (·.data.toList)).drop (k + 1)) = out) := hR
      have HS : Hid (Six wr w.heap.size y.1) := hS
      have HZ : Hid (∃ z, Six wr (w.heap.size + 1) z) := hZ
      have HB : Hid (Below w.heap.size w wr) := hB
      clear hY hR hS hZ hB
      obtain ⟨z, hz⟩ := HZ.out
      have HZ2 : Hid (Six wr (w.heap.size + 1) z) := hz
      clear hz
      by_cases hlt : k < p.size
      · have hkl : k + 1 < l.length := by rw [HL.out]; omega
        obtain ⟨s, hs⟩ : ∃ s, l[k + 1] = s := ⟨_, rfl⟩
        obtain ⟨hc, hsz, hs0⟩ := hw.c (k + 1) hkl
        rw [hs] at hc hsz hs0
        have hcr : wr.cell? ⟨A, k + 1, none⟩ = some (.string s) := (HB.out.cell (p := ⟨A, k + 1, none⟩) hA).trans hc
        have HR2 : Hid ((readL y p[k] s.data.toList).bind (fun y => readAll y (p.data.toList.drop (k + 1)) ((l.map (·.data.toList)).drop (k + 1 + 1))) = out) := by
          have h1 := HR.out
          have h2 : k < p.data.toList.length := by simpa using hlt
          rw [List.drop_eq_getElem_cons h2, List.drop_eq_getElem_cons (show k + 1 < (l.map (·.data.toList)).length by simpa using hkl)] at h1
          rw [← h1]
          simp only [List.getElem_map, hs]
          rfl
        obtain ⟨c, hcc⟩ : ∃ c, p[k] = c := ⟨_, rfl⟩
        rw [hcc] at HR2
        have hpc : (p[k].toNat : Int) = (c.toNat : Int) := by rw [hcc]
        have hcase := HPT.out k hlt
        rw [hcc] at hcase
        obtain ⟨y1, y2⟩ := y
        obtain ⟨ya, yb, yc⟩ := HY.out
        obtain ⟨x0, x1, x2, x3, x4, x5, f0, f1, f2, f3, f4, f5, hlx⟩ := HS.out
        clear HR hcc hc hs
        rcases hcase with rfl | rfl | rfl | rfl | rfl | rfl
        · -- a
          obtain ⟨o, ho⟩ : ∃ o, regL s.data.toList = o := ⟨_, rfl⟩
          have HC : Hid (∀ w, Calls Tryd.prog 67 #[.string s] w fun e w' => e = .returned (.int .i64 (o.getD (-1))) ∧ ∃ n, w' = w.drewN n) := fun w => by rw [← ho]; exact rregister_any s hsz hs0 w
          have HR3 : Hid ((o.map fun n => ({ y1 with a := n }, y2)).bind (fun y => readAll y (p.data.toList.drop (k + 1)) ((l.map (·.data.toList)).drop (k + 1 + 1))) = out) := by rw [← ho]; exact HR2.out
          have ho0 : ∀ n, o = some n → 0 ≤ n := by intro n hn; rw [hn] at ho; exact regL_pos ho
          obtain ⟨v, hv⟩ : ∃ v, o.getD (-1) = v := ⟨_, rfl⟩
          rw [hv] at HC
          clear ho HR2
          go_upto_region 25 with (go_at_call 67; refine (HC.out _).mono ?_; rintro e w' ⟨rfl, q, rfl⟩)
          obtain ⟨W1, hW1⟩ : ∃ W, (wr.drewN q).setCell ⟨w.heap.size, 2, none⟩ (.int .i64 v) = W := ⟨_, rfl⟩
          have HX1 : Hid (Six W1 w.heap.size { y1 with a := v }) := by rw [← hW1]; exact (HS.out.drewN q).set 2 v (by simp) (by simp) (by simp) (by simp) (by simp) (by simp)
          have HZ1 : Hid (Six W1 (w.heap.size + 1) z) := by rw [← hW1]; exact (HZ2.out.drewN q).block (Below.heap_setCell _ _ _ _ (by show w.heap.size + 1 ≠ w.heap.size; omega)) (by simp [World.setCell])
          have HB1 : Hid (Below w.heap.size w W1) := by rw [← hW1]; exact (below_drewN HB.out q).setCell (Nat.le_refl _) _
          rw [hW1]
          clear hW1 x0 x1 x2 x3 x4 x5 f0 f1 f2 f3 f4 f5 hlx HS HZ2 HB HZ
          obtain ⟨x0, x1, x2, x3, x4, x5, f0, f1, f2, f3, f4, f5, hlx⟩ := HX1.out
          obtain ⟨z0, z1, z2, z3, z4, z5, k0, k1, k2, k3, k4, k5, _⟩ := HZ1.out
          rcases o with _ | n
          · have HO : Hid (out = none) := HR3.out.symm
            obtain rfl : (-1 : Int) = v := hv
            clear HR3 ho0
            go_wp2
            refine bodyPost_ret (ret_six3 6 7 8 Tryd.results46 _ (w.heap.size + 1) rfl _ _ rfl rfl _ (put6_six HZ1.out { y1 with a := -1 })) rfl ?_
            exact HPO.out ({ y1 with a := -1 }, y2) false _ (put6_below (b := w.heap.size + 1) HB1.out (Nat.le_succ _) { y1 with a := -1 }) (by rw [HO.out]; exact ⟨rfl, fun z h => by cases h⟩)
          · obtain rfl : n = v := hv
            have hn := ho0 n rfl
            clear ho0
            go_wp2
            go_roundw
            case rel => first | exact PI.mk (k + 1) ({ y1 with a := n }, y2) hlt (by go_num) (rfl) ⟨hn, yb, yc⟩ HR3.out HX1.out ⟨z, HZ1.out⟩ HB1.out | ((repeat apply Exists.intro); exact ⟨PI.mk (k + 1) ({ y1 with a := n }, y2) hlt (by go_num) (rfl) ⟨hn, yb, yc⟩ HR3.out HX1.out ⟨z, HZ1.out⟩ HB1.out, rfl⟩)
            case measure => simp [intOf]; omega
        · -- b
          obtain ⟨o, ho⟩ : ∃ o, regL s.data.toList = o := ⟨_, rfl⟩
          have HC : Hid (∀ w, Calls Tryd.prog 67 #[.string s] w fun e w' => e = .returned (.int .i64 (o.getD (-1))) ∧ ∃ n, w' = w.drewN n) := fun w => by rw [← ho]; exact rregister_any s hsz hs0 w
          have HR3 : Hid ((o.map fun n => ({ y1 with b := n }, y2)).bind (fun y => readAll y (p.data.toList.drop (k + 1)) ((l.map (·.data.toList)).drop (k + 1 + 1))) = out) := by rw [← ho]; exact HR2.out
          have ho0 : ∀ n, o = some n → 0 ≤ n := by intro n hn; rw [hn] at ho; exact regL_pos ho
          obtain ⟨v, hv⟩ : ∃ v, o.getD (-1) = v := ⟨_, rfl⟩
          rw [hv] at HC
          clear ho HR2
          go_upto_region 25 with (go_at_call 67; refine (HC.out _).mono ?_; rintro e w' ⟨rfl, q, rfl⟩)
          obtain ⟨W1, hW1⟩ : ∃ W, (wr.drewN q).setCell ⟨w.heap.size, 3, none⟩ (.int .i64 v) = W := ⟨_, rfl⟩
          have HX1 : Hid (Six W1 w.heap.size { y1 with b := v }) := by rw [← hW1]; exact (HS.out.drewN q).set 3 v (by simp) (by simp) (by simp) (by simp) (by simp) (by simp)
          have HZ1 : Hid (Six W1 (w.heap.size + 1) z) := by rw [← hW1]; exact (HZ2.out.drewN q).block (Below.heap_setCell _ _ _ _ (by show w.heap.size + 1 ≠ w.heap.size; omega)) (by simp [World.setCell])
          have HB1 : Hid (Below w.heap.size w W1) := by rw [← hW1]; exact (below_drewN HB.out q).setCell (Nat.le_refl _) _
          rw [hW1]
          clear hW1 x0 x1 x2 x3 x4 x5 f0 f1 f2 f3 f4 f5 hlx HS HZ2 HB HZ
          obtain ⟨x0, x1, x2, x3, x4, x5, f0, f1, f2, f3, f4, f5, hlx⟩ := HX1.out
          obtain ⟨z0, z1, z2, z3, z4, z5, k0, k1, k2, k3, k4, k5, _⟩ := HZ1.out
          rcases o with _ | n
          · have HO : Hid (out = none) := HR3.out.symm
            obtain rfl : (-1 : Int) = v := hv
            clear HR3 ho0
            go_wp2
            refine bodyPost_ret (ret_six3 6 7 8 Tryd.results46 _ (w.heap.size + 1) rfl _ _ rfl rfl _ (put6_six HZ1.out { y1 with b := -1 })) rfl ?_
            exact HPO.out ({ y1 with b := -1 }, y2) false _ (put6_below (b := w.heap.size + 1) HB1.out (Nat.le_succ _) { y1 with b := -1 }) (by rw [HO.out]; exact ⟨rfl, fun z h => by cases h⟩)
          · obtain rfl : n = v := hv
            have hn := ho0 n rfl
            clear ho0
            go_wp2
            go_roundw
            case rel => first | exact PI.mk (k + 1) ({ y1 with b := n }, y2) hlt (by go_num) (rfl) ⟨ya, hn, yc⟩ HR3.out HX1.out ⟨z, HZ1.out⟩ HB1.out | ((repeat apply Exists.intro); exact ⟨PI.mk (k + 1) ({ y1 with b := n }, y2) hlt (by go_num) (rfl) ⟨ya, hn, yc⟩ HR3.out HX1.out ⟨z, HZ1.out⟩ HB1.out, rfl⟩)
            case measure => simp [intOf]; omega
        · -- c
          obtain ⟨o, ho⟩ : ∃ o, regL s.data.toList = o := ⟨_, rfl⟩
          have HC : Hid (∀ w, Calls Tryd.prog 67 #[.string s] w fun e w' => e = .returned (.int .i64 (o.getD (-1))) ∧ ∃ n, w' = w.drewN n) := fun w => by rw [← ho]; exact rregister_any s hsz hs0 w
          have HR3 : Hid ((o.map fun n => ({ y1 with c := n }, y2)).bind (fun y => readAll y (p.data.toList.drop (k + 1)) ((l.map (·.data.toList)).drop (k + 1 + 1))) = out) := by rw [← ho]; exact HR2.out
          have ho0 : ∀ n, o = some n → 0 ≤ n := by intro n hn; rw [hn] at ho; exact regL_pos ho
          obtain ⟨v, hv⟩ : ∃ v, o.getD (-1) = v := ⟨_, rfl⟩
          rw [hv] at HC
          clear ho HR2
          go_upto_region 25 with (go_at_call 67; refine (HC.out _).mono ?_; rintro e w' ⟨rfl, q, rfl⟩)
          obtain ⟨W1, hW1⟩ : ∃ W, (wr.drewN q).setCell ⟨w.heap.size, 4, none⟩ (.int .i64 v) = W := ⟨_, rfl⟩
          have HX1 : Hid (Six W1 w.heap.size { y1 with c := v }) := by rw [← hW1]; exact (HS.out.drewN q).set 4 v (by simp) (by simp) (by simp) (by simp) (by simp) (by simp)
          have HZ1 : Hid (Six W1 (w.heap.size + 1) z) := by rw [← hW1]; exact (HZ2.out.drewN q).block (Below.heap_setCell _ _ _ _ (by show w.heap.size + 1 ≠ w.heap.size; omega)) (by simp [World.setCell])
          have HB1 : Hid (Below w.heap.size w W1) := by rw [← hW1]; exact (below_drewN HB.out q).setCell (Nat.le_refl _) _
          rw [hW1]
          clear hW1 x0 x1 x2 x3 x4 x5 f0 f1 f2 f3 f4 f5 hlx HS HZ2 HB HZ
          obtain ⟨x0, x1, x2, x3, x4, x5, f0, f1, f2, f3, f4, f5, hlx⟩ := HX1.out
          obtain ⟨z0, z1, z2, z3, z4, z5, k0, k1, k2, k3, k4, k5, _⟩ := HZ1.out
          rcases o with _ | n
          · have HO : Hid (out = none) := HR3.out.symm
            obtain rfl : (-1 : Int) = v := hv
            clear HR3 ho0
            go_wp2
            refine bodyPost_ret (ret_six3 6 7 8 Tryd.results46 _ (w.heap.size + 1) rfl _ _ rfl rfl _ (put6_six HZ1.out { y1 with c := -1 })) rfl ?_
            exact HPO.out ({ y1 with c := -1 }, y2) false _ (put6_below (b := w.heap.size + 1) HB1.out (Nat.le_succ _) { y1 with c := -1 }) (by rw [HO.out]; exact ⟨rfl, fun z h => by cases h⟩)
          · obtain rfl : n = v := hv
            have hn := ho0 n rfl
            clear ho0
            go_wp2
            go_roundw
            case rel => first | exact PI.mk (k + 1) ({ y1 with c := n }, y2) hlt (by go_num) (rfl) ⟨ya, yb, hn⟩ HR3.out HX1.out ⟨z, HZ1.out⟩ HB1.out | ((repeat apply Exists.intro); exact ⟨PI.mk (k + 1) ({ y1 with c := n }, y2) hlt (by go_num) (rfl) ⟨ya, yb, hn⟩ HR3.out HX1.out ⟨z, HZ1.out⟩ HB1.out, rfl⟩)
            case measure => simp [intOf]; omega
        · -- r
          obtain ⟨o, ho⟩ : ∃ o, smallL s.data.toList = o := ⟨_, rfl⟩
          have HC : Hid (∀ w, Calls Tryd.prog 68 #[.string s] w fun e w' => e = .returned (.int .i64 (o.getD (-1))) ∧ ∃ n, w' = w.drewN n) := fun w => by rw [← ho]; exact rsmall_any s hsz w
          have HR3 : Hid ((o.map fun n => ({ y1 with c := n }, y2)).bind (fun y => readAll y (p.data.toList.drop (k + 1)) ((l.map (·.data.toList)).drop (k + 1 + 1))) = out) := by rw [← ho]; exact HR2.out
          have ho0 : ∀ n, o = some n → 0 ≤ n := by intro n hn; rw [hn] at ho; exact smallL_pos ho
          obtain ⟨v, hv⟩ : ∃ v, o.getD (-1) = v := ⟨_, rfl⟩
          rw [hv] at HC
          clear ho HR2
          go_upto_region 25 with (go_at_call 68; refine (HC.out _).mono ?_; rintro e w' ⟨rfl, q, rfl⟩)
          obtain ⟨W1, hW1⟩ : ∃ W, (wr.drewN q).setCell ⟨w.heap.size, 4, none⟩ (.int .i64 v) = W := ⟨_, rfl⟩
          have HX1 : Hid (Six W1 w.heap.size { y1 with c := v }) := by rw [← hW1]; exact (HS.out.drewN q).set 4 v (by simp) (by simp) (by simp) (by simp) (by simp) (by simp)
          have HZ1 : Hid (Six W1 (w.heap.size + 1) z) := by rw [← hW1]; exact (HZ2.out.drewN q).block (Below.heap_setCell _ _ _ _ (by show w.heap.size + 1 ≠ w.heap.size; omega)) (by simp [World.setCell])
          have HB1 : Hid (Below w.heap.size w W1) := by rw [← hW1]; exact (below_drewN HB.out q).setCell (Nat.le_refl _) _
          rw [hW1]
          clear hW1 x0 x1 x2 x3 x4 x5 f0 f1 f2 f3 f4 f5 hlx HS HZ2 HB HZ
          obtain ⟨x0, x1, x2, x3, x4, x5, f0, f1, f2, f3, f4, f5, hlx⟩ := HX1.out
          obtain ⟨z0, z1, z2, z3, z4, z5, k0, k1, k2, k3, k4, k5, _⟩ := HZ1.out
          rcases o with _ | n
          · have HO : Hid (out = none) := HR3.out.symm
            obtain rfl : (-1 : Int) = v := hv
            clear HR3 ho0
            go_wp2
            refine bodyPost_ret (ret_six3 6 7 8 Tryd.results46 _ (w.heap.size + 1) rfl _ _ rfl rfl _ (put6_six HZ1.out { y1 with c := -1 })) rfl ?_
            exact HPO.out ({ y1 with c := -1 }, y2) false _ (put6_below (b := w.heap.size + 1) HB1.out (Nat.le_succ _) { y1 with c := -1 }) (by rw [HO.out]; exact ⟨rfl, fun z h => by cases h⟩)
          · obtain rfl : n = v := hv
            have hn := ho0 n rfl
            clear ho0
            go_wp2
            go_roundw
            case rel => first | exact PI.mk (k + 1) ({ y1 with c := n }, y2) hlt (by go_num) (rfl) ⟨ya, yb, hn⟩ HR3.out HX1.out ⟨z, HZ1.out⟩ HB1.out | ((repeat apply Exists.intro); exact ⟨PI.mk (k + 1) ({ y1 with c := n }, y2) hlt (by go_num) (rfl) ⟨ya, yb, hn⟩ HR3.out HX1.out ⟨z, HZ1.out⟩ HB1.out, rfl⟩)
            case measure => simp [intOf]; omega
        · -- k
          obtain ⟨v, hv⟩ : ∃ v, (parse s.data.toList).1 = v := ⟨_, rfl⟩
          obtain ⟨f, hf⟩ : ∃ v, (parse s.data.toList).2 = v := ⟨_, rfl⟩
          have HC : Hid (∀ w, Calls Tryd.prog 69 #[.string s] w fun e w' => e = .returned (.tuple #[.int .i64 v, .int .i64 f]) ∧ ∃ n, w' = w.drewN n) := fun w => by rw [← hv, ← hf]; exact rparse_any s hsz w
          have HR3 : Hid (((if f = 0 then some v else none).map fun n => ({ y1 with k := n }, y2)).bind (fun y => readAll y (p.data.toList.drop (k + 1)) ((l.map (·.data.toList)).drop (k + 1 + 1))) = out) := by rw [← hv, ← hf]; exact HR2.out
          clear hv hf HR2
          by_cases h0 : f = 0
          · subst h0
            have HR4 : Hid (readAll ({ y1 with k := v }, y2) (p.data.toList.drop (k + 1)) ((l.map (·.data.toList)).drop (k + 1 + 1)) = out) := HR3.out
            clear HR3
            go_upto_region 25 with (go_at_call 69; refine (HC.out _).mono ?_; rintro e w' ⟨rfl, q, rfl⟩)
            obtain ⟨W1, hW1⟩ : ∃ W, (wr.drewN q).setCell ⟨w.heap.size, 5, none⟩ (.int .i64 v) = W := ⟨_, rfl⟩
            have HX1 : Hid (Six W1 w.heap.size { y1 with k := v }) := by rw [← hW1]; exact (HS.out.drewN q).set 5 v (by simp) (by simp) (by simp) (by simp) (by simp) (by simp)
            have HZ1 : Hid (Six W1 (w.heap.size + 1) z) := by rw [← hW1]; exact (HZ2.out.drewN q).block (Below.heap_setCell _ _ _ _ (by show w.heap.size + 1 ≠ w.heap.size; omega)) (by simp [World.setCell])
            have HB1 : Hid (Below w.heap.size w W1) := by rw [← hW1]; exact (below_drewN HB.out q).setCell (Nat.le_refl _) _
            rw [hW1]
            clear hW1 x0 x1 x2 x3 x4 x5 f0 f1 f2 f3 f4 f5 hlx HS HZ2 HB HZ
            obtain ⟨x0, x1, x2, x3, x4, x5, f0, f1, f2, f3, f4, f5, hlx⟩ := HX1.out
            obtain ⟨z0, z1, z2, z3, z4, z5, k0, k1, k2, k3, k4, k5, _⟩ := HZ1.out
            go_wp2
            go_roundw
            case rel => first | exact PI.mk (k + 1) ({ y1 with k := v }, y2) hlt (by go_num) (rfl) ⟨ya, yb, yc⟩ HR4.out HX1.out ⟨z, HZ1.out⟩ HB1.out | ((repeat apply Exists.intro); exact ⟨PI.mk (k + 1) ({ y1 with k := v }, y2) hlt (by go_num) (rfl) ⟨ya, yb, yc⟩ HR4.out HX1.out ⟨z, HZ1.out⟩ HB1.out, rfl⟩)
            case measure => simp [intOf]; omega
          · have HO : Hid (out = none) := by have := HR3.out; rw [if_neg h0] at this; exact this.symm
            have e0 : (f == 0) = false := by simpa using h0
            obtain ⟨z0, z1, z2, z3, z4, z5, k0, k1, k2, k3, k4, k5, _⟩ := HZ2.out
            clear HR3
            go_wp2_with (go_at_call 69; refine (HC.out _).mono ?_; rintro e w' ⟨rfl, q, rfl⟩)
            refine bodyPost_ret (ret_six3 6 7 8 Tryd.results46 _ (w.heap.size + 1) rfl _ _ rfl rfl _ (put6_six (HZ2.out.drewN q) y1)) rfl ?_
            exact HPO.out (y1, y2) false _ (put6_below (b := w.heap.size + 1) (below_drewN HB.out q) (Nat.le_succ _) y1) (by rw [HO.out]; exact ⟨rfl, fun z h => by cases h⟩)
        · -- l
          obtain ⟨b, hb⟩ : ∃ b, labB s.data.toList = b := ⟨_, rfl⟩
          have HC : Hid (∀ w, Calls Tryd.prog 9 #[.string s] w fun e w' => e = .returned (.bool b) ∧ w' = w) := fun w => by rw [← hb]; exact refLabel_any s (by unfold maxLen; omega) w
          have HR3 : Hid ((if b then some (y1, s.data.toList) else none).bind (fun y => readAll y (p.data.toList.drop (k + 1)) ((l.map (·.data.toList)).drop (k + 1 + 1))) = out) := by rw [← hb]; exact HR2.out
          have hsd : (⟨s.data.toList.toArray⟩ : ByteArray) = s := by simp
          obtain ⟨sl, hsl⟩ : ∃ sl, s.data.toList = sl := ⟨_, rfl⟩
          rw [hsl] at hsd HR3
          have HSD : Hid ((⟨sl.toArray⟩ : ByteArray) = s) := hsd
          obtain ⟨z0, z1, z2, z3, z4, z5, k0, k1, k2, k3, k4, k5, _⟩ := HZ2.out
          clear hb HR2 hsl hsd
          cases b with
          | false =>
            have HO : Hid (out = none) := HR3.out.symm
            clear HR3
            go_wp2_with (go_at_call 9; refine (HC.out _).mono ?_; rintro e w' ⟨rfl, rfl⟩)
            refine bodyPost_ret (ret_six3 6 7 8 Tryd.results46 _ (w.heap.size + 1) rfl (.string s) (.bool false) rfl rfl _ (put6_six HZ2.out y1)) rfl ?_
            rw [← HSD.out]
            exact HPO.out (y1, sl) false _ (put6_below (b := w.heap.size + 1) HB.out (Nat.le_succ _) y1) (by rw [HO.out]; exact ⟨rfl, fun z h => by cases h⟩)
          | true =>
            have HR4 : Hid (readAll (y1, sl) (p.data.toList.drop (k + 1)) ((l.map (·.data.toList)).drop (k + 1 + 1)) = out) := HR3.out
            clear HR3
            go_wp2_with (go_at_call 9; refine (HC.out _).mono ?_; rintro e w' ⟨rfl, rfl⟩)
            go_roundw
            case rel => first | exact PI.mk (k + 1) (y1, sl) hlt (by go_num) (by rw [HSD.out]) ⟨ya, yb, yc⟩ HR4.out HS.out ⟨z, HZ2.out⟩ HB.out | ((repeat apply Exists.intro); exact ⟨PI.mk (k + 1) (y1, sl) hlt (by go_num) (by rw [HSD.out]) ⟨ya, yb, yc⟩ HR4.out HS.out ⟨z, HZ2.out⟩ HB.out, rfl⟩)
            case measure => simp [intOf]; omega
      · have hke : k = p.size := by omega
        subst hke
        have HO : Hid (some y = out) := by
          have := HR.out
          rw [List.drop_eq_nil_of_le (by simp)] at this
          exact this
        obtain ⟨x0, x1, x2, x3, x4, x5, f0, f1, f2, f3, f4, f5, _⟩ := HS.out
        obtain ⟨z0, z1, z2, z3, z4, z5, k0, k1, k2, k3, k4, k5, _⟩ := HZ2.out
        clear HR
        go_wp2
        refine bodyPost_ret (ret_six3 6 7 8 Tryd.results46 _ (w.heap.size + 1) rfl _ _ rfl rfl _ (put6_six HZ2.out y.1)) rfl ?_
        exact HPO.out y true _ (put6_below (b := w.heap.size + 1) HB.out (Nat.le_succ _) y.1) (by rw [← HO.out]; exact ⟨rfl, fun z h => by cases h; rfl⟩)
  · rw [if_neg hNp] at hout
    subst hout
    obtain ⟨x0, x1, x2, x3, x4, x5, f0, f1, f2, f3, f4, f5, _⟩ := S0.out
    obtain ⟨z0, z1, z2, z3, z4, z5, k0, k1, k2, k3, k4, k5, _⟩ := S1.out
    have hne : ((N : Int) == (p.size : Int) + 1) = false := by simp; omega
    have hne2 : ((N : Int) != (p.size : Int) + 1) = true := by simp; omega
    go_enter Tryd.func46, Tryd.ntmps46
    go_upto_region 1 with fail
    rw [HW0.out]
    clear HW0
    go_wp2
    refine bodyPost_ret (ret_six3 6 7 8 Tryd.results46 _ (w.heap.size + 1) rfl _ _ rfl rfl _ (put6_six S1.out x)) rfl ?_
    exact HPO.out (x, []) false _ (put6_below (b := w.heap.size + 1) B0.out (Nat.le_succ _) x) ⟨rfl, fun z h => by cases h⟩
end Go.Proofs.YthcidcfaodjbjabDoor
