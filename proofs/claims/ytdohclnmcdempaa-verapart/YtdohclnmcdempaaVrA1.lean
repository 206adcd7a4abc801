/- A call of both stores, where the document's has no versions. -/
import Derived.Test.YtdohclnmcdempaaVrE
namespace Go.Proofs.Ytdohclnmcdempaa
open Go.RowKit Go.Maps
set_option linter.unusedVariables false

set_option maxRecDepth 100000 in
set_option maxHeartbeats 16000000 in
theorem one0 {X : Nat → Prop} {w : World} {sb n : Nat} {K : Nat → Ch2} (h : SX X sb 512 64 n K w) (hX : ∀ k, X k → k < w.heap.size) (x : O4) (hr : R64 x.ag) (hn : n < 800000) :
    Calls Try.prog 22 #[.pointer (some ⟨sb, 0, none⟩), .agg #[.int .i64 64, .int .i64 512, .slice none 0 0], .agg #[.int .i64 x.kd, .int .i64 x.at_, .int .i64 x.ag, .int .i64 x.vl]] w (OneQ X sb (n + 64) (stepK 512 64 K x) w) := by
  have O0 := OB.first h hX x
  have HX : Hid (∀ k, X k → k < w.heap.size) := hX
  have HKA : Hid (∀ w, Calls Try.prog 25 #[.int .i64 x.kd] w (Same w (.int .i64 (kk x)))) := fun w => kind_any x.kd w
  have hkb : 0 ≤ kk x ∧ kk x ≤ 6 := kindI_bd x.kd
  have HR : Hid (R64 x.ag) := hr
  have HS : Hid (stepK 512 64 K x = if kk x < 3 then putF 512 64 K x.at_ x.ag x.vl else if kk x = 5 then dropF 64 K x.at_ x.ag else if kk x = 6 then allF K x.ag else K) := rfl
  generalize stepK 512 64 K x = K2 at *
  generalize kk x = kv at *
  generalize hY : (fun k => X k ∨ k = w.heap.size ∨ k = w.heap.size + 1 ∨ k = w.heap.size + 2) = Y at O0
  clear hY h hX hr
  have O1 : Hid (OB X Y w w.heap.size (w.heap.size + 1) (w.heap.size + 2) x sb n K (((w.alloc (.cells #[.int .i64 64, .int .i64 512, .slice none 0 0] 49)).alloc (.cells #[.int .i64 x.kd, .int .i64 x.at_, .int .i64 x.ag, .int .i64 x.vl] 55)).alloc (.cells #[.int .i64 0, .int .i64 0, .slice none 0 0] 49))) := O0
  clear O0
  obtain ⟨xkd, xat, xag, xvl⟩ := x
  simp only at HKA HR HS ⊢
  go_enter Try.func22, Try.ntmps22
  go_upto_region 1 with fail
  generalize ((w.alloc (.cells #[.int .i64 64, .int .i64 512, .slice none 0 0] 49)).alloc (.cells #[.int .i64 xkd, .int .i64 xat, .int .i64 xag, .int .i64 xvl] 55)).alloc (.cells #[.int .i64 0, .int .i64 0, .slice none 0 0] 49) = U at *
  have e00 : w.heap.size + 1 + 1 = w.heap.size + 2 := rfl
  first | rw [e00] | skip
  clear e00
  obtain ⟨g0, hg0⟩ : ∃ g, w.heap.size = g := ⟨_, rfl⟩
  obtain ⟨g1, hg1⟩ : ∃ g, g0 + 1 = g := ⟨_, rfl⟩
  obtain ⟨g2, hg2⟩ : ∃ g, g0 + 2 = g := ⟨_, rfl⟩
  have O : Hid (OB X Y w g0 g1 g2 ⟨xkd, xat, xag, xvl⟩ sb n K U) := by
    have := O1.out
    rw [hg0, hg1, hg2] at this
    exact this
  rw [hg0, hg1, hg2]
  clear O1 hg0 hg1 hg2
  obtain ⟨p0, p1, p2⟩ := O.out.c0
  obtain ⟨y0, y1, y2, y3⟩ := O.out.b1.all
  obtain ⟨q0, q1, q2⟩ := O.out.c2
  have k0 := O.out.f2 0
  have k1 := O.out.f2 1
  have k2 := O.out.f2 2
  have nd := O.out.d
  have n1 : g0 ≠ g1 := by omega
  have n2 : g0 ≠ g2 := by omega
  have n3 : g1 ≠ g2 := by omega
  have n1' : g1 ≠ g0 := by omega
  have n2' : g2 ≠ g0 := by omega
  have n3' : g2 ≠ g1 := by omega
  clear nd
  by_cases h3 : kv = 3
  · have t3 : (kv == 3) = true := by simp [h3]
    have HE : Hid (K2 = K) := by show _ = _; rw [HS.out, if_neg (by omega), if_neg (by omega), if_neg (by omega)]
    go_wp2_with fail
    refine (HKA.out _).mono ?_
    rintro e w5 ⟨rfl, hw5⟩
    rw [hw5]
    clear hw5
    go_wp2_with fail
    refine (O.out.s.older xat xag).mono ?_
    rintro e w5 ⟨rfl, b5⟩
    have O5 : Hid (OB X Y w g0 g1 g2 ⟨xkd, xat, xag, xvl⟩ sb n K w5) := O.out.below b5
    clear b5 O p0 p1 p2 y0 y1 y2 y3 q0 q1 q2 k0 k1 k2
    have hz : (oldK (K (wi 64 xat)) xag).isSome = false → ((oldK (K (wi 64 xat)) xag).getD (0, 0)).1 = 0 ∧ ((oldK (K (wi 64 xat)) xag).getD (0, 0)).2 = 0 := by
      cases oldK (K (wi 64 xat)) xag with
      | none => exact fun _ => ⟨rfl, rfl⟩
      | some q => intro h; cases h
    generalize (oldK (K (wi 64 xat)) xag).isSome = hh at *
    generalize ((oldK (K (wi 64 xat)) xag).getD (0, 0)).1 = oa at *
    generalize ((oldK (K (wi 64 xat)) xag).getD (0, 0)).2 = ov at *
    have O6 : Hid (OB X Y w g0 g1 g2 ⟨xkd, xat, xag, xvl⟩ sb n K (w5.alloc (.cells #[.int .i64 oa, .int .i64 ov] 62))) := O5.out.below (bl1 _ _)
    have G3 : Hid ((w5.alloc (.cells #[.int .i64 oa, .int .i64 ov] 62)).heap[w5.heap.size]? = some (.cells #[.int .i64 oa, .int .i64 ov] 62)) := heap_alloc_new _ _
    have n4 : w5.heap.size ≠ g2 := by have := (Array.getElem?_eq_some_iff.1 O5.out.b2).1; omega
    go_upto_region 4 with fail
    generalize w5.alloc (.cells #[.int .i64 oa, .int .i64 ov] 62) = V at *
    clear O5
    generalize w5.heap.size = g3 at *
    obtain ⟨p0, p1, p2⟩ := O6.out.c0
    obtain ⟨_, y1, y2, y3⟩ := O6.out.b1.all
    go_wp2_with (first | fail)
    refine (rolder0 xat xag V).mono ?_
    rintro e w6 ⟨rfl, b6⟩
    have O7 : Hid (OB X Y w g0 g1 g2 ⟨xkd, xat, xag, xvl⟩ sb n K w6) := O6.out.below b6
    have G7 : Hid (w6.heap[g3]? = some (.cells #[.int .i64 oa, .int .i64 ov] 62)) := (b6.block g3 (Array.getElem?_eq_some_iff.1 G3.out).1).trans G3.out
    have n5 : g3 ≠ w6.heap.size := by have := (Array.getElem?_eq_some_iff.1 G7.out).1; omega
    have n6 : w6.heap.size ≠ g2 := by have := (Array.getElem?_eq_some_iff.1 O7.out.b2).1; omega
    have O8 : Hid (OB X Y w g0 g1 g2 ⟨xkd, xat, xag, xvl⟩ sb n K (w6.alloc (.cells #[.int .i64 0, .int .i64 0, .int .i64 0] 77))) := O7.out.below (bl1 _ _)
    have G8 : Hid ((w6.alloc (.cells #[.int .i64 0, .int .i64 0, .int .i64 0] 77)).heap[g3]? = some (.cells #[.int .i64 oa, .int .i64 ov] 62)) := (heap_alloc_old _ _ (Array.getElem?_eq_some_iff.1 G7.out).1).trans G7.out
    have G9 : Hid ((w6.alloc (.cells #[.int .i64 0, .int .i64 0, .int .i64 0] 77)).heap[w6.heap.size]? = some (.cells #[.int .i64 0, .int .i64 0, .int .i64 0] 77)) := heap_alloc_new _ _
    clear b6 O6 G3 p0 p1 p2 y1 y2 y3
    go_upto_region 5 with fail
    generalize w6.alloc (.cells #[.int .i64 0, .int .i64 0, .int .i64 0] 77) = T at *
    clear O7 G7
    generalize w6.heap.size = g4 at *
    obtain ⟨p0, p1, p2⟩ := O8.out.c0
    obtain ⟨q0, q1, q2⟩ := O8.out.c2
    have k0 := O8.out.f2 0
    have k1 := O8.out.f2 1
    have k2 := O8.out.f2 2
    have a0 : T.cell? ⟨g3, 0, none⟩ = some (.int .i64 oa) := by rw [cell_of_row T g3 0 _ _ _ G8.out]; rfl
    have a1 : T.cell? ⟨g3, 1, none⟩ = some (.int .i64 ov) := by rw [cell_of_row T g3 1 _ _ _ G8.out]; rfl
    have c1 : T.cell? ⟨g4, 1, none⟩ = some (.int .i64 0) := by rw [cell_of_row T g4 1 _ _ _ G9.out]; rfl
    have c2 : T.cell? ⟨g4, 2, none⟩ = some (.int .i64 0) := by rw [cell_of_row T g4 2 _ _ _ G9.out]; rfl
    have n4' : g2 ≠ g3 := fun e => n4 e.symm
    have n5' : g4 ≠ g3 := fun e => n5 e.symm
    have n6' : g2 ≠ g4 := fun e => n6 e.symm
    have HO8 : Hid (∀ nq, OB X Y w g0 g1 g2 ⟨xkd, xat, xag, xvl⟩ sb n K (T.drewN nq)) := fun nq => O8.out.below (Below.dN (Below.refl _ _) nq)
    cases hh with
    | true =>
      clear hz
      go_region
      have D := O8.out.done HX.out (n' := n + 64) (by omega) (.bool false) (.int .i64 64) (.int .i64 512) (.slice none 0 0)
      have D2 : ((((T.setCell ⟨g2, 0, none⟩ (.int .i64 64)).setCell ⟨g2, 1, none⟩ (.int .i64 512)).setCell ⟨g2, 2, none⟩ (.slice none 0 0)).drew).heap[g2]? = some (.cells #[.int .i64 64, .int .i64 512, .slice none 0 0] 49) := D.2
      have D3 : Hid (SX X sb 512 64 (n + 64) K ((((T.setCell ⟨g2, 0, none⟩ (.int .i64 64)).setCell ⟨g2, 1, none⟩ (.int .i64 512)).setCell ⟨g2, 2, none⟩ (.slice none 0 0)).drew) ∧ Ch (no X) w ((((T.setCell ⟨g2, 0, none⟩ (.int .i64 64)).setCell ⟨g2, 1, none⟩ (.int .i64 512)).setCell ⟨g2, 2, none⟩ (.slice none 0 0)).drew)) := ⟨D.1.2.1.same (Below.refl _ _).drew, D.1.2.2.drew⟩
      have D4 : Hid (((((T.setCell ⟨g2, 0, none⟩ (.int .i64 64)).setCell ⟨g2, 1, none⟩ (.int .i64 512)).setCell ⟨g2, 2, none⟩ (.slice none 0 0)).drew).heap[g2]? = some (.cells #[.int .i64 64, .int .i64 512, .slice none 0 0] 49)) := D2
      clear D D2
      go_wp2_with fail
      refine bodyPost_ret (ret_S2 Try.results22 _ g2 rfl _ _ _ _ D4.out) rfl ?_
      rw [HE.out]
      exact ⟨⟨_, rfl⟩, D3.out.1, D3.out.2⟩
    | false =>
      obtain ⟨rfl, rfl⟩ := hz rfl
      clear hz
      go_region
      have D := O8.out.done HX.out (n' := n + 64) (by omega) (.bool false) (.int .i64 64) (.int .i64 512) (.slice none 0 0)
      have D2 : ((((T.setCell ⟨g2, 0, none⟩ (.int .i64 64)).setCell ⟨g2, 1, none⟩ (.int .i64 512)).setCell ⟨g2, 2, none⟩ (.slice none 0 0)).drew).heap[g2]? = some (.cells #[.int .i64 64, .int .i64 512, .slice none 0 0] 49) := D.2
      have D3 : Hid (SX X sb 512 64 (n + 64) K ((((T.setCell ⟨g2, 0, none⟩ (.int .i64 64)).setCell ⟨g2, 1, none⟩ (.int .i64 512)).setCell ⟨g2, 2, none⟩ (.slice none 0 0)).drew) ∧ Ch (no X) w ((((T.setCell ⟨g2, 0, none⟩ (.int .i64 64)).setCell ⟨g2, 1, none⟩ (.int .i64 512)).setCell ⟨g2, 2, none⟩ (.slice none 0 0)).drew)) := ⟨D.1.2.1.same (Below.refl _ _).drew, D.1.2.2.drew⟩
      have D4 : Hid (((((T.setCell ⟨g2, 0, none⟩ (.int .i64 64)).setCell ⟨g2, 1, none⟩ (.int .i64 512)).setCell ⟨g2, 2, none⟩ (.slice none 0 0)).drew).heap[g2]? = some (.cells #[.int .i64 64, .int .i64 512, .slice none 0 0] 49)) := D2
      clear D D2
      go_wp2_with fail
      refine bodyPost_ret (ret_S2 Try.results22 _ g2 rfl _ _ _ _ D4.out) rfl ?_
      rw [HE.out]
      exact ⟨⟨_, rfl⟩, D3.out.1, D3.out.2⟩
  by_cases h4 : kv = 4
  · have t3 : (kv == 3) = false := by simp [h3]
    have t4 : (kv == 4) = true := by simp [h4]
    have HE : Hid (K2 = K) := by show _ = _; rw [HS.out, if_neg (by omega), if_neg (by omega), if_neg (by omega)]
    go_wp2_with fail
    refine (HKA.out _).mono ?_
    rintro e w5 ⟨rfl, hw5⟩
    rw [hw5]
    clear hw5
    go_wp2_with fail
    refine (O.out.s.get xat xag).mono ?_
    rintro e w5 ⟨rfl, b5⟩
    have O5 : Hid (OB X Y w g0 g1 g2 ⟨xkd, xat, xag, xvl⟩ sb n K w5) := O.out.below b5
    clear b5 O p0 p1 p2 y0 y1 y2 y3 q0 q1 q2 k0 k1 k2
    obtain ⟨p0, p1, p2⟩ := O5.out.c0
    obtain ⟨_, y1, y2, y3⟩ := O5.out.b1.all
    generalize hasK (K (wi 64 xat)) xag = hh at *
    generalize getV (K (wi 64 xat)) xag = gv at *
    go_wp2_with fail
    refine (rfind0 xat xag w5).mono ?_
    rintro e w6 ⟨rfl, b6⟩
    have O6 : Hid (OB X Y w g0 g1 g2 ⟨xkd, xat, xag, xvl⟩ sb n K w6) := O5.out.below b6
    clear b6 O5 p0 p1 p2 y1 y2 y3
    obtain ⟨p0, p1, p2⟩ := O6.out.c0
    obtain ⟨q0, q1, q2⟩ := O6.out.c2
    have k0 := O6.out.f2 0
    have k1 := O6.out.f2 1
    have k2 := O6.out.f2 2
    cases hh with
    | true =>
      go_wp2_with fail
      refine bodyPost_ret (ret_S2 Try.results22 _ g2 rfl _ _ _ _ (O6.out.done HX.out (n' := n + 64) (by omega) (.bool false) _ _ _).2) rfl ?_
      rw [HE.out]
      exact (O6.out.done HX.out (n' := n + 64) (by omega) _ _ _ _).1
    | false =>
      go_wp2_with fail
      refine bodyPost_ret (ret_S2 Try.results22 _ g2 rfl _ _ _ _ (O6.out.done HX.out (n' := n + 64) (by omega) (.bool false) _ _ _).2) rfl ?_
      rw [HE.out]
      exact (O6.out.done HX.out (n' := n + 64) (by omega) _ _ _ _).1
  have t3 : (kv == 3) = false := by simp [h3]
  have t4 : (kv == 4) = false := by simp [h4]
  by_cases h5 : kv = 5
  · have t5 : (kv == 5) = true := by simp [h5]
    have HE : Hid (K2 = dropF 64 K xat xag) := by show _ = _; rw [HS.out, if_neg (by omega), if_pos h5]
    go_wp2_with fail
    refine (HKA.out _).mono ?_
    rintro e w5 ⟨rfl, hw5⟩
    rw [hw5]
    clear hw5
    go_wp2_with fail
    refine (rfind0 xat xag U).mono ?_
    rintro e w5 ⟨rfl, b5⟩
    have O5 : Hid (OB X Y w g0 g1 g2 ⟨xkd, xat, xag, xvl⟩ sb n K w5) := O.out.below b5
    clear b5 O p0 p1 p2 y0 y1 y2 y3 q0 q1 q2 k0 k1 k2
    go_upto_region 16 with fail
    have HD : Hid (∀ W, OB X Y w g0 g1 g2 ⟨xkd, xat, xag, xvl⟩ sb n K W → Calls Try.prog 27 #[.pointer (some ⟨sb, 0, none⟩), .int .i64 xat, .int .i64 xag] W (fun e W' => ∃ bb, e = .returned (.bool bb) ∧ OB X Y w g0 g1 g2 ⟨xkd, xat, xag, xvl⟩ sb (n + 1) (dropF 64 K xat xag) W')) := fun W o => (o.s.drop xat xag HR.out (by omega)).mono fun e W' hh => ⟨_, hh.1, o.next hh.2.1 hh.2.2⟩
    have O5d : Hid (OB X Y w g0 g1 g2 ⟨xkd, xat, xag, xvl⟩ sb n K w5.drew) := O5.out.below (Below.refl _ _).drew
    obtain ⟨p0, p1, p2⟩ := O5.out.c0
    obtain ⟨_, y1, y2, y3⟩ := O5.out.b1.all
    go_region_held3 (fun w' => w'.cell? ⟨g0, 0, none⟩ = some (.int .i64 64) ∧ w'.cell? ⟨g0, 1, none⟩ = some (.int .i64 512) ∧ w'.cell? ⟨g0, 2, none⟩ = some (.slice none 0 0) ∧ w'.cell? ⟨g1, 1, none⟩ = some (.int .i64 xat) ∧ w'.cell? ⟨g1, 2, none⟩ = some (.int .i64 xag)) (first | assumption | go_keep) (first | (go_at_call 27; refine (HD.out _ (by first | exact O5.out | exact O5d.out)).mono ?_; rintro e w6 ⟨bb, rfl, o6⟩; obtain ⟨r0, r1, r2⟩ := o6.c0; obtain ⟨_, s1, s2, _⟩ := o6.b1.all; obtain ⟨z0, z1, z2⟩ := o6.c2; have k0 := o6.f2 0; have k1 := o6.f2 1; have k2 := o6.f2 2))
    go_wp2_with fail
    refine bodyPost_ret (ret_S2 Try.results22 _ g2 rfl _ _ _ _ (o6.done HX.out (n' := n + 64) (by omega) (.bool false) _ _ _).2) rfl ?_
    rw [HE.out]
    exact (o6.done HX.out (n' := n + 64) (by omega) _ _ _ _).1
  by_cases h6 : kv = 6
  · have t5 : (kv == 5) = false := by simp [h5]
    have t6 : (kv == 6) = true := by simp [h6]
    have HE : Hid (K2 = allF K xag) := by show _ = _; rw [HS.out, if_neg (by omega), if_neg h5, if_pos h6]
    go_wp2_with fail
    refine (HKA.out _).mono ?_
    rintro e w5 ⟨rfl, hw5⟩
    rw [hw5]
    clear hw5
    go_wp2_with fail
    refine (rdrop0 (-1) xag U).mono ?_
    rintro e w5 ⟨rfl, b5⟩
    have O5 : Hid (OB X Y w g0 g1 g2 ⟨xkd, xat, xag, xvl⟩ sb n K w5) := O.out.below b5
    clear b5 O p0 p1 p2 y0 y1 y2 y3 q0 q1 q2 k0 k1 k2
    have O6 : Hid (OB X (fun k => Y k ∨ k = w5.heap.size) w g0 g1 g2 ⟨xkd, xat, xag, xvl⟩ sb n K (w5.alloc (.cells #[.int .i64 64, .int .i64 512, .slice none 0 0] 49))) := O5.out.more _
    have G3 : Hid ((w5.alloc (.cells #[.int .i64 64, .int .i64 512, .slice none 0 0] 49)).heap[w5.heap.size]? = some (.cells #[.int .i64 64, .int .i64 512, .slice none 0 0] 49)) := heap_alloc_new _ _
    go_upto_region 19 with fail
    have n4 : w5.heap.size ≠ g2 := by have := (Array.getElem?_eq_some_iff.1 O5.out.b2).1; omega
    have n4' : g2 ≠ w5.heap.size := fun e => n4 e.symm
    generalize w5.alloc (.cells #[.int .i64 64, .int .i64 512, .slice none 0 0] 49) = V at *
    clear O5
    generalize w5.heap.size = g3 at *
    have HD : Hid (∀ W, OB X (fun k => Y k ∨ k = g3) w g0 g1 g2 ⟨xkd, xat, xag, xvl⟩ sb n K W → W.heap[g3]? = some (.cells #[.int .i64 64, .int .i64 512, .slice none 0 0] 49) → Calls Try.prog 28 #[.pointer (some ⟨sb, 0, none⟩), .int .i64 xag] W (fun e W' => ∃ bb, e = .returned (.int .i64 bb) ∧ OB X (fun k => Y k ∨ k = g3) w g0 g1 g2 ⟨xkd, xat, xag, xvl⟩ sb (n + 64) (allF K xag) W' ∧ W'.heap[g3]? = some (.cells #[.int .i64 64, .int .i64 512, .slice none 0 0] 49))) := fun W o hg => (o.s.dropAll xag HR.out (by omega)).mono fun e W' hh => ⟨_, hh.1, o.next hh.2.1 hh.2.2, hh.2.2.heap hg (fun q => q (.inr rfl))⟩
    have O6d : Hid (OB X (fun k => Y k ∨ k = g3) w g0 g1 g2 ⟨xkd, xat, xag, xvl⟩ sb n K V.drew) := O6.out.below (Below.refl _ _).drew
    have G3d : Hid (V.drew.heap[g3]? = some (.cells #[.int .i64 64, .int .i64 512, .slice none 0 0] 49)) := G3.out
    have a0 : V.cell? ⟨g3, 0, none⟩ = some (.int .i64 64) := by rw [cell_of_row V g3 0 _ _ _ G3.out]; rfl
    have a1 : V.cell? ⟨g3, 1, none⟩ = some (.int .i64 512) := by rw [cell_of_row V g3 1 _ _ _ G3.out]; rfl
    have a2 : V.cell? ⟨g3, 2, none⟩ = some (.slice none 0 0) := by rw [cell_of_row V g3 2 _ _ _ G3.out]; rfl
    obtain ⟨_, y1, y2, y3⟩ := O6.out.b1.all
    go_region_held3 (fun w' => w'.cell? ⟨g3, 0, none⟩ = some (.int .i64 64) ∧ w'.cell? ⟨g3, 1, none⟩ = some (.int .i64 512) ∧ w'.cell? ⟨g3, 2, none⟩ = some (.slice none 0 0) ∧ w'.cell? ⟨g1, 1, none⟩ = some (.int .i64 xat) ∧ w'.cell? ⟨g1, 2, none⟩ = some (.int .i64 xag) ∧ w'.cell? ⟨g1, 3, none⟩ = some (.int .i64 xvl)) (first | assumption | go_keep) (first | (go_at_call 28; refine (HD.out _ (by first | exact O6.out | exact O6d.out) (by first | exact G3.out | exact G3d.out)).mono ?_; rintro e w6 ⟨bb, rfl, o6, g6⟩; have r0 : w6.cell? ⟨g3, 0, none⟩ = some (.int .i64 64) := (by rw [cell_of_row w6 g3 0 _ _ _ g6]; rfl); have r1 : w6.cell? ⟨g3, 1, none⟩ = some (.int .i64 512) := (by rw [cell_of_row w6 g3 1 _ _ _ g6]; rfl); have r2 : w6.cell? ⟨g3, 2, none⟩ = some (.slice none 0 0) := (by rw [cell_of_row w6 g3 2 _ _ _ g6]; rfl); obtain ⟨_, s1, s2, s3⟩ := o6.b1.all; obtain ⟨z0, z1, z2⟩ := o6.c2; have k0 := o6.f2 0; have k1 := o6.f2 1; have k2 := o6.f2 2))
    all_goals (
      go_wp2_with fail
      refine bodyPost_ret (ret_S2 Try.results22 _ g2 rfl _ _ _ _ (o6.done HX.out (n' := n + 64) (by omega) (.bool false) _ _ _).2) rfl ?_
      rw [HE.out]
      exact (o6.done HX.out (n' := n + 64) (by omega) _ _ _ _).1)
  have t5 : (kv == 5) = false := by simp [h5]
  have t6 : (kv == 6) = false := by simp [h6]
  have HE : Hid (K2 = putF 512 64 K xat xag xvl) := by show _ = _; rw [HS.out, if_pos (by omega)]
  go_wp2_with fail
  refine (HKA.out _).mono ?_
  rintro e w5 ⟨rfl, hw5⟩
  rw [hw5]
  clear hw5
  go_wp2_with fail
  refine (rput0 xat xag xvl U).mono ?_
  rintro e w5 ⟨⟨ra, rm, rk, rc, rfl⟩, b5⟩
  have O5 : Hid (OB X Y w g0 g1 g2 ⟨xkd, xat, xag, xvl⟩ sb n K w5) := O.out.below b5
  clear b5 O p0 p1 p2 y0 y1 y2 y3 q0 q1 q2 k0 k1 k2
  have O6 : Hid (OB X (fun k => Y k ∨ k = w5.heap.size) w g0 g1 g2 ⟨xkd, xat, xag, xvl⟩ sb n K (w5.alloc (.cells #[.int .i64 64, .int .i64 512, .slice ra rm rk] 49))) := O5.out.more _
  have G3 : Hid ((w5.alloc (.cells #[.int .i64 64, .int .i64 512, .slice ra rm rk] 49)).heap[w5.heap.size]? = some (.cells #[.int .i64 64, .int .i64 512, .slice ra rm rk] 49)) := heap_alloc_new _ _
  go_upto_region 21 with fail
  have n4 : w5.heap.size ≠ g2 := by have := (Array.getElem?_eq_some_iff.1 O5.out.b2).1; omega
  have n4' : g2 ≠ w5.heap.size := fun e => n4 e.symm
  generalize w5.alloc (.cells #[.int .i64 64, .int .i64 512, .slice ra rm rk] 49) = V at *
  clear O5
  generalize w5.heap.size = g3 at *
  have HD : Hid (∀ W, OB X (fun k => Y k ∨ k = g3) w g0 g1 g2 ⟨xkd, xat, xag, xvl⟩ sb n K W → W.heap[g3]? = some (.cells #[.int .i64 64, .int .i64 512, .slice ra rm rk] 49) → Calls Try.prog 26 #[.pointer (some ⟨sb, 0, none⟩), .int .i64 xat, .int .i64 xag, .int .i64 xvl] W (fun e W' => ∃ bb, e = .returned (.int .i64 bb) ∧ OB X (fun k => Y k ∨ k = g3) w g0 g1 g2 ⟨xkd, xat, xag, xvl⟩ sb (n + 1) (putF 512 64 K xat xag xvl) W' ∧ W'.heap[g3]? = some (.cells #[.int .i64 64, .int .i64 512, .slice ra rm rk] 49))) := fun W o hg => (o.s.put xat xag xvl HR.out.2 (by omega)).mono fun e W' hh => ⟨_, hh.1, o.next hh.2.1 hh.2.2, hh.2.2.heap hg (fun q => q (.inr rfl))⟩
  have O6d : Hid (OB X (fun k => Y k ∨ k = g3) w g0 g1 g2 ⟨xkd, xat, xag, xvl⟩ sb n K V.drew) := O6.out.below (Below.refl _ _).drew
  have G3d : Hid (V.drew.heap[g3]? = some (.cells #[.int .i64 64, .int .i64 512, .slice ra rm rk] 49)) := G3.out
  have a0 : V.cell? ⟨g3, 0, none⟩ = some (.int .i64 64) := by rw [cell_of_row V g3 0 _ _ _ G3.out]; rfl
  have a1 : V.cell? ⟨g3, 1, none⟩ = some (.int .i64 512) := by rw [cell_of_row V g3 1 _ _ _ G3.out]; rfl
  have a2 : V.cell? ⟨g3, 2, none⟩ = some (.slice ra rm rk) := by rw [cell_of_row V g3 2 _ _ _ G3.out]; rfl
  obtain ⟨_, y1, y2, y3⟩ := O6.out.b1.all
  go_region_held3 (fun w' => w'.cell? ⟨g3, 0, none⟩ = some (.int .i64 64) ∧ w'.cell? ⟨g3, 1, none⟩ = some (.int .i64 512) ∧ w'.cell? ⟨g3, 2, none⟩ = some (.slice ra rm rk) ∧ w'.cell? ⟨g1, 1, none⟩ = some (.int .i64 xat) ∧ w'.cell? ⟨g1, 2, none⟩ = some (.int .i64 xag) ∧ w'.cell? ⟨g1, 3, none⟩ = some (.int .i64 xvl)) (first | assumption | go_keep) (first | (go_at_call 26; refine (HD.out _ (by first | exact O6.out | exact O6d.out) (by first | exact G3.out | exact G3d.out)).mono ?_; rintro e w6 ⟨bb, rfl, o6, g6⟩; have r0 : w6.cell? ⟨g3, 0, none⟩ = some (.int .i64 64) := (by rw [cell_of_row w6 g3 0 _ _ _ g6]; rfl); have r1 : w6.cell? ⟨g3, 1, none⟩ = some (.int .i64 512) := (by rw [cell_of_row w6 g3 1 _ _ _ g6]; rfl); have r2 : w6.cell? ⟨g3, 2, none⟩ = some (.slice ra rm rk) := (by rw [cell_of_row w6 g3 2 _ _ _ g6]; rfl); obtain ⟨_, s1, s2, s3⟩ := o6.b1.all; obtain ⟨z0, z1, z2⟩ := o6.c2; have k0 := o6.f2 0; have k1 := o6.f2 1; have k2 := o6.f2 2))
  all_goals (
    go_wp2_with fail
    refine bodyPost_ret (ret_S2 Try.results22 _ g2 rfl _ _ _ _ (o6.done HX.out (n' := n + 64) (by omega) (.bool false) _ _ _).2) rfl ?_
    rw [HE.out]
    exact (o6.done HX.out (n' := n + 64) (by omega) _ _ _ _).1)
end Go.Proofs.Ytdohclnmcdempaa
