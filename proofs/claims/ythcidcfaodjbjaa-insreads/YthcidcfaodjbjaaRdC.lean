/- What the document's Decode answers. -/
import Derived.Test.YthcidcfaodjbjaaRdB
namespace Go.Proofs.Ythcidcfaodjbjaa
open Go.RowKit
set_option linter.unusedVariables false
set_option linter.unusedSimpArgs false

theorem capT_start (n : Int) (M : List UInt8) : capT (⟨n, 0, 0, 0, 0, 0⟩, M, 0) = (⟨n, 0, 0, 0, 0, 0⟩, M, 0) := rfl
theorem lets_none {n : Int} (h : (lets n).isSome = false) : n < 1 ∨ 13 < n := by
  unfold lets at h
  (repeat' split at h) <;> first | omega | simp at h
theorem decN_u {n i : Nat} {M : List UInt8} {m : Nat} {M1 : List UInt8} {g1 : Int} (h : i < n) (hu : rU M 0 = (m, M1, g1)) (hg : g1 ≠ 0) (acc : List In) : (decN (n - i) M).pre acc = .err g1 := by
  rw [show n - i = (n - i - 1) + 1 by omega]
  have ht : takeX M = (In0, g1, M1, g1) := by unfold takeX; rw [hu]; simp only; rw [if_pos hg]
  unfold decN
  rw [ht]
  simp only
  rw [if_neg hg]
  rfl
theorem decN_k {n i : Nat} {M : List UInt8} {m : Nat} {M1 : List UInt8} (h : i < n) (hu : rU M 0 = (m, M1, 0)) (hk : (lets (sm m)).isSome = false) (acc : List In) : (decN (n - i) M).pre acc = .err 21 := by
  rw [show n - i = (n - i - 1) + 1 by omega]
  have ht : takeX M = (In0, 21, M1, 0) := by unfold takeX; rw [hu]; simp only; rw [if_neg (by simp), if_pos hk]
  unfold decN
  rw [ht]
  rfl
theorem decN_x {n i : Nat} {M : List UInt8} {m : Nat} {M1 : List UInt8} (h : i < n) (hu : rU M 0 = (m, M1, 0)) (hk : (lets (sm m)).isSome = true) (acc : List In) (y : In) (M' : List UInt8) (g : Int) (hf : foldT (⟨sm m, 0, 0, 0, 0, 0⟩, M1, 0) ((lets (sm m)).getD ⟨#[]⟩).data.toList = (y, M', g)) :
    (decN (n - i) M).pre acc = if g = 0 then (decN (n - (i + 1)) M').pre (acc ++ [y]) else .err g := by
  rw [show n - i = (n - (i + 1)) + 1 by omega]
  have ht : takeX M = (y, g, M', g) := by unfold takeX; rw [hu]; simp only; rw [if_neg (by simp), if_neg (by rw [hk]; simp), hf]
  conv => lhs; unfold decN
  rw [ht]
  simp only
  by_cases hg : g = 0
  · rw [if_pos hg, if_pos hg, DR.pre_pre]
  · rw [if_neg hg, if_neg hg]; rfl
theorem smR_small {m : Nat} (h : 1 ≤ sm m ∧ sm m ≤ 13) : smR m = sm m := by rw [smR_eq]; unfold cap1; rw [if_pos (by omega)]
theorem smR_big {m : Nat} (h : sm m < 1 ∨ 13 < sm m) : smR m < 1 ∨ 13 < smR m := by rw [smR_eq]; unfold cap1; split <;> omega

set_option maxRecDepth 100000 in
set_option maxHeartbeats 4000000 in
theorem refDecode_any (W : WG) (a : Option Addr) (n c : Nat) (L : List UInt8) (cells : Int) (w : World) (hL : L.length ≤ 1000000) (hn : n = L.length) (hW : TG W w) (hR : RG W (.slice a n c) L) : Calls Try.prog 21 #[.slice a n c, .int .i64 cells] w fun e w' => DecPost w L cells e w' := by
  obtain ⟨RR, hRR⟩ : ∃ r, decodeR L cells = r := ⟨_, rfl⟩
  unfold DecPost
  rw [hRR]
  unfold decodeR at hRR
  have HW : Hid (TG W w) := hW
  have HNL : Hid (n = L.length) := hn
  have HC0 : Hid (∀ V, Below w.heap.size w V → Calls Try.prog 47 #[.agg #[.slice a n c, .int .i64 0], .int .i64 1] V (DPost W V (.int .i64 0) (outC 1 L))) := fun V hV => by
    subst hn
    exact tcount_ok W a c L 1 1 V (hW.next hV) hR (Or.inr ⟨by omega, rfl⟩) (by omega) (by omega) (by omega)
  obtain ⟨i0, hi, hz0, hz1, hz2⟩ := info_parts info25
  clear hW hR hn
  go_enter Try.func21, Try.ntmps21
  go_wp2_with fail
  refine (HC0.out _ (Below.refl _ _)).mono ?_
  intro e w1 hp
  unfold outC at hp
  rcases hk : tkC 1 L with ⟨m, R⟩ | k
  · rw [hk] at hp hRR
    obtain ⟨a1, c1, v1, rfl, hr1, rfl, b1⟩ := hp
    have hnn := tkC_le hk
    have B1 : Hid (Below w.heap.size w w1) := b1
    have HRR : Hid _ := hRR
    have D1 : Hid (DRd W a1 R.length c1 R 0) := Or.inl ⟨rfl, rfl, hr1⟩
    obtain ⟨n1, hn1⟩ : ∃ z, R.length = z := ⟨_, rfl⟩
    rw [hn1] at D1
    rw [hn1]
    clear hr1 b1 hk hRR
    obtain ⟨rb, hrb⟩ : ∃ z, w1.heap.size = z := ⟨_, rfl⟩
    have HT0 : Hid (Two (w1.alloc (.cells #[.slice a1 n1 c1, .int .i64 0] 78)) rb (.slice a1 n1 c1) (.int .i64 0)) := Two.new w1 rb hrb _ _ _
    have HB0 : Hid (Below w.heap.size w (w1.alloc (.cells #[.slice a1 n1 c1, .int .i64 0] 78))) := B1.out.alloc B1.out.size _
    have hwb : w.heap.size ≤ rb := by rw [← hrb]; exact B1.out.size
    go_wp2
    try rw [hrb]
    clear hrb
    go_loopw [8, 9] (fun lv t wr => ∃ (i : Nat) (lst : List In) (M : List UInt8) (g : Int) (a' : Option Addr) (n' c' : Nat) (la : Option Addr) (lc : Nat), i ≤ m ∧ lst.length = i ∧ t = .int .i64 i ∧ lv = .slice la i lc ∧ Hid (IOwn wr (rb + 1) (.slice la i lc) lst) ∧ Hid (Two wr rb (.slice a' n' c') (.int .i64 g)) ∧ Hid (DRd W a' n' c' M g) ∧ M.length ≤ R.length ∧ Hid (Below w.heap.size w wr) ∧ Hid ((g = 0 ∧ ∃ acc, lst = acc.map capI ∧ (decN (m - i) M).pre acc = decN m R) ∨ (g ≠ 0 ∧ decN m R = .err g))) (fun _ t _ => m - (intOf t).toNat)
    case atStart =>
      refine ⟨0, [], R, 0, a1, n1, c1, none, 0, Nat.zero_le _, rfl, rfl, rfl, IOwn.nil _ _, HT0, D1, Nat.le_refl _, HB0, Or.inl ⟨rfl, [], rfl, ?_⟩⟩
      rw [Nat.sub_zero]
      cases decN m R <;> rfl
    case round =>
      obtain ⟨i, lst, M, g, a', n', c', la, lc, him, hil, rfl, rfl, HO, HT, HD, hml, HB, HG⟩ := hrel
      have hwr : w.heap.size ≤ wr.heap.size := HB.out.size
      by_cases hg : g = 0
      · subst hg
        obtain ⟨acc, hac, hdn⟩ := (HG.out.resolve_right (fun h => h.1 rfl)).2
        have HAC : Hid (lst = acc.map capI) := hac
        have HDN : Hid ((decN (m - i) M).pre acc = decN m R) := hdn
        clear HG hac hdn
        by_cases hlt : i < m
        · have HCT : Hid (∀ V, Below wr.heap.size wr V → Calls Try.prog 48 #[.agg #[.slice a' n' c', .int .i64 0]] V fun e w' => ∃ a2 n2 c2, e = .returned (.tuple #[.agg #[.slice a2 n2 c2, .int .i64 (rU M 0).2.2], .int .i64 (smR (rU M 0).1)]) ∧ DRd W a2 n2 c2 (rU M 0).2.1 (rU M 0).2.2 ∧ Below V.heap.size V w') := fun V hV => refTake_any W a' n' c' M 0 V ((HW.out.next HB.out).next hV) HD.out
          have hlen1 := rU_len M 0
          obtain ⟨⟨q, M1, g1⟩, hu⟩ : ∃ u, rU M 0 = u := ⟨_, rfl⟩
          rw [hu] at HCT hlen1
          simp only at hlen1
          obtain ⟨t0, t1, t2, t3⟩ := HT.out
          obtain ⟨kd, hkd⟩ : ∃ z, smR q = z := ⟨_, rfl⟩
          have HKD : Hid (smR q = kd) := hkd
          have HU : Hid (rU M 0 = (q, M1, g1)) := hu
          rw [hkd] at HCT
          clear hu hkd
          go_wp2_with fail
          refine (HCT.out _ (Below.refl _ _)).mono ?_
          rintro e w3 ⟨a2, n2, c2, rfl, hd2, b3⟩
          have HT3 := HT.out.keep (b3.block _ HT.out.lt)
          have HT4 : Hid (Two ((w3.setCell ⟨rb, 0, none⟩ (.slice a2 n2 c2)).setCell ⟨rb, 1, none⟩ (.int .i64 g1)) rb (.slice a2 n2 c2) (.int .i64 g1)) := (HT3.set0 _).set1 _
          have HB4 : Hid (Below w.heap.size w ((w3.setCell ⟨rb, 0, none⟩ (.slice a2 n2 c2)).setCell ⟨rb, 1, none⟩ (.int .i64 g1))) := ((HB.out.trans (b3.mono hwr)).setCell (p := ⟨rb, 0, none⟩) hwb _).setCell (p := ⟨rb, 1, none⟩) hwb _
          have HO4 : Hid (IOwn ((w3.setCell ⟨rb, 0, none⟩ (.slice a2 n2 c2)).setCell ⟨rb, 1, none⟩ (.int .i64 g1)) (rb + 1) (.slice la i lc) lst) := HO.out.keep (fun k hk hs => ((Below.heap_setCell _ _ _ _ (by show k ≠ rb; omega)).trans (Below.heap_setCell _ _ _ _ (by show k ≠ rb; omega))).trans (b3.block k hs))
          have HD4 : Hid (DRd W a2 n2 c2 M1 g1) := hd2
          clear t0 t1 t2 t3
          obtain ⟨t0, t1, t2, t3⟩ := id HT3
          have HK3 : Hid (∀ k, k < wr.heap.size → w3.heap[k]? = wr.heap[k]?) := fun k hk => b3.block k hk
          have hsz3 : wr.heap.size ≤ w3.heap.size := b3.size
          clear hd2 b3 HT3
          by_cases hg1 : g1 = 0
          · subst hg1
            by_cases hls : (lets (sm q)).isSome = false
            · have HRR2 : Hid (([], 21) = RR) := by
                have h9 := HDN.out
                rw [decN_k hlt HU.out hls acc] at h9
                have := HRR.out
                rw [← h9] at this
                exact this
              have hkb : kd < 1 ∨ 13 < kd := by rw [← HKD.out]; exact smR_big (lets_none hls)
              have HPN : Hid (∀ V, Calls Try.prog 30 #[.int .i64 kd] V fun e w' => e = .returned (.string ⟨#[63]⟩) ∧ Below V.heap.size V w') := fun V => refParts_none kd V hkb
              clear hls hkb
              go_wp2_with fail
              refine (HPN.out _).mono ?_
              rintro e w5 ⟨rfl, b5⟩
              have HB5 : Hid (Below w.heap.size w w5) := (HB4.out.alloc HB4.out.size _).trans (b5.mono (by have := HB4.out.size; simp at this ⊢; omega))
              clear b5
              go_wp2
              go_ret2
              rw [← HRR2.out]
              exact ⟨HB5.out, _, rfl, ISl.nil _⟩
            · have hls' : (lets (sm q)).isSome = true := by rw [Bool.not_eq_false] at hls; exact hls
              have hle := lets_le hls'
              have hkq : kd = sm q := by rw [← HKD.out]; exact smR_small hle
              obtain ⟨s, hs1, hs2, hs3, hs4, hs5⟩ := refParts_twin kd (by rw [hkq]; exact hle)
              have HS1 : Hid (okR s) := hs1
              have HS3 : Hid (twins ((lets kd).getD ⟨#[]⟩).data.toList s.data.toList) := hs3
              have HS5 : Hid (∀ w, Calls Try.prog 30 #[.int .i64 kd] w fun e w' => e = .returned (.string s) ∧ Below w.heap.size w w') := hs5
              obtain ⟨⟨y, M', g'⟩, hft⟩ : ∃ t, foldT (⟨kd, 0, 0, 0, 0, 0⟩, M1, 0) ((lets kd).getD ⟨#[]⟩).data.toList = t := ⟨_, rfl⟩
              have HFR : Hid (foldR (⟨kd, 0, 0, 0, 0, 0⟩, M1, 0) s.data.toList = (capI y, M', g')) := by
                have h9 := fold_twin _ _ (⟨kd, 0, 0, 0, 0, 0⟩, M1, 0) hs3
                rw [capT_start, hft] at h9
                exact h9
              have hlen2 := foldT_len ((lets kd).getD ⟨#[]⟩).data.toList (⟨kd, 0, 0, 0, 0, 0⟩, M1, 0)
              rw [hft] at hlen2
              simp only at hlen2
              have HDX : Hid ((if g' = 0 then (decN (m - (i + 1)) M').pre (acc ++ [y]) else .err g') = decN m R) := by
                have h9 := HDN.out
                rw [decN_x hlt HU.out hls' acc y M' g' (by rw [← hkq]; exact hft)] at h9
                exact h9
              have HONE : Hid (∀ V, TG W V → Calls Try.prog 49 #[.agg #[.slice a2 n2 c2, .int .i64 0], .agg #[.int .i64 kd, .int .i64 0, .int .i64 0, .int .i64 0, .int .i64 0, .int .i64 0]] V fun e w' => ∃ a5 n5 c5, e = .returned (.tuple #[.agg #[.slice a5 n5 c5, .int .i64 g'], .agg #[.int .i64 (capI y).kind, .int .i64 (capI y).op, .int .i64 (capI y).a, .int .i64 (capI y).b, .int .i64 (capI y).c, .int .i64 (capI y).k]]) ∧ DRd W a5 n5 c5 M' g' ∧ Below V.heap.size V w') := fun V hV => by
                have h9 := refParts1_any W a2 n2 c2 M1 0 ⟨kd, 0, 0, 0, 0, 0⟩ V hV HD4.out s hs1 hs2 hs5
                rw [HFR.out] at h9
                exact h9
              obtain ⟨cy, hcy⟩ : ∃ z, capI y = z := ⟨_, rfl⟩
              have HCY : Hid (capI y = cy) := hcy
              rw [hcy] at HONE
              clear hls hls' hle hkq hs1 hs3 hs5 hft hcy
              go_wp2_with fail
              refine (HS5.out _).mono ?_
              rintro e w5 ⟨rfl, b5⟩
              have A5 : Below ((w3.setCell ⟨rb, 0, none⟩ (.slice a2 n2 c2)).setCell ⟨rb, 1, none⟩ (.int .i64 0)).heap.size ((w3.setCell ⟨rb, 0, none⟩ (.slice a2 n2 c2)).setCell ⟨rb, 1, none⟩ (.int .i64 0)) w5 := ((Below.refl _ _).alloc (Nat.le_refl _) _).trans (b5.mono (by simp))
              have HB5 : Hid (Below w.heap.size w w5) := HB4.out.trans (A5.mono HB4.out.size)
              have HT5 : Hid (Two w5 rb (.slice a2 n2 c2) (.int .i64 0)) := HT4.out.keep (A5.block _ HT4.out.lt)
              have HO5 : Hid (IOwn w5 (rb + 1) (.slice la i lc) lst) := HO4.out.keep (fun k _ hs => A5.block k hs)
              have HX5 : Hid (Six w5 w3.heap.size ⟨kd, 0, 0, 0, 0, 0⟩) := by
                have h9 := Six.new ((w3.setCell ⟨rb, 0, none⟩ (.slice a2 n2 c2)).setCell ⟨rb, 1, none⟩ (.int .i64 0)) ⟨kd, 0, 0, 0, 0, 0⟩
                rw [show ((w3.setCell ⟨rb, 0, none⟩ (.slice a2 n2 c2)).setCell ⟨rb, 1, none⟩ (.int .i64 0)).heap.size = w3.heap.size by simp [World.setCell]] at h9
                exact h9.block (b5.block _ h9.lt) b5.size
              have hxr : rb < w3.heap.size := by have := HT4.out.lt; simpa [World.setCell] using this
              obtain ⟨xb, hxb⟩ : ∃ z, w3.heap.size = z := ⟨_, rfl⟩
              rw [hxb] at HX5 hxr
              have HW5 : Hid (TG W w5) := HW.out.next HB5.out
              have HK5 : Hid (∀ k, k < wr.heap.size → k ≠ rb → w5.heap[k]? = wr.heap[k]?) := fun k hk hne => ((A5.block k (by simp [World.setCell]; omega)).trans ((Below.heap_setCell _ _ _ _ (by show k ≠ rb; exact hne)).trans (Below.heap_setCell _ _ _ _ (by show k ≠ rb; exact hne)))).trans (HK3.out k hk)
              have hwx : wr.heap.size ≤ xb := by rw [← hxb]; exact hsz3
              clear b5 A5 t0 t1 t2 t3
              obtain ⟨t0, t1, t2, t3⟩ := HT5.out
              obtain ⟨x0, x1, x2, x3, x4, x5, f0, f1, f2, f3, f4, f5, _⟩ := HX5.out
              simp only [hxb]
              clear hxb HT4 HB4 HO4
              go_wp2_with fail
              refine (HONE.out _ HW5.out).mono ?_
              rintro e w6 ⟨a5, n5, c5, rfl, hd6, b6⟩
              have HT6 := HT5.out.keep (b6.block _ HT5.out.lt)
              have HX6 := HX5.out.block (b6.block _ HX5.out.lt) b6.size
              have HT7 : Hid (Two (put6 ((w6.setCell ⟨rb, 0, none⟩ (.slice a5 n5 c5)).setCell ⟨rb, 1, none⟩ (.int .i64 g')) xb cy) rb (.slice a5 n5 c5) (.int .i64 g')) := ((HT6.set0 _).set1 _).keep (put6_other _ _ _ _ (by omega))
              have hX6' : Six ((w6.setCell ⟨rb, 0, none⟩ (.slice a5 n5 c5)).setCell ⟨rb, 1, none⟩ (.int .i64 g')) xb ⟨kd, 0, 0, 0, 0, 0⟩ := HX6.block ((Below.heap_setCell _ _ _ _ (by show xb ≠ rb; omega)).trans (Below.heap_setCell _ _ _ _ (by show xb ≠ rb; omega))) (by simp [World.setCell])
              have HX7 : Hid (Six (put6 ((w6.setCell ⟨rb, 0, none⟩ (.slice a5 n5 c5)).setCell ⟨rb, 1, none⟩ (.int .i64 g')) xb cy) xb cy) := put6_six hX6' cy
              have hB6 : Below w.heap.size w w6 := HB5.out.trans (b6.mono HB5.out.size)
              have HB7 : Hid (Below w.heap.size w (put6 ((w6.setCell ⟨rb, 0, none⟩ (.slice a5 n5 c5)).setCell ⟨rb, 1, none⟩ (.int .i64 g')) xb cy)) := put6_below ((hB6.setCell (p := ⟨rb, 0, none⟩) hwb _).setCell (p := ⟨rb, 1, none⟩) hwb _) (by omega) cy
              have HO7 : Hid (IOwn (put6 ((w6.setCell ⟨rb, 0, none⟩ (.slice a5 n5 c5)).setCell ⟨rb, 1, none⟩ (.int .i64 g')) xb cy) (rb + 1) (.slice la i lc) lst) := HO.out.keep (fun k hk hs => (((put6_other _ _ _ _ (by omega)).trans ((Below.heap_setCell _ _ _ _ (by show k ≠ rb; omega)).trans (Below.heap_setCell _ _ _ _ (by show k ≠ rb; omega)))).trans (b6.block k (by have := HX5.out.lt; omega))).trans (HK5.out k hs (by omega)))
              have HD7 : Hid (DRd W a5 n5 c5 M' g') := hd6
              have hs6 : w5.heap.size ≤ w6.heap.size := b6.size
              have hS7 : (put6 ((w6.setCell ⟨rb, 0, none⟩ (.slice a5 n5 c5)).setCell ⟨rb, 1, none⟩ (.int .i64 g')) xb cy).heap.size = w6.heap.size := by rw [put6_size]; simp [World.setCell]
              have HTA : Hid (Two ((put6 ((w6.setCell ⟨rb, 0, none⟩ (.slice a5 n5 c5)).setCell ⟨rb, 1, none⟩ (.int .i64 g')) xb cy).alloc (.cells #[.int .i64 cy.kind, .int .i64 cy.op, .int .i64 cy.a, .int .i64 cy.b, .int .i64 cy.c, .int .i64 cy.k] 25)) rb (.slice a5 n5 c5) (.int .i64 g')) := HT7.out.alloc _
              have HBA : Hid (Below w.heap.size w ((put6 ((w6.setCell ⟨rb, 0, none⟩ (.slice a5 n5 c5)).setCell ⟨rb, 1, none⟩ (.int .i64 g')) xb cy).alloc (.cells #[.int .i64 cy.kind, .int .i64 cy.op, .int .i64 cy.a, .int .i64 cy.b, .int .i64 cy.c, .int .i64 cy.k] 25))) := HB7.out.alloc HB7.out.size _
              have HOA : Hid (((put6 ((w6.setCell ⟨rb, 0, none⟩ (.slice a5 n5 c5)).setCell ⟨rb, 1, none⟩ (.int .i64 g')) xb cy).alloc (.cells #[.int .i64 cy.kind, .int .i64 cy.op, .int .i64 cy.a, .int .i64 cy.b, .int .i64 cy.c, .int .i64 cy.k] 25)).ownsRow (rb + 1) 25 6 (.slice la i lc) i (ics lst)) := by
                have h9 := HO7.out.keep (w' := (put6 ((w6.setCell ⟨rb, 0, none⟩ (.slice a5 n5 c5)).setCell ⟨rb, 1, none⟩ (.int .i64 g')) xb cy).alloc (.cells #[.int .i64 cy.kind, .int .i64 cy.op, .int .i64 cy.a, .int .i64 cy.b, .int .i64 cy.c, .int .i64 cy.k] 25)) (fun k _ hs => Below.heap_alloc _ _ _ hs)
                unfold IOwn at h9
                rw [hil] at h9
                exact h9
              have HN7 : Hid (Six ((put6 ((w6.setCell ⟨rb, 0, none⟩ (.slice a5 n5 c5)).setCell ⟨rb, 1, none⟩ (.int .i64 g')) xb cy).alloc (.cells #[.int .i64 cy.kind, .int .i64 cy.op, .int .i64 cy.a, .int .i64 cy.b, .int .i64 cy.c, .int .i64 cy.k] 25)) w6.heap.size cy) := by
                have h9 := Six.new (put6 ((w6.setCell ⟨rb, 0, none⟩ (.slice a5 n5 c5)).setCell ⟨rb, 1, none⟩ (.int .i64 g')) xb cy) cy
                rw [hS7] at h9
                exact h9
              have HDJ : Hid ((g' = 0 ∧ ∃ acc', lst ++ [cy] = acc'.map capI ∧ (decN (m - (i + 1)) M').pre acc' = decN m R) ∨ (g' ≠ 0 ∧ decN m R = .err g')) := by
                have h9 := HDX.out
                by_cases hg' : g' = 0
                · rw [if_pos hg'] at h9
                  refine Or.inl ⟨hg', acc ++ [y], ?_, h9⟩
                  rw [HAC.out, List.map_append, List.map_cons, List.map_nil, HCY.out]
                · rw [if_neg hg'] at h9
                  exact Or.inr ⟨hg', h9.symm⟩
              clear t0 t1 t2 t3 x0 x1 x2 x3 x4 x5 f0 f1 f2 f3 f4 f5
              obtain ⟨t0, t1, t2, t3⟩ := HT6
              obtain ⟨x0, x1, x2, x3, x4, x5, f0, f1, f2, f3, f4, f5, hx6lt⟩ := hX6'
              clear hd6 b6 HX6 hB6 HB5 HT5 HO5 HX5
              have hil6 : i ≤ 1000000 := by omega
              go_wp2_with (at_builtin; refine wpList_append_own _ rfl _ _ 32 rfl (rb + 1) 25 i0 (.agg #[.int .i64 0, .int .i64 0, .int .i64 0, .int .i64 0, .int .i64 0, .int .i64 0]) 6 48 Try.underlying32 hi hz0 hz1 hz2 rfl (by decide) _ _ _ rfl HOA.out ⟨w6.heap.size, 0, none⟩ 1 1 (ics [cy]) rfl rfl ?c1 (ic_one cy) ?c3 ?c4 ?c5 ?_)
              case c1 =>
                intro j u hj
                rw [addn, Nat.zero_add]
                match j, hj with
                | 0, hj => simp [ics, ic] at hj; subst hj; exact HN7.out.c0
                | 1, hj => simp [ics, ic] at hj; subst hj; exact HN7.out.c1
                | 2, hj => simp [ics, ic] at hj; subst hj; exact HN7.out.c2
                | 3, hj => simp [ics, ic] at hj; subst hj; exact HN7.out.c3
                | 4, hj => simp [ics, ic] at hj; subst hj; exact HN7.out.c4
                | 5, hj => simp [ics, ic] at hj; subst hj; exact HN7.out.c5
              case c3 => unfold maxLen; omega
              case c4 => omega
              case c5 => exact HTA.out.lt
              intro v' w8 hown' hgrow _
              have hle8 : (lst ++ [cy]).length = i + 1 := by simp [hil]
              have HO8 : IOwn w8 (rb + 1) v' (lst ++ [cy]) := by
                show w8.ownsRow _ _ _ _ _ _
                rw [hle8, ics_app]
                exact hown'
              have HB8 : Hid (Below w.heap.size w w8) := HBA.out.grown hgrow HBA.out.size (fun k hk => by have := (World.ownsRow.lt HOA.out k hk).1; omega)
              have HT8 : Hid (Two w8 rb (.slice a5 n5 c5) (.int .i64 g')) := HTA.out.keep (hgrow.block rb HTA.out.lt (fun e => by have := (World.ownsRow.lt HOA.out rb e.symm).1; omega))
              obtain ⟨a8, c8, rfl⟩ := HO8.sl
              rw [hle8] at HO8
              rw [hle8]
              have HO9 : Hid (IOwn w8 (rb + 1) (.slice a8 (i + 1) c8) (lst ++ [cy])) := HO8
              clear hown' hgrow HO8 t0 t1 t2 t3 x0 x1 x2 x3 x4 x5 f0 f1 f2 f3 f4 f5
              go_wp2
              go_roundw
              case rel => exact ⟨i + 1, lst ++ [cy], M', g', a5, n5, c5, a8, c8, hlt, hle8, by go_num, rfl, HO9, HT8, HD7, by omega, HB8, HDJ⟩
              case measure => simp [intOf]; omega
          · have HRR2 : Hid (([], g1) = RR) := by
              have h9 := HDN.out
              rw [decN_u hlt HU.out hg1 acc] at h9
              have := HRR.out
              rw [← h9] at this
              exact this
            obtain ⟨te0, te1, _, _⟩ := HT4.out
            go_wp2_with fail
            refine (dend_err a2 n2 c2 g1 _ (by simp [hg1])).mono ?_
            rintro e w5 ⟨rfl, b5⟩
            have HT5 : Hid (Two w5 rb (.slice a2 n2 c2) (.int .i64 g1)) := HT4.out.keep (b5.block _ HT4.out.lt)
            have HB5 : Hid (Below w.heap.size w w5) := HB4.out.trans (b5.mono HB4.out.size)
            obtain ⟨tf0, tf1, _, _⟩ := HT5.out
            clear b5 te0 te1
            go_wp2_with fail
            all_goals first | (exfalso; simp_all; done) | skip
            refine (dend_err a2 n2 c2 g1 _ (by simp [hg1])).mono ?_
            rintro e w6 ⟨rfl, b6⟩
            have HB6 : Hid (Below w.heap.size w w6) := HB5.out.trans (b6.mono HB5.out.size)
            clear b6 tf0 tf1
            go_wp2
            go_ret2
            rw [← HRR2.out]
            exact ⟨HB6.out, _, rfl, ISl.nil _⟩
        · have hie : i = m := by omega
          subst hie
          have HDM : Hid (decN i R = .ok acc M) := by
            have := HDN.out
            rw [Nat.sub_self] at this
            rw [← this]
            show _ = _
            simp [decN, DR.pre]
          have HRR2 : Hid ((if 0 < M.length then ([], 21) else if (checkL acc cells).2 = 0 then (acc, 0) else ([], (checkL acc cells).2)) = RR) := by
            have := HRR.out
            rw [HDM.out] at this
            exact this
          have HRK : Hid (∀ x ∈ acc, r64 x.k) := (decN_back i R acc M HDM.out).2.1
          have HNM : Hid (n' = M.length) := by
            rcases HD.out with ⟨_, h, _⟩ | ⟨h, _⟩
            · exact h
            · exact absurd rfl h
          have hn9 : n' ≤ 1000000 := by have := HNM.out; omega
          obtain ⟨t0, t1, _, _⟩ := HT.out
          have HCK : Hid (∀ V, Below wr.heap.size wr V → Calls Try.prog 15 #[.slice la i lc, .int .i64 cells] V fun e w' => e = .returned (.tuple #[.int .i64 (checkL acc cells).1, .int .i64 (checkL acc cells).2]) ∧ Below V.heap.size V w') := by
            intro V hV
            have h9 := refCheck_any lst cells (.slice la i lc) V (HO.out.isl.below hV)
            rw [HAC.out, check_cap] at h9
            exact h9
          by_cases hM : 0 < n'
          · have HRR3 : Hid (([], 21) = RR) := by have := HRR2.out; rw [if_pos (by have := HNM.out; omega)] at this; exact this
            have HE : Hid (∀ V, Calls Try.prog 50 #[.agg #[.slice a' n' c', .int .i64 0]] V fun e w' => e = .returned (.int .i64 21) ∧ Below V.heap.size V w') := fun V => by
              have h9 := dend_ok a' n' c' V (by omega)
              rw [if_pos hM] at h9
              exact h9
            go_wp2_with fail
            refine (HE.out _).mono ?_
            rintro e w5 ⟨rfl, b5⟩
            have HT5 : Hid (Two w5 rb (.slice a' n' c') (.int .i64 0)) := HT.out.keep (b5.block _ HT.out.lt)
            have HB5 : Hid (Below w.heap.size w w5) := HB.out.trans (b5.mono HB.out.size)
            obtain ⟨tf0, tf1, _, _⟩ := HT5.out
            clear b5 t0 t1
            go_wp2_with fail
            refine (HE.out _).mono ?_
            rintro e w6 ⟨rfl, b6⟩
            have HB6 : Hid (Below w.heap.size w w6) := HB5.out.trans (b6.mono HB5.out.size)
            clear b6 tf0 tf1
            go_wp2
            go_ret2
            rw [← HRR3.out]
            exact ⟨HB6.out, _, rfl, ISl.nil _⟩
          · have HRR3 : Hid ((if (checkL acc cells).2 = 0 then (acc, 0) else ([], (checkL acc cells).2)) = RR) := by have := HRR2.out; rw [if_neg (by have := HNM.out; omega)] at this; exact this
            have HE : Hid (∀ V, Calls Try.prog 50 #[.agg #[.slice a' n' c', .int .i64 0]] V fun e w' => e = .returned (.int .i64 0) ∧ Below V.heap.size V w') := fun V => by
              have h9 := dend_ok a' n' c' V (by omega)
              rw [if_neg hM] at h9
              exact h9
            go_wp2_with fail
            refine (HE.out _).mono ?_
            rintro e w5 ⟨rfl, b5⟩
            have HB5 : Hid (Below w.heap.size w w5) := HB.out.trans (b5.mono HB.out.size)
            have B5 : Hid (Below wr.heap.size wr w5) := b5
            clear b5 t0 t1
            go_wp2_with fail
            refine (HCK.out _ B5.out).mono ?_
            rintro e w6 ⟨rfl, b6⟩
            have HB6 : Hid (Below w.heap.size w w6) := HB5.out.trans (b6.mono HB5.out.size)
            have HI6 : Hid (ISl w6 (.slice la i lc) lst) := (HO.out.isl.below B5.out).below b6
            obtain ⟨k1, hk1⟩ : ∃ z, (checkL acc cells).1 = z := ⟨_, rfl⟩
            obtain ⟨k2, hk2⟩ : ∃ z, (checkL acc cells).2 = z := ⟨_, rfl⟩
            have HK2 : Hid ((checkL acc cells).2 = k2) := hk2
            rw [hk2] at HRR3
            rw [hk1, hk2]
            clear hk1 hk2 b6
            by_cases h0 : k2 = 0
            · subst h0
              have HRR4 : Hid ((acc, 0) = RR) := by have := HRR3.out; rw [if_pos rfl] at this; exact this
              rw [HAC.out, cap_same acc cells HK2.out HRK.out] at HI6
              go_wp2
              go_ret2
              rw [← HRR4.out]
              exact ⟨HB6.out, _, rfl, HI6.out⟩
            · have HRR4 : Hid (([], k2) = RR) := by have := HRR3.out; rw [if_neg h0] at this; exact this
              go_wp2
              all_goals first | (exfalso; simp_all; done) | skip
              go_ret2
              rw [← HRR4.out]
              exact ⟨HB6.out, _, rfl, ISl.nil _⟩
      · have hdn : decN m R = .err g := (HG.out.resolve_left (fun h => hg h.1)).2
        have HRR2 : Hid (([], g) = RR) := by
          have := HRR.out
          rw [hdn] at this
          exact this
        clear HG hdn
        by_cases hlt : i < m
        · obtain ⟨te0, te1, _, _⟩ := HT.out
          go_wp2_with fail
          refine (dend_err a' n' c' g _ (by simp [hg])).mono ?_
          rintro e w5 ⟨rfl, b5⟩
          have HT5 : Hid (Two w5 rb (.slice a' n' c') (.int .i64 g)) := HT.out.keep (b5.block _ HT.out.lt)
          have HB5 : Hid (Below w.heap.size w w5) := HB.out.trans (b5.mono HB.out.size)
          obtain ⟨tf0, tf1, _, _⟩ := HT5.out
          clear b5 te0 te1
          go_wp2_with fail
          all_goals first | (exfalso; simp_all; done) | skip
          refine (dend_err a' n' c' g _ (by simp [hg])).mono ?_
          rintro e w6 ⟨rfl, b6⟩
          have HB6 : Hid (Below w.heap.size w w6) := HB5.out.trans (b6.mono HB5.out.size)
          clear b6 tf0 tf1
          go_wp2
          go_ret2
          rw [← HRR2.out]
          exact ⟨HB6.out, _, rfl, ISl.nil _⟩
        · obtain ⟨te0, te1, _, _⟩ := HT.out
          go_wp2_with fail
          refine (dend_err a' n' c' g _ (by simp [hg])).mono ?_
          rintro e w5 ⟨rfl, b5⟩
          have HT5 : Hid (Two w5 rb (.slice a' n' c') (.int .i64 g)) := HT.out.keep (b5.block _ HT.out.lt)
          have HB5 : Hid (Below w.heap.size w w5) := HB.out.trans (b5.mono HB.out.size)
          obtain ⟨tf0, tf1, _, _⟩ := HT5.out
          clear b5 te0 te1
          go_wp2_with fail
          all_goals first | (exfalso; simp_all; done) | skip
          refine (dend_err a' n' c' g _ (by simp [hg])).mono ?_
          rintro e w6 ⟨rfl, b6⟩
          have HB6 : Hid (Below w.heap.size w w6) := HB5.out.trans (b6.mono HB5.out.size)
          clear b6 tf0 tf1
          go_wp2
          go_ret2
          rw [← HRR2.out]
          exact ⟨HB6.out, _, rfl, ISl.nil _⟩
  · rw [hk] at hp hRR
    obtain ⟨a1, n1, c1, rfl, hk0, b1⟩ := hp
    have B1 : Hid (Below w.heap.size w w1) := b1
    have HRR : Hid (([], k) = RR) := hRR
    have hkk : ¬ k = 0 := by simpa using hk0
    obtain ⟨rb, hrb⟩ : ∃ z, w1.heap.size = z := ⟨_, rfl⟩
    have HT0 : Hid (Two (w1.alloc (.cells #[.slice a1 n1 c1, .int .i64 k] 78)) rb (.slice a1 n1 c1) (.int .i64 k)) := Two.new w1 rb hrb _ _ _
    have HB0 : Hid (Below w.heap.size w (w1.alloc (.cells #[.slice a1 n1 c1, .int .i64 k] 78))) := B1.out.alloc B1.out.size _
    obtain ⟨W0, hW0⟩ : ∃ Z, w1.alloc (.cells #[.slice a1 n1 c1, .int .i64 k] 78) = Z := ⟨_, rfl⟩
    rw [hW0] at HT0 HB0
    clear b1 hk hRR
    go_wp2
    try rw [hrb]
    try rw [hW0]
    clear hrb hW0
    go_loopw [8, 9] (fun lv t wr => lv = .slice none 0 0 ∧ t = .int .i64 0 ∧ wr = W0) (fun _ _ _ => 0)
    case atStart => exact ⟨rfl, rfl, rfl⟩
    case round =>
      obtain ⟨rfl, rfl, rfl⟩ := hrel
      obtain ⟨te0, te1, _, _⟩ := HT0.out
      go_wp2_with fail
      refine (dend_err a1 n1 c1 k _ (by simp [hkk])).mono ?_
      rintro e w5 ⟨rfl, b5⟩
      have HT5 : Hid (Two w5 rb (.slice a1 n1 c1) (.int .i64 k)) := HT0.out.keep (b5.block _ HT0.out.lt)
      have HB5 : Hid (Below w.heap.size w w5) := HB0.out.trans (b5.mono HB0.out.size)
      obtain ⟨tf0, tf1, _, _⟩ := HT5.out
      clear b5 te0 te1
      go_wp2_with fail
      all_goals first | (exfalso; simp_all; done) | skip
      refine (dend_err a1 n1 c1 k _ (by simp [hkk])).mono ?_
      rintro e w6 ⟨rfl, b6⟩
      have HB6 : Hid (Below w.heap.size w w6) := HB5.out.trans (b6.mono HB5.out.size)
      clear b6 tf0 tf1
      go_wp2
      go_ret2
      rw [← HRR.out]
      exact ⟨HB6.out, _, rfl, ISl.nil _⟩
end Go.Proofs.Ythcidcfaodjbjaa
