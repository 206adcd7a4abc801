/- The document's own Seal. -/
import Derived.Test.YtjdcoiekbnefkacRefS
import Derived.Lib.SlBytesConst
import Derived.ArgAppend
namespace Go.Proofs.Ytjdcoiekbnefkac
open Go.RowKit
set_option linter.unusedVariables false

set_option maxHeartbeats 400000 in
theorem rseal_big (a : Option Addr) (n c : Nat) (w : World) (hn : 1048576 < n) (hm : n ≤ maxLen) :
    Calls Try.prog 26 #[.slice a n c] w fun e w' => e = .returned (.tuple #[.slice none 0 0, .int .i64 23]) ∧ w' = w := by
  unfold maxLen at hm
  go_enter Try.func26, Try.ntmps26
  go_wp2
  go_ret2
  exact ⟨rfl, rfl⟩

def outrC : Array Value := #[.int .u8 111, .int .u8 117, .int .u8 116, .int .u8 114]
theorem outr_conv (w : World) : (convert 26 26 (.slice (some ⟨w.heap.size, 0, none⟩) 4 4)).run Try.prog (w.alloc (.cells #[.int .u8 111, .int .u8 117, .int .u8 116, .int .u8 114] 5)) = .ok (.slice (some ⟨w.heap.size, 0, none⟩) 4 4) (w.alloc (.cells outrC 5 (4, 5))) :=
  Lib.run_convert_bytes_const w 26 5 #[.int .u8 111, .int .u8 117, .int .u8 116, .int .u8 114] 4 4 Try.underlying26 Try.underlying5
theorem outr_cells (w : World) (j : Nat) (u : Value) (h : (bc outr)[j]? = some u) : (w.alloc (.cells outrC 5 (4, 5))).cell? ((⟨w.heap.size, 0, none⟩ : Addr).add j) = some u := by
  have hn := heap_alloc_new w (.cells outrC 5 (4, 5))
  obtain ⟨h1, rfl⟩ := bc_get outr j u h
  rw [addr_add]
  have h2 : outrC[j]? = some (.int .u8 (outr[j].toNat : Int)) := by
    match j, h1 with
    | 0, _ => rfl
    | 1, _ => rfl
    | 2, _ => rfl
    | 3, _ => rfl
  rw [Nat.zero_add]
  unfold World.cell?
  show (match (w.alloc (.cells outrC 5 (4, 5))).heap[w.heap.size]? with | some (.cells c _ _) => c[j]? | _ => none) = _
  rw [hn]
  exact h2

set_option maxRecDepth 100000 in
set_option maxHeartbeats 2000000 in
theorem rseal_walk (a : Option Addr) (c : Nat) (L : List UInt8) (w : World) (hL : L.length ≤ 1048576) (h : RdX w (.slice a L.length c) L)
    (ha : a = none ∧ L = [] ∧ c = 0 ∨ ∃ x, a = some x ∧ ∀ i (h : i < L.length), w.cell? (x.add i) = some (.int .u8 (L[i].toNat : Int))) :
    Calls Try.prog 26 #[.slice a L.length c] w fun e w' => SealPost w L e w' := by
  have HA : Hid (a = none ∧ L = [] ∧ c = 0 ∨ ∃ x, a = some x ∧ ∀ i (h : i < L.length), w.cell? (x.add i) = some (.int .u8 (L[i].toNat : Int))) := ha
  have HR : Hid (RdX w (.slice a L.length c) L) := h
  clear h ha
  obtain ⟨i0, hi, hz0, hz1, hz2⟩ := info_parts info5
  obtain ⟨n, hn⟩ : ∃ n, L.length = n := ⟨_, rfl⟩
  rw [hn] at hL HR ⊢
  have HN : Hid (L.length = n) := hn
  clear hn
  have hsum : sumB L ≤ 18446744073709551615 := by have := sumB_lt L; rw [M64_eq] at this; omega
  have hcv := outr_conv w
  go_enter Try.func26, Try.ntmps26
  go_wp2_with fail
  refine (rlow_any n 4 4 _ (by omega) (by omega) rfl).mono ?_
  rintro e w1 ⟨v1, rfl, o1, b1⟩
  have B1 : Hid (Below w.heap.size w w1) := ((Below.refl _ _).alloc (Nat.le_refl _) _).trans (b1.mono (by simp))
  have O0 : Hid (∀ j u, (bc outr)[j]? = some u → w1.cell? ((⟨w.heap.size, 0, none⟩ : Addr).add j) = some u) := by
    intro j u hj
    have h8 := outr_cells w j u hj
    rw [b1.cell (p := (⟨w.heap.size, 0, none⟩ : Addr).add j) (cellX_lt h8)]
    exact h8
  obtain ⟨q, hq⟩ : ∃ q, lowB n 4 = q := ⟨_, rfl⟩
  have hql : q.length = 4 := by rw [← hq]; exact lowB_len 4 n
  rw [hq] at o1
  obtain ⟨g1, c1, rfl, hg1, hg1s, hc1, hc1m, hce1⟩ := o1.parts (by omega)
  have HC1 : Hid (∀ j u, (bc q)[j]? = some u → w1.cell? ((⟨g1, 0, none⟩ : Addr).add j) = some u) := hce1
  have HQ : Hid (lowB n 4 = q) := hq
  rw [hql]
  have hw1 := B1.out.size
  have hw1' : w.heap.size < w1.heap.size := by simp at hg1; omega
  clear o1 b1 hq hce1
  go_wp2_with (at_builtin; refine wpList_append_grows _ rfl _ _ 26 rfl 5 i0 (.int .u8 0) 1 1 Try.underlying26 hi hz0 hz1 hz2 rfl (by decide) (some ⟨w.heap.size, 0, none⟩) 4 4 (bc outr) rfl ?c8 rfl ?c9 ⟨g1, 0, none⟩ 4 c1 (bc q) rfl ?c0 ?c1 ?c2 (by decide) ?c3 ?c4 ?_)
  case c8 => intro e9; cases e9
  case c9 => intro b9 e9; cases e9; exact O0.out
  case c0 => rw [bc_len, Nat.mul_one]; exact hql
  case c1 => exact HC1.out
  case c2 => exact bc_one q
  case c3 => unfold maxLen; decide
  case c4 => decide
  · intro v2 w2 hown2 hgrow2
    have B2 : Hid (Below w.heap.size w w2) := B1.out.grown hgrow2 (by omega) (fun k hk => by cases hk)
    obtain ⟨H1, hH1⟩ : ∃ H1, outr ++ q = H1 := ⟨_, rfl⟩
    have hl1 : H1.length = 8 := by rw [← hH1, List.length_append, hql]; rfl
    have O2 : Hid (Own w2 w.heap.size v2 H1) := by
      show Own _ _ _ _
      refine Own.mono (base := w1.heap.size) ?_ hw1
      unfold Own
      rw [hl1, ← hH1, bc_app]
      exact hown2
    have HH1 : Hid (outr ++ q = H1) := hH1
    have hw2 := B2.out.size
    clear hown2 hgrow2 hH1
    go_wp2_with fail
    refine (sum30_any _ L _ (HR.out.below B2.out)).mono ?_
    rintro e w3 ⟨rfl, hw3⟩
    rw [hw3]
    clear hw3 w3
    go_wp2_with fail
    refine (rlow_any (sumB L) 8 8 _ hsum (by omega) rfl).mono ?_
    rintro e w4 ⟨v4, rfl, o4, b4⟩
    have B4 : Hid (Below w.heap.size w w4) := B2.out.trans (b4.mono hw2)
    have O24 : Hid (Own w4 w.heap.size v2 H1) := O2.out.below b4
    obtain ⟨r, hr⟩ : ∃ r, lowB (sumB L) 8 = r := ⟨_, rfl⟩
    have hrl : r.length = 8 := by rw [← hr]; exact lowB_len 8 _
    rw [hr] at o4
    obtain ⟨g4, c4, rfl, hg4, hg4s, hc4, hc4m, hce4⟩ := o4.parts (by omega)
    have HC4 : Hid (∀ j u, (bc r)[j]? = some u → w4.cell? ((⟨g4, 0, none⟩ : Addr).add j) = some u) := hce4
    have HRR : Hid (lowB (sumB L) 8 = r) := hr
    rw [hrl]
    have hw4 := B4.out.size
    have hown24 := World.ownsRow.lt O24.out
    have HOL : Hid (∀ k, v2.ownBlock = some k → w.heap.size ≤ k) := fun k hk => (hown24 k hk).1
    clear o4 b4 hr hce4 hown24
    go_wp2_with (at_builtin; refine wpList_append_own _ rfl _ _ 26 rfl w.heap.size 5 i0 (.int .u8 0) 1 1 Try.underlying26 hi hz0 hz1 hz2 rfl (by decide) _ _ _ rfl O24.out ⟨g4, 0, none⟩ 8 c4 (bc r) rfl ?d0 ?d1 ?d2 ?d3 ?d4 ?d5 ?_)
    case d0 => rw [bc_len, Nat.mul_one]; exact hrl
    case d1 => exact HC4.out
    case d2 => exact bc_one r
    case d3 => rw [hl1]; unfold maxLen; decide
    case d4 => rw [hl1]; decide
    case d5 => omega
    · intro v5 w5 hown5 hgrow5 _
      have B5 : Hid (Below w.heap.size w w5) := B4.out.grown hgrow5 (by omega) HOL.out
      obtain ⟨H2, hH2⟩ : ∃ H2, H1 ++ r = H2 := ⟨_, rfl⟩
      have hl2 : H2.length = 16 := by rw [← hH2, List.length_append, hl1, hrl]
      have O5 : Hid (Own w5 w.heap.size v5 H2) := by
        show Own _ _ _ _
        unfold Own
        rw [hl2, ← hH2, bc_app]
        exact hown5
      have HSE : Hid (sealB L = H2 ++ L) := by show _ = _; unfold sealB; rw [HN.out, HQ.out, HRR.out, HH1.out, hH2]
      have hw5 := B5.out.size
      have hown55 := World.ownsRow.lt O5.out
      have HOL5 : Hid (∀ k, v5.ownBlock = some k → w.heap.size ≤ k) := fun k hk => (hown55 k hk).1
      clear hown5 hgrow5 hH2 hown55
      rcases HA.out with ⟨rfl, hLe, rfl⟩ | ⟨x, rfl, hc⟩
      · obtain rfl : n = 0 := by have := HN.out; rw [hLe] at this; simpa using this.symm
        have HLE : Hid (L = []) := hLe
        obtain ⟨g5, c5, rfl, _, _, _, _, _⟩ := O5.out.parts (by omega)
        rw [hl2] at O5 ⊢
        clear hLe
        go_wp2
        go_ret2
        exact ⟨_, rfl, by rw [HSE.out, HLE.out, List.append_nil]; exact O5.out, B5.out⟩
      · have HC : Hid (∀ i (h : i < L.length), w.cell? (x.add i) = some (.int .u8 (L[i].toNat : Int))) := hc
        clear hc
        go_wp2_with (at_builtin; refine wpList_append_own _ rfl _ _ 26 rfl w.heap.size 5 i0 (.int .u8 0) 1 1 Try.underlying26 hi hz0 hz1 hz2 rfl (by decide) _ _ _ rfl O5.out x n c (bc L) rfl ?f0 ?f1 ?f2 ?f3 ?f4 ?f5 ?_)
        case f0 => rw [bc_len, Nat.mul_one]; exact HN.out
        case f1 =>
          intro j u hj
          obtain ⟨h1, rfl⟩ := bc_get L j u hj
          have e1 := HC.out j h1
          rw [B5.out.cell (p := x.add j) (cellX_lt e1)]
          exact e1
        case f2 => exact bc_one L
        case f3 => rw [hl2]; unfold maxLen; omega
        case f4 => rw [hl2]; omega
        case f5 => omega
        · intro v6 w6 hown6 hgrow6 _
          have HF : Hid (Own w6 w.heap.size v6 (sealB L)) := by
            show Own _ _ _ _
            rw [HSE.out]
            unfold Own
            rw [List.length_append, bc_app, HN.out, hl2]
            exact hown6
          have HG : Hid (Below w.heap.size w w6) := B5.out.grown hgrow6 (by omega) HOL5.out
          clear hown6 hgrow6
          go_wp2
          go_ret2
          exact ⟨v6, rfl, HF.out, HG.out⟩

theorem rseal_any (v : Value) (L : List UInt8) (w : World) (hL : L.length ≤ 1048576) (h : RdX w v L) :
    Calls Try.prog 26 #[v] w fun e w' => SealPost w L e w' := by
  have h' := h
  rcases h with ⟨rfl, rfl⟩ | ⟨x, cap, rfl, e2, e3, e4⟩
  · exact rseal_walk none 0 [] w hL h' (Or.inl ⟨rfl, rfl, rfl⟩)
  · exact rseal_walk _ cap L w hL h' (Or.inr ⟨x, rfl, e4⟩)
end Go.Proofs.Ytjdcoiekbnefkac
