/- Slices that came in, wherever they lie; the document's own Sum, Low and Seal. -/
import Derived.Test.YtjdcoiekbnefkacTurnP
namespace Go.Proofs.Ytjdcoiekbnefkac
open Go.RowKit
set_option linter.unusedVariables false

/-- the slice v reads as the bytes L, wherever it lies -/
def RdX (w : World) (v : Value) (L : List UInt8) : Prop :=
  (v = .slice none 0 0 ∧ L = []) ∨ ∃ x cap, v = .slice (some x) L.length cap ∧ L.length ≤ cap ∧ cap ≤ maxLen ∧ ∀ i (h : i < L.length), w.cell? (x.add i) = some (.int .u8 (L[i].toNat : Int))

theorem cellX_lt {w : World} {a : Addr} {v : Value} (h : w.cell? a = some v) : a.block < w.heap.size := by
  rcases Nat.lt_or_ge a.block w.heap.size with h1 | h1
  · exact h1
  · exfalso; simp [World.cell?, Array.getElem?_eq_none h1] at h

theorem RdX.below {w w' : World} {v : Value} {L : List UInt8} (h : RdX w v L) (hb : Below w.heap.size w w') : RdX w' v L := by
  rcases h with h | ⟨x, cap, e1, e2, e3, e4⟩
  · exact Or.inl h
  · refine Or.inr ⟨x, cap, e1, e2, e3, fun i hi => ?_⟩
    have h5 := e4 i hi
    rw [hb.cell (p := x.add i) (cellX_lt h5)]
    exact h5
theorem addr_add (b off i : Nat) : (⟨b, off, none⟩ : Addr).add i = ⟨b, off + i, none⟩ := by unfold Addr.add; split <;> simp_all
theorem Rd.x {w : World} {v : Value} {L : List UInt8} (h : Rd w v L) : RdX w v L := by
  rcases h with h | ⟨b, off, cap, e1, e2, e2', e3, e4⟩
  · exact Or.inl h
  · exact Or.inr ⟨⟨b, off, none⟩, cap, e1, e2, e2', fun i hi => by rw [addr_add]; exact e4 i hi⟩
theorem RdX.str {w : World} {v : Value} {L : List UInt8} (h : RdX w v L) : (convert 26 9 v).run Try.prog w = .ok (.string ⟨L.toArray⟩) w := by
  rcases h with ⟨rfl, rfl⟩ | ⟨x, cap, rfl, e2, e3, e4⟩
  · exact run_convert_bytes_nil w 26 5 (by kernel_rfl) (by kernel_rfl) 0 0 9 (by kernel_rfl)
  · exact run_convert_bytes_back w 26 9 5 x cap L (by kernel_rfl) (by kernel_rfl) (by kernel_rfl) e4
theorem rdx_slice {w : World} {v : Value} {L : List UInt8} (h : RdX w v L) : ∃ a c, v = .slice a L.length c := by
  rcases h with ⟨rfl, rfl⟩ | ⟨x, cap, rfl, _⟩
  · exact ⟨_, _, rfl⟩
  · exact ⟨_, _, rfl⟩

set_option maxHeartbeats 1000000 in
theorem sum29_x (x : Addr) (cap : Nat) (L : List UInt8) (w : World) (hcap : L.length ≤ cap) (hm : cap ≤ maxLen) (hc : Hid (∀ i (h : i < L.length), w.cell? (x.add i) = some (.int .u8 (L[i].toNat : Int)))) :
    Calls Try.prog 29 #[.slice (some x) L.length cap] w fun e w' => e = .returned (.int .u64 (sumB L : Nat)) ∧ w' = w := by
  unfold maxLen at hm
  go_enter Try.func29, Try.ntmps29
  go_wp2
  go_loop [3, 8] (fun s i => ∃ k : Nat, k ≤ L.length ∧ s = .int .u64 (sumB (L.take k) : Nat) ∧ i = .int .i64 k) (fun _ i => L.length - (intOf i).toNat)
  case atStart => exact ⟨0, Nat.zero_le _, by rw [List.take_zero, sum_start], rfl⟩
  case round =>
    obtain ⟨k, hk, rfl, rfl⟩ := hrel
    by_cases hlt : k < L.length
    · have hcell := hc.out k hlt
      have h255 : L[k].toNat ≤ 255 := by have := L[k].toNat_lt; omega
      have HX : Hid _ := sum_wrap (sumB (L.take k)) L[k] (sumB_lt _)
      have HT : Hid _ := sumB_snoc (L.take k) L[k]
      go_wp2
      go_round
      case rel => exact ⟨k + 1, by omega, by rw [take_snoc L k hlt, HT.out, ← HX.out], by go_num⟩
      case measure => simp [intOf]; omega
    · go_wp2
      go_ret
      exact ⟨by rw [List.take_of_length_le (by omega)]; rfl, rfl⟩

set_option maxHeartbeats 1000000 in
theorem sum30_x (x : Addr) (cap : Nat) (L : List UInt8) (w : World) (hcap : L.length ≤ cap) (hm : cap ≤ maxLen) (hc : Hid (∀ i (h : i < L.length), w.cell? (x.add i) = some (.int .u8 (L[i].toNat : Int)))) :
    Calls Try.prog 30 #[.slice (some x) L.length cap] w fun e w' => e = .returned (.int .u64 (sumB L : Nat)) ∧ w' = w := by
  unfold maxLen at hm
  go_enter Try.func30, Try.ntmps30
  go_wp2
  go_loop [3, 4] (fun s i => ∃ k : Nat, k ≤ L.length ∧ s = .int .u64 (sumB (L.take k) : Nat) ∧ i = .int .i64 k) (fun _ i => L.length - (intOf i).toNat)
  case atStart => exact ⟨0, Nat.zero_le _, by rw [List.take_zero, sum_start], rfl⟩
  case round =>
    obtain ⟨k, hk, rfl, rfl⟩ := hrel
    by_cases hlt : k < L.length
    · have hcell := hc.out k hlt
      have h255 : L[k].toNat ≤ 255 := by have := L[k].toNat_lt; omega
      have HX : Hid _ := sum_wrap (sumB (L.take k)) L[k] (sumB_lt _)
      have HT : Hid _ := sumB_snoc (L.take k) L[k]
      go_wp2
      go_round
      case rel => exact ⟨k + 1, by omega, by rw [take_snoc L k hlt, HT.out, ← HX.out], by go_num⟩
      case measure => simp [intOf]; omega
    · go_wp2
      go_ret
      exact ⟨by rw [List.take_of_length_le (by omega)]; rfl, rfl⟩

set_option maxHeartbeats 400000 in
theorem sum30_nil (w : World) :
    Calls Try.prog 30 #[.slice none 0 0] w fun e w' => e = .returned (.int .u64 (sumB [] : Nat)) ∧ w' = w := by
  go_enter Try.func30, Try.ntmps30
  go_wp2
  go_rounds 1
  go_ret
  exact ⟨by rw [sum_start]; rfl, rfl⟩

theorem sum29_any (v : Value) (L : List UInt8) (w : World) (h : RdX w v L) :
    Calls Try.prog 29 #[v] w fun e w' => e = .returned (.int .u64 (sumB L : Nat)) ∧ w' = w := by
  rcases h with ⟨rfl, rfl⟩ | ⟨x, cap, rfl, e2, e3, e4⟩
  · exact sum_nil w
  · exact sum29_x x cap L w e2 e3 e4
theorem sum30_any (v : Value) (L : List UInt8) (w : World) (h : RdX w v L) :
    Calls Try.prog 30 #[v] w fun e w' => e = .returned (.int .u64 (sumB L : Nat)) ∧ w' = w := by
  rcases h with ⟨rfl, rfl⟩ | ⟨x, cap, rfl, e2, e3, e4⟩
  · exact sum30_nil w
  · exact sum30_x x cap L w e2 e3 e4

theorem Own.parts {w : World} {base : Nat} {v : Value} {L : List UInt8} (h : Own w base v L) (hL : 0 < L.length) :
    ∃ g cap, v = .slice (some ⟨g, 0, none⟩) L.length cap ∧ base ≤ g ∧ g < w.heap.size ∧ L.length ≤ cap ∧ cap ≤ maxLen ∧ ∀ j u, (bc L)[j]? = some u → w.cell? ((⟨g, 0, none⟩ : Addr).add j) = some u := by
  have hlt := World.ownsRow.lt h
  have hce := fun g => World.ownsRow.cells h (g := g)
  rcases h.2 with ⟨_, h9⟩ | ⟨g, cap, cur, h9, h10, _, h11, h12, _⟩
  · omega
  · subst h9
    exact ⟨g, cap, rfl, h10, (hlt g rfl).2, h11, h12, fun j u hj => hce g rfl j u hj⟩

set_option maxRecDepth 100000 in
set_option maxHeartbeats 1000000 in
/-- the document's Low -/
theorem rlow_any (n k : Nat) (z : Int) (w : World) (hn : n ≤ 18446744073709551615) (hk : k ≤ 8) (hz : z = k) :
    Calls Try.prog 48 #[.int .u64 (n : Int), .int .i64 z] w fun e w' => NewPost w (lowB n k) e w' := by
  subst hz
  obtain ⟨i0, hi, hz0, hz1, hz2⟩ := info_parts info5
  go_enter Try.func48, Try.ntmps48
  go_wp2
  go_loopw [0, 5, 6] (fun t v i wr => ∃ (j m : Nat) (P : List UInt8), j ≤ k ∧ m ≤ 18446744073709551615 ∧ t = .int .u64 (m : Int) ∧ i = .int .i64 (j : Int) ∧ Hid (P.length = j) ∧ Hid (Own wr w.heap.size v P) ∧ Hid (P ++ lowB m (k - j) = lowB n k) ∧ Hid (Below w.heap.size w wr)) (fun _ _ i _ => k - (intOf i).toNat)
  case atStart => exact ⟨0, n, [], by omega, hn, rfl, rfl, rfl, World.ownsRow_nil _ _ _ _, rfl, Below.refl _ _⟩
  case round =>
    obtain ⟨j, m, P, hj, hm, rfl, rfl, HP, HO, HL, HB⟩ := hrel
    by_cases hlt : j < k
    · obtain ⟨c, hc⟩ : ∃ c : UInt8, UInt8.ofNat (m % 256) = c := ⟨_, rfl⟩
      have HB1 : Hid (((m : Int) % 256) = (c.toNat : Int)) := by show _ = _; rw [← hc]; simp [UInt8.toNat_ofNat']
      have HN : Hid (P ++ [c] ++ lowB (m / 256) (k - (j + 1)) = lowB n k) := by
        show _ = _
        rw [← HL.out, show k - j = (k - (j + 1)) + 1 by omega, lowB_succ, hc]
        simp
      have hsz := HB.out.size
      clear hc
      go_wp2_with (at_builtin; refine wpList_append_own _ rfl _ _ 26 rfl w.heap.size 5 i0 (.int .u8 0) 1 1 Try.underlying26 hi hz0 hz1 hz2 rfl (by decide) _ _ _ rfl (HO.out.alloc _) ⟨wr.heap.size, 0, none⟩ 1 1 (bc [c]) rfl rfl ?c1 ?c2 ?c3 ?c4 ?c5 ?_)
      case c1 =>
        intro j u hj
        match j, hj with
        | 0, hj => simp [bc] at hj; subst hj; simp [Addr.add]; have := HB1.out; omega
      case c2 => exact bc_one _
      case c3 => have := HP.out; unfold maxLen; omega
      case c4 => have := HP.out; omega
      case c5 => simp; omega
      · intro v' w1 hown' hgrow _
        have HO2 : Hid (Own w1 w.heap.size v' (P ++ [c])) := by
          show Own _ _ _ _
          unfold Own
          rw [List.length_append, bc_app]
          exact hown'
        have HB2 : Hid (Below w.heap.size w w1) := (HB.out.alloc hsz _).grown hgrow (by simp; omega) (fun k hk => (World.ownsRow.lt HO.out k hk).1)
        clear hown' hgrow
        go_wp2
        go_roundw
        case rel => exact ⟨j + 1, m / 256, P ++ [c], by omega, by omega, by go_num, by go_num, by show _ = _; rw [List.length_append, HP.out]; rfl, HO2, HN, HB2⟩
        case measure => simp [intOf]; omega
    · have hjk : j = k := by omega
      subst hjk
      have HF : Hid (lowB n j = P) := by
        have := HL.out
        rw [Nat.sub_self] at this
        rw [← this]; exact List.append_nil _
      go_wp2
      go_ret
      exact ⟨_, rfl, by rw [HF.out]; exact HO.out, HB.out⟩
end Go.Proofs.Ytjdcoiekbnefkac
