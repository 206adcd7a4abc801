/- Three heaps side by side. -/
import Derived.Test.YtlcgoobjpnpfhabSplP
import Derived.Test.YtlcgoobjpnpfhabOwn
import Derived.Test.YtlcgoobjpnpfhabAliv
namespace Go.Proofs.Ytlcgoobjpnpfhab
open Go.RowKit Go.Maps
set_option linter.unusedVariables false

/-- the blocks from lo on below hi -/
def mid (lo hi : Nat) : Nat → Prop := fun k => lo ≤ k ∧ k < hi
def within3 (lo hi a b c : Nat) : Prop := (lo ≤ a ∧ a < hi) ∧ (lo ≤ b ∧ b < hi) ∧ (lo ≤ c ∧ c < hi)
structure H3 (B S1 S2 S3 a1 a2 a3 b1 b2 b3 c1 c2 c3 : Nat) (w : World) (ops na nb nc : List Int) (ma mb mc : Int) : Prop where
  ha : HP w a1 a2 a3 ops na ma
  hb : HP w b1 b2 b3 ops nb mb
  hc : HP w c1 c2 c3 ops nc mc
  ia : within3 B S1 a1 a2 a3
  ib : within3 S1 S2 b1 b2 b3
  ic : within3 S2 S3 c1 c2 c3
  o : B ≤ S1 ∧ S1 ≤ S2 ∧ S2 ≤ S3
section
variable {B S1 S2 S3 a1 a2 a3 b1 b2 b3 c1 c2 c3 : Nat} {w : World} {ops na nb nc : List Int} {ma mb mc : Int}
theorem H3.below (h : H3 B S1 S2 S3 a1 a2 a3 b1 b2 b3 c1 c2 c3 w ops na nb nc ma mb mc) {w' : World} (hb : Below w.heap.size w w') : H3 B S1 S2 S3 a1 a2 a3 b1 b2 b3 c1 c2 c3 w' ops na nb nc ma mb mc :=
  ⟨h.ha.below hb, h.hb.below hb, h.hc.below hb, h.ia, h.ib, h.ic, h.o⟩
theorem H3.addA (h : H3 B S1 S2 S3 a1 a2 a3 b1 b2 b3 c1 c2 c3 w ops na nb nc ma mb mc) (k n : Int) (hm : 0 ≤ ma ∧ ma ≤ 9223372036854775807) :
    Calls Try.prog 16 #[.pointer (some ⟨a1, 0, none⟩), .int .i64 k, .int .i64 n] w fun e w' => e = .returned (.bool (inB ops.length k)) ∧ H3 B S1 S2 S3 a1 a2 a3 b1 b2 b3 c1 c2 c3 w' ops (addL ops na k n) nb nc (addM ops.length ma k) mb mc ∧ Ch (mid B S3) w w' := by
  obtain ⟨ha, hb, hc, ia, ib, ic, o⟩ := h
  refine (hadd_any k n hm w ha).mono ?_
  rintro e w' ⟨rfl, k1, k2⟩
  unfold within3 at *
  have hn : ∀ {lo : Nat} (x : Nat), S1 ≤ x → ¬ hw a1 a3 x := fun {_} x hx q => by rcases q with rfl | rfl <;> omega
  exact ⟨rfl, ⟨k1, hb.ch k2 (hn (lo := 0) _ ib.1.1) (hn (lo := 0) _ ib.2.1.1) (hn (lo := 0) _ ib.2.2.1), hc.ch k2 (hn (lo := 0) _ (by omega)) (hn (lo := 0) _ (by omega)) (hn (lo := 0) _ (by omega)), ia, ib, ic, o⟩, k2.mono (fun x q => by unfold mid; rcases q with rfl | rfl <;> omega)⟩
theorem H3.addB (h : H3 B S1 S2 S3 a1 a2 a3 b1 b2 b3 c1 c2 c3 w ops na nb nc ma mb mc) (k n : Int) (hm : 0 ≤ mb ∧ mb ≤ 9223372036854775807) :
    Calls Try.prog 16 #[.pointer (some ⟨b1, 0, none⟩), .int .i64 k, .int .i64 n] w fun e w' => e = .returned (.bool (inB ops.length k)) ∧ H3 B S1 S2 S3 a1 a2 a3 b1 b2 b3 c1 c2 c3 w' ops na (addL ops nb k n) nc ma (addM ops.length mb k) mc ∧ Ch (mid B S3) w w' := by
  obtain ⟨ha, hb, hc, ia, ib, ic, o⟩ := h
  refine (hadd_any k n hm w hb).mono ?_
  rintro e w' ⟨rfl, k1, k2⟩
  unfold within3 at *
  have hn : ∀ x, x < S1 → ¬ hw b1 b3 x := fun x hx q => by rcases q with rfl | rfl <;> omega
  have hn2 : ∀ x, S2 ≤ x → ¬ hw b1 b3 x := fun x hx q => by rcases q with rfl | rfl <;> omega
  exact ⟨rfl, ⟨ha.ch k2 (hn _ (by omega)) (hn _ (by omega)) (hn _ (by omega)), k1, hc.ch k2 (hn2 _ (by omega)) (hn2 _ (by omega)) (hn2 _ (by omega)), ia, ib, ic, o⟩, k2.mono (fun x q => by unfold mid; rcases q with rfl | rfl <;> omega)⟩
theorem H3.addC (h : H3 B S1 S2 S3 a1 a2 a3 b1 b2 b3 c1 c2 c3 w ops na nb nc ma mb mc) (k n : Int) (hm : 0 ≤ mc ∧ mc ≤ 9223372036854775807) :
    Calls Try.prog 16 #[.pointer (some ⟨c1, 0, none⟩), .int .i64 k, .int .i64 n] w fun e w' => e = .returned (.bool (inB ops.length k)) ∧ H3 B S1 S2 S3 a1 a2 a3 b1 b2 b3 c1 c2 c3 w' ops na nb (addL ops nc k n) ma mb (addM ops.length mc k) ∧ Ch (mid B S3) w w' := by
  obtain ⟨ha, hb, hc, ia, ib, ic, o⟩ := h
  refine (hadd_any k n hm w hc).mono ?_
  rintro e w' ⟨rfl, k1, k2⟩
  unfold within3 at *
  have hn : ∀ x, x < S2 → ¬ hw c1 c3 x := fun x hx q => by rcases q with rfl | rfl <;> omega
  exact ⟨rfl, ⟨ha.ch k2 (hn _ (by omega)) (hn _ (by omega)) (hn _ (by omega)), hb.ch k2 (hn _ (by omega)) (hn _ (by omega)) (hn _ (by omega)), k1, ia, ib, ic, o⟩, k2.mono (fun x q => by unfold mid; rcases q with rfl | rfl <;> omega)⟩
end
theorem addM_is (N : Nat) (m k : Int) (h : 0 ≤ m ∧ m ≤ 1000) : addM N m k = m + (if inB N k then 1 else 0) := by
  unfold addM
  split
  · rw [if_pos (by omega)]
  · omega
/-- New's error where there is one -/
def newC (R : List (Int × Int)) : Int := if 4 < R.length then 171 else if rightL R then 0 else 140
theorem new_bad (R : List (Int × Int)) (v : Value) (w : World) (hv : PSl w v R) (h : newC R ≠ 0) : Calls Try.prog 13 #[v] w fun e w' => e = .returned (.tuple #[.pointer none, .int .i64 (newC R)]) ∧ Below w.heap.size w w' := by
  refine (new_any R v w hv).mono ?_
  unfold newC at *
  rintro e w' (⟨h1, rfl, h2⟩ | ⟨h1, h2, rfl, h3⟩ | ⟨h1, h2, _⟩)
  · rw [if_pos h1]; exact ⟨rfl, h2⟩
  · rw [if_neg (by omega), h2]; exact ⟨rfl, h3⟩
  · rw [if_neg (by omega), h2] at h; exact absurd rfl h
def NewQ (R : List (Int × Int)) (w : World) (e : Ending) (w' : World) : Prop := ∃ hb bo bn, e = .returned (.tuple #[.pointer (some ⟨hb, 0, none⟩), .int .i64 0]) ∧ HP w' hb bo bn (R.map Prod.fst) ((R.map Prod.fst).map zeroI) 0 ∧ within3 w.heap.size w'.heap.size hb bo bn ∧ Below w.heap.size w w'
theorem new_ok (R : List (Int × Int)) (v : Value) (w : World) (hv : PSl w v R) (h : newC R = 0) : Calls Try.prog 13 #[v] w (NewQ R w) := by
  refine (new_any R v w hv).mono ?_
  unfold newC at h
  rintro e w' (⟨h1, rfl, h2⟩ | ⟨h1, h2, rfl, h3⟩ | ⟨h1, h2, hb, bo, bn, rfl, h3, h4, h5, h6, h7⟩)
  · rw [if_pos h1] at h; omega
  · rw [if_neg (by omega), h2] at h; simp at h
  · have := h3.lt
    exact ⟨hb, bo, bn, rfl, h3, ⟨⟨h4, this.1⟩, ⟨h5, this.2.1⟩, ⟨h6, this.2.2⟩⟩, h7⟩
theorem newC_zero {R : List (Int × Int)} (h : newC R = 0) : R.length ≤ 4 ∧ ∀ x ∈ R.map Prod.fst, rightB x = true := by
  unfold newC at h
  split at h
  · omega
  · split at h
    · rename_i h1 h2
      refine ⟨by omega, fun x hx => ?_⟩
      obtain ⟨y, hy, rfl⟩ := List.mem_map.1 hx
      unfold rightL at h2
      exact List.all_eq_true.1 h2 y hy
    · omega
theorem GSl.blk {w : World} {g : Nat} {l : List Int} (h : w.heap[g]? = some (.cells (ints l) 2)) (hl : l.length ≤ 1000) : GSl w (.slice (some ⟨g, 0, none⟩) l.length l.length) l :=
  ⟨_, _, g, 0, rfl, Nat.le_refl _, by unfold maxLen; omega, fun _ => rfl, fun i hi => by rw [Nat.zero_add, cell_of_row w g i _ _ _ h, ints_at _ _ hi]⟩
/-- a slice of bools -/
def BSl (w : World) (v : Value) (G : List Bool) : Prop :=
  ∃ a c b o, v = .slice a G.length c ∧ G.length ≤ c ∧ c ≤ maxLen ∧ (0 < G.length → a = some ⟨b, o, none⟩) ∧ ∀ i (h : i < G.length), w.cell? ⟨b, o + i, none⟩ = some (.bool G[i])

set_option maxRecDepth 100000 in
set_option maxHeartbeats 2000000 in
theorem row_same (G : List Int) (u v : Value) (hl : G.length ≤ 4000) (w : World) (hu : GSl w u G) (hv : GSl w v G) : Calls Try.prog 20 #[u, v] w fun e w' => e = .returned (.bool true) ∧ Below w.heap.size w w' := by
  obtain ⟨a1, c1, b1, o1, rfl, h2, h3, h4, h5⟩ := hu
  obtain ⟨a2, c2, b2, o2, rfl, k2, k3, k4, k5⟩ := hv
  obtain ⟨N, hN⟩ : ∃ N, G.length = N := ⟨_, rfl⟩
  have HN : Hid (G.length = N) := hN
  have H5 : Hid (∀ i (h : i < G.length), w.cell? ⟨b1, o1 + i, none⟩ = some (.int .i64 G[i])) := h5
  have K5 : Hid (∀ i (h : i < G.length), w.cell? ⟨b2, o2 + i, none⟩ = some (.int .i64 G[i])) := k5
  rw [hN] at h2 h4 k2 k4 hl ⊢
  have H4 : Hid (0 < N → a1 = some ⟨b1, o1, none⟩) := h4
  have K4 : Hid (0 < N → a2 = some ⟨b2, o2, none⟩) := k4
  unfold maxLen at h3 k3
  clear hN h5 k5 h4 k4
  go_enter Try.func20, Try.ntmps20
  go_wp2_with fail
  go_loopw [5] (fun i wr => ∃ q : Nat, i = .int .i64 (q : Int) ∧ q ≤ N ∧ Below w.heap.size w wr) (fun i _ => N - (intOf i).toNat)
  case atStart => exact ⟨0, rfl, Nat.zero_le _, Below.refl _ _⟩
  case round =>
    obtain ⟨q, rfl, hq, hb⟩ := hrel
    have HB : Hid (Below w.heap.size w wr) := hb
    by_cases hlt : q < N
    · obtain rfl := H4.out (by omega)
      obtain rfl := K4.out (by omega)
      obtain ⟨z, hz⟩ : ∃ z, G[q]'(by rw [HN.out]; exact hlt) = z := ⟨_, rfl⟩
      have d1 : wr.cell? ⟨b1, o1 + q, none⟩ = some (.int .i64 z) := by
        have := H5.out q (by rw [HN.out]; exact hlt)
        rw [hz] at this
        exact (hb.cell (p := ⟨b1, o1 + q, none⟩) (World.block_lt_of_cell? w _ this)).trans this
      have d2 : wr.cell? ⟨b2, o2 + q, none⟩ = some (.int .i64 z) := by
        have := K5.out q (by rw [HN.out]; exact hlt)
        rw [hz] at this
        exact (hb.cell (p := ⟨b2, o2 + q, none⟩) (World.block_lt_of_cell? w _ this)).trans this
      have e1 : decide ((q : Int) < (N : Int)) = true := by simp; omega
      clear hz hb
      have hzz : (z != z) = false := by simp
      go_wp2_with fail
      go_region_held3 (fun w' => w'.cell? ⟨b1, o1 + q, none⟩ = some (.int .i64 z) ∧ w'.cell? ⟨b2, o2 + q, none⟩ = some (.int .i64 z)) (go_keep) (fail)
      go_wp2_with fail
      go_roundw
      case rel => exact ⟨q + 1, by go_num, by omega, HB.out.drew⟩
      case measure => simp [intOf]; omega
    · have e1 : decide ((q : Int) < (N : Int)) = false := by simp; omega
      clear hb
      go_wp2
      go_ret
      exact ⟨rfl, HB.out⟩
end Go.Proofs.Ytlcgoobjpnpfhab
