/- All numbers joined, in the document's words. -/
import Derived.Test.YtongeppdaeekeaaApp
import Derived.Test.YtongeppdaeekeaaRefJ
namespace Go.Proofs.Ytongeppdaeekeaa
open Go.RowKit Go.Maps
set_option linter.unusedVariables false

def foldI (op : Int) (L : List Int) : Int := L.foldl (joinI op) (zeroI op)
theorem fold_bd (op : Int) : ∀ (L : List Int) (x : Int), R64 x → (∀ y ∈ L, R64 y) → R64 (L.foldl (joinI op) x)
  | [], x, hx, _ => hx
  | y :: L, x, hx, h => fold_bd op L _ (join_bd op x y hx (h y (by simp))) (fun z hz => h z (by simp [hz]))
theorem fold_out (op : Int) (hr : rightB op = true) : ∀ (L : List Int) (x : Int), R64 x → (∀ y ∈ L, R64 y) → L.foldl (joinI op) x = joinI op x (foldI op L)
  | [], x, hx, _ => (join_zero op x hr hx).symm
  | y :: L, x, hx, h => by
    have hy : R64 y := h y (by simp)
    have hL : ∀ z ∈ L, R64 z := fun z hz => h z (by simp [hz])
    unfold foldI
    rw [List.foldl_cons, List.foldl_cons, fold_out op hr L _ (join_bd op x y hx hy) hL, fold_out op hr L _ (join_bd op _ y (zero_bd op) hy) hL, join_comm op (zeroI op) y, join_zero op y hr hy, join_assoc]
theorem fold_none (op : Int) (hr : rightB op = false) (L : List Int) : foldI op L = 0 := by
  have hz : zeroI op = 0 := by
    unfold rightB at hr
    simp at hr
    unfold zeroI
    repeat (rw [if_neg (by omega)])
  unfold foldI
  rw [hz]
  induction L with
  | nil => rfl
  | cons y L ih => rw [List.foldl_cons, join_none op 0 y hr]; exact ih
theorem fold_swap (op : Int) (A B : List Int) (hA : ∀ y ∈ A, R64 y) (hB : ∀ y ∈ B, R64 y) : foldI op (A ++ B) = foldI op (B ++ A) := by
  cases hr : rightB op with
  | false => rw [fold_none op hr, fold_none op hr]
  | true =>
    have e : ∀ (C D : List Int), (∀ y ∈ C, R64 y) → (∀ y ∈ D, R64 y) → foldI op (C ++ D) = joinI op (foldI op C) (foldI op D) := fun C D hC hD => by
      unfold foldI
      rw [List.foldl_append]
      exact fold_out op hr D _ (fold_bd op C _ (zero_bd op) hC) hD
    rw [e A B hA hB, e B A hB hA, join_comm]

set_option maxRecDepth 100000 in
set_option maxHeartbeats 2000000 in
theorem rfold_any (op : Int) (G : List Int) (v : Value) (w : World) (hG : ∀ y ∈ G, R64 y) (hv : GSl w v G) : Calls Try.prog 103 #[.int .i64 op, v] w fun e w' => e = .returned (.int .i64 (foldI op G)) ∧ Below w.heap.size w w' := by
  obtain ⟨a1, c1, b1, o1, rfl, h2, h3, h4, h5⟩ := hv
  obtain ⟨N, hN⟩ : ∃ N, G.length = N := ⟨_, rfl⟩
  have HN : Hid (G.length = N) := hN
  have HG : Hid (∀ y ∈ G, R64 y) := hG
  have H5 : Hid (∀ i (h : i < G.length), w.cell? ⟨b1, o1 + i, none⟩ = some (.int .i64 G[i])) := h5
  obtain ⟨R, hR⟩ : ∃ R, foldI op G = R := ⟨_, rfl⟩
  have HR : Hid ((G.take N).foldl (joinI op) (zeroI op) = R) := by show _ = _; rw [← hR, ← hN, List.take_length]; rfl
  rw [hN] at h2 h4 ⊢
  rw [hR]
  have H4 : Hid (0 < N → a1 = some ⟨b1, o1, none⟩) := h4
  unfold maxLen at h3
  clear hN h5 h4 hR hG
  go_enter Try.func103, Try.ntmps103
  go_wp2_with fail
  refine (rzero_any _ _).mono ?_
  rintro e w4 ⟨rfl, b4⟩
  have B4 : Hid (Below w.heap.size w w4) := b4
  clear b4
  go_wp2_with fail
  go_loopw [5, 6] (fun x i wr => ∃ q : Nat, i = .int .i64 (q : Int) ∧ q ≤ N ∧ x = .int .i64 ((G.take q).foldl (joinI op) (zeroI op)) ∧ Hid (Below w.heap.size w wr)) (fun x i _ => N - (intOf i).toNat)
  case atStart => exact ⟨0, rfl, Nat.zero_le _, rfl, B4⟩
  case round =>
    obtain ⟨q, rfl, hq, rfl, HB⟩ := hrel
    by_cases hlt : q < N
    · obtain rfl := H4.out (by omega)
      have hq' : q < G.length := by rw [HN.out]; exact hlt
      obtain ⟨z, hz⟩ : ∃ z, G[q] = z := ⟨_, rfl⟩
      have d1 : wr.cell? ⟨b1, o1 + q, none⟩ = some (.int .i64 z) := by
        have := H5.out q hq'
        rw [hz] at this
        exact (HB.out.cell (p := ⟨b1, o1 + q, none⟩) (World.block_lt_of_cell? w _ this)).trans this
      have HE : Hid (joinI op ((G.take q).foldl (joinI op) (zeroI op)) z = (G.take (q + 1)).foldl (joinI op) (zeroI op)) := by
        show _ = _
        rw [List.take_succ_eq_append_getElem hq', List.foldl_append, hz]; rfl
      have HJ : Hid (∀ W, Calls Try.prog 102 #[.int .i64 op, .int .i64 ((G.take q).foldl (joinI op) (zeroI op)), .int .i64 z] W fun e w' => e = .returned (.int .i64 (joinI op ((G.take q).foldl (joinI op) (zeroI op)) z)) ∧ Below W.heap.size W w') :=
        fun W => rjoin_any _ _ _ (fold_bd op _ _ (zero_bd op) (fun y hy => HG.out y (List.mem_of_mem_take hy))) (by rw [← hz]; exact HG.out _ (List.getElem_mem _)) W
      have e1 : decide ((q : Int) < (N : Int)) = true := by simp; omega
      clear hz
      go_wp2_with fail
      refine (HJ.out wr).mono ?_
      rintro e w5 ⟨rfl, b5⟩
      have B5 : Hid (Below w.heap.size w w5) := HB.out.trans (b5.mono HB.out.size)
      clear b5
      go_wp2_with fail
      go_roundw
      case rel => exact ⟨q + 1, by go_num, by omega, by rw [HE.out], B5⟩
      case measure => simp [intOf]; omega
    · have e1 : decide ((q : Int) < (N : Int)) = false := by simp; omega
      have : q = N := by omega
      subst this
      go_wp2
      go_ret
      exact ⟨by rw [HR.out]; rfl, HB.out⟩

end Go.Proofs.Ytongeppdaeekeaa
