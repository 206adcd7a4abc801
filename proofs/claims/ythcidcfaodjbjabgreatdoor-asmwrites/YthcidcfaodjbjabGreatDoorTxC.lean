/- asm.targets. -/
import Derived.Test.YthcidcfaodjbjabGreatDoorTxB
import Derived.Test.YthcidcfaodjbjabGreatDoorIChk
namespace Go.Proofs.YthcidcfaodjbjabGreatDoor
open Go.RowKit Go.Maps
set_option linter.unusedVariables false
/-- does it name a place? -/
def labI (x : In) : Bool := decide (0 ≤ Lib.indexByte (wordOf x).2 108)
/-- does one of them name place i? -/
def aimT (l : List In) (i : Nat) : Bool := l.any fun x => labI x && decide (x.k = (i : Int))
def aimsT (l : List In) (n : Nat) : List Value := (List.range n).map fun i => Value.bool (aimT l i)
theorem info4 : (Tryz.prog.info? 4).map (fun i => (i.zero, i.size, i.bytes)) = some (some (.bool false), 1, 1) := by kernel_rfl
def TgP (l : List In) (w : World) (e : Ending) (w' : World) : Prop := ∃ v, e = .returned v ∧ w'.ownsRow w.heap.size 4 1 v l.length (aimsT l l.length) ∧ Below w.heap.size w w'

theorem aimT_snoc (l : List In) (x : In) (i : Nat) : aimT (l ++ [x]) i = (aimT l i || (labI x && decide (x.k = (i : Int)))) := by
  unfold aimT
  simp
theorem aims_no {l : List In} {x : In} (n : Nat) (h : labI x = false) : aimsT (l ++ [x]) n = aimsT l n := by
  unfold aimsT
  apply List.map_congr_left
  intro i _
  rw [aimT_snoc, h]
  simp
theorem aims_yes {l : List In} {x : In} (n p : Nat) (h : labI x = true) (hp : x.k = (p : Int)) (hn : p < n) : aimsT (l ++ [x]) n = (aimsT l n).set p (.bool true) := by
  apply List.ext_getElem?
  intro i
  rw [List.getElem?_set]
  unfold aimsT
  by_cases hi : i < n
  · rw [List.getElem?_map, List.getElem?_range hi]
    by_cases e : p = i
    · subst e
      rw [if_pos rfl, if_pos (by simpa using hi)]
      simp [aimT_snoc, h, hp]
    · rw [if_neg e, List.getElem?_map, List.getElem?_range hi]
      have : ¬ ((p : Int) = (i : Int)) := by omega
      simp [aimT_snoc, hp, this]
  · rw [List.getElem?_eq_none (by simp; omega)]
    rw [if_neg (by omega), List.getElem?_eq_none (by simp; omega)]
theorem own_set {w : World} {B : Nat} {e : TypeId} {g cap n i : Nat} {xs : List Value} (h : w.ownsRow B e 1 (.slice (some ⟨g, 0, none⟩) n cap) n xs) (u : Value) : (w.setCell ⟨g, i, none⟩ u).ownsRow B e 1 (.slice (some ⟨g, 0, none⟩) n cap) n (xs.set i u) := by
  refine ⟨by rw [List.length_set]; exact h.1, Or.inr ?_⟩
  rcases h.2 with ⟨h1, _⟩ | ⟨g', cap', cur, hv, hg, hh, r1, r2, r3, r4⟩
  · cases h1
  · injection hv with a b c
    injection a with a
    injection a with a1 a2 a3
    subst a1 c
    refine ⟨g, cap, cur.setIfInBounds i u, rfl, hg, heap_setCell_same w g i cur e u hh, r1, r2, by simpa using r3, ?_⟩
    rw [← r4]
    simp [Nat.mul_one, List.take_set]
theorem own_at {w : World} {B : Nat} {e : TypeId} {g cap n i : Nat} {xs : List Value} (h : w.ownsRow B e 1 (.slice (some ⟨g, 0, none⟩) n cap) n xs) (hi : i < n) : (∃ u, w.cell? ⟨g, i, none⟩ = some u ∧ xs[i]? = some u) ∧ w.frozen? ⟨g, i, none⟩ = false := by
  have hc := World.ownsRow.cells h (g := g) rfl
  have hl : xs.length = n := by have := h.1; omega
  refine ⟨⟨xs[i]'(by omega), ?_, List.getElem?_eq_getElem _⟩, ?_⟩
  · have := hc i _ (List.getElem?_eq_getElem (by omega : i < xs.length))
    rw [addn, Nat.zero_add] at this
    exact this
  · rcases h.2 with ⟨h1, _⟩ | ⟨g', cap', cur, hv, hg, hh, r1, r2, r3, r4⟩
    · cases h1
    · injection hv with a b c
      injection a with a
      injection a with a1 a2 a3
      subst a1
      exact frozen_of_row w g i cur e hh
theorem aims_at {l : List In} {n i : Nat} (hi : i < n) : (aimsT l n)[i]? = some (.bool (aimT l i)) := by
  unfold aimsT
  rw [List.getElem?_map, List.getElem?_range hi]
  rfl
theorem aims_nil (n : Nat) : aimsT [] n = List.replicate n (.bool false) := by
  apply List.ext_getElem?
  intro i
  by_cases hi : i < n
  · rw [aims_at hi]; simp [hi, aimT]
  · rw [List.getElem?_eq_none (by simp [aimsT]; omega), List.getElem?_eq_none (by simp; omega)]

set_option maxRecDepth 100000 in
set_option maxHeartbeats 2000000 in
theorem targets_any (l : List In) (v : Value) (hl : 0 < l.length ∧ l.length ≤ 1000) (hk : ∀ x ∈ l, labI x = true → 0 ≤ x.k ∧ x.k < l.length) (w : World) (hv : ISl w v l) : Calls Tryz.prog 8 #[v] w (TgP l w) := by
  obtain ⟨i0, hi, hz0, hz1, hz2⟩ := info_parts info4
  obtain ⟨ad, cap, b, o, rfl, h2, h3, h4, h5⟩ := hv
  obtain rfl := h4 hl.1
  obtain ⟨N, hN⟩ : ∃ N, l.length = N := ⟨_, rfl⟩
  have HN : Hid (l.length = N) := hN
  have H5 : Hid (∀ i (h : i < l.length), IAt w b (o + i * 6) l[i]) := h5
  unfold TgP
  rw [hN] at hl h2 ⊢
  unfold maxLen at h3
  clear hN h5 h4
  go_enter Tryz.func8, Tryz.ntmps8
  have hb1 : i0.bytes * N ≤ 281474976710656 := by rw [hz2]; omega
  go_wp2_with (refine wpList_make_full w rfl _ _ 32 rfl w.heap.size 4 i0 (.bool false) 1 Tryz.underlying32 hi hz0 hz1 .i64 .i64 N N N rfl rfl rfl rfl hb1 (by unfold maxLen; omega) (Nat.le_refl _) ?_)
  intro w1 hown hg
  have HB1 : Hid (Below w.heap.size w w1) := ⟨hg.os, hg.tape, hg.output, hg.size, fun k hk => hg.block k hk (by simp)⟩
  have HO1 : Hid (w1.ownsRow w.heap.size 4 1 (.slice (some ⟨w.heap.size, 0, none⟩) N N) N (aimsT (l.take 0) N)) := by
    rw [List.take_zero, aims_nil, ← toList_madeCells_one]
    exact hown
  have HK : Hid (∀ x ∈ l, labI x = true → 0 ≤ x.k ∧ x.k < N) := by rw [← HN.out]; exact hk
  clear hown hg hk
  go_wp2_with fail
  go_loopw [13] (fun i wr => ∃ k : Nat, k ≤ N ∧ i = .int .i64 k ∧ wr.ownsRow w.heap.size 4 1 (.slice (some ⟨w.heap.size, 0, none⟩) N N) N (aimsT (l.take k) N) ∧ Below w.heap.size w wr) (fun i _ => N - (intOf i).toNat)
  case atStart => exact ⟨0, Nat.zero_le _, rfl, HO1.out, HB1.out⟩
  case round =>
    obtain ⟨k, hk, rfl, ho, hb⟩ := hrel
    have HO : Hid (wr.ownsRow w.heap.size 4 1 (.slice (some ⟨w.heap.size, 0, none⟩) N N) N (aimsT (l.take k) N)) := ho
    have HB : Hid (Below w.heap.size w wr) := hb
    clear ho hb HO1 HB1
    by_cases hlt : k < N
    · have e1 : decide ((k : Int) < (N : Int)) = true := by simp; omega
      have hkl : k < l.length := by rw [HN.out]; exact hlt
      obtain ⟨x, hx⟩ : ∃ x, l[k] = x := ⟨_, rfl⟩
      have htk : l.take (k + 1) = l.take k ++ [x] := by rw [List.take_succ_eq_append_getElem hkl, hx]
      have hxm : x ∈ l := by rw [← hx]; exact List.getElem_mem _
      have hia : IAt wr b (o + k * 6) x := by
        have := H5.out k hkl
        rw [hx] at this
        exact this.block (HB.out.block b this.lt)
      obtain ⟨i1, i2, i3, i4, i5, i6⟩ := hia
      obtain ⟨S1, hS1⟩ : ∃ S : ByteArray, ⟨(wordOf x).1.toArray⟩ = S := ⟨_, rfl⟩
      obtain ⟨S2, hS2⟩ : ∃ S : ByteArray, ⟨(wordOf x).2.toArray⟩ = S := ⟨_, rfl⟩
      have C6 : Hid (∀ w, Calls Tryz.prog 22 #[.agg #[.int .i64 x.kind, .int .i64 x.op, .int .i64 x.a, .int .i64 x.b, .int .i64 x.c, .int .i64 x.k]] w fun e w' => e = .returned (.tuple #[.string S1, .string S2]) ∧ Below w.heap.size w w') := fun w => by rw [← hS1, ← hS2]; exact word_any x w
      obtain ⟨lb, hlb⟩ : ∃ b, labI x = b := ⟨_, rfl⟩
      have C49 : Hid (∀ W, Calls Tryz.prog 23 #[.string S2, .int .i32 108] W fun e w' => e = .returned (.bool lb) ∧ w' = W) := fun W => by
        have h := Tryz.strings_ContainsRune_ascii S2 108 W (by decide) (by decide)
        rw [← hlb]
        unfold labI
        rw [← hS2] at h ⊢
        exact h
      have hwl : w.heap.size < wr.heap.size := (HO.out.lt w.heap.size rfl).2
      clear hx hS1 hS2
      cases lb with
      | false =>
        go_wp2_with (first | (go_at_call 22; refine (C6.out _).mono ?_; rintro e w2 ⟨rfl, hb2⟩; have HB2 : Hid (Below wr.heap.size wr w2) := (((Below.refl _ _).alloc (Nat.le_refl _) _).trans (hb2.mono (by simp))); have HX2 : Hid (w2.cell? ⟨wr.heap.size, 5, none⟩ = some (.int .i64 x.k)) := ((hb2.cell (p := ⟨wr.heap.size, 5, none⟩) (by simp)).trans ((cell_of_row _ _ 5 _ _ _ (heap_alloc_new wr _)).trans rfl)); clear hb2) | (go_at_call 23; refine (C49.out _).mono ?_; rintro e w3 ⟨rfl, hw3⟩; rw [hw3]; clear hw3))
        have HO2 : Hid (w2.ownsRow w.heap.size 4 1 (.slice (some ⟨w.heap.size, 0, none⟩) N N) N (aimsT (l.take (k + 1)) N)) := by
          rw [htk, aims_no N hlb]
          exact own_keep HO.out (fun j hj => HB2.out.block j (HO.out.lt j hj).2)
        go_roundw
        case rel => exact ⟨k + 1, by omega, by go_num, HO2.out, HB.out.trans (HB2.out.mono HB.out.size)⟩
        case measure => simp [intOf]; omega
      | true =>
        obtain ⟨hk0, hk1⟩ := HK.out x hxm hlb
        obtain ⟨p, hp⟩ : ∃ p : Nat, x.k = p := ⟨x.k.toNat, by omega⟩
        have hpN : p < N := by omega
        have HP : Hid (x.k = p) := hp
        clear hp hk0 hk1
        go_upto_region 7 with (first | (go_at_call 22; refine (C6.out _).mono ?_; rintro e w2 ⟨rfl, hb2⟩; have HB2 : Hid (Below wr.heap.size wr w2) := (((Below.refl _ _).alloc (Nat.le_refl _) _).trans (hb2.mono (by simp))); have HX2 : Hid (w2.cell? ⟨wr.heap.size, 5, none⟩ = some (.int .i64 x.k)) := ((hb2.cell (p := ⟨wr.heap.size, 5, none⟩) (by simp)).trans ((cell_of_row _ _ 5 _ _ _ (heap_alloc_new wr _)).trans rfl)); clear hb2) | (go_at_call 23; refine (C49.out _).mono ?_; rintro e w3 ⟨rfl, hw3⟩; rw [hw3]; clear hw3))
        have HO2 : Hid (w2.ownsRow w.heap.size 4 1 (.slice (some ⟨w.heap.size, 0, none⟩) N N) N (aimsT (l.take k) N)) := own_keep HO.out (fun j hj => HB2.out.block j (HO.out.lt j hj).2)
        obtain ⟨⟨u, hu1, hu2⟩, huf⟩ := own_at HO2.out hpN
        rw [aims_at hpN] at hu2
        injection hu2 with hu2
        subst hu2
        have HO3 : Hid ((w2.setCell ⟨w.heap.size, p, none⟩ (.bool true)).ownsRow w.heap.size 4 1 (.slice (some ⟨w.heap.size, 0, none⟩) N N) N (aimsT (l.take (k + 1)) N)) := by
          rw [htk, aims_yes N p hlb HP.out hpN]
          exact own_set HO2.out (.bool true)
        have HB3 : Hid (Below w.heap.size w (w2.setCell ⟨w.heap.size, p, none⟩ (.bool true))) := by
          have h := HB.out.trans (HB2.out.mono HB.out.size)
          exact ⟨h.os, h.tape, h.output, by simpa [World.setCell] using h.size, fun j hj => (Below.heap_setCell _ _ _ _ (by show j ≠ w.heap.size; omega)).trans (h.block j hj)⟩
        have hx5 := HX2.out
        rw [HP.out] at hx5
        generalize aimT (l.take k) p = ub at hu1
        clear HP HK HO HO2 HX2
        go_wp2_with fail
        go_roundw
        case rel => exact ⟨k + 1, by omega, by go_num, HO3.out, HB3.out⟩
        case measure => simp [intOf]; omega
    · have e1 : decide ((k : Int) < (N : Int)) = false := by simp; omega
      obtain rfl : k = N := by omega
      have hte : l.take k = l := by rw [← HN.out, List.take_length]
      have HO2 : Hid (wr.ownsRow w.heap.size 4 1 (.slice (some ⟨w.heap.size, 0, none⟩) k k) k (aimsT l k)) := by have := HO.out; rw [hte] at this; exact this
      clear hte HO
      go_wp2_with fail
      go_ret
      exact ⟨_, rfl, HO2.out, HB.out⟩
end Go.Proofs.YthcidcfaodjbjabGreatDoor
