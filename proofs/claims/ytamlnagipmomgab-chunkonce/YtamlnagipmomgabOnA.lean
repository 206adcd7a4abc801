/- The walk of ChunkOnce: what lies in memory. -/
import Derived.Test.YtamlnagipmomgabOwA
import Derived.Test.YtamlnagipmomgabOnP
namespace Go.Proofs.Ytamlnagipmomgab
open Go.RowKit Go.Maps
set_option linter.unusedVariables false

/-- the blocks of the walk, apart from one another and below B -/
structure Ap (w : World) (B x gb lb db tb : Nat) : Prop where
  lo : w.heap.size ≤ x ∧ w.heap.size ≤ gb ∧ w.heap.size ≤ lb ∧ w.heap.size ≤ db ∧ w.heap.size ≤ tb
  hi : x < B ∧ gb < B ∧ lb < B ∧ db < B ∧ tb < B
  n1 : x ≠ gb
  n2 : x ≠ lb
  n3 : x ≠ db
  n4 : x ≠ tb
  n5 : gb ≠ lb
  n6 : gb ≠ db
  n7 : gb ≠ tb
  n8 : lb ≠ db
  n9 : lb ≠ tb
/-- the memory of the walk -/
structure OM (w : World) (B x gb lb db tb : Nat) (p s k n : Int) (v : Value) (W : Nat) (av : Value) (AL : List Int) (next : Int) (turns : List Int) (G La : List Int) (wr : World) : Prop where
  ap : Ap w B x gb lb db tb
  dl : DL wr db tb p s n next turns
  len : turns.length = W
  box : XB wr x p s k n v
  got : wr.heap[gb]? = some (.cells (ints G) 3)
  glen : G.length = n.toNat
  las : wr.heap[lb]? = some (.cells (ints La) 3)
  llen : La.length = W
  asks : IZ wr B av AL
  bel : Below w.heap.size w wr
  bs : B ≤ wr.heap.size
section
variable {w : World} {B x gb lb db tb : Nat} {p s k n : Int} {v : Value} {W : Nat} {av : Value} {AL : List Int} {next : Int} {turns : List Int} {G La : List Int} {wr wr' : World}
theorem OM.same (h : OM w B x gb lb db tb p s k n v W av AL next turns G La wr) (c : Below wr.heap.size wr wr') : OM w B x gb lb db tb p s k n v W av AL next turns G La wr' :=
  ⟨h.ap, h.dl.below c, h.len, h.box.below c, (c.block _ (Array.getElem?_eq_some_iff.1 h.got).1).trans h.got, h.glen, (c.block _ (Array.getElem?_eq_some_iff.1 h.las).1).trans h.las, h.llen, h.asks.below c, h.bel.trans (c.mono h.bel.size), Nat.le_trans h.bs c.size⟩
theorem OM.gc (h : OM w B x gb lb db tb p s k n v W av AL next turns G La wr) (i : Nat) (hi : i < G.length) : wr.cell? ⟨gb, i, none⟩ = some (.int .i64 G[i]) := by rw [cell_of_row wr gb i _ _ _ h.got, ints_at _ _ hi]
theorem OM.gf (h : OM w B x gb lb db tb p s k n v W av AL next turns G La wr) (i : Nat) : wr.frozen? ⟨gb, i, none⟩ = false := frozen_of_row wr gb i _ _ h.got
theorem OM.lc (h : OM w B x gb lb db tb p s k n v W av AL next turns G La wr) (i : Nat) (hi : i < La.length) : wr.cell? ⟨lb, i, none⟩ = some (.int .i64 La[i]) := by rw [cell_of_row wr lb i _ _ _ h.las, ints_at _ _ hi]
theorem OM.lf (h : OM w B x gb lb db tb p s k n v W av AL next turns G La wr) (i : Nat) : wr.frozen? ⟨lb, i, none⟩ = false := frozen_of_row wr lb i _ _ h.las
theorem IZ.setB {w : World} {base : Nat} {u : Value} {l : List Int} (h : IZ w base u l) {g : Nat} (hg : g < base) (i : Nat) (z : Value) : IZ (w.setCell ⟨g, i, none⟩ z) base u l := h.keep fun k hk _ => Below.heap_setCell _ _ _ _ (by show k ≠ g; omega)
theorem OM.setG (h : OM w B x gb lb db tb p s k n v W av AL next turns G La wr) (i : Nat) (z : Int) : OM w B x gb lb db tb p s k n v W av AL next turns (G.set i z) La (wr.setCell ⟨gb, i, none⟩ (.int .i64 z)) := by
  refine ⟨h.ap, h.dl.other h.ap.n6.symm h.ap.n7.symm _ _, h.len, (Below.heap_setCell _ _ _ _ h.ap.n1).trans h.box, ?_, by simpa using h.glen, (Below.heap_setCell _ _ _ _ h.ap.n5.symm).trans h.las, h.llen, h.asks.setB h.ap.hi.2.1 _ _, h.bel.setCell (p := ⟨gb, i, none⟩) h.ap.lo.2.1 _, by simpa [World.setCell] using h.bs⟩
  rw [heap_setCell_same wr gb i _ 3 _ h.got, ints_set]
theorem OM.setL (h : OM w B x gb lb db tb p s k n v W av AL next turns G La wr) (i : Nat) (z : Int) : OM w B x gb lb db tb p s k n v W av AL next turns G (La.set i z) (wr.setCell ⟨lb, i, none⟩ (.int .i64 z)) := by
  refine ⟨h.ap, h.dl.other h.ap.n8.symm h.ap.n9.symm _ _, h.len, (Below.heap_setCell _ _ _ _ h.ap.n2).trans h.box, (Below.heap_setCell _ _ _ _ h.ap.n5).trans h.got, h.glen, ?_, by simpa using h.llen, h.asks.setB h.ap.hi.2.2.1 _ _, h.bel.setCell (p := ⟨lb, i, none⟩) h.ap.lo.2.2.1 _, by simpa [World.setCell] using h.bs⟩
  rw [heap_setCell_same wr lb i _ 3 _ h.las, ints_set]
/-- an ask: what it leaves -/
theorem OM.ask (h : OM w B x gb lb db tb p s k n v W av AL next turns G La wr) {wk : Int} {w4 : World} (D : DL w4 db tb p s n (askN p s n next turns wk) (askT p s n next turns wk)) (C : Ch (dw db tb) wr w4) : OM w B x gb lb db tb p s k n v W av AL (askN p s n next turns wk) (askT p s n next turns wk) G La w4 := by
  have ha := h.ap
  have hq : ∀ q, dw db tb q → w.heap.size ≤ q := fun q hq => by rcases hq with rfl | rfl; exact ha.lo.2.2.2.1; exact ha.lo.2.2.2.2
  refine ⟨ha, D, ?_, C.heap h.box (by unfold dw; have := ha.n3; have := ha.n4; omega), C.heap h.got (by unfold dw; have := ha.n6; have := ha.n7; omega), h.glen, C.heap h.las (by unfold dw; have := ha.n8; have := ha.n9; omega), h.llen, h.asks.keep fun k hk hk2 => C.block k hk2 (by unfold dw; have := ha.hi; omega), h.bel.trans (C.below h.bel.size hq), Nat.le_trans h.bs C.size⟩
  rw [(ask_dl h.dl.ok wk).2.2.2.2.1]; exact h.len
theorem OM.push (h : OM w B x gb lb db tb p s k n v W av AL next turns G La wr) {av' : Value} {AL' : List Int} (hi : IZ wr' B av' AL') (hb : Below B wr wr') : OM w B x gb lb db tb p s k n v W av' AL' next turns G La wr' := by
  have ha := h.ap
  refine ⟨ha, h.dl.keep (hb.block _ ha.hi.2.2.2.1) (hb.block _ ha.hi.2.2.2.2), h.len, (hb.block _ ha.hi.1).trans h.box, (hb.block _ ha.hi.2.1).trans h.got, h.glen, (hb.block _ ha.hi.2.2.1).trans h.las, h.llen, hi, h.bel.trans (hb.mono (by have := ha.lo; have := ha.hi; omega)), Nat.le_trans h.bs hb.size⟩
theorem OM.first {w w1 : World} {x db tb : Nat} {p s : Int} {N W : Nat} {v : Value} (hD : DL w1 db tb p s (N : Int) 0 (List.replicate W 0)) (hX : XB w1 x p s (W : Int) (N : Int) v) (hB : Below w.heap.size w w1) (h0 : w.heap.size ≤ x ∧ w.heap.size ≤ db ∧ w.heap.size ≤ tb) (hn : x ≠ db ∧ x ≠ tb) :
    OM w (w1.heap.size + 2) x w1.heap.size (w1.heap.size + 1) db tb p s (W : Int) (N : Int) v W (.slice none 0 0) [] 0 (List.replicate W 0) (List.replicate N 0) (List.replicate W 0) ((w1.alloc (.cells (ints (List.replicate N 0)) 3)).alloc (.cells (ints (List.replicate W 0)) 3)) := by
  have hl := hD.lt
  have hx := hX.lt
  have hs := hB.size
  have e2 : ((w1.alloc (.cells (ints (List.replicate N 0)) 3)).alloc (.cells (ints (List.replicate W 0)) 3)).heap.size = w1.heap.size + 2 := by simp
  refine ⟨⟨by omega, by omega, by omega, by omega, hn.1, hn.2, by omega, by omega, by omega, by omega, by omega⟩, (hD.alloc _).alloc _, by simp, (hX.below (bl1 _ _)).below (bl1 _ _), ?_, by simp, ?_, by simp, IZ.nil _ _, (hB.alloc hs _).alloc (by simp; omega) _, by omega⟩
  · rw [heap_alloc_old _ _ (by simp), heap_alloc_new]
  · exact heap_alloc2_new _ _ _
end
/-- the counts with the ages from a on below m counted once more -/
def incG (G : List Int) (a m : Nat) : List Int := (List.range G.length).map fun i => G.getD i 0 + (if a ≤ i ∧ i < m then 1 else 0)
theorem incG_len (G : List Int) (a m : Nat) : (incG G a m).length = G.length := by simp [incG]
theorem incG_at (G : List Int) (a m i : Nat) (h : i < G.length) (h2 : i < (incG G a m).length) : (incG G a m)[i] = G[i] + (if a ≤ i ∧ i < m then 1 else 0) := by simp [incG, List.getD, h]
theorem incG_none (G : List Int) (a b : Nat) (hb : b ≤ a) : incG G a b = G := by
  apply List.ext_getElem (incG_len _ _ _)
  intro i h1 h2
  rw [incG_at G a b i h2, if_neg (by omega), Int.add_zero]
theorem incG_next (G : List Int) (a m : Nat) (h : a ≤ m) (hm : m < G.length) (h2 : m < (incG G a m).length) : (incG G a m).set m ((incG G a m)[m] + 1) = incG G a (m + 1) := by
  apply List.ext_getElem (by simp [incG])
  intro i h3 h4
  have hi : i < G.length := by rw [incG_len] at h4; exact h4
  rw [incG_at G a (m + 1) i hi, List.getElem_set]
  split
  · subst_vars
    rw [incG_at G a _ _ hi, if_neg (by omega), if_pos (by omega), Int.add_zero]
  · rw [incG_at G a m i hi]
    congr 1
    by_cases hc : a ≤ i ∧ i < m
    · rw [if_pos hc, if_pos (by omega)]
    · rw [if_neg hc, if_neg (by omega)]
/-- what is so behind q asks -/
structure ON (p : Int) (S N W : Nat) (AL : List Int) (next : Int) (turns G La : List Int) (q : Nat) : Prop where
  ok : OkD p (S : Int) (N : Int) next turns S N
  len : turns.length = W
  glen : G.length = N
  gdl : ∀ a, (h : a < G.length) → G[a] = if dl p S next turns a then 1 else 0
  llen : La.length = W
  low : ∀ r, (h : r < La.length) → 0 ≤ La[r] ∧ La[r] ≤ lowI p S next turns r
  prog : ∀ r, r < W → (N : Int) ≤ lowI p S next turns r ∨ ((AL.take q).count (r : Int) : Int) ≤ progI p next turns r
section
variable {p : Int} {S N W : Nat} {AL : List Int} {next : Int} {turns G La : List Int} {q : Nat}
theorem ON.first (hok : OkD p (S : Int) (N : Int) 0 (List.replicate W 0) S N) : ON p S N W AL 0 (List.replicate W 0) (List.replicate N 0) (List.replicate W 0) 0 := by
  have e : ∀ r, (List.replicate W (0 : Int)).getD r 0 = 0 := by
    intro r
    simp only [List.getD]
    cases h : (List.replicate W (0 : Int))[r]? with
    | none => rfl
    | some y => exact List.eq_of_mem_replicate (List.mem_of_getElem? h)
  have hd : ∀ a, dl p S 0 (List.replicate W 0) a = false := by
    intro a
    unfold dl
    rw [e]
    split
    · exact decide_eq_false (Int.not_lt.2 (Int.natCast_nonneg _))
    · exact decide_eq_false (Int.not_lt.2 (Int.natCast_nonneg _))
  refine ⟨hok, by simp, by simp, fun a h => by rw [hd]; simp, by simp, fun r h => ?_, fun r hr => .inr ?_⟩
  · rw [List.getElem_replicate]
    refine ⟨Int.le_refl _, ?_⟩
    unfold lowI
    split
    · rw [e]; unfold ownI; rw [Int.zero_mul, Int.add_zero]; exact Int.mul_nonneg (Int.natCast_nonneg _) (Int.natCast_nonneg _)
    · exact Int.le_refl _
  · unfold progI; split
    · rw [e]; simp
    · simp
/-- one ask more -/
theorem ON.step (h : ON p S N W AL next turns G La q) (hq : q < AL.length) (wk : Int) (hwk : AL[q] = wk) (D : OkD p (S : Int) (N : Int) (askN p S N next turns wk) (askT p S N next turns wk) S N) (a b : Nat) (hx : askX p (S : Int) (N : Int) next turns wk = ((a : Int), (b : Int))) (La' : List Int)
    (hLa : (a < b → ∃ r : Nat, wk = (r : Int) ∧ r < W ∧ La' = La.set r (b : Int)) ∧ (¬ a < b → La' = La)) : ON p S N W AL (askN p S N next turns wk) (askT p S N next turns wk) (incG G a b) La' (q + 1) := by
  have hAD := ask_dl h.ok wk
  have hlen : (askT p (S : Int) (N : Int) next turns wk).length = W := by rw [hAD.2.2.2.2.1]; exact h.len
  have hAP := fun r hr => ask_prog h.ok wk r hr
  have hl := h.len
  refine ⟨D, hlen, by rw [incG_len]; exact h.glen, fun i hi => ?_, ?_, ?_, fun r hr => ?_⟩
  · have hi' : i < G.length := by rw [incG_len] at hi; exact hi
    rw [incG_at G a b i hi', h.gdl i hi']
    obtain ⟨e1, e2⟩ := hAD.2.2.2.2.2 i (by rw [← h.glen]; exact hi')
    rw [e1]
    rw [hx] at e2 ⊢
    simp only [] at e2 ⊢
    by_cases hc : a ≤ i ∧ i < b
    · rw [e2 (by omega), if_pos hc]
      have : decide ((a : Int) ≤ (i : Int) ∧ (i : Int) < (b : Int)) = true := decide_eq_true (by omega)
      rw [this]; simp
    · rw [if_neg hc]
      have : decide ((a : Int) ≤ (i : Int) ∧ (i : Int) < (b : Int)) = false := decide_eq_false (by omega)
      rw [this]; simp
  · by_cases hab : a < b
    · obtain ⟨r, _, _, rfl⟩ := hLa.1 hab
      rw [List.length_set]; exact h.llen
    · rw [hLa.2 hab]; exact h.llen
  · intro r hr
    by_cases hab : a < b
    · obtain ⟨r0, e0, hr0, rfl⟩ := hLa.1 hab
      rw [List.length_set] at hr
      have hP := hAP r (by rw [hl, ← h.llen]; exact hr)
      rw [List.getElem_set]
      split
      · rename_i e; subst e
        have := hP.2.2.1 e0 (by rw [hx]; simp only []; omega)
        rw [hx] at this
        exact ⟨Int.natCast_nonneg _, this.2⟩
      · have := h.low r hr
        exact ⟨this.1, Int.le_trans this.2 hP.1⟩
    · have e := hLa.2 hab
      subst e
      have hP := hAP r (by rw [hl, ← h.llen]; exact hr)
      have := h.low r hr
      exact ⟨this.1, Int.le_trans this.2 hP.1⟩
  · have hP := hAP r (by omega)
    rw [List.take_succ_eq_append_getElem hq, List.count_append, hwk]
    rcases h.prog r hr with hd | hd
    · exact .inl (Int.le_trans hd hP.1)
    · by_cases hwr : wk = (r : Int)
      · rcases hP.2.2.2 hwr with h1 | h1
        · exact .inl (Int.le_trans h1 hP.1)
        · refine .inr ?_
          rw [hwr]
          rw [hwr] at h1
          simp only [List.count_singleton_self]
          omega
      · refine .inr ?_
        have e : List.count (r : Int) [wk] = 0 := by rw [List.count_singleton]; simp [hwr]
        rw [e]
        have := hP.2.1
        omega
/-- where a chunk begins, its worker has had nothing behind it -/
theorem ON.rise (h : ON p S N W AL next turns G La q) (r : Nat) (hr : r < La.length) (hx : (askX p (S : Int) (N : Int) next turns (r : Int)).1 < (askX p (S : Int) (N : Int) next turns (r : Int)).2) : La[r] ≤ (askX p (S : Int) (N : Int) next turns (r : Int)).1 :=
  Int.le_trans (h.low r hr).2 ((ask_prog h.ok (r : Int) r (by rw [h.len, ← h.llen]; exact hr)).2.2.1 rfl hx).1
/-- behind all asks -/
theorem ON.last (A : List Int) (h : ON p S N W AL next turns G La AL.length) (hA : AL = A ++ rr W ((N + 1) * W)) (i : Nat) (hi : i < G.length) : G[i] = 1 := by
  have hl := h.len
  have hall : ∀ r, r < turns.length → (N : Int) ≤ lowI p S next turns r := by
    intro r hr
    rcases h.prog r (by omega) with hd | hd
    · exact hd
    · refine prog_done h.ok r hr (Int.le_trans ?_ hd)
      rw [List.take_length, hA, List.count_append]
      have := rr_count W r (by omega) (N + 1)
      omega
  rw [h.gdl i hi, all_dl h.ok hall i (by rw [← h.glen]; exact hi)]
  rfl
end
end Go.Proofs.Ytamlnagipmomgab
