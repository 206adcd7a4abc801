/- The document's accesses: plain, and the state of its loop. -/
import Derived.Test.YtcaefimnhoeimaaRfB
import Derived.Test.YtcaefimnhoeimaaAc
import Derived.Test.YtcaefimnhoeimaaIRefC
namespace Go.Proofs.Ytcaefimnhoeimaa
open Go.RowKit Go.Maps
set_option linter.unusedVariables false
set_option linter.unusedSimpArgs false

/-- what the document answers from these registers on -/
def refT : List Fm → List In → Option (List (Bool × Fm))
  | _, [] => none
  | R, x :: l => if x.kind = 1 then some [] else if goB R x = true then (match refT (passF R x) l with | some t => some (accF R x ++ t) | none => none) else none
theorem refT_halt : ∀ (L : List In) (R : List Fm) (k : Nat), refT R L = (match haltFrom k L with | some i => toldF R (L.take (i - k)) | none => none)
  | [], R, k => rfl
  | x :: l, R, k => by
    unfold refT haltFrom
    by_cases h1 : x.kind = 1
    · rw [if_pos h1, if_pos h1]; simp [toldF]
    · rw [if_neg h1, if_neg h1, refT_halt l (passF R x) (k + 1)]
      rcases hh : haltFrom (k + 1) l with _ | i
      · simp
      · have hb := haltFrom_bd l (k + 1) i hh
        have e : i - k = (i - (k + 1)) + 1 := by omega
        simp only
        rw [e, List.take_succ_cons]
        rfl
theorem refT_drop (R : List Fm) (L : List In) (i : Nat) (h : i < L.length) : refT R (L.drop i) = if L[i].kind = 1 then some [] else if goB R L[i] = true then (match refT (passF R L[i]) (L.drop (i + 1)) with | some t => some (accF R L[i] ++ t) | none => none) else none := by
  rw [List.drop_eq_getElem_cons h]; rfl
theorem accR_ref (L : List In) (cells : Int) : accR L cells = if (checkL L cells).2 = 0 then refT startF L else none := by
  unfold accR
  split
  · rw [refT_halt L startF 0]; rfl
  · rfl
theorem twoR_ok (op a b : Int) (h1 : 1 ≤ op ∧ op ≤ 18) (h0 : op = 4 ∨ op = 5 → ¬ b = 0) : (twoR op a b).2 = true := by
  unfold twoR
  have hk : op = 1 ∨ op = 2 ∨ op = 3 ∨ op = 4 ∨ op = 5 ∨ op = 6 ∨ op = 7 ∨ op = 8 ∨ op = 9 ∨ op = 10 ∨ op = 11 ∨ op = 12 ∨ op = 13 ∨ op = 14 ∨ op = 15 ∨ op = 16 ∨ op = 17 ∨ op = 18 := by omega
  rcases hk with rfl | rfl | rfl | rfl | rfl | rfl | rfl | rfl | rfl | rfl | rfl | rfl | rfl | rfl | rfl | rfl | rfl | rfl <;> simp_all
theorem join_moved (f : Fm) (n : Int) : joinF 1 f (numF n) = movedF f n := join_is 1 f (numF n) (Or.inl (twoR_ok 1 _ _ (by omega) (by omega)))
theorem join_go (R : List Fm) (x : In) (hx : OkI x) (hk : x.kind = 5) (hg : goB R x = true) : joinF x.op (rgF R x.b) (rgF R x.c) = twoF x.op (rgF R x.b) (rgF R x.c) := by
  refine join_is _ _ _ (Or.inl (twoR_ok _ _ _ (hx.op.2 hk) (fun h0 => ?_)))
  unfold goB at hg
  rw [if_neg (by omega), if_pos hk, if_pos h0] at hg
  simp at hg
  exact hg.2

structure FR (w : World) (fb : Nat) (R : List Fm) : Prop where
  ok : OkR R
  blk : w.heap[fb]? = some (.cells (rcs R).toArray 33)
theorem FR.lt {w : World} {fb : Nat} {R : List Fm} (h : FR w fb R) : fb < w.heap.size := (Array.getElem?_eq_some_iff.1 h.blk).1
theorem FR.below {w w' : World} {fb : Nat} {R : List Fm} (h : FR w fb R) (hb : Below w.heap.size w w') : FR w' fb R := ⟨h.ok, (hb.block fb h.lt).trans h.blk⟩
theorem FR.alloc {w : World} {fb : Nat} {R : List Fm} (h : FR w fb R) (o : Obj) : FR (w.alloc o) fb R := ⟨h.ok, (Below.heap_alloc _ _ _ h.lt).trans h.blk⟩
theorem FR.drew {w : World} {fb : Nat} {R : List Fm} (h : FR w fb R) : FR w.drew fb R := ⟨h.ok, h.blk⟩
theorem FR.drewN {w : World} {fb : Nat} {R : List Fm} (h : FR w fb R) (n : Nat) : FR (w.drewN n) fb R := ⟨h.ok, h.blk⟩
theorem FR.frz {w : World} {fb : Nat} {R : List Fm} (h : FR w fb R) (j : Nat) : w.frozen? ⟨fb, j, none⟩ = false := frozen_of_row w fb j _ _ h.blk
theorem FR.c {w : World} {fb : Nat} {R : List Fm} (h : FR w fb R) (q : Nat) (hq : q < 16) : w.cell? ⟨fb, q * 3, none⟩ = some (.bool (rgF R (q : Int)).k) ∧ w.cell? ⟨fb, q * 3 + 1, none⟩ = some (.int .i64 (rgF R (q : Int)).a) ∧ w.cell? ⟨fb, q * 3 + 2, none⟩ = some (.int .i64 (rgF R (q : Int)).c) := by
  obtain ⟨h0, h1, h2⟩ := rcs_at R q (by rw [h.ok.1]; exact hq)
  have e : rgF R (q : Int) = R.getD q fz := by unfold rgF; rw [Int.toNat_natCast]
  rw [e]
  refine ⟨?_, ?_, ?_⟩
  · rw [cell_of_row w fb _ _ _ _ h.blk]; simpa using h0
  · rw [cell_of_row w fb _ _ _ _ h.blk]; simpa using h1
  · rw [cell_of_row w fb _ _ _ _ h.blk]; simpa using h2
theorem FR.put {w : World} {fb : Nat} {R : List Fm} (h : FR w fb R) (q : Nat) (f : Fm) (hf : OkF f) : FR (((w.setCell ⟨fb, q * 3, none⟩ (.bool f.k)).setCell ⟨fb, q * 3 + 1, none⟩ (.int .i64 f.a)).setCell ⟨fb, q * 3 + 2, none⟩ (.int .i64 f.c)) fb (R.set q f) := by
  refine ⟨h.ok.set q hf, ?_⟩
  have h1 := heap_setCell_same w fb (q * 3) _ 33 (.bool f.k) h.blk
  have h2 := heap_setCell_same _ fb (q * 3 + 1) _ 33 (.int .i64 f.a) h1
  have h3 := heap_setCell_same _ fb (q * 3 + 2) _ 33 (.int .i64 f.c) h2
  rw [h3, ← rcs_set]
  simp

theorem info35 : (Try.prog.info? 35).map (fun i => (i.zero, i.size, i.bytes)) = some (some (.agg #[.bool false, .bool false, .int .i64 0, .int .i64 0]), 4, 32) := by kernel_rfl
/-- accesses of the call's own -/
def AR (w : World) (base : Nat) (v : Value) (l : List (Bool × Fm)) : Prop := w.ownsRow base 35 4 v l.length (acs l)
theorem AR.nil (w : World) (base : Nat) : AR w base (.slice none 0 0) [] := ⟨rfl, .inl ⟨rfl, rfl⟩⟩
theorem AR.keep {w w' : World} {base : Nat} {v : Value} {l : List (Bool × Fm)} (h : AR w base v l) (hk : ∀ k, base ≤ k → k < w.heap.size → w'.heap[k]? = w.heap[k]?) : AR w' base v l := by
  refine ⟨h.1, ?_⟩
  rcases h.2 with h0 | ⟨g, cap, cur, h1, h2, h3, h4⟩
  · exact .inl h0
  · exact .inr ⟨g, cap, cur, h1, h2, (hk g h2 (Array.getElem?_eq_some_iff.1 h3).1).trans h3, h4⟩
theorem AR.below {w w' : World} {base : Nat} {v : Value} {l : List (Bool × Fm)} (h : AR w base v l) (hb : Below w.heap.size w w') : AR w' base v l := h.keep fun k _ hk => hb.block k hk
theorem AR.mono {w : World} {base base' : Nat} {v : Value} {l : List (Bool × Fm)} (h : AR w base v l) (hb : base' ≤ base) : AR w base' v l := by
  refine ⟨h.1, ?_⟩
  rcases h.2 with h0 | ⟨g, cap, cur, h1, h2, h3, h4⟩
  · exact .inl h0
  · exact .inr ⟨g, cap, cur, h1, by omega, h3, h4⟩
theorem push_racc {o : Oper} {a : Act} {K : Act → World → Prop} {Q : Exit → Act → World → Prop} (w : World) (s x : Operand)
    (ho : o.op = .call { callee := .builtin .append, args := #[s, x], argTypes := #[26, 26] }) (base : Nat) (v : Value) (l : List (Bool × Fm)) (b0 : Bool) (f : Fm) (hs : a.eval s = v) (hown : AR w base v l)
    (g : Nat) (hx : a.eval x = .slice (some ⟨g, 0, none⟩) 1 1) (hg : w.heap[g]? = some (.cells #[.bool b0, .bool f.k, .int .i64 f.a, .int .i64 f.c] 35)) (hlen : l.length ≤ 100000) (hb : base ≤ w.heap.size)
    (lim : Nat) (hlim : ∀ k, v.ownBlock = some k → k < lim)
    (h : ∀ v' w', AR w' base v' (l ++ [(b0, f)]) → Gw w w' base lim → K (a.put o.dst v') w') : o.wp Try.prog a w K Q := by
  obtain ⟨i0, hi, hz0, hz1, hz2⟩ := info_parts info35
  refine wp_append_own w s x 26 ho base 35 i0 (.agg #[.bool false, .bool false, .int .i64 0, .int .i64 0]) 4 32 Try.underlying26 hi hz0 hz1 hz2 rfl (by decide) v l.length (acs l) hs hown ⟨g, 0, none⟩ 1 1 [.bool b0, .bool f.k, .int .i64 f.a, .int .i64 f.c] hx rfl ?_ ?_ ?_ ?_ hb ?_
  · intro j u hj
    rw [addn, cell_of_row w g (0 + j) _ _ _ hg]
    simpa using hj
  · intro u hu; simp at hu; rcases hu with rfl | rfl | rfl | rfl <;> rfl
  · unfold maxLen; omega
  · omega
  · intro v' w' h1 h2 _
    refine h v' w' ?_ ⟨(Below.refl base w).grown h2 hb (fun k hk => (World.ownsRow.lt hown k hk).1), fun k hk hk2 => h2.block k hk2 (fun e => ?_)⟩
    · unfold AR
      rw [List.length_append, acs_app]
      exact h1
    · have := hlim k e.symm; omega


theorem Ch.ar {fb : Nat} {w w' : World} {v : Value} {l : List (Bool × Fm)} (hc : Ch fb w w') (h : AR w (fb + 1) v l) : AR w' (fb + 1) v l := h.keep fun k h1 h2 => hc.block k h2 (by omega)
def RoP (r : Option (List (Bool × Fm))) (w : World) (e : Ending) (w' : World) : Prop := Below w.heap.size w w' ∧ match r with
  | none => e = .returned (.tuple #[.slice none 0 0, .bool false])
  | some l => ∃ v, e = .returned (.tuple #[v, .bool true]) ∧ AR w' w.heap.size v l
/-- the state ahead of a round -/
structure RQ (w : World) (fb N : Nat) (L : List In) (res : Option (List (Bool × Fm))) (i : Nat) (R : List Fm) (l : List (Bool × Fm)) (v : Value) (wr : World) : Prop where
  fbk : FR wr fb R
  az : AR wr (fb + 1) v l
  bl : Below w.heap.size w wr
  sz : fb < wr.heap.size
  len : l.length ≤ i
  eq : (match refT R (L.drop i) with | some t => some (l ++ t) | none => none) = res
theorem RQ.next {w : World} {fb N : Nat} {L : List In} {res : Option (List (Bool × Fm))} {i : Nat} {R : List Fm} {l m : List (Bool × Fm)} {v v' : Value} {wr w7 w8 : World} {x : In} (h : RQ w fb N L res i R l v wr) (hg : goB R x = true) (hk : ¬ x.kind = 1) (hx : ∃ hi : i < L.length, L[i] = x) (ha : m = l ++ accF R x) (h8 : FR w8 fb (passF R x)) (h7 : AR w7 (fb + 1) v' m) (hb : Below w.heap.size w w7) (hc : Ch fb w7 w8) (hw : w.heap.size ≤ fb) :
    RQ w fb N L res (i + 1) (passF R x) m v' w8 := by
  obtain ⟨hi, rfl⟩ := hx
  refine ⟨h8, hc.ar h7, ?_, h8.lt, ?_, ?_⟩
  · exact ⟨hc.os.trans hb.os, hc.tape.trans hb.tape, hc.output.trans hb.output, Nat.le_trans hb.size hc.size, fun k hk => (hc.block k (by have := hb.size; omega) (by omega)).trans (hb.block k hk)⟩
  · rw [ha, List.length_append]
    have : (accF R L[i]).length ≤ 1 := by unfold accF; repeat' split
                                          all_goals simp
    have := h.len
    omega
  · rw [← h.eq, refT_drop R L i hi, if_neg hk, if_pos hg, ha]
    rcases refT (passF R L[i]) (L.drop (i + 1)) with _ | t
    · rfl
    · simp
theorem RQ.halt {w : World} {fb N : Nat} {L : List In} {res : Option (List (Bool × Fm))} {i : Nat} {R : List Fm} {l : List (Bool × Fm)} {v : Value} {wr : World} {x : In} (h : RQ w fb N L res i R l v wr) (hk : x.kind = 1) (hx : ∃ hi : i < L.length, L[i] = x) : res = some l := by
  obtain ⟨hi, rfl⟩ := hx
  rw [← h.eq, refT_drop R L i hi, if_pos hk]; simp
theorem RQ.none {w : World} {fb N : Nat} {L : List In} {res : Option (List (Bool × Fm))} {i : Nat} {R : List Fm} {l : List (Bool × Fm)} {v : Value} {wr : World} {x : In} (h : RQ w fb N L res i R l v wr) (hk : ¬ x.kind = 1) (hg : goB R x = false) (hx : ∃ hi : i < L.length, L[i] = x) : res = Option.none := by
  obtain ⟨hi, rfl⟩ := hx
  rw [← h.eq, refT_drop R L i hi, if_neg hk, hg]; rfl
theorem made49 : ∀ W, (Instr.makeSlice 49 (.int .i64 16) (.int .i64 16)).run Try.prog W = .ok (.slice (some ⟨W.heap.size, 0, Option.none⟩) 16 16) (W.alloc (.cells (rcs (begF 0)).toArray 33)) := fun W => by kernel_rfl
/-- while the registers are laid -/
def begQ (r : Nat) : List Fm := fz :: (List.replicate (r - 1) ⟨true, 0, 0⟩ ++ List.replicate (16 - r) fz)
theorem begQ_set (r : Nat) (h1 : 1 ≤ r) (h : r < 16) : (begQ r).set r ⟨true, 0, 0⟩ = begQ (r + 1) := by
  unfold begQ
  obtain ⟨q, rfl⟩ : ∃ q, r = q + 1 := ⟨r - 1, by omega⟩
  rw [List.set_cons_succ, show 16 - (q + 1) = (15 - (q + 1)) + 1 by omega, List.replicate_succ, show q + 1 + 1 - 1 = q + 1 by omega, show q + 1 - 1 = q by omega, List.replicate_succ', List.set_append_right _ _ (by simp)]
  simp
theorem begQ_ok (r : Nat) (h1 : 1 ≤ r) (h : r ≤ 16) : OkR (begQ r) := ⟨by unfold begQ; simp; omega, fun f hf => by
  unfold begQ at hf
  simp at hf
  rcases hf with rfl | ⟨_, rfl⟩ | ⟨_, rfl⟩ <;> (unfold OkF; simp [fz])⟩
theorem begQ_end : (begQ 16).set 1 ⟨true, 1, 0⟩ = startF := rfl
end Go.Proofs.Ytcaefimnhoeimaa
