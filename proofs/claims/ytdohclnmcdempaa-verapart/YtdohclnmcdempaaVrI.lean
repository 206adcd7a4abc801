/- A slot goes into a chain, and out of it. -/
import Derived.Test.YtdohclnmcdempaaArC
import Derived.Test.YtdohclnmcdempaaShf
import Derived.Sort.OwnSortedInts
import Derived.StillTailTactics
import Derived.Laws.CopyOwn
namespace Go.Proofs.Ytdohclnmcdempaa
open Go.RowKit Go.Maps
set_option linter.unusedVariables false

/-- what becomes of an own row: it is another one's, in its block or a new one -/
def RowQ (w : World) (v : Value) (l : List Int) (e : Ending) (w' : World) : Prop :=
  ∃ v', e = .returned v' ∧ IZ w' 0 v' l ∧ w.grownBy w' v.ownBlock ∧ (v'.ownBlock = v.ownBlock ∨ ∃ g, v'.ownBlock = some g ∧ w.heap.size ≤ g)
theorem heap_put {w : World} {g n : Nat} {cur : Array Value} {e : TypeId} {fr : Nat × Nat} (d : Array Int) (hb : w.heap[g]? = some (.cells cur e fr)) :
    (Go.Sort.putRow (Value.int .i64) (Go.Sort.ahead w n) g 0 d).heap[g]? = some (.cells (Go.Sort.putCells (Value.int .i64) 0 d cur) e fr) := by
  simp [Go.Sort.putRow, Go.Sort.mapBlock, Go.Sort.ahead, Array.getElem?_modify, hb, Go.Sort.onCells]
theorem grown_put {w : World} {g n : Nat} (d : Array Int) : w.grownBy (Go.Sort.putRow (Value.int .i64) (Go.Sort.ahead w n) g 0 d) (some g) := by
  refine ⟨rfl, rfl, rfl, by simp [Go.Sort.putRow, Go.Sort.mapBlock, Go.Sort.ahead], fun k hk hne => ?_⟩
  have : g ≠ k := fun e => hne (by rw [e])
  simp [Go.Sort.putRow, Go.Sort.mapBlock, Go.Sort.ahead, Array.getElem?_modify, this]
theorem del_any (w : World) (v : Value) (c : List Nat) (p : Nat) (hp : p < c.length) (h : IZ w 0 v (cs c)) : Calls Try.prog 48 #[v, .int .i64 (p : Int), .int .i64 ((p + 1 : Nat) : Int)] w (RowQ w v (cs (c.take p ++ c.drop (p + 1)))) := by
  have hl := cs_len c
  rcases h.2 with ⟨_, h0⟩ | ⟨g, cap, cur, rfl, h2, h3, h4, h5, h6, h7⟩
  · rw [hl] at h0; omega
  · rw [Nat.mul_one] at h6 h7
    have hH := holds_of_blockI h3 (ss := cs c) (by rw [← h7])
    have := Try.slices_Delete_int g 0 cap p (p + 1) (cs c) w hH h4 (by unfold maxLen at h5; omega) (by omega) (by rw [hl]; omega)
    refine this.mono ?_
    rintro e w' ⟨rfl, q, rfl⟩
    obtain ⟨d, hd⟩ : ∃ d, (cs c).take p ++ (cs c).drop (p + 1) ++ List.replicate (p + 1 - p) 0 = d := ⟨_, rfl⟩
    rw [hd]
    have hdl : d.length = (cs c).length := by rw [← hd]; simp; omega
    have hd2 : d.take ((cs c).length - (p + 1 - p)) = cs (c.take p ++ c.drop (p + 1)) := by
      rw [← hd, cs_app]
      unfold cs
      rw [List.map_take, List.map_drop]
      exact List.take_left' (by simp; omega)
    refine ⟨_, rfl, ?_, grown_put _, .inl rfl⟩
    have hlen : (cs (c.take p ++ c.drop (p + 1))).length = (cs c).length - (p + 1 - p) := by rw [← hd2, List.length_take, hdl]; omega
    refine ⟨by simp, .inr ⟨g, cap, _, by rw [hlen], Nat.zero_le _, heap_put _ h3, by omega, h5, by simp [Go.Sort.putCells, h6], ?_⟩⟩
    rw [Nat.mul_one, hlen, ← hd2]
    have := take_putCellsI cur d (by omega)
    rw [List.map_take, ← this, List.take_take]
    congr 1
    omega
theorem splice_eq (Y Z : List Value) (u z : Value) (p : Nat) (hp : p ≤ Y.length) :
    ((((Y ++ [u]) ++ Z).take (p + 1) ++ ((((Y ++ [u]).drop p).take (Y.length - p)) ++ ((Y ++ [u]) ++ Z).drop (p + 1 + (Y.length - p)))).set p z) = (Y.take p ++ z :: Y.drop p) ++ Z := by
  obtain ⟨A, hA⟩ : ∃ A, Y.take p = A := ⟨_, rfl⟩
  obtain ⟨B, hB⟩ : ∃ B, Y.drop p = B := ⟨_, rfl⟩
  have hY : Y = A ++ B := by rw [← hA, ← hB, List.take_append_drop]
  have hAl : A.length = p := by rw [← hA, List.length_take]; omega
  have e1 : ((Y ++ [u]).drop p).take (Y.length - p) = B := by
    rw [hY, List.append_assoc, List.drop_left' hAl]
    exact List.take_left' (by simp [hAl])
  have e2 : ((Y ++ [u]) ++ Z).drop (p + 1 + (Y.length - p)) = Z := List.drop_left' (by simp; omega)
  rw [e1, e2, hA, hB]
  have e3 : ((Y ++ [u]) ++ Z).take (p + 1) = A ++ (B ++ [u] ++ Z).take 1 := by
    rw [hY, ← hAl]
    simp only [List.append_assoc]
    rw [List.take_append, List.take_of_length_le (by omega), Nat.add_sub_cancel_left]
  rw [e3]
  cases B with
  | nil => simp [← hAl]
  | cons b B => simp [← hAl]
/-- a copy within a row -/
theorem copy_in {ops : Array Oper} {rest : List Oper} {o : Oper} {a : Act} {Q : Exit → Act → World → Prop} (w : World) (hgd : o.guard = none) (d s : Operand)
    (ho : o.op = .call { callee := .builtin .copy, args := #[d, s], argTypes := #[22, 22] }) (dp sp : Option Addr) (dLen dCap sLen sCap : Nat) (hd : a.eval d = .slice dp dLen dCap) (hs : a.eval s = .slice sp sLen sCap)
    (g off : Nat) (cur : List Value) (hg : w.heap[g]? = some (.cells cur.toArray 3 (0, 0))) (xs : List Value) (hn : xs.length = Nat.min sLen dLen)
    (hpos : 0 < xs.length → dp = some ⟨g, off, none⟩ ∧ ∃ ad, sp = some ad ∧ ∀ j v, xs[j]? = some v → w.cell? (ad.add j) = some v)
    (hfit : off + xs.length ≤ cur.length) (h1 : ∀ v ∈ xs, v.oneCell' = true)
    (h : ∀ w', w'.heap[g]? = some (.cells (cur.take off ++ (xs ++ cur.drop (off + xs.length))).toArray 3 (0, 0)) → w.grownBy w' (some g) → w'.heap.size = w.heap.size → wpList Try.prog ops Q rest (a.put o.dst (goInt xs.length)) w') :
    wpList Try.prog ops Q (o :: rest) a w := by
  have hu : Try.prog.underlying 22 = some (.slice 3) := Try.underlying22
  have hsz : (Try.prog.info? 3).map (·.size) = some 1 := by kernel_rfl
  by_cases h0 : xs.length = 0
  · obtain rfl : xs = [] := List.eq_nil_of_length_eq_zero h0
    refine wpList_copy_nothing hgd d s 22 22 ho 3 hu hsz dp sp dLen dCap sLen sCap hd hs (by simpa using hn.symm) ?_
    exact h w (by simpa using hg) ⟨rfl, rfl, rfl, Nat.le_refl _, fun _ _ _ => rfl⟩ rfl
  · obtain ⟨rfl, ad, rfl, hsrc⟩ := hpos (by omega)
    refine wpList_copy_own hgd d s 22 22 ho 3 hu hsz g off dLen dCap ad sLen sCap hd hs cur.toArray 3 hg xs hn hsrc (by simpa using hfit) h1 ?_
    refine h _ (by simpa using setRow_heap w g _ _ 3 _ hg) ⟨rfl, rfl, rfl, by simp [World.setRow], fun k hk hne => setRow_other w g k _ (fun e => hne (by rw [e]))⟩ (by simp [World.setRow])
end Go.Proofs.Ytdohclnmcdempaa
