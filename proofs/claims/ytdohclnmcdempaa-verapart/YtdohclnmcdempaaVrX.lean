/- A store beside blocks that it leaves alone; rows of calls as they lie in memory. -/
import Derived.Test.YtdohclnmcdempaaVrW
namespace Go.Proofs.Ytdohclnmcdempaa
open Go.RowKit Go.Maps
set_option linter.unusedVariables false

/-- a store that leaves the blocks of X alone -/
def SX (X : Nat → Prop) (sb R W n : Nat) (K : Nat → Ch2) (w : World) : Prop := ∃ lab, SS w lab sb R W n K ∧ ∀ k, X k → lab k = 0 ∧ k < w.heap.size
section
variable {X : Nat → Prop} {sb R W n : Nat} {K : Nat → Ch2} {w w' : World}
theorem SX.same (h : SX X sb R W n K w) (c : Below w.heap.size w w') : SX X sb R W n K w' := by
  obtain ⟨lab, s, l⟩ := h
  exact ⟨lab, s.below c, fun k hk => ⟨(l k hk).1, Nat.lt_of_lt_of_le (l k hk).2 c.size⟩⟩
theorem SX.less (h : SX X sb R W n K w) {X' : Nat → Prop} (hx : ∀ k, X' k → X k) : SX X' sb R W n K w := by
  obtain ⟨lab, s, l⟩ := h
  exact ⟨lab, s, fun k hk => l k (hx k hk)⟩
/-- more that it leaves alone: what is new -/
theorem SX.more (h : SX X sb R W n K w) (c : Below w.heap.size w w') {X' : Nat → Prop} (hx : ∀ k, X' k → (X k ∨ w.heap.size ≤ k) ∧ k < w'.heap.size) : SX X' sb R W n K w' := by
  obtain ⟨lab, s, l⟩ := h
  refine ⟨lab, s.below c, fun k hk => ⟨?_, (hx k hk).2⟩⟩
  rcases (hx k hk).1 with r | r
  · exact (l k r).1
  · refine Decidable.byContradiction fun q => ?_
    have := s.lt k q
    omega
theorem SX.set (h : SX X sb R W n K w) {g : Nat} (hg : X g) (i : Nat) (z : Value) : SX X sb R W n K (w.setCell ⟨g, i, none⟩ z) := by
  obtain ⟨lab, s, l⟩ := h
  refine ⟨lab, s.keep (fun k hk => Below.heap_setCell _ _ _ _ (by show k ≠ g; rintro rfl; exact hk (l k hg).1)) (by simp [World.setCell]), fun k hk => ⟨(l k hk).1, by simpa [World.setCell] using (l k hk).2⟩⟩
theorem SX.next {K' : Nat → Ch2} {lab lab' : Nat → Nat} {n' : Nat} (l : ∀ k, X k → lab k = 0 ∧ k < w.heap.size) (s : SS w' lab' sb R W n' K') (q : LabQ lab lab' w w') : SX X sb R W n' K' w' ∧ Ch (no X) w w' :=
  ⟨⟨lab', s, fun k hk => ⟨(q.1 k (l k hk).2).trans (l k hk).1, Nat.lt_of_lt_of_le (l k hk).2 q.2.size⟩⟩, q.2.mono (fun k hk hx => hk (l k hx).1)⟩
theorem SX.put (h : SX X sb R W n K w) (z a v : Int) (ha : a ≤ 9223372036854775807) (hn : n < 1000000) : Calls Try.prog 26 #[.pointer (some ⟨sb, 0, none⟩), .int .i64 z, .int .i64 a, .int .i64 v] w fun e w' => e = .returned (.int .i64 (putE R W K z a)) ∧ SX X sb R W (n + 1) (putF R W K z a v) w' ∧ Ch (no X) w w' := by
  obtain ⟨lab, s, l⟩ := h
  refine (s.put z a v ha hn).mono ?_
  rintro e w' ⟨rfl, lab', s', q⟩
  exact ⟨rfl, SX.next l s' q⟩
theorem SX.drop (h : SX X sb R W n K w) (z a : Int) (ha : -9223372036854775808 ≤ a ∧ a ≤ 9223372036854775807) (hn : n < 1000000) : Calls Try.prog 27 #[.pointer (some ⟨sb, 0, none⟩), .int .i64 z, .int .i64 a] w fun e w' => e = .returned (.bool (hasK (K (wi W z)) a)) ∧ SX X sb R W (n + 1) (dropF W K z a) w' ∧ Ch (no X) w w' := by
  obtain ⟨lab, s, l⟩ := h
  refine (s.drop z a ha hn).mono ?_
  rintro e w' ⟨rfl, lab', s', q⟩
  exact ⟨rfl, SX.next l s' q⟩
theorem SX.dropAll (h : SX X sb R W n K w) (a : Int) (ha : -9223372036854775808 ≤ a ∧ a ≤ 9223372036854775807) (hn : n < 900000) : Calls Try.prog 28 #[.pointer (some ⟨sb, 0, none⟩), .int .i64 a] w fun e w' => e = .returned (.int .i64 (manyK W K a : Int)) ∧ SX X sb R W (n + 64) (allF K a) w' ∧ Ch (no X) w w' := by
  obtain ⟨lab, s, l⟩ := h
  refine (s.dropAll a ha hn).mono ?_
  rintro e w' ⟨rfl, lab', s', q⟩
  exact ⟨rfl, SX.next l s' q⟩
theorem SX.older (h : SX X sb R W n K w) (z a : Int) : Calls Try.prog 29 #[.pointer (some ⟨sb, 0, none⟩), .int .i64 z, .int .i64 a] w (OldQ (K (wi W z)) a w) := by
  obtain ⟨lab, s, l⟩ := h
  exact s.older z a
theorem SX.get (h : SX X sb R W n K w) (z a : Int) : Calls Try.prog 34 #[.pointer (some ⟨sb, 0, none⟩), .int .i64 z, .int .i64 a] w fun e w' => e = .returned (.tuple #[.int .i64 (getV (K (wi W z)) a), .bool (hasK (K (wi W z)) a)]) ∧ Below w.heap.size w w' := by
  obtain ⟨lab, s, l⟩ := h
  exact s.get z a
theorem SX.many (h : SX X sb R W n K w) (a : Int) (ha : -9223372036854775808 ≤ a ∧ a ≤ 9223372036854775807) : Calls Try.prog 41 #[.pointer (some ⟨sb, 0, none⟩), .int .i64 a] w (Same w (.int .i64 (manyK W K a : Int))) := by
  obtain ⟨lab, s, l⟩ := h
  exact s.many a ha
theorem SX.live (h : SX X sb R W n K w) : Calls Try.prog 30 #[.pointer (some ⟨sb, 0, none⟩)] w (QD w (.int .i64 (totK W K : Int))) := by
  obtain ⟨lab, s, l⟩ := h
  exact s.live
theorem SX.free (h : SX X sb R W n K w) : Calls Try.prog 38 #[.pointer (some ⟨sb, 0, none⟩)] w (QD w (.int .i64 ((R : Int) - (totK W K : Int)))) := by
  obtain ⟨lab, s, l⟩ := h
  exact s.free
theorem SX.st (h : SX X sb R W n K w) (i : Nat) : srt (K i) := by
  obtain ⟨lab, s, l⟩ := h
  exact s.st i
end
theorem SX.new (W R : Nat) (w : World) (h : newE (W : Int) (R : Int) = 0) : Calls Try.prog 20 #[.int .i64 (W : Int), .int .i64 (R : Int)] w fun e w' => ∃ sb, e = .returned (.tuple #[.pointer (some ⟨sb, 0, none⟩), .int .i64 0]) ∧ SX (fun k => k < w.heap.size) sb R W 0 noK w' ∧ Below w.heap.size w w' := by
  refine (snew_any (W : Int) (R : Int) w).mono ?_
  rintro e w' ⟨b, h1⟩
  rw [if_pos h] at h1
  obtain ⟨sb, lab, rfl, s, l⟩ := h1
  exact ⟨sb, rfl, ⟨lab, by simpa using s, fun k hk => ⟨l k hk, Nat.lt_of_lt_of_le hk b.size⟩⟩, b⟩
/-- a row of calls as it lies in memory -/
def OSl (w : World) (v : Value) (l : List O4) : Prop := ∃ a c b o, v = .slice a l.length c ∧ l.length ≤ c ∧ c ≤ maxLen ∧ (0 < l.length → a = some ⟨b, o, none⟩) ∧ ∀ i (h : i < l.length), w.cell? ⟨b, o + i * 4, none⟩ = some (.int .i64 l[i].kd) ∧ w.cell? ⟨b, o + i * 4 + 1, none⟩ = some (.int .i64 l[i].at_) ∧ w.cell? ⟨b, o + i * 4 + 2, none⟩ = some (.int .i64 l[i].ag) ∧ w.cell? ⟨b, o + i * 4 + 3, none⟩ = some (.int .i64 l[i].vl)
/-- a call in a box -/
def XB4 (w : World) (xb : Nat) (x : O4) : Prop := w.heap[xb]? = some (.cells #[.int .i64 x.kd, .int .i64 x.at_, .int .i64 x.ag, .int .i64 x.vl] 55)
theorem XB4.all {w : World} {xb : Nat} {x : O4} (h : XB4 w xb x) : w.cell? ⟨xb, 0, none⟩ = some (.int .i64 x.kd) ∧ w.cell? ⟨xb, 1, none⟩ = some (.int .i64 x.at_) ∧ w.cell? ⟨xb, 2, none⟩ = some (.int .i64 x.ag) ∧ w.cell? ⟨xb, 3, none⟩ = some (.int .i64 x.vl) := by
  unfold XB4 at h
  refine ⟨?_, ?_, ?_, ?_⟩ <;> (rw [cell_of_row w xb _ _ _ _ h]; rfl)
theorem XB4.new (w : World) (x : O4) : XB4 (w.alloc (.cells #[.int .i64 x.kd, .int .i64 x.at_, .int .i64 x.ag, .int .i64 x.vl] 55)) w.heap.size x := heap_alloc_new _ _
theorem XB4.below {w w' : World} {xb : Nat} {x : O4} (h : XB4 w xb x) (c : Below w.heap.size w w') : XB4 w' xb x := (c.block _ (Array.getElem?_eq_some_iff.1 h).1).trans h
theorem XB4.ch {w w' : World} {xb : Nat} {x : O4} {X : Nat → Prop} (h : XB4 w xb x) (c : Ch (no X) w w') (hx : X xb) : XB4 w' xb x := c.heap h (fun q => q hx)
theorem XB4.lt {w : World} {xb : Nat} {x : O4} (h : XB4 w xb x) : xb < w.heap.size := (Array.getElem?_eq_some_iff.1 h).1
/-- the blocks that were, and one more -/
def Xb (w : World) (xb : Nat) : Nat → Prop := fun k => k < w.heap.size ∨ k = xb
/-- a store of the call's own beside a box -/
structure SB (w : World) (xb : Nat) (x : O4) (sb R W n : Nat) (K : Nat → Ch2) (wr : World) : Prop where
  s : SX (Xb w xb) sb R W n K wr
  x : XB4 wr xb x
  b : Below w.heap.size w wr
theorem SB.new {w : World} {sb R W n : Nat} {K : Nat → Ch2} {wr : World} (h : SX (fun k => k < w.heap.size) sb R W n K wr) (b : Below w.heap.size w wr) (x : O4) : SB w wr.heap.size x sb R W n K (wr.alloc (.cells #[.int .i64 x.kd, .int .i64 x.at_, .int .i64 x.ag, .int .i64 x.vl] 55)) := by
  have hs := b.size
  refine ⟨h.more (bl1 wr _) (fun k hk => ?_), XB4.new wr x, b.alloc hs _⟩
  rcases hk with q | rfl
  · exact ⟨.inl q, by simp; omega⟩
  · exact ⟨.inr (Nat.le_refl _), by simp⟩
theorem SB.next {w : World} {xb : Nat} {x : O4} {sb R W n n' : Nat} {K K' : Nat → Ch2} {wr wr' : World} (h : SB w xb x sb R W n K wr) (s : SX (Xb w xb) sb R W n' K' wr') (c : Ch (no (Xb w xb)) wr wr') : SB w xb x sb R W n' K' wr' :=
  ⟨s, h.x.ch c (.inr rfl), h.b.trans (c.noB h.b.size (fun k hk => .inl hk))⟩
theorem SB.done {w : World} {xb : Nat} {x : O4} {sb R W n : Nat} {K : Nat → Ch2} {wr : World} (h : SB w xb x sb R W n K wr) : SX (fun k => k < w.heap.size) sb R W n K wr ∧ Below w.heap.size w wr := ⟨h.s.less (fun k hk => .inl hk), h.b⟩
theorem SB.same {w : World} {xb : Nat} {x : O4} {sb R W n : Nat} {K : Nat → Ch2} {wr wr' : World} (h : SB w xb x sb R W n K wr) (c : Below wr.heap.size wr wr') : SB w xb x sb R W n K wr' := ⟨h.s.same c, h.x.below c, h.b.trans (c.mono h.b.size)⟩
end Go.Proofs.Ytdohclnmcdempaa
