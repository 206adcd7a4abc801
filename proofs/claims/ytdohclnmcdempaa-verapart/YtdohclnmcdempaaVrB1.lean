/- What an age has put and dropped changes nothing of the others': the plain part; two stores at once. -/
import Derived.Test.YtdohclnmcdempaaVrE
namespace Go.Proofs.Ytdohclnmcdempaa
open Go.RowKit Go.Maps
set_option linter.unusedVariables false

/-- one store's versions are the other's but an age's -/
def ApI (age : Int) (Ks Kt : Nat → Ch2) : Prop := ∀ at_, at_ < 64 → ∀ a v, (a, v) ∈ Kt at_ ↔ a ≠ age ∧ (a, v) ∈ Ks at_
theorem ApI.first (age : Int) : ApI age noK noK := fun at_ _ a v => ⟨fun h => (List.not_mem_nil h).elim, fun h => (List.not_mem_nil h.2).elim⟩
theorem ApI.both {age : Int} {Ks Kt : Nat → Ch2} {i j : Nat} (h : ApI age Ks Kt) (gs : GK 512 64 Ks i) (gt : GK 512 64 Kt j) (hi : i < 512) (hj : j < 512) (x : O4) (hx : x.ag ≠ age) : ApI age (stepK 512 64 Ks x) (stepK 512 64 Kt x) := by
  intro at_ ha a v
  rw [mem_step gs hi at_ ha, mem_step gt hj at_ ha, h at_ ha]
  constructor
  · rintro (⟨p1, p2, p3⟩ | ⟨q1, q2, q3, q4⟩)
    · exact ⟨by rw [← p2]; exact hx, .inl ⟨p1, p2, p3⟩⟩
    · exact ⟨q3, .inr ⟨q1, q2, q4⟩⟩
  · rintro ⟨n, (⟨p1, p2, p3⟩ | ⟨q1, q2, q3⟩)⟩
    · exact .inl ⟨p1, p2, p3⟩
    · exact .inr ⟨q1, q2, n, q3⟩
theorem ApI.one {age : Int} {Ks Kt : Nat → Ch2} {i : Nat} (h : ApI age Ks Kt) (gs : GK 512 64 Ks i) (hi : i < 512) (x : O4) (hx : x.ag = age) : ApI age (stepK 512 64 Ks x) Kt := by
  intro at_ ha a v
  rw [mem_step gs hi at_ ha, h at_ ha]
  constructor
  · rintro ⟨n, q⟩
    refine ⟨n, .inr ⟨fun d => n ?_, fun p => n ?_, q⟩⟩
    · rw [← hx]; exact d.1.symm
    · rw [← hx]; exact p.2.symm
  · rintro ⟨n, (⟨p1, p2, p3⟩ | ⟨q1, q2, q3⟩)⟩
    · exact absurd (by rw [← p2]; exact hx) n
    · exact ⟨n, q3⟩
theorem ApI.last {age : Int} {Ks Kt : Nat → Ch2} {i j : Nat} (h : ApI age Ks Kt) (gs : GK 512 64 Ks i) (gt : GK 512 64 Kt j) (at_ : Nat) (ha : at_ < 64) : allF Ks age at_ = Kt at_ := by
  unfold allF
  refine srt_ext (srt_dropK (gs.st at_) age) (gt.st at_) (fun x => ?_)
  rw [mem_dropK (gs.st at_), show x = (x.1, x.2) from rfl, h at_ ha]
theorem ApI.tot {age : Int} {Ks Kt : Nat → Ch2} {i j : Nat} (h : ApI age Ks Kt) (gs : GK 512 64 Ks i) (gt : GK 512 64 Kt j) : totK 64 (allF Ks age) = totK 64 Kt := by
  unfold totK
  congr 1
  refine List.map_congr_left fun k hk => ?_
  rw [h.last gs gt k (List.mem_range.1 hk)]

/-- two stores, of which neither writes the other's blocks, beside blocks that both leave alone -/
def TX (X : Nat → Prop) (sb tb ns nt : Nat) (Ks Kt : Nat → Ch2) (w : World) : Prop :=
  ∃ ls lt, SS w ls sb 512 64 ns Ks ∧ SS w lt tb 512 64 nt Kt ∧ (∀ k, ls k ≠ 0 → lt k = 0) ∧ ∀ k, X k → ls k = 0 ∧ lt k = 0 ∧ k < w.heap.size
section
variable {X : Nat → Prop} {sb tb ns nt : Nat} {Ks Kt : Nat → Ch2} {w w' : World}
theorem TX.swap (h : TX X sb tb ns nt Ks Kt w) : TX X tb sb nt ns Kt Ks w := by
  obtain ⟨ls, lt, s, t, d, l⟩ := h
  refine ⟨lt, ls, t, s, fun k hk => ?_, fun k hk => ⟨(l k hk).2.1, (l k hk).1, (l k hk).2.2⟩⟩
  exact Decidable.byContradiction fun q => hk (d k q)
theorem TX.same (h : TX X sb tb ns nt Ks Kt w) (c : Below w.heap.size w w') : TX X sb tb ns nt Ks Kt w' := by
  obtain ⟨ls, lt, s, t, d, l⟩ := h
  exact ⟨ls, lt, s.below c, t.below c, d, fun k hk => ⟨(l k hk).1, (l k hk).2.1, Nat.lt_of_lt_of_le (l k hk).2.2 c.size⟩⟩
theorem TX.new {w1 : World} (s : SX X sb 512 64 ns Ks w1) (t : SX (fun k => k < w1.heap.size) tb 512 64 nt Kt w') (b : Below w1.heap.size w1 w') (hX : ∀ k, X k → k < w1.heap.size) : TX X sb tb ns nt Ks Kt w' := by
  obtain ⟨ls, s, l⟩ := s
  obtain ⟨lt, t, l2⟩ := t
  exact ⟨ls, lt, s.below b, t, fun k hk => (l2 k (s.lt k hk)).1, fun k hk => ⟨(l k hk).1, (l2 k (hX k hk)).1, (l2 k (hX k hk)).2⟩⟩
theorem TX.more (h : TX X sb tb ns nt Ks Kt w) (c : Below w.heap.size w w') {X' : Nat → Prop} (hx : ∀ k, X' k → (X k ∨ w.heap.size ≤ k) ∧ k < w'.heap.size) : TX X' sb tb ns nt Ks Kt w' := by
  obtain ⟨ls, lt, s, t, d, l⟩ := h
  refine ⟨ls, lt, s.below c, t.below c, d, fun k hk => ?_⟩
  obtain ⟨q, r⟩ := hx k hk
  rcases q with q | q
  · exact ⟨(l k q).1, (l k q).2.1, r⟩
  · exact ⟨Decidable.byContradiction fun e => by have := s.lt k e; omega, Decidable.byContradiction fun e => by have := t.lt k e; omega, r⟩
/-- the first one goes on -/
theorem TX.left (h : TX X sb tb ns nt Ks Kt w) : ∃ Y : Nat → Prop, SX Y sb 512 64 ns Ks w ∧ (∀ k, Y k → k < w.heap.size) ∧ ∀ w' n' K', SX Y sb 512 64 n' K' w' → Ch (no Y) w w' → TX X sb tb n' nt K' Kt w' ∧ Ch (no X) w w' := by
  obtain ⟨ls, lt, s, t, d, l⟩ := h
  refine ⟨fun k => X k ∨ lt k ≠ 0, ⟨ls, s, fun k hk => ?_⟩, fun k hk => ?_, fun w' n' K' s' c => ?_⟩
  · rcases hk with q | q
    · exact ⟨(l k q).1, (l k q).2.2⟩
    · exact ⟨Decidable.byContradiction fun r => q (d k r), t.lt k q⟩
  · rcases hk with q | q
    · exact (l k q).2.2
    · exact t.lt k q
  · obtain ⟨ls', s1, l1⟩ := s'
    refine ⟨⟨ls', lt, s1, t.keep (fun k hk => c.block k (t.lt k hk) (fun q => q (.inr hk))) c.size, fun k hk => ?_, fun k hk => ⟨(l1 k (.inl hk)).1, (l k hk).2.1, (l1 k (.inl hk)).2⟩⟩, c.mono (fun k hk hx => hk (.inl hx))⟩
    exact Decidable.byContradiction fun q => hk (l1 k (.inr q)).1
end
/-- two stores of the call's own beside the document's empty one -/
structure TB (w : World) (rb sb tb ns nt : Nat) (Ks Kt : Nat → Ch2) (wr : World) : Prop where
  t : TX (Xb w rb) sb tb ns nt Ks Kt wr
  r : wr.heap[rb]? = some (.cells #[.int .i64 64, .int .i64 512, .slice none 0 0] 49)
  b : Below w.heap.size w wr
section
variable {w wr wr' : World} {rb sb tb ns nt : Nat} {Ks Kt : Nat → Ch2}
theorem TB.same (h : TB w rb sb tb ns nt Ks Kt wr) (c : Below wr.heap.size wr wr') : TB w rb sb tb ns nt Ks Kt wr' :=
  ⟨h.t.same c, (c.block _ (Array.getElem?_eq_some_iff.1 h.r).1).trans h.r, h.b.trans (c.mono h.b.size)⟩
theorem TB.new {w1 : World} (h : TX (fun k => k < w.heap.size) sb tb ns nt Ks Kt w1) (b : Below w.heap.size w w1) : TB w w1.heap.size sb tb ns nt Ks Kt (w1.alloc (.cells #[.int .i64 64, .int .i64 512, .slice none 0 0] 49)) := by
  have hs := b.size
  refine ⟨h.more (bl1 w1 _) (fun k hk => ?_), heap_alloc_new _ _, b.alloc hs _⟩
  rcases hk with q | rfl
  · exact ⟨.inl q, by simp; omega⟩
  · exact ⟨.inr (Nat.le_refl _), by simp⟩
theorem TB.left (h : TB w rb sb tb ns nt Ks Kt wr) : ∃ Y : Nat → Prop, SX Y sb 512 64 ns Ks wr ∧ (∀ k, Y k → k < wr.heap.size) ∧ ∀ w' n' K', SX Y sb 512 64 n' K' w' → Ch (no Y) wr w' → TB w rb sb tb n' nt K' Kt w' := by
  obtain ⟨Y, s, l, f⟩ := h.t.left
  refine ⟨Y, s, l, fun w' n' K' s' c => ?_⟩
  obtain ⟨t', c'⟩ := f w' n' K' s' c
  exact ⟨t', c'.heap h.r (fun q => q (.inr rfl)), h.b.trans (c'.noB h.b.size (fun k hk => .inl hk))⟩
theorem TB.swap (h : TB w rb sb tb ns nt Ks Kt wr) : TB w rb tb sb nt ns Kt Ks wr := ⟨h.t.swap, h.r, h.b⟩
theorem TB.c (h : TB w rb sb tb ns nt Ks Kt wr) : wr.cell? ⟨rb, 0, none⟩ = some (.int .i64 64) ∧ wr.cell? ⟨rb, 1, none⟩ = some (.int .i64 512) ∧ wr.cell? ⟨rb, 2, none⟩ = some (.slice none 0 0) := by
  refine ⟨?_, ?_, ?_⟩ <;> (rw [cell_of_row wr rb _ _ _ _ h.r]; rfl)
theorem TB.sx (h : TB w rb sb tb ns nt Ks Kt wr) : ∃ Y : Nat → Prop, SX Y sb 512 64 ns Ks wr := by
  obtain ⟨Y, s, _⟩ := h.left
  exact ⟨Y, s⟩
end
end Go.Proofs.Ytdohclnmcdempaa
