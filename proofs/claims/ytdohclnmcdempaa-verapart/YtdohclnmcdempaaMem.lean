/- Memory: rows of numbers and truths, own rows that grow, what may be written. -/
import Derived.Test.YtdohclnmcdempaaProg
import Derived.Test.YtdohclnmcdempaaArP
import Derived.Below
import Derived.WalkKit
import Derived.WalkSpells
import Derived.WalkLawsBesides
import Derived.Handy
import Derived.Deep.RegionHeld3
import Derived.Deep.QuietTactic
import Derived.BigQuiet
import Derived.Laws.MakeOwn
import Derived.Laws.StructEq
import Derived.Laws.Rows
import Derived.Maps.AppendAt
import Derived.StillTailTactics
import Derived.Deep.AppendSrc
import Derived.Laws.ResultCell
namespace Go.Proofs.Ytdohclnmcdempaa
open Go.RowKit Go.Maps
set_option linter.unusedVariables false

def R64 (z : Int) : Prop := -9223372036854775808 ≤ z ∧ z ≤ 9223372036854775807
theorem w64in (n : Int) (h : -9223372036854775808 ≤ n ∧ n ≤ 9223372036854775807) : wrap64 n = n := by unfold wrap64; omega
theorem i64_wrap (z : Int) (h : -9223372036854775808 ≤ z ∧ z ≤ 9223372036854775807) : IntKind.i64.wrap z = z := by
  simp [IntKind.wrap, IntKind.bits, IntKind.signed]; omega
theorem Below.dN {B : Nat} {a w : World} (h : Below B a w) (n : Nat) : Below B a (w.drewN n) := ⟨h.os, h.tape, h.output, h.size, h.block⟩
theorem bl1 (w : World) (A : Obj) : Below w.heap.size w (w.alloc A) := (Below.refl _ w).alloc (Nat.le_refl _) A
/-- numbers as cells -/
def ints (l : List Int) : Array Value := (l.map (Value.int .i64)).toArray
theorem ints_at (l : List Int) (i : Nat) (h : i < l.length) : (ints l)[i]? = some (.int .i64 l[i]) := by simp [ints, h]
theorem ints_set (l : List Int) (i : Nat) (z : Int) : (ints l).setIfInBounds i (.int .i64 z) = ints (l.set i z) := by simp [ints, List.map_set]
theorem ints_size (l : List Int) : (ints l).size = l.length := by simp [ints]

/-- of the blocks that were, only those of p are written -/
structure Ch (p : Nat → Prop) (w w' : World) : Prop where
  os : w'.os = w.os
  tape : w'.tape = w.tape
  output : w'.output = w.output
  size : w.heap.size ≤ w'.heap.size
  block : ∀ k, k < w.heap.size → ¬ p k → w'.heap[k]? = w.heap[k]?
theorem Ch.refl (p : Nat → Prop) (w : World) : Ch p w w := ⟨rfl, rfl, rfl, Nat.le_refl _, fun _ _ _ => rfl⟩
theorem Ch.trans {p : Nat → Prop} {a b c : World} (h : Ch p a b) (k : Ch p b c) : Ch p a c :=
  ⟨k.os.trans h.os, k.tape.trans h.tape, k.output.trans h.output, Nat.le_trans h.size k.size, fun i hi hn => (k.block i (Nat.lt_of_lt_of_le hi h.size) hn).trans (h.block i hi hn)⟩
theorem Ch.of {p : Nat → Prop} {a b : World} (h : Below a.heap.size a b) : Ch p a b := ⟨h.os, h.tape, h.output, h.size, fun k hk _ => h.block k hk⟩
theorem Ch.set {p : Nat → Prop} {a b : World} (h : Ch p a b) {g : Nat} (hg : p g ∨ a.heap.size ≤ g) (i : Nat) (v : Value) : Ch p a (b.setCell ⟨g, i, none⟩ v) :=
  ⟨h.os, h.tape, h.output, by simpa [World.setCell] using h.size, fun k hk hn => (Below.heap_setCell _ _ _ _ (by show k ≠ g; rintro rfl; rcases hg with q | q; exact hn q; omega)).trans (h.block k hk hn)⟩
theorem Ch.alloc {p : Nat → Prop} {a b : World} (h : Ch p a b) (o : Obj) : Ch p a (b.alloc o) :=
  ⟨h.os, h.tape, h.output, by simp; have := h.size; omega, fun k hk hn => (Below.heap_alloc _ _ _ (Nat.lt_of_lt_of_le hk h.size)).trans (h.block k hk hn)⟩
theorem Ch.drew {p : Nat → Prop} {a b : World} (h : Ch p a b) : Ch p a b.drew := ⟨h.os, h.tape, h.output, h.size, h.block⟩
theorem Ch.drewN {p : Nat → Prop} {a b : World} (h : Ch p a b) (n : Nat) : Ch p a (b.drewN n) := ⟨h.os, h.tape, h.output, h.size, h.block⟩
/-- what is written is new: nothing that was has changed -/
theorem Ch.below {p : Nat → Prop} {a b : World} (h : Ch p a b) {B : Nat} (hB : B ≤ a.heap.size) (hp : ∀ k, p k → B ≤ k) : Below B a b :=
  ⟨h.os, h.tape, h.output, h.size, fun k hk => h.block k (by omega) (fun q => by have := hp k q; omega)⟩
theorem Ch.mono {p q : Nat → Prop} {a b : World} (h : Ch p a b) (hpq : ∀ k, p k → q k) : Ch q a b := ⟨h.os, h.tape, h.output, h.size, fun k hk hn => h.block k hk (fun x => hn (hpq k x))⟩

theorem Ch.heap {q : Nat → Prop} {w w' : World} (c : Ch q w w') {g : Nat} {o : Obj} (h : w.heap[g]? = some o) (hg : ¬ q g) : w'.heap[g]? = some o := (c.block g (Array.getElem?_eq_some_iff.1 h).1 hg).trans h
theorem Ch.first {q : Nat → Prop} {w w' : World} {A : Obj} (c : Ch q (w.alloc A) w') : Ch q w w' := (Ch.of (bl1 w A)).trans c
theorem info_parts {P : Program} {t : Nat} {z : Value} {s b : Nat} (h : (P.info? t).map (fun i => (i.zero, i.size, i.bytes)) = some (some z, s, b)) : ∃ i, P.info? t = some i ∧ i.zero = some z ∧ i.size = s ∧ i.bytes = b := by
  obtain ⟨i, h1, h2⟩ := Option.map_eq_some_iff.1 h
  simp only [Prod.mk.injEq] at h2
  exact ⟨i, h1, h2.1, h2.2.1, h2.2.2⟩
theorem info3 : (Try.prog.info? 3).map (fun i => (i.zero, i.size, i.bytes)) = some (some (.int .i64 0), 1, 8) := by kernel_rfl
theorem info4 : (Try.prog.info? 4).map (fun i => (i.zero, i.size, i.bytes)) = some (some (.bool false), 1, 1) := by kernel_rfl
theorem zeros_made (n : Nat) : madeCells (Value.int .i64 0).cells (((n : Int).toNat) * 1) = ints (List.replicate n 0) := by
  simp only [madeCells, Value.cells, ints]
  apply Array.ext
  · simp
  · intro i h1 h2
    simp [Nat.mod_one]
theorem made22 (n : Nat) (hn : n ≤ 100000) : ∀ w, (Instr.makeSlice 22 (.int .i64 (n : Int)) (.int .i64 (n : Int))).run Try.prog w = .ok (.slice (some ⟨w.heap.size, 0, none⟩) n n) (w.alloc (.cells (ints (List.replicate n 0)) 3)) := by
  intro w
  obtain ⟨i, h1, e1, e2, e3⟩ := info_parts info3
  have := run_make (P := Try.prog) w 22 3 i (.int .i64 0) Try.underlying22 h1 e1 .i64 .i64 (n : Int) (n : Int) (by omega) (by omega) (by rw [e3]; omega) (by omega)
  rw [e2, zeros_made] at this
  simpa using this
/-- truths as cells -/
def bls (l : List Bool) : Array Value := (l.map Value.bool).toArray
theorem bls_at (l : List Bool) (i : Nat) (h : i < l.length) : (bls l)[i]? = some (.bool l[i]) := by simp [bls, h]
theorem bls_set (l : List Bool) (i : Nat) (z : Bool) : (bls l).setIfInBounds i (.bool z) = bls (l.set i z) := by simp [bls, List.map_set]
theorem falses_made (n : Nat) : madeCells (Value.bool false).cells (((n : Int).toNat) * 1) = bls (List.replicate n false) := by
  simp only [madeCells, Value.cells, bls]
  apply Array.ext
  · simp
  · intro i h1 h2
    simp [Nat.mod_one]
theorem made42 (n : Nat) (hn : n ≤ 100000) : ∀ w, (Instr.makeSlice 42 (.int .i64 (n : Int)) (.int .i64 (n : Int))).run Try.prog w = .ok (.slice (some ⟨w.heap.size, 0, none⟩) n n) (w.alloc (.cells (bls (List.replicate n false)) 4)) := by
  intro w
  obtain ⟨i, h1, e1, e2, e3⟩ := info_parts info4
  have := run_make (P := Try.prog) w 42 4 i (.bool false) Try.underlying42 h1 e1 .i64 .i64 (n : Int) (n : Int) (by omega) (by omega) (by rw [e3]; omega) (by omega)
  rw [e2, falses_made] at this
  simpa using this
theorem addn (b o j : Nat) : (⟨b, o, none⟩ : Addr).add j = ⟨b, o + j, none⟩ := by
  unfold Addr.add
  split
  · rename_i h; subst h; rfl
  · rfl
def GSl (w : World) (v : Value) (G : List Int) : Prop :=
  ∃ a c b o, v = .slice a G.length c ∧ G.length ≤ c ∧ c ≤ maxLen ∧ (0 < G.length → a = some ⟨b, o, none⟩) ∧ ∀ i (h : i < G.length), w.cell? ⟨b, o + i, none⟩ = some (.int .i64 G[i])
theorem GSl.below {w w' : World} {v : Value} {G : List Int} (h : GSl w v G) (hb : Below w.heap.size w w') : GSl w' v G := by
  obtain ⟨a, c, b, o, h1, h2, h3, h4, h5⟩ := h
  exact ⟨a, c, b, o, h1, h2, h3, h4, fun i hi => (hb.cell (p := ⟨b, o + i, none⟩) (World.block_lt_of_cell? w _ (h5 i hi))).trans (h5 i hi)⟩
theorem GSl.nil (w : World) : GSl w (.slice none 0 0) [] := ⟨none, 0, 0, 0, rfl, Nat.le_refl _, Nat.zero_le _, fun h => absurd h (by simp), fun i hi => absurd hi (by simp)⟩
def IZ (w : World) (base : Nat) (v : Value) (l : List Int) : Prop := w.ownsRow base 3 1 v l.length (l.map (Value.int .i64))
theorem IZ.nil (w : World) (base : Nat) : IZ w base (.slice none 0 0) [] := ⟨rfl, .inl ⟨rfl, rfl⟩⟩
theorem IZ.empty (w : World) (base : Nat) (h : base ≤ w.heap.size) : IZ (w.alloc (.cells #[] 3)) base (.slice (some ⟨w.heap.size, 0, none⟩) 0 0) [] := ⟨rfl, .inr ⟨w.heap.size, 0, #[], rfl, h, heap_alloc_new _ _, Nat.le_refl _, Nat.zero_le _, rfl, rfl⟩⟩
theorem IZ.sl {w : World} {base : Nat} {v : Value} {l : List Int} (h : IZ w base v l) : ∃ a c, v = .slice a l.length c := by
  rcases h.2 with ⟨rfl, h0⟩ | ⟨g, cap, cur, rfl, _⟩
  · exact ⟨none, 0, by rw [h0]⟩
  · exact ⟨_, _, rfl⟩
theorem IZ.keep {w w' : World} {base : Nat} {v : Value} {l : List Int} (h : IZ w base v l) (hk : ∀ k, base ≤ k → k < w.heap.size → w'.heap[k]? = w.heap[k]?) : IZ w' base v l := by
  refine ⟨h.1, ?_⟩
  rcases h.2 with h0 | ⟨g, cap, cur, h1, h2, h3, h4⟩
  · exact .inl h0
  · exact .inr ⟨g, cap, cur, h1, h2, (hk g h2 (Array.getElem?_eq_some_iff.1 h3).1).trans h3, h4⟩
theorem IZ.below {w w' : World} {base : Nat} {v : Value} {l : List Int} (h : IZ w base v l) (hb : Below w.heap.size w w') : IZ w' base v l := h.keep fun k _ hk => hb.block k hk
theorem IZ.base {w : World} {base b2 : Nat} {v : Value} {l : List Int} (h : IZ w base v l) (hb : b2 ≤ base) : IZ w b2 v l := by
  refine ⟨h.1, ?_⟩
  rcases h.2 with h0 | ⟨g, cap, cur, h1, h2, h3, h4⟩
  · exact .inl h0
  · exact .inr ⟨g, cap, cur, h1, by omega, h3, h4⟩
theorem IZ.gsl {w : World} {base : Nat} {v : Value} {l : List Int} (h : IZ w base v l) : GSl w v l := by
  have hc := fun g => World.ownsRow.cells h (g := g)
  rcases h.2 with ⟨rfl, h0⟩ | ⟨g, cap, cur, rfl, h2, h3, h4, h5, _⟩
  · have : l = [] := List.length_eq_zero_iff.1 h0
    subst this
    exact GSl.nil w
  · refine ⟨_, cap, g, 0, rfl, h4, h5, fun _ => rfl, fun i hi => ?_⟩
    have := hc g rfl i (.int .i64 l[i]) (by simp [hi])
    have hadd : (⟨g, 0, none⟩ : Addr).add i = ⟨g, 0 + i, none⟩ := by unfold Addr.add; split <;> simp_all
    rw [hadd] at this
    exact this
/-- one number more -/
theorem push_int {ops : Array Oper} {rest : List Oper} {o : Oper} {a : Act} {Q : Exit → Act → World → Prop} (w : World) (hgd : o.guard = none) (s x : Operand)
    (ho : o.op = .call { callee := .builtin .append, args := #[s, x], argTypes := #[22, 22] }) (base : Nat) (v : Value) (l : List Int) (z : Int) (hs : a.eval s = v) (hown : IZ w base v l)
    (g : Nat) (hx : a.eval x = .slice (some ⟨g, 0, none⟩) 1 1) (hc : w.cell? ⟨g, 0, none⟩ = some (.int .i64 z)) (hlen : l.length ≤ 100000) (hb : base ≤ w.heap.size)
    (h : ∀ v' w', IZ w' base v' (l ++ [z]) → Below base w w' → wpList Try.prog ops Q rest (a.put o.dst v') w') : wpList Try.prog ops Q (o :: rest) a w := by
  obtain ⟨i0, hi, hz0, hz1, hz2⟩ := info_parts info3
  refine wpList_append_own w hgd s x 22 ho base 3 i0 (.int .i64 0) 1 8 Try.underlying22 hi hz0 hz1 hz2 rfl (by decide) v l.length (l.map (Value.int .i64)) hs hown ⟨g, 0, none⟩ 1 1 [.int .i64 z] hx rfl ?_ ?_ ?_ ?_ hb ?_
  · intro j u hj
    match j, hj with
    | 0, hj => simp at hj; subst hj; simpa [Addr.add] using hc
  · intro u hu; simp at hu; subst hu; rfl
  · unfold maxLen; omega
  · omega
  · intro v' w' h1 h2 _
    refine h v' w' ?_ ((Below.refl base w).grown h2 hb (fun k hk => (World.ownsRow.lt hown k hk).1))
    unfold IZ
    rw [List.length_append, List.map_append]
    exact h1
set_option maxRecDepth 100000 in
theorem app_gsl (w : World) (ty : TypeId) (base : Nat) (v xv : Value) (l X : List Int) (hown : IZ w base v l) (hx : GSl w xv X) (hlen : l.length + X.length ≤ 100000) (hb : base ≤ w.heap.size) :
    ∃ v' w', (Builtin.append_ #[22, 22] ty #[v, xv]).run Try.prog w = .ok v' w' ∧ IZ w' base v' (l ++ X) ∧ Below base w w' := by
  obtain ⟨i0, hi, hz0, hz1, hz2⟩ := info_parts info3
  obtain ⟨a, c, b, o, rfl, h2, h3, h4, h5⟩ := hx
  cases a with
  | some ad =>
    have hn : ∀ j u, (X.map (Value.int .i64))[j]? = some u → w.cell? (ad.add j) = some u := by
      intro j u hj
      have hjl : j < X.length := by
        have := (List.getElem?_eq_some_iff.1 hj).1
        simpa using this
      have := h4 (by omega)
      injection this with this
      subst this
      rw [addn, h5 j hjl]
      simp [hjl] at hj
      rw [hj]
    obtain ⟨v', w', e1, e2, e3, _⟩ := run_append_own (P := Try.prog) w base 22 ty 3 i0 (.int .i64 0) 1 8 Try.underlying22 hi hz0 hz1 hz2 rfl (by decide) v l.length (l.map (Value.int .i64)) hown ad X.length c (X.map (Value.int .i64)) (by simp) hn (by intro u hu; obtain ⟨z, _, rfl⟩ := List.mem_map.1 hu; rfl) (by unfold maxLen; omega) (by omega) hb
    refine ⟨v', w', e1, ?_, (Below.refl base w).grown e3 hb (fun k hk => (World.ownsRow.lt hown k hk).1)⟩
    unfold IZ
    rw [List.length_append, List.map_append]
    exact e2
  | none =>
    have hX : X = [] := by
      rcases Nat.eq_zero_or_pos X.length with h | h
      · exact List.length_eq_zero_iff.1 h
      · have := h4 h; cases this
    subst hX
    rw [List.append_nil]
    have hs : Src Try.prog i0.size 22 (.slice none 0 c) 0 [] w := Src.ofNil w Try.underlying22 c
    rcases hown.2 with ⟨rfl, h0⟩ | ⟨g, cap, cur, rfl, k2, k3, k4, k5, k6⟩
    · refine ⟨.slice none 0 0, w, ?_, hown, Below.refl _ _⟩
      simp [Builtin.append_, run_underlying Try.underlying22, sizeOf, typeInfo, hi, Builtin.lenOf, hs.cells]
    · have := run_append_room_src (P := Try.prog) w 22 22 ty 3 i0 Try.underlying22 hi g 0 l.length cap (.slice none 0 c) 0 [] hs (by omega) (fun j hj => absurd hj (by simp)) (fun j hj => absurd hj (by simp))
      exact ⟨_, _, this, hown, Below.refl _ _⟩
theorem push_ints {ops : Array Oper} {rest : List Oper} {o : Oper} {a : Act} {Q : Exit → Act → World → Prop} (w : World) (hgd : o.guard = none) (s x : Operand)
    (ho : o.op = .call { callee := .builtin .append, args := #[s, x], argTypes := #[22, 22] }) (base : Nat) (v xv : Value) (l X : List Int) (hs : a.eval s = v) (hx : a.eval x = xv) (hown : IZ w base v l) (hg : GSl w xv X)
    (hlen : l.length + X.length ≤ 100000) (hb : base ≤ w.heap.size)
    (h : ∀ v' w', IZ w' base v' (l ++ X) → Below base w w' → wpList Try.prog ops Q rest (a.put o.dst v') w') : wpList Try.prog ops Q (o :: rest) a w := by
  refine wpList_plain hgd fun K hK => ?_
  obtain ⟨v', w', hr, h2, h3⟩ := app_gsl w o.type base v xv l X hown hg hlen hb
  unfold Oper.wp execOp
  simp only [ho, resolve, invoke, builtin, Sem.run_bind, Sem.run_pure, Result.andThen_ok, List.map_toArray, List.map_cons, List.map_nil, hs, hx, hr]
  exact hK _ _ (h v' w' h2 h3)
/-- one number more, told where it lies -/
theorem push_int_at {ops : Array Oper} {rest : List Oper} {o : Oper} {a : Act} {Q : Exit → Act → World → Prop} (w : World) (hgd : o.guard = none) (s x : Operand)
    (ho : o.op = .call { callee := .builtin .append, args := #[s, x], argTypes := #[22, 22] }) (base : Nat) (v : Value) (l : List Int) (z : Int) (hs : a.eval s = v) (hown : IZ w base v l)
    (g : Nat) (hx : a.eval x = .slice (some ⟨g, 0, none⟩) 1 1) (hc : w.cell? ⟨g, 0, none⟩ = some (.int .i64 z)) (hlen : l.length ≤ 100000) (hb : base ≤ w.heap.size)
    (h : ∀ v' w', IZ w' base v' (l ++ [z]) → w.grownBy w' v.ownBlock → (v'.ownBlock = v.ownBlock ∨ v'.ownBlock = some w.heap.size) → wpList Try.prog ops Q rest (a.put o.dst v') w') : wpList Try.prog ops Q (o :: rest) a w := by
  obtain ⟨i0, hi, hz0, hz1, hz2⟩ := info_parts info3
  refine wpList_append_own_at w hgd s x 22 ho base 3 i0 (.int .i64 0) 1 8 Try.underlying22 hi hz0 hz1 hz2 rfl (by decide) v l.length (l.map (Value.int .i64)) hs hown ⟨g, 0, none⟩ 1 1 [.int .i64 z] hx rfl ?_ ?_ ?_ ?_ hb ?_
  · intro j u hj
    match j, hj with
    | 0, hj => simp at hj; subst hj; simpa [Addr.add] using hc
  · intro u hu; simp at hu; subst hu; rfl
  · unfold maxLen; omega
  · omega
  · intro v' w' h1 h2 _ h4
    refine h v' w' ?_ h2 h4
    unfold IZ
    rw [List.length_append, List.map_append]
    exact h1
/-- only draws -/
def QD (w : World) (v : Value) (e : Ending) (w' : World) : Prop := e = .returned v ∧ ∃ k, w' = w.drewN k
theorem QD.mk (w : World) (v : Value) (k : Nat) : QD w v (.returned v) (w.drewN k) := ⟨rfl, k, rfl⟩
theorem QD.mk0 (w : World) (v : Value) : QD w v (.returned v) w := ⟨rfl, 0, rfl⟩
def cs (l : List Nat) : List Int := l.map Int.ofNat
theorem cs_len (l : List Nat) : (cs l).length = l.length := by simp [cs]
theorem cs_at (l : List Nat) (i : Nat) (h : i < (cs l).length) (h2 : i < l.length) : (cs l)[i] = (l[i] : Int) := by simp [cs]
theorem cs_app (a b : List Nat) : cs (a ++ b) = cs a ++ cs b := by simp [cs]
theorem IZ.own {w : World} {base : Nat} {v : Value} {l : List Int} (h : IZ w base v l) {g : Nat} (hg : v.ownBlock = some g) : base ≤ g ∧ g < w.heap.size := World.ownsRow.lt h g hg
/-- kept where its block is -/
theorem IZ.keepO {w w' : World} {base : Nat} {v : Value} {l : List Int} (h : IZ w base v l) (hk : ∀ g, v.ownBlock = some g → w'.heap[g]? = w.heap[g]?) : IZ w' base v l := by
  refine ⟨h.1, ?_⟩
  rcases h.2 with h0 | ⟨g, cap, cur, h1, h2, h3, h4⟩
  · exact .inl h0
  · exact .inr ⟨g, cap, cur, h1, h2, (hk g (by rw [h1]; rfl)).trans h3, h4⟩
/-- its first ones -/
theorem IZ.cut {w : World} {base g n c : Nat} {l r : List Int} (h : IZ w base (.slice (some ⟨g, 0, none⟩) n c) (l ++ r)) : IZ w base (.slice (some ⟨g, 0, none⟩) l.length c) l := by
  rcases h.2 with ⟨h0, _⟩ | ⟨g', cap, cur, h1, h2, h3, h4, h5, h6, h7⟩
  · cases h0
  · injection h1 with e1 e2 e3
    injection e1 with e1
    injection e1 with e1
    subst e1 e3
    rw [List.length_append] at h4 h7
    refine ⟨by simp, .inr ⟨g, c, cur, rfl, h2, h3, by omega, h5, h6, ?_⟩⟩
    rw [Nat.mul_one] at h7 ⊢
    have := congrArg (List.take l.length) h7
    rw [List.take_take, Nat.min_eq_left (by omega), List.map_append, List.take_left' (by simp)] at this
    exact this
end Go.Proofs.Ytdohclnmcdempaa
