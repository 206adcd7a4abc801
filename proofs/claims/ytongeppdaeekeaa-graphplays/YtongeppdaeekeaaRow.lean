/- Rows of things of some cells each: own ones that grow, and those that can be read. -/
import Derived.Test.YtongeppdaeekeaaHp4
import Derived.Test.YtongeppdaeekeaaApp
import Derived.Below
import Derived.Laws.Rows
import Derived.Laws.ResultCell
import Derived.Deep.MidRow
namespace Go.Proofs.Ytongeppdaeekeaa
open Go.RowKit Go.Maps
set_option linter.unusedVariables false

def R64 (z : Int) : Prop := -9223372036854775808 ≤ z ∧ z ≤ 9223372036854775807
theorem w64in (n : Int) (h : -9223372036854775808 ≤ n ∧ n ≤ 9223372036854775807) : wrap64 n = n := by unfold wrap64; omega
theorem Below.dN {B : Nat} {a w : World} (h : Below B a w) (n : Nat) : Below B a (w.drewN n) := ⟨h.os, h.tape, h.output, h.size, h.block⟩
theorem bl1 (w : World) (A : Obj) : Below w.heap.size w (w.alloc A) := (Below.refl _ w).alloc (Nat.le_refl _) A
theorem Ch.heap {q : Nat → Prop} {w w' : World} (c : Ch q w w') {g : Nat} {o : Obj} (h : w.heap[g]? = some o) (hg : ¬ q g) : w'.heap[g]? = some o := (c.block g (Array.getElem?_eq_some_iff.1 h).1 hg).trans h
/-- only draws -/
def QD (w : World) (v : Value) (e : Ending) (w' : World) : Prop := e = .returned v ∧ ∃ k, w' = w.drewN k
theorem QD.mk (w : World) (v : Value) (k : Nat) : QD w v (.returned v) (w.drewN k) := ⟨rfl, k, rfl⟩
theorem QD.mk0 (w : World) (v : Value) : QD w v (.returned v) w := ⟨rfl, 0, rfl⟩
/-- answered, nothing that was has changed -/
def AN (w : World) (v : Value) (e : Ending) (w' : World) : Prop := e = .returned v ∧ Below w.heap.size w w'

/-- a kind of row -/
structure RK (α : Type) where
  st : TypeId
  et : TypeId
  k : Nat
  bytes : Nat
  cl : α → List Value
  len : ∀ z, (cl z).length = k
  one : ∀ z, ∀ u ∈ cl z, u.oneCell' = true
  pos : 0 < k
  zero : Value
  und : Try.prog.underlying st = some (.slice et)
  inf : (Try.prog.info? et).map (fun i => (i.zero, i.size, i.bytes)) = some (some zero, k, bytes)
  zs : zero.cells.size = k
  bd : bytes ≤ 1000
variable {α : Type}
def RK.flat (K : RK α) (l : List α) : List Value := l.flatMap K.cl
theorem RK.flat_app (K : RK α) (l m : List α) : K.flat (l ++ m) = K.flat l ++ K.flat m := by simp [RK.flat]
theorem RK.flat_len (K : RK α) (l : List α) : (K.flat l).length = l.length * K.k := by
  induction l with
  | nil => simp [RK.flat]
  | cons z l ih =>
    have : (K.flat (z :: l)).length = (K.cl z).length + (K.flat l).length := by simp [RK.flat]
    rw [this, ih, K.len, List.length_cons, Nat.add_mul]; omega
theorem RK.flat_at (K : RK α) : ∀ (l : List α) (i : Nat) (h : i < l.length) (j : Nat), j < K.k → (K.flat l)[i * K.k + j]? = (K.cl l[i])[j]?
  | z :: l, 0, h, j, hj => by
    have e : K.flat (z :: l) = K.cl z ++ K.flat l := by simp [RK.flat]
    rw [e, Nat.zero_mul, Nat.zero_add, List.getElem?_append_left (by rw [K.len]; exact hj)]; rfl
  | z :: l, i + 1, h, j, hj => by
    have e : K.flat (z :: l) = K.cl z ++ K.flat l := by simp [RK.flat]
    have e2 : (i + 1) * K.k + j - (K.cl z).length = i * K.k + j := by rw [K.len, Nat.add_mul]; omega
    rw [e, List.getElem?_append_right (by rw [K.len, Nat.add_mul]; omega), e2]
    exact K.flat_at l i (by simpa using h) j hj
theorem RK.flat_set (K : RK α) : ∀ (l : List α) (i : Nat) (h : i < l.length) (j : Nat) (u : Value) (z : α), j < K.k → K.cl z = (K.cl l[i]).set j u → (K.flat l).set (i * K.k + j) u = K.flat (l.set i z)
  | y :: l, 0, h, j, u, z, hj, hz => by
    have e : ∀ y, K.flat (y :: l) = K.cl y ++ K.flat l := fun y => by simp [RK.flat]
    rw [e, Nat.zero_mul, Nat.zero_add, List.set_append_left _ _ (by rw [K.len]; exact hj)]
    rw [List.set_cons_zero, e, hz]; rfl
  | y :: l, i + 1, h, j, u, z, hj, hz => by
    have e : ∀ (y : α) m, K.flat (y :: m) = K.cl y ++ K.flat m := fun y m => by simp [RK.flat]
    have e2 : (i + 1) * K.k + j - (K.cl y).length = i * K.k + j := by rw [K.len, Nat.add_mul]; omega
    rw [e, List.set_append_right _ _ (by rw [K.len, Nat.add_mul]; omega), e2, K.flat_set l i (by simpa using h) j u z hj (by simpa using hz), List.set_cons_succ, e]
theorem RK.info (K : RK α) : ∃ i, Try.prog.info? K.et = some i ∧ i.zero = some K.zero ∧ i.size = K.k ∧ i.bytes = K.bytes := info_parts K.inf
/-- an own row -/
def RZ (K : RK α) (w : World) (v : Value) (l : List α) : Prop := w.ownsRow 0 K.et K.k v l.length (K.flat l)
/-- a row that can be read -/
def RS (K : RK α) (w : World) (v : Value) (l : List α) : Prop :=
  ∃ a c b o, v = .slice a l.length c ∧ l.length ≤ c ∧ c ≤ maxLen ∧ (0 < l.length → a = some ⟨b, o, none⟩) ∧ ∀ i (h : i < l.length) j, j < K.k → w.cell? ⟨b, o + (i * K.k + j), none⟩ = (K.cl l[i])[j]?
section
variable {K : RK α} {w w' : World} {v : Value} {l : List α}
theorem RS.form (h : RS K w v l) : ∃ a c, v = .slice a l.length c := by
  obtain ⟨a, c, b, o, e, _⟩ := h
  exact ⟨a, c, e⟩
theorem RS.nil (K : RK α) (w : World) : RS K w (.slice none 0 0) [] := ⟨none, 0, 0, 0, rfl, Nat.le_refl _, Nat.zero_le _, fun h => absurd h (by simp), fun i hi => absurd hi (by simp)⟩
theorem cl_some (K : RK α) (z : α) (j : Nat) (hj : j < K.k) : ∃ u, (K.cl z)[j]? = some u := ⟨_, List.getElem?_eq_getElem (by rw [K.len]; exact hj)⟩
theorem RS.keep (h : RS K w v l) (hk : ∀ g, g < w.heap.size → (∃ o n c, v = .slice (some ⟨g, o, none⟩) n c) → 0 < l.length → w'.heap[g]? = w.heap[g]?) : RS K w' v l := by
  obtain ⟨a, c, b, o, h1, h2, h3, h4, h5⟩ := h
  refine ⟨a, c, b, o, h1, h2, h3, h4, fun i hi j hj => ?_⟩
  obtain ⟨u, hu⟩ := cl_some K l[i] j hj
  have h6 := h5 i hi j hj
  rw [hu] at h6 ⊢
  have hlt := World.block_lt_of_cell? w _ h6
  have hp : 0 < l.length := by omega
  exact (World.cell?_of_block (a := ⟨b, o + (i * K.k + j), none⟩) (hk b hlt ⟨o, _, c, by rw [h1, h4 hp]⟩ hp)).trans h6
theorem RS.below (h : RS K w v l) (hb : Below w.heap.size w w') : RS K w' v l := h.keep fun g hg _ _ => hb.block g hg
theorem RS.cell (h : RS K w v l) {i : Nat} (hi : i < l.length) : ∃ b o n c, v = .slice (some ⟨b, o, none⟩) n c ∧ ∀ j, j < K.k → w.cell? ⟨b, o + (i * K.k + j), none⟩ = (K.cl l[i])[j]? := by
  obtain ⟨a, c, b, o, h1, h2, h3, h4, h5⟩ := h
  exact ⟨b, o, _, c, by rw [h1, h4 (by omega)], fun j hj => h5 i hi j hj⟩
theorem RZ.nil (K : RK α) (w : World) : RZ K w (.slice none 0 0) [] := ⟨by simp [RK.flat], .inl ⟨rfl, rfl⟩⟩
theorem RZ.empty (K : RK α) (w : World) : RZ K (w.alloc (.cells #[] K.et)) (.slice (some ⟨w.heap.size, 0, none⟩) 0 0) [] := ⟨by simp [RK.flat], .inr ⟨w.heap.size, 0, #[], rfl, Nat.zero_le _, heap_alloc_new _ _, Nat.le_refl _, Nat.zero_le _, by simp, by simp [RK.flat]⟩⟩
theorem RZ.sl (h : RZ K w v l) : ∃ a c, v = .slice a l.length c := by
  rcases h.2 with ⟨rfl, h0⟩ | ⟨g, cap, cur, rfl, _⟩
  · exact ⟨none, 0, by rw [h0]⟩
  · exact ⟨_, _, rfl⟩
theorem RZ.own (h : RZ K w v l) {g : Nat} (hg : v.ownBlock = some g) : g < w.heap.size := (World.ownsRow.lt h g hg).2
theorem RZ.keep (h : RZ K w v l) (hk : ∀ g, v.ownBlock = some g → w'.heap[g]? = w.heap[g]?) : RZ K w' v l := by
  refine ⟨h.1, ?_⟩
  rcases h.2 with h0 | ⟨g, cap, cur, h1, h2, h3, h4⟩
  · exact .inl h0
  · exact .inr ⟨g, cap, cur, h1, h2, (hk g (by rw [h1]; rfl)).trans h3, h4⟩
theorem RZ.below (h : RZ K w v l) (hb : Below w.heap.size w w') : RZ K w' v l := h.keep fun g hg => hb.block g (h.own hg)
theorem RZ.rs (h : RZ K w v l) : RS K w v l := by
  have hc := fun g => World.ownsRow.cells h (g := g)
  rcases h.2 with ⟨rfl, h0⟩ | ⟨g, cap, cur, rfl, h2, h3, h4, h5, _⟩
  · have : l = [] := List.length_eq_zero_iff.1 h0
    subst this
    exact RS.nil K w
  · refine ⟨_, cap, g, 0, rfl, h4, h5, fun _ => rfl, fun i hi j hj => ?_⟩
    obtain ⟨u, hu⟩ := cl_some K l[i] j hj
    have h6 := hc g rfl (i * K.k + j) u (by rw [K.flat_at l i hi j hj]; exact hu)
    rw [addn] at h6
    rw [h6, hu]
theorem RZ.cell (h : RZ K w v l) {i : Nat} (hi : i < l.length) : ∃ g c, v = .slice (some ⟨g, 0, none⟩) l.length c ∧ (∀ j, j < K.k → w.cell? ⟨g, i * K.k + j, none⟩ = (K.cl l[i])[j]?) ∧ ∀ j, w.frozen? ⟨g, j, none⟩ = false := by
  have hc := fun g => World.ownsRow.cells h (g := g)
  rcases h.2 with ⟨rfl, h0⟩ | ⟨g, cap, cur, rfl, h2, h3, h4, h5, _⟩
  · omega
  · refine ⟨g, cap, rfl, fun j hj => ?_, fun j => frozen_of_row w g j _ _ h3⟩
    obtain ⟨u, hu⟩ := cl_some K l[i] j hj
    have h6 := hc g rfl (i * K.k + j) u (by rw [K.flat_at l i hi j hj]; exact hu)
    rw [addn, Nat.zero_add] at h6
    rw [h6, hu]
/-- one cell of it is set -/
theorem RZ.set {g n c : Nat} (h : RZ K w (.slice (some ⟨g, 0, none⟩) n c) l) {i j : Nat} (hi : i < l.length) (hj : j < K.k) (u : Value) (z : α) (hz : K.cl z = (K.cl l[i]).set j u) : RZ K (w.setCell ⟨g, i * K.k + j, none⟩ u) (.slice (some ⟨g, 0, none⟩) n c) (l.set i z) := by
  rcases h.2 with ⟨h1, h0⟩ | ⟨g', cap, cur, h1, h2, h3, h4, h5, h6, h7⟩
  · cases h1
  · injection h1 with e1 e2 e3
    injection e1 with e1
    injection e1 with e1
    subst e1 e2 e3
    refine ⟨by rw [K.flat_len], .inr ⟨g, c, _, by rw [List.length_set], h2, heap_setCell_same w g _ _ K.et _ h3, by rw [List.length_set]; exact h4, h5, by simpa using h6, ?_⟩⟩
    rw [List.length_set, Array.toList_setIfInBounds, List.take_set, h7, K.flat_set l i hi j u z hj hz]
theorem new_at (K : RK α) (z : α) (g : Nat) (hc : ∀ j, j < K.k → w.cell? ⟨g, j, none⟩ = (K.cl z)[j]?) : ∀ j u, (K.cl z)[j]? = some u → w.cell? ((⟨g, 0, none⟩ : Addr).add j) = some u := by
  intro j u hj
  rw [addn, Nat.zero_add, hc j (by have := (List.getElem?_eq_some_iff.1 hj).1; rw [K.len] at this; exact this)]
  exact hj
/-- one more, told where it lies -/
theorem push_one {ops : Array Oper} {rest : List Oper} {o : Oper} {a : Act} {Q : Exit → Act → World → Prop} (K : RK α) (w : World) (hgd : o.guard = none) (s x : Operand)
    (ho : o.op = .call { callee := .builtin .append, args := #[s, x], argTypes := #[K.st, K.st] }) (v : Value) (l : List α) (z : α) (hs : a.eval s = v) (hown : RZ K w v l)
    (g : Nat) (hx : a.eval x = .slice (some ⟨g, 0, none⟩) 1 1) (hc : ∀ j, j < K.k → w.cell? ⟨g, j, none⟩ = (K.cl z)[j]?) (hlen : l.length ≤ 100000)
    (h : ∀ v' w', RZ K w' v' (l ++ [z]) → w.grownBy w' v.ownBlock → (v'.ownBlock = v.ownBlock ∨ v'.ownBlock = some w.heap.size) → wpList Try.prog ops Q rest (a.put o.dst v') w') : wpList Try.prog ops Q (o :: rest) a w := by
  obtain ⟨i0, hi, hz0, hz1, hz2⟩ := K.info
  refine wpList_append_own_at w hgd s x K.st ho 0 K.et i0 K.zero K.k K.bytes K.und hi hz0 hz1 hz2 K.zs K.pos v l.length (K.flat l) hs hown ⟨g, 0, none⟩ 1 1 (K.cl z) hx (by rw [K.len, Nat.one_mul]) (new_at K z g hc) (K.one z) ?_ ?_ (Nat.zero_le _) ?_
  · unfold maxLen; omega
  · have h1 := K.bd
    have : (l.length + 1) * K.bytes ≤ 100001 * 1000 := Nat.mul_le_mul (by omega) h1
    omega
  · intro v' w' h1 h2 _ h4
    refine h v' w' ?_ h2 h4
    unfold RZ
    rw [List.length_append, K.flat_app]
    have : K.flat [z] = K.cl z := by simp [RK.flat]
    rw [this]; exact h1
theorem grown_below {B : Nat} (h : w.grownBy w' v.ownBlock) (hB : B ≤ w.heap.size) (ho : ∀ g, v.ownBlock = some g → B ≤ g) : Below B w w' :=
  ⟨h.os, h.tape, h.output, h.size, fun k hk => h.block k (by omega) (fun e => by have := ho k e.symm; omega)⟩
set_option maxRecDepth 100000 in
theorem app_row (K : RK α) (w : World) (ty : TypeId) (v xv : Value) (l X : List α) (hown : RZ K w v l) (hx : RS K w xv X) (hlen : l.length + X.length ≤ 100000) :
    ∃ v' w', (Builtin.append_ #[K.st, K.st] ty #[v, xv]).run Try.prog w = .ok v' w' ∧ RZ K w' v' (l ++ X) ∧ w.grownBy w' v.ownBlock ∧ (v'.ownBlock = v.ownBlock ∨ v'.ownBlock = some w.heap.size) := by
  obtain ⟨i0, hi, hz0, hz1, hz2⟩ := K.info
  obtain ⟨a, c, b, o, rfl, h2, h3, h4, h5⟩ := hx
  cases a with
  | some ad =>
    have hn : ∀ j u, (K.flat X)[j]? = some u → w.cell? (ad.add j) = some u := by
      intro j u hj
      have hjl : j < X.length * K.k := by
        have := (List.getElem?_eq_some_iff.1 hj).1
        rw [K.flat_len] at this; exact this
      have hp : 0 < X.length := by
        rcases Nat.eq_zero_or_pos X.length with h | h
        · rw [h, Nat.zero_mul] at hjl; omega
        · exact h
      have := h4 hp
      injection this with this
      subst this
      have hq : j / K.k < X.length := Nat.div_lt_of_lt_mul (by rw [Nat.mul_comm]; exact hjl)
      have hr : j % K.k < K.k := Nat.mod_lt _ K.pos
      have hd : j / K.k * K.k + j % K.k = j := by rw [Nat.mul_comm]; exact Nat.div_add_mod j K.k
      have h6 := h5 (j / K.k) hq (j % K.k) hr
      rw [hd] at h6
      rw [addn, h6, ← K.flat_at X _ hq _ hr, hd]
      exact hj
    have h1 : ∀ u ∈ K.flat X, u.oneCell' = true := by
      intro u hu
      obtain ⟨z, _, hz⟩ := List.mem_flatMap.1 hu
      exact K.one z u hz
    obtain ⟨v', w', e1, e2, e3, e4, e5⟩ := run_append_own_at (P := Try.prog) w 0 K.st ty K.et i0 K.zero K.k K.bytes K.und hi hz0 hz1 hz2 K.zs K.pos v l.length (K.flat l) hown ad X.length c (K.flat X) (by rw [K.flat_len]) hn h1 (by unfold maxLen; omega) (by
      have h1 := K.bd
      have : (l.length + X.length) * K.bytes ≤ 100000 * 1000 := Nat.mul_le_mul (by omega) h1
      omega) (Nat.zero_le _)
    refine ⟨v', w', e1, ?_, e3, e5⟩
    unfold RZ
    rw [List.length_append, K.flat_app]
    exact e2
  | none =>
    have hX : X = [] := by
      rcases Nat.eq_zero_or_pos X.length with h | h
      · exact List.length_eq_zero_iff.1 h
      · have := h4 h; cases this
    subst hX
    rw [List.append_nil]
    have hs : Src Try.prog i0.size K.st (.slice none 0 c) 0 [] w := Src.ofNil w K.und c
    rcases hown.2 with ⟨rfl, h0⟩ | ⟨g, cap, cur, rfl, k2, k3, k4, k5, k6⟩
    · refine ⟨.slice none 0 0, w, ?_, hown, ⟨rfl, rfl, rfl, Nat.le_refl _, fun _ _ _ => rfl⟩, .inl rfl⟩
      simp [Builtin.append_, run_underlying K.und, sizeOf, typeInfo, hi, Builtin.lenOf, hs.cells]
    · have := run_append_room_src (P := Try.prog) w K.st K.st ty K.et i0 K.und hi g 0 l.length cap (.slice none 0 c) 0 [] hs (by omega) (fun j hj => absurd hj (by simp)) (fun j hj => absurd hj (by simp))
      exact ⟨_, _, this, hown, ⟨rfl, rfl, rfl, Nat.le_refl _, fun _ _ _ => rfl⟩, .inl rfl⟩
/-- a whole row more -/
theorem push_row {ops : Array Oper} {rest : List Oper} {o : Oper} {a : Act} {Q : Exit → Act → World → Prop} (K : RK α) (w : World) (hgd : o.guard = none) (s x : Operand)
    (ho : o.op = .call { callee := .builtin .append, args := #[s, x], argTypes := #[K.st, K.st] }) (v xv : Value) (l X : List α) (hs : a.eval s = v) (hx : a.eval x = xv) (hown : RZ K w v l) (hg : RS K w xv X)
    (hlen : l.length + X.length ≤ 100000)
    (h : ∀ v' w', RZ K w' v' (l ++ X) → w.grownBy w' v.ownBlock → (v'.ownBlock = v.ownBlock ∨ v'.ownBlock = some w.heap.size) → wpList Try.prog ops Q rest (a.put o.dst v') w') : wpList Try.prog ops Q (o :: rest) a w := by
  refine wpList_plain hgd fun C hC => ?_
  obtain ⟨v', w', hr, h2, h3, h4⟩ := app_row K w o.type v xv l X hown hg hlen
  unfold Oper.wp execOp
  simp only [ho, resolve, invoke, builtin, Sem.run_bind, Sem.run_pure, Result.andThen_ok, List.map_toArray, List.map_cons, List.map_nil, hs, hx, hr]
  exact hC _ _ (h v' w' h2 h3 h4)
end
end Go.Proofs.Ytongeppdaeekeaa
