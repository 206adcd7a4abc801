/- Chain: a word's versions, as a row of the call's own. -/
import Derived.Test.YtdohclnmcdempaaVrX
namespace Go.Proofs.Ytdohclnmcdempaa
open Go.RowKit Go.Maps
set_option linter.unusedVariables false

def pcs (l : List (Int × Int)) : List Value := l.flatMap fun z => [.int .i64 z.1, .int .i64 z.2]
theorem pcs_app (l m : List (Int × Int)) : pcs (l ++ m) = pcs l ++ pcs m := by simp [pcs]
theorem pcs_at : ∀ (l : List (Int × Int)) (i : Nat) (h : i < l.length), (pcs l)[i * 2]? = some (.int .i64 l[i].1) ∧ (pcs l)[i * 2 + 1]? = some (.int .i64 l[i].2)
  | z :: l, 0, h => ⟨rfl, rfl⟩
  | z :: l, i + 1, h => by
    have := pcs_at l i (by simpa using h)
    have e1 : (i + 1) * 2 = i * 2 + 2 := by omega
    rw [e1]
    exact this
def PSl (w : World) (v : Value) (G : List (Int × Int)) : Prop :=
  ∃ a c b o, v = .slice a G.length c ∧ G.length ≤ c ∧ c ≤ maxLen ∧ (0 < G.length → a = some ⟨b, o, none⟩) ∧ ∀ i (h : i < G.length), w.cell? ⟨b, o + i * 2, none⟩ = some (.int .i64 G[i].1) ∧ w.cell? ⟨b, o + (i * 2 + 1), none⟩ = some (.int .i64 G[i].2)
theorem PSl.below {w w' : World} {v : Value} {G : List (Int × Int)} (h : PSl w v G) (hb : Below w.heap.size w w') : PSl w' v G := by
  obtain ⟨a, c, b, o, h1, h2, h3, h4, h5⟩ := h
  exact ⟨a, c, b, o, h1, h2, h3, h4, fun i hi => ⟨(hb.cell (p := ⟨b, o + i * 2, none⟩) (World.block_lt_of_cell? w _ (h5 i hi).1)).trans (h5 i hi).1, (hb.cell (p := ⟨b, o + (i * 2 + 1), none⟩) (World.block_lt_of_cell? w _ (h5 i hi).2)).trans (h5 i hi).2⟩⟩
theorem PSl.nil (w : World) : PSl w (.slice none 0 0) [] := ⟨none, 0, 0, 0, rfl, Nat.le_refl _, Nat.zero_le _, fun h => absurd h (by simp), fun i hi => absurd hi (by simp)⟩
def PZ (w : World) (base : Nat) (v : Value) (l : List (Int × Int)) : Prop := w.ownsRow base 62 2 v l.length (pcs l)
theorem PZ.nil (w : World) (base : Nat) : PZ w base (.slice none 0 0) [] := ⟨rfl, .inl ⟨rfl, rfl⟩⟩
theorem PZ.sl {w : World} {base : Nat} {v : Value} {l : List (Int × Int)} (h : PZ w base v l) : ∃ a c, v = .slice a l.length c := by
  rcases h.2 with ⟨rfl, h0⟩ | ⟨g, cap, cur, rfl, _⟩
  · exact ⟨none, 0, by rw [h0]⟩
  · exact ⟨_, _, rfl⟩
theorem PZ.keep {w w' : World} {base : Nat} {v : Value} {l : List (Int × Int)} (h : PZ w base v l) (hk : ∀ k, base ≤ k → k < w.heap.size → w'.heap[k]? = w.heap[k]?) : PZ w' base v l := by
  refine ⟨h.1, ?_⟩
  rcases h.2 with h0 | ⟨g, cap, cur, h1, h2, h3, h4⟩
  · exact .inl h0
  · exact .inr ⟨g, cap, cur, h1, h2, (hk g h2 (Array.getElem?_eq_some_iff.1 h3).1).trans h3, h4⟩
theorem PZ.below {w w' : World} {base : Nat} {v : Value} {l : List (Int × Int)} (h : PZ w base v l) (hb : Below w.heap.size w w') : PZ w' base v l := h.keep fun k _ hk => hb.block k hk
theorem PZ.psl {w : World} {base : Nat} {v : Value} {l : List (Int × Int)} (h : PZ w base v l) : PSl w v l := by
  have hc := fun g => World.ownsRow.cells h (g := g)
  rcases h.2 with ⟨rfl, h0⟩ | ⟨g, cap, cur, rfl, h2, h3, h4, h5, _⟩
  · have : l = [] := List.length_eq_zero_iff.1 h0
    subst this
    exact PSl.nil w
  · refine ⟨_, cap, g, 0, rfl, h4, h5, fun _ => rfl, fun i hi => ?_⟩
    have h6 := hc g rfl (i * 2) _ (pcs_at l i hi).1
    have h7 := hc g rfl (i * 2 + 1) _ (pcs_at l i hi).2
    rw [addn] at h6 h7
    exact ⟨h6, h7⟩
/-- one pair more -/
theorem push_pair {ops : Array Oper} {rest : List Oper} {o : Oper} {a : Act} {Q : Exit → Act → World → Prop} (w : World) (hgd : o.guard = none) (s x : Operand)
    (ho : o.op = .call { callee := .builtin .append, args := #[s, x], argTypes := #[66, 66] }) (base : Nat) (v : Value) (l : List (Int × Int)) (z y : Int) (hs : a.eval s = v) (hown : PZ w base v l)
    (g : Nat) (hx : a.eval x = .slice (some ⟨g, 0, none⟩) 1 1) (hc : w.cell? ⟨g, 0, none⟩ = some (.int .i64 z) ∧ w.cell? ⟨g, 1, none⟩ = some (.int .i64 y)) (hlen : l.length ≤ 100000) (hb : base ≤ w.heap.size)
    (h : ∀ v' w', PZ w' base v' (l ++ [(z, y)]) → Below base w w' → wpList Try.prog ops Q rest (a.put o.dst v') w') : wpList Try.prog ops Q (o :: rest) a w := by
  obtain ⟨i0, hi, hz0, hz1, hz2⟩ := info_parts info62
  refine wpList_append_own w hgd s x 66 ho base 62 i0 (.agg #[.int .i64 0, .int .i64 0]) 2 16 Try.underlying66 hi hz0 hz1 hz2 rfl (by decide) v l.length (pcs l) hs hown ⟨g, 0, none⟩ 1 1 [.int .i64 z, .int .i64 y] hx rfl ?_ ?_ ?_ ?_ hb ?_
  · intro j u hj
    match j, hj with
    | 0, hj => simp at hj; subst hj; simpa [Addr.add] using hc.1
    | 1, hj => simp at hj; subst hj; rw [addn]; exact hc.2
  · intro u hu; simp at hu; rcases hu with rfl | rfl <;> rfl
  · unfold maxLen; omega
  · omega
  · intro v' w' h1 h2 _
    refine h v' w' ?_ ((Below.refl base w).grown h2 hb (fun k hk => (World.ownsRow.lt hown k hk).1))
    unfold PZ
    rw [List.length_append, pcs_app]
    exact h1


def ChnQ (k : Ch2) (w : World) (e : Ending) (w' : World) : Prop := ∃ v, e = .returned v ∧ PZ w' w.heap.size v k ∧ Below w.heap.size w w'
theorem kc_take (H : Ch2) (c : List Nat) (j : Nat) (h : j < c.length) : kc H (c.take j) ++ [H.getD c[j] (0, 0)] = kc H (c.take (j + 1)) := by
  unfold kc
  rw [List.take_succ_eq_append_getElem h, List.map_append]
  rfl
section
variable {w w' : World} {lab : Nat → Nat} {sb ab ub hb wb mb : Nat} {ob : Option Nat} {R W n : Nat} {L : List Nat} {H : Ch2} {C : List (List Nat)} {cv : List Value} {D : M1}
set_option maxRecDepth 100000 in
set_option maxHeartbeats 4000000 in
theorem schain_any (h : SV w lab sb ab ub hb wb mb ob R W n L H C cv D) (z : Int) : Calls Try.prog 31 #[.pointer (some ⟨sb, 0, none⟩), .int .i64 z] w (ChnQ (kf H C (wi W z)) w) := by
  have HC := chain_any h z
  have hv := h.chv z
  have hlen := h.len (wi W z)
  have HS : Hid (SV w lab sb ab ub hb wb mb ob R W n L H C cv D) := h
  have hg := hv.gsl
  obtain ⟨va, vc, hvv⟩ := hv.sl
  rw [hvv] at HC hg
  clear hv hvv
  have HLT : Hid (∀ s ∈ cc C (wi W z), s < R) := fun s hs => h.ok.lt _ s hs
  have hk : kf H C (wi W z) = kc H (cc C (wi W z)) := rfl
  rw [hk]
  clear hk h
  generalize cc C (wi W z) = c at *
  rw [cs_len] at HC
  obtain ⟨m, hm⟩ : ∃ m, c.length = m := ⟨_, rfl⟩
  have HM : Hid (c.length = m) := hm
  rw [hm] at HC
  obtain ⟨a0, c0, b0, o0, h1, h2, h3, h4, h5⟩ := hg
  rw [cs_len, hm] at h1 h2
  simp only [Value.slice.injEq] at h1
  obtain ⟨rfl, _, rfl⟩ := h1
  have h4' : 0 < m → va = some ⟨b0, o0, none⟩ := fun q => h4 (by rw [cs_len, hm]; exact q)
  have HVA : Hid (0 < m → va = some ⟨b0, o0, none⟩) := h4'
  have HG : Hid (∀ j (hj : j < c.length), w.cell? ⟨b0, o0 + j, none⟩ = some (.int .i64 (c[j] : Int))) := fun j hj => by
    have := h5 j (by rw [cs_len]; exact hj)
    rw [cs_at c j _ hj] at this
    exact this
  have HMX : Hid (m ≤ 600) := by show _ ≤ _; omega
  clear h2 h3 h4 h4' h5 hm
  go_enter Try.func31, Try.ntmps31
  go_wp2_with fail
  refine HC.mono ?_
  rintro e w2 ⟨rfl, hw2⟩
  rw [hw2]
  clear hw2
  go_wp2_with fail
  go_loopw [5, 12] (fun l5 i wr => ∃ (j : Nat) (a : Option Addr) (k : Nat), l5 = .slice a j k ∧ i = .int .i64 (j : Int) ∧ j ≤ m ∧ Hid (PZ wr w.heap.size (.slice a j k) (kc H (c.take j))) ∧ Hid (Below w.heap.size w wr)) (fun _ i _ => m - (intOf i).toNat)
  case atStart => exact ⟨0, none, 0, rfl, rfl, Nat.zero_le _, PZ.nil _ _, Below.refl _ _⟩
  case round =>
    obtain ⟨j, a, k, rfl, rfl, hj, HI, HB⟩ := hrel
    by_cases hlt : j < m
    · have e1 : decide (j < m) = true := by simp; omega
      have hva := HVA.out (by omega)
      subst hva
      have hjc : j < c.length := by rw [HM.out]; exact hlt
      obtain ⟨s, hs⟩ : ∃ s, c[j] = s := ⟨_, rfl⟩
      have hsR : s < R := HLT.out s (hs ▸ List.getElem_mem _)
      have HX : Hid (kc H (c.take j) ++ [H.getD s (0, 0)] = kc H (c.take (j + 1))) := by show _ = _; rw [← hs]; exact kc_take H c j hjc
      obtain ⟨x0, x1⟩ := HS.out.cH s hsR
      obtain ⟨⟨y, z1⟩, hy⟩ : ∃ x, H.getD s (0, 0) = x := ⟨_, rfl⟩
      rw [hy] at HX x0 x1
      have c1 := HS.out.c1
      have d0 := HG.out j hjc
      rw [hs] at d0
      clear hy hs
      have x0' := (HB.out.cell (p := ⟨hb, s * 2, none⟩) (World.block_lt_of_cell? w _ x0)).trans x0
      have x1' := (HB.out.cell (p := ⟨hb, s * 2 + 1, none⟩) (World.block_lt_of_cell? w _ x1)).trans x1
      have c1' := (HB.out.cell (p := ⟨sb, 1, none⟩) (World.block_lt_of_cell? w _ c1)).trans c1
      have d0' := (HB.out.cell (p := ⟨b0, o0 + j, none⟩) (World.block_lt_of_cell? w _ d0)).trans d0
      clear x0 x1 c1 d0
      have hbs : w.heap.size ≤ wr.heap.size := HB.out.size
      have hlen : (kc H (c.take j)).length ≤ 100000 := by rw [kc_len, List.length_take]; have := HMX.out; omega
      have HI2 : Hid (∀ A, PZ (wr.alloc A) w.heap.size (.slice a j k) (kc H (c.take j))) := fun A => HI.out.below (bl1 _ _)
      have HBA : Hid (∀ A, Below w.heap.size w (wr.alloc A)) := fun A => HB.out.alloc hbs A
      go_wp2_with (at_builtin; refine push_pair _ rfl _ _ rfl w.heap.size _ (kc H (c.take j)) y z1 rfl ?p1 _ rfl ?p2 ?p3 ?p4 ?_)
      case p1 => exact HI2.out _
      case p4 => exact Nat.le_trans hbs (by simp)
      intro v4 w4 hi4 hb4
      rw [HX.out] at hi4
      obtain ⟨a4, k4, rfl⟩ := hi4.sl
      have hl4 : (kc H (c.take (j + 1))).length = j + 1 := by rw [kc_len, List.length_take]; omega
      rw [hl4] at hi4 ⊢
      have HI4 : Hid (PZ w4 w.heap.size (.slice a4 (j + 1) k4) (kc H (c.take (j + 1)))) := hi4
      have HB4 : Hid (Below w.heap.size w w4) := (HBA.out _).trans hb4
      clear hi4 hb4 hl4 hlen hbs x0' x1' c1' d0'
      go_wp2_with fail
      go_roundw
      case rel => exact ⟨j + 1, a4, k4, rfl, by go_num, by omega, HI4, HB4⟩
      case measure => simp [intOf] <;> omega
    · have hjm : j = m := by omega
      subst hjm
      have e1 : decide (j < j) = false := by simp
      have HE : Hid (PZ wr w.heap.size (.slice a j k) (kc H c)) := by
        have := HI.out
        rw [List.take_of_length_le (by rw [HM.out]; exact Nat.le_refl _)] at this
        exact this
      go_wp2
      first | exact ⟨_, rfl, HE.out, HB.out⟩ | (go_ret; exact ⟨_, rfl, HE.out, HB.out⟩)
end
theorem SS.chain {w : World} {lab : Nat → Nat} {sb R W n : Nat} {K : Nat → Ch2} (h : SS w lab sb R W n K) (z : Int) : Calls Try.prog 31 #[.pointer (some ⟨sb, 0, none⟩), .int .i64 z] w (ChnQ (K (wi W z)) w) := by
  obtain ⟨ab, ub, hb, wb, mb, ob, L, H, C, cv, D, h, rfl⟩ := h
  exact schain_any h z
end Go.Proofs.Ytdohclnmcdempaa
