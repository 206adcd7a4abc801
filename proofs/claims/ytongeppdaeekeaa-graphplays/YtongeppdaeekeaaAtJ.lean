/- AttemptHolds: the law's walk. -/
import Derived.Test.YtongeppdaeekeaaAtI
import Derived.Laws.BitsAllLaws
namespace Go.Proofs.Ytongeppdaeekeaa
open Go.RowKit Go.Maps
set_option linter.unusedVariables false

theorem xor_ne (y : Int) : bits .xor .i64 y 1 ≠ y := by
  intro h
  have hA : ((BitVec.ofInt 64 y).toNat : Int) = y % 18446744073709551616 := by
    rw [BitVec.toNat_ofInt]; omega
  have hx : ((BitVec.ofInt 64 y) ^^^ (BitVec.ofInt 64 1)).toNat = (BitVec.ofInt 64 y).toNat ^^^ 1 := by
    rw [BitVec.toNat_xor]; rfl
  have hm : ((BitVec.ofInt 64 y).toNat ^^^ 1) % 2 = ((BitVec.ofInt 64 y).toNat + 1) % 2 := by
    generalize (BitVec.ofInt 64 y).toNat = m
    have := @Nat.testBit_xor m 1 0
    simp only [Nat.testBit_zero] at this
    rcases Nat.mod_two_eq_zero_or_one m with h1 | h1
    · have e : (m ^^^ 1) % 2 = 1 := by
        have q : decide ((m ^^^ 1) % 2 = 1) = true := by rw [this, h1]; rfl
        simpa using q
      omega
    · have e : ¬ (m ^^^ 1) % 2 = 1 := by
        have q : decide ((m ^^^ 1) % 2 = 1) = false := by rw [this, h1]; rfl
        simpa using q
      omega
  have hb : bits .xor .i64 y 1 = IntKind.i64.wrap (((BitVec.ofInt 64 y) ^^^ (BitVec.ofInt 64 1)).toNat : Nat) := rfl
  rw [hb, hx] at h
  generalize (BitVec.ofInt 64 y).toNat ^^^ 1 = n at *
  generalize (BitVec.ofInt 64 y).toNat = m at *
  simp [IntKind.wrap, IntKind.bits, IntKind.signed] at h
  split at h <;> omega

theorem RS.gsl {w : World} {v : Value} {l : List Int} (h : RS kN w v l) : GSl w v l := by
  obtain ⟨a, c, b, o, h1, h2, h3, h4, h5⟩ := h
  exact ⟨a, c, b, o, h1, h2, h3, h4, fun i hi => uno_cell rfl rfl (h5 i hi)⟩
theorem GSl.rs {w : World} {v : Value} {l : List Int} (h : GSl w v l) : RS kN w v l := by
  obtain ⟨a, c, b, o, h1, h2, h3, h4, h5⟩ := h
  refine ⟨a, c, b, o, h1, h2, h3, h4, fun i hi j hj => ?_⟩
  match j, hj with
  | 0, _ => have := h5 i hi; simpa [kN, uno] using this
theorem GSl.form {w : World} {v : Value} {G : List Int} (h : GSl w v G) : ∃ a c, v = .slice a G.length c := by
  obtain ⟨a, c, b, o, e, _⟩ := h
  exact ⟨a, c, e⟩
/-- a log of the call's own beside an own row of numbers -/
def OM (b W : World) (lb : Nat) (s : Lg) (mv : Value) (M : List Int) : Prop := ∃ lab, LV W lab 0 lb s ∧ (∀ k, k < b.heap.size → lab k = 0) ∧ Below b.heap.size b W ∧ (∀ g, mv.ownBlock = some g → lab g = 0 ∧ b.heap.size ≤ g) ∧ RZ kN W mv M
theorem OM.step {b W : World} {lb : Nat} {s s' : Lg} {v mv : Value} {M : List Int} {f : Nat} {args : Array Value} (h : OM b W lb s mv M) (hc : ∀ lab, LV W lab 0 lb s → Calls Try.prog f args W (LQ 0 lab lb s' v W)) : Calls Try.prog f args W fun e w' => e = .returned v ∧ OM b w' lb s' mv M := by
  obtain ⟨lab, h1, h2, h3, h4, h5⟩ := h
  refine (hc lab h1).mono ?_
  rintro e w' ⟨he, lab', q1, q2⟩
  refine ⟨he, lab', q1, fun k hk => (q2.1 k (by have := h3.size; omega)).trans (h2 k hk), ?_, fun g hg => ⟨(q2.1 g (h5.own hg)).trans (h4 g hg).1, (h4 g hg).2⟩, h5.keep fun g hg => q2.2.block g (h5.own hg) (by have := (h4 g hg).1; omega)⟩
  exact h3.trans (q2.2.below h3.size (fun k hk => by
    rcases Nat.lt_or_ge k b.heap.size with r | r
    · have := h2 k r; omega
    · exact r))
theorem OM.below {b W W' : World} {lb : Nat} {s : Lg} {mv : Value} {M : List Int} (h : OM b W lb s mv M) (hb : Below W.heap.size W W') : OM b W' lb s mv M := by
  obtain ⟨lab, h1, h2, h3, h4, h5⟩ := h
  exact ⟨lab, h1.below hb, h2, h3.trans (hb.mono h3.size), h4, h5.below hb⟩
theorem OM.look {b W : World} {lb : Nat} {s : Lg} {v mv : Value} {M : List Int} {f : Nat} {args : Array Value} (h : OM b W lb s mv M) (hc : ∀ lab, LV W lab 0 lb s → Calls Try.prog f args W (AN W v)) : Calls Try.prog f args W fun e w' => e = .returned v ∧ OM b w' lb s mv M := by
  obtain ⟨lab, h1, h2, h3, h4, h5⟩ := h
  refine (hc lab h1).mono ?_
  rintro e w' ⟨he, hb⟩
  exact ⟨he, lab, h1.below hb, h2, h3.trans (hb.mono h3.size), h4, h5.below hb⟩
theorem OM.bel {b W : World} {lb : Nat} {s : Lg} {mv : Value} {M : List Int} (h : OM b W lb s mv M) : Below b.heap.size b W := h.choose_spec.2.2.1
theorem OM.row {b W : World} {lb : Nat} {s : Lg} {mv : Value} {M : List Int} (h : OM b W lb s mv M) : RZ kN W mv M := h.choose_spec.2.2.2.2
/-- the row is made -/
theorem OL.row {b W w4 : World} {lb : Nat} {s : Lg} {v v4 : Value} {M : List Int} (h : OL b W lb s) (hv : ∀ g, v.ownBlock = some g → W.heap.size ≤ g) {V : World} (hV : Below W.heap.size W V) (g4 : V.grownBy w4 v.ownBlock) (ho : v4.ownBlock = v.ownBlock ∨ v4.ownBlock = some V.heap.size) (hz : RZ kN w4 v4 M) : OM b w4 lb s v4 M := by
  obtain ⟨lab, h1, h2, h3⟩ := h
  have hb : Below W.heap.size W w4 := hV.trans (grown_below (v := v) g4 hV.size hv)
  have hs := h3.size
  have hVs := hV.size
  have hg : ∀ g, v4.ownBlock = some g → W.heap.size ≤ g := fun g hg => by
    rcases ho with e | e
    · exact hv g (e ▸ hg)
    · rw [e] at hg; injection hg with hg; omega
  refine ⟨lab, h1.below hb, h2, h3.trans (hb.mono hs), fun g hg' => ⟨?_, by have := hg g hg'; omega⟩, hz⟩
  rcases Nat.eq_zero_or_pos (lab g) with r | r
  · exact r
  · have := h1.lt g (by omega); have := hg g hg'; omega
/-- a number of the row is set -/
theorem OM.set {b W : World} {lb : Nat} {s : Lg} {g n c : Nat} {M : List Int} (h : OM b W lb s (.slice (some ⟨g, 0, none⟩) n c) M) {i : Nat} (hi : i < M.length) (z : Int) : OM b (W.setCell ⟨g, i, none⟩ (.int .i64 z)) lb s (.slice (some ⟨g, 0, none⟩) n c) (M.set i z) := by
  obtain ⟨lab, h1, h2, h3, h4, h5⟩ := h
  obtain ⟨hg0, hgb⟩ := h4 g rfl
  have hx := RZ.set (K := kN) h5 hi (j := 0) (by decide) (.int .i64 z) z rfl
  have e1 : kN.k = 1 := rfl
  rw [e1, Nat.mul_one, Nat.add_zero] at hx
  obtain ⟨_, _, _, _, _, _, _, x⟩ := h1
  refine ⟨lab, (x.keep (fun k hk q1 q2 => ⟨Below.heap_setCell _ _ _ _ (by show k ≠ g; rintro rfl; omega), rfl⟩) (fun k hk => by have := x.lt k hk; simpa [World.setCell] using this)).lv, h2, h3.setCell (p := ⟨g, i, none⟩) hgb _, h4, hx⟩
/-- reads that a memory holds stay so when one more is noted -/
theorem note_holds {s : Lg} {M : List Int} {z : Int × Int × Int} (h : holdsL s.Rs M = true) (hz : hlds M z = true) : holdsL (noteS s z).Rs M = true := by
  unfold noteS
  split
  · exact h
  · split
    · exact h
    · show holdsL (s.Rs ++ [z]) M = true
      unfold holdsL at *
      rw [List.all_append, h]
      simpa using hz
theorem note_room {s : Lg} {z : Int × Int × Int} : (noteS s z).R = s.R := by
  unfold noteS
  split
  · rfl
  · split <;> rfl
/-- one word is another one: who has read it doesn't hold it -/
theorem holds_turn (l : List (Int × Int × Int)) (M : List Int) (i : Nat) (hi : i < M.length) (y : Int) (hy : y ≠ M[i]) (h : holdsL l M = true) (s : Lg) (hs : s.Rs = l) : holdsL l (M.set i y) = !hasR s (i : Int) := by
  have hall : ∀ z ∈ l, hlds M z = true := by unfold holdsL at h; rwa [List.all_eq_true] at h
  have hlen : (M.set i y).length = M.length := by simp
  by_cases hr : hasR s (i : Int) = true
  · rw [hr]
    have hlt := of_decide_eq_true hr
    rw [hs] at hlt
    have hp := List.findIdx_getElem (w := hlt)
    have hm := hall _ (List.getElem_mem hlt)
    generalize hzz : l[List.findIdx (isR (i : Int)) l] = z at *
    have hz1 : z.1 = (i : Int) := by simpa [isR] using hp
    show holdsL l (M.set i y) = false
    unfold holdsL
    rw [List.all_eq_false]
    refine ⟨z, hzz ▸ List.getElem_mem hlt, ?_⟩
    unfold hlds at hm ⊢
    simp only [Bool.and_eq_true, decide_eq_true_eq, beq_iff_eq] at hm
    have e1 : M.getD z.1.toNat 0 = M[i] := by rw [hz1]; simp [List.getD, hi]
    have e2 : (M.set i y).getD z.1.toNat 0 = y := by rw [hz1]; simp [List.getD, hi]
    rw [e1] at hm
    rw [e2]
    simp only [Bool.and_eq_true, decide_eq_true_eq, beq_iff_eq, not_and]
    intro _ q
    exact hy (q.trans hm.2.symm)
  · rw [Bool.not_eq_true] at hr
    rw [hr]
    have hn := of_decide_eq_false hr
    rw [hs] at hn
    show holdsL l (M.set i y) = true
    unfold holdsL
    rw [List.all_eq_true]
    intro z hz
    have hm := hall z hz
    have hne : z.1 ≠ (i : Int) := by
      intro e
      have : List.findIdx (isR (i : Int)) l < l.length := List.findIdx_lt_length_of_exists ⟨z, hz, by simp [isR, e]⟩
      exact hn this
    unfold hlds at hm ⊢
    simp only [Bool.and_eq_true, decide_eq_true_eq, beq_iff_eq] at hm ⊢
    refine ⟨⟨hm.1.1, by rw [hlen]; exact hm.1.2⟩, ?_⟩
    rw [← hm.2]
    have hne2 : i ≠ z.1.toNat := by omega
    simp [List.getD, hne2]
end Go.Proofs.Ytongeppdaeekeaa
