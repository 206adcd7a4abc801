/- Both logs hold the same, and go on so. -/
import Derived.Test.YtongeppdaeekeaaDfI
import Derived.Test.YtongeppdaeekeaaAgA
namespace Go.Proofs.Ytongeppdaeekeaa
open Go.RowKit Go.Maps
set_option linter.unusedVariables false

/-- both logs hold the same -/
structure Lk (s : Lg) (d : Dg) : Prop where
  r : d.Rs = s.Rs
  w : d.Ws = s.Ws
  o : d.Os = s.Os
  mr : d.R = (s.R : Int)
  mw : d.W = (s.W : Int)
  mo : d.O = (s.O : Int)
  ops : s.ops = d.Rd.map Prod.fst
  now : s.now = inL d.Rd d.Is
  bd : ∀ z ∈ d.Is, R64 z.2
theorem Lk.onto {s : Lg} {d : Dg} (h : Lk s d) (A : List Int) : ontoL s.ops A s.now = rontoL d.Rd A (inL d.Rd d.Is) := by
  unfold ontoL rontoL
  rw [h.ops, h.now, List.length_map]
  apply List.map_congr_left
  intro i hi
  have hi' : i < d.Rd.length := List.mem_range.1 hi
  unfold ontoX rontoX
  congr 1
  simp [List.getD, hi']
theorem inL_at (Rd Is : List (Int × Int)) (i : Nat) (h : i < (inL Rd Is).length) : (inL Rd Is)[i] = inX Rd Is i := by simp [inL]
theorem inL_none (Rd : List (Int × Int)) : inL Rd [] = (Rd.map Prod.fst).map zeroI := by
  apply List.ext_getElem
  · simp [inL_len]
  · intro i h1 h2
    have hi : i < Rd.length := by simpa using h2
    rw [inL_at]
    unfold inX selI foldI
    simp [List.getD, hi]
theorem inL_add (Rd Is : List (Int × Int)) (c n : Int) : inL Rd (if inB Rd.length c then Is ++ [(c, n)] else Is) = addL (Rd.map Prod.fst) (inL Rd Is) c n := by
  unfold addL
  rw [List.length_map]
  cases hb : inB Rd.length c with
  | false => simp
  | true =>
    simp only [if_true]
    have hc : 0 ≤ c ∧ c < Rd.length := by unfold inB at hb; simpa using hb
    apply List.ext_getElem
    · simp [inL_len]
    · intro i h1 h2
      have hi : i < Rd.length := by rw [inL_len] at h1; exact h1
      rw [List.getElem_set, inL_at]
      by_cases hic : c.toNat = i
      · rw [if_pos hic]
        have hci : c = (i : Int) := by omega
        subst hci
        have e1 : selI (Is ++ [((i : Int), n)]) (i : Int) = selI Is (i : Int) ++ [n] := by unfold selI; rw [List.filter_append, List.map_append]; simp
        have e2 : (inL Rd Is).getD i 0 = inX Rd Is i := by
          have h : i < (inL Rd Is).length := by rw [inL_len]; exact hi
          rw [← inL_at Rd Is i h]
          simp [List.getD, h]
        have e3 : (Rd.map Prod.fst).getD i 0 = (Rd.getD i (0, 0)).1 := by simp [List.getD, hi]
        rw [Int.toNat_natCast, e2, e3]
        unfold inX
        rw [e1]
        unfold foldI
        rw [List.foldl_append]
        rfl
      · rw [if_neg hic]
        have hci : (c == (i : Int)) = false := by simp; omega
        have e1 : selI (Is ++ [(c, n)]) (i : Int) = selI Is (i : Int) := by unfold selI; rw [List.filter_append, List.map_append]; simp [hci]
        rw [inL_at]
        unfold inX
        rw [e1]
theorem Lk.new (r u o : Int) (Rd : List (Int × Int)) (h1 : 0 ≤ r) (h2 : 0 ≤ u) (h3 : 0 ≤ o) : Lk (newL r u o Rd) (newD r u o Rd) :=
  ⟨rfl, rfl, rfl, by unfold newL newD; simp; omega, by unfold newL newD; simp; omega, by unfold newL newD; simp; omega, rfl, by unfold newL newD; exact (inL_none Rd).symm, fun z hz => by unfold newD at hz; simp at hz⟩
theorem Lk.agree {s : Lg} {d : Dg} (h : Lk s d) (hl : s.Ws.length ≤ s.W) (x : O4) : agree s d x = true := by
  unfold Go.Proofs.Ytongeppdaeekeaa.agree roomB dwriteE hasCL
  rw [h.w, h.mw]
  have e1 : hasC s x.at_ = decide (s.Ws.findIdx (isC x.at_) < s.Ws.length) := rfl
  rw [e1]
  by_cases a : s.Ws.findIdx (isC x.at_) < s.Ws.length
  · simp [a]
  · by_cases b : s.Ws.length = s.W
    · rw [b] at a
      simp [a, b]
    · have b1 : s.Ws.length < s.W := by omega
      have b2 : ¬ ((s.Ws.length : Int) = (s.W : Int)) := by omega
      simp [a, b1, b2]
theorem Lk.noteE {s : Lg} {d : Dg} (h : Lk s d) (z : Int × Int × Int) : noteE s z = dnoteE d z := by
  unfold Go.Proofs.Ytongeppdaeekeaa.noteE dnoteE hasR hasRL
  rw [h.r, h.mr]
  simp only [Int.natCast_inj]
theorem Lk.noteS {s : Lg} {d : Dg} (h : Lk s d) (z : Int × Int × Int) : Lk (noteS s z) (dnoteS d z) := by
  unfold Go.Proofs.Ytongeppdaeekeaa.noteS dnoteS hasR hasRL
  rw [h.r, h.mr]
  simp only [Int.natCast_inj]
  split
  · exact h
  split
  · exact h
  · exact ⟨rfl, h.w, h.o, rfl, h.mw, h.mo, h.ops, h.now, h.bd⟩
theorem Lk.fromS {s : Lg} {d : Dg} (h : Lk s d) (a g : Int) : Lk (fromS s a g) (dfromS d a g) := by
  unfold Go.Proofs.Ytongeppdaeekeaa.fromS dfromS fromL hasR hasRL
  rw [h.r]
  split
  · exact ⟨rfl, h.w, h.o, h.mr, h.mw, h.mo, h.ops, h.now, h.bd⟩
  · exact ⟨rfl, h.w, h.o, h.mr, h.mw, h.mo, h.ops, h.now, h.bd⟩
theorem Lk.writeE {s : Lg} {d : Dg} (h : Lk s d) (a : Int) : writeE s a = dwriteE d a := by
  unfold Go.Proofs.Ytongeppdaeekeaa.writeE dwriteE hasC hasCL
  rw [h.w, h.mw]
  simp only [Int.natCast_inj]
theorem Lk.writeS {s : Lg} {d : Dg} (h : Lk s d) (a n : Int) : Lk (writeS s a n) (dwriteS d a n) := by
  unfold Go.Proofs.Ytongeppdaeekeaa.writeS dwriteS hasC hasCL
  rw [h.w, h.mw]
  simp only [Int.natCast_inj]
  split
  · exact ⟨h.r, rfl, h.o, h.mr, rfl, h.mo, h.ops, h.now, h.bd⟩
  split
  · exact h
  · exact ⟨h.r, rfl, h.o, h.mr, rfl, h.mo, h.ops, h.now, h.bd⟩
theorem Lk.emitE {s : Lg} {d : Dg} (h : Lk s d) : emitE s = demitE d := by
  unfold Go.Proofs.Ytongeppdaeekeaa.emitE demitE
  rw [h.o, h.mo]
  simp only [Int.natCast_inj]
theorem Lk.emitS {s : Lg} {d : Dg} (h : Lk s d) (n : Int) : Lk (emitS s n) (demitS d n) := by
  unfold Go.Proofs.Ytongeppdaeekeaa.emitS demitS
  rw [h.o, h.mo]
  simp only [Int.natCast_inj]
  split
  · exact h
  · exact ⟨h.r, h.w, rfl, h.mr, h.mw, rfl, h.ops, h.now, h.bd⟩
theorem Lk.intoS {s : Lg} {d : Dg} (h : Lk s d) (c n : Int) (hn : R64 n) : Lk (intoS s c n) (dintoS d c n) := by
  have e := inL_add d.Rd d.Is c n
  unfold Go.Proofs.Ytongeppdaeekeaa.intoS dintoS
  cases hb : inB d.Rd.length c with
  | true =>
    rw [hb] at e
    simp only [if_true] at e ⊢
    refine ⟨h.r, h.w, h.o, h.mr, h.mw, h.mo, h.ops, ?_, fun z hz => ?_⟩
    · show addL s.ops s.now c n = _
      rw [h.ops, h.now, ← e]
    · rcases List.mem_append.1 hz with r | r
      · exact h.bd z r
      · simp at r; rw [r]; exact hn
  | false =>
    rw [hb] at e
    simp only [Bool.false_eq_true, if_false] at e ⊢
    refine ⟨h.r, h.w, h.o, h.mr, h.mw, h.mo, h.ops, ?_, h.bd⟩
    show addL s.ops s.now c n = _
    rw [h.ops, h.now, ← e]
theorem Lk.clearS {s : Lg} {d : Dg} (h : Lk s d) : Lk (clearS s) (dclearS d) := by
  unfold Go.Proofs.Ytongeppdaeekeaa.clearS dclearS
  exact ⟨rfl, rfl, rfl, h.mr, h.mw, h.mo, h.ops, by show s.ops.map zeroI = inL d.Rd []; rw [h.ops, inL_none], fun z hz => by simp at hz⟩
theorem Lk.one {s : Lg} {d : Dg} (h : Lk s d) (hl : s.Ws.length ≤ s.W) (x : O4) (hx : R64 x.vl) : oneB s d x = true ∧ Lk (oneS s d x) (oneD s d x) := by
  have ha := h.agree hl x
  unfold oneB oneS oneD
  rw [ha]
  simp only [if_true]
  have hR : hasR s x.at_ = hasRL d.Rs x.at_ := by unfold hasR hasRL; rw [h.r]
  have hI : inB s.ops.length x.at_ = inB d.Rd.length x.at_ := by rw [h.ops, List.length_map]
  rw [h.noteE, hR, h.writeE, h.emitE, hI]
  split
  · exact ⟨by simp, h.noteS _⟩
  split
  · exact ⟨by simp, h.fromS _ _⟩
  split
  · exact ⟨by simp, h.writeS _ _⟩
  split
  · exact ⟨by simp, h.emitS _⟩
  split
  · exact ⟨by simp, h.intoS _ _ hx⟩
  · exact ⟨rfl, h.clearS⟩
/-- how long they are -/
theorem oneD_fix (s : Lg) (d : Dg) (x : O4) : (oneD s d x).Rd = d.Rd ∧ (oneD s d x).R = d.R ∧ (oneD s d x).W = d.W ∧ (oneD s d x).O = d.O ∧ (oneD s d x).Is.length ≤ d.Is.length + 1 := by
  unfold oneD
  split
  · unfold dnoteS; split
    · exact ⟨rfl, rfl, rfl, rfl, by omega⟩
    · split <;> exact ⟨rfl, rfl, rfl, rfl, by show d.Is.length ≤ _; omega⟩
  split
  · exact ⟨rfl, rfl, rfl, rfl, by show d.Is.length ≤ _; omega⟩
  split
  · split
    · unfold dwriteS; split
      · exact ⟨rfl, rfl, rfl, rfl, by show d.Is.length ≤ _; omega⟩
      · split <;> exact ⟨rfl, rfl, rfl, rfl, by show d.Is.length ≤ _; omega⟩
    · exact ⟨rfl, rfl, rfl, rfl, by omega⟩
  split
  · unfold demitS; split <;> exact ⟨rfl, rfl, rfl, rfl, by show d.Is.length ≤ _; omega⟩
  split
  · unfold dintoS; split
    · exact ⟨rfl, rfl, rfl, rfl, by simp⟩
    · exact ⟨rfl, rfl, rfl, rfl, by omega⟩
  · exact ⟨rfl, rfl, rfl, rfl, by show 0 ≤ _; omega⟩
end Go.Proofs.Ytongeppdaeekeaa
