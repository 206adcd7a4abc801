/- Plain: rows in order, each once; the document's graph holds the program's edges. -/
import Derived.Test.YtongeppdaeekeaaGfC
namespace Go.Proofs.Ytongeppdaeekeaa
set_option linter.unusedVariables false

/-- a row in order, each once -/
structure SrtOf (l R : List Int) : Prop where
  srt : R.Pairwise (· < ·)
  mem : ∀ x, x ∈ R ↔ x ∈ l
theorem SrtOf.nil : SrtOf [] [] := ⟨.nil, fun x => Iff.rfl⟩
theorem SrtOf.one {l l' R R' : List Int} (h : SrtOf l R) (k : SrtOf l' R') (hm : ∀ x, x ∈ l ↔ x ∈ l') : R = R' :=
  srt_ext R R' h.srt k.srt fun x => by rw [h.mem, k.mem, hm]
theorem take_mem {l : List Int} {q : Nat} (hq : q < l.length) (x : Int) : x ∈ l.take (q + 1) ↔ x ∈ l.take q ∨ x = l[q] := by
  rw [List.take_succ_eq_append_getElem hq, List.mem_append, List.mem_singleton]
/-- one that stands there -/
theorem SrtOf.skip {l R : List Int} {q : Nat} (h : SrtOf (l.take q) R) (hq : q < l.length) (hz : l[q] ∈ R) : SrtOf (l.take (q + 1)) R :=
  ⟨h.srt, fun x => by
    rw [take_mem hq, ← h.mem]
    constructor
    · exact .inl
    · rintro (r | r)
      · exact r
      · rw [r]; exact hz⟩
/-- one more comes to its place -/
structure Plc (R : List Int) (z : Int) (A B : List Int) : Prop where
  eq : R = A ++ B
  gt : ∀ x ∈ B, z < x
theorem Plc.first (R : List Int) (z : Int) : Plc R z R [] := ⟨by simp, fun x hx => absurd hx (by simp)⟩
theorem Plc.back {R A B : List Int} {y z : Int} (h : Plc R z (A ++ [y]) B) (hy : z < y) : Plc R z A (y :: B) :=
  ⟨by rw [h.eq]; simp, fun x hx => by
    rcases List.mem_cons.1 hx with r | r
    · rw [r]; exact hy
    · exact h.gt x r⟩
theorem Plc.done {l R A B : List Int} {q : Nat} {z : Int} (h : Plc R z A B) (hs : SrtOf (l.take q) R) (hq : q < l.length) (hz : l[q] = z) (hn : z ∉ R) (he : A = [] ∨ ∃ C y, A = C ++ [y] ∧ y ≤ z) : SrtOf (l.take (q + 1)) (A ++ z :: B) := by
  have hsr := hs.srt
  have hA : ∀ a ∈ A, a < z := fun a ha => by
    have hne : a ≠ z := fun e => hn (by rw [h.eq, ← e]; simp [ha])
    rcases he with r | ⟨C, y, r, hy⟩
    · rw [r] at ha; cases ha
    · rw [h.eq, r] at hsr
      rw [r] at ha
      rcases List.mem_append.1 ha with k | k
      · have := (List.pairwise_append.1 (List.pairwise_append.1 hsr).1).2.2 a k y (by simp); omega
      · rw [List.mem_singleton.1 k] at hne ⊢; omega
  rw [h.eq] at hsr
  have hp := List.pairwise_append.1 hsr
  refine ⟨?_, fun x => ?_⟩
  · rw [List.pairwise_append, List.pairwise_cons]
    refine ⟨hp.1, ⟨h.gt, hp.2.1⟩, fun a ha b hb => ?_⟩
    rcases List.mem_cons.1 hb with r | r
    · rw [r]; exact hA a ha
    · exact hp.2.2 a ha b r
  · rw [take_mem hq, ← hs.mem, h.eq, hz, List.mem_append, List.mem_cons, List.mem_append]
    constructor
    · rintro (r | r | r)
      · exact .inl (.inl r)
      · exact .inr r
      · exact .inl (.inr r)
    · rintro ((r | r) | r)
      · exact .inl r
      · exact .inr (.inr r)
      · exact .inr (.inl r)
theorem plc_set (A B : List Int) (y z : Int) : ((A ++ y :: z :: B).set (A.length + 1) y).set A.length z = A ++ z :: y :: B := by
  rw [List.set_append_right _ _ (by omega)]
  have e1 : A.length + 1 - A.length = 1 := by omega
  rw [e1, List.set_append_right _ _ (by omega)]
  have e0 : A.length - A.length = 0 := by omega
  rw [e0]
  rfl
theorem at_mid (A B : List Int) (y : Int) (h : A.length < (A ++ y :: B).length) : (A ++ y :: B)[A.length] = y := by
  rw [List.getElem_append_right (Nat.le_refl _)]
  simp
theorem at_mid1 (A B : List Int) (y z : Int) (h : A.length + 1 < (A ++ y :: z :: B).length) : (A ++ y :: z :: B)[A.length + 1] = z := by
  rw [List.getElem_append_right (by omega)]
  have e1 : A.length + 1 - A.length = 1 := by omega
  simp [e1]
theorem last_of {A : List Int} {n : Nat} (h : A.length = n + 1) : ∃ C y, A = C ++ [y] ∧ C.length = n := by
  rcases List.eq_nil_or_concat A with rfl | ⟨C, y, rfl⟩
  · simp at h
  · rw [List.concat_eq_append] at *
    exact ⟨C, y, rfl, by simpa using h⟩
/-- the same edges -/
structure PE (E L : Ed) : Prop where
  perm : E.Perm L
  srt : srtE E
  up : Up E
theorem PE.mem {E L : Ed} (h : PE E L) (e : Int × Int) : e ∈ E ↔ e ∈ L := h.perm.mem_iff
theorem PE.len {E L : Ed} (h : PE E L) : E.length = L.length := h.perm.length_eq
theorem PE.has {E L : Ed} (h : PE E L) (e : Int × Int) : hasE E e = hasE L e := by unfold hasE; exact decide_eq_decide.2 (h.mem e)
theorem readersOf_srt {E : Ed} (h : srtE E) (w : Int) : (readersOf E w).Pairwise (· < ·) := by
  unfold readersOf
  rw [List.pairwise_map]
  refine (List.Pairwise.filter _ h).imp_of_mem fun {a b} ha hb hab => ?_
  rw [List.mem_filter] at ha hb
  have h1 : a.2 = w := by simpa using ha.2
  have h2 : b.2 = w := by simpa using hb.2
  rcases hab with r | r
  · omega
  · exact r.2
theorem PE.readers {E L : Ed} (h : PE E L) (w : Int) {R : List Int} (hs : SrtOf (readersOf L w) R) : R = readersOf E w :=
  hs.one ⟨readersOf_srt h.srt w, fun x => Iff.rfl⟩ fun x => by rw [mem_readersOf, mem_readersOf, h.mem]
/-- how many edges have a reader that isn't there -/
def outE (L : Ed) (l : List Int) : Nat := (L.filter (fun e => decide (e.1 ∉ l))).length
theorem outE_le (L : Ed) (l : List Int) : outE L l ≤ L.length := List.length_filter_le _ _
theorem outE_add (L : Ed) (l : List Int) (z : Int × Int) (hz : z ∈ L) (hn : z.1 ∉ l) : outE L (l ++ [z.1]) < outE L l := by
  unfold outE
  have hle : ∀ M : Ed, (M.filter (fun e => decide (e.1 ∉ l ++ [z.1]))).length ≤ (M.filter (fun e => decide (e.1 ∉ l))).length := fun M => by
    rw [← List.countP_eq_length_filter, ← List.countP_eq_length_filter]
    refine List.countP_mono_left fun x hx h1 => ?_
    simp at h1 ⊢
    exact h1.1
  induction L with
  | nil => cases hz
  | cons e L ih =>
    rw [List.filter_cons, List.filter_cons]
    rcases List.mem_cons.1 hz with r | r
    · subst r
      rw [if_neg (by simp), if_pos (by simpa using hn)]
      have := hle L
      rw [List.length_cons]; omega
    · have := ih r
      by_cases h1 : e.1 ∈ l
      · rw [if_neg (by simp [h1]), if_neg (by simp [h1])]; exact this
      · by_cases h2 : e.1 = z.1
        · rw [if_neg (by simp [h2]), if_pos (by simp [h1])]; rw [List.length_cons]; omega
        · rw [if_pos (by simp [h1, h2]), if_pos (by simp [h1])]; rw [List.length_cons, List.length_cons]; omega
/-- who has been found to fall -/
structure FallI (L : Ed) (age : Int) (l : List Int) : Prop where
  mem : age ∈ l
  ge : ∀ x ∈ l, age ≤ x
  from' : ∀ x ∈ l, x = age ∨ ∃ v ∈ l, (x, v) ∈ L
  ln : l.length + outE L l ≤ 1 + L.length
theorem FallI.first (L : Ed) (age : Int) : FallI L age [age] :=
  ⟨by simp, fun x hx => by rw [List.mem_singleton.1 hx]; exact Int.le_refl _, fun x hx => .inl (List.mem_singleton.1 hx), by have := outE_le L [age]; show 1 + outE L [age] ≤ _; omega⟩
theorem FallI.add {L : Ed} {age : Int} {l : List Int} (h : FallI L age l) (hu : Up L) (z : Int × Int) (hz : z ∈ L) (h2 : z.2 ∈ l) (h1 : z.1 ∉ l) : FallI L age (l ++ [z.1]) := by
  refine ⟨by simp [h.mem], fun x hx => ?_, fun x hx => ?_, ?_⟩
  · rcases List.mem_append.1 hx with r | r
    · exact h.ge x r
    · rw [List.mem_singleton.1 r]
      have := hu z hz
      have := h.ge _ h2
      omega
  · rcases List.mem_append.1 hx with r | r
    · rcases h.from' x r with q | ⟨v, hv, q⟩
      · exact .inl q
      · exact .inr ⟨v, by simp [hv], q⟩
    · rw [List.mem_singleton.1 r]
      exact .inr ⟨z.2, by simp [h2], hz⟩
  · have := outE_add L l z hz h1
    have := h.ln
    rw [List.length_append]; show l.length + 1 + _ ≤ _; omega
theorem FallI.done {E L : Ed} {age : Int} {l R : List Int} (h : FallI L age l) (hE : PE E L) (hc : ∀ e ∈ L, e.2 ∈ l → e.1 ∈ l) (hs : SrtOf l R) : FallsOf E age R := by
  refine ⟨hs.srt, ?_, fun x hx => ?_, fun e he hf => ?_⟩
  · have h1 := (hs.mem age).2 h.mem
    have h2 := hs.srt
    match R, h1, h2, hs with
    | y :: R, h1, h2, hs =>
      have h3 := h.ge y ((hs.mem y).1 (by simp))
      rcases List.mem_cons.1 h1 with r | r
      · simp [r]
      · rw [List.pairwise_cons] at h2
        have := h2.1 age r; omega
  · rcases h.from' x ((hs.mem x).1 hx) with r | ⟨v, hv, r⟩
    · exact .inl r
    · exact .inr ⟨v, (hs.mem v).2 hv, (hE.mem _).2 r⟩
  · exact (hs.mem _).2 (hc e ((hE.mem e).1 he) ((hs.mem _).1 hf))
/-- all edges by their writers -/
def edR (E : Ed) (w : Int) : Ed := (readersOf E w).map (fun r => (r, w))
def edS (E : Ed) (R : List Int) : Ed := R.flatMap (edR E)
def wrS (L : Ed) : List Int := L.map (·.2)
theorem wrS_next (L : Ed) (q : Nat) (hq : q < L.length) : wrS (L.take (q + 1)) = wrS (L.take q) ++ [(L[q]'hq).2] := by
  unfold wrS
  rw [List.take_succ_eq_append_getElem hq, List.map_append]; rfl
theorem mem_edR {E : Ed} {w : Int} {e : Int × Int} : e ∈ edR E w ↔ e.2 = w ∧ e ∈ E := by
  unfold edR
  rw [List.mem_map]
  constructor
  · rintro ⟨r, hr, rfl⟩
    exact ⟨rfl, mem_readersOf.1 hr⟩
  · rintro ⟨h1, h2⟩
    refine ⟨e.1, mem_readersOf.2 (by rw [← h1]; exact h2), by rw [← h1]⟩
theorem srtE_ext : ∀ (F G : Ed), srtE F → srtE G → (∀ x, x ∈ F ↔ x ∈ G) → F = G
  | [], [], _, _, _ => rfl
  | [], y :: G, _, _, h => by have := (h y).2 (by simp); simp at this
  | x :: F, [], _, _, h => by have := (h x).1 (by simp); simp at this
  | x :: F, y :: G, hF, hG, h => by
    unfold srtE at hF hG
    rw [List.pairwise_cons] at hF hG
    have hxy : x = y := by
      rcases List.mem_cons.1 ((h x).1 (by simp)) with r | r
      · exact r
      · have h1 := hG.1 x r
        rcases List.mem_cons.1 ((h y).2 (by simp)) with q | q
        · exact q.symm
        · exact absurd (eLt_trans h1 (hF.1 y q)) (eLt_irrefl _)
    subst hxy
    rw [srtE_ext F G hF.2 hG.2 (fun z => by
      constructor
      · intro hz
        rcases List.mem_cons.1 ((h z).1 (by simp [hz])) with r | r
        · have := hF.1 z hz; rw [r] at this; exact absurd this (eLt_irrefl _)
        · exact r
      · intro hz
        rcases List.mem_cons.1 ((h z).2 (by simp [hz])) with r | r
        · have := hG.1 z hz; rw [r] at this; exact absurd this (eLt_irrefl _)
        · exact r)]
theorem PE.eds {E L : Ed} (h : PE E L) {R : List Int} (hs : SrtOf (wrS L) R) : edS E R = E := by
  refine srtE_ext _ _ ?_ h.srt fun x => ?_
  · unfold srtE edS
    rw [List.pairwise_flatMap]
    refine ⟨fun w _ => ?_, hs.srt.imp fun {a b} hab x hx y hy => ?_⟩
    · unfold edR
      rw [List.pairwise_map]
      exact (readersOf_srt h.srt w).imp fun hab => .inr ⟨rfl, hab⟩
    · have h1 := (mem_edR.1 hx).1
      have h2 := (mem_edR.1 hy).1
      exact .inl (by omega)
  · unfold edS
    rw [List.mem_flatMap]
    constructor
    · rintro ⟨w, _, hw⟩; exact (mem_edR.1 hw).2
    · intro hx
      refine ⟨x.2, (hs.mem _).2 ?_, mem_edR.2 ⟨rfl, hx⟩⟩
      unfold wrS
      exact List.mem_map.2 ⟨x, (h.mem x).1 hx, rfl⟩
theorem edS_next (E : Ed) (R : List Int) (q : Nat) (hq : q < R.length) : edS E (R.take (q + 1)) = edS E (R.take q) ++ edR E R[q] := by
  unfold edS
  rw [List.take_succ_eq_append_getElem hq, List.flatMap_append]
  congr 1
  simp [List.flatMap]
theorem edS_le (E : Ed) (R : List Int) (q : Nat) : (edS E (R.take q)).length ≤ (edS E R).length := by
  have : edS E R = edS E (R.take q) ++ edS E (R.drop q) := by
    unfold edS
    rw [← List.flatMap_append, List.take_append_drop]
  rw [this, List.length_append]; omega
/-- one of both keeps them alike -/
theorem PE.rem {E L : Ed} (h : PE E L) (age : Int) : PE (remS E age) (remS L age) :=
  ⟨h.perm.filter _, List.Pairwise.filter _ h.srt, fun e he => h.up e (List.mem_filter.1 he).1⟩
theorem PE.add {E L : Ed} {room : Nat} (h : PE E L) (r wt : Int) : PE (addS room E r wt) (raddS (room : Int) L r wt) ∧ addE room E r wt = raddE (room : Int) L r wt := by
  unfold addS raddS addE raddE
  rw [← h.has, ← h.len]
  by_cases hb : badE r wt = true
  · rw [if_pos hb, if_pos hb, if_pos hb, if_pos hb]; exact ⟨h, rfl⟩
  rw [if_neg hb, if_neg hb, if_neg hb, if_neg hb]
  by_cases hh : hasE E (r, wt) = true
  · rw [if_pos hh, if_pos hh, if_pos hh, if_pos hh]; exact ⟨h, rfl⟩
  rw [if_neg hh, if_neg hh, if_neg hh, if_neg hh]
  by_cases hl : E.length = room
  · have hl2 : (E.length : Int) = (room : Int) := by omega
    rw [if_pos hl, if_pos hl2, if_pos hl, if_pos hl2]; exact ⟨h, rfl⟩
  have hl2 : ¬ (E.length : Int) = (room : Int) := by omega
  rw [if_neg hl, if_neg hl2, if_neg hl, if_neg hl2]
  have hn : (r, wt) ∉ E := fun k => hh (decide_eq_true k)
  refine ⟨⟨?_, insE_srt h.srt _ hn, fun e he => ?_⟩, rfl⟩
  · unfold insE
    refine List.perm_middle.trans ?_
    rw [List.take_append_drop]
    exact (h.perm.cons _).trans (List.perm_append_comm (l₁ := [(r, wt)]))
  · rcases mem_insE.1 he with k | k
    · subst k
      unfold badE at hb
      simp at hb
      show wt < r
      omega
    · exact h.up e k
theorem PE.one {E L : Ed} {room : Nat} (h : PE E L) (x : O3) : PE (oneGE room E x) (oneGL (room : Int) L x) ∧ oneGB room (room : Int) E L x = true := by
  unfold oneGE oneGL oneGB
  by_cases hk : opRem x = true
  · rw [if_pos hk, if_pos hk, if_pos hk, h.len, (h.rem _).len]
    exact ⟨h.rem _, by simp⟩
  · rw [if_neg hk, if_neg hk, if_neg hk]
    have := h.add (room := room) x.2.1 x.2.2
    exact ⟨this.1, by rw [this.2]; simp⟩
end Go.Proofs.Ytongeppdaeekeaa
