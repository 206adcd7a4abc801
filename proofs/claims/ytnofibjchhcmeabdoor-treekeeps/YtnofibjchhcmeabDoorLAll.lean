/- All tokens of a text. -/
import Derived.Test.YtnofibjchhcmeabDoorLSig
import Derived.Test.YtnofibjchhcmeabDoorLCutQ
namespace Go.Proofs.YtnofibjchhcmeabDoor
open Go.RowKit
set_option linter.unusedVariables false

/-- a token's cells, and those of a row of tokens -/
def tc (t : Tok) : List Value := [.int .i64 t.kind, .string ⟨t.text.toArray⟩, .int .i64 t.num, .int .i64 (t.pos : Int)]
def tcs : List Tok → List Value
  | [] => []
  | t :: l => tc t ++ tcs l
set_option maxRecDepth 100000 in
theorem tcs_len (l : List Tok) : (tcs l).length = l.length * 4 := by
  induction l with
  | nil => rfl
  | cons t l ih => simp [tcs, tc, ih]; omega
set_option maxRecDepth 100000 in
theorem tcs_app (a b : List Tok) : tcs (a ++ b) = tcs a ++ tcs b := by
  induction a with
  | nil => rfl
  | cons t a ih => simp [tcs, ih]
set_option maxRecDepth 100000 in
theorem tc_one (t : Tok) : ∀ u ∈ tcs [t], u.oneCell' = true := by
  intro u hu
  simp [tcs, tc] at hu
  rcases hu with rfl | rfl | rfl | rfl <;> rfl

/-- a slice of tokens of the call's own, from block 'base' on -/
def TOwn (w : World) (base : Nat) (v : Value) (l : List Tok) : Prop := w.ownsRow base 84 4 v l.length (tcs l)
set_option maxRecDepth 100000 in
theorem TOwn.keep {w w' : World} {base : Nat} {v : Value} {l : List Tok} (h : TOwn w base v l) (hb : ∀ k, base ≤ k → k < w.heap.size → w'.heap[k]? = w.heap[k]?) : TOwn w' base v l := by
  obtain ⟨h1, h2⟩ := h
  refine ⟨h1, ?_⟩
  rcases h2 with h2 | ⟨g, cap, cur, e1, e2, e3, e4⟩
  · exact Or.inl h2
  · refine Or.inr ⟨g, cap, cur, e1, e2, ?_, e4⟩
    have hg : g < w.heap.size := by
      rcases Nat.lt_or_ge g w.heap.size with h | h
      · exact h
      · rw [Array.getElem?_eq_none h] at e3; cases e3
    rw [hb g e2 hg]; exact e3
set_option maxRecDepth 100000 in
theorem TOwn.gr {w w' : World} {base pb : Nat} {v : Value} {l : List Tok} (h : TOwn w base v l) (g : Gr w w' pb) (hp : pb < base) : TOwn w' base v l :=
  h.keep fun k hk hs => g.block k hs (by intro e; cases e; omega)
set_option maxRecDepth 100000 in
theorem TOwn.nil (w : World) (base : Nat) : TOwn w base (.slice none 0 0) [] := ⟨rfl, Or.inl ⟨rfl, rfl⟩⟩

set_option maxRecDepth 100000 in
theorem FB.gr' {B pb : Nat} {a b c : World} (h : FB B pb a b) (g : Gr b c pb) (hB : B ≤ b.heap.size) : FB B pb a c :=
  ⟨g.os.trans h.os, g.tape.trans h.tape, g.output.trans h.output, Nat.le_trans h.size g.size, fun k hk hne => (g.block k (by omega) (by intro e; cases e; exact hne rfl)).trans (h.block k hk hne)⟩
set_option maxRecDepth 100000 in
theorem FB.grown {B pb : Nat} {a b c : World} (h : FB B pb a b) {row : Option Nat} (g : b.grownBy c row) (hB : B ≤ b.heap.size) (hr : ∀ k, row = some k → B ≤ k) : FB B pb a c :=
  ⟨g.os.trans h.os, g.tape.trans h.tape, g.output.trans h.output, Nat.le_trans h.size g.size, fun k hk hne => (g.block k (by omega) (by intro e; have := hr k e.symm; omega)).trans (h.block k hk hne)⟩

/-- what comes of all tokens -/
def AllPost (w : World) (pb : Nat) : CutR → Ending → World → Prop
  | .inl l, e, w' => ∃ v, e = .returned v ∧ TOwn w' w.heap.size v l ∧ FB w.heap.size pb w w'
  | .inr (k, er), e, w' => e = gaveUp (k : Int) er ∧ FB w.heap.size pb w w'

set_option maxRecDepth 100000 in
theorem info33 : (Tryd.prog.info? 84).map (fun i => (i.zero, i.size, i.bytes)) = some (some (.agg #[.int .i64 0, .string ⟨#[]⟩, .int .i64 0, .int .i64 0]), 4, 40) := by kernel_rfl

set_option maxRecDepth 100000 in
theorem extract_arr (s : ByteArray) (p n : Nat) : s.extract p (p + n) = ⟨((s.data.toList.drop p).take n).toArray⟩ := by
  apply ByteArray.ext
  apply Array.toList_inj.1
  rw [extract_list]

set_option maxRecDepth 100000 in
set_option maxHeartbeats 4000000 in
theorem all_any (pb : Nat) (s : ByteArray) (w : World) (h : CS w pb s 0) (hs : s.size ≤ 1000000) :
    Calls Tryd.prog 45 #[.pointer (some ⟨pb, 0, none⟩)] w fun e w' => AllPost w pb (cutS (s.size + 1) 0 s.data.toList) e w' := by
  obtain ⟨res, hres⟩ : ∃ r, cutS (s.size + 1) 0 s.data.toList = r := ⟨_, rfl⟩
  rw [hres]
  have HR : Hid (cutS (s.size + 1) 0 s.data.toList = res) := hres
  have HC : Hid (CS w pb s 0) := h
  have hpb : pb < w.heap.size := h.2.2.2
  clear hres h
  obtain ⟨i0, hi, hz0, hz1, hz2⟩ := info_parts info33
  go_enter Tryd.func45, Tryd.ntmps45
  go_wp2_with fail
  refine (skip_any pb 0 s w HC.out (Nat.zero_le _) hs).mono ?_
  rintro e w1 ⟨rfl, hcs, hgr⟩
  have HC1 : Hid (CS w1 pb s (0 + gapLen (s.data.toList.drop 0))) := hcs
  have HG1 : Hid (Gr w w1 pb) := hgr
  clear hcs hgr
  go_wp2
  go_loopw [3] (fun t wr => ∃ (p f : Nat) (acc : List Tok), p ≤ s.size ∧ acc.length ≤ p ∧ Hid (s.size - p < f) ∧ Hid ((cutG f p (s.data.toList.drop p)).pre acc = res) ∧ Hid (CS wr pb s p) ∧ Hid (TOwn wr w.heap.size t acc) ∧ Hid (FB w.heap.size pb w wr)) (fun _ wr => match wr.cell? ⟨pb, 1, none⟩ with | some (.int _ k) => s.size - k.toNat | _ => 0)
  case atStart =>
    refine ⟨0 + gapLen (s.data.toList.drop 0), s.size + 1, [], ?_, by simp, ?_, ?_, HC1, TOwn.nil _ _, (FB.refl _ _ _).gr' HG1.out (Nat.le_refl _)⟩
    · have := gapLen_le (s.data.toList.drop 0); simp at this ⊢; omega
    · show _ < _; omega
    · show _ = _
      rw [← HR.out]
      unfold cutS
      rw [List.drop_zero, Nat.zero_add]
      cases cutG (s.size + 1) (gapLen s.data.toList) (List.drop (gapLen s.data.toList) s.data.toList) <;> rfl
  case round =>
    obtain ⟨p, f, acc, hp, hacc, HF, HX, HCr, HT, HFB⟩ := hrel
    have hfb1 := HFB.out.size
    by_cases he : p = s.size
    · subst he
      have HRES : Hid (res = .ok (acc ++ [⟨0, [], 0, s.size⟩])) := by
        show _ = _
        rw [← HX.out, List.drop_of_length_le (by simp)]
        obtain ⟨f', rfl⟩ : ∃ f', f = f' + 1 := ⟨f - 1, by have := HF.out; omega⟩
        rfl
      obtain ⟨y0, y1, y2, y3⟩ := HCr.out
      have HTD : Hid (wr.drew.ownsRow w.heap.size 84 4 u3 acc.length (tcs acc)) := HT.out.keep fun _ _ _ => rfl
      go_wp2_with (first | (go_at_call 53; refine (ended_yes pb s _ HCr.out hs).mono ?_; rintro e w' ⟨rfl, rfl⟩) | (at_builtin; refine wpList_append_own _ rfl _ _ 62 rfl w.heap.size 84 i0 (.agg #[.int .i64 0, .string ⟨#[]⟩, .int .i64 0, .int .i64 0]) 4 40 Tryd.underlying62 hi hz0 hz1 hz2 rfl (by decide) _ _ _ rfl (World.ownsRow.alloc HTD.out _) ⟨wr.heap.size, 0, none⟩ 1 1 (tcs [⟨0, [], 0, s.size⟩]) rfl rfl ?d1 ?d2 ?d3 ?d4 ?d5 ?_))
      case d1 =>
        intro j u hj
        match j, hj with
        | 0, hj => simp [tcs, tc] at hj; subst hj; simp [Addr.add]
        | 1, hj => simp [tcs, tc] at hj; subst hj; simp [Addr.add]
        | 2, hj => simp [tcs, tc] at hj; subst hj; simp [Addr.add]
        | 3, hj => simp [tcs, tc] at hj; subst hj; simp [Addr.add]
      case d2 => exact tc_one _
      case d3 => unfold maxLen; omega
      case d4 => omega
      case d5 => simp; omega
      · intro v' w4 hown' hgrow _
        have hsz := hgrow.size
        have HF4 : Hid (FB w.heap.size pb w w4) := (HFB.out.gr' (((Gr.refl wr pb).alloc _).drew) hfb1).grown hgrow (by show _ ≤ (wr.alloc _).heap.size; simp; omega) (fun k hk => (World.ownsRow.lt HT.out k hk).1)
        have HT4 : Hid (TOwn w4 w.heap.size v' (acc ++ [⟨0, [], 0, s.size⟩])) := by
          show w4.ownsRow _ _ _ _ _ _
          rw [List.length_append, tcs_app]
          exact hown'
        clear hown' hgrow hsz
        go_wp2
        go_ret
        rw [HRES.out]
        exact ⟨_, rfl, HT4.out, HF4.out⟩
    · have hlt : p < s.size := by omega
      go_wp2_with (go_at_call 53; refine (ended_no pb p s _ HCr.out hs he).mono ?_; rintro e w' ⟨rfl, rfl⟩)
      refine (token_any pb p s _ HCr.out.drew hlt hs).mono ?_
      obtain ⟨f', rfl⟩ : ∃ f', f = f' + 1 := ⟨f - 1, by have := HF.out; omega⟩
      have hdr : s.data.toList.drop p = s[p] :: s.data.toList.drop (p + 1) := List.drop_eq_getElem_cons (by simpa using hlt)
      rcases e1 : tokOf (s.data.toList.drop p) with ⟨k, m, n⟩ | ⟨o, er⟩
      · rintro e w2 ⟨rfl, hcs, hgr⟩
        have ht := tokOf_tok e1
        have hn1 := ht.1
        have hn2 : p + n ≤ s.size := by have := ht.2.1; simp at this; omega
        obtain ⟨t, htk⟩ : ∃ t : Tok, (⟨k, (s.data.toList.drop p).take n, m, p⟩ : Tok) = t := ⟨_, rfl⟩
        have HTV : Hid (tokV k (s.extract p (p + n)) m p = .agg #[.int .i64 t.kind, .string ⟨t.text.toArray⟩, .int .i64 t.num, .int .i64 (t.pos : Int)]) := by
          show _ = _
          rw [← htk, extract_arr]; rfl
        have HX2 : Hid ((cutS f' (p + n) ((s.data.toList.drop p).drop n)).pre (acc ++ [t]) = res) := by
          show _ = _
          rw [← HX.out, hdr, cutG_cons, ← hdr, e1]
          dsimp only
          rw [pre_cons, htk]
        have HC2 : Hid (CS w2 pb s (p + n)) := hcs
        have hg2 : Gr wr w2 pb := ((Gr.refl wr pb).drew).trans hgr
        have HT2 : Hid (w2.ownsRow w.heap.size 84 4 u3 acc.length (tcs acc)) := HT.out.gr hg2 hpb
        have HF2 : Hid (FB w.heap.size pb w w2) := HFB.out.gr' hg2 hfb1
        have hsz2 := hg2.size
        have ho2 : ∀ k, u3.ownBlock = some k → w.heap.size ≤ k := fun k hk => (World.ownsRow.lt HT2.out k hk).1
        have HO2 : Hid (∀ k, u3.ownBlock = some k → w.heap.size ≤ k) := ho2
        rw [HTV.out]
        clear hcs hgr hg2 ho2 e1 ht hdr
        go_wp2_with (at_builtin; refine wpList_append_own _ rfl _ _ 62 rfl w.heap.size 84 i0 (.agg #[.int .i64 0, .string ⟨#[]⟩, .int .i64 0, .int .i64 0]) 4 40 Tryd.underlying62 hi hz0 hz1 hz2 rfl (by decide) _ _ _ rfl (World.ownsRow.alloc HT2.out _) ⟨w2.heap.size, 0, none⟩ 1 1 (tcs [t]) rfl rfl ?c1 ?c2 ?c3 ?c4 ?c5 ?_)
        case c1 =>
          intro j u hj
          match j, hj with
          | 0, hj => simp [tcs, tc] at hj; subst hj; simp [Addr.add]
          | 1, hj => simp [tcs, tc] at hj; subst hj; simp [Addr.add]
          | 2, hj => simp [tcs, tc] at hj; subst hj; simp [Addr.add]
          | 3, hj => simp [tcs, tc] at hj; subst hj; simp [Addr.add]
        case c2 => exact tc_one t
        case c3 => unfold maxLen; omega
        case c4 => omega
        case c5 => simp; omega
        · intro v' w4 hown' hgrow _
          have hpb2 : pb < w2.heap.size := HC2.out.2.2.2
          have HC4 : Hid (CS w4 pb s (p + n)) := HC2.out.block ((hgrow.block pb (by simp; omega) (by intro e; have := HO2.out pb e.symm; omega)).trans (Below.heap_alloc _ _ _ hpb2)) (by have := hgrow.size; simp at this; omega)
          have HF4 : Hid (FB w.heap.size pb w w4) := (HF2.out.gr' ((Gr.refl w2 pb).alloc _) (by omega)).grown hgrow (by simp; omega) HO2.out
          have HT4 : Hid (TOwn w4 w.heap.size v' (acc ++ [t])) := by
            show w4.ownsRow _ _ _ _ _ _
            rw [List.length_append, tcs_app]
            exact hown'
          have hsz4 := hgrow.size
          have hsz4' : w2.heap.size ≤ w4.heap.size := by simp at hsz4; omega
          clear hown' hgrow hsz4
          go_wp2_with fail
          refine (skip_any pb (p + n) s w4 HC4.out hn2 hs).mono ?_
          rintro e w5 ⟨rfl, hc5, hg5⟩
          have HC5 : Hid (CS w5 pb s (p + n + gapLen (s.data.toList.drop (p + n)))) := hc5
          have HG5 : Hid (Gr w4 w5 pb) := hg5
          have hgl := gapLen_le (s.data.toList.drop (p + n))
          simp at hgl
          clear hc5 hg5
          go_wp2
          go_roundw
          case rel =>
            refine ⟨p + n + gapLen (s.data.toList.drop (p + n)), f', acc ++ [t], by omega, by simp; omega, ?_, ?_, HC5, HT4.out.gr HG5.out hpb, HF4.out.gr' HG5.out (by omega)⟩
            · show _ < _
              have := HF.out
              omega
            · show _ = _
              rw [← HX2.out]
              unfold cutS
              rw [List.drop_drop, List.drop_drop]
          case measure =>
            rw [HC5.out.2.1, HCr.out.2.1]
            simp
            omega
      · rintro e w2 ⟨rfl, hgr⟩
        have HRES : Hid (res = .err (p + o) er) := by
          show _ = _
          rw [← HX.out, hdr, cutG_cons, ← hdr, e1]
          rfl
        refine ⟨rfl, ?_⟩
        rw [HRES.out]
        exact ⟨rfl, HFB.out.gr' (((Gr.refl wr pb).drew).trans hgr) hfb1⟩
end Go.Proofs.YtnofibjchhcmeabDoor
