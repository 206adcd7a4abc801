/- What Decode answers. -/
import Derived.Test.YthcidcfaodjbjaaDecB
namespace Go.Proofs.Ythcidcfaodjbjaa
open Go.RowKit
set_option linter.unusedVariables false
set_option linter.unusedSimpArgs false

/-- instructions' cells -/
def ic (x : In) : List Value := [.int .i64 x.kind, .int .i64 x.op, .int .i64 x.a, .int .i64 x.b, .int .i64 x.c, .int .i64 x.k]
def ics : List In → List Value
  | [] => []
  | x :: l => ic x ++ ics l
theorem ics_len (l : List In) : (ics l).length = l.length * 6 := by
  induction l with
  | nil => rfl
  | cons x l ih => simp [ics, ic, ih]; omega
theorem ics_app (a b : List In) : ics (a ++ b) = ics a ++ ics b := by
  induction a with
  | nil => rfl
  | cons x a ih => simp [ics, ih]
theorem ic_one (x : In) : ∀ u ∈ ics [x], u.oneCell' = true := by
  intro u hu
  simp [ics, ic] at hu
  rcases hu with rfl | rfl | rfl | rfl | rfl | rfl <;> rfl
theorem ics_at : ∀ (l : List In) (i j : Nat) (hi : i < l.length), j < 6 → (ics l)[i * 6 + j]? = (ic l[i])[j]?
  | x :: l, 0, j, hi, hj => by
    simp only [Nat.zero_mul, Nat.zero_add, List.getElem_cons_zero, ics]
    rw [List.getElem?_append_left (by simp [ic]; omega)]
  | x :: l, i + 1, j, hi, hj => by
    simp only [ics, List.getElem_cons_succ]
    rw [List.getElem?_append_right (by simp [ic]; omega)]
    have : (i + 1) * 6 + j - (ic x).length = i * 6 + j := by simp [ic]; omega
    rw [this]
    exact ics_at l i j (by simpa using hi) hj
/-- a slice of instructions of the call's own -/
def IOwn (w : World) (base : Nat) (v : Value) (l : List In) : Prop := w.ownsRow base 25 6 v l.length (ics l)
theorem IOwn.keep {w w' : World} {base : Nat} {v : Value} {l : List In} (h : IOwn w base v l) (hb : ∀ k, base ≤ k → k < w.heap.size → w'.heap[k]? = w.heap[k]?) : IOwn w' base v l := by
  obtain ⟨h1, h2⟩ := h
  refine ⟨h1, ?_⟩
  rcases h2 with h2 | ⟨g, cap, cur, e1, e2, e3, e4⟩
  · exact Or.inl h2
  · refine Or.inr ⟨g, cap, cur, e1, e2, ?_, e4⟩
    have hg : g < w.heap.size := by
      rcases Nat.lt_or_ge g w.heap.size with h | h
      · exact h
      · rw [Array.getElem?_eq_none h] at e3; cases e3
    rw [hb g e2 hg]; exact e3
theorem IOwn.nil (w : World) (base : Nat) : IOwn w base (.slice none 0 0) [] := ⟨rfl, Or.inl ⟨rfl, rfl⟩⟩
theorem IOwn.isl {w : World} {base : Nat} {v : Value} {l : List In} (h : IOwn w base v l) : ISl w v l := by
  have hce := fun g => World.ownsRow.cells h (g := g)
  obtain ⟨h1, h2⟩ := h
  rcases h2 with ⟨h2, h3⟩ | ⟨g, cap, cur, e1, e2, e3, e4, e5, e6, e7⟩
  · obtain rfl := List.eq_nil_of_length_eq_zero h3
    subst h2
    exact ISl.nil w
  · refine ⟨_, cap, g, 0, e1, e4, e5, fun _ => rfl, fun i hi => ?_⟩
    have hc : ∀ j (hj : j < 6) (u : Value), (ic l[i])[j]? = some u → w.cell? ⟨g, 0 + i * 6 + j, none⟩ = some u := by
      intro j hj u hu
      have := hce g (by rw [e1]; rfl) (i * 6 + j) u ((ics_at l i j hi hj).trans hu)
      rw [addn, Nat.zero_add] at this
      rw [Nat.zero_add]; exact this
    exact ⟨hc 0 (by omega) _ rfl, hc 1 (by omega) _ rfl, hc 2 (by omega) _ rfl, hc 3 (by omega) _ rfl, hc 4 (by omega) _ rfl, hc 5 (by omega) _ rfl⟩
theorem IOwn.sl {w : World} {base : Nat} {v : Value} {l : List In} (h : IOwn w base v l) : ∃ a c, v = .slice a l.length c := by
  obtain ⟨ad, cap, b, o, rfl, _⟩ := h.isl
  exact ⟨_, _, rfl⟩

inductive DR where
  | ok (l : List In) (R : List UInt8)
  | err (e : Int)
def DR.pre (acc : List In) : DR → DR
  | .ok l R => .ok (acc ++ l) R
  | .err e => .err e
def decN : Nat → List UInt8 → DR
  | 0, L => .ok [] L
  | n + 1, L => if (takeX L).2.1 = 0 then (decN n (takeX L).2.2.1).pre [(takeX L).1] else .err (takeX L).2.1
theorem DR.pre_pre (a b : List In) (d : DR) : (d.pre b).pre a = d.pre (a ++ b) := by
  cases d with
  | ok l R => simp [DR.pre]
  | err e => rfl
theorem takeX_fail (L : List UInt8) (h : (takeX L).2.1 = 0) : (takeX L).2.2.2 = 0 := by
  unfold takeX at h ⊢
  split
  · rename_i hf; rw [if_pos hf] at h; exact absurd h hf
  · rename_i hf
    rw [if_neg hf] at h
    split
    · rfl
    · rename_i hs; rw [if_neg hs] at h; exact h
theorem rU_len (L : List UInt8) (f : Int) : (rU L f).2.1.length ≤ L.length := by
  unfold rU
  split
  · split
    · rename_i n R h; exact Nat.le_of_lt (tk_le L 0 0 n R (by omega) (by omega) h).2
    · simp
  · simp
theorem rI_len (L : List UInt8) (f : Int) : (rI L f).2.1.length ≤ L.length := by
  unfold rI
  split
  · split
    · rename_i n R h; exact Nat.le_of_lt (tk_le L 0 0 n R (by omega) (by omega) h).2
    · simp
  · simp
theorem stepT_len (t : In × List UInt8 × Int) (c : UInt8) : (stepT t c).2.1.length ≤ t.2.1.length := by
  unfold stepT
  (repeat' split) <;> first | exact rU_len _ _ | exact rI_len _ _
theorem foldT_len (P : List UInt8) : ∀ t : In × List UInt8 × Int, (foldT t P).2.1.length ≤ t.2.1.length := by
  induction P with
  | nil => intro t; exact Nat.le_refl _
  | cons c P ih => intro t; exact Nat.le_trans (ih _) (stepT_len t c)
theorem takeX_len (L : List UInt8) : (takeX L).2.2.1.length ≤ L.length := by
  unfold takeX
  split
  · exact rU_len L 0
  · split
    · exact rU_len L 0
    · exact Nat.le_trans (foldT_len _ _) (rU_len L 0)
theorem tkC_err {L : List UInt8} {k : Int} (h : tkC 1 L = .err k) : k ≠ 0 := by
  unfold tkC at h
  rcases ht : tk 0 0 L with ⟨n, R⟩ | e
  · rw [ht] at h
    simp only at h
    split at h
    · injection h with h; omega
    · cases h
  · rw [ht] at h
    injection h with h
    have := tk_err L 0 0 e ht
    omega

/-- what Decode answers -/
def decodeR (L : List UInt8) (cells : Int) : List In × Int :=
  match tkC 1 L with
  | .err k => ([], k)
  | .ok n R => match decN n R with
    | .err e => ([], e)
    | .ok l R' => if 0 < R'.length then ([], 21) else if (checkL l cells).2 = 0 then (l, 0) else ([], (checkL l cells).2)
theorem check_take (l : List In) (cells : Int) : (checkL (l.take 601) cells).2 = (checkL l cells).2 := by
  rcases Nat.lt_or_ge 601 l.length with h | h
  · rw [checkL_len l cells (Or.inr (by omega)), checkL_len (l.take 601) cells (Or.inr (by rw [List.length_take]; omega))]
  · rw [List.take_of_length_le (by omega)]
def DecPost (w : World) (L : List UInt8) (cells : Int) (e : Ending) (w' : World) : Prop :=
  Below w.heap.size w w' ∧ ∃ v, e = .returned (.tuple #[v, .int .i64 (decodeR L cells).2]) ∧ ISl w' v (decodeR L cells).1
theorem info25 : (Try.prog.info? 25).map (fun i => (i.zero, i.size, i.bytes)) = some (some (.agg #[.int .i64 0, .int .i64 0, .int .i64 0, .int .i64 0, .int .i64 0, .int .i64 0]), 6, 48) := by kernel_rfl

set_option maxRecDepth 100000 in
set_option maxHeartbeats 4000000 in
theorem decode_any (L : List UInt8) (cells : Int) (v : Value) (w : World) (hL : L.length ≤ 1000000) (hv : Rd w v L) : Calls Try.prog 20 #[v, .int .i64 cells] w fun e w' => DecPost w L cells e w' := by
  obtain ⟨RR, hRR⟩ : ∃ r, decodeR L cells = r := ⟨_, rfl⟩
  unfold DecPost
  rw [hRR]
  unfold decodeR at hRR
  have HV : Hid (Rd w v L) := hv
  obtain ⟨va, vc, rfl⟩ := rd_sl hv
  obtain ⟨i0, hi, hz0, hz1, hz2⟩ := info_parts info25
  clear hv
  go_enter Try.func20, Try.ntmps20
  go_wp2_with fail
  refine (read_any _ L w (by omega) HV.out).mono ?_
  rintro e w1 ⟨pb, rfl, hpb, r1, b1⟩
  have R1 : Hid (RS w1 pb L 0) := r1
  have B1 : Hid (Below w.heap.size w w1) := b1
  have hp1 : pb < w1.heap.size := r1.lt
  clear r1 b1
  go_wp2_with fail
  refine (rcount_ok pb 1 1 L _ (Or.inr ⟨by omega, rfl⟩) (by omega) (by omega) R1.out).mono ?_
  intro e w2 hp
  unfold outC at hp
  rcases hk : tkC 1 L with ⟨n, R⟩ | k
  · rw [hk] at hp hRR
    obtain ⟨v2, rfl, rfl, r2, g2⟩ := hp
    have hn := tkC_le hk
    have R2 : Hid (RS w2 pb R 0) := r2
    have B2 : Hid (Below w.heap.size w w2) := B1.out.trans (grow_below g2 hpb (by have := B1.out.size; omega))
    have HRR : Hid _ := hRR
    clear r2 g2 hk hRR
    go_wp2
    go_loopw [7, 17] (fun bv t wr => ∃ (i : Nat) (acc : List In) (M : List UInt8) (a : Option Addr) (c : Nat), i ≤ n ∧ acc.length = i ∧ t = .int .i64 i ∧ bv = .slice a (acc.take 601).length c ∧ Hid (IOwn wr (pb + 1) (.slice a (acc.take 601).length c) (acc.take 601)) ∧ Hid (RS wr pb M 0) ∧ M.length ≤ R.length ∧ Hid ((decN (n - i) M).pre acc = decN n R) ∧ Hid (Below w.heap.size w wr)) (fun _ t _ => n - (intOf t).toNat)
    case atStart =>
      refine ⟨0, [], R, none, 0, Nat.zero_le _, rfl, rfl, rfl, IOwn.nil _ _, R2, Nat.le_refl _, ?_, B2⟩
      show _ = _
      rw [Nat.sub_zero]
      cases decN n R <;> rfl
    case round =>
      obtain ⟨i, acc, M, a, c, hin, hacc, rfl, rfl, HO, HM, hml, HD, HB⟩ := hrel
      have hwr : w.heap.size ≤ wr.heap.size := HB.out.size
      by_cases hlt : i < n
      · have HC : Hid (Calls Try.prog 45 #[.pointer (some ⟨pb, 0, none⟩)] wr fun e w' => e = .returned (.tuple #[iv (takeX M).1, .int .i64 (takeX M).2.1]) ∧ RS w' pb (takeX M).2.2.1 (takeX M).2.2.2 ∧ GB wr w' pb) := taking_any pb M wr HM.out
        have htl := takeX_len M
        have htf := takeX_fail M
        have HD2 : Hid ((if (takeX M).2.1 = 0 then (decN (n - i - 1) (takeX M).2.2.1).pre [(takeX M).1] else .err (takeX M).2.1).pre acc = decN n R) := by
          have := HD.out
          rw [show n - i = (n - i - 1) + 1 by omega] at this
          exact this
        obtain ⟨tx, htx⟩ : ∃ t, takeX M = t := ⟨_, rfl⟩
        rw [htx] at HC htl htf HD2
        obtain ⟨x, er, M', fr⟩ := tx
        simp only at htl htf
        obtain ⟨m, hm⟩ : ∃ m, (acc.take 601).length = m := ⟨_, rfl⟩
        have HMM : Hid ((acc.take 601).length = m) := hm
        have hm6 : m ≤ 601 := by rw [← hm, List.length_take]; omega
        rw [hm] at HO
        rw [hm]
        have HI : Hid (iv x = .agg #[.int .i64 x.kind, .int .i64 x.op, .int .i64 x.a, .int .i64 x.b, .int .i64 x.c, .int .i64 x.k]) := rfl
        rw [HI.out] at HC
        clear htx HD hm HI
        go_wp2_with fail
        refine HC.out.mono ?_
        rintro e w3 ⟨rfl, r3, g3⟩
        have hpr : pb < wr.heap.size := HM.out.lt
        have HO3 : Hid (IOwn w3 (pb + 1) (.slice a m c) (acc.take 601)) := HO.out.keep (fun k hk hs => g3.block k hs (by intro e; injection e with e; omega))
        have HB3 : Hid (Below w.heap.size w w3) := HB.out.trans (grow_below g3 hpb hwr)
        have HR3 : Hid (RS w3 pb M' fr) := r3
        clear r3 g3 HC HO HM HB
        by_cases her : er = 0
        · subst her
          have hfr : fr = 0 := htf rfl
          subst hfr
          have HD3 : Hid ((decN (n - (i + 1)) M').pre (acc ++ [x]) = decN n R) := by
            have := HD2.out
            rw [if_pos rfl, DR.pre_pre] at this
            rw [Nat.sub_add_eq]; exact this
          have HRA : Hid (RS (w3.alloc (.cells #[.int .i64 x.kind, .int .i64 x.op, .int .i64 x.a, .int .i64 x.b, .int .i64 x.c, .int .i64 x.k] 25)) pb M' 0) := HR3.out.below ((Below.refl _ _).alloc (Nat.le_refl _) _)
          have HBA : Hid (Below w.heap.size w (w3.alloc (.cells #[.int .i64 x.kind, .int .i64 x.op, .int .i64 x.a, .int .i64 x.b, .int .i64 x.c, .int .i64 x.k] 25))) := HB3.out.alloc HB3.out.size _
          have HOA : Hid (IOwn (w3.alloc (.cells #[.int .i64 x.kind, .int .i64 x.op, .int .i64 x.a, .int .i64 x.b, .int .i64 x.c, .int .i64 x.k] 25)) (pb + 1) (.slice a m c) (acc.take 601)) := HO3.out.keep (fun k _ hs => Below.heap_alloc _ _ _ hs)
          by_cases hm6' : m ≤ 600
          · have hal : acc.length = m := by have := HMM.out; rw [List.length_take] at this; omega
            have HTK : Hid ((acc ++ [x]).take 601 = acc.take 601 ++ [x]) := by
              show _ = _
              rw [List.take_of_length_le (by simp; omega), List.take_of_length_le (by omega)]
            have HRW : Hid (RS ((w3.alloc (.cells #[.int .i64 x.kind, .int .i64 x.op, .int .i64 x.a, .int .i64 x.b, .int .i64 x.c, .int .i64 x.k] 25)).alloc (.cells #[.int .i64 x.kind, .int .i64 x.op, .int .i64 x.a, .int .i64 x.b, .int .i64 x.c, .int .i64 x.k] 25)) pb M' 0) := HRA.out.below ((Below.refl _ _).alloc (Nat.le_refl _) _)
            have HBW : Hid (Below w.heap.size w ((w3.alloc (.cells #[.int .i64 x.kind, .int .i64 x.op, .int .i64 x.a, .int .i64 x.b, .int .i64 x.c, .int .i64 x.k] 25)).alloc (.cells #[.int .i64 x.kind, .int .i64 x.op, .int .i64 x.a, .int .i64 x.b, .int .i64 x.c, .int .i64 x.k] 25))) := HBA.out.alloc HBA.out.size _
            have HOW : Hid (((w3.alloc (.cells #[.int .i64 x.kind, .int .i64 x.op, .int .i64 x.a, .int .i64 x.b, .int .i64 x.c, .int .i64 x.k] 25)).alloc (.cells #[.int .i64 x.kind, .int .i64 x.op, .int .i64 x.a, .int .i64 x.b, .int .i64 x.c, .int .i64 x.k] 25)).ownsRow (pb + 1) 25 6 (.slice a m c) m (ics (acc.take 601))) := by
              have h9 := HOA.out.keep (w' := (w3.alloc (.cells #[.int .i64 x.kind, .int .i64 x.op, .int .i64 x.a, .int .i64 x.b, .int .i64 x.c, .int .i64 x.k] 25)).alloc (.cells #[.int .i64 x.kind, .int .i64 x.op, .int .i64 x.a, .int .i64 x.b, .int .i64 x.c, .int .i64 x.k] 25)) (fun k _ hs => Below.heap_alloc _ _ _ hs)
              unfold IOwn at h9
              rw [HMM.out] at h9
              exact h9
            have hp3 : pb < w3.heap.size := HR3.out.lt
            go_wp2_with (at_builtin; refine wpList_append_own _ rfl _ _ 32 rfl (pb + 1) 25 i0 (.agg #[.int .i64 0, .int .i64 0, .int .i64 0, .int .i64 0, .int .i64 0, .int .i64 0]) 6 48 Try.underlying32 hi hz0 hz1 hz2 rfl (by decide) _ _ _ rfl HOW.out ⟨w3.heap.size + 1, 0, none⟩ 1 1 (ics [x]) rfl rfl ?c1 (ic_one x) ?c3 ?c4 ?c5 ?_)
            case c1 =>
              intro j u hj
              match j, hj with
              | 0, hj => simp [ics, ic] at hj; subst hj; simp [Addr.add]
              | 1, hj => simp [ics, ic] at hj; subst hj; simp [Addr.add]
              | 2, hj => simp [ics, ic] at hj; subst hj; simp [Addr.add]
              | 3, hj => simp [ics, ic] at hj; subst hj; simp [Addr.add]
              | 4, hj => simp [ics, ic] at hj; subst hj; simp [Addr.add]
              | 5, hj => simp [ics, ic] at hj; subst hj; simp [Addr.add]
            case c3 => unfold maxLen; omega
            case c4 => omega
            case c5 => simp; omega
            intro v' w5 hown' hgrow _
            have HO5 : Hid (IOwn w5 (pb + 1) v' ((acc ++ [x]).take 601)) := by
              show w5.ownsRow _ _ _ _ _ _
              rw [HTK.out, List.length_append, ics_app, HMM.out]
              exact hown'
            have HB5 : Hid (Below w.heap.size w w5) := HBW.out.grown hgrow HBW.out.size (fun k hk => by have := (World.ownsRow.lt HOW.out k hk).1; omega)
            have HR5 : Hid (RS w5 pb M' 0) := HRW.out.same (fun k hk => hgrow.block k (by simp; omega) (fun e => by have := (World.ownsRow.lt HOW.out k e.symm).1; omega)) hgrow.size
            obtain ⟨a5, c5, rfl⟩ := HO5.out.sl
            clear hown' hgrow
            go_wp2
            go_roundw
            case rel => exact ⟨i + 1, acc ++ [x], M', a5, c5, hlt, by simp [hacc], by go_num, rfl, HO5, HR5, by omega, HD3, HB5⟩
            case measure => simp [intOf]; omega
          · have HTK : Hid ((acc ++ [x]).take 601 = acc.take 601) := by
              show _ = _
              have := HMM.out
              rw [List.length_take] at this
              rw [List.take_append_of_le_length (by omega)]
            go_wp2
            go_roundw
            case rel => exact ⟨i + 1, acc ++ [x], M', a, c, hlt, by simp [hacc], by go_num, by rw [HTK.out, HMM.out], by rw [HTK.out, HMM.out]; exact HOA, HRA, by omega, HD3, HBA⟩
            case measure => simp [intOf]; omega
        · have HR2 : Hid (DR.err er = decN n R) := by have := HD2.out; rw [if_neg her] at this; exact this
          have HRR2 : Hid (([], er) = RR) := by
            have := HRR.out
            rw [← HR2.out] at this
            exact this
          go_wp2
          all_goals first | (exfalso; simp_all; done) | skip
          go_ret2
          rw [← HRR2.out]
          exact ⟨HB3.out.alloc HB3.out.size _, _, rfl, ISl.nil _⟩
      · have hie : i = n := by omega
        subst hie
        have HD2 : Hid (decN i R = .ok acc M) := by
          have := HD.out
          rw [Nat.sub_self] at this
          rw [← this]
          show _ = _
          simp [decN, DR.pre]
        have HRR2 : Hid ((if 0 < M.length then ([], 21) else if (checkL acc cells).2 = 0 then (acc, 0) else ([], (checkL acc cells).2)) = RR) := by
          have := HRR.out
          rw [HD2.out] at this
          exact this
        obtain ⟨m, hm⟩ : ∃ m, (acc.take 601).length = m := ⟨_, rfl⟩
        have HMM : Hid ((acc.take 601).length = m) := hm
        rw [hm] at HO
        rw [hm]
        have HE : Hid (∀ W, RS W pb M 0 → Calls Try.prog 46 #[.pointer (some ⟨pb, 0, none⟩)] W fun e w' => e = .returned (.int .i64 (endI M 0)) ∧ w' = W) := fun W hW => end_any pb M 0 W (by omega) hW
        clear hm HD
        by_cases hM : 0 < M.length
        · have hen : endI M 0 = 21 := by unfold endI; rw [if_pos ⟨rfl, hM⟩]
          rw [hen] at HE
          have HRR3 : Hid (([], 21) = RR) := by have := HRR2.out; rw [if_pos hM] at this; exact this
          go_wp2_with fail
          refine (HE.out _ HM.out).mono ?_
          rintro e w3 ⟨rfl, rfl⟩
          go_wp2
          go_ret2
          rw [← HRR3.out]
          exact ⟨HB.out, _, rfl, ISl.nil _⟩
        · have hen : endI M 0 = 0 := by unfold endI; rw [if_neg (fun h => hM h.2)]
          rw [hen] at HE
          have HRR3 : Hid ((if (checkL acc cells).2 = 0 then (acc, 0) else ([], (checkL acc cells).2)) = RR) := by have := HRR2.out; rw [if_neg hM] at this; exact this
          have HCK : Hid (Calls Try.prog 14 #[.slice a m c, .int .i64 cells] wr fun e w' => e = .returned (.tuple #[.int .i64 (checkL (acc.take 601) cells).1, .int .i64 (checkL acc cells).2]) ∧ Below wr.heap.size wr w') := by
            have h9 := check_any (acc.take 601) cells (.slice a m c) wr HO.out.isl
            rw [check_take] at h9
            exact h9
          go_wp2_with fail
          refine (HE.out _ HM.out).mono ?_
          rintro e w3 ⟨rfl, rfl⟩
          go_wp2_with fail
          refine HCK.out.mono ?_
          rintro e w4 ⟨rfl, b4⟩
          have HB4 : Hid (Below w.heap.size w w4) := HB.out.trans (b4.mono HB.out.size)
          have HI4 : Hid (ISl w4 (.slice a m c) (acc.take 601)) := HO.out.isl.below b4
          obtain ⟨c1, hc1⟩ : ∃ z, (checkL (acc.take 601) cells).1 = z := ⟨_, rfl⟩
          obtain ⟨c2, hc2⟩ : ∃ z, (checkL acc cells).2 = z := ⟨_, rfl⟩
          have HC2 : Hid ((checkL acc cells).2 = c2) := hc2
          rw [hc2] at HRR3
          rw [hc1, hc2]
          clear hc1 hc2 b4 HCK HE
          by_cases h0 : c2 = 0
          · subst h0
            have HRR4 : Hid ((acc, 0) = RR) := by have := HRR3.out; rw [if_pos rfl] at this; exact this
            have h600 := (checkL_ok acc cells HC2.out).2.1
            rw [List.take_of_length_le (by omega)] at HI4
            go_wp2
            go_ret2
            rw [← HRR4.out]
            exact ⟨HB4.out, _, rfl, HI4.out⟩
          · have HRR4 : Hid (([], c2) = RR) := by have := HRR3.out; rw [if_neg h0] at this; exact this
            go_wp2
            all_goals first | (exfalso; simp_all; done) | skip
            go_ret2
            rw [← HRR4.out]
            exact ⟨HB4.out, _, rfl, ISl.nil _⟩
  · rw [hk] at hp hRR
    obtain ⟨rfl, r2, g2⟩ := hp
    have hk0 := tkC_err hk
    have R2 : Hid (RS w2 pb [] k) := r2
    have B2 : Hid (Below w.heap.size w w2) := B1.out.trans (grow_below g2 hpb (by have := B1.out.size; omega))
    have HRR : Hid (([], k) = RR) := hRR
    have HE : Hid (∀ W, RS W pb [] k → Calls Try.prog 46 #[.pointer (some ⟨pb, 0, none⟩)] W fun e w' => e = .returned (.int .i64 k) ∧ w' = W) := fun W hW => by
      have h9 := end_any pb [] k W (by simp) hW
      rw [show endI [] k = k by unfold endI; rw [if_neg (fun h => hk0 h.1)]] at h9
      exact h9
    clear r2 g2 hk hRR
    go_wp2
    go_loopw [7, 17] (fun bv t wr => bv = .slice none 0 0 ∧ t = .int .i64 0 ∧ wr = w2) (fun _ _ _ => 0)
    case atStart => exact ⟨rfl, rfl, rfl⟩
    case round =>
      obtain ⟨rfl, rfl, rfl⟩ := hrel
      go_wp2_with fail
      refine (HE.out _ R2.out).mono ?_
      rintro e w3 ⟨rfl, rfl⟩
      go_wp2
      all_goals first | (exfalso; simp_all; done) | skip
      go_ret2
      rw [← HRR.out]
      exact ⟨B2.out, _, rfl, ISl.nil _⟩
end Go.Proofs.Ythcidcfaodjbjaa
