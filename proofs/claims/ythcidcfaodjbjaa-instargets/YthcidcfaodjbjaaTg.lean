/- What the document's Targets answers. -/
import Derived.Test.YthcidcfaodjbjaaAlive
import Derived.Test.YthcidcfaodjbjaaRefC
namespace Go.Proofs.Ythcidcfaodjbjaa
open Go.RowKit
set_option linter.unusedVariables false
set_option linter.unusedSimpArgs false

def hasT (n : Int) : Bool := decide (n = 10 ∨ n = 11 ∨ n = 12)
theorem hasT_lets (n : Int) : hasL ((lets n).getD ⟨#[]⟩) 108 = hasT n := by
  unfold hasT lets
  by_cases h : n = 10 ∨ n = 11 ∨ n = 12
  · rcases h with rfl | rfl | rfl <;> decide
  · simp only [h, decide_false]
    (repeat' split) <;> first | decide | (exfalso; omega)
theorem refPartsT (n : Int) : ∃ s : ByteArray, s.size ≤ 1000 ∧ hasI s 116 = hasT n ∧ ∀ w, Calls Try.prog 30 #[.int .i64 n] w fun e w' => e = .returned (.string s) ∧ Below w.heap.size w w' := by
  by_cases hb : n < 1 ∨ 13 < n
  · exact ⟨⟨#[63]⟩, by decide, by unfold hasT; rw [show decide (n = 10 ∨ n = 11 ∨ n = 12) = false by simp; omega]; decide, fun w => refParts_none n w hb⟩
  · have : n = 1 ∨ n = 2 ∨ n = 3 ∨ n = 4 ∨ n = 5 ∨ n = 6 ∨ n = 7 ∨ n = 8 ∨ n = 9 ∨ n = 10 ∨ n = 11 ∨ n = 12 ∨ n = 13 := by omega
    rcases this with rfl | rfl | rfl | rfl | rfl | rfl | rfl | rfl | rfl | rfl | rfl | rfl | rfl
    · exact ⟨⟨#[]⟩, by decide, by decide, fun w => refParts_1 w⟩
    · exact ⟨⟨#[97, 107]⟩, by decide, by decide, fun w => refParts_2 w⟩
    · exact ⟨⟨#[97, 98]⟩, by decide, by decide, fun w => refParts_3 w⟩
    · exact ⟨⟨#[112, 97, 98]⟩, by decide, by decide, fun w => refParts_4 w⟩
    · exact ⟨⟨#[111, 97, 98, 99]⟩, by decide, by decide, fun w => refParts_5 w⟩
    · exact ⟨⟨#[97, 98, 107]⟩, by decide, by decide, fun w => refParts_6 w⟩
    · exact ⟨⟨#[97, 98, 107]⟩, by decide, by decide, fun w => refParts_7 w⟩
    · exact ⟨⟨#[97, 114]⟩, by decide, by decide, fun w => refParts_8 w⟩
    · exact ⟨⟨#[97]⟩, by decide, by decide, fun w => refParts_9 w⟩
    · exact ⟨⟨#[116]⟩, by decide, by decide, fun w => refParts_10 w⟩
    · exact ⟨⟨#[97, 116]⟩, by decide, by decide, fun w => refParts_11 w⟩
    · exact ⟨⟨#[97, 116]⟩, by decide, by decide, fun w => refParts_12 w⟩
    · exact ⟨⟨#[97]⟩, by decide, by decide, fun w => refParts_13 w⟩
/-- numbers of the call's own -/
def zc (l : List Int) : List Value := l.map fun z => Value.int .i64 z
def IZ (w : World) (base : Nat) (v : Value) (l : List Int) : Prop := w.ownsRow base 3 1 v l.length (zc l)
theorem IZ.below {w w' : World} {base : Nat} {v : Value} {l : List Int} (h : IZ w base v l) (hb : Below w.heap.size w w') : IZ w' base v l := by
  obtain ⟨h1, h2⟩ := h
  refine ⟨h1, ?_⟩
  rcases h2 with h2 | ⟨g, cap, cur, e1, e2, e3, e4⟩
  · exact Or.inl h2
  · refine Or.inr ⟨g, cap, cur, e1, e2, ?_, e4⟩
    have hg : g < w.heap.size := by
      rcases Nat.lt_or_ge g w.heap.size with h | h
      · exact h
      · rw [Array.getElem?_eq_none h] at e3; cases e3
    rw [hb.block g hg]; exact e3
theorem IZ.sl {w : World} {base : Nat} {v : Value} {l : List Int} (h : IZ w base v l) : ∃ a c, v = .slice a l.length c := by
  rcases h.2 with ⟨h1, h2⟩ | ⟨g, cap, cur, h1, _⟩
  · exact ⟨none, 0, by rw [h1, h2]⟩
  · exact ⟨_, _, h1⟩
theorem zc_app (a b : List Int) : zc (a ++ b) = zc a ++ zc b := by simp [zc]
theorem zc_one (z : Int) : ∀ u ∈ zc [z], u.oneCell' = true := by
  intro u hu
  simp [zc] at hu
  subst hu
  rfl
theorem info3 : (Try.prog.info? 3).map (fun i => (i.zero, i.size, i.bytes)) = some (some (.int .i64 0), 1, 8) := by kernel_rfl

/-- may one go on there? -/
def tb (x : In) (at' : Nat) (i : Nat) : Bool := (decide (i = at' + 1) && fallsB x) || (hasT x.kind && decide (x.k = (i : Int)))
def tl (x : In) (at' : Nat) : Nat → List Int
  | 0 => []
  | i + 1 => tl x at' i ++ (if tb x at' i = true then [(i : Int)] else [])
theorem tl_len (x : In) (at' : Nat) : ∀ i, (tl x at' i).length ≤ i
  | 0 => by simp [tl]
  | i + 1 => by
    have := tl_len x at' i
    unfold tl
    rw [List.length_append]
    split <;> simp <;> omega
def tgt (l : List In) (z : Int) : List Int := if h : 0 ≤ z ∧ z < (l.length : Int) then tl (l[z.toNat]'(by omega)) z.toNat l.length else []

set_option maxRecDepth 100000 in
set_option maxHeartbeats 4000000 in
theorem refTargets_any (l : List In) (z : Int) (v : Value) (w : World) (hv : ISl w v l) (hl : l.length ≤ 1000) : Calls Try.prog 17 #[v, .int .i64 z] w fun e w' => Below w.heap.size w w' ∧ ∃ v', e = .returned v' ∧ IZ w' w.heap.size v' (tgt l z) := by
  obtain ⟨ad, cap, b, o, rfl, h2, h3, h4, h5⟩ := hv
  have H5 : Hid (∀ i (h : i < l.length), IAt w b (o + i * 6) l[i]) := h5
  obtain ⟨i0, hi, hz0, hz1, hz2⟩ := info_parts info3
  unfold maxLen at h3
  by_cases hz : 0 ≤ z ∧ z < (l.length : Int)
  · have e : tgt l z = tl (l[z.toNat]'(by omega)) z.toNat l.length := by unfold tgt; rw [dif_pos hz]
    rw [e]
    obtain ⟨at', rfl⟩ : ∃ a : Nat, z = (a : Int) := ⟨z.toNat, by omega⟩
    have hat : at' < l.length := by omega
    have hx0 := H5.out at' hat
    rw [h4 (by omega)]
    obtain ⟨x, hxe⟩ : ∃ x, l[at'] = x := ⟨_, rfl⟩
    have e2 : l[((at' : Int)).toNat]'(by omega) = x := by rw [← hxe]; congr 1
    rw [e2, Int.toNat_natCast]
    rw [hxe] at hx0
    have HX : Hid (IAt w b (o + at' * 6) x) := hx0
    obtain ⟨s, hs1, hs2, hs3⟩ := refPartsT x.kind
    have HS : Hid (∀ w, Calls Try.prog 30 #[.int .i64 x.kind] w fun e w' => e = .returned (.string s) ∧ Below w.heap.size w w') := hs3
    have HH : Hid (∀ w, Calls Try.prog 31 #[.string s, .int .u8 116] w fun e w' => e = .returned (.bool (hasT x.kind)) ∧ w' = w) := fun w => by rw [← hs2]; exact has_gen s 116 w hs1 (by decide) (by decide)
    obtain ⟨n, hn⟩ : ∃ n, l.length = n := ⟨_, rfl⟩
    rw [hn] at h2 hl hat
    rw [hn]
    have hz' : (at' : Int) < (n : Int) := by omega
    clear h4 h5 hz e e2 hxe hx0 hs1 hs2 hs3 hn
    obtain ⟨ht, hht⟩ : ∃ q, hasT x.kind = q := ⟨_, rfl⟩
    obtain ⟨fb, hfb⟩ : ∃ q, fallsB x = q := ⟨_, rfl⟩
    have HTB : Hid (∀ i, tb x at' i = ((decide (i = at' + 1) && fb) || (ht && decide (x.k = (i : Int))))) := fun i => by unfold tb; rw [hht, hfb]
    rw [hht] at HH
    have HF : Hid (∀ w, Calls Try.prog 12 #[.agg #[.int .i64 x.kind, .int .i64 x.op, .int .i64 x.a, .int .i64 x.b, .int .i64 x.c, .int .i64 x.k]] w fun e w' => e = .returned (.bool fb) ∧ Below w.heap.size w w') := fun w => by rw [← hfb]; exact refFalls_any x w
    clear hht hfb
    go_enter Try.func17, Try.ntmps17
    go_wp2
    have e0 : decide ((at' : Int) < 0) = false := by rw [decide_eq_false_iff_not]; omega
    have e1 : decide (n ≤ at') = false := by rw [decide_eq_false_iff_not]; omega
    simp only [e0, e1, Bool.or_false]
    go_loopw [5, 6] (fun ov t wr => ∃ (i : Nat) (oa : Option Addr) (oc : Nat), i ≤ n ∧ t = .int .i64 i ∧ ov = .slice oa (tl x at' i).length oc ∧ Hid (IZ wr w.heap.size (.slice oa (tl x at' i).length oc) (tl x at' i)) ∧ Hid (Below w.heap.size w wr)) (fun _ t _ => n - (intOf t).toNat)
    case atStart => exact ⟨0, none, 0, Nat.zero_le _, rfl, rfl, ⟨rfl, Or.inl ⟨rfl, rfl⟩⟩, Below.refl _ _⟩
    case round =>
      obtain ⟨i, oa, oc, hin, rfl, rfl, HO, HB⟩ := hrel
      by_cases hlt : i < n
      · have HN : Hid (tl x at' (i + 1) = tl x at' i ++ (if tb x at' i = true then [(i : Int)] else [])) := rfl
        have hln := tl_len x at' i
        obtain ⟨Q, hQ⟩ : ∃ Q, tl x at' i = Q := ⟨_, rfl⟩
        rw [hQ] at HO HN hln
        rw [hQ]
        obtain ⟨q, hq⟩ : ∃ q, Q.length = q := ⟨_, rfl⟩
        have HQ : Hid (Q.length = q) := hq
        rw [hq] at HO hln
        rw [hq]
        have htb := HTB.out i
        have hxw : IAt wr b (o + at' * 6) x := HX.out.block (HB.out.block b HX.out.lt)
        have HXW : Hid (IAt wr b (o + at' * 6) x) := hxw
        obtain ⟨x0, x1, x2, x3, x4, x5⟩ := hxw
        clear hQ hq
        have HBwr : Hid (Below w.heap.size w wr) := HB
        have HOwr : Hid (IZ wr w.heap.size (.slice oa q oc) Q) := HO
        by_cases h1 : i = at' + 1
        · subst h1
          go_wp2_with fail
          refine (HF.out _).mono ?_
          rintro e w4 ⟨rfl, b4⟩
          have HBw4 : Hid (Below w.heap.size w w4) := HB.out.trans (b4.mono HB.out.size)
          have HOw4 : Hid (IZ w4 w.heap.size (.slice oa q oc) Q) := HO.out.below b4
          have hx4 : IAt w4 b (o + at' * 6) x := HX.out.block (HBw4.out.block b HX.out.lt)
          clear b4 x0 x1 x2 x3 x4 x5
          obtain ⟨x0, x1, x2, x3, x4, x5⟩ := hx4
          cases fb with
          | false =>
            go_wp2_with fail
            refine (HS.out _).mono ?_
            rintro e w5 ⟨rfl, b5⟩
            have HBw5 : Hid (Below w.heap.size w w5) := HBw4.out.trans (b5.mono HBw4.out.size)
            have HOw5 : Hid (IZ w5 w.heap.size (.slice oa q oc) Q) := HOw4.out.below b5
            have hx5 : IAt w5 b (o + at' * 6) x := HX.out.block (HBw5.out.block b HX.out.lt)
            clear b5 x0 x1 x2 x3 x4 x5
            obtain ⟨x0, x1, x2, x3, x4, x5⟩ := hx5
            go_wp2_with fail
            refine (HH.out _).mono ?_
            rintro e w6 ⟨rfl, hw6⟩
            rw [hw6]
            clear hw6 w6
            cases ht with
            | false =>
              have HT9 : Hid (tb x at' (at' + 1) = false) := by show _ = _; rw [htb]; simp_all
              have HN9 : Hid (tl x at' (at' + 1 + 1) = Q) := by show _ = _; rw [HN.out, if_neg (by rw [HT9.out]; simp), List.append_nil]
              go_wp2
              go_roundw
              case rel => exact ⟨at' + 1 + 1, oa, oc, hlt, by go_num, by rw [HN9.out, HQ.out], by rw [HN9.out, HQ.out]; exact HOw5, HBw5⟩
              case measure => simp [intOf]; omega
            | true =>
              by_cases hk : x.k = ((at' + 1 : Nat) : Int)
              · have HT9 : Hid (tb x at' (at' + 1) = true) := by show _ = _; rw [htb]; simp <;> simp_all
                have HOA : Hid ((w5.alloc (.cells #[.int .i64 ((at' + 1 : Nat) : Int)] 3)).ownsRow w.heap.size 3 1 (.slice oa q oc) q (zc Q)) := by
                  have h9 := HOw5.out.below ((Below.refl w5.heap.size w5).alloc (Nat.le_refl _) (.cells #[.int .i64 ((at' + 1 : Nat) : Int)] 3))
                  unfold IZ at h9
                  rw [HQ.out] at h9
                  exact h9
                have HBA : Hid (Below w.heap.size w (w5.alloc (.cells #[.int .i64 ((at' + 1 : Nat) : Int)] 3))) := HBw5.out.alloc HBw5.out.size _
                have hsz9 : w.heap.size ≤ w5.heap.size := HBw5.out.size
                go_wp2_with (at_builtin; refine wpList_append_own _ rfl _ _ 38 rfl w.heap.size 3 i0 (.int .i64 0) 1 8 Try.underlying38 hi hz0 hz1 hz2 rfl (by decide) _ _ _ rfl HOA.out ⟨w5.heap.size, 0, none⟩ 1 1 (zc [((at' + 1 : Nat) : Int)]) rfl rfl ?c1 (zc_one _) ?c3 ?c4 ?c5 ?_)
                case c1 =>
                  intro j u hj
                  match j, hj with
                  | 0, hj => simp [zc] at hj; subst hj; simp [Addr.add]
                case c3 => unfold maxLen; omega
                case c4 => omega
                case c5 => simp; omega
                intro v' w8 hown' hgrow _
                have HO8 : IZ w8 w.heap.size v' (Q ++ [((at' + 1 : Nat) : Int)]) := by
                  show w8.ownsRow _ _ _ _ _ _
                  rw [List.length_append, zc_app, HQ.out]
                  exact hown'
                have HB8 : Hid (Below w.heap.size w w8) := HBA.out.grown hgrow HBA.out.size (fun k hk => (World.ownsRow.lt HOA.out k hk).1)
                obtain ⟨a8, c8, rfl⟩ := HO8.sl
                have HO9 : Hid (IZ w8 w.heap.size (.slice a8 (Q ++ [((at' + 1 : Nat) : Int)]).length c8) (Q ++ [((at' + 1 : Nat) : Int)])) := HO8
                have HN9 : Hid (tl x at' (at' + 1 + 1) = Q ++ [((at' + 1 : Nat) : Int)]) := by show _ = _; rw [HN.out, if_pos HT9.out]
                have hle9 : (Q ++ [((at' + 1 : Nat) : Int)]).length = q + 1 := by rw [List.length_append, HQ.out]; rfl
                rw [hle9] at HO9
                rw [hle9]
                clear hown' hgrow HO8
                go_wp2
                go_roundw
                case rel => exact ⟨at' + 1 + 1, a8, c8, hlt, by go_num, by rw [HN9.out, hle9], by rw [HN9.out, hle9]; exact HO9, HB8⟩
                case measure => simp [intOf]; omega
              · have HT9 : Hid (tb x at' (at' + 1) = false) := by show _ = _; rw [htb]; simp_all
                have HN9 : Hid (tl x at' (at' + 1 + 1) = Q) := by show _ = _; rw [HN.out, if_neg (by rw [HT9.out]; simp), List.append_nil]
                go_wp2
                go_roundw
                case rel => exact ⟨at' + 1 + 1, oa, oc, hlt, by go_num, by rw [HN9.out, HQ.out], by rw [HN9.out, HQ.out]; exact HOw5, HBw5⟩
                case measure => simp [intOf]; omega
          | true =>
            go_wp2_with fail
            refine (HS.out _).mono ?_
            rintro e w5 ⟨rfl, b5⟩
            have HBw5 : Hid (Below w.heap.size w w5) := HBw4.out.trans (b5.mono HBw4.out.size)
            have HOw5 : Hid (IZ w5 w.heap.size (.slice oa q oc) Q) := HOw4.out.below b5
            have hx5 : IAt w5 b (o + at' * 6) x := HX.out.block (HBw5.out.block b HX.out.lt)
            clear b5 x0 x1 x2 x3 x4 x5
            obtain ⟨x0, x1, x2, x3, x4, x5⟩ := hx5
            go_wp2_with fail
            refine (HH.out _).mono ?_
            rintro e w6 ⟨rfl, hw6⟩
            rw [hw6]
            clear hw6 w6
            cases ht with
            | false =>
              have HT9 : Hid (tb x at' (at' + 1) = true) := by show _ = _; rw [htb]; simp <;> simp_all
              have HOA : Hid ((w5.alloc (.cells #[.int .i64 ((at' + 1 : Nat) : Int)] 3)).ownsRow w.heap.size 3 1 (.slice oa q oc) q (zc Q)) := by
                have h9 := HOw5.out.below ((Below.refl w5.heap.size w5).alloc (Nat.le_refl _) (.cells #[.int .i64 ((at' + 1 : Nat) : Int)] 3))
                unfold IZ at h9
                rw [HQ.out] at h9
                exact h9
              have HBA : Hid (Below w.heap.size w (w5.alloc (.cells #[.int .i64 ((at' + 1 : Nat) : Int)] 3))) := HBw5.out.alloc HBw5.out.size _
              have hsz9 : w.heap.size ≤ w5.heap.size := HBw5.out.size
              go_wp2_with (at_builtin; refine wpList_append_own _ rfl _ _ 38 rfl w.heap.size 3 i0 (.int .i64 0) 1 8 Try.underlying38 hi hz0 hz1 hz2 rfl (by decide) _ _ _ rfl HOA.out ⟨w5.heap.size, 0, none⟩ 1 1 (zc [((at' + 1 : Nat) : Int)]) rfl rfl ?c1 (zc_one _) ?c3 ?c4 ?c5 ?_)
              case c1 =>
                intro j u hj
                match j, hj with
                | 0, hj => simp [zc] at hj; subst hj; simp [Addr.add]
              case c3 => unfold maxLen; omega
              case c4 => omega
              case c5 => simp; omega
              intro v' w8 hown' hgrow _
              have HO8 : IZ w8 w.heap.size v' (Q ++ [((at' + 1 : Nat) : Int)]) := by
                show w8.ownsRow _ _ _ _ _ _
                rw [List.length_append, zc_app, HQ.out]
                exact hown'
              have HB8 : Hid (Below w.heap.size w w8) := HBA.out.grown hgrow HBA.out.size (fun k hk => (World.ownsRow.lt HOA.out k hk).1)
              obtain ⟨a8, c8, rfl⟩ := HO8.sl
              have HO9 : Hid (IZ w8 w.heap.size (.slice a8 (Q ++ [((at' + 1 : Nat) : Int)]).length c8) (Q ++ [((at' + 1 : Nat) : Int)])) := HO8
              have HN9 : Hid (tl x at' (at' + 1 + 1) = Q ++ [((at' + 1 : Nat) : Int)]) := by show _ = _; rw [HN.out, if_pos HT9.out]
              have hle9 : (Q ++ [((at' + 1 : Nat) : Int)]).length = q + 1 := by rw [List.length_append, HQ.out]; rfl
              rw [hle9] at HO9
              rw [hle9]
              clear hown' hgrow HO8
              go_wp2
              go_roundw
              case rel => exact ⟨at' + 1 + 1, a8, c8, hlt, by go_num, by rw [HN9.out, hle9], by rw [HN9.out, hle9]; exact HO9, HB8⟩
              case measure => simp [intOf]; omega
            | true =>
              by_cases hk : x.k = ((at' + 1 : Nat) : Int)
              · have HT9 : Hid (tb x at' (at' + 1) = true) := by show _ = _; rw [htb]; simp <;> simp_all
                have HOA : Hid ((w5.alloc (.cells #[.int .i64 ((at' + 1 : Nat) : Int)] 3)).ownsRow w.heap.size 3 1 (.slice oa q oc) q (zc Q)) := by
                  have h9 := HOw5.out.below ((Below.refl w5.heap.size w5).alloc (Nat.le_refl _) (.cells #[.int .i64 ((at' + 1 : Nat) : Int)] 3))
                  unfold IZ at h9
                  rw [HQ.out] at h9
                  exact h9
                have HBA : Hid (Below w.heap.size w (w5.alloc (.cells #[.int .i64 ((at' + 1 : Nat) : Int)] 3))) := HBw5.out.alloc HBw5.out.size _
                have hsz9 : w.heap.size ≤ w5.heap.size := HBw5.out.size
                go_wp2_with (at_builtin; refine wpList_append_own _ rfl _ _ 38 rfl w.heap.size 3 i0 (.int .i64 0) 1 8 Try.underlying38 hi hz0 hz1 hz2 rfl (by decide) _ _ _ rfl HOA.out ⟨w5.heap.size, 0, none⟩ 1 1 (zc [((at' + 1 : Nat) : Int)]) rfl rfl ?c1 (zc_one _) ?c3 ?c4 ?c5 ?_)
                case c1 =>
                  intro j u hj
                  match j, hj with
                  | 0, hj => simp [zc] at hj; subst hj; simp [Addr.add]
                case c3 => unfold maxLen; omega
                case c4 => omega
                case c5 => simp; omega
                intro v' w8 hown' hgrow _
                have HO8 : IZ w8 w.heap.size v' (Q ++ [((at' + 1 : Nat) : Int)]) := by
                  show w8.ownsRow _ _ _ _ _ _
                  rw [List.length_append, zc_app, HQ.out]
                  exact hown'
                have HB8 : Hid (Below w.heap.size w w8) := HBA.out.grown hgrow HBA.out.size (fun k hk => (World.ownsRow.lt HOA.out k hk).1)
                obtain ⟨a8, c8, rfl⟩ := HO8.sl
                have HO9 : Hid (IZ w8 w.heap.size (.slice a8 (Q ++ [((at' + 1 : Nat) : Int)]).length c8) (Q ++ [((at' + 1 : Nat) : Int)])) := HO8
                have HN9 : Hid (tl x at' (at' + 1 + 1) = Q ++ [((at' + 1 : Nat) : Int)]) := by show _ = _; rw [HN.out, if_pos HT9.out]
                have hle9 : (Q ++ [((at' + 1 : Nat) : Int)]).length = q + 1 := by rw [List.length_append, HQ.out]; rfl
                rw [hle9] at HO9
                rw [hle9]
                clear hown' hgrow HO8
                go_wp2
                go_roundw
                case rel => exact ⟨at' + 1 + 1, a8, c8, hlt, by go_num, by rw [HN9.out, hle9], by rw [HN9.out, hle9]; exact HO9, HB8⟩
                case measure => simp [intOf]; omega
              · have HT9 : Hid (tb x at' (at' + 1) = true) := by show _ = _; rw [htb]; simp <;> simp_all
                have HOA : Hid ((w5.alloc (.cells #[.int .i64 ((at' + 1 : Nat) : Int)] 3)).ownsRow w.heap.size 3 1 (.slice oa q oc) q (zc Q)) := by
                  have h9 := HOw5.out.below ((Below.refl w5.heap.size w5).alloc (Nat.le_refl _) (.cells #[.int .i64 ((at' + 1 : Nat) : Int)] 3))
                  unfold IZ at h9
                  rw [HQ.out] at h9
                  exact h9
                have HBA : Hid (Below w.heap.size w (w5.alloc (.cells #[.int .i64 ((at' + 1 : Nat) : Int)] 3))) := HBw5.out.alloc HBw5.out.size _
                have hsz9 : w.heap.size ≤ w5.heap.size := HBw5.out.size
                go_wp2_with (at_builtin; refine wpList_append_own _ rfl _ _ 38 rfl w.heap.size 3 i0 (.int .i64 0) 1 8 Try.underlying38 hi hz0 hz1 hz2 rfl (by decide) _ _ _ rfl HOA.out ⟨w5.heap.size, 0, none⟩ 1 1 (zc [((at' + 1 : Nat) : Int)]) rfl rfl ?c1 (zc_one _) ?c3 ?c4 ?c5 ?_)
                case c1 =>
                  intro j u hj
                  match j, hj with
                  | 0, hj => simp [zc] at hj; subst hj; simp [Addr.add]
                case c3 => unfold maxLen; omega
                case c4 => omega
                case c5 => simp; omega
                intro v' w8 hown' hgrow _
                have HO8 : IZ w8 w.heap.size v' (Q ++ [((at' + 1 : Nat) : Int)]) := by
                  show w8.ownsRow _ _ _ _ _ _
                  rw [List.length_append, zc_app, HQ.out]
                  exact hown'
                have HB8 : Hid (Below w.heap.size w w8) := HBA.out.grown hgrow HBA.out.size (fun k hk => (World.ownsRow.lt HOA.out k hk).1)
                obtain ⟨a8, c8, rfl⟩ := HO8.sl
                have HO9 : Hid (IZ w8 w.heap.size (.slice a8 (Q ++ [((at' + 1 : Nat) : Int)]).length c8) (Q ++ [((at' + 1 : Nat) : Int)])) := HO8
                have HN9 : Hid (tl x at' (at' + 1 + 1) = Q ++ [((at' + 1 : Nat) : Int)]) := by show _ = _; rw [HN.out, if_pos HT9.out]
                have hle9 : (Q ++ [((at' + 1 : Nat) : Int)]).length = q + 1 := by rw [List.length_append, HQ.out]; rfl
                rw [hle9] at HO9
                rw [hle9]
                clear hown' hgrow HO8
                go_wp2
                go_roundw
                case rel => exact ⟨at' + 1 + 1, a8, c8, hlt, by go_num, by rw [HN9.out, hle9], by rw [HN9.out, hle9]; exact HO9, HB8⟩
                case measure => simp [intOf]; omega
        · have h1' : decide (i = at' + 1) = false := by simpa using h1
          rw [h1'] at htb
          go_wp2_with fail
          refine (HS.out _).mono ?_
          rintro e w5 ⟨rfl, b5⟩
          have HBw5 : Hid (Below w.heap.size w w5) := HBwr.out.trans (b5.mono HBwr.out.size)
          have HOw5 : Hid (IZ w5 w.heap.size (.slice oa q oc) Q) := HOwr.out.below b5
          have hx5 : IAt w5 b (o + at' * 6) x := HX.out.block (HBw5.out.block b HX.out.lt)
          clear b5 x0 x1 x2 x3 x4 x5
          obtain ⟨x0, x1, x2, x3, x4, x5⟩ := hx5
          go_wp2_with fail
          refine (HH.out _).mono ?_
          rintro e w6 ⟨rfl, hw6⟩
          rw [hw6]
          clear hw6 w6
          cases ht with
          | false =>
            have HT9 : Hid (tb x at' (i) = false) := by show _ = _; rw [htb]; simp_all
            have HN9 : Hid (tl x at' (i + 1) = Q) := by show _ = _; rw [HN.out, if_neg (by rw [HT9.out]; simp), List.append_nil]
            go_wp2
            go_roundw
            case rel => exact ⟨i + 1, oa, oc, hlt, by go_num, by rw [HN9.out, HQ.out], by rw [HN9.out, HQ.out]; exact HOw5, HBw5⟩
            case measure => simp [intOf]; omega
          | true =>
            by_cases hk : x.k = ((i : Nat) : Int)
            · have HT9 : Hid (tb x at' (i) = true) := by show _ = _; rw [htb]; simp <;> simp_all
              have HOA : Hid ((w5.alloc (.cells #[.int .i64 ((i : Nat) : Int)] 3)).ownsRow w.heap.size 3 1 (.slice oa q oc) q (zc Q)) := by
                have h9 := HOw5.out.below ((Below.refl w5.heap.size w5).alloc (Nat.le_refl _) (.cells #[.int .i64 ((i : Nat) : Int)] 3))
                unfold IZ at h9
                rw [HQ.out] at h9
                exact h9
              have HBA : Hid (Below w.heap.size w (w5.alloc (.cells #[.int .i64 ((i : Nat) : Int)] 3))) := HBw5.out.alloc HBw5.out.size _
              have hsz9 : w.heap.size ≤ w5.heap.size := HBw5.out.size
              go_wp2_with (at_builtin; refine wpList_append_own _ rfl _ _ 38 rfl w.heap.size 3 i0 (.int .i64 0) 1 8 Try.underlying38 hi hz0 hz1 hz2 rfl (by decide) _ _ _ rfl HOA.out ⟨w5.heap.size, 0, none⟩ 1 1 (zc [((i : Nat) : Int)]) rfl rfl ?c1 (zc_one _) ?c3 ?c4 ?c5 ?_)
              case c1 =>
                intro j u hj
                match j, hj with
                | 0, hj => simp [zc] at hj; subst hj; simp [Addr.add]
              case c3 => unfold maxLen; omega
              case c4 => omega
              case c5 => simp; omega
              intro v' w8 hown' hgrow _
              have HO8 : IZ w8 w.heap.size v' (Q ++ [((i : Nat) : Int)]) := by
                show w8.ownsRow _ _ _ _ _ _
                rw [List.length_append, zc_app, HQ.out]
                exact hown'
              have HB8 : Hid (Below w.heap.size w w8) := HBA.out.grown hgrow HBA.out.size (fun k hk => (World.ownsRow.lt HOA.out k hk).1)
              obtain ⟨a8, c8, rfl⟩ := HO8.sl
              have HO9 : Hid (IZ w8 w.heap.size (.slice a8 (Q ++ [((i : Nat) : Int)]).length c8) (Q ++ [((i : Nat) : Int)])) := HO8
              have HN9 : Hid (tl x at' (i + 1) = Q ++ [((i : Nat) : Int)]) := by show _ = _; rw [HN.out, if_pos HT9.out]
              have hle9 : (Q ++ [((i : Nat) : Int)]).length = q + 1 := by rw [List.length_append, HQ.out]; rfl
              rw [hle9] at HO9
              rw [hle9]
              clear hown' hgrow HO8
              go_wp2
              go_roundw
              case rel => exact ⟨i + 1, a8, c8, hlt, by go_num, by rw [HN9.out, hle9], by rw [HN9.out, hle9]; exact HO9, HB8⟩
              case measure => simp [intOf]; omega
            · have HT9 : Hid (tb x at' (i) = false) := by show _ = _; rw [htb]; simp_all
              have HN9 : Hid (tl x at' (i + 1) = Q) := by show _ = _; rw [HN.out, if_neg (by rw [HT9.out]; simp), List.append_nil]
              go_wp2
              go_roundw
              case rel => exact ⟨i + 1, oa, oc, hlt, by go_num, by rw [HN9.out, HQ.out], by rw [HN9.out, HQ.out]; exact HOw5, HBw5⟩
              case measure => simp [intOf]; omega
      · have hie : i = n := by omega
        subst hie
        obtain ⟨Q, hQ⟩ : ∃ Q, tl x at' i = Q := ⟨_, rfl⟩
        rw [hQ] at HO
        rw [hQ]
        obtain ⟨q, hq⟩ : ∃ q, Q.length = q := ⟨_, rfl⟩
        rw [hq] at HO
        rw [hq]
        have HQ9 : Hid (tl x at' i = Q) := hQ
        clear hQ hq
        go_wp2
        go_ret
        exact ⟨HB.out, _, rfl, by rw [HQ9.out]; exact HO.out⟩
  · have e : tgt l z = [] := by unfold tgt; rw [dif_neg hz]
    rw [e]
    clear h4 h5 H5
    go_enter Try.func17, Try.ntmps17
    go_wp2
    all_goals first | (go_ret; exact ⟨Below.refl _ _, _, rfl, ⟨rfl, Or.inl ⟨rfl, rfl⟩⟩⟩) | (exfalso; rename_i h; omega)
end Go.Proofs.Ythcidcfaodjbjaa
