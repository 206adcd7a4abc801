/- What Targets answers, given what Sort and Compact do to at most two numbers. -/
import Derived.Test.YthcidcfaodjbjaaTgL
namespace Go.Proofs.Ythcidcfaodjbjaa
open Go.RowKit
set_option linter.unusedVariables false
set_option linter.unusedSimpArgs false

def srt : List Int → List Int
  | [a, b] => if a ≤ b then [a, b] else [b, a]
  | l => l
def cpt : List Int → List Int
  | [a, b] => if a = b then [a] else [a, b]
  | l => l
def SoC : Prop := ∀ (Q : List Int) (q : Nat) (a : Option Addr) (c base : Nat) (w : World), Q.length = q → q ≤ 2 → base ≤ w.heap.size → IZ w base (.slice a q c) Q → Calls Try.prog 35 #[.slice a q c] w fun e w' => e = .returned (.tuple #[]) ∧ IZ w' base (.slice a q c) (srt Q) ∧ Below base w w'
def CoC : Prop := ∀ (Q : List Int) (q : Nat) (a : Option Addr) (c base : Nat) (w : World), Q.length = q → q ≤ 2 → base ≤ w.heap.size → IZ w base (.slice a q c) Q → Calls Try.prog 36 #[.slice a q c] w fun e w' => ∃ v', e = .returned v' ∧ IZ w' base v' (cpt Q) ∧ Below base w w'
theorem srt_two (a b : Int) : srt [a, b] = if a ≤ b then [a, b] else [b, a] := rfl
theorem cpt_two (a b : Int) : cpt [a, b] = if a = b then [a] else [a, b] := rfl
theorem IZ.base {w : World} {b b' : Nat} {v : Value} {l : List Int} (h : IZ w b' v l) (hb : b ≤ b') : IZ w b v l := by
  obtain ⟨h1, h2⟩ := h
  refine ⟨h1, ?_⟩
  rcases h2 with h2 | ⟨g, cap, cur, e1, e2, e3⟩
  · exact Or.inl h2
  · exact Or.inr ⟨g, cap, cur, e1, Nat.le_trans hb e2, e3⟩
theorem srt_len (Q : List Int) : (srt Q).length = Q.length := by
  unfold srt
  split
  · split <;> rfl
  · rfl

theorem tl_none (x : In) (at' : Nat) : ∀ n, (∀ i, i < n → tb x at' i = false) → tl x at' n = []
  | 0, _ => rfl
  | n + 1, h => by
    unfold tl
    rw [tl_none x at' n (fun i hi => h i (by omega)), h n (by omega)]
    rfl
theorem tl_one (x : In) (at' a : Nat) (ha : tb x at' a = true) : ∀ n, a < n → (∀ i, i < n → i ≠ a → tb x at' i = false) → tl x at' n = [(a : Int)]
  | 0, h, _ => by omega
  | n + 1, h, hf => by
    unfold tl
    by_cases e : a = n
    · subst e
      rw [tl_none x at' a (fun i hi => hf i (by omega) (by omega)), ha]
      rfl
    · rw [tl_one x at' a ha n (by omega) (fun i hi => hf i (by omega)), hf n (by omega) (fun h => e h.symm)]
      rfl
theorem tl_two (x : In) (at' a b : Nat) (hab : a < b) (ha : tb x at' a = true) (hb : tb x at' b = true) : ∀ n, b < n → (∀ i, i < n → i ≠ a → i ≠ b → tb x at' i = false) → tl x at' n = [(a : Int), (b : Int)]
  | 0, h, _ => by omega
  | n + 1, h, hf => by
    unfold tl
    by_cases e : b = n
    · subst e
      rw [tl_one x at' a ha b hab (fun i hi h1 => hf i (by omega) h1 (by omega)), hb]
      rfl
    · rw [tl_two x at' a b hab ha hb n (by omega) (fun i hi => hf i (by omega)), hf n (by omega) (by omega) (fun h => e h.symm)]
      rfl
theorem tb_iff (x : In) (at' i : Nat) : tb x at' i = true ↔ (i = at' + 1 ∧ fallsB x = true) ∨ (hasT x.kind = true ∧ x.k = (i : Int)) := by
  unfold tb
  simp
theorem tb_not (x : In) (at' i : Nat) (h : ¬ ((i = at' + 1 ∧ fallsB x = true) ∨ (hasT x.kind = true ∧ x.k = (i : Int)))) : tb x at' i = false := by
  rw [← Bool.not_eq_true, tb_iff]
  exact h
theorem cs_00 (x : In) (at' n : Nat) (h1 : ¬ (fallsB x = true ∧ at' + 1 < n)) (h2 : ¬ (hasT x.kind = true ∧ 0 ≤ x.k ∧ x.k < (n : Int))) : tl x at' n = cpt (srt []) := by
  rw [tl_none x at' n (fun i hi => tb_not x at' i (by
    rintro (⟨rfl, h⟩ | ⟨h, h'⟩)
    · exact h1 ⟨h, hi⟩
    · exact h2 ⟨h, by omega, by omega⟩))]
  rfl
theorem cs_10 (x : In) (at' n : Nat) (h1 : fallsB x = true ∧ at' + 1 < n) (h2 : ¬ (hasT x.kind = true ∧ 0 ≤ x.k ∧ x.k < (n : Int))) : tl x at' n = cpt (srt [(at' : Int) + 1]) := by
  rw [tl_one x at' (at' + 1) ((tb_iff x at' _).2 (Or.inl ⟨rfl, h1.1⟩)) n h1.2 (fun i hi hne => tb_not x at' i (by
    rintro (⟨h, _⟩ | ⟨h, h'⟩)
    · exact hne h
    · exact h2 ⟨h, by omega, by omega⟩))]
  rfl
theorem cs_01 (x : In) (at' n : Nat) (h1 : ¬ (fallsB x = true ∧ at' + 1 < n)) (h2 : hasT x.kind = true ∧ 0 ≤ x.k ∧ x.k < (n : Int)) : tl x at' n = cpt (srt [x.k]) := by
  obtain ⟨k, hk⟩ : ∃ k : Nat, x.k = (k : Int) := ⟨x.k.toNat, by omega⟩
  rw [tl_one x at' k ((tb_iff x at' _).2 (Or.inr ⟨h2.1, hk⟩)) n (by omega) (fun i hi hne => tb_not x at' i (by
    rintro (⟨rfl, h⟩ | ⟨h, h'⟩)
    · exact h1 ⟨h, hi⟩
    · omega)), hk]
  rfl
theorem cs_11 (x : In) (at' n : Nat) (h1 : fallsB x = true ∧ at' + 1 < n) (h2 : hasT x.kind = true ∧ 0 ≤ x.k ∧ x.k < (n : Int)) : tl x at' n = cpt (srt [(at' : Int) + 1, x.k]) := by
  obtain ⟨k, hk⟩ : ∃ k : Nat, x.k = (k : Int) := ⟨x.k.toNat, by omega⟩
  have ha := (tb_iff x at' (at' + 1)).2 (Or.inl ⟨rfl, h1.1⟩)
  have hb := (tb_iff x at' k).2 (Or.inr ⟨h2.1, hk⟩)
  rw [hk, show (at' : Int) + 1 = ((at' + 1 : Nat) : Int) from rfl]
  obtain h | h | h : at' + 1 < k ∨ at' + 1 = k ∨ k < at' + 1 := by omega
  · rw [tl_two x at' (at' + 1) k h ha hb n (by omega) (fun i hi n1 n2 => tb_not x at' i (by rintro (⟨h, _⟩ | ⟨_, h⟩) <;> omega))]
    rw [srt_two, if_pos (by omega), cpt_two, if_neg (by omega)]
  · subst h
    rw [tl_one x at' (at' + 1) ha n h1.2 (fun i hi n1 => tb_not x at' i (by rintro (⟨h, _⟩ | ⟨_, h⟩) <;> omega)), srt_two, if_pos (by omega), cpt_two, if_pos rfl]
  · rw [tl_two x at' k (at' + 1) h hb ha n (by omega) (fun i hi n1 n2 => tb_not x at' i (by rintro (⟨h, _⟩ | ⟨_, h⟩) <;> omega))]
    rw [srt_two, if_neg (by omega), cpt_two, if_neg (by omega)]

set_option maxRecDepth 100000 in
set_option maxHeartbeats 1000000 in
theorem targets_any (SO : SoC) (CO : CoC) : TgC := by
  intro l z v w hz64 hv hl
  obtain ⟨ad, cap, b, o, rfl, h2, h3, h4, h5⟩ := hv
  have HSO : Hid SoC := SO
  have HCO : Hid CoC := CO
  have H5 : Hid (∀ i (h : i < l.length), IAt w b (o + i * 6) l[i]) := h5
  obtain ⟨i0, hi, hz0, hz1, hz2⟩ := info_parts info3
  unfold maxLen at h3
  clear SO CO
  by_cases hz : 0 ≤ z ∧ z < (l.length : Int)
  · have e : tgt l z = tl (l[z.toNat]'(by omega)) z.toNat l.length := by unfold tgt; rw [dif_pos hz]
    rw [e]
    have hwb : withinB z (l.length : Int) = true := by unfold withinB; simp; omega
    obtain ⟨at', rfl⟩ : ∃ a : Nat, z = (a : Int) := ⟨z.toNat, by omega⟩
    have hat : at' < l.length := by omega
    have hx0 := H5.out at' hat
    rw [h4 (by omega)]
    obtain ⟨x, hxe⟩ : ∃ x, l[at'] = x := ⟨_, rfl⟩
    have e2 : l[((at' : Int)).toNat]'(by omega) = x := by rw [← hxe]; congr 1
    rw [e2, Int.toNat_natCast]
    rw [hxe] at hx0
    have HX : Hid (IAt w b (o + at' * 6) x) := hx0
    obtain ⟨n, hn⟩ : ∃ n, l.length = n := ⟨_, rfl⟩
    rw [hn] at h2 hl hat hwb
    rw [hn]
    have hz' : (at' : Int) < (n : Int) := by omega
    have HW : Hid (∀ w, Calls Try.prog 33 #[.int .i64 (at' : Int), .int .i64 (n : Int)] w fun e w' => e = .returned (.bool true) ∧ w' = w) := fun w => by rw [← hwb]; exact within_any _ _ w
    clear h4 h5 hz e e2 hxe hn hwb H5
    obtain ⟨ht, hht⟩ : ∃ q, hasT x.kind = q := ⟨_, rfl⟩
    obtain ⟨fb, hfb⟩ : ∃ q, fallsB x = q := ⟨_, rfl⟩
    obtain ⟨wb, hwb⟩ : ∃ q, withinB x.k (n : Int) = q := ⟨_, rfl⟩
    have HHT : Hid (hasT x.kind = ht) := hht
    have HFB : Hid (fallsB x = fb) := hfb
    have HWB : Hid (withinB x.k (n : Int) = wb) := hwb
    have HF : Hid (∀ w, Calls Try.prog 11 #[.agg #[.int .i64 x.kind, .int .i64 x.op, .int .i64 x.a, .int .i64 x.b, .int .i64 x.c, .int .i64 x.k]] w fun e w' => e = .returned (.bool fb) ∧ Below w.heap.size w w') := fun w => by rw [← hfb]; exact falls_any x w
    obtain ⟨s, hs⟩ : ∃ s, (lets x.kind).getD ⟨#[]⟩ = s := ⟨_, rfl⟩
    obtain ⟨s', hs'⟩ : ∃ s', (lets x.kind).isSome = s' := ⟨_, rfl⟩
    have HPa : Hid (∀ w, Calls Try.prog 24 #[.int .i64 x.kind] w fun e w' => e = .returned (.tuple #[.string s, .bool s']) ∧ w' = w) := fun w => by rw [← hs, ← hs']; exact partsOf_any x.kind w
    have HH : Hid (∀ w, Calls Try.prog 34 #[.string s] w fun e w' => e = .returned (.bool ht) ∧ w' = w) := fun w => by rw [← hht, ← hasT_lets, hs]; exact hasTarget_any s w
    have HK : Hid (∀ w, Calls Try.prog 33 #[.int .i64 x.k, .int .i64 (n : Int)] w fun e w' => e = .returned (.bool wb) ∧ w' = w) := fun w => by rw [← hwb]; exact within_any _ _ w
    clear hht hfb hwb hs hs'
    obtain ⟨x0, x1, x2, x3, x4, x5⟩ := hx0
    go_enter Try.func16, Try.ntmps16
    go_wp2_with fail
    refine (HW.out _).mono ?_
    rintro e w3 ⟨rfl, hw3⟩
    rw [hw3]
    clear hw3 w3
    go_wp2_with fail
    obtain ⟨wx, hwx⟩ : ∃ wx, w.alloc (.cells #[.int .i64 x.kind, .int .i64 x.op, .int .i64 x.a, .int .i64 x.b, .int .i64 x.c, .int .i64 x.k] 25) = wx := ⟨_, rfl⟩
    have HBX : Hid (Below w.heap.size w wx) := by rw [← hwx]; exact (Below.refl _ _).alloc (Nat.le_refl _) _
    have HSZ : Hid (wx.heap.size = w.heap.size + 1) := by rw [← hwx]; show _ = _; simp
    have HK0 : Hid (wx.cell? ⟨w.heap.size, 0, none⟩ = some (.int .i64 x.kind)) := by rw [← hwx]; show _ = _; simp
    have HK5 : Hid (wx.cell? ⟨w.heap.size, 5, none⟩ = some (.int .i64 x.k)) := by rw [← hwx]; show _ = _; simp
    have HKK : Hid (∀ w', Below wx.heap.size wx w' → w'.cell? ⟨w.heap.size, 0, none⟩ = some (.int .i64 x.kind) ∧ w'.cell? ⟨w.heap.size, 5, none⟩ = some (.int .i64 x.k)) := fun w' hb => ⟨(World.cell?_of_block (w := wx) (a := ⟨w.heap.size, 0, none⟩) (hb.block w.heap.size (by have := HSZ.out; omega))).trans HK0.out, (World.cell?_of_block (w := wx) (a := ⟨w.heap.size, 5, none⟩) (hb.block w.heap.size (by have := HSZ.out; omega))).trans HK5.out⟩
    rw [hwx]
    clear hwx x0 x1 x2 x3 x4 x5
    refine (HF.out _).mono ?_
    rintro e w4 ⟨rfl, b4⟩
    have HB4 : Hid (Below wx.heap.size wx w4) := b4
    clear b4
    obtain ⟨k0, k5⟩ := HKK.out _ HB4.out
    have HO4 : Hid (IZ w4 wx.heap.size (.slice none 0 0) []) := ⟨rfl, Or.inl ⟨rfl, rfl⟩⟩
    cases fb with
    | false =>
      go_wp2_with fail
      refine (HPa.out _).mono ?_
      rintro e w6 ⟨rfl, hw6⟩
      rw [hw6]
      clear hw6 w6
      go_wp2_with fail
      refine (HH.out _).mono ?_
      rintro e w6 ⟨rfl, hw6⟩
      rw [hw6]
      clear hw6 w6
      cases ht with
      | false =>
        go_wp2_with fail
        refine (HSO.out [] 0 none 0 wx.heap.size _ rfl (by decide) HB4.out.size HO4.out).mono ?_
        rintro e ws ⟨rfl, hso, hsb⟩
        have HSB : Hid (Below wx.heap.size wx ws) := HB4.out.trans hsb
        have HS1 : Hid (IZ ws wx.heap.size (.slice none 0 0) (srt [])) := hso
        clear hso hsb
        go_wp2_with fail
        refine (HCO.out (srt []) 0 none 0 wx.heap.size _ (srt_len _) (by decide) HSB.out.size HS1.out).mono ?_
        rintro e wt ⟨v', rfl, hco, hcb⟩
        have HCB : Hid (Below wx.heap.size wx wt) := HSB.out.trans hcb
        have HC1 : Hid (IZ wt wx.heap.size v' (cpt (srt []))) := hco
        clear hco hcb
        go_wp2
        go_ret
        exact ⟨HBX.out.trans (HCB.out.mono HBX.out.size), _, rfl, by rw [cs_00 x at' n (by rw [HFB.out]; simp) (by rw [HHT.out]; simp)]; exact HC1.out.base HBX.out.size⟩

      | true =>
        go_wp2_with fail
        refine (HK.out _).mono ?_
        rintro e w6 ⟨rfl, hw6⟩
        rw [hw6]
        clear hw6 w6
        cases wb with
        | false =>
          go_wp2_with fail
          refine (HSO.out [] 0 none 0 wx.heap.size _ rfl (by decide) HB4.out.size HO4.out).mono ?_
          rintro e ws ⟨rfl, hso, hsb⟩
          have HSB : Hid (Below wx.heap.size wx ws) := HB4.out.trans hsb
          have HS1 : Hid (IZ ws wx.heap.size (.slice none 0 0) (srt [])) := hso
          clear hso hsb
          go_wp2_with fail
          refine (HCO.out (srt []) 0 none 0 wx.heap.size _ (srt_len _) (by decide) HSB.out.size HS1.out).mono ?_
          rintro e wt ⟨v', rfl, hco, hcb⟩
          have HCB : Hid (Below wx.heap.size wx wt) := HSB.out.trans hcb
          have HC1 : Hid (IZ wt wx.heap.size v' (cpt (srt []))) := hco
          clear hco hcb
          go_wp2
          go_ret
          exact ⟨HBX.out.trans (HCB.out.mono HBX.out.size), _, rfl, by rw [cs_00 x at' n (by rw [HFB.out]; simp) (by have h9 := HWB.out; unfold withinB at h9; rintro ⟨_, h⟩; simp [h] at h9)]; exact HC1.out.base HBX.out.size⟩

        | true =>
          have hk9 : 0 ≤ x.k ∧ x.k < (n : Int) := by have h9 := HWB.out; unfold withinB at h9; simpa using h9
          obtain ⟨hk1, hk2⟩ := hk9
          have HOA8 : Hid ((w4.alloc (.cells #[.int .i64 (x.k)] 3)).ownsRow wx.heap.size 3 1 (.slice none 0 0) 0 (zc [])) := HO4.out.below ((Below.refl w4.heap.size w4).alloc (Nat.le_refl _) (.cells #[.int .i64 (x.k)] 3))
          have HBA8 : Hid (Below wx.heap.size wx (w4.alloc (.cells #[.int .i64 (x.k)] 3))) := HB4.out.alloc HB4.out.size _
          have hsz8 : wx.heap.size ≤ w4.heap.size := HB4.out.size
          go_wp2_with (at_builtin; refine wpList_append_own _ rfl _ _ 38 rfl wx.heap.size 3 i0 (.int .i64 0) 1 8 Try.underlying38 hi hz0 hz1 hz2 rfl (by decide) _ _ _ rfl HOA8.out ⟨w4.heap.size, 0, none⟩ 1 1 (zc [x.k]) rfl rfl ?c1 (zc_one _) ?c3 ?c4 ?c5 ?_)
          case c1 =>
            intro j u hj
            match j, hj with
            | 0, hj => simp [zc] at hj; subst hj; simp [Addr.add]
          case c3 => unfold maxLen; omega
          case c4 => omega
          case c5 => simp; omega
          intro v8 w8 hown8 hgrow8 _
          have HO8' : IZ w8 wx.heap.size v8 [x.k] := hown8
          have HB8 : Hid (Below wx.heap.size wx w8) := HBA8.out.grown hgrow8 HBA8.out.size (fun k hk => (World.ownsRow.lt HOA8.out k hk).1)
          obtain ⟨a8, c8, rfl⟩ := HO8'.sl
          have HO8 : Hid (IZ w8 wx.heap.size (.slice a8 1 c8) [x.k]) := HO8'
          clear hown8 hgrow8 HO8' k0 k5
          obtain ⟨k0, k5⟩ := HKK.out _ HB8.out
          have hlen8 : ([x.k] : List Int).length = 1 := rfl
          rw [hlen8]
          clear hlen8

          go_wp2_with fail
          refine (HSO.out [x.k] 1 a8 c8 wx.heap.size _ rfl (by decide) HB8.out.size HO8.out).mono ?_
          rintro e ws ⟨rfl, hso, hsb⟩
          have HSB : Hid (Below wx.heap.size wx ws) := HB8.out.trans hsb
          have HS1 : Hid (IZ ws wx.heap.size (.slice a8 1 c8) (srt [x.k])) := hso
          clear hso hsb
          go_wp2_with fail
          refine (HCO.out (srt [x.k]) 1 a8 c8 wx.heap.size _ (srt_len _) (by decide) HSB.out.size HS1.out).mono ?_
          rintro e wt ⟨v', rfl, hco, hcb⟩
          have HCB : Hid (Below wx.heap.size wx wt) := HSB.out.trans hcb
          have HC1 : Hid (IZ wt wx.heap.size v' (cpt (srt [x.k]))) := hco
          clear hco hcb
          go_wp2
          go_ret
          exact ⟨HBX.out.trans (HCB.out.mono HBX.out.size), _, rfl, by rw [cs_01 x at' n (by rw [HFB.out]; simp) ⟨HHT.out, hk1, hk2⟩]; exact HC1.out.base HBX.out.size⟩

    | true =>
      by_cases h1 : at' + 1 < n
      · have HOA7 : Hid ((w4.alloc (.cells #[.int .i64 ((at' : Int) + 1)] 3)).ownsRow wx.heap.size 3 1 (.slice none 0 0) 0 (zc [])) := HO4.out.below ((Below.refl w4.heap.size w4).alloc (Nat.le_refl _) (.cells #[.int .i64 ((at' : Int) + 1)] 3))
        have HBA7 : Hid (Below wx.heap.size wx (w4.alloc (.cells #[.int .i64 ((at' : Int) + 1)] 3))) := HB4.out.alloc HB4.out.size _
        have hsz7 : wx.heap.size ≤ w4.heap.size := HB4.out.size
        go_wp2_with (at_builtin; refine wpList_append_own _ rfl _ _ 38 rfl wx.heap.size 3 i0 (.int .i64 0) 1 8 Try.underlying38 hi hz0 hz1 hz2 rfl (by decide) _ _ _ rfl HOA7.out ⟨w4.heap.size, 0, none⟩ 1 1 (zc [(at' : Int) + 1]) rfl rfl ?c1 (zc_one _) ?c3 ?c4 ?c5 ?_)
        case c1 =>
          intro j u hj
          match j, hj with
          | 0, hj => simp [zc] at hj; subst hj; simp [Addr.add]
        case c3 => unfold maxLen; omega
        case c4 => omega
        case c5 => simp; omega
        intro v7 w7 hown7 hgrow7 _
        have HO7' : IZ w7 wx.heap.size v7 [(at' : Int) + 1] := hown7
        have HB7 : Hid (Below wx.heap.size wx w7) := HBA7.out.grown hgrow7 HBA7.out.size (fun k hk => (World.ownsRow.lt HOA7.out k hk).1)
        obtain ⟨a7, c7, rfl⟩ := HO7'.sl
        have HO7 : Hid (IZ w7 wx.heap.size (.slice a7 1 c7) [(at' : Int) + 1]) := HO7'
        clear hown7 hgrow7 HO7' k0 k5
        obtain ⟨k0, k5⟩ := HKK.out _ HB7.out
        have hlen7 : ([(at' : Int) + 1] : List Int).length = 1 := rfl
        rw [hlen7]
        clear hlen7

        go_wp2_with fail
        refine (HPa.out _).mono ?_
        rintro e w6 ⟨rfl, hw6⟩
        rw [hw6]
        clear hw6 w6
        go_wp2_with fail
        refine (HH.out _).mono ?_
        rintro e w6 ⟨rfl, hw6⟩
        rw [hw6]
        clear hw6 w6
        cases ht with
        | false =>
          go_wp2_with fail
          refine (HSO.out [(at' : Int) + 1] 1 a7 c7 wx.heap.size _ rfl (by decide) HB7.out.size HO7.out).mono ?_
          rintro e ws ⟨rfl, hso, hsb⟩
          have HSB : Hid (Below wx.heap.size wx ws) := HB7.out.trans hsb
          have HS1 : Hid (IZ ws wx.heap.size (.slice a7 1 c7) (srt [(at' : Int) + 1])) := hso
          clear hso hsb
          go_wp2_with fail
          refine (HCO.out (srt [(at' : Int) + 1]) 1 a7 c7 wx.heap.size _ (srt_len _) (by decide) HSB.out.size HS1.out).mono ?_
          rintro e wt ⟨v', rfl, hco, hcb⟩
          have HCB : Hid (Below wx.heap.size wx wt) := HSB.out.trans hcb
          have HC1 : Hid (IZ wt wx.heap.size v' (cpt (srt [(at' : Int) + 1]))) := hco
          clear hco hcb
          go_wp2
          go_ret
          exact ⟨HBX.out.trans (HCB.out.mono HBX.out.size), _, rfl, by rw [cs_10 x at' n (⟨HFB.out, h1⟩) (by rw [HHT.out]; simp)]; exact HC1.out.base HBX.out.size⟩

        | true =>
          go_wp2_with fail
          refine (HK.out _).mono ?_
          rintro e w6 ⟨rfl, hw6⟩
          rw [hw6]
          clear hw6 w6
          cases wb with
          | false =>
            go_wp2_with fail
            refine (HSO.out [(at' : Int) + 1] 1 a7 c7 wx.heap.size _ rfl (by decide) HB7.out.size HO7.out).mono ?_
            rintro e ws ⟨rfl, hso, hsb⟩
            have HSB : Hid (Below wx.heap.size wx ws) := HB7.out.trans hsb
            have HS1 : Hid (IZ ws wx.heap.size (.slice a7 1 c7) (srt [(at' : Int) + 1])) := hso
            clear hso hsb
            go_wp2_with fail
            refine (HCO.out (srt [(at' : Int) + 1]) 1 a7 c7 wx.heap.size _ (srt_len _) (by decide) HSB.out.size HS1.out).mono ?_
            rintro e wt ⟨v', rfl, hco, hcb⟩
            have HCB : Hid (Below wx.heap.size wx wt) := HSB.out.trans hcb
            have HC1 : Hid (IZ wt wx.heap.size v' (cpt (srt [(at' : Int) + 1]))) := hco
            clear hco hcb
            go_wp2
            go_ret
            exact ⟨HBX.out.trans (HCB.out.mono HBX.out.size), _, rfl, by rw [cs_10 x at' n (⟨HFB.out, h1⟩) (by have h9 := HWB.out; unfold withinB at h9; rintro ⟨_, h⟩; simp [h] at h9)]; exact HC1.out.base HBX.out.size⟩

          | true =>
            have hk9 : 0 ≤ x.k ∧ x.k < (n : Int) := by have h9 := HWB.out; unfold withinB at h9; simpa using h9
            obtain ⟨hk1, hk2⟩ := hk9
            have HOA8 : Hid ((w7.alloc (.cells #[.int .i64 (x.k)] 3)).ownsRow wx.heap.size 3 1 (.slice a7 1 c7) 1 (zc [(at' : Int) + 1])) := HO7.out.below ((Below.refl w7.heap.size w7).alloc (Nat.le_refl _) (.cells #[.int .i64 (x.k)] 3))
            have HBA8 : Hid (Below wx.heap.size wx (w7.alloc (.cells #[.int .i64 (x.k)] 3))) := HB7.out.alloc HB7.out.size _
            have hsz8 : wx.heap.size ≤ w7.heap.size := HB7.out.size
            go_wp2_with (at_builtin; refine wpList_append_own _ rfl _ _ 38 rfl wx.heap.size 3 i0 (.int .i64 0) 1 8 Try.underlying38 hi hz0 hz1 hz2 rfl (by decide) _ _ _ rfl HOA8.out ⟨w7.heap.size, 0, none⟩ 1 1 (zc [x.k]) rfl rfl ?c1 (zc_one _) ?c3 ?c4 ?c5 ?_)
            case c1 =>
              intro j u hj
              match j, hj with
              | 0, hj => simp [zc] at hj; subst hj; simp [Addr.add]
            case c3 => unfold maxLen; omega
            case c4 => omega
            case c5 => simp; omega
            intro v8 w8 hown8 hgrow8 _
            have HO8' : IZ w8 wx.heap.size v8 [(at' : Int) + 1, x.k] := hown8
            have HB8 : Hid (Below wx.heap.size wx w8) := HBA8.out.grown hgrow8 HBA8.out.size (fun k hk => (World.ownsRow.lt HOA8.out k hk).1)
            obtain ⟨a8, c8, rfl⟩ := HO8'.sl
            have HO8 : Hid (IZ w8 wx.heap.size (.slice a8 2 c8) [(at' : Int) + 1, x.k]) := HO8'
            clear hown8 hgrow8 HO8' k0 k5
            obtain ⟨k0, k5⟩ := HKK.out _ HB8.out
            have hlen8 : ([(at' : Int) + 1, x.k] : List Int).length = 2 := rfl
            rw [hlen8]
            clear hlen8

            go_wp2_with fail
            refine (HSO.out [(at' : Int) + 1, x.k] 2 a8 c8 wx.heap.size _ rfl (by decide) HB8.out.size HO8.out).mono ?_
            rintro e ws ⟨rfl, hso, hsb⟩
            have HSB : Hid (Below wx.heap.size wx ws) := HB8.out.trans hsb
            have HS1 : Hid (IZ ws wx.heap.size (.slice a8 2 c8) (srt [(at' : Int) + 1, x.k])) := hso
            clear hso hsb
            go_wp2_with fail
            refine (HCO.out (srt [(at' : Int) + 1, x.k]) 2 a8 c8 wx.heap.size _ (srt_len _) (by decide) HSB.out.size HS1.out).mono ?_
            rintro e wt ⟨v', rfl, hco, hcb⟩
            have HCB : Hid (Below wx.heap.size wx wt) := HSB.out.trans hcb
            have HC1 : Hid (IZ wt wx.heap.size v' (cpt (srt [(at' : Int) + 1, x.k]))) := hco
            clear hco hcb
            go_wp2
            go_ret
            exact ⟨HBX.out.trans (HCB.out.mono HBX.out.size), _, rfl, by rw [cs_11 x at' n (⟨HFB.out, h1⟩) ⟨HHT.out, hk1, hk2⟩]; exact HC1.out.base HBX.out.size⟩

      · go_wp2_with fail
        refine (HPa.out _).mono ?_
        rintro e w6 ⟨rfl, hw6⟩
        rw [hw6]
        clear hw6 w6
        go_wp2_with fail
        refine (HH.out _).mono ?_
        rintro e w6 ⟨rfl, hw6⟩
        rw [hw6]
        clear hw6 w6
        cases ht with
        | false =>
          go_wp2_with fail
          refine (HSO.out [] 0 none 0 wx.heap.size _ rfl (by decide) HB4.out.size HO4.out).mono ?_
          rintro e ws ⟨rfl, hso, hsb⟩
          have HSB : Hid (Below wx.heap.size wx ws) := HB4.out.trans hsb
          have HS1 : Hid (IZ ws wx.heap.size (.slice none 0 0) (srt [])) := hso
          clear hso hsb
          go_wp2_with fail
          refine (HCO.out (srt []) 0 none 0 wx.heap.size _ (srt_len _) (by decide) HSB.out.size HS1.out).mono ?_
          rintro e wt ⟨v', rfl, hco, hcb⟩
          have HCB : Hid (Below wx.heap.size wx wt) := HSB.out.trans hcb
          have HC1 : Hid (IZ wt wx.heap.size v' (cpt (srt []))) := hco
          clear hco hcb
          go_wp2
          go_ret
          exact ⟨HBX.out.trans (HCB.out.mono HBX.out.size), _, rfl, by rw [cs_00 x at' n (fun h => h1 h.2) (by rw [HHT.out]; simp)]; exact HC1.out.base HBX.out.size⟩

        | true =>
          go_wp2_with fail
          refine (HK.out _).mono ?_
          rintro e w6 ⟨rfl, hw6⟩
          rw [hw6]
          clear hw6 w6
          cases wb with
          | false =>
            go_wp2_with fail
            refine (HSO.out [] 0 none 0 wx.heap.size _ rfl (by decide) HB4.out.size HO4.out).mono ?_
            rintro e ws ⟨rfl, hso, hsb⟩
            have HSB : Hid (Below wx.heap.size wx ws) := HB4.out.trans hsb
            have HS1 : Hid (IZ ws wx.heap.size (.slice none 0 0) (srt [])) := hso
            clear hso hsb
            go_wp2_with fail
            refine (HCO.out (srt []) 0 none 0 wx.heap.size _ (srt_len _) (by decide) HSB.out.size HS1.out).mono ?_
            rintro e wt ⟨v', rfl, hco, hcb⟩
            have HCB : Hid (Below wx.heap.size wx wt) := HSB.out.trans hcb
            have HC1 : Hid (IZ wt wx.heap.size v' (cpt (srt []))) := hco
            clear hco hcb
            go_wp2
            go_ret
            exact ⟨HBX.out.trans (HCB.out.mono HBX.out.size), _, rfl, by rw [cs_00 x at' n (fun h => h1 h.2) (by have h9 := HWB.out; unfold withinB at h9; rintro ⟨_, h⟩; simp [h] at h9)]; exact HC1.out.base HBX.out.size⟩

          | true =>
            have hk9 : 0 ≤ x.k ∧ x.k < (n : Int) := by have h9 := HWB.out; unfold withinB at h9; simpa using h9
            obtain ⟨hk1, hk2⟩ := hk9
            have HOA8 : Hid ((w4.alloc (.cells #[.int .i64 (x.k)] 3)).ownsRow wx.heap.size 3 1 (.slice none 0 0) 0 (zc [])) := HO4.out.below ((Below.refl w4.heap.size w4).alloc (Nat.le_refl _) (.cells #[.int .i64 (x.k)] 3))
            have HBA8 : Hid (Below wx.heap.size wx (w4.alloc (.cells #[.int .i64 (x.k)] 3))) := HB4.out.alloc HB4.out.size _
            have hsz8 : wx.heap.size ≤ w4.heap.size := HB4.out.size
            go_wp2_with (at_builtin; refine wpList_append_own _ rfl _ _ 38 rfl wx.heap.size 3 i0 (.int .i64 0) 1 8 Try.underlying38 hi hz0 hz1 hz2 rfl (by decide) _ _ _ rfl HOA8.out ⟨w4.heap.size, 0, none⟩ 1 1 (zc [x.k]) rfl rfl ?c1 (zc_one _) ?c3 ?c4 ?c5 ?_)
            case c1 =>
              intro j u hj
              match j, hj with
              | 0, hj => simp [zc] at hj; subst hj; simp [Addr.add]
            case c3 => unfold maxLen; omega
            case c4 => omega
            case c5 => simp; omega
            intro v8 w8 hown8 hgrow8 _
            have HO8' : IZ w8 wx.heap.size v8 [x.k] := hown8
            have HB8 : Hid (Below wx.heap.size wx w8) := HBA8.out.grown hgrow8 HBA8.out.size (fun k hk => (World.ownsRow.lt HOA8.out k hk).1)
            obtain ⟨a8, c8, rfl⟩ := HO8'.sl
            have HO8 : Hid (IZ w8 wx.heap.size (.slice a8 1 c8) [x.k]) := HO8'
            clear hown8 hgrow8 HO8' k0 k5
            obtain ⟨k0, k5⟩ := HKK.out _ HB8.out
            have hlen8 : ([x.k] : List Int).length = 1 := rfl
            rw [hlen8]
            clear hlen8

            go_wp2_with fail
            refine (HSO.out [x.k] 1 a8 c8 wx.heap.size _ rfl (by decide) HB8.out.size HO8.out).mono ?_
            rintro e ws ⟨rfl, hso, hsb⟩
            have HSB : Hid (Below wx.heap.size wx ws) := HB8.out.trans hsb
            have HS1 : Hid (IZ ws wx.heap.size (.slice a8 1 c8) (srt [x.k])) := hso
            clear hso hsb
            go_wp2_with fail
            refine (HCO.out (srt [x.k]) 1 a8 c8 wx.heap.size _ (srt_len _) (by decide) HSB.out.size HS1.out).mono ?_
            rintro e wt ⟨v', rfl, hco, hcb⟩
            have HCB : Hid (Below wx.heap.size wx wt) := HSB.out.trans hcb
            have HC1 : Hid (IZ wt wx.heap.size v' (cpt (srt [x.k]))) := hco
            clear hco hcb
            go_wp2
            go_ret
            exact ⟨HBX.out.trans (HCB.out.mono HBX.out.size), _, rfl, by rw [cs_01 x at' n (fun h => h1 h.2) ⟨HHT.out, hk1, hk2⟩]; exact HC1.out.base HBX.out.size⟩

  · have e : tgt l z = [] := by unfold tgt; rw [dif_neg hz]
    rw [e]
    have hwb : withinB z (l.length : Int) = false := by unfold withinB; simp; omega
    have HW : Hid (∀ w, Calls Try.prog 33 #[.int .i64 z, .int .i64 (l.length : Int)] w fun e w' => e = .returned (.bool false) ∧ w' = w) := fun w => by rw [← hwb]; exact within_any _ _ w
    clear h4 h5 H5 hwb
    obtain ⟨hr1, hr2⟩ := hz64
    go_enter Try.func16, Try.ntmps16
    go_wp2_with fail
    refine (HW.out _).mono ?_
    rintro e w3 ⟨rfl, hw3⟩
    rw [hw3]
    clear hw3 w3
    go_wp2
    go_ret
    exact ⟨Below.refl _ _, _, rfl, ⟨rfl, Or.inl ⟨rfl, rfl⟩⟩⟩
end Go.Proofs.Ythcidcfaodjbjaa
