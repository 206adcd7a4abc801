/- What reader.aim answers. -/
import Derived.Test.YthcidcfaodjbjabGreatDoorLine
namespace Go.Proofs.YthcidcfaodjbjabGreatDoor
open Go.RowKit Go.Maps Go.WideMaps
set_option linter.unusedVariables false

set_option maxRecDepth 100000 in
theorem look_run {W : World} {rb mb base : Nat} {vc vf : Value} {st : Rs} (h : RSt W rb mb base vc vf st) (s : ByteArray) (hs : s.size ≤ maxLen) :
    ∃ c : Int, (Instr.lookup 74 (.map (some mb)) (.string s) true).run Tryz.prog W = .ok (.tuple #[.int .i64 c, .bool (findT st.tab s.data.toList).isSome]) W ∧ (∀ r, findT st.tab s.data.toList = some r → c = r) := by
  obtain ⟨D, m1, m2⟩ := h.map
  obtain ⟨v, ps, hrun, hv⟩ := m1.look_ok law9 Tryz.underlying74 (zero3 W) (plainElem_int Tryz.underlying3 (WalkArith.wf_i64 (n := 0) (by omega))) (keyOf_string_mk Tryz.underlying9 hs)
  obtain ⟨c, rfl, hc, hwc⟩ := plainElem_int_inv Tryz.underlying3 hv
  simp only [Prod.mk.injEq] at hc
  refine ⟨c, by rw [hrun]; rw [show Maps.has D (.string s.data.toList) = _ from m2.has s.data.toList], fun r hr => ?_⟩
  have h1 := m2.at_ _ _ hr
  have h2 : rl r = rl c := h1.symm.trans hc.1
  injection h2 with h3
  injection h3 with h4 h5
  exact h5.symm

def preA (p : List In) : Int ⊕ List In → Int ⊕ List In
  | .inl n => .inl n
  | .inr l => .inr (p ++ l)
theorem preA_preA (p q : List In) (r : Int ⊕ List In) : preA p (preA q r) = preA (p ++ q) r := by
  cases r with
  | inl n => rfl
  | inr l => simp [preA]
theorem aimL_cons (T : List (List UInt8 × Int)) (x : In) (l : List In) (o : Int × List UInt8) (os : List (Int × List UInt8)) : aimL T (x :: l) (o :: os) = if o.2 = [] then preA [x] (aimL T l os) else match findT T o.2 with
    | none => .inl o.1
    | some p => preA [{ x with k := p }] (aimL T l os) := by
  rw [aimL]
  generalize aimL T l os = q
  split
  · cases q <;> rfl
  · cases findT T o.2 with
    | none => rfl
    | some p => cases q <;> rfl

theorem ics_set (D : List In) (x : In) (R : List In) (p : Int) : (ics (D ++ x :: R)).set (D.length * 6 + 5) (.int .i64 p) = ics (D ++ { x with k := p } :: R) := by
  rw [ics_app, ics_app]
  have h : (ics D).length = D.length * 6 := ics_len D
  rw [List.set_append_right _ _ (by omega)]
  congr 1
  rw [show D.length * 6 + 5 - (ics D).length = 5 by omega]
  rfl
theorem IOwn.setK {w : World} {base g n cap : Nat} {D R : List In} {x : In} (h : IOwn w base (.slice (some ⟨g, 0, none⟩) n cap) (D ++ x :: R)) (p : Int) : IOwn (w.setCell ⟨g, D.length * 6 + 5, none⟩ (.int .i64 p)) base (.slice (some ⟨g, 0, none⟩) n cap) (D ++ { x with k := p } :: R) := by
  obtain ⟨h1, h2⟩ := h
  have hl : (D ++ { x with k := p } :: R).length = (D ++ x :: R).length := by simp
  refine ⟨by rw [ics_len, hl], Or.inr ?_⟩
  rcases h2 with ⟨h2, _⟩ | ⟨g', cap', cur, e1, e2, e3, e4, e5, e6, e7⟩
  · cases h2
  · injection e1 with e8 e9 e10
    injection e8 with e11
    injection e11 with e12
    subst e12
    subst e10
    refine ⟨g, cap, cur.setIfInBounds (D.length * 6 + 5) (.int .i64 p), by rw [hl, e9], e2, heap_setCell_same w g _ cur 41 _ e3, by rw [hl]; exact e4, e5, by simpa using e6, ?_⟩
    rw [hl, Array.toList_setIfInBounds, List.take_set, e7, ics_set]
theorem RSt.setK {w : World} {rb mb base g n cap : Nat} {vf : Value} {D R : List In} {x : In} {frm : List (Int × List UInt8)} {tab : List (List UInt8 × Int)} (h : RSt w rb mb base (.slice (some ⟨g, 0, none⟩) n cap) vf ⟨D ++ x :: R, frm, tab⟩) (p : Int) :
    RSt (w.setCell ⟨g, D.length * 6 + 5, none⟩ (.int .i64 p)) rb mb base (.slice (some ⟨g, 0, none⟩) n cap) vf ⟨D ++ { x with k := p } :: R, frm, tab⟩ ∧ FR rb mb base w (w.setCell ⟨g, D.length * 6 + 5, none⟩ (.int .i64 p)) := by
  have hg := own_lt h.code g rfl
  have hrl := h.rlt
  have hml := h.mlt
  have hset : ∀ k, k ≠ g → (w.setCell ⟨g, D.length * 6 + 5, none⟩ (.int .i64 p)).heap[k]? = w.heap[k]? := fun k hk => Below.heap_setCell _ _ _ _ hk
  have hss : (w.setCell ⟨g, D.length * 6 + 5, none⟩ (.int .i64 p)).heap.size = w.heap.size := by simp [World.setCell]
  have hpb := hset rb (by omega)
  obtain ⟨DD, m1, m2⟩ := h.map
  refine ⟨⟨(World.cell?_of_block (w := w) (a := ⟨rb, 0, none⟩) hpb).trans h.c0, (World.cell?_of_block (w := w) (a := ⟨rb, 1, none⟩) hpb).trans h.c1, (World.cell?_of_block (w := w) (a := ⟨rb, 2, none⟩) hpb).trans h.c2, (World.frozen?_of_block (w := w) (a := ⟨rb, 0, none⟩) hpb).trans h.f0, (World.frozen?_of_block (w := w) (a := ⟨rb, 1, none⟩) hpb).trans h.f1, IOwn.setK h.code p, own_keep h.frm (fun k hk => hset k (fun e => h.apart g rfl (e ▸ hk))), ⟨DD, ownsMap_keep m1 (hset mb (by omega)), m2⟩, h.apart, h.rlt, h.mlt, h.ne, by rw [hss]; exact h.bs⟩, ⟨rfl, rfl, rfl, by rw [hss]; exact Nat.le_refl _, fun k hk _ _ => hset k (by omega)⟩⟩
/-- what becomes of the call -/
def AimP (rb mb base : Nat) (vc vf : Value) (st : Rs) (w : World) (e : Ending) (w' : World) : Int ⊕ List In → Prop
  | .inl n => e = .returned (.tuple #[.int .i64 n, .int .i64 91]) ∧ FR rb mb base w w'
  | .inr l => e = .returned (.tuple #[.int .i64 0, .int .i64 0]) ∧ RSt w' rb mb base vc vf ⟨l, st.frm, st.tab⟩ ∧ FR rb mb base w w'
theorem frm_at {w : World} {base g n cap : Nat} {l : List (Int × List UInt8)} (h : OOwn w base (.slice (some ⟨g, 0, none⟩) n cap) l) (i : Nat) (hi : i < l.length) : w.cell? ⟨g, i * 2, none⟩ = some (.int .i64 l[i].1) ∧ w.cell? ⟨g, i * 2 + 1, none⟩ = some (.string ⟨l[i].2.toArray⟩) := by
  have hce := World.ownsRow.cells h (g := g) rfl
  have h0 := hce (i * 2 + 0) _ ((ocs_at l i 0 hi (by omega)).trans rfl)
  have h1 := hce (i * 2 + 1) _ ((ocs_at l i 1 hi (by omega)).trans rfl)
  rw [addn] at h0 h1
  simp only [Nat.zero_add, Nat.add_zero] at h0 h1
  exact ⟨h0, h1⟩
theorem code_at {w : World} {base g n cap : Nat} {l : List In} (h : IOwn w base (.slice (some ⟨g, 0, none⟩) n cap) l) (i : Nat) (hi : i < l.length) : (∃ k, w.cell? ⟨g, i * 6 + 5, none⟩ = some (.int .i64 k)) ∧ w.frozen? ⟨g, i * 6 + 5, none⟩ = false := by
  have hce := World.ownsRow.cells h (g := g) rfl
  have h1 := hce (i * 6 + 5) _ ((ics_at l i 5 hi (by omega)).trans rfl)
  rw [addn] at h1
  simp only [Nat.zero_add] at h1
  refine ⟨⟨_, h1⟩, ?_⟩
  rcases h.2 with ⟨h2, _⟩ | ⟨g', cap', cur, e1, e2, e3, e4⟩
  · cases h2
  · injection e1 with e8 e9 e10
    injection e8 with e11
    injection e11 with e12
    subst e12
    exact frozen_of_row w g _ cur 41 e3

set_option maxRecDepth 100000 in
set_option maxHeartbeats 2000000 in
theorem aim_any (rb mb base : Nat) (vc vf : Value) (st : Rs) (w : World) (h : RSt w rb mb base vc vf st) (hlen : st.code.length = st.frm.length) (hlb : ∀ o ∈ st.frm, o.2.length ≤ 8192) (hf : st.frm.length ≤ 100000) :
    Calls Tryz.prog 36 #[.pointer (some ⟨rb, 0, none⟩)] w fun e w' => AimP rb mb base vc vf st w e w' (aimL st.tab st.code st.frm) := by
  obtain ⟨code, frm, tab⟩ := st
  dsimp only at hlen hlb hf ⊢
  have HW : Hid (RSt w rb mb base vc vf ⟨code, frm, tab⟩) := h
  have c1 := h.c1
  obtain ⟨out, hout⟩ : ∃ o, aimL tab code frm = o := ⟨_, rfl⟩
  have HOUT : Hid (aimL tab code frm = out) := hout
  rw [hout]
  obtain ⟨post, hpost⟩ : ∃ p : Ending → World → Prop, p = fun e w' => AimP rb mb base vc vf ⟨code, frm, tab⟩ w e w' out := ⟨_, rfl⟩
  have HPOST : Hid (post = fun e w' => AimP rb mb base vc vf ⟨code, frm, tab⟩ w e w' out) := hpost
  rw [← hpost]
  rcases Nat.eq_zero_or_pos frm.length with h0 | h0
  · have hc0 : code = [] := List.eq_nil_of_length_eq_zero (by omega)
    subst hc0
    have hf0 : frm = [] := List.eq_nil_of_length_eq_zero h0
    subst hf0
    have HO : Hid (out = .inr []) := hout.symm
    obtain ⟨fa, fc, rfl⟩ := own_sl h.frm
    replace c1 : w.cell? ⟨rb, 1, none⟩ = some (.slice fa 0 fc) := c1
    clear h hlb hout hpost
    go_enter Tryz.func36, Tryz.ntmps36
    go_wp2
    go_loopw [13] (fun i wr => i = .int .i64 0 ∧ wr = w) (fun i _ => 0)
    case atStart => exact ⟨rfl, rfl⟩
    case round =>
      obtain ⟨rfl, rfl⟩ := hrel
      go_wp2
      first | (rw [HPOST.out, HO.out]; exact ⟨rfl, HW.out, FR.refl _ _ _ _⟩) | (go_ret2; rw [HPOST.out, HO.out]; exact ⟨rfl, HW.out, FR.refl _ _ _ _⟩)
  · obtain ⟨N, hN⟩ : ∃ N, frm.length = N := ⟨_, rfl⟩
    have HN : Hid (frm.length = N) := hN
    have HNC : Hid (code.length = N) := hlen.trans hN
    have hfo : OOwn w base vf frm := h.frm
    have hco : IOwn w base vc code := h.code
    obtain ⟨fg, fc, rfl⟩ : ∃ g cap, vf = .slice (some ⟨g, 0, none⟩) N cap := by
      rcases hfo.2 with ⟨_, h2⟩ | ⟨g, cap, _, e, _⟩
      · omega
      · exact ⟨g, cap, by rw [← hN]; exact e⟩
    obtain ⟨cg, cc, rfl⟩ : ∃ g cap, vc = .slice (some ⟨g, 0, none⟩) N cap := by
      rcases hco.2 with ⟨_, h2⟩ | ⟨g, cap, _, e, _⟩
      · omega
      · exact ⟨g, cap, by rw [← hN, ← hlen]; exact e⟩
    have HLB : Hid (∀ o ∈ frm, o.2.length ≤ 8192) := hlb
    rw [hN] at hf h0
    clear h hlb hout hpost hfo hco hlen hN
    go_enter Tryz.func36, Tryz.ntmps36
    go_wp2
    go_loopw [13] (fun i wr => ∃ (k : Nat) (D : List In), k ≤ N ∧ i = .int .i64 k ∧ Hid (D.length = k) ∧ Hid (preA D (aimL tab (code.drop k) (frm.drop k)) = out) ∧ Hid (RSt wr rb mb base (.slice (some ⟨cg, 0, none⟩) N cc) (.slice (some ⟨fg, 0, none⟩) N fc) ⟨D ++ code.drop k, frm, tab⟩) ∧ Hid (FR rb mb base w wr)) (fun i _ => N - (intOf i).toNat)
    case atStart => exact ⟨0, [], Nat.zero_le _, rfl, rfl, by show _ = _; rw [← HOUT.out]; show preA [] (aimL tab code frm) = _; cases aimL tab code frm <;> rfl, HW, FR.refl _ _ _ _⟩
    case round =>
      obtain ⟨k, D, hk, rfl, HD, HA, HR, HF⟩ := hrel
      by_cases hlt : k < N
      · have hkc : k < code.length := by rw [HNC.out]; exact hlt
        have hkf : k < frm.length := by rw [HN.out]; exact hlt
        obtain ⟨x, hx⟩ : ∃ x, code[k] = x := ⟨_, rfl⟩
        obtain ⟨o, ho⟩ : ∃ o, frm[k] = o := ⟨_, rfl⟩
        have dC : code.drop k = x :: code.drop (k + 1) := by rw [List.drop_eq_getElem_cons hkc, hx]
        have dF : frm.drop k = o :: frm.drop (k + 1) := by rw [List.drop_eq_getElem_cons hkf, ho]
        have hol : o.2.length ≤ 8192 := HLB.out o (by rw [← ho]; exact List.getElem_mem _)
        have HA2 : Hid _ := HA.out
        rw [dC, dF, aimL_cons] at HA2
        have HR2 : Hid (RSt wr rb mb base (.slice (some ⟨cg, 0, none⟩) N cc) (.slice (some ⟨fg, 0, none⟩) N fc) ⟨D ++ x :: code.drop (k + 1), frm, tab⟩) := by have := HR.out; rw [dC] at this; exact this
        obtain ⟨q0, q1⟩ := frm_at HR.out.frm k hkf
        rw [ho] at q0 q1
        have hbs := HR.out.bs
        obtain ⟨ln, lb⟩ := o
        dsimp only at q0 q1 hol HA2
        rcases lb with _ | ⟨b, lt⟩
        · have HA3 : Hid (preA (D ++ [x]) (aimL tab (code.drop (k + 1)) (frm.drop (k + 1))) = out) := by have := HA2.out; rw [if_pos rfl, preA_preA] at this; exact this
          have HB : Hid (∀ O, Below wr.heap.size wr (wr.alloc O)) := fun O => (Below.refl _ _).alloc (Nat.le_refl _) _
          have HRS : Hid (∀ O, RSt (wr.alloc O) rb mb base (.slice (some ⟨cg, 0, none⟩) N cc) (.slice (some ⟨fg, 0, none⟩) N fc) ⟨(D ++ [x]) ++ code.drop (k + 1), frm, tab⟩) := fun O => by have := HR2.out.below (HB.out O); rw [List.append_assoc]; exact this
          have HFS : Hid (∀ O, FR rb mb base w (wr.alloc O)) := fun O => HF.out.trans (FR.of (HB.out O) hbs)
          have HD2 : Hid ((D ++ [x]).length = k + 1) := by show _ = _; rw [List.length_append, HD.out]; rfl
          replace q1 : wr.cell? ⟨fg, k * 2 + 1, none⟩ = some (.string ⟨#[]⟩) := q1
          clear HA HA2 HR HR2 dC dF hx ho
          go_wp2
          go_roundw
          case rel => exact ⟨k + 1, _, hlt, by go_num, HD2, HA3, HRS.out _, HFS.out _⟩
          case measure => simp [intOf]; omega
        · obtain ⟨S, hS⟩ : ∃ S : ByteArray, ⟨(b :: lt).toArray⟩ = S := ⟨_, rfl⟩
          have hSl : S.data.toList = b :: lt := by rw [← hS]
          have hSs : S.size = lt.length + 1 := by have : S.data.toList.length = S.size := by simp
                                                  rw [← this, hSl]; rfl
          have hem : S.toList.isEmpty = false := by rw [ByteArray.toList_eq, hSl]; rfl
          rw [hS] at q1
          obtain ⟨O, hO⟩ : ∃ O : Obj, Obj.cells #[.int .i64 ln, .string S] 78 = O := ⟨_, rfl⟩
          have b1 : Below wr.heap.size wr (wr.alloc O) := (Below.refl _ _).alloc (Nat.le_refl _) _
          have HRS : Hid (∀ W, Below wr.heap.size wr W → RSt W rb mb base (.slice (some ⟨cg, 0, none⟩) N cc) (.slice (some ⟨fg, 0, none⟩) N fc) ⟨D ++ x :: code.drop (k + 1), frm, tab⟩) := fun W hb => HR2.out.below hb
          have HFS : Hid (∀ W, Below wr.heap.size wr W → FR rb mb base w W) := fun W hb => HF.out.trans (FR.of hb hbs)
          obtain ⟨c, hlk, hlc⟩ := look_run (HRS.out _ b1.drew) S (by unfold maxLen; simp at hol; omega)
          obtain ⟨is, his⟩ : ∃ b, (findT tab S.data.toList).isSome = b := ⟨_, rfl⟩
          replace hlk : (Instr.lookup 74 (.map (some mb)) (.string S) true).run Tryz.prog (wr.alloc O).drew = .ok (.tuple #[.int .i64 c, .bool is]) (wr.alloc O).drew := by rw [hlk, ← his]
          have c2 := (HRS.out _ b1.drew).c2
          have n1 : (wr.alloc O).drew.cell? ⟨wr.heap.size, 1, none⟩ = some (.string S) := by show (wr.alloc O).cell? _ = _; rw [← hO]; simp
          have B1 : Hid (Below wr.heap.size wr (wr.alloc O)) := b1
          subst hO
          clear HA HR dC dF hx ho hS hSs b1
          have n0 : (wr.alloc (Obj.cells #[.int .i64 ln, .string S] 78)).drew.cell? ⟨wr.heap.size, 0, none⟩ = some (.int .i64 ln) := by show (wr.alloc _).cell? _ = _; simp
          cases is with
          | false =>
            have HO : Hid (out = .inl ln) := by
              have h1 := HA2.out
              have h2 : findT tab (b :: lt) = none := by rw [← hSl]; exact Option.isNone_iff_eq_none.1 (by simpa using his)
              rw [if_neg (by simp), h2] at h1
              exact h1.symm
            clear HA2 his hlc hSl
            go_wp2_with fail
            go_region
            go_wp2
            first | (rw [HPOST.out, HO.out]; exact ⟨rfl, HFS.out _ B1.out.drew⟩) | (go_ret2; rw [HPOST.out, HO.out]; exact ⟨rfl, HFS.out _ B1.out.drew⟩)
          | true =>
            obtain ⟨p, hp⟩ : ∃ p, findT tab S.data.toList = some p := Option.isSome_iff_exists.1 his
            obtain rfl : c = p := hlc p hp
            have HO : Hid (preA (D ++ [{ x with k := c }]) (aimL tab (code.drop (k + 1)) (frm.drop (k + 1))) = out) := by
              have h1 := HA2.out
              rw [if_neg (by simp), ← hSl, hp] at h1
              dsimp only at h1
              rw [preA_preA] at h1
              exact h1
            have HSK : Hid _ := (HRS.out _ B1.out.drew).setK c
            rw [HD.out] at HSK
            have HD2 : Hid ((D ++ [{ x with k := c }]).length = k + 1) := by show _ = _; rw [List.length_append, HD.out]; rfl
            obtain ⟨⟨k0, z0⟩, z1⟩ := code_at (HRS.out _ B1.out.drew).code k (by simp [HD.out])
            have c0 := (HRS.out _ B1.out.drew).c0
            have HFB : Hid (FR rb mb base w (wr.alloc (Obj.cells #[.int .i64 ln, .string S] 78)).drew) := HFS.out _ B1.out.drew
            clear HA2 his hlc hSl hp
            go_wp2_with fail
            go_region
            go_wp2
            go_roundw
            case rel => exact ⟨k + 1, _, hlt, by go_num, HD2, HO, by show RSt _ _ _ _ _ _ _; rw [List.append_assoc]; exact HSK.out.1, HFB.out.trans HSK.out.2⟩
            case measure => simp [intOf]; omega
      · have hke : k = N := by omega
        subst hke
        have HO : Hid (out = .inr D) := by
          have h1 := HA.out
          rw [List.drop_eq_nil_of_le (by rw [HNC.out]; exact Nat.le_refl _)] at h1
          show out = .inr D
          rw [← h1, aimL]
          simp [preA]
        have HR2 : Hid (RSt wr rb mb base (.slice (some ⟨cg, 0, none⟩) k cc) (.slice (some ⟨fg, 0, none⟩) k fc) ⟨D, frm, tab⟩) := by
          have h1 := HR.out
          rw [List.drop_eq_nil_of_le (by rw [HNC.out]; exact Nat.le_refl _), List.append_nil] at h1
          exact h1
        clear HA HR
        go_wp2
        first | (rw [HPOST.out, HO.out]; exact ⟨rfl, HR2.out, HF.out⟩) | (go_ret2; rw [HPOST.out, HO.out]; exact ⟨rfl, HR2.out, HF.out⟩)
end Go.Proofs.YthcidcfaodjbjabGreatDoor
