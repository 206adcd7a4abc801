/- A walker's call over a block. -/
import Derived.Test.YtiafdlebggegfabStmt
namespace Go.Proofs.Ytiafdlebggegfab
open Go.RowKit Go.Maps Go.WideMaps
set_option linter.unusedVariables false

theorem find_mid {A B : Tab} {s : List UInt8} {r : Int} (h : ((A ++ (s, r) :: B).map fun x => x.1).Nodup) (t : List UInt8) : find (A ++ (s, r) :: B) t = if s = t then some r else find (A ++ B) t := by
  have hA : s ∉ A.map fun x => x.1 := by
    intro hm
    rw [List.map_append, List.map_cons, List.nodup_append] at h
    exact h.2.2 s hm s (by simp) rfl
  unfold find
  rw [List.find?_append, List.find?_append, List.find?_cons]
  by_cases e : s = t
  · subst e
    have : A.find? (fun x => x.1 == s) = none := by
      rw [List.find?_eq_none]
      intro x hx
      simp
      intro e
      exact hA (List.mem_map.2 ⟨x, hx, e⟩)
    simp [this]
  · have : (s == t) = false := by simpa using e
    simp [this, e]
theorem Rep.del {A B : Tab} {s : List UInt8} {r : Int} {D : DataW Unit} (h : Rep (A ++ (s, r) :: B) D) (hn : ((A ++ (s, r) :: B).map fun x => x.1).Nodup) : Rep (A ++ B) (D.del (kl s)) := by
  have hs : find (A ++ B) s = none := by
    unfold find
    rw [Option.map_eq_none_iff, List.find?_eq_none]
    intro x hx
    simp
    intro e
    rw [List.map_append, List.map_cons, List.nodup_append] at hn
    rcases List.mem_append.1 hx with hx | hx
    · exact hn.2.2 s (List.mem_map.2 ⟨x, hx, e⟩) s (by simp) rfl
    · exact (List.nodup_cons.1 hn.2.1).1 (List.mem_map.2 ⟨x, hx, e⟩)
  refine ⟨fun t => ?_, fun t q hq => ?_, ?_, h.tidy.del _⟩
  · by_cases e : s = t
    · subst e
      rw [has_del_same, hs]; rfl
    · rw [has_del_other (fun x => e (by injection x with x; exact x.symm)), h.has, find_mid hn, if_neg e]
  · by_cases e : s = t
    · subst e; rw [hs] at hq; cases hq
    · rw [atKey_del_other (fun x => e (by injection x with x; exact x.symm))]
      exact h.at_ t q (by rw [find_mid hn, if_neg e]; exact hq)
  · have := size_del h.tidy (k := kl s)
    rw [h.has, h.size, find_mid hn, if_pos rfl] at this
    simp at this
    simp
    omega

/-- texts of the call's own -/
def Strs (w : World) (base : Nat) (v : Value) (l : List ByteArray) : Prop := w.ownsRow base 9 1 v l.length (l.map fun x => Value.string x)
theorem Strs.own {w : World} {base : Nat} {v : Value} {l : List ByteArray} (h : Strs w base v l) : ∀ k, v.ownBlock = some k → base ≤ k ∧ k < w.heap.size := World.ownsRow.lt h
theorem Strs.keep {w w' : World} {base : Nat} {v : Value} {l : List ByteArray} (h : Strs w base v l) (hb : ∀ k, v.ownBlock = some k → w'.heap[k]? = w.heap[k]?) : Strs w' base v l := by
  obtain ⟨h1, h2⟩ := h
  refine ⟨h1, ?_⟩
  rcases h2 with h2 | ⟨g, cap, cur, e1, e2, e3, e4⟩
  · exact Or.inl h2
  · refine Or.inr ⟨g, cap, cur, e1, e2, ?_, e4⟩
    rw [hb g (by rw [e1]; rfl)]; exact e3
theorem Strs.form {w : World} {base : Nat} {v : Value} {l : List ByteArray} (h : Strs w base v l) : ∃ a c, v = .slice a l.length c := by
  rcases h.2 with ⟨h, h0⟩ | ⟨g, cap, _, h, _⟩
  · exact ⟨none, 0, by rw [h0]; exact h⟩
  · exact ⟨_, _, h⟩
theorem strs_one (l : List ByteArray) : ∀ u ∈ (l.map fun x => Value.string x), u.oneCell' = true := by
  intro u hu
  obtain ⟨_, _, rfl⟩ := List.mem_map.1 hu
  rfl
theorem FW.grown {pb mb : Nat} {a b c : World} {v v1 : Value} {row : Option Nat} (h : FW pb mb a b v v1) (g : b.grownBy c row) (hr : ∀ k, row = some k → a.heap.size ≤ k) : FW pb mb a c v v1 :=
  ⟨g.os.trans h.os, g.tape.trans h.tape, g.output.trans h.output, Nat.le_trans h.size g.size, fun i hi h1 h2 h3 => (g.block i (Nat.lt_of_lt_of_le hi h.size) (fun e => by have := hr i e.symm; omega)).trans (h.block i hi h1 h2 h3), h.loc⟩
theorem WSt.grown {w w' : World} {pb mb base : Nat} {cells : Int} {v : Value} {st : Sta} {row : Option Nat} (h : WSt w pb mb base cells v st) (g : w.grownBy w' row) (hr : ∀ k, row = some k → base ≤ k ∧ v.ownBlock ≠ some k) : WSt w' pb mb base cells v st := by
  have hpl := h.pl
  have hml := h.ml
  have hbs := h.bs
  refine h.keep (g.block _ (by omega) ?_) (g.block _ (by omega) ?_) (fun k hk => g.block _ (h.ints.own k hk).2 ?_) g.size
  · intro e; have := (hr pb e.symm).1; omega
  · intro e; have := (hr mb e.symm).1; omega
  · intro e; exact (hr k e.symm).2 hk

/-- a name goes -/
theorem WSt.gone {w w1 : World} {pb mb base : Nat} {cells : Int} {v : Value} {A B : Tab} {s : List UInt8} {r : Int} {out : List Int} {most : Int} {D : DataW Unit} (h : WSt w pb mb base cells v ⟨A ++ (s, r) :: B, out, most⟩) (hr : Rep (A ++ (s, r) :: B) D) (hn : ((A ++ (s, r) :: B).map fun x => x.1).Nodup) {n : Nat}
    (hown : w1.ownsMap Try.prog 9 (plainElem Try.prog 3) mb n (D.del (kl s))) (hg : w.grownBy w1 (some mb)) : WSt w1 pb mb base cells v ⟨A ++ B, out, most⟩ ∧ FW pb mb w w1 v v := by
  have hpl := h.pl
  have hml := h.ml
  have hbs := h.bs
  have hne := h.ne
  have hpb : w1.heap[pb]? = w.heap[pb]? := hg.block pb (by omega) (by intro e; cases e; exact hne rfl)
  have hR := hr.del hn
  refine ⟨⟨(World.cell?_of_block (w := w) (a := ⟨pb, 0, none⟩) hpb).trans h.c0, (World.cell?_of_block (w := w) (a := ⟨pb, 1, none⟩) hpb).trans h.c1, (World.cell?_of_block (w := w) (a := ⟨pb, 2, none⟩) hpb).trans h.c2, (World.cell?_of_block (w := w) (a := ⟨pb, 3, none⟩) hpb).trans h.c3, (World.frozen?_of_block (w := w) (a := ⟨pb, 2, none⟩) hpb).trans h.f2, (World.frozen?_of_block (w := w) (a := ⟨pb, 3, none⟩) hpb).trans h.f3, ?_, ⟨_, ?_, hR⟩, h.pl, h.ml, h.ne, Nat.le_trans h.bs hg.size⟩, ⟨hg.os, hg.tape, hg.output, hg.size, fun k hk h1 h2 h3 => hg.block k hk (by intro e; cases e; exact h2 rfl), fun k hk => Or.inl hk⟩⟩
  · refine h.ints.keep fun k hk => hg.block k (h.ints.own k hk).2 ?_
    intro e
    cases e
    have := (h.ints.own _ hk).1
    omega
  · have := ownsMap_tight hown
    rw [hR.size] at this
    exact this

/-- a block stands -/
def SameB (a : World) (g : Nat) (b : World) : Prop := b.heap[g]? = a.heap[g]? ∧ g < b.heap.size

set_option maxRecDepth 100000 in
set_option maxHeartbeats 4000000 in
theorem block_any (W : World) (pb mb base : Nat) (cells : Int) (cx : Ctx W pb mb base) : ∀ (N : Nat) (l : SL), l.cnt ≤ N → BlockC W pb mb base cells l := by
  intro N
  induction N with
  | zero =>
    intro l hN va w v st hE h hg hb hl
    have : l = .nil := by cases l with
      | nil => rfl
      | cons k s c a b e r => simp only [SL.cnt] at hN; omega
    subst this
    obtain ⟨ad, cap, b, o, rfl, h1, h2, h3, h4⟩ := hE
    have HW : Hid (WSt w pb mb base cells v st) := h
    clear h hb hN h3 h4 hg
    go_enter Try.func17, Try.ntmps17
    go_wp2
    go_rounds 1
    go_wp2
    go_rounds 1
    go_ret
    exact ⟨rfl, v, HW.out, FW.refl _ _ _ _⟩
  | succ N ih =>
    intro l hN va w v st hE h hg hb hl
    obtain ⟨ad, cap, b, o, rfl, h1, h2, h3, h4⟩ := hE
    have HI : Hid (∀ l : SL, l.cnt ≤ N → BlockC W pb mb base cells l) := ih
    have HW : Hid (WSt w pb mb base cells v st) := h
    have HG : Hid (Good st) := hg
    have HB0 : Hid (Below W.heap.size W w) := hb
    have HE0 : Hid (SAt W l b o) := h4
    have HN : Hid (l.cnt ≤ N + 1) := hN
    have HL : Hid (st.out.length + l.cnt ≤ 1000000000) := hl
    obtain ⟨n, hn⟩ : ∃ n, l.len = n := ⟨_, rfl⟩
    have HLN : Hid (l.len = n) := hn
    have hbase : base ≤ w.heap.size := h.bs
    rw [hn] at h1 h3 ⊢
    have hn9 : n ≤ 1000000000 := by have := l.len_le; omega
    obtain ⟨res, hres⟩ : ∃ r, (runL cells l st).shut st.T = r := ⟨_, rfl⟩
    have HRES : Hid ((runL cells l st).shut st.T = res) := hres
    rw [hres]
    clear ih h hb h4 hN hl hn hres hg
    unfold maxLen at h2
    obtain ⟨i0, hi, hz0, hz1, hz2⟩ := info_parts info9
    go_enter Try.func17, Try.ntmps17
    go_wp2
    go_loopw [5, 13] (fun dv i wr => ∃ (k : Nat) (r : SL) (v1 : Value) (s1 : Sta) (y : Tab) (names : List ByteArray) (da : Option Addr) (dc : Nat), k ≤ n ∧ i = .int .i64 (k : Int) ∧ dv = .slice da names.length dc ∧ names.length ≤ k ∧ Hid (k + r.len = n) ∧ Hid (SAt W r b (o + 6 * k)) ∧ Hid (WSt wr pb mb base cells v1 s1) ∧ Hid (Good s1) ∧ Hid (FW pb mb w wr v v1) ∧ Hid ((runL cells r s1).shut st.T = res) ∧ Hid (s1.out.length + r.cnt ≤ 1000000000 ∧ r.cnt ≤ N + 1) ∧ Hid (s1.T = st.T ++ y ∧ y.map (fun x => x.1) = names.map (fun s => s.data.toList) ∧ ∀ s ∈ names, s.size ≤ maxLen) ∧ Hid (Strs wr w.heap.size (.slice da names.length dc) names) ∧ Hid (∀ g, (Value.slice da names.length dc).ownBlock = some g → v1.ownBlock ≠ some g)) (fun _ i _ => n - (intOf i).toNat)
    case atStart => exact ⟨0, l, v, st, [], [], none, 0, Nat.zero_le _, rfl, rfl, Nat.le_refl _, by show _ = _; rw [Nat.zero_add]; exact HLN.out, HE0, HW, HG, FW.refl _ _ _ _, HRES, ⟨HL.out, HN.out⟩, ⟨by simp, rfl, by simp⟩, ⟨rfl, Or.inl ⟨rfl, rfl⟩⟩, fun g hg => by cases hg⟩
    case round =>
      obtain ⟨k, r, v1, s1, y, names, da, dc, hk, rfl, rfl, hnl, HK, HE, HW1, HG1, HF1, HR1, HC1, HT1, HD1, HV1⟩ := hrel
      have HBr : Hid (Below W.heap.size W wr) := cx.below HW.out HF1.out HB0.out
      by_cases hlt : k < n
      · have e0 := h3 (by omega)
        subst e0
        cases r with
        | nil => have := HK.out; simp only [SL.len] at this; omega
        | cons kd s c a d e r =>
          obtain ⟨q0, q1, q2, q3, ⟨va, q4, q4'⟩, ⟨ad1, cap1, b1, o1, q5, q6, q7, q8, q9⟩, ⟨ad2, cap2, b2, o2, p5, p6, p7, p8, p9⟩, q10⟩ := HE.out
          obtain ⟨aa, ca, ba, oa, rfl, _⟩ := id q4'
          have hbl : b < W.heap.size := World.block_lt_of_cell? W ⟨b, o + 6 * k, none⟩ q0
          have hbw : b < wr.heap.size := Nat.lt_of_lt_of_le hbl HBr.out.size
          have x0 : wr.cell? ⟨b, o + k * 6, none⟩ = some (.int .i64 kd) := by rw [Nat.mul_comm k 6]; exact (HBr.out.cell (p := ⟨b, o + 6 * k, none⟩) hbl).trans q0
          have x1 : wr.cell? ⟨b, o + k * 6 + 1, none⟩ = some (.string s) := by rw [Nat.mul_comm k 6]; exact (HBr.out.cell (p := ⟨b, o + 6 * k + 1, none⟩) hbl).trans q1
          have x2 : wr.cell? ⟨b, o + k * 6 + 2, none⟩ = some (.int .i64 c) := by rw [Nat.mul_comm k 6]; exact (HBr.out.cell (p := ⟨b, o + 6 * k + 2, none⟩) hbl).trans q2
          have x3 : wr.cell? ⟨b, o + k * 6 + 3, none⟩ = some (.slice aa a.len ca) := by rw [Nat.mul_comm k 6]; exact (HBr.out.cell (p := ⟨b, o + 6 * k + 3, none⟩) hbl).trans q4
          have x4 : wr.cell? ⟨b, o + k * 6 + 4, none⟩ = some (.slice ad1 d.len cap1) := by rw [Nat.mul_comm k 6]; exact (HBr.out.cell (p := ⟨b, o + 6 * k + 4, none⟩) hbl).trans q5
          have x5 : wr.cell? ⟨b, o + k * 6 + 5, none⟩ = some (.slice ad2 e.len cap2) := by rw [Nat.mul_comm k 6]; exact (HBr.out.cell (p := ⟨b, o + 6 * k + 5, none⟩) hbl).trans p5
          have HA : Hid (ESl W (.slice aa a.len ca) a) := q4'
          have HBd : Hid (SSl W (.slice ad1 d.len cap1) d) := ⟨ad1, cap1, b1, o1, rfl, q6, q7, q8, q9⟩
          have HEl : Hid (SSl W (.slice ad2 e.len cap2) e) := ⟨ad2, cap2, b2, o2, rfl, p6, p7, p8, p9⟩
          have HS : Hid (s.size ≤ maxLen) := q3
          have HRest : Hid (SAt W r b (o + 6 * (k + 1))) := by have := q10; rw [show o + 6 * (k + 1) = o + 6 * k + 6 by omega]; exact this
          have HCd : Hid (BlockC W pb mb base cells d) := HI.out d (by have := HC1.out.2; simp only [SL.cnt] at this; omega)
          have HCe : Hid (BlockC W pb mb base cells e) := HI.out e (by have := HC1.out.2; simp only [SL.cnt] at this; omega)
          have hcn : s1.out.length + (a.cnt + d.cnt + e.cnt + 1) ≤ 1000000000 := by have := HC1.out.1; simp only [SL.cnt] at this; omega
          have HWA : Hid (∀ o, WSt (wr.alloc o) pb mb base cells v1 s1) := fun o => HW1.out.below ((Below.refl _ _).alloc (Nat.le_refl _) o)
          have HBA : Hid (∀ o, Below W.heap.size W (wr.alloc o)) := fun o => HBr.out.alloc HBr.out.size o
          have HFA : Hid (∀ o, FW pb mb w (wr.alloc o) v v1) := fun o => HF1.out.after ((Below.refl _ _).alloc (Nat.le_refl _) o)
          have hbr : base ≤ wr.heap.size := HW1.out.bs
          have hv1 : ∀ k, v1.ownBlock = some k → k ≠ wr.heap.size := fun k hk e => by have := (HW1.out.ints.own k hk).2; omega
          have HS2 : Hid (∀ v2 w2, FW pb mb (wr.alloc (.cells #[.int .i64 kd, .string s, .int .i64 c, .slice aa a.len ca, .slice ad1 d.len cap1, .slice ad2 e.len cap2] 43)) w2 v1 v2 → Six w2 wr.heap.size (.int .i64 kd) (.string s) (.int .i64 c) (.slice aa a.len ca) (.slice ad1 d.len cap1) (.slice ad2 e.len cap2) ∧ wr.heap.size < w2.heap.size ∧ Strs w2 w.heap.size (.slice da names.length dc) names ∧ (∀ g, (Value.slice da names.length dc).ownBlock = some g → v2.ownBlock ≠ some g)) := fun v2 w2 f => by
            have hdv : ∀ g, (Value.slice da names.length dc).ownBlock = some g → base ≤ g ∧ g < wr.heap.size ∧ ∀ k, v1.ownBlock = some k → k ≠ g := fun g hg => ⟨by have := (HD1.out.own g hg).1; omega, (HD1.out.own g hg).2, fun k hk e => HV1.out g hg (e ▸ hk)⟩
            refine ⟨(Six.new wr _ _ _ _ _ _ 43).keep (f.stands (HWA.out _) (by simp) hbr hv1), Nat.lt_of_lt_of_le (by simp) f.size, HD1.out.keep fun g hg => ?_, fun g hg e => ?_⟩
            · obtain ⟨z1, z2, z3⟩ := hdv g hg
              exact (f.stands (HWA.out _) (by simp; omega) z1 z3).trans (Below.heap_alloc _ _ _ z2)
            · obtain ⟨z1, z2, z3⟩ := hdv g hg
              exact f.other (by simp; omega) z3 g e rfl
          clear q0 q1 q2 q3 q4 q4' q5 q6 q7 q8 q9 q10 p5 p6 p7 p8 p9 hv1
          go_wp2_with fail
          refine (stmt_of W pb mb base cells cx kd s c a d e HCd.out HCe.out aa ad1 ad2 ca cap1 cap2 HA.out HBd.out HEl.out _ v1 s1 (HWA.out _) HG1.out (HBA.out _) HS.out hcn).mono ?_
          intro e1 w2 hp
          rcases r1 : runS cells kd s c a d e s1 with x | s2
          · rw [r1] at hp
            obtain ⟨rfl, hx, v2, hf2⟩ := hp
            have HRR : Hid (res = .err x) := by show _ = _; rw [← HR1.out, runL_cons, r1]; rfl
            have HF2 : Hid _ := (HFA.out _).trans hf2
            clear hf2 r1
            go_wp2
            go_ret
            rw [HRR.out]
            exact ⟨rfl, hx, v2, HF2.out⟩
          · rw [r1] at hp
            obtain ⟨rfl, v2, hw2, hf2⟩ := hp
            obtain ⟨S2, hsz2, hd2, hvd2⟩ := HS2.out v2 w2 hf2
            obtain ⟨g2, t2, l2⟩ := runS_good HG1.out r1
            have HRR : Hid ((runL cells r s2).shut st.T = res) := by show _ = _; rw [← HR1.out, runL_cons, r1]; rfl
            have HF2 : Hid (FW pb mb w w2 v v2) := (HFA.out _).trans hf2
            have HW2 : Hid (WSt w2 pb mb base cells v2 s2) := hw2
            have HG2 : Hid (Good s2) := g2
            have HT2 : Hid (s2.T = s1.T ++ (if kd = 1 then [(s.data.toList, (s1.T.length : Int))] else [])) := t2
            have HOL : Hid (s2.out.length + r.cnt ≤ 1000000000 ∧ r.cnt ≤ N + 1) := by
              have h6 := HC1.out
              simp only [SL.cnt] at h6
              exact ⟨by omega, by omega⟩
            have HD2 : Hid (Strs w2 w.heap.size (.slice da names.length dc) names) := hd2
            have HVD2 : Hid (∀ g, (Value.slice da names.length dc).ownBlock = some g → v2.ownBlock ≠ some g) := hvd2
            obtain ⟨y0, y1, y2, y3, y4, y5⟩ := S2
            have hws : w.heap.size ≤ w2.heap.size := HF2.out.size
            clear hf2 hw2 r1 g2 t2 l2 hd2 hvd2
            by_cases k1 : kd = 1
            · subst k1
              have HDA : Hid (∀ o, (w2.alloc o).ownsRow w.heap.size 9 1 (.slice da names.length dc) names.length (names.map fun x => Value.string x)) := fun o => World.ownsRow.alloc HD2.out o
              go_wp2_with (at_builtin; refine wpList_append_own_at _ rfl _ _ 54 rfl w.heap.size 9 i0 (.string ⟨#[]⟩) 1 16 Try.underlying54 hi hz0 hz1 hz2 rfl (by decide) _ _ _ rfl (HDA.out _) ⟨w2.heap.size, 0, none⟩ 1 1 [.string s] rfl rfl (cell_one_new _ _ _) (strs_one [s]) (by unfold maxLen; omega) (by omega) (by simp; omega) ?_)
              intro v' w3 hown' hgrow hnil hloc
              have hg3 : w2.grownBy w3 (Value.slice da names.length dc).ownBlock := ⟨hgrow.os, hgrow.tape, hgrow.output, by have := hgrow.size; simp at this; omega, fun k hk hne => (hgrow.block k (by simp; omega) hne).trans (Below.heap_alloc _ _ _ hk)⟩
              have HW3 : Hid (WSt w3 pb mb base cells v2 s2) := HW2.out.grown hg3 (fun g hg => ⟨by have := (HD2.out.own g hg).1; omega, HVD2.out g hg⟩)
              have HF3 : Hid (FW pb mb w w3 v v2) := HF2.out.grown hg3 (fun g hg => (HD2.out.own g hg).1)
              have HD3 : Hid (Strs w3 w.heap.size v' (names ++ [s])) := by show w3.ownsRow _ _ _ _ _ _; simpa using hown'
              have HV3 : Hid (∀ g, v'.ownBlock = some g → v2.ownBlock ≠ some g) := fun g hg e => by
                rcases hloc with z | z
                · exact HVD2.out g (z ▸ hg) e
                · rw [z] at hg
                  cases hg
                  have := (HW2.out.ints.own _ e).2
                  omega
              obtain ⟨da', dc', hv'⟩ := HD3.out.form
              subst hv'
              clear hown' hgrow hnil hloc hg3 HDA
              go_wp2
              go_roundw
              case rel =>
                refine ⟨k + 1, r, v2, s2, y ++ [(s.data.toList, (s1.T.length : Int))], names ++ [s], da', dc', by omega, by go_num, rfl, by simp; omega, by have := HK.out; simp only [SL.len] at this; show _ = _; omega, HRest, HW3, HG2, HF3, HRR, HOL, ?_, HD3, HV3⟩
                obtain ⟨z1, z2, z3⟩ := HT1.out
                refine ⟨by rw [HT2.out, z1]; simp, by simp [z2], fun t ht => ?_⟩
                rcases List.mem_append.1 ht with ht | ht
                · exact z3 t ht
                · simp at ht; subst ht; exact HS.out
              case measure => simp [intOf]; omega
            · go_wp2
              go_roundw
              case rel =>
                refine ⟨k + 1, r, v2, s2, y, names, da, dc, by omega, by go_num, rfl, by omega, by have := HK.out; simp only [SL.len] at this; show _ = _; omega, HRest, HW2, HG2, HF2, HRR, HOL, ?_, HD2, HVD2⟩
                obtain ⟨z1, z2, z3⟩ := HT1.out
                exact ⟨by rw [HT2.out, z1, if_neg k1, List.append_nil], z2, z3⟩
              case measure => simp [intOf]; omega
      · have hkn : k = n := by omega
        have hr : r = .nil := by cases r with
          | nil => rfl
          | cons kd s c a d e r => have := HK.out; simp only [SL.len] at this; omega
        subst hr
        have HRR : Hid (res = .ok ⟨st.T, s1.out, s1.most⟩) := HR1.out.symm
        obtain ⟨z1, z2, z3⟩ := HT1.out
        have HY : Hid (y.map (fun x => x.1) = names.map (fun s => s.data.toList)) := z2
        have HZ1 : Hid (s1.T = st.T ++ y) := z1
        have HZ3 : Hid (∀ s ∈ names, s.size ≤ maxLen) := z3
        have HYL : Hid (y.length = names.length) := by show _ = _; have := congrArg List.length z2; simpa using this
        clear z1 z2 z3
        rcases Nat.eq_zero_or_pos names.length with h0 | hpos
        · have HW9 : Hid (WSt wr pb mb base cells v1 ⟨st.T, s1.out, s1.most⟩) := by
            have hy : y = [] := List.eq_nil_of_length_eq_zero (by rw [HYL.out, h0])
            have := HW1.out
            have hT : s1.T = st.T := by rw [HZ1.out, hy, List.append_nil]
            obtain ⟨T, out, most⟩ := s1
            cases hT
            exact this
          rw [h0]
          go_wp2
          go_rounds 1
          go_ret
          rw [HRR.out]
          exact ⟨rfl, v1, HW9.out, HF1.out⟩
        · obtain ⟨g, hda, hcells, hgb, hgw⟩ : ∃ g, da = some ⟨g, 0, none⟩ ∧ (∀ j (hj : j < names.length), wr.cell? ⟨g, j, none⟩ = some (.string names[j])) ∧ w.heap.size ≤ g ∧ g < wr.heap.size := by
            have hlt' := HD1.out.own
            have hce := fun g => World.ownsRow.cells HD1.out (g := g)
            rcases HD1.out.2 with ⟨_, h⟩ | ⟨g, cap', cur, e1, _⟩
            · omega
            · injection e1 with e1 e2 e3
              subst e1
              refine ⟨g, rfl, fun j hj => ?_, (hlt' g rfl).1, (hlt' g rfl).2⟩
              have := hce g rfl j (.string names[j]) (by rw [List.getElem?_map, List.getElem?_eq_getElem hj]; rfl)
              rw [← this]
              congr 1
              simp [Addr.add]
          subst hda
          have HCL : Hid (∀ j (hj : j < names.length), wr.cell? ⟨g, j, none⟩ = some (.string names[j])) := hcells
          have hcap : names.length ≤ dc := by
            rcases HD1.out.2 with ⟨h, _⟩ | ⟨g', cap', cur, e1, _, _, e4, _⟩
            · cases h
            · injection e1 with e1 e2 e3; omega
          have hdcm : dc ≤ maxLen := by
            rcases HD1.out.2 with ⟨h, _⟩ | ⟨g', cap', cur, e1, _, _, e4, e5, _⟩
            · cases h
            · injection e1 with e1 e2 e3; omega
          unfold maxLen at hdcm
          obtain ⟨m, hm⟩ : ∃ m, names.length = m := ⟨_, rfl⟩
          have HM : Hid (names.length = m) := hm
          rw [hm] at hpos hnl hcap ⊢
          clear hcells hm HD1 HV1
          have HW0 : Hid (WSt wr pb mb base cells v1 ⟨st.T ++ y.drop 0, s1.out, s1.most⟩) := by
            have := HW1.out
            have hT := HZ1.out
            obtain ⟨T, out, most⟩ := s1
            cases hT
            exact this
          have HND : Hid (((st.T ++ y).map fun x => x.1).Nodup) := HZ1.out ▸ HG1.out.nd
          have HPB : Hid (pb < base ∧ mb < base) := ⟨HW1.out.pl, HW1.out.ml⟩
          go_wp2
          go_loopw [34] (fun i wj => ∃ j : Nat, j ≤ m ∧ i = .int .i64 (j : Int) ∧ Hid (WSt wj pb mb base cells v1 ⟨st.T ++ y.drop j, s1.out, s1.most⟩) ∧ Hid (FW pb mb w wj v v1) ∧ Hid (SameB wr g wj)) (fun i _ => m - (intOf i).toNat)
          case atStart => exact ⟨0, Nat.zero_le _, rfl, HW0, HF1, ⟨rfl, hgw⟩⟩
          case round =>
            obtain ⟨j, hj, rfl, HWj, HFj, HGj⟩ := hrel
            by_cases hjl : j < m
            · have hjn : j < names.length := by have := HM.out; omega
              have hjy : j < y.length := by rw [HYL.out]; exact hjn
              obtain ⟨nm, hnm⟩ : ∃ nm, names[j] = nm := ⟨_, rfl⟩
              have xj : wr.cell? ⟨g, j, none⟩ = some (.string nm) := by
                rw [← hnm]; exact (World.cell?_of_block (a := ⟨g, j, none⟩) HGj.out.1).trans (HCL.out j hjn)
              have hgj : g < wr.heap.size := HGj.out.2
              have hyj : y[j].1 = nm.data.toList := by
                rw [← hnm]
                have := HY.out
                have e1 : (y.map (fun x => x.1))[j]? = some y[j].1 := by rw [List.getElem?_map, List.getElem?_eq_getElem hjy]; rfl
                rw [this, List.getElem?_map, List.getElem?_eq_getElem hjn] at e1
                injection e1 with e1
                exact e1.symm
              have hsz : nm.size ≤ maxLen := hnm ▸ HZ3.out _ (List.getElem_mem hjn)
              have hdr : y.drop j = (nm.data.toList, y[j].2) :: y.drop (j + 1) := by
                rw [List.drop_eq_getElem_cons hjy, ← hyj]
              have hw := HWj.out
              rw [hdr] at hw
              have hnd : ((st.T ++ (nm.data.toList, y[j].2) :: y.drop (j + 1)).map fun x => x.1).Nodup := by
                rw [← hdr]
                exact List.Nodup.sublist (List.Sublist.map _ (List.Sublist.append_left (List.drop_sublist j y) st.T)) HND.out
              obtain ⟨D, m1, m2⟩ := hw.map
              have HWS : Hid (WSt wr pb mb base cells v1 ⟨st.T ++ (nm.data.toList, y[j].2) :: y.drop (j + 1), s1.out, s1.most⟩) := hw
              have HMm : Hid _ := m1
              have HRep : Hid (Rep (st.T ++ (nm.data.toList, y[j].2) :: y.drop (j + 1)) D) := m2
              have HN2 : Hid (((st.T ++ (nm.data.toList, y[j].2) :: y.drop (j + 1)).map fun x => x.1).Nodup) := hnd
              have HKey : Hid (keyOf Try.prog 9 (.string nm) = some (kl nm.data.toList)) := keyOf_string_mk Try.underlying9 hsz
              have c0 := hw.c0
              clear hw m1 m2 hnd hdr hyj hnm
              go_wp2_with (at_delete; refine wpList_delete_own _ rfl _ _ 51 9 rfl 3 law9 Try.underlying51 _ mb _ D rfl HMm.out _ _ rfl HKey.out ?_; intro w5 hown5 hturn5)
              obtain ⟨hw5, hf5⟩ := HWS.out.gone HRep.out HN2.out hown5 hturn5.grown
              have HW5 : Hid _ := hw5
              have HF5 : Hid _ := HFj.out.trans hf5
              have HG6 : Hid (SameB _ g w5) := ⟨(hturn5.grown.block g hgj (by intro e; cases e; have := HPB.out.2; omega)).trans HGj.out.1, Nat.lt_of_lt_of_le hgj hturn5.grown.size⟩
              clear hw5 hf5 hown5 hturn5
              go_wp2
              go_roundw
              case rel => exact ⟨j + 1, by omega, by go_num, HW5, HF5, HG6⟩
              case measure => simp [intOf]; omega
            · have hjm : j = m := by omega
              have HW9 : Hid (WSt wr pb mb base cells v1 ⟨st.T, s1.out, s1.most⟩) := by
                have := HWj.out
                rw [List.drop_of_length_le (by rw [HYL.out, HM.out]; omega), List.append_nil] at this
                exact this
              go_wp2
              go_ret
              rw [HRR.out]
              exact ⟨rfl, v1, HW9.out, HFj.out⟩
end Go.Proofs.Ytiafdlebggegfab
