/- A walker's call over one statement. -/
import Derived.Test.YtiafdlebggegfabExprs
namespace Go.Proofs.Ytiafdlebggegfab
open Go.RowKit Go.Maps Go.WideMaps
set_option linter.unusedVariables false

/-- what is always so of the names that are there -/
structure Good (st : Sta) : Prop where
  nd : (st.T.map fun x => x.1).Nodup
  lo : 3 ≤ st.T.length
  hi : st.T.length ≤ 11
  m0 : 0 ≤ st.most
  m1 : st.most ≤ 8
theorem good0 : Good st0 := ⟨by decide, by decide, by decide, by decide, by decide⟩
theorem find_none {T : Tab} {s : List UInt8} (h : find T s = none) : s ∉ T.map fun x => x.1 := by
  intro hm
  obtain ⟨x, hx, rfl⟩ := List.mem_map.1 hm
  unfold find at h
  rw [Option.map_eq_none_iff, List.find?_eq_none] at h
  have := h x hx
  simp at this
theorem ownS_good {cells k : Int} {s : ByteArray} {c : Int} {st st1 : Sta} (g : Good st) (h : ownS cells k s c st = .ok st1) : Good st1 ∧ st1.T = st.T ++ (if k = 1 then [(s.data.toList, (st.T.length : Int))] else []) := by
  unfold ownS at h
  split at h
  · rename_i hk
    split at h
    · cases h
    · rename_i hf
      split at h
      · cases h
      · rename_i hl
        cases h
        rw [if_pos hk]
        refine ⟨⟨?_, ?_, ?_, ?_, ?_⟩, rfl⟩
        · simp only [List.map_append, List.map_cons, List.map_nil]
          rw [List.nodup_append]
          refine ⟨g.nd, by simp, ?_⟩
          intro a ha b hb e
          simp at hb
          rw [e, hb] at ha
          exact find_none hf ha
        · have := g.lo; simp; omega
        · simp; omega
        · have := g.m0; show 0 ≤ max _ _; omega
        · have := g.m1; show max _ _ ≤ (8 : Int); omega
  · rename_i hk
    rw [if_neg hk, List.append_nil]
    split at h
    · split at h
      · cases h; exact ⟨⟨g.nd, g.lo, g.hi, g.m0, g.m1⟩, rfl⟩
      · cases h
    · split at h
      · split at h
        · cases h
        · cases h; exact ⟨g, rfl⟩
      · cases h; exact ⟨g, rfl⟩
theorem useS_good {st st1 : Sta} {a : EL} (g : Good st) (h : useS st a = .ok st1) : Good st1 ∧ st1.T = st.T := by
  obtain ⟨h1, h2, _⟩ := useS_pre h
  exact ⟨⟨h1 ▸ g.nd, h1 ▸ g.lo, h1 ▸ g.hi, h2 ▸ g.m0, h2 ▸ g.m1⟩, h1⟩
theorem runL_good (cells : Int) : ∀ (l : SL) (st st1 : Sta), Good st → runL cells l st = .ok st1 → Good st1 := by
  intro l
  induction l with
  | nil => intro st st1 g h; cases h; exact g
  | cons k s c a b e r ihb ihe ihr =>
    intro st st1 g h
    rw [runL_cons] at h
    obtain ⟨s4, h4, h5⟩ := andThen_ok h
    unfold runS at h4
    obtain ⟨s3, h3, h4⟩ := andThen_ok h4
    obtain ⟨s2, h2, h3⟩ := andThen_ok h3
    obtain ⟨s1, h1, h2⟩ := andThen_ok h2
    have g1 := (useS_good g h1).1
    have g2 := (ownS_good g1 h2).1
    obtain ⟨s3', h3', rfl⟩ := shut_ok h3
    have g3 := ihb _ _ g2 h3'
    obtain ⟨s4', h4', rfl⟩ := shut_ok h4
    have g4 := ihe ⟨s2.T, s3'.out, s3'.most⟩ _ ⟨g2.nd, g2.lo, g2.hi, g3.m0, g3.m1⟩ h4'
    exact ihr ⟨s2.T, s4'.out, s4'.most⟩ _ ⟨g2.nd, g2.lo, g2.hi, g4.m0, g4.m1⟩ h5
theorem shutL_good {cells : Int} {l : SL} {st st1 : Sta} (g : Good st) (h : (runL cells l st).shut st.T = .ok st1) : Good st1 ∧ st1.T = st.T ∧ st1.out.length ≤ st.out.length + l.cnt := by
  obtain ⟨s1, h1, rfl⟩ := shut_ok h
  have g1 := runL_good cells l _ _ g h1
  obtain ⟨x, y, e1, l1, _⟩ := runL_pre cells l _ _ h1
  exact ⟨⟨g.nd, g.lo, g.hi, g1.m0, g1.m1⟩, rfl, by show s1.out.length ≤ _; rw [e1]; simp; omega⟩
theorem runS_good {cells k : Int} {s : ByteArray} {c : Int} {a : EL} {b e : SL} {st st1 : Sta} (g : Good st) (h : runS cells k s c a b e st = .ok st1) : Good st1 ∧ st1.T = st.T ++ (if k = 1 then [(s.data.toList, (st.T.length : Int))] else []) ∧ st1.out.length ≤ st.out.length + (a.cnt + b.cnt + e.cnt + 1) := by
  unfold runS at h
  obtain ⟨s3, h3, h4⟩ := andThen_ok h
  obtain ⟨s2, h2, h3⟩ := andThen_ok h3
  obtain ⟨s1, h1, h2⟩ := andThen_ok h2
  obtain ⟨g1, t1⟩ := useS_good g h1
  obtain ⟨_, _, x1, o1, l1⟩ := useS_pre h1
  obtain ⟨g2, t2⟩ := ownS_good g1 h2
  obtain ⟨x2, _, o2, l2, _⟩ := ownS_pre h2
  obtain ⟨g3, t3, l3⟩ := shutL_good g2 h3
  obtain ⟨g4, t4, l4⟩ := shutL_good g3 h4
  refine ⟨g4, by rw [t4, t3, t2, t1], ?_⟩
  rw [o2, o1] at l3
  simp at l3
  omega

/-- six cells of a block -/
structure Six (w : World) (b : Nat) (v0 v1 v2 v3 v4 v5 : Value) : Prop where
  c0 : w.cell? ⟨b, 0, none⟩ = some v0
  c1 : w.cell? ⟨b, 1, none⟩ = some v1
  c2 : w.cell? ⟨b, 2, none⟩ = some v2
  c3 : w.cell? ⟨b, 3, none⟩ = some v3
  c4 : w.cell? ⟨b, 4, none⟩ = some v4
  c5 : w.cell? ⟨b, 5, none⟩ = some v5
theorem Six.keep {w w' : World} {b : Nat} {v0 v1 v2 v3 v4 v5 : Value} (h : Six w b v0 v1 v2 v3 v4 v5) (hb : w'.heap[b]? = w.heap[b]?) : Six w' b v0 v1 v2 v3 v4 v5 :=
  ⟨(World.cell?_of_block (w := w) (a := ⟨b, 0, none⟩) hb).trans h.c0, (World.cell?_of_block (w := w) (a := ⟨b, 1, none⟩) hb).trans h.c1, (World.cell?_of_block (w := w) (a := ⟨b, 2, none⟩) hb).trans h.c2, (World.cell?_of_block (w := w) (a := ⟨b, 3, none⟩) hb).trans h.c3, (World.cell?_of_block (w := w) (a := ⟨b, 4, none⟩) hb).trans h.c4, (World.cell?_of_block (w := w) (a := ⟨b, 5, none⟩) hb).trans h.c5⟩
theorem Six.new (w : World) (v0 v1 v2 v3 v4 v5 : Value) (t : TypeId) : Six (w.alloc (.cells #[v0, v1, v2, v3, v4, v5] t)) w.heap.size v0 v1 v2 v3 v4 v5 := ⟨by simp, by simp, by simp, by simp, by simp, by simp⟩
/-- a block that is none of the walker's stands -/
theorem FW.stands {pb mb base g : Nat} {w w' : World} {cells : Int} {v v' : Value} {st : Sta} (f : FW pb mb w w' v v') (h : WSt w pb mb base cells v st) (hg : g < w.heap.size) (hb : base ≤ g) (hv : ∀ k, v.ownBlock = some k → k ≠ g) : w'.heap[g]? = w.heap[g]? := by
  have := h.pl
  have := h.ml
  exact f.block g hg (by omega) (by omega) (fun e => hv g e.symm rfl)
theorem FW.other {pb mb g : Nat} {w w' : World} {v v' : Value} (f : FW pb mb w w' v v') (hg : g < w.heap.size) (hv : ∀ k, v.ownBlock = some k → k ≠ g) : ∀ k, v'.ownBlock = some k → k ≠ g := by
  intro k hk e
  rcases f.loc k hk with h | h
  · exact hv k h e
  · omega

def BlockC (W : World) (pb mb base : Nat) (cells : Int) (l : SL) : Prop := ∀ (va : Value) (w : World) (v : Value) (st : Sta), SSl W va l → WSt w pb mb base cells v st → Good st → Below W.heap.size W w → st.out.length + l.cnt ≤ 1000000000 →
  Calls Try.prog 17 #[.pointer (some ⟨pb, 0, none⟩), va] w (RPost pb mb base cells w v ((runL cells l st).shut st.T))

set_option maxRecDepth 100000 in
set_option maxHeartbeats 4000000 in
theorem stmt_of (W : World) (pb mb base : Nat) (cells : Int) (cx : Ctx W pb mb base) (k : Int) (s : ByteArray) (c : Int) (a : EL) (b e : SL) (hb : BlockC W pb mb base cells b) (he : BlockC W pb mb base cells e) (aa ab ae : Option Addr) (ca cb ce : Nat) (hA : ESl W (.slice aa a.len ca) a) (hB : SSl W (.slice ab b.len cb) b) (hE : SSl W (.slice ae e.len ce) e) (w : World) (v : Value) (st : Sta) (h : WSt w pb mb base cells v st) (hg : Good st) (hbw : Below W.heap.size W w) (hs : s.size ≤ maxLen) (hl : st.out.length + (a.cnt + b.cnt + e.cnt + 1) ≤ 1000000000) :
    Calls Try.prog 23 #[.pointer (some ⟨pb, 0, none⟩), sV k s c (.slice aa a.len ca) (.slice ab b.len cb) (.slice ae e.len ce)] w (RPost pb mb base cells w v (runS cells k s c a b e st)) := by
  have hB1 : ∀ o, Below w.heap.size w (w.alloc o) := fun o => (Below.refl _ _).alloc (Nat.le_refl _) o
  have HW1 : Hid (∀ o, WSt (w.alloc o) pb mb base cells v st) := fun o => h.below (hB1 o)
  have HF1 : Hid (∀ o, FW pb mb w (w.alloc o) v v) := fun o => (FW.refl _ _ _ _).after (hB1 o)
  have HBW1 : Hid (∀ o, Below W.heap.size W (w.alloc o)) := fun o => hbw.trans ((hB1 o).mono hbw.size)
  have hbg : base ≤ w.heap.size := h.bs
  have hv1 : ∀ k, v.ownBlock = some k → k ≠ w.heap.size := fun k hk e => by have := (h.ints.own k hk).2; omega
  have HS2 : Hid (∀ v2 w2, FW pb mb (w.alloc (.cells #[.int .i64 k, .string s, .int .i64 c, .slice aa a.len ca, .slice ab b.len cb, .slice ae e.len ce] 43)) w2 v v2 → Six w2 w.heap.size (.int .i64 k) (.string s) (.int .i64 c) (.slice aa a.len ca) (.slice ab b.len cb) (.slice ae e.len ce) ∧ (∀ k, v2.ownBlock = some k → k ≠ w.heap.size) ∧ w.heap.size < w2.heap.size) := fun v2 w2 f =>
    ⟨(Six.new w _ _ _ _ _ _ 43).keep (f.stands (h.below (hB1 _)) (by simp) hbg hv1), f.other (by simp) hv1, Nat.lt_of_lt_of_le (by simp) f.size⟩
  have HA : Hid (ESl W (.slice aa a.len ca) a) := hA
  have HBd : Hid (SSl W (.slice ab b.len cb) b) := hB
  have HEl : Hid (SSl W (.slice ae e.len ce) e) := hE
  have HCB : Hid (BlockC W pb mb base cells b) := hb
  have HCE : Hid (BlockC W pb mb base cells e) := he
  have HG : Hid (Good st) := hg
  have HBW : Hid (Below W.heap.size W w) := hbw
  have HW : Hid (WSt w pb mb base cells v st) := h
  clear hb he hA hB hE h hg hbw hB1 hv1
  obtain ⟨res, hres⟩ : ∃ r, runS cells k s c a b e st = r := ⟨_, rfl⟩
  have HRES : Hid (runS cells k s c a b e st = res) := hres
  rw [hres]
  clear hres
  unfold sV
  go_enter Try.func23, Try.ntmps23
  go_wp2_with fail
  refine (exprs_any W pb mb base cells cx _ a (Nat.le_refl _) _ _ v st HA.out (HW1.out _) (HBW1.out _) (by omega)).mono ?_
  intro e1 w2 hp
  rcases r1 : useS st a with x | s1
  · rw [r1] at hp
    obtain ⟨rfl, hx, v2, hf2⟩ := hp
    have HRR : Hid (res = .err x) := by show _ = _; rw [← HRES.out]; unfold runS; rw [r1]; rfl
    have HF2 : Hid _ := (HF1.out _).trans hf2
    clear hf2 r1
    go_wp2
    go_ret
    rw [HRR.out]
    exact ⟨rfl, hx, v2, HF2.out⟩
  · rw [r1] at hp
    obtain ⟨rfl, v2, hw2, hf2⟩ := hp
    obtain ⟨S2, hv2, hsz2⟩ := HS2.out v2 w2 hf2
    obtain ⟨g1, t1⟩ := useS_good HG.out r1
    have l1 : s1.out.length ≤ st.out.length + a.cnt := by obtain ⟨_, _, x1, o1, l1⟩ := useS_pre r1; rw [o1]; simp; omega
    have HF2 : Hid (FW pb mb w w2 v v2) := (HF1.out _).trans hf2
    have HW2 : Hid (WSt w2 pb mb base cells v2 s1) := hw2
    have HB2 : Hid (Below W.heap.size W w2) := cx.below HW.out HF2.out HBW.out
    have HV2 : Hid (∀ k, v2.ownBlock = some k → k ≠ w.heap.size) := hv2
    have HS : Hid _ := S2
    have HR1 : Hid (useS st a = .ok s1) := r1
    have HG1 : Hid (Good s1) := g1
    have hT1 := g1.lo
    have hT2 := g1.hi
    have hm1 := g1.m0
    have hm2 := g1.m1
    obtain ⟨x0, x1, x2, x3, x4, x5⟩ := S2
    clear hf2 hw2 hv2 r1 g1 t1
    go_wp2_with fail
    refine (own_any pb mb base cells k v2 s1 s c aa ab ae _ ca _ cb _ ce w2 HW2.out hs (by omega) hT1 hm1 (by omega) (by omega)).mono ?_
    intro e1 w3 hp
    rcases r2 : ownS cells k s c s1 with x | s2
    · rw [r2] at hp
      obtain ⟨rfl, hx, v3, hf3⟩ := hp
      have HRR : Hid (res = .err x) := by show _ = _; rw [← HRES.out]; unfold runS; rw [HR1.out]; show (((ownS cells k s c s1).andThen _).andThen _) = _; rw [r2]; rfl
      have HF3 : Hid _ := HF2.out.trans hf3
      clear hf3 r2
      go_wp2
      go_ret
      rw [HRR.out]
      exact ⟨rfl, hx, v3, HF3.out⟩
    · rw [r2] at hp
      obtain ⟨rfl, v3, hw3, hf3⟩ := hp
      have S3 := HS.out.keep (hf3.stands HW2.out hsz2 hbg HV2.out)
      have hv3 := hf3.other hsz2 HV2.out
      have hsz3 : w.heap.size < w3.heap.size := Nat.lt_of_lt_of_le hsz2 hf3.size
      obtain ⟨g2, t2⟩ := ownS_good HG1.out r2
      have l2 : s2.out.length ≤ st.out.length + a.cnt + 1 := by obtain ⟨x2, _, o2, l2, _⟩ := ownS_pre r2; rw [o2]; simp; omega
      have HF3 : Hid (FW pb mb w w3 v v3) := HF2.out.trans hf3
      have HW3 : Hid (WSt w3 pb mb base cells v3 s2) := hw3
      have HB3 : Hid (Below W.heap.size W w3) := cx.below HW.out HF3.out HBW.out
      have HV3 : Hid (∀ k, v3.ownBlock = some k → k ≠ w.heap.size) := hv3
      have HS3 : Hid _ := S3
      have HR2 : Hid (ownS cells k s c s1 = .ok s2) := r2
      have HG2 : Hid (Good s2) := g2
      clear x0 x1 x2 x3 x4 x5 hT1 hT2 hm1 hm2
      obtain ⟨x0, x1, x2, x3, x4, x5⟩ := S3
      clear hf3 hw3 hv3 r2 g2 t2
      go_wp2_with fail
      refine (HCB.out _ w3 v3 s2 HBd.out HW3.out HG2.out HB3.out (by omega)).mono ?_
      intro e1 w4 hp
      rcases r3 : (runL cells b s2).shut s2.T with x | s3
      · rw [r3] at hp
        obtain ⟨rfl, hx, v4, hf4⟩ := hp
        have HRR : Hid (res = .err x) := by show _ = _; rw [← HRES.out]; unfold runS; rw [HR1.out]; show (((ownS cells k s c s1).andThen _).andThen _) = _; rw [HR2.out]; show (((runL cells b s2).shut s2.T).andThen _) = _; rw [r3]; rfl
        have HF4 : Hid _ := HF3.out.trans hf4
        clear hf4 r3
        go_wp2
        go_ret
        rw [HRR.out]
        exact ⟨rfl, hx, v4, HF4.out⟩
      · rw [r3] at hp
        obtain ⟨rfl, v4, hw4, hf4⟩ := hp
        have S4 := HS3.out.keep (hf4.stands HW3.out hsz3 hbg HV3.out)
        obtain ⟨g3, t3, l3⟩ := shutL_good HG2.out r3
        have HF4 : Hid (FW pb mb w w4 v v4) := HF3.out.trans hf4
        have HW4 : Hid (WSt w4 pb mb base cells v4 s3) := hw4
        have HB4 : Hid (Below W.heap.size W w4) := cx.below HW.out HF4.out HBW.out
        have HRR : Hid (res = (runL cells e s3).shut s3.T) := by show _ = _; rw [← HRES.out]; unfold runS; rw [HR1.out]; show (((ownS cells k s c s1).andThen _).andThen _) = _; rw [HR2.out]; show (((runL cells b s2).shut s2.T).andThen _) = _; rw [r3]; rfl
        have HG3 : Hid (Good s3) := g3
        clear x0 x1 x2 x3 x4 x5
        obtain ⟨x0, x1, x2, x3, x4, x5⟩ := S4
        clear hf4 hw4 r3 g3 t3
        go_wp2_with fail
        refine (HCE.out _ w4 v4 s3 HEl.out HW4.out HG3.out HB4.out (by omega)).mono ?_
        intro e1 w5 hp
        rw [← HRR.out] at hp
        replace hp := hp.pre HF4.out
        rcases res with x | s4
        · obtain ⟨rfl, hx, hp⟩ := hp
          have HP : Hid _ := hp
          clear hp
          go_wp2
          go_ret
          exact ⟨rfl, hx, HP.out⟩
        · obtain ⟨rfl, hp⟩ := hp
          have HP : Hid _ := hp
          clear hp
          go_wp2
          go_ret
          exact ⟨rfl, HP.out⟩
end Go.Proofs.Ytiafdlebggegfab
