/- A walker's calls over expressions. -/
import Derived.Test.YtiafdlebggegfabUse
namespace Go.Proofs.Ytiafdlebggegfab
open Go.RowKit Go.Maps Go.WideMaps
set_option linter.unusedVariables false

def eV (k n : Int) (s : ByteArray) (p : Int) (va : Value) : Value := .agg #[.int .i64 k, .int .i64 n, .string s, .int .i64 p, va]
/-- what one expression gives -/
def useES (st : Sta) (k : Int) (s : ByteArray) (a : EL) : Res := if k = 2 then usedS st s else useS st a
theorem useS_cons (st : Sta) (k n : Int) (s : ByteArray) (p : Int) (a r : EL) : useS st (.cons k n s p a r) = (useES st k s a).andThen (fun s1 => useS s1 r) := by
  unfold useES useS usedS
  rw [useL_cons]
  unfold useE
  by_cases h : k = 2
  · rw [if_pos h, if_pos h]
    cases find st.T s.data.toList <;> rfl
  · rw [if_neg h, if_neg h]
    cases useL st.T a st.out <;> rfl
theorem useES_pre {st st1 : Sta} {k : Int} {s : ByteArray} {a : EL} (h : useES st k s a = .ok st1) : st1.T = st.T ∧ st1.most = st.most ∧ st1.out.length ≤ st.out.length + a.cnt + 1 := by
  unfold useES at h
  split at h
  · unfold usedS at h
    split at h
    · cases h; exact ⟨rfl, rfl, by simp <;> omega⟩
    · cases h
  · obtain ⟨h1, h2, x, h3, h4⟩ := useS_pre h
    exact ⟨h1, h2, by rw [h3]; simp; omega⟩

/-- trees lie in the world W; a walker lies behind it -/
structure Ctx (W : World) (pb mb base : Nat) : Prop where
  p : W.heap.size ≤ pb
  m : W.heap.size ≤ mb
  b : W.heap.size ≤ base
theorem Ctx.below {W w w' : World} {pb mb base : Nat} {cells : Int} {v v' : Value} {st : Sta} (c : Ctx W pb mb base) (h : WSt w pb mb base cells v st) (f : FW pb mb w w' v v') (hb : Below W.heap.size W w) : Below W.heap.size W w' :=
  hb.trans (f.below hb.size c.p c.m (fun k hk => Nat.le_trans c.b (h.ints.own k hk).1))

/-- the contract of exprs at a row -/
def ExprsC (W : World) (pb mb base : Nat) (cells : Int) (l : EL) : Prop := ∀ (va : Value) (w : World) (v : Value) (st : Sta), ESl W va l → WSt w pb mb base cells v st → Below W.heap.size W w → st.out.length + l.cnt ≤ 1000000000 →
  Calls Try.prog 27 #[.pointer (some ⟨pb, 0, none⟩), va] w (RPost pb mb base cells w v (useS st l))

set_option maxRecDepth 100000 in
set_option maxHeartbeats 2000000 in
theorem expr_of (W : World) (pb mb base : Nat) (cells : Int) (k n : Int) (s : ByteArray) (p : Int) (a : EL) (hc : ExprsC W pb mb base cells a) (ad : Option Addr) (cap : Nat) (hE : ESl W (.slice ad a.len cap) a) (w : World) (v : Value) (st : Sta) (h : WSt w pb mb base cells v st) (hb : Below W.heap.size W w) (hs : s.size ≤ maxLen) (hl : st.out.length + (a.cnt + 1) ≤ 1000000000) :
    Calls Try.prog 33 #[.pointer (some ⟨pb, 0, none⟩), eV k n s p (.slice ad a.len cap)] w (RPost pb mb base cells w v (useES st k s a)) := by
  have HW : Hid (∀ o, WSt (w.alloc o) pb mb base cells v st) := fun o => h.below ((Below.refl _ _).alloc (Nat.le_refl _) o)
  have HB : Hid (∀ o, Below w.heap.size w (w.alloc o)) := fun o => (Below.refl _ _).alloc (Nat.le_refl _) o
  have HBW : Hid (∀ o, Below W.heap.size W (w.alloc o)) := fun o => hb.alloc hb.size o
  have HC : Hid (ExprsC W pb mb base cells a) := hc
  have HE : Hid (ESl W (.slice ad a.len cap) a) := hE
  clear h hb hc hE
  unfold useES eV
  by_cases k2 : k = 2
  · subst k2
    rw [if_pos rfl]
    rcases hr : usedS st s with x | st1
    · have HR : Hid (usedS st s = .err x) := hr
      clear hr
      go_enter Try.func33, Try.ntmps33
      go_wp2_with fail
      refine (use_any pb mb base cells v st s _ (HW.out _) hs (by omega)).mono ?_
      intro e w2 hp
      rw [HR.out] at hp
      replace hp := hp.after0 (HB.out _)
      obtain ⟨rfl, hx, hp⟩ := hp
      have HP : Hid _ := hp
      clear hp
      go_wp2
      go_ret
      exact ⟨rfl, hx, HP.out⟩
    · have HR : Hid (usedS st s = .ok st1) := hr
      clear hr
      go_enter Try.func33, Try.ntmps33
      go_wp2_with fail
      refine (use_any pb mb base cells v st s _ (HW.out _) hs (by omega)).mono ?_
      intro e w2 hp
      rw [HR.out] at hp
      replace hp := hp.after0 (HB.out _)
      obtain ⟨rfl, hp⟩ := hp
      have HP : Hid _ := hp
      clear hp
      go_wp2
      go_ret
      exact ⟨rfl, HP.out⟩
  · rw [if_neg k2]
    rcases hr : useS st a with x | st1
    · have HR : Hid (useS st a = .err x) := hr
      clear hr
      go_enter Try.func33, Try.ntmps33
      go_wp2_with fail
      refine (HC.out _ _ v st HE.out (HW.out _) (HBW.out _) (by omega)).mono ?_
      intro e w2 hp
      rw [HR.out] at hp
      replace hp := hp.after0 (HB.out _)
      obtain ⟨rfl, hx, hp⟩ := hp
      have HP : Hid _ := hp
      clear hp
      go_wp2
      go_ret
      exact ⟨rfl, hx, HP.out⟩
    · have HR : Hid (useS st a = .ok st1) := hr
      clear hr
      go_enter Try.func33, Try.ntmps33
      go_wp2_with fail
      refine (HC.out _ _ v st HE.out (HW.out _) (HBW.out _) (by omega)).mono ?_
      intro e w2 hp
      rw [HR.out] at hp
      replace hp := hp.after0 (HB.out _)
      obtain ⟨rfl, hp⟩ := hp
      have HP : Hid _ := hp
      clear hp
      go_wp2
      go_ret
      exact ⟨rfl, HP.out⟩

set_option maxRecDepth 100000 in
set_option maxHeartbeats 4000000 in
theorem exprs_any (W : World) (pb mb base : Nat) (cells : Int) (cx : Ctx W pb mb base) : ∀ (N : Nat) (l : EL), l.cnt ≤ N → ExprsC W pb mb base cells l := by
  intro N
  induction N with
  | zero =>
    intro l hN va w v st hE h hb hl
    have : l = .nil := by cases l with
      | nil => rfl
      | cons k n s p a r => simp only [EL.cnt] at hN; omega
    subst this
    obtain ⟨ad, cap, b, o, rfl, h1, h2, h3, h4⟩ := hE
    have HW : Hid (WSt w pb mb base cells v st) := h
    clear h hb hN h3 h4
    go_enter Try.func27, Try.ntmps27
    go_wp2
    go_rounds 1
    go_ret
    exact ⟨rfl, v, HW.out, FW.refl _ _ _ _⟩
  | succ N ih =>
    intro l hN va w v st hE h hb hl
    obtain ⟨ad, cap, b, o, rfl, h1, h2, h3, h4⟩ := hE
    have HI : Hid (∀ l : EL, l.cnt ≤ N → ExprsC W pb mb base cells l) := ih
    have HW : Hid (WSt w pb mb base cells v st) := h
    have HB0 : Hid (Below W.heap.size W w) := hb
    have HE0 : Hid (EAt W l b o) := h4
    have HN : Hid (l.cnt ≤ N + 1) := hN
    have HL : Hid (st.out.length + l.cnt ≤ 1000000000) := hl
    obtain ⟨n, hn⟩ : ∃ n, l.len = n := ⟨_, rfl⟩
    have HLN : Hid (l.len = n) := hn
    rw [hn] at h1 h3 ⊢
    have hn9 : n ≤ 1000000000 := by have := l.len_le; omega
    obtain ⟨res, hres⟩ : ∃ r, useS st l = r := ⟨_, rfl⟩
    have HRES : Hid (useS st l = res) := hres
    rw [hres]
    clear ih h hb h4 hN hl hn hres
    unfold maxLen at h2
    go_enter Try.func27, Try.ntmps27
    go_wp2
    go_loopw [10] (fun i wr => ∃ (k : Nat) (r : EL) (v1 : Value) (s1 : Sta), k ≤ n ∧ i = .int .i64 (k : Int) ∧ Hid (k + r.len = n) ∧ Hid (EAt W r b (o + 5 * k)) ∧ Hid (WSt wr pb mb base cells v1 s1) ∧ Hid (FW pb mb w wr v v1) ∧ Hid (useS s1 r = res) ∧ Hid (s1.out.length + r.cnt ≤ 1000000000 ∧ r.cnt ≤ N + 1)) (fun i _ => n - (intOf i).toNat)
    case atStart => exact ⟨0, l, v, st, Nat.zero_le _, rfl, by show _ = _; rw [Nat.zero_add]; exact HLN.out, HE0, HW, FW.refl _ _ _ _, HRES, ⟨HL.out, HN.out⟩⟩
    case round =>
      obtain ⟨k, r, v1, s1, hk, rfl, HK, HE, HW1, HF1, HR1, HC1⟩ := hrel
      have HBr : Hid (Below W.heap.size W wr) := cx.below HW.out HF1.out HB0.out
      by_cases hlt : k < n
      · have e0 := h3 (by omega)
        subst e0
        cases r with
        | nil => have := HK.out; simp only [EL.len] at this; omega
        | cons kd nm s p a r =>
          obtain ⟨q0, q1, q2, q3, q4, ⟨ad', cap', b', o', q5, q6, q7, q8, q9⟩, q10⟩ := HE.out
          have hbl : b < W.heap.size := World.block_lt_of_cell? W ⟨b, o + 5 * k, none⟩ q0
          have hbw : b < wr.heap.size := Nat.lt_of_lt_of_le hbl HBr.out.size
          have x0 : wr.cell? ⟨b, o + k * 5, none⟩ = some (.int .i64 kd) := by rw [Nat.mul_comm k 5]; exact (HBr.out.cell (p := ⟨b, o + 5 * k, none⟩) hbl).trans q0
          have x1 : wr.cell? ⟨b, o + k * 5 + 1, none⟩ = some (.int .i64 nm) := by rw [Nat.mul_comm k 5]; exact (HBr.out.cell (p := ⟨b, o + 5 * k + 1, none⟩) hbl).trans q1
          have x2 : wr.cell? ⟨b, o + k * 5 + 2, none⟩ = some (.string s) := by rw [Nat.mul_comm k 5]; exact (HBr.out.cell (p := ⟨b, o + 5 * k + 2, none⟩) hbl).trans q2
          have x3 : wr.cell? ⟨b, o + k * 5 + 3, none⟩ = some (.int .i64 p) := by rw [Nat.mul_comm k 5]; exact (HBr.out.cell (p := ⟨b, o + 5 * k + 3, none⟩) hbl).trans q3
          have x4 : wr.cell? ⟨b, o + k * 5 + 4, none⟩ = some (.slice ad' a.len cap') := by rw [Nat.mul_comm k 5]; exact (HBr.out.cell (p := ⟨b, o + 5 * k + 4, none⟩) hbl).trans q5
          have HA : Hid (ESl W (.slice ad' a.len cap') a) := ⟨ad', cap', b', o', rfl, q6, q7, q8, q9⟩
          have HS : Hid (s.size ≤ maxLen) := q4
          have HRest : Hid (EAt W r b (o + 5 * (k + 1))) := by have := q10; rw [show o + 5 * (k + 1) = o + 5 * k + 5 by omega]; exact this
          have HCa : Hid (ExprsC W pb mb base cells a) := HI.out a (by have := HC1.out.2; simp only [EL.cnt] at this; omega)
          have HWA : Hid (∀ o, WSt (wr.alloc o) pb mb base cells v1 s1) := fun o => HW1.out.below ((Below.refl _ _).alloc (Nat.le_refl _) o)
          have HBA : Hid (∀ o, Below W.heap.size W (wr.alloc o)) := fun o => HBr.out.alloc HBr.out.size o
          have HBB : Hid (∀ o, Below wr.heap.size wr (wr.alloc o)) := fun o => (Below.refl _ _).alloc (Nat.le_refl _) o
          have hcn : s1.out.length + (a.cnt + 1) ≤ 1000000000 := by have := HC1.out.1; simp only [EL.cnt] at this; omega
          clear q0 q1 q2 q3 q4 q5 q6 q7 q8 q9 q10
          rcases hr : useES s1 kd s a with x | s2
          · have HR : Hid (useES s1 kd s a = .err x) := hr
            have HRR : Hid (res = .err x) := by show _ = _; rw [← HR1.out, useS_cons, hr]; rfl
            clear hr
            go_wp2_with fail
            refine (expr_of W pb mb base cells kd nm s p a HCa.out ad' cap' HA.out _ v1 s1 (HWA.out _) (HBA.out _) HS.out hcn).mono ?_
            intro e w2 hp
            rw [HR.out] at hp
            replace hp := (hp.after0 (HBB.out _)).pre HF1.out
            obtain ⟨rfl, hx, hp⟩ := hp
            have HP : Hid _ := hp
            clear hp
            go_wp2
            go_ret
            rw [HRR.out]
            exact ⟨rfl, hx, HP.out⟩
          · have HR : Hid (useES s1 kd s a = .ok s2) := hr
            have HRR : Hid (useS s2 r = res) := by show _ = _; rw [← HR1.out, useS_cons, hr]; rfl
            have HOL : Hid (s2.out.length + r.cnt ≤ 1000000000 ∧ r.cnt ≤ N + 1) := by
              have h5 := (useES_pre hr).2.2
              have h6 := HC1.out
              simp only [EL.cnt] at h6
              exact ⟨by omega, by omega⟩
            clear hr
            go_wp2_with fail
            refine (expr_of W pb mb base cells kd nm s p a HCa.out ad' cap' HA.out _ v1 s1 (HWA.out _) (HBA.out _) HS.out hcn).mono ?_
            intro e w2 hp
            rw [HR.out] at hp
            replace hp := (hp.after0 (HBB.out _)).pre HF1.out
            obtain ⟨rfl, v2, hw2, hf2⟩ := hp
            have HW2 : Hid _ := hw2
            have HF2 : Hid _ := hf2
            clear hw2 hf2
            go_wp2
            go_roundw
            case rel => exact ⟨k + 1, r, v2, s2, by omega, by go_num, by have := HK.out; simp only [EL.len] at this; show _ = _; omega, HRest, HW2, HF2, HRR, HOL⟩
            case measure => simp [intOf]; omega
      · have hkn : k = n := by omega
        have hr : r = .nil := by cases r with
          | nil => rfl
          | cons kd nm s p a r => have := HK.out; simp only [EL.len] at this; omega
        subst hr
        have HRR : Hid (res = .ok s1) := HR1.out.symm
        go_wp2
        go_ret
        rw [HRR.out]
        exact ⟨rfl, v1, HW1.out, HF1.out⟩
end Go.Proofs.Ytiafdlebggegfab
