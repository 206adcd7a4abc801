/- What the document takes up: texts and lists; what is left; the end. -/
import Derived.Test.YtjdcoiekbnefkabKRefV
namespace Go.Proofs.Ytjdcoiekbnefkab
open Go.RowKit
set_option linter.unusedVariables false

set_option maxRecDepth 100000 in
set_option maxHeartbeats 400000 in
theorem dleft_ok (a : Option Addr) (n c : Nat) (w : World) (hn : n ≤ 1000000000) : Calls Try.prog 24 #[.agg #[.slice a n c, .int .i64 0]] w fun e w' => e = .returned (.int .i64 (n : Int)) ∧ Below w.heap.size w w' := by
  go_enter Try.func24, Try.ntmps24
  go_wp2
  go_ret
  exact ⟨rfl, (Below.refl _ _).alloc (Nat.le_refl _) _⟩
set_option maxRecDepth 100000 in
set_option maxHeartbeats 400000 in
theorem dleft_err (a : Option Addr) (n c : Nat) (k : Int) (w : World) (hk : (k == 0) = false) : Calls Try.prog 24 #[.agg #[.slice a n c, .int .i64 k]] w fun e w' => e = .returned (.int .i64 0) ∧ Below w.heap.size w w' := by
  have hk0 : ¬ k = 0 := by intro e; rw [e] at hk; exact absurd hk (by decide)
  go_enter Try.func24, Try.ntmps24
  go_wp2
  go_ret
  exact ⟨rfl, (Below.refl _ _).alloc (Nat.le_refl _) _⟩
set_option maxRecDepth 100000 in
set_option maxHeartbeats 400000 in
theorem dend_ok (a : Option Addr) (n c : Nat) (w : World) (hn : n ≤ 1000000000) : Calls Try.prog 27 #[.agg #[.slice a n c, .int .i64 0]] w fun e w' => e = .returned (.int .i64 (if 0 < n then 21 else 0)) ∧ Below w.heap.size w w' := by
  by_cases h : 0 < n
  · have h' : (0 : Int) < (n : Int) := by omega
    rw [if_pos h]
    go_enter Try.func27, Try.ntmps27
    go_wp2
    go_ret
    exact ⟨rfl, (Below.refl _ _).alloc (Nat.le_refl _) _⟩
  · have h' : ¬ (0 : Int) < (n : Int) := by omega
    rw [if_neg h]
    go_enter Try.func27, Try.ntmps27
    go_wp2
    go_ret
    exact ⟨rfl, (Below.refl _ _).alloc (Nat.le_refl _) _⟩
set_option maxRecDepth 100000 in
set_option maxHeartbeats 400000 in
theorem dend_err (a : Option Addr) (n c : Nat) (k : Int) (w : World) (hk : (k == 0) = false) : Calls Try.prog 27 #[.agg #[.slice a n c, .int .i64 k]] w fun e w' => e = .returned (.int .i64 k) ∧ Below w.heap.size w w' := by
  go_enter Try.func27, Try.ntmps27
  go_wp2
  go_ret
  exact ⟨rfl, (Below.refl _ _).alloc (Nat.le_refl _) _⟩

/-- a part of bytes that are read -/
theorem rd_parts {W : WG} {a : Option Addr} {n c : Nat} {R : List UInt8} (h : RG W (.slice a n c) R) (m : Nat) (hm : m ≤ n) :
    (a = none ∧ n = 0 ∧ c = 0 ∧ R = []) ∨ ∃ b off, W.g = b ∧ a = some ⟨b, off, none⟩ ∧ n ≤ c ∧ c ≤ maxLen ∧ RG W (.slice (some ⟨b, off, none⟩) m c) (R.take m) ∧ (c = m → RG W (.slice (some ⟨b, off, none⟩) 0 0) (R.drop m)) ∧ (¬ c = m → RG W (.slice (some ⟨b, off + m, none⟩) (n - m) (c - m)) (R.drop m)) := by
  rcases h with ⟨h, h0⟩ | ⟨off, cap, e1, e2, e3, e5⟩
  · injection h with h1 h2 h3
    exact Or.inl ⟨h1, h2, h3, h0⟩
  · injection e1 with e1 e1b e1c
    subst e1 e1c e1b
    right
    refine ⟨W.g, off, rfl, rfl, e2, e3, ?_, fun hc => ?_, fun hc => ?_⟩
    · have hl : (R.take m).length = m := by simp; omega
      refine Or.inr ⟨off, c, by rw [hl], by rw [hl]; omega, e3, fun i hi => ?_⟩
      rw [hl] at hi
      rw [e5 i (by omega), List.getElem_take]
    · have hl : (R.drop m).length = 0 := by simp; omega
      exact Or.inr ⟨off, 0, by rw [hl], by omega, Nat.zero_le _, fun i hi => by omega⟩
    · have hl : (R.drop m).length = R.length - m := by simp
      refine Or.inr ⟨off + m, c - m, by rw [hl], by omega, by omega, fun i hi => ?_⟩
      rw [hl] at hi
      have := e5 (m + i) (by omega)
      rw [show off + m + i = off + (m + i) by omega, this, List.getElem_drop]

set_option maxRecDepth 100000 in
set_option maxHeartbeats 4000000 in
theorem ttext_okOf (W : WG) (a : Option Addr) (n c : Nat) (f : Int) (m : Nat) (R : List UInt8) (w : World) (hm : m ≤ R.length) (hRl : R.length ≤ 1000000000) (hW : TG W w) (HC : Hid (∀ V, Below w.heap.size w V → Calls Try.prog 63 #[.agg #[.slice a n c, .int .i64 f], .int .i64 1] V (DPost W V (.int .i64 0) (.ok (fun v _ => v = .int .i64 (m : Int)) R)))) :
    Calls Try.prog 58 #[.agg #[.slice a n c, .int .i64 f]] w (DPost W w (.string ⟨#[]⟩) (.ok (fun v _ => v = .string ⟨(R.take m).toArray⟩) (R.drop m))) := by
  obtain ⟨out, hout⟩ : ∃ o : Out, (.ok (fun v _ => v = .string ⟨(R.take m).toArray⟩) (R.drop m)) = o := ⟨_, rfl⟩
  have HOUT : Hid ((.ok (fun v _ => v = .string ⟨(R.take m).toArray⟩) (R.drop m)) = out) := hout
  rw [hout]
  clear hout
  have HBV : Hid (Below w.heap.size w ((w.alloc (.cells #[.slice a n c, .int .i64 f] 43)).alloc (.cells #[.slice none 0 0, .int .i64 0] 43))) := ((Below.refl _ _).alloc (Nat.le_refl _) _).alloc (by simp) _
  have HT1 : Hid (Two ((w.alloc (.cells #[.slice a n c, .int .i64 f] 43)).alloc (.cells #[.slice none 0 0, .int .i64 0] 43)) w.heap.size (.slice a n c) (.int .i64 f)) := (Two.new w w.heap.size rfl (.slice a n c) (.int .i64 f) 43).keep (Below.heap_alloc _ _ _ (by simp))
  have HT2 : Hid (Two ((w.alloc (.cells #[.slice a n c, .int .i64 f] 43)).alloc (.cells #[.slice none 0 0, .int .i64 0] 43)) (w.heap.size + 1) (.slice none 0 0) (.int .i64 0)) := Two.new _ _ (by simp) _ _ _
  go_enter Try.func58, Try.ntmps58
  go_wp2_with fail
  refine (HC.out _ HBV.out).mono ?_
  rintro e w2 ⟨a3, c3, vv, rfl, hr3, rfl, hb3⟩
  obtain ⟨rl, hrl⟩ : ∃ rl, R.length = rl := ⟨_, rfl⟩
  have HRL : Hid (R.length = rl) := hrl
  have HR3 : Hid (RG W (.slice a3 R.length c3) R) := hr3
  rw [hrl]
  have T1 := HT1.out.keep (hb3.block _ HT1.out.lt)
  have T2 := HT2.out.keep (hb3.block _ HT2.out.lt)
  obtain ⟨x0, x1, x2, x3⟩ := id T1
  have HT1' : Hid (Two ((w2.setCell ⟨w.heap.size, 0, none⟩ (.slice a3 rl c3)).setCell ⟨w.heap.size, 1, none⟩ (.int .i64 0)) w.heap.size (.slice a3 rl c3) (.int .i64 0)) := (T1.set0 _).set1 _
  have HT2' : Hid (Two ((w2.setCell ⟨w.heap.size, 0, none⟩ (.slice a3 rl c3)).setCell ⟨w.heap.size, 1, none⟩ (.int .i64 0)) (w.heap.size + 1) (.slice none 0 0) (.int .i64 0)) := (T2.other (by omega) _).other (by omega) _
  have HB2 : Hid (Below w.heap.size w ((w2.setCell ⟨w.heap.size, 0, none⟩ (.slice a3 rl c3)).setCell ⟨w.heap.size, 1, none⟩ (.int .i64 0))) := ((HBV.out.trans (hb3.mono HBV.out.size)).setCell (p := ⟨w.heap.size, 0, none⟩) (Nat.le_refl _) _).setCell (p := ⟨w.heap.size, 1, none⟩) (Nat.le_refl _) _
  obtain ⟨v0, v1, v2, v3⟩ := HT1'.out
  obtain ⟨u0, u1, u2, u3⟩ := HT2'.out
  clear hb3 T1 T2
  have hmrl : m ≤ rl := by rw [← hrl]; exact hm
  have hrl9 : rl ≤ 1000000000 := by rw [← hrl]; exact hRl
  rw [hrl] at hr3
  clear hrl
  have HBW : Hid (TG W ((w2.setCell ⟨w.heap.size, 0, none⟩ (.slice a3 rl c3)).setCell ⟨w.heap.size, 1, none⟩ (.int .i64 0))) := hW.next HB2.out
  have HDL : Hid ((R.drop m).length = rl - m) := by show _ = _; rw [List.length_drop, HRL.out]
  obtain ⟨TT, hTT⟩ : ∃ T, R.take m = T := ⟨_, rfl⟩
  have HTT : Hid (R.take m = TT) := hTT
  rcases rd_parts hr3 m hmrl with ⟨rfl, rfl, rfl, hR0⟩ | ⟨b, off, hgb, rfl, p1, p2, p3, p4, p5⟩
  · obtain rfl : m = 0 := by omega
    have HRN : Hid (RG W (.slice none 0 0) (R.drop 0)) := Or.inl ⟨rfl, by rw [hR0]; rfl⟩
    have cv : (convert 37 9 (.slice none 0 0)).run Try.prog ((w2.setCell ⟨w.heap.size, 0, none⟩ (.slice none 0 0)).setCell ⟨w.heap.size, 1, none⟩ (.int .i64 0)) = .ok (.string ⟨TT.toArray⟩) ((w2.setCell ⟨w.heap.size, 0, none⟩ (.slice none 0 0)).setCell ⟨w.heap.size, 1, none⟩ (.int .i64 0)) := by
      rw [← hTT, hR0]
      exact Rd.str (Or.inl ⟨rfl, rfl⟩)
    obtain ⟨a3, ha3⟩ : ∃ a3 : Option Addr, a3 = none := ⟨_, rfl⟩
    obtain ⟨rl, hrl0⟩ : ∃ rl : Nat, rl = 0 := ⟨_, rfl⟩
    obtain ⟨c3, hc30⟩ : ∃ c3 : Nat, c3 = 0 := ⟨_, rfl⟩
    subst ha3 hrl0 hc30
    clear hr3 hTT hm hmrl hR0
    have HT1'' : Hid (Two (((w2.setCell ⟨w.heap.size, 0, none⟩ (.slice none 0 0)).setCell ⟨w.heap.size, 1, none⟩ (.int .i64 0)).setCell ⟨w.heap.size, 0, none⟩ (.slice none 0 0)) w.heap.size (.slice none 0 0) (.int .i64 0)) := HT1'.out.set0 _
    have HT2'' : Hid (Two (((w2.setCell ⟨w.heap.size, 0, none⟩ (.slice none 0 0)).setCell ⟨w.heap.size, 1, none⟩ (.int .i64 0)).setCell ⟨w.heap.size, 0, none⟩ (.slice none 0 0)) (w.heap.size + 1) (.slice none 0 0) (.int .i64 0)) := HT2'.out.other (by omega) _
    have HB3 : Hid (Below w.heap.size w (((w2.setCell ⟨w.heap.size, 0, none⟩ (.slice none 0 0)).setCell ⟨w.heap.size, 1, none⟩ (.int .i64 0)).setCell ⟨w.heap.size, 0, none⟩ (.slice none 0 0))) := HB2.out.setCell (p := ⟨w.heap.size, 0, none⟩) (Nat.le_refl _) _
    obtain ⟨s0, s1, s2, s3⟩ := HT1''.out
    obtain ⟨t0, t1, t2, t3⟩ := HT2''.out
    go_wp2
    have T9 := (HT2''.out.set0 (.slice none 0 0)).set1 (.int .i64 0)
    refine bodyPost_ret (ret_rd Try.results58 _ (w.heap.size + 1) rfl _ T9.c0 T9.c1) rfl ?_
    rw [← HOUT.out]
    exact ⟨none, 0, _, (by rw [HDL.out] <;> rfl), (by rw [HDL.out]; exact HRN.out), (by show _ = _; rw [HTT.out] <;> rfl), (HB3.out.setCell (p := ⟨w.heap.size + 1, 0, none⟩) (Nat.le_succ _) _).setCell (p := ⟨w.heap.size + 1, 1, none⟩) (Nat.le_succ _) _⟩
  · have cv : (convert 37 9 (.slice (some ⟨b, off, none⟩) m c3)).run Try.prog ((w2.setCell ⟨w.heap.size, 0, none⟩ (.slice (some ⟨b, off, none⟩) rl c3)).setCell ⟨w.heap.size, 1, none⟩ (.int .i64 0)) = .ok (.string ⟨TT.toArray⟩) ((w2.setCell ⟨w.heap.size, 0, none⟩ (.slice (some ⟨b, off, none⟩) rl c3)).setCell ⟨w.heap.size, 1, none⟩ (.int .i64 0)) := by
      rw [← hTT]
      exact Rd.str (p3.rd HBW.out)
    have P4 : Hid (c3 = m → RG W (.slice (some ⟨b, off, none⟩) 0 0) (R.drop m)) := p4
    have P5 : Hid (¬ c3 = m → RG W (.slice (some ⟨b, off + m, none⟩) (rl - m) (c3 - m)) (R.drop m)) := p5
    unfold maxLen at p2
    clear p3 p4 p5 hr3 hTT hm hgb
    by_cases hcm : c3 = m
    · have hrm : rl - m = 0 := by omega
      have HP : Hid (RG W (.slice (some ⟨b, off, none⟩) 0 0) (R.drop m)) := P4.out hcm
      have HDZ : Hid ((R.drop m).length = 0) := by show _ = _; rw [HDL.out]; exact hrm
      clear P4 P5 HDL
      subst hcm
      have hrc : rl = c3 := by omega
      subst hrc
      have HDL := HDZ
      clear hrm
      have HT1'' : Hid (Two (((w2.setCell ⟨w.heap.size, 0, none⟩ (.slice (some ⟨b, off, none⟩) rl rl)).setCell ⟨w.heap.size, 1, none⟩ (.int .i64 0)).setCell ⟨w.heap.size, 0, none⟩ (.slice (some ⟨b, off, none⟩) 0 0)) w.heap.size (.slice (some ⟨b, off, none⟩) 0 0) (.int .i64 0)) := HT1'.out.set0 _
      have HT2'' : Hid (Two (((w2.setCell ⟨w.heap.size, 0, none⟩ (.slice (some ⟨b, off, none⟩) rl rl)).setCell ⟨w.heap.size, 1, none⟩ (.int .i64 0)).setCell ⟨w.heap.size, 0, none⟩ (.slice (some ⟨b, off, none⟩) 0 0)) (w.heap.size + 1) (.slice none 0 0) (.int .i64 0)) := HT2'.out.other (by omega) _
      have HB3 : Hid (Below w.heap.size w (((w2.setCell ⟨w.heap.size, 0, none⟩ (.slice (some ⟨b, off, none⟩) rl rl)).setCell ⟨w.heap.size, 1, none⟩ (.int .i64 0)).setCell ⟨w.heap.size, 0, none⟩ (.slice (some ⟨b, off, none⟩) 0 0))) := HB2.out.setCell (p := ⟨w.heap.size, 0, none⟩) (Nat.le_refl _) _
      obtain ⟨s0, s1, s2, s3⟩ := HT1''.out
      obtain ⟨t0, t1, t2, t3⟩ := HT2''.out
      go_wp2
      have T9 := (HT2''.out.set0 (.slice (some ⟨b, off, none⟩) 0 0)).set1 (.int .i64 0)
      refine bodyPost_ret (ret_rd Try.results58 _ (w.heap.size + 1) rfl _ T9.c0 T9.c1) rfl ?_
      rw [← HOUT.out]
      exact ⟨(some ⟨b, off, none⟩), 0, _, (by rw [HDL.out] <;> rfl), (by rw [HDL.out]; exact HP.out), (by show _ = _; rw [HTT.out] <;> rfl), (HB3.out.setCell (p := ⟨w.heap.size + 1, 0, none⟩) (Nat.le_succ _) _).setCell (p := ⟨w.heap.size + 1, 1, none⟩) (Nat.le_succ _) _⟩
    · have hcm' : ¬ m = c3 := fun e => hcm e.symm
      have HP : Hid (RG W (.slice (some ⟨b, off + m, none⟩) (rl - m) (c3 - m)) (R.drop m)) := P5.out hcm
      clear P4 P5
      have HT1'' : Hid (Two (((w2.setCell ⟨w.heap.size, 0, none⟩ (.slice (some ⟨b, off, none⟩) rl c3)).setCell ⟨w.heap.size, 1, none⟩ (.int .i64 0)).setCell ⟨w.heap.size, 0, none⟩ (.slice (some ⟨b, off + m, none⟩) (rl - m) (c3 - m))) w.heap.size (.slice (some ⟨b, off + m, none⟩) (rl - m) (c3 - m)) (.int .i64 0)) := HT1'.out.set0 _
      have HT2'' : Hid (Two (((w2.setCell ⟨w.heap.size, 0, none⟩ (.slice (some ⟨b, off, none⟩) rl c3)).setCell ⟨w.heap.size, 1, none⟩ (.int .i64 0)).setCell ⟨w.heap.size, 0, none⟩ (.slice (some ⟨b, off + m, none⟩) (rl - m) (c3 - m))) (w.heap.size + 1) (.slice none 0 0) (.int .i64 0)) := HT2'.out.other (by omega) _
      have HB3 : Hid (Below w.heap.size w (((w2.setCell ⟨w.heap.size, 0, none⟩ (.slice (some ⟨b, off, none⟩) rl c3)).setCell ⟨w.heap.size, 1, none⟩ (.int .i64 0)).setCell ⟨w.heap.size, 0, none⟩ (.slice (some ⟨b, off + m, none⟩) (rl - m) (c3 - m)))) := HB2.out.setCell (p := ⟨w.heap.size, 0, none⟩) (Nat.le_refl _) _
      obtain ⟨s0, s1, s2, s3⟩ := HT1''.out
      obtain ⟨t0, t1, t2, t3⟩ := HT2''.out
      go_wp2
      have T9 := (HT2''.out.set0 (.slice (some ⟨b, off + m, none⟩) (rl - m) (c3 - m))).set1 (.int .i64 0)
      refine bodyPost_ret (ret_rd Try.results58 _ (w.heap.size + 1) rfl _ T9.c0 T9.c1) rfl ?_
      rw [← HOUT.out]
      exact ⟨(some ⟨b, off + m, none⟩), (c3 - m), _, (by rw [HDL.out] <;> rfl), (by rw [HDL.out]; exact HP.out), (by show _ = _; rw [HTT.out] <;> rfl), (HB3.out.setCell (p := ⟨w.heap.size + 1, 0, none⟩) (Nat.le_succ _) _).setCell (p := ⟨w.heap.size + 1, 1, none⟩) (Nat.le_succ _) _⟩

set_option maxRecDepth 100000 in
set_option maxHeartbeats 4000000 in
theorem ttext_errOf (W : WG) (a : Option Addr) (n c : Nat) (f : Int) (k : Int) (w : World) (HC : Hid (∀ V, Below w.heap.size w V → Calls Try.prog 63 #[.agg #[.slice a n c, .int .i64 f], .int .i64 1] V (DPost W V (.int .i64 0) (.err k)))) :
    Calls Try.prog 58 #[.agg #[.slice a n c, .int .i64 f]] w (DPost W w (.string ⟨#[]⟩) (.err k)) := by
  obtain ⟨out, hout⟩ : ∃ o : Out, (.err k) = o := ⟨_, rfl⟩
  have HOUT : Hid ((.err k) = out) := hout
  rw [hout]
  clear hout
  have HBV : Hid (Below w.heap.size w ((w.alloc (.cells #[.slice a n c, .int .i64 f] 43)).alloc (.cells #[.slice none 0 0, .int .i64 0] 43))) := ((Below.refl _ _).alloc (Nat.le_refl _) _).alloc (by simp) _
  have HT1 : Hid (Two ((w.alloc (.cells #[.slice a n c, .int .i64 f] 43)).alloc (.cells #[.slice none 0 0, .int .i64 0] 43)) w.heap.size (.slice a n c) (.int .i64 f)) := (Two.new w w.heap.size rfl (.slice a n c) (.int .i64 f) 43).keep (Below.heap_alloc _ _ _ (by simp))
  have HT2 : Hid (Two ((w.alloc (.cells #[.slice a n c, .int .i64 f] 43)).alloc (.cells #[.slice none 0 0, .int .i64 0] 43)) (w.heap.size + 1) (.slice none 0 0) (.int .i64 0)) := Two.new _ _ (by simp) _ _ _
  go_enter Try.func58, Try.ntmps58
  go_wp2_with fail
  refine (HC.out _ HBV.out).mono ?_
  rintro e w2 ⟨a3, n3, c3, rfl, hk, hb3⟩
  have HK : Hid ((k == 0) = false) := hk
  have hk0 : ¬ k = 0 := by intro e; rw [e] at hk; exact absurd hk (by decide)
  have T1 := HT1.out.keep (hb3.block _ HT1.out.lt)
  have T2 := HT2.out.keep (hb3.block _ HT2.out.lt)
  obtain ⟨x0, x1, x2, x3⟩ := id T1
  have HT1' : Hid (Two ((w2.setCell ⟨w.heap.size, 0, none⟩ (.slice a3 n3 c3)).setCell ⟨w.heap.size, 1, none⟩ (.int .i64 k)) w.heap.size (.slice a3 n3 c3) (.int .i64 k)) := (T1.set0 _).set1 _
  have HT2' : Hid (Two ((w2.setCell ⟨w.heap.size, 0, none⟩ (.slice a3 n3 c3)).setCell ⟨w.heap.size, 1, none⟩ (.int .i64 k)) (w.heap.size + 1) (.slice none 0 0) (.int .i64 0)) := (T2.other (by omega) _).other (by omega) _
  have HB2 : Hid (Below w.heap.size w ((w2.setCell ⟨w.heap.size, 0, none⟩ (.slice a3 n3 c3)).setCell ⟨w.heap.size, 1, none⟩ (.int .i64 k))) := ((HBV.out.trans (hb3.mono HBV.out.size)).setCell (p := ⟨w.heap.size, 0, none⟩) (Nat.le_refl _) _).setCell (p := ⟨w.heap.size, 1, none⟩) (Nat.le_refl _) _
  obtain ⟨v0, v1, v2, v3⟩ := HT1'.out
  obtain ⟨u0, u1, u2, u3⟩ := HT2'.out
  clear hb3 T1 T2
  clear hk
  go_wp2
  have T9 := (HT2'.out.set0 (.slice a3 n3 c3)).set1 (.int .i64 k)
  refine bodyPost_ret (ret_rd Try.results58 _ (w.heap.size + 1) rfl _ T9.c0 T9.c1) rfl ?_
  rw [← HOUT.out]
  exact ⟨a3, n3, c3, rfl, HK.out, (HB2.out.setCell (p := ⟨w.heap.size + 1, 0, none⟩) (Nat.le_succ _) _).setCell (p := ⟨w.heap.size + 1, 1, none⟩) (Nat.le_succ _) _⟩

end Go.Proofs.Ytjdcoiekbnefkab
