/- What the document takes up: numbers, flags, counts, texts. -/
import Derived.Test.YthcidcfaodjbjaaPRefT
namespace Go.Proofs.Ythcidcfaodjbjaa
open Go.RowKit
set_option linter.unusedVariables false

set_option maxRecDepth 100000 in
set_option maxHeartbeats 4000000 in
theorem tint_okOf (W : WG) (a : Option Addr) (n c : Nat) (f : Int) (m : Nat) (R : List UInt8) (w : World) (hm : m ≤ 18446744073709551615) (HC : Hid (∀ V, Below w.heap.size w V → Calls Try.prog 65 #[.agg #[.slice a n c, .int .i64 f]] V (DPost W V (.int .u64 0) (.ok (fun v _ => v = .int .u64 (m : Int)) R)))) :
    Calls Try.prog 66 #[.agg #[.slice a n c, .int .i64 f]] w (DPost W w (.int .i64 0) (.ok (fun v _ => v = .int .i64 (zag m)) R)) := by
  obtain ⟨out, hout⟩ : ∃ o : Out, (.ok (fun v _ => v = .int .i64 (zag m)) R) = o := ⟨_, rfl⟩
  have HOUT : Hid ((.ok (fun v _ => v = .int .i64 (zag m)) R) = out) := hout
  rw [hout]
  clear hout
  have HBV : Hid (Below w.heap.size w ((w.alloc (.cells #[.slice a n c, .int .i64 f] 78)).alloc (.cells #[.slice none 0 0, .int .i64 0] 78))) := ((Below.refl _ _).alloc (Nat.le_refl _) _).alloc (by simp) _
  have HT1 : Hid (Two ((w.alloc (.cells #[.slice a n c, .int .i64 f] 78)).alloc (.cells #[.slice none 0 0, .int .i64 0] 78)) w.heap.size (.slice a n c) (.int .i64 f)) := (Two.new w w.heap.size rfl (.slice a n c) (.int .i64 f) 78).keep (Below.heap_alloc _ _ _ (by simp))
  have HT2 : Hid (Two ((w.alloc (.cells #[.slice a n c, .int .i64 f] 78)).alloc (.cells #[.slice none 0 0, .int .i64 0] 78)) (w.heap.size + 1) (.slice none 0 0) (.int .i64 0)) := Two.new _ _ (by simp) _ _ _
  go_enter Try.func66, Try.ntmps66
  go_wp2_with fail
  refine (HC.out _ HBV.out).mono ?_
  rintro e w2 ⟨a3, c3, vv, rfl, hr3, rfl, hb3⟩
  obtain ⟨rl, hrl⟩ : ∃ rl, R.length = rl := ⟨_, rfl⟩
  have HRL : Hid (R.length = rl) := hrl
  have HR3 : Hid (RG W (.slice a3 R.length c3) R) := hr3
  rw [hrl]
  have T1 := HT1.out.keep (hb3.block _ HT1.out.lt)
  have T2 := HT2.out.keep (hb3.block _ HT2.out.lt)
  obtain ⟨x0, x1, x2, x3⟩ := id T1
  have HT1' : Hid (Two ((w2.setCell ⟨w.heap.size, 0, none⟩ (.slice a3 rl c3)).setCell ⟨w.heap.size, 1, none⟩ (.int .i64 0)) w.heap.size (.slice a3 rl c3) (.int .i64 0)) := (T1.set0 _).set1 _
  have HT2' : Hid (Two ((w2.setCell ⟨w.heap.size, 0, none⟩ (.slice a3 rl c3)).setCell ⟨w.heap.size, 1, none⟩ (.int .i64 0)) (w.heap.size + 1) (.slice none 0 0) (.int .i64 0)) := (T2.other (by omega) _).other (by omega) _
  have HB2 : Hid (Below w.heap.size w ((w2.setCell ⟨w.heap.size, 0, none⟩ (.slice a3 rl c3)).setCell ⟨w.heap.size, 1, none⟩ (.int .i64 0))) := ((HBV.out.trans (hb3.mono HBV.out.size)).setCell (p := ⟨w.heap.size, 0, none⟩) (Nat.le_refl _) _).setCell (p := ⟨w.heap.size, 1, none⟩) (Nat.le_refl _) _
  obtain ⟨v0, v1, v2, v3⟩ := HT1'.out
  obtain ⟨u0, u1, u2, u3⟩ := HT2'.out
  clear hb3 T1 T2
  clear hr3 hrl
  by_cases h1 : m % 2 = 1
  · have hz : ¬ (m : Int) % 2 = 0 := by omega
    have HZ : Hid (zag m = -((m / 2 : Nat) : Int) - 1) := by show _ = _; unfold zag; rw [if_pos h1]
    go_wp2
    have T9 := (HT2'.out.set0 (.slice a3 rl c3)).set1 (.int .i64 0)
    refine bodyPost_ret (ret_rd Try.results66 _ (w.heap.size + 1) rfl _ T9.c0 T9.c1) rfl ?_
    rw [← HOUT.out]
    exact ⟨a3, c3, _, (by rw [HRL.out] <;> rfl), HR3.out, (by show _ = _; rw [HZ.out] <;> simp), (HB2.out.setCell (p := ⟨w.heap.size + 1, 0, none⟩) (Nat.le_succ _) _).setCell (p := ⟨w.heap.size + 1, 1, none⟩) (Nat.le_succ _) _⟩
  · have hz : (m : Int) % 2 = 0 := by omega
    have HZ : Hid (zag m = ((m / 2 : Nat) : Int)) := by show _ = _; unfold zag; rw [if_neg h1]
    go_wp2
    have T9 := (HT2'.out.set0 (.slice a3 rl c3)).set1 (.int .i64 0)
    refine bodyPost_ret (ret_rd Try.results66 _ (w.heap.size + 1) rfl _ T9.c0 T9.c1) rfl ?_
    rw [← HOUT.out]
    exact ⟨a3, c3, _, (by rw [HRL.out] <;> rfl), HR3.out, (by show _ = _; rw [HZ.out] <;> simp), (HB2.out.setCell (p := ⟨w.heap.size + 1, 0, none⟩) (Nat.le_succ _) _).setCell (p := ⟨w.heap.size + 1, 1, none⟩) (Nat.le_succ _) _⟩

set_option maxRecDepth 100000 in
set_option maxHeartbeats 4000000 in
theorem tint_errOf (W : WG) (a : Option Addr) (n c : Nat) (f : Int) (k : Int) (w : World) (HC : Hid (∀ V, Below w.heap.size w V → Calls Try.prog 65 #[.agg #[.slice a n c, .int .i64 f]] V (DPost W V (.int .u64 0) (.err k)))) :
    Calls Try.prog 66 #[.agg #[.slice a n c, .int .i64 f]] w (DPost W w (.int .i64 0) (.err k)) := by
  obtain ⟨out, hout⟩ : ∃ o : Out, (.err k) = o := ⟨_, rfl⟩
  have HOUT : Hid ((.err k) = out) := hout
  rw [hout]
  clear hout
  have HBV : Hid (Below w.heap.size w ((w.alloc (.cells #[.slice a n c, .int .i64 f] 78)).alloc (.cells #[.slice none 0 0, .int .i64 0] 78))) := ((Below.refl _ _).alloc (Nat.le_refl _) _).alloc (by simp) _
  have HT1 : Hid (Two ((w.alloc (.cells #[.slice a n c, .int .i64 f] 78)).alloc (.cells #[.slice none 0 0, .int .i64 0] 78)) w.heap.size (.slice a n c) (.int .i64 f)) := (Two.new w w.heap.size rfl (.slice a n c) (.int .i64 f) 78).keep (Below.heap_alloc _ _ _ (by simp))
  have HT2 : Hid (Two ((w.alloc (.cells #[.slice a n c, .int .i64 f] 78)).alloc (.cells #[.slice none 0 0, .int .i64 0] 78)) (w.heap.size + 1) (.slice none 0 0) (.int .i64 0)) := Two.new _ _ (by simp) _ _ _
  go_enter Try.func66, Try.ntmps66
  go_wp2_with fail
  refine (HC.out _ HBV.out).mono ?_
  rintro e w2 ⟨a3, n3, c3, rfl, hk, hb3⟩
  have HK : Hid ((k == 0) = false) := hk
  have hk0 : ¬ k = 0 := by intro e; rw [e] at hk; exact absurd hk (by decide)
  have T1 := HT1.out.keep (hb3.block _ HT1.out.lt)
  have T2 := HT2.out.keep (hb3.block _ HT2.out.lt)
  obtain ⟨x0, x1, x2, x3⟩ := id T1
  have HT1' : Hid (Two ((w2.setCell ⟨w.heap.size, 0, none⟩ (.slice a3 n3 c3)).setCell ⟨w.heap.size, 1, none⟩ (.int .i64 k)) w.heap.size (.slice a3 n3 c3) (.int .i64 k)) := (T1.set0 _).set1 _
  have HT2' : Hid (Two ((w2.setCell ⟨w.heap.size, 0, none⟩ (.slice a3 n3 c3)).setCell ⟨w.heap.size, 1, none⟩ (.int .i64 k)) (w.heap.size + 1) (.slice none 0 0) (.int .i64 0)) := (T2.other (by omega) _).other (by omega) _
  have HB2 : Hid (Below w.heap.size w ((w2.setCell ⟨w.heap.size, 0, none⟩ (.slice a3 n3 c3)).setCell ⟨w.heap.size, 1, none⟩ (.int .i64 k))) := ((HBV.out.trans (hb3.mono HBV.out.size)).setCell (p := ⟨w.heap.size, 0, none⟩) (Nat.le_refl _) _).setCell (p := ⟨w.heap.size, 1, none⟩) (Nat.le_refl _) _
  obtain ⟨v0, v1, v2, v3⟩ := HT1'.out
  obtain ⟨u0, u1, u2, u3⟩ := HT2'.out
  clear hb3 T1 T2
  clear hk
  go_wp2
  have T9 := (HT2'.out.set0 (.slice a3 n3 c3)).set1 (.int .i64 k)
  refine bodyPost_ret (ret_rd Try.results66 _ (w.heap.size + 1) rfl _ T9.c0 T9.c1) rfl ?_
  rw [← HOUT.out]
  exact ⟨a3, n3, c3, rfl, HK.out, (HB2.out.setCell (p := ⟨w.heap.size + 1, 0, none⟩) (Nat.le_succ _) _).setCell (p := ⟨w.heap.size + 1, 1, none⟩) (Nat.le_succ _) _⟩

set_option maxRecDepth 100000 in
set_option maxHeartbeats 4000000 in
theorem tcount_okOf (W : WG) (a : Option Addr) (n c : Nat) (f : Int) (ls : Int) (lsn : Nat) (m : Nat) (R : List UInt8) (w : World) (hls : (ls < 1 ∧ lsn = 1) ∨ (1 ≤ ls ∧ ls = (lsn : Int))) (hl9 : 1 ≤ lsn ∧ lsn ≤ 9223372036854775807) (hm : m ≤ 18446744073709551615) (hRl : R.length ≤ 1000000000) (HC : Hid (∀ V, Below w.heap.size w V → Calls Try.prog 65 #[.agg #[.slice a n c, .int .i64 f]] V (DPost W V (.int .u64 0) (.ok (fun v _ => v = .int .u64 (m : Int)) R)))) :
    Calls Try.prog 47 #[.agg #[.slice a n c, .int .i64 f], .int .i64 ls] w (DPost W w (.int .i64 0) (if R.length / lsn < m then .err 20 else .ok (fun v _ => v = .int .i64 (m : Int)) R)) := by
  obtain ⟨out, hout⟩ : ∃ o : Out, (if R.length / lsn < m then .err 20 else .ok (fun v _ => v = .int .i64 (m : Int)) R) = o := ⟨_, rfl⟩
  have HOUT : Hid ((if R.length / lsn < m then .err 20 else .ok (fun v _ => v = .int .i64 (m : Int)) R) = out) := hout
  rw [hout]
  clear hout
  have HBV : Hid (Below w.heap.size w ((w.alloc (.cells #[.slice a n c, .int .i64 f] 78)).alloc (.cells #[.slice none 0 0, .int .i64 0] 78))) := ((Below.refl _ _).alloc (Nat.le_refl _) _).alloc (by simp) _
  have HT1 : Hid (Two ((w.alloc (.cells #[.slice a n c, .int .i64 f] 78)).alloc (.cells #[.slice none 0 0, .int .i64 0] 78)) w.heap.size (.slice a n c) (.int .i64 f)) := (Two.new w w.heap.size rfl (.slice a n c) (.int .i64 f) 78).keep (Below.heap_alloc _ _ _ (by simp))
  have HT2 : Hid (Two ((w.alloc (.cells #[.slice a n c, .int .i64 f] 78)).alloc (.cells #[.slice none 0 0, .int .i64 0] 78)) (w.heap.size + 1) (.slice none 0 0) (.int .i64 0)) := Two.new _ _ (by simp) _ _ _
  go_enter Try.func47, Try.ntmps47
  go_wp2_with fail
  refine (HC.out _ HBV.out).mono ?_
  rintro e w2 ⟨a3, c3, vv, rfl, hr3, rfl, hb3⟩
  obtain ⟨rl, hrl⟩ : ∃ rl, R.length = rl := ⟨_, rfl⟩
  have HRL : Hid (R.length = rl) := hrl
  have HR3 : Hid (RG W (.slice a3 R.length c3) R) := hr3
  rw [hrl]
  have T1 := HT1.out.keep (hb3.block _ HT1.out.lt)
  have T2 := HT2.out.keep (hb3.block _ HT2.out.lt)
  obtain ⟨x0, x1, x2, x3⟩ := id T1
  have HT1' : Hid (Two ((w2.setCell ⟨w.heap.size, 0, none⟩ (.slice a3 rl c3)).setCell ⟨w.heap.size, 1, none⟩ (.int .i64 0)) w.heap.size (.slice a3 rl c3) (.int .i64 0)) := (T1.set0 _).set1 _
  have HT2' : Hid (Two ((w2.setCell ⟨w.heap.size, 0, none⟩ (.slice a3 rl c3)).setCell ⟨w.heap.size, 1, none⟩ (.int .i64 0)) (w.heap.size + 1) (.slice none 0 0) (.int .i64 0)) := (T2.other (by omega) _).other (by omega) _
  have HB2 : Hid (Below w.heap.size w ((w2.setCell ⟨w.heap.size, 0, none⟩ (.slice a3 rl c3)).setCell ⟨w.heap.size, 1, none⟩ (.int .i64 0))) := ((HBV.out.trans (hb3.mono HBV.out.size)).setCell (p := ⟨w.heap.size, 0, none⟩) (Nat.le_refl _) _).setCell (p := ⟨w.heap.size, 1, none⟩) (Nat.le_refl _) _
  obtain ⟨v0, v1, v2, v3⟩ := HT1'.out
  obtain ⟨u0, u1, u2, u3⟩ := HT2'.out
  clear hb3 T1 T2
  clear hr3 hrl
  obtain ⟨q, hq0⟩ : ∃ q, rl / lsn = q := ⟨_, rfl⟩
  have HQD : Hid (R.length / lsn = q) := by show _ = _; rw [HRL.out]; exact hq0
  have hrl9 : rl ≤ 1000000000 := by have := HRL.out; omega
  have hq9 : q ≤ rl := by rw [← hq0]; exact Nat.div_le_self _ _
  have hqt : (rl : Int).tdiv (lsn : Int) = (q : Int) := by rw [← hq0]; simp [Int.tdiv_eq_ediv_of_nonneg]
  have hqe : (rl : Int) / (lsn : Int) = (q : Int) := by rw [← hq0]; simp
  have hl0 : ((lsn : Int) == 0) = false := by simp; omega
  clear hq0
  rcases hls with ⟨g1, g2⟩ | ⟨g1, g2⟩
  · subst g2
    clear hqt hqe hq9 hl0
    by_cases hq : rl < m
    · have HT1'' : Hid (Two (((w2.setCell ⟨w.heap.size, 0, none⟩ (.slice a3 rl c3)).setCell ⟨w.heap.size, 1, none⟩ (.int .i64 0)).setCell ⟨w.heap.size, 1, none⟩ (.int .i64 20)) w.heap.size (.slice a3 rl c3) (.int .i64 20)) := HT1'.out.set1 _
      have HT2'' : Hid (Two (((w2.setCell ⟨w.heap.size, 0, none⟩ (.slice a3 rl c3)).setCell ⟨w.heap.size, 1, none⟩ (.int .i64 0)).setCell ⟨w.heap.size, 1, none⟩ (.int .i64 20)) (w.heap.size + 1) (.slice none 0 0) (.int .i64 0)) := HT2'.out.other (by omega) _
      have HB3 : Hid (Below w.heap.size w (((w2.setCell ⟨w.heap.size, 0, none⟩ (.slice a3 rl c3)).setCell ⟨w.heap.size, 1, none⟩ (.int .i64 0)).setCell ⟨w.heap.size, 1, none⟩ (.int .i64 20))) := HB2.out.setCell (p := ⟨w.heap.size, 1, none⟩) (Nat.le_refl _) _
      obtain ⟨s0, s1, s2, s3⟩ := HT1''.out
      obtain ⟨t0, t1, t2, t3⟩ := HT2''.out
      go_wp2
      have T9 := (HT2''.out.set0 (.slice a3 rl c3)).set1 (.int .i64 20)
      refine bodyPost_ret (ret_rd Try.results47 _ (w.heap.size + 1) rfl _ T9.c0 T9.c1) rfl ?_
      rw [← HOUT.out]
      rw [Nat.div_one, HRL.out, if_pos hq]
      exact ⟨a3, rl, c3, rfl, rfl, (HB3.out.setCell (p := ⟨w.heap.size + 1, 0, none⟩) (Nat.le_succ _) _).setCell (p := ⟨w.heap.size + 1, 1, none⟩) (Nat.le_succ _) _⟩
    · go_wp2
      have T9 := (HT2'.out.set0 (.slice a3 rl c3)).set1 (.int .i64 0)
      refine bodyPost_ret (ret_rd Try.results47 _ (w.heap.size + 1) rfl _ T9.c0 T9.c1) rfl ?_
      rw [← HOUT.out]
      rw [Nat.div_one, HRL.out, if_neg hq]
      exact ⟨a3, c3, _, (by rw [HRL.out] <;> rfl), HR3.out, rfl, (HB2.out.setCell (p := ⟨w.heap.size + 1, 0, none⟩) (Nat.le_succ _) _).setCell (p := ⟨w.heap.size + 1, 1, none⟩) (Nat.le_succ _) _⟩
  · subst g2
    by_cases hq : q < m
    · have HT1'' : Hid (Two (((w2.setCell ⟨w.heap.size, 0, none⟩ (.slice a3 rl c3)).setCell ⟨w.heap.size, 1, none⟩ (.int .i64 0)).setCell ⟨w.heap.size, 1, none⟩ (.int .i64 20)) w.heap.size (.slice a3 rl c3) (.int .i64 20)) := HT1'.out.set1 _
      have HT2'' : Hid (Two (((w2.setCell ⟨w.heap.size, 0, none⟩ (.slice a3 rl c3)).setCell ⟨w.heap.size, 1, none⟩ (.int .i64 0)).setCell ⟨w.heap.size, 1, none⟩ (.int .i64 20)) (w.heap.size + 1) (.slice none 0 0) (.int .i64 0)) := HT2'.out.other (by omega) _
      have HB3 : Hid (Below w.heap.size w (((w2.setCell ⟨w.heap.size, 0, none⟩ (.slice a3 rl c3)).setCell ⟨w.heap.size, 1, none⟩ (.int .i64 0)).setCell ⟨w.heap.size, 1, none⟩ (.int .i64 20))) := HB2.out.setCell (p := ⟨w.heap.size, 1, none⟩) (Nat.le_refl _) _
      obtain ⟨s0, s1, s2, s3⟩ := HT1''.out
      obtain ⟨t0, t1, t2, t3⟩ := HT2''.out
      go_wp2
      have T9 := (HT2''.out.set0 (.slice a3 rl c3)).set1 (.int .i64 20)
      refine bodyPost_ret (ret_rd Try.results47 _ (w.heap.size + 1) rfl _ T9.c0 T9.c1) rfl ?_
      rw [← HOUT.out]
      rw [HQD.out, if_pos hq]
      exact ⟨a3, rl, c3, rfl, rfl, (HB3.out.setCell (p := ⟨w.heap.size + 1, 0, none⟩) (Nat.le_succ _) _).setCell (p := ⟨w.heap.size + 1, 1, none⟩) (Nat.le_succ _) _⟩
    · go_wp2
      have T9 := (HT2'.out.set0 (.slice a3 rl c3)).set1 (.int .i64 0)
      refine bodyPost_ret (ret_rd Try.results47 _ (w.heap.size + 1) rfl _ T9.c0 T9.c1) rfl ?_
      rw [← HOUT.out]
      rw [HQD.out, if_neg hq]
      exact ⟨a3, c3, _, (by rw [HRL.out] <;> rfl), HR3.out, rfl, (HB2.out.setCell (p := ⟨w.heap.size + 1, 0, none⟩) (Nat.le_succ _) _).setCell (p := ⟨w.heap.size + 1, 1, none⟩) (Nat.le_succ _) _⟩

set_option maxRecDepth 100000 in
set_option maxHeartbeats 4000000 in
theorem tcount_errOf (W : WG) (a : Option Addr) (n c : Nat) (f : Int) (ls : Int) (k : Int) (w : World) (hl9 : -9223372036854775808 ≤ ls ∧ ls ≤ 9223372036854775807) (HC : Hid (∀ V, Below w.heap.size w V → Calls Try.prog 65 #[.agg #[.slice a n c, .int .i64 f]] V (DPost W V (.int .u64 0) (.err k)))) :
    Calls Try.prog 47 #[.agg #[.slice a n c, .int .i64 f], .int .i64 ls] w (DPost W w (.int .i64 0) (.err k)) := by
  obtain ⟨out, hout⟩ : ∃ o : Out, (.err k) = o := ⟨_, rfl⟩
  have HOUT : Hid ((.err k) = out) := hout
  rw [hout]
  clear hout
  have HBV : Hid (Below w.heap.size w ((w.alloc (.cells #[.slice a n c, .int .i64 f] 78)).alloc (.cells #[.slice none 0 0, .int .i64 0] 78))) := ((Below.refl _ _).alloc (Nat.le_refl _) _).alloc (by simp) _
  have HT1 : Hid (Two ((w.alloc (.cells #[.slice a n c, .int .i64 f] 78)).alloc (.cells #[.slice none 0 0, .int .i64 0] 78)) w.heap.size (.slice a n c) (.int .i64 f)) := (Two.new w w.heap.size rfl (.slice a n c) (.int .i64 f) 78).keep (Below.heap_alloc _ _ _ (by simp))
  have HT2 : Hid (Two ((w.alloc (.cells #[.slice a n c, .int .i64 f] 78)).alloc (.cells #[.slice none 0 0, .int .i64 0] 78)) (w.heap.size + 1) (.slice none 0 0) (.int .i64 0)) := Two.new _ _ (by simp) _ _ _
  go_enter Try.func47, Try.ntmps47
  go_wp2_with fail
  refine (HC.out _ HBV.out).mono ?_
  rintro e w2 ⟨a3, n3, c3, rfl, hk, hb3⟩
  have HK : Hid ((k == 0) = false) := hk
  have hk0 : ¬ k = 0 := by intro e; rw [e] at hk; exact absurd hk (by decide)
  have T1 := HT1.out.keep (hb3.block _ HT1.out.lt)
  have T2 := HT2.out.keep (hb3.block _ HT2.out.lt)
  obtain ⟨x0, x1, x2, x3⟩ := id T1
  have HT1' : Hid (Two ((w2.setCell ⟨w.heap.size, 0, none⟩ (.slice a3 n3 c3)).setCell ⟨w.heap.size, 1, none⟩ (.int .i64 k)) w.heap.size (.slice a3 n3 c3) (.int .i64 k)) := (T1.set0 _).set1 _
  have HT2' : Hid (Two ((w2.setCell ⟨w.heap.size, 0, none⟩ (.slice a3 n3 c3)).setCell ⟨w.heap.size, 1, none⟩ (.int .i64 k)) (w.heap.size + 1) (.slice none 0 0) (.int .i64 0)) := (T2.other (by omega) _).other (by omega) _
  have HB2 : Hid (Below w.heap.size w ((w2.setCell ⟨w.heap.size, 0, none⟩ (.slice a3 n3 c3)).setCell ⟨w.heap.size, 1, none⟩ (.int .i64 k))) := ((HBV.out.trans (hb3.mono HBV.out.size)).setCell (p := ⟨w.heap.size, 0, none⟩) (Nat.le_refl _) _).setCell (p := ⟨w.heap.size, 1, none⟩) (Nat.le_refl _) _
  obtain ⟨v0, v1, v2, v3⟩ := HT1'.out
  obtain ⟨u0, u1, u2, u3⟩ := HT2'.out
  clear hb3 T1 T2
  clear hk
  by_cases g1 : ls < 1
  · go_wp2
    have T9 := (HT2'.out.set0 (.slice a3 n3 c3)).set1 (.int .i64 k)
    refine bodyPost_ret (ret_rd Try.results47 _ (w.heap.size + 1) rfl _ T9.c0 T9.c1) rfl ?_
    rw [← HOUT.out]
    exact ⟨a3, n3, c3, rfl, HK.out, (HB2.out.setCell (p := ⟨w.heap.size + 1, 0, none⟩) (Nat.le_succ _) _).setCell (p := ⟨w.heap.size + 1, 1, none⟩) (Nat.le_succ _) _⟩
  · go_wp2
    have T9 := (HT2'.out.set0 (.slice a3 n3 c3)).set1 (.int .i64 k)
    refine bodyPost_ret (ret_rd Try.results47 _ (w.heap.size + 1) rfl _ T9.c0 T9.c1) rfl ?_
    rw [← HOUT.out]
    exact ⟨a3, n3, c3, rfl, HK.out, (HB2.out.setCell (p := ⟨w.heap.size + 1, 0, none⟩) (Nat.le_succ _) _).setCell (p := ⟨w.heap.size + 1, 1, none⟩) (Nat.le_succ _) _⟩

end Go.Proofs.Ythcidcfaodjbjaa
