/- Forms: what comes of two. -/
import Derived.Test.YtcaefimnhoeimaaFmC
namespace Go.Proofs.Ytcaefimnhoeimaa
open Go.RowKit
set_option linter.unusedVariables false

/-- two forms and room for what comes of them -/
structure TT (w W : World) (fk gk : Bool) (fa fc ga gc : Int) : Prop where
  b0 : W.heap[w.heap.size]? = some (.cells #[.bool fk, .int .i64 fa, .int .i64 fc] 30)
  b1 : W.heap[w.heap.size + 1]? = some (.cells #[.bool gk, .int .i64 ga, .int .i64 gc] 30)
  b2 : W.heap[w.heap.size + 2]? = some (.cells #[.bool false, .int .i64 0, .int .i64 0] 30)
  bl : Below w.heap.size w W
  sz : w.heap.size + 3 ≤ W.heap.size
theorem TT.next {w W V : World} {fk gk : Bool} {fa fc ga gc : Int} (h : TT w W fk gk fa fc ga gc) (hb : Below W.heap.size W V) : TT w V fk gk fa fc ga gc :=
  ⟨(hb.block _ (by have := h.sz; omega)).trans h.b0, (hb.block _ (by have := h.sz; omega)).trans h.b1, (hb.block _ (by have := h.sz; omega)).trans h.b2, h.bl.trans (hb.mono h.bl.size), by have := hb.size; have := h.sz; omega⟩
theorem TT.new (w : World) (fk gk : Bool) (fa fc ga gc : Int) : TT w (((w.alloc (.cells #[.bool fk, .int .i64 fa, .int .i64 fc] 30)).alloc (.cells #[.bool gk, .int .i64 ga, .int .i64 gc] 30)).alloc (.cells #[.bool false, .int .i64 0, .int .i64 0] 30)) fk gk fa fc ga gc :=
  ⟨three_old _ _ _ _, three_mid _ _ _ _, three_new _ _ _ _, bl3 _ _ _ _, by simp⟩

set_option maxRecDepth 100000 in
set_option maxHeartbeats 4000000 in
theorem ofTwo_num (op : Int) (fk gk : Bool) (fa fc ga gc : Int) (hf : OkF ⟨fk, fa, fc⟩) (hg : OkF ⟨gk, ga, gc⟩) (h1 : isNumB ⟨fk, fa, fc⟩ = true) (h2 : isNumB ⟨gk, ga, gc⟩ = true) (w : World) : Calls Try.prog 43 #[.int .i64 op, .agg #[.bool fk, .int .i64 fa, .int .i64 fc], .agg #[.bool gk, .int .i64 ga, .int .i64 gc]] w (FP (numF (twoR op fc gc).1) w) := by
  have HN : Hid (∀ w, Calls Try.prog 42 #[.agg #[.bool fk, .int .i64 fa, .int .i64 fc]] w fun e w' => e = .returned (.bool true) ∧ Below w.heap.size w w') := fun w => by have := isNumber_any ⟨fk, fa, fc⟩ w; rw [h1] at this; exact this
  have HN2 : Hid (∀ w, Calls Try.prog 42 #[.agg #[.bool gk, .int .i64 ga, .int .i64 gc]] w fun e w' => e = .returned (.bool true) ∧ Below w.heap.size w w') := fun w => by have := isNumber_any ⟨gk, ga, gc⟩ w; rw [h2] at this; exact this
  have H1 : Hid (∀ w, Calls Try.prog 63 #[.int .i64 op, .int .i64 fc, .int .i64 gc] w fun e w' => e = .returned (.tuple #[.int .i64 (twoR op fc gc).1, .bool (twoR op fc gc).2]) ∧ w' = w) := (twoR_is op fc gc (by have := hf.2; simp only at this; unfold R64; omega) (by have := hg.2; simp only at this; unfold R64; omega)).1.1
  have HK : Hid (∀ w, Calls Try.prog 39 #[.int .i64 (twoR op fc gc).1] w (FP (numF (twoR op fc gc).1) w)) := fun w => number_any _ w
  generalize hx : numF (twoR op fc gc).1 = r at HK ⊢
  generalize (twoR op fc gc).1 = x at H1 HK hx
  generalize (twoR op fc gc).2 = y at H1
  clear hx hf hg h1 h2
  obtain ⟨rk, ra, rc⟩ := r
  go_enter Try.func43, Try.ntmps43
  go_wp2_with fail
  refine (HN.out _).mono ?_
  rintro e w0 ⟨rfl, hb0⟩
  have HT : Hid (TT w w0 fk gk fa fc ga gc) := (TT.new w fk gk fa fc ga gc).next hb0
  clear hb0
  obtain ⟨c0, c1, c2, f0⟩ := all3 (HT.out.b0)
  obtain ⟨d0, d1, d2, g0⟩ := all3 (HT.out.b1)
  obtain ⟨e0, e1, e2, h0⟩ := all3 (HT.out.b2)
  go_wp2_with fail
  refine (HN2.out _).mono ?_
  rintro e w2 ⟨rfl, hb0⟩
  have HT2 : Hid (TT w w2 fk gk fa fc ga gc) := HT.out.next hb0
  clear hb0 HT c0 c1 c2 f0 d0 d1 d2 g0 e0 e1 e2 h0
  rename Hid _ => HT
  obtain ⟨c0, c1, c2, f0⟩ := all3 (HT.out.b0)
  obtain ⟨d0, d1, d2, g0⟩ := all3 (HT.out.b1)
  obtain ⟨e0, e1, e2, h0⟩ := all3 (HT.out.b2)
  go_wp2_with fail
  refine (H1.out _).mono ?_
  rintro e w4 ⟨rfl, hw4⟩; rw [hw4]; clear hw4 w4
  go_wp2_with fail
  refine (HK.out _).mono ?_
  rintro e w9 ⟨rfl, hb⟩
  have HX : Hid (TT w w9 fk gk fa fc ga gc) := HT.out.next hb
  clear c0 c1 c2 f0 d0 d1 d2 g0 e0 e1 e2 h0 hb
  obtain ⟨e0, e1, e2, h0⟩ := all3 (HX.out.b2)
  unfold fv
  go_wp2_with fail
  refine bodyPost_ret (ret_f Try.results43 _ (w.heap.size + 2) rfl _ _ _ _ (put3 HX.out.b2 _ _ _)) rfl ?_
  exact ⟨rfl, put3_below HX.out.bl (by omega) _ _ _⟩

set_option maxRecDepth 100000 in
set_option maxHeartbeats 4000000 in
theorem ofTwo_nf (op : Int) (fk gk : Bool) (fa fc ga gc : Int) (hf : OkF ⟨fk, fa, fc⟩) (hg : OkF ⟨gk, ga, gc⟩) (h1 : isNumB ⟨fk, fa, fc⟩ = false) (w : World) : Calls Try.prog 43 #[.int .i64 op, .agg #[.bool fk, .int .i64 fa, .int .i64 fc], .agg #[.bool gk, .int .i64 ga, .int .i64 gc]] w (FP (twoF op ⟨fk, fa, fc⟩ ⟨gk, ga, gc⟩) w) := by
  have HN : Hid (∀ w, Calls Try.prog 42 #[.agg #[.bool fk, .int .i64 fa, .int .i64 fc]] w fun e w' => e = .returned (.bool false) ∧ Below w.heap.size w w') := fun w => by have := isNumber_any ⟨fk, fa, fc⟩ w; rw [h1] at this; exact this
  have HE : Hid (twoF op ⟨fk, fa, fc⟩ ⟨gk, ga, gc⟩ = if fk = false then fz else if gk = false then fz else if op = 1 then keptF (fa + ga) (fc + gc) else if op = 2 then keptF (fa - ga) (fc - gc) else if op = 3 then productF ⟨fk, fa, fc⟩ ⟨gk, ga, gc⟩ else fz) := by show _ = _; unfold twoF; rw [if_neg (by rw [h1]; simp)]
  clear h1 
  obtain ⟨⟨b1, b2⟩, ⟨b3, b4⟩⟩ := id hf
  obtain ⟨⟨b5, b6⟩, ⟨b7, b8⟩⟩ := id hg
  simp only at b1 b2 b3 b4 b5 b6 b7 b8
  cases fk
  · rw [HE.out, if_pos rfl]
    clear HE hf hg
    go_enter Try.func43, Try.ntmps43
    go_wp2_with fail
    refine (HN.out _).mono ?_
    rintro e w0 ⟨rfl, hb0⟩
    have HT : Hid (TT w w0 false gk fa fc ga gc) := (TT.new w false gk fa fc ga gc).next hb0
    clear hb0
    obtain ⟨c0, c1, c2, f0⟩ := all3 (HT.out.b0)
    obtain ⟨d0, d1, d2, g0⟩ := all3 (HT.out.b1)
    obtain ⟨e0, e1, e2, h0⟩ := all3 (HT.out.b2)
    go_wp2_with fail
    refine bodyPost_ret (ret_f Try.results43 _ (w.heap.size + 2) rfl _ _ _ _ (put3 HT.out.b2 _ _ _)) rfl ?_
    exact ⟨rfl, put3_below HT.out.bl (by omega) _ _ _⟩
  · cases gk
    · rw [HE.out, if_neg (by simp), if_pos rfl]
      clear HE hf hg
      go_enter Try.func43, Try.ntmps43
      go_wp2_with fail
      refine (HN.out _).mono ?_
      rintro e w0 ⟨rfl, hb0⟩
      have HT : Hid (TT w w0 true false fa fc ga gc) := (TT.new w true false fa fc ga gc).next hb0
      clear hb0
      obtain ⟨c0, c1, c2, f0⟩ := all3 (HT.out.b0)
      obtain ⟨d0, d1, d2, g0⟩ := all3 (HT.out.b1)
      obtain ⟨e0, e1, e2, h0⟩ := all3 (HT.out.b2)
      go_wp2_with fail
      refine bodyPost_ret (ret_f Try.results43 _ (w.heap.size + 2) rfl _ _ _ _ (put3 HT.out.b2 _ _ _)) rfl ?_
      exact ⟨rfl, put3_below HT.out.bl (by omega) _ _ _⟩
    · by_cases o1 : op = 1
      · subst o1
        rw [HE.out, if_neg (by simp), if_neg (by simp), if_pos rfl]
        have HK : Hid (∀ w, Calls Try.prog 40 #[.int .i64 (fa + ga), .int .i64 (fc + gc)] w (FP (keptF (fa + ga) (fc + gc)) w)) := fun w => kept_any _ _ w
        generalize keptF (fa + ga) (fc + gc) = r at HK ⊢
        obtain ⟨rk, ra, rc⟩ := r
        clear HE hf hg
        go_enter Try.func43, Try.ntmps43
        go_wp2_with fail
        refine (HN.out _).mono ?_
        rintro e w0 ⟨rfl, hb0⟩
        have HT : Hid (TT w w0 true true fa fc ga gc) := (TT.new w true true fa fc ga gc).next hb0
        clear hb0
        obtain ⟨c0, c1, c2, f0⟩ := all3 (HT.out.b0)
        obtain ⟨d0, d1, d2, g0⟩ := all3 (HT.out.b1)
        obtain ⟨e0, e1, e2, h0⟩ := all3 (HT.out.b2)
        go_wp2_with fail
        refine (HK.out _).mono ?_
        rintro e w9 ⟨rfl, hb⟩
        have HX : Hid (TT w w9 true true fa fc ga gc) := HT.out.next hb
        clear c0 c1 c2 f0 d0 d1 d2 g0 e0 e1 e2 h0 hb
        obtain ⟨e0, e1, e2, h0⟩ := all3 (HX.out.b2)
        unfold fv
        go_wp2_with fail
        refine bodyPost_ret (ret_f Try.results43 _ (w.heap.size + 2) rfl _ _ _ _ (put3 HX.out.b2 _ _ _)) rfl ?_
        exact ⟨rfl, put3_below HX.out.bl (by omega) _ _ _⟩
      · by_cases o2 : op = 2
        · subst o2
          rw [HE.out, if_neg (by simp), if_neg (by simp), if_neg (by simp), if_pos rfl]
          have HK : Hid (∀ w, Calls Try.prog 40 #[.int .i64 (fa - ga), .int .i64 (fc - gc)] w (FP (keptF (fa - ga) (fc - gc)) w)) := fun w => kept_any _ _ w
          generalize keptF (fa - ga) (fc - gc) = r at HK ⊢
          obtain ⟨rk, ra, rc⟩ := r
          clear HE hf hg o1
          go_enter Try.func43, Try.ntmps43
          go_wp2_with fail
          refine (HN.out _).mono ?_
          rintro e w0 ⟨rfl, hb0⟩
          have HT : Hid (TT w w0 true true fa fc ga gc) := (TT.new w true true fa fc ga gc).next hb0
          clear hb0
          obtain ⟨c0, c1, c2, f0⟩ := all3 (HT.out.b0)
          obtain ⟨d0, d1, d2, g0⟩ := all3 (HT.out.b1)
          obtain ⟨e0, e1, e2, h0⟩ := all3 (HT.out.b2)
          go_wp2_with fail
          refine (HK.out _).mono ?_
          rintro e w9 ⟨rfl, hb⟩
          have HX : Hid (TT w w9 true true fa fc ga gc) := HT.out.next hb
          clear c0 c1 c2 f0 d0 d1 d2 g0 e0 e1 e2 h0 hb
          obtain ⟨e0, e1, e2, h0⟩ := all3 (HX.out.b2)
          unfold fv
          go_wp2_with fail
          refine bodyPost_ret (ret_f Try.results43 _ (w.heap.size + 2) rfl _ _ _ _ (put3 HX.out.b2 _ _ _)) rfl ?_
          exact ⟨rfl, put3_below HX.out.bl (by omega) _ _ _⟩
        · by_cases o3 : op = 3
          · subst o3
            rw [HE.out, if_neg (by simp), if_neg (by simp), if_neg (by simp), if_neg (by simp), if_pos rfl]
            have HK : Hid (∀ w, Calls Try.prog 64 #[.agg #[.bool true, .int .i64 fa, .int .i64 fc], .agg #[.bool true, .int .i64 ga, .int .i64 gc]] w (FP (productF ⟨true, fa, fc⟩ ⟨true, ga, gc⟩) w)) := fun w => product_any _ _ hf hg w
            generalize productF ⟨true, fa, fc⟩ ⟨true, ga, gc⟩ = r at HK ⊢
            obtain ⟨rk, ra, rc⟩ := r
            clear HE hf hg o1 o2
            go_enter Try.func43, Try.ntmps43
            go_wp2_with fail
            refine (HN.out _).mono ?_
            rintro e w0 ⟨rfl, hb0⟩
            have HT : Hid (TT w w0 true true fa fc ga gc) := (TT.new w true true fa fc ga gc).next hb0
            clear hb0
            obtain ⟨c0, c1, c2, f0⟩ := all3 (HT.out.b0)
            obtain ⟨d0, d1, d2, g0⟩ := all3 (HT.out.b1)
            obtain ⟨e0, e1, e2, h0⟩ := all3 (HT.out.b2)
            go_wp2_with fail
            refine (HK.out _).mono ?_
            rintro e w9 ⟨rfl, hb⟩
            have HX : Hid (TT w w9 true true fa fc ga gc) := HT.out.next hb
            clear c0 c1 c2 f0 d0 d1 d2 g0 e0 e1 e2 h0 hb
            obtain ⟨e0, e1, e2, h0⟩ := all3 (HX.out.b2)
            unfold fv
            go_wp2_with fail
            refine bodyPost_ret (ret_f Try.results43 _ (w.heap.size + 2) rfl _ _ _ _ (put3 HX.out.b2 _ _ _)) rfl ?_
            exact ⟨rfl, put3_below HX.out.bl (by omega) _ _ _⟩
          · rw [HE.out, if_neg (by simp), if_neg (by simp), if_neg o1, if_neg o2, if_neg o3]
            have q1 : (op == 1) = false := by simpa using o1
            have q2 : (op == 2) = false := by simpa using o2
            have q3 : (op == 3) = false := by simpa using o3
            clear HE hf hg o1 o2 o3
            go_enter Try.func43, Try.ntmps43
            go_wp2_with fail
            refine (HN.out _).mono ?_
            rintro e w0 ⟨rfl, hb0⟩
            have HT : Hid (TT w w0 true true fa fc ga gc) := (TT.new w true true fa fc ga gc).next hb0
            clear hb0
            obtain ⟨c0, c1, c2, f0⟩ := all3 (HT.out.b0)
            obtain ⟨d0, d1, d2, g0⟩ := all3 (HT.out.b1)
            obtain ⟨e0, e1, e2, h0⟩ := all3 (HT.out.b2)
            go_wp2_with fail
            refine bodyPost_ret (ret_f Try.results43 _ (w.heap.size + 2) rfl _ _ _ _ (put3 HT.out.b2 _ _ _)) rfl ?_
            exact ⟨rfl, put3_below HT.out.bl (by omega) _ _ _⟩

set_option maxRecDepth 100000 in
set_option maxHeartbeats 4000000 in
theorem ofTwo_ng (op : Int) (fk gk : Bool) (fa fc ga gc : Int) (hf : OkF ⟨fk, fa, fc⟩) (hg : OkF ⟨gk, ga, gc⟩) (h1 : isNumB ⟨fk, fa, fc⟩ = true) (h2 : isNumB ⟨gk, ga, gc⟩ = false) (w : World) : Calls Try.prog 43 #[.int .i64 op, .agg #[.bool fk, .int .i64 fa, .int .i64 fc], .agg #[.bool gk, .int .i64 ga, .int .i64 gc]] w (FP (twoF op ⟨fk, fa, fc⟩ ⟨gk, ga, gc⟩) w) := by
  have HN : Hid (∀ w, Calls Try.prog 42 #[.agg #[.bool fk, .int .i64 fa, .int .i64 fc]] w fun e w' => e = .returned (.bool true) ∧ Below w.heap.size w w') := fun w => by have := isNumber_any ⟨fk, fa, fc⟩ w; rw [h1] at this; exact this
  have HN2 : Hid (∀ w, Calls Try.prog 42 #[.agg #[.bool gk, .int .i64 ga, .int .i64 gc]] w fun e w' => e = .returned (.bool false) ∧ Below w.heap.size w w') := fun w => by have := isNumber_any ⟨gk, ga, gc⟩ w; rw [h2] at this; exact this
  have HE : Hid (twoF op ⟨fk, fa, fc⟩ ⟨gk, ga, gc⟩ = if fk = false then fz else if gk = false then fz else if op = 1 then keptF (fa + ga) (fc + gc) else if op = 2 then keptF (fa - ga) (fc - gc) else if op = 3 then productF ⟨fk, fa, fc⟩ ⟨gk, ga, gc⟩ else fz) := by show _ = _; unfold twoF; rw [if_neg (by rw [h2]; simp)]
  clear h1 h2
  obtain ⟨⟨b1, b2⟩, ⟨b3, b4⟩⟩ := id hf
  obtain ⟨⟨b5, b6⟩, ⟨b7, b8⟩⟩ := id hg
  simp only at b1 b2 b3 b4 b5 b6 b7 b8
  cases fk
  · rw [HE.out, if_pos rfl]
    clear HE hf hg
    go_enter Try.func43, Try.ntmps43
    go_wp2_with fail
    refine (HN.out _).mono ?_
    rintro e w0 ⟨rfl, hb0⟩
    have HT : Hid (TT w w0 false gk fa fc ga gc) := (TT.new w false gk fa fc ga gc).next hb0
    clear hb0
    obtain ⟨c0, c1, c2, f0⟩ := all3 (HT.out.b0)
    obtain ⟨d0, d1, d2, g0⟩ := all3 (HT.out.b1)
    obtain ⟨e0, e1, e2, h0⟩ := all3 (HT.out.b2)
    go_wp2_with fail
    refine (HN2.out _).mono ?_
    rintro e w2 ⟨rfl, hb0⟩
    have HT2 : Hid (TT w w2 false gk fa fc ga gc) := HT.out.next hb0
    clear hb0 HT c0 c1 c2 f0 d0 d1 d2 g0 e0 e1 e2 h0
    rename Hid _ => HT
    obtain ⟨c0, c1, c2, f0⟩ := all3 (HT.out.b0)
    obtain ⟨d0, d1, d2, g0⟩ := all3 (HT.out.b1)
    obtain ⟨e0, e1, e2, h0⟩ := all3 (HT.out.b2)
    go_wp2_with fail
    refine bodyPost_ret (ret_f Try.results43 _ (w.heap.size + 2) rfl _ _ _ _ (put3 HT.out.b2 _ _ _)) rfl ?_
    exact ⟨rfl, put3_below HT.out.bl (by omega) _ _ _⟩
  · cases gk
    · rw [HE.out, if_neg (by simp), if_pos rfl]
      clear HE hf hg
      go_enter Try.func43, Try.ntmps43
      go_wp2_with fail
      refine (HN.out _).mono ?_
      rintro e w0 ⟨rfl, hb0⟩
      have HT : Hid (TT w w0 true false fa fc ga gc) := (TT.new w true false fa fc ga gc).next hb0
      clear hb0
      obtain ⟨c0, c1, c2, f0⟩ := all3 (HT.out.b0)
      obtain ⟨d0, d1, d2, g0⟩ := all3 (HT.out.b1)
      obtain ⟨e0, e1, e2, h0⟩ := all3 (HT.out.b2)
      go_wp2_with fail
      refine (HN2.out _).mono ?_
      rintro e w2 ⟨rfl, hb0⟩
      have HT2 : Hid (TT w w2 true false fa fc ga gc) := HT.out.next hb0
      clear hb0 HT c0 c1 c2 f0 d0 d1 d2 g0 e0 e1 e2 h0
      rename Hid _ => HT
      obtain ⟨c0, c1, c2, f0⟩ := all3 (HT.out.b0)
      obtain ⟨d0, d1, d2, g0⟩ := all3 (HT.out.b1)
      obtain ⟨e0, e1, e2, h0⟩ := all3 (HT.out.b2)
      go_wp2_with fail
      refine bodyPost_ret (ret_f Try.results43 _ (w.heap.size + 2) rfl _ _ _ _ (put3 HT.out.b2 _ _ _)) rfl ?_
      exact ⟨rfl, put3_below HT.out.bl (by omega) _ _ _⟩
    · by_cases o1 : op = 1
      · subst o1
        rw [HE.out, if_neg (by simp), if_neg (by simp), if_pos rfl]
        have HK : Hid (∀ w, Calls Try.prog 40 #[.int .i64 (fa + ga), .int .i64 (fc + gc)] w (FP (keptF (fa + ga) (fc + gc)) w)) := fun w => kept_any _ _ w
        generalize keptF (fa + ga) (fc + gc) = r at HK ⊢
        obtain ⟨rk, ra, rc⟩ := r
        clear HE hf hg
        go_enter Try.func43, Try.ntmps43
        go_wp2_with fail
        refine (HN.out _).mono ?_
        rintro e w0 ⟨rfl, hb0⟩
        have HT : Hid (TT w w0 true true fa fc ga gc) := (TT.new w true true fa fc ga gc).next hb0
        clear hb0
        obtain ⟨c0, c1, c2, f0⟩ := all3 (HT.out.b0)
        obtain ⟨d0, d1, d2, g0⟩ := all3 (HT.out.b1)
        obtain ⟨e0, e1, e2, h0⟩ := all3 (HT.out.b2)
        go_wp2_with fail
        refine (HN2.out _).mono ?_
        rintro e w2 ⟨rfl, hb0⟩
        have HT2 : Hid (TT w w2 true true fa fc ga gc) := HT.out.next hb0
        clear hb0 HT c0 c1 c2 f0 d0 d1 d2 g0 e0 e1 e2 h0
        rename Hid _ => HT
        obtain ⟨c0, c1, c2, f0⟩ := all3 (HT.out.b0)
        obtain ⟨d0, d1, d2, g0⟩ := all3 (HT.out.b1)
        obtain ⟨e0, e1, e2, h0⟩ := all3 (HT.out.b2)
        go_wp2_with fail
        refine (HK.out _).mono ?_
        rintro e w9 ⟨rfl, hb⟩
        have HX : Hid (TT w w9 true true fa fc ga gc) := HT.out.next hb
        clear c0 c1 c2 f0 d0 d1 d2 g0 e0 e1 e2 h0 hb
        obtain ⟨e0, e1, e2, h0⟩ := all3 (HX.out.b2)
        unfold fv
        go_wp2_with fail
        refine bodyPost_ret (ret_f Try.results43 _ (w.heap.size + 2) rfl _ _ _ _ (put3 HX.out.b2 _ _ _)) rfl ?_
        exact ⟨rfl, put3_below HX.out.bl (by omega) _ _ _⟩
      · by_cases o2 : op = 2
        · subst o2
          rw [HE.out, if_neg (by simp), if_neg (by simp), if_neg (by simp), if_pos rfl]
          have HK : Hid (∀ w, Calls Try.prog 40 #[.int .i64 (fa - ga), .int .i64 (fc - gc)] w (FP (keptF (fa - ga) (fc - gc)) w)) := fun w => kept_any _ _ w
          generalize keptF (fa - ga) (fc - gc) = r at HK ⊢
          obtain ⟨rk, ra, rc⟩ := r
          clear HE hf hg o1
          go_enter Try.func43, Try.ntmps43
          go_wp2_with fail
          refine (HN.out _).mono ?_
          rintro e w0 ⟨rfl, hb0⟩
          have HT : Hid (TT w w0 true true fa fc ga gc) := (TT.new w true true fa fc ga gc).next hb0
          clear hb0
          obtain ⟨c0, c1, c2, f0⟩ := all3 (HT.out.b0)
          obtain ⟨d0, d1, d2, g0⟩ := all3 (HT.out.b1)
          obtain ⟨e0, e1, e2, h0⟩ := all3 (HT.out.b2)
          go_wp2_with fail
          refine (HN2.out _).mono ?_
          rintro e w2 ⟨rfl, hb0⟩
          have HT2 : Hid (TT w w2 true true fa fc ga gc) := HT.out.next hb0
          clear hb0 HT c0 c1 c2 f0 d0 d1 d2 g0 e0 e1 e2 h0
          rename Hid _ => HT
          obtain ⟨c0, c1, c2, f0⟩ := all3 (HT.out.b0)
          obtain ⟨d0, d1, d2, g0⟩ := all3 (HT.out.b1)
          obtain ⟨e0, e1, e2, h0⟩ := all3 (HT.out.b2)
          go_wp2_with fail
          refine (HK.out _).mono ?_
          rintro e w9 ⟨rfl, hb⟩
          have HX : Hid (TT w w9 true true fa fc ga gc) := HT.out.next hb
          clear c0 c1 c2 f0 d0 d1 d2 g0 e0 e1 e2 h0 hb
          obtain ⟨e0, e1, e2, h0⟩ := all3 (HX.out.b2)
          unfold fv
          go_wp2_with fail
          refine bodyPost_ret (ret_f Try.results43 _ (w.heap.size + 2) rfl _ _ _ _ (put3 HX.out.b2 _ _ _)) rfl ?_
          exact ⟨rfl, put3_below HX.out.bl (by omega) _ _ _⟩
        · by_cases o3 : op = 3
          · subst o3
            rw [HE.out, if_neg (by simp), if_neg (by simp), if_neg (by simp), if_neg (by simp), if_pos rfl]
            have HK : Hid (∀ w, Calls Try.prog 64 #[.agg #[.bool true, .int .i64 fa, .int .i64 fc], .agg #[.bool true, .int .i64 ga, .int .i64 gc]] w (FP (productF ⟨true, fa, fc⟩ ⟨true, ga, gc⟩) w)) := fun w => product_any _ _ hf hg w
            generalize productF ⟨true, fa, fc⟩ ⟨true, ga, gc⟩ = r at HK ⊢
            obtain ⟨rk, ra, rc⟩ := r
            clear HE hf hg o1 o2
            go_enter Try.func43, Try.ntmps43
            go_wp2_with fail
            refine (HN.out _).mono ?_
            rintro e w0 ⟨rfl, hb0⟩
            have HT : Hid (TT w w0 true true fa fc ga gc) := (TT.new w true true fa fc ga gc).next hb0
            clear hb0
            obtain ⟨c0, c1, c2, f0⟩ := all3 (HT.out.b0)
            obtain ⟨d0, d1, d2, g0⟩ := all3 (HT.out.b1)
            obtain ⟨e0, e1, e2, h0⟩ := all3 (HT.out.b2)
            go_wp2_with fail
            refine (HN2.out _).mono ?_
            rintro e w2 ⟨rfl, hb0⟩
            have HT2 : Hid (TT w w2 true true fa fc ga gc) := HT.out.next hb0
            clear hb0 HT c0 c1 c2 f0 d0 d1 d2 g0 e0 e1 e2 h0
            rename Hid _ => HT
            obtain ⟨c0, c1, c2, f0⟩ := all3 (HT.out.b0)
            obtain ⟨d0, d1, d2, g0⟩ := all3 (HT.out.b1)
            obtain ⟨e0, e1, e2, h0⟩ := all3 (HT.out.b2)
            go_wp2_with fail
            refine (HK.out _).mono ?_
            rintro e w9 ⟨rfl, hb⟩
            have HX : Hid (TT w w9 true true fa fc ga gc) := HT.out.next hb
            clear c0 c1 c2 f0 d0 d1 d2 g0 e0 e1 e2 h0 hb
            obtain ⟨e0, e1, e2, h0⟩ := all3 (HX.out.b2)
            unfold fv
            go_wp2_with fail
            refine bodyPost_ret (ret_f Try.results43 _ (w.heap.size + 2) rfl _ _ _ _ (put3 HX.out.b2 _ _ _)) rfl ?_
            exact ⟨rfl, put3_below HX.out.bl (by omega) _ _ _⟩
          · rw [HE.out, if_neg (by simp), if_neg (by simp), if_neg o1, if_neg o2, if_neg o3]
            have q1 : (op == 1) = false := by simpa using o1
            have q2 : (op == 2) = false := by simpa using o2
            have q3 : (op == 3) = false := by simpa using o3
            clear HE hf hg o1 o2 o3
            go_enter Try.func43, Try.ntmps43
            go_wp2_with fail
            refine (HN.out _).mono ?_
            rintro e w0 ⟨rfl, hb0⟩
            have HT : Hid (TT w w0 true true fa fc ga gc) := (TT.new w true true fa fc ga gc).next hb0
            clear hb0
            obtain ⟨c0, c1, c2, f0⟩ := all3 (HT.out.b0)
            obtain ⟨d0, d1, d2, g0⟩ := all3 (HT.out.b1)
            obtain ⟨e0, e1, e2, h0⟩ := all3 (HT.out.b2)
            go_wp2_with fail
            refine (HN2.out _).mono ?_
            rintro e w2 ⟨rfl, hb0⟩
            have HT2 : Hid (TT w w2 true true fa fc ga gc) := HT.out.next hb0
            clear hb0 HT c0 c1 c2 f0 d0 d1 d2 g0 e0 e1 e2 h0
            rename Hid _ => HT
            obtain ⟨c0, c1, c2, f0⟩ := all3 (HT.out.b0)
            obtain ⟨d0, d1, d2, g0⟩ := all3 (HT.out.b1)
            obtain ⟨e0, e1, e2, h0⟩ := all3 (HT.out.b2)
            go_wp2_with fail
            refine bodyPost_ret (ret_f Try.results43 _ (w.heap.size + 2) rfl _ _ _ _ (put3 HT.out.b2 _ _ _)) rfl ?_
            exact ⟨rfl, put3_below HT.out.bl (by omega) _ _ _⟩

theorem ofTwo_any (op : Int) (f g : Fm) (hf : OkF f) (hg : OkF g) (w : World) : Calls Try.prog 43 #[.int .i64 op, fv f, fv g] w (FP (twoF op f g) w) := by
  obtain ⟨fk, fa, fc⟩ := f
  obtain ⟨gk, ga, gc⟩ := g
  cases h1 : isNumB ⟨fk, fa, fc⟩
  · exact ofTwo_nf op fk gk fa fc ga gc hf hg h1 w
  · cases h2 : isNumB ⟨gk, ga, gc⟩
    · exact ofTwo_ng op fk gk fa fc ga gc hf hg h1 h2 w
    · have e : twoF op ⟨fk, fa, fc⟩ ⟨gk, ga, gc⟩ = numF (twoR op fc gc).1 := by unfold twoF; rw [if_pos ⟨h1, h2⟩]
      rw [e]; exact ofTwo_num op fk gk fa fc ga gc hf hg h1 h2 w
end Go.Proofs.Ytcaefimnhoeimaa
