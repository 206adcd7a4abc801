/- slices.Insert of one edge, where there is room. -/
import Derived.Test.YtongeppdaeekeaaGrE
namespace Go.Proofs.Ytongeppdaeekeaa
open Go.RowKit Go.Maps
set_option linter.unusedVariables false

set_option maxRecDepth 100000 in
set_option maxHeartbeats 8000000 in
theorem ins_in (w : World) (g cap : Nat) (l : Ed) (i : Nat) (z : Int × Int) (gx : Nat) (h : RZ kE w (.slice (some ⟨g, 0, none⟩) l.length cap) l) (hi : i < l.length) (hx : w.heap[gx]? = some (.cells #[.int .i64 z.1, .int .i64 z.2] 90)) (hne : g ≠ gx) (hl : l.length ≤ 600) (hc : l.length + 1 ≤ cap) :
    Calls Try.prog 83 #[.slice (some ⟨g, 0, none⟩) l.length cap, .int .i64 (i : Int), .slice (some ⟨gx, 0, none⟩) 1 1] w (InsQ w (.slice (some ⟨g, 0, none⟩) l.length cap) (l.take i ++ z :: l.drop i)) := by
  obtain ⟨n, hn⟩ : ∃ n, l.length = n := ⟨_, rfl⟩
  rw [hn] at hi hl hc h ⊢
  obtain ⟨cur, hcur, hcm, hcs, hct⟩ : ∃ cur : Array Value, w.heap[g]? = some (.cells cur 90 (0, 0)) ∧ cap ≤ maxLen ∧ cur.size = cap * 2 ∧ cur.toList.take (n * 2) = kE.flat l := by
    rcases h.2 with ⟨h1, h0⟩ | ⟨g', cap', cur', h1, _, h3, h4, h5, h6, h7⟩
    · cases h1
    · injection h1 with e1 e2 e3
      injection e1 with e1
      injection e1 with e1
      subst e1 e3
      exact ⟨cur', h3, h5, h6, by rw [← hn]; exact h7⟩
  have hov : ∀ ob lb cb, (callFunc 98 #[.slice (some ⟨gx, 0, none⟩) 1 1, .slice (some ⟨g, ob, none⟩) lb cb]).run Try.prog w = .ok (.value (.bool false)) w := fun ob lb cb => by
    rw [run_callFunc_extern Try.func98 (by kernel_rfl) (by kernel_rfl) (by kernel_rfl) (e := Extern.SlicesOverlaps.overlaps #[86, 86] #[4]) (by kernel_rfl)]
    have hz : ∀ w, (Go.sizeOf 90).run Try.prog w = .ok 2 w := fun w => by
      obtain ⟨i0, hi0, _, h2, _⟩ := kE.info
      have hi1 : Try.prog.info? 90 = some i0 := hi0
      have h3 : i0.size = 2 := h2
      simp [Go.sizeOf, typeInfo, hi1, h3]
    rw [Lib.run_overlaps_apart w 86 4 90 Try.underlying86 2 hz ⟨gx, 0, none⟩ ⟨g, ob, none⟩ 1 1 lb cb (Ne.symm hne) 90 90 2 (cap * 2) (by simp [World.shape?, hx]) (by simp [World.shape?, hcur, hcs]) (by omega) (frozen_of_row w gx 0 _ _ hx) (frozen_of_row w gx 2 _ _ hx)]
    rfl
  obtain ⟨A, hA⟩ : ∃ A, kE.flat (l.take i) = A := ⟨_, rfl⟩
  obtain ⟨B, hB⟩ : ∃ B, kE.flat (l.drop i) = B := ⟨_, rfl⟩
  obtain ⟨S, hS⟩ : ∃ S, cur.toList.drop (n * 2) = S := ⟨_, rfl⟩
  have hAl : A.length = i * 2 := by rw [← hA, kE.flat_len, List.length_take, hn, Nat.min_eq_left (by omega)]; rfl
  have hBl : B.length = (n - i) * 2 := by rw [← hB, kE.flat_len, List.length_drop, hn]; rfl
  have hsplit : kE.flat l = A ++ B := by rw [← hA, ← hB, ← kE.flat_app, List.take_append_drop]
  have hX : cur.toList = A ++ B ++ S := by rw [← hsplit, ← hct, ← hS, List.take_append_drop]
  have hSl : S.length = (cap - n) * 2 := by rw [← hS, List.length_drop, Array.length_toList, hcs]; omega
  have hB1 : ∀ u ∈ B, u.oneCell' = true := by rw [← hB]; exact kE.flat_one _
  have HB1 : Hid (∀ u ∈ B, u.oneCell' = true) := hB1
  have HFL : Hid (kE.flat (l.take i ++ z :: l.drop i) = A ++ (duo z ++ B)) := by
    show _ = _
    rw [kE.flat_app, hA]
    have e : kE.flat (z :: l.drop i) = duo z ++ kE.flat (l.drop i) := by simp [RK.flat, kE]
    rw [e, hB]
  have HLEN : Hid ((l.take i ++ z :: l.drop i).length = n + 1) := by
    show _ = _
    simp only [List.length_append, List.length_take, List.length_cons, List.length_drop, hn]; omega
  obtain ⟨X, hXX⟩ : ∃ X, A ++ B ++ S = X := ⟨_, rfl⟩
  have HXX : Hid (A ++ B ++ S = X) := hXX
  have HC : Hid (w.heap[g]? = some (.cells X.toArray 90 (0, 0))) := by rw [← hXX, ← hX]; exact hcur
  have HX : Hid (w.heap[gx]? = some (.cells #[.int .i64 z.1, .int .i64 z.2] 90)) := hx
  obtain ⟨p1, hp1⟩ : ∃ p : Nat, p = i + 1 := ⟨_, rfl⟩
  obtain ⟨m1, hm1⟩ : ∃ p : Nat, p = n + 1 := ⟨_, rfl⟩
  have HP1 : Hid (p1 = i + 1 ∧ m1 = n + 1) := ⟨hp1, hm1⟩
  have HTL : Hid (A.length = i * 2 ∧ B.length = (n - i) * 2 ∧ S.length = (cap - n) * 2 ∧ n + 1 ≤ cap ∧ cap ≤ maxLen ∧ i < n) := ⟨hAl, hBl, hSl, hc, hcm, hi⟩
  have HZn : Hid (∀ d, 1 ≤ d → (duo z).length = Nat.min 1 d * kE.k) := fun d hd => by
    show 2 = min 1 d * 2
    rw [Nat.min_eq_left hd]
  have HBn : Hid (∀ d s, d = n - i → n - i ≤ s → B.length = Nat.min s d * kE.k) := fun d s h1 h2 => by
    subst h1
    rw [hBl]
    show _ = min _ _ * 2
    rw [Nat.min_eq_right h2]
  have HBs : Hid (∀ j v, B[j]? = some v → w.drew.cell? ((⟨g, i * 2, none⟩ : Addr).add j) = some v) := fun j v hj => by
    show w.cell? _ = _
    rw [addn, cell_of_row w g _ _ _ _ HC.out, List.getElem?_toArray, ← hXX, List.getElem?_append_left (by have := (List.getElem?_eq_some_iff.1 hj).1; rw [List.length_append]; omega), List.getElem?_append_right (by omega), hAl, Nat.add_sub_cancel_left]
    exact hj
  have HBf : Hid (p1 * 2 + B.length ≤ X.length) := by
    show _ ≤ _
    rw [← hXX]
    simp only [List.length_append]; omega
  have HCd : Hid (w.drew.heap[g]? = some (.cells X.toArray 90 (0, 0))) := HC.out
  have HQ : Hid (∀ w', RZ kE w' (.slice (some ⟨g, 0, none⟩) m1 cap) (l.take i ++ z :: l.drop i) → w.grownBy w' (some g) → InsQ w (.slice (some ⟨g, 0, none⟩) n cap) (l.take i ++ z :: l.drop i) (.returned (.slice (some ⟨g, 0, none⟩) m1 cap)) w') := fun w' h1 h2 => ⟨_, rfl, h1, h2, .inl rfl⟩
  have HNE : Hid (g ≠ gx) := hne
  have t1 : decide ((cap : Int) < (n : Int) + 1) = false := by simp; omega
  have t1' : decide ((cap : Int) < (m1 : Int)) = false := by simp; omega
  have t2 : ((i : Int) == (n : Int)) = false := by simp; omega
  have t3 : ¬ (cap = i) := by omega
  have t4 : ¬ (cap = p1) := by omega
  have i0 : (0 : Int) ≤ (i : Int) := by omega
  have i1 : (i : Int) ≤ (n : Int) := by omega
  have i2 : (i : Int) ≤ (m1 : Int) := by omega
  have j1 : (n : Int) + 1 = (m1 : Int) := by omega
  have j2 : (m1 : Int) ≤ (cap : Int) := by omega
  have j3 : (0 : Int) ≤ (m1 : Int) := by omega
  have j4 : IntKind.i64.wrap (m1 : Int) = (m1 : Int) := by rw [IntKind.wrap_i64]; omega
  have t6 : (i : Int) + 1 = (p1 : Int) := by omega
  have t7 : (p1 : Int) ≤ (m1 : Int) := by omega
  have t9 : (0 : Int) ≤ (p1 : Int) := by omega
  have t10 : IntKind.i64.wrap (p1 : Int) = (p1 : Int) := by rw [IntKind.wrap_i64]; omega
  clear hcur hcs hct hX hXX hS hSl hA hB hAl hBl hsplit h hx hn hB1 hp1 hm1 hne
  generalize InsQ w (.slice (some ⟨g, 0, none⟩) n cap) (l.take i ++ z :: l.drop i) = P at *
  generalize l.take i ++ z :: l.drop i = l2 at *
  go_enter Try.func83, Try.ntmps83
  go_upto_region 15 with (simp only [hov])
  refine wp_region_still_tail 8 (by kernel_rfl) (by kernel_rfl) ?_
  simp only [List.take_succ_cons, List.take_zero, List.drop_succ_cons, List.drop_zero]
  repeat still_step
  refine wpStill_nil ?_
  go_wp2_with (refine copy_k kE _ rfl _ _ rfl g (p1 * 2) _ _ ⟨g, i * 2, none⟩ _ _ rfl rfl X 90 HCd.out B (HBn.out _ _ (by have := HP1.out; omega) (by have := HP1.out; omega)) HBs.out HBf.out HB1.out ?c1)
  case c1 =>
    intro w3 h3 g3 s3
    obtain ⟨Y1, hY1⟩ : ∃ Y, X.take (p1 * 2) ++ (B ++ X.drop (p1 * 2 + B.length)) = Y := ⟨_, rfl⟩
    rw [hY1] at h3
    have HY1 : Hid (X.take (p1 * 2) ++ (B ++ X.drop (p1 * 2 + B.length)) = Y1) := hY1
    have H3 : Hid (w3.heap[g]? = some (.cells Y1.toArray 90 (0, 0))) := h3
    have HG3 : Hid (w.grownBy w3 (some g) ∧ w3.heap.size = w.heap.size) := ⟨⟨g3.os, g3.tape, g3.output, g3.size, g3.block⟩, s3⟩
    have HZs : Hid (∀ j v, (duo z)[j]? = some v → w3.cell? ((⟨gx, 0, none⟩ : Addr).add j) = some v) := fun j v hj => by
      rw [addn, Nat.zero_add, cell_of_row w3 gx _ _ _ _ ((g3.block gx (Array.getElem?_eq_some_iff.1 HX.out).1 (fun e => HNE.out (by injection e with e; exact e.symm))).trans HX.out)]
      have hj3 : j < 2 := (List.getElem?_eq_some_iff.1 hj).1
      match j, hj3 with
      | 0, _ => exact hj
      | 1, _ => exact hj
    have HZf : Hid (i * 2 + (duo z).length ≤ Y1.length) := by
      show i * 2 + 2 ≤ _
      obtain ⟨q1, q2, q3, q4, q5, q6⟩ := HTL.out
      have e3 := HP1.out
      rw [← hY1, ← HXX.out]
      simp only [List.length_append, List.length_take, List.length_drop]
      omega
    clear h3 g3 s3 hY1
    go_wp2_with (refine copy_k kE _ rfl _ _ rfl g (i * 2) _ _ ⟨gx, 0, none⟩ _ _ rfl rfl Y1 90 H3.out (duo z) (HZn.out _ (by have := HP1.out; omega)) HZs.out HZf.out (duo_one z) ?c2)
    case c2 =>
      intro w4 h4 g4 s4
      have HEND : Hid (P (.returned (.slice (some ⟨g, 0, none⟩) m1 cap)) w4) := by
        obtain ⟨q1, q2, q3, q4, q5, q6⟩ := HTL.out
        obtain ⟨e3, e4⟩ := HP1.out
        have e2 : (duo z).length = 2 := rfl
        have hlay := lay_in A B S (duo z) (by rw [e2]; omega)
        have hy := HY1.out
        rw [HXX.out, e2, q1, show i * 2 + 2 = p1 * 2 by omega, hy] at hlay
        rw [e2, show i * 2 + 2 = p1 * 2 by omega, hlay] at h4
        refine HQ.out _ ⟨by rw [kE.flat_len], .inr ⟨g, cap, _, by rw [HLEN.out, e4], Nat.zero_le _, h4, by rw [HLEN.out]; exact q4, q5, ?_, ?_⟩⟩ ⟨?_, ?_, ?_, ?_, fun k hk hne => ?_⟩
        · show (A ++ (duo z ++ (B ++ List.drop 2 S))).length = cap * 2
          simp only [List.length_append, List.length_drop, e2]; omega
        · rw [HFL.out, HLEN.out]
          show List.take ((n + 1) * 2) (A ++ (duo z ++ (B ++ List.drop 2 S))) = _
          have e5 : (n + 1) * 2 = (A ++ (duo z ++ B)).length := by simp only [List.length_append, e2]; omega
          rw [e5, show A ++ (duo z ++ (B ++ List.drop 2 S)) = (A ++ (duo z ++ B)) ++ List.drop 2 S by simp only [List.append_assoc], List.take_left]
        · exact g4.os.trans HG3.out.1.os
        · exact g4.tape.trans HG3.out.1.tape
        · exact g4.output.trans HG3.out.1.output
        · rw [s4, HG3.out.2]; exact Nat.le_refl _
        · rw [g4.block k (by rw [HG3.out.2]; exact hk) hne]
          exact HG3.out.1.block k hk hne
      clear h4 g4 s4
      go_wp2
      first | exact HEND.out | (go_ret; exact HEND.out)
end Go.Proofs.Ytongeppdaeekeaa
