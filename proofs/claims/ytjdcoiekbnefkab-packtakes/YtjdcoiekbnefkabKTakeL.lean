/- What a reader takes up: lists. -/
import Derived.Test.YtjdcoiekbnefkabKTakes
import Derived.Laws.OwnMore
namespace Go.Proofs.Ytjdcoiekbnefkab
open Go.RowKit
set_option linter.unusedVariables false

inductive TookI where
  | ok (l : List Int) (R : List UInt8)
  | err (k : Int)
def tkN : Nat → List Int → List UInt8 → TookI
  | 0, xs, L => .ok xs L
  | n + 1, xs, L => match tk 0 0 L with | .ok m R => tkN n (xs ++ [zag m]) R | .err k => .err k
def outL (L : List UInt8) : Out := match tkC 1 L with
  | .ok n R => (match tkN n [] R with | .ok l R' => .ok (fun v w' => NSl w' v l) R' | .err k => .err k)
  | .err k => .err k

/-- a row of numbers that is being filled -/
def IB (w : World) (g n : Nat) (xs : List Int) : Prop :=
  (∃ cur, w.heap[g]? = some (.cells cur 2 (0, 0))) ∧ (∀ i, i < n → ∃ z, w.cell? ⟨g, i, none⟩ = some (.int .i64 z)) ∧ ∀ i (h : i < xs.length), w.cell? ⟨g, i, none⟩ = some (.int .i64 xs[i])
set_option maxRecDepth 100000 in
theorem IB.keep {w w' : World} {g n : Nat} {xs : List Int} (h : IB w g n xs) (hk : w'.heap[g]? = w.heap[g]?) : IB w' g n xs := by
  obtain ⟨⟨cur, h1⟩, h2, h3⟩ := h
  refine ⟨⟨cur, hk.trans h1⟩, fun i hi => ?_, fun i hi => ?_⟩
  · obtain ⟨z, hz⟩ := h2 i hi
    exact ⟨z, (World.cell?_of_block (w := w) (a := ⟨g, i, none⟩) hk).trans hz⟩
  · exact (World.cell?_of_block (w := w) (a := ⟨g, i, none⟩) hk).trans (h3 i hi)
set_option maxRecDepth 100000 in
theorem IB.frozen {w : World} {g n : Nat} {xs : List Int} (h : IB w g n xs) (p : Nat) : w.frozen? ⟨g, p, none⟩ = false := by
  obtain ⟨⟨cur, h⟩, _⟩ := h
  unfold World.frozen?
  simp only [h]
  simp
set_option maxRecDepth 100000 in
theorem IB.set {w : World} {g n : Nat} {xs : List Int} (h : IB w g n xs) (hn : xs.length < n) (x : Int) : IB (w.setCell ⟨g, xs.length, none⟩ (.int .i64 x)) g n (xs ++ [x]) := by
  obtain ⟨⟨cur, h1⟩, h2, h3⟩ := h
  refine ⟨⟨cur.setIfInBounds xs.length (.int .i64 x), ?_⟩, fun i hi => ?_, fun i hi => ?_⟩
  · simp only [World.setCell, Array.getElem?_modify, if_true, h1]
    simp
  · by_cases e : i = xs.length
    · subst e
      obtain ⟨z, hz⟩ := h2 _ hi
      exact ⟨x, World.cell?_setCell_same w _ _ hz⟩
    · obtain ⟨z, hz⟩ := h2 i hi
      exact ⟨z, by rw [World.cell?_setCell_other w _ _ _ (by intro q; injection q with _ q _; exact e q.symm)]; exact hz⟩
  · by_cases e : i = xs.length
    · subst e
      obtain ⟨z, hz⟩ := h2 _ hn
      rw [World.cell?_setCell_same w _ _ hz]
      simp
    · have hi' : i < xs.length := by simp at hi; omega
      rw [World.cell?_setCell_other w _ _ _ (by intro q; injection q with _ q _; exact e q.symm), h3 i hi', List.getElem_append_left hi']

set_option maxRecDepth 100000 in
theorem info2 : (Try.prog.info? 2).map (fun i => (i.zero, i.size, i.bytes)) = some (some (.int .i64 0), 1, 8) := by kernel_rfl
set_option maxRecDepth 100000 in
theorem made_ib {w : World} {g n : Nat} (h : w.ownsRow g 2 1 (.slice (some ⟨g, 0, none⟩) n n) n (madeCells #[.int .i64 0] (n * 1)).toList) : IB w g n [] := by
  have hc := fun k => World.ownsRow.cells h (g := k)
  rcases h.2 with ⟨h1, _⟩ | ⟨g', cap, cur, e1, e2, e3, e4, e5, e6, e7⟩
  · cases h1
  · injection e1 with e1 _ _
    injection e1 with e1
    injection e1 with e1 _ _
    subst e1
    refine ⟨⟨cur, e3⟩, fun i hi => ⟨0, ?_⟩, fun i hi => absurd hi (by simp)⟩
    have := hc g rfl i (.int .i64 0) (by rw [toList_madeCells_one, Nat.mul_one, List.getElem?_replicate, if_pos hi])
    rw [addn, Nat.zero_add] at this
    exact this

set_option maxRecDepth 100000 in
set_option maxHeartbeats 4000000 in
theorem takeL (pb : Nat) (f : Int) (L : List UInt8) (w : World) (hL : L.length ≤ 1000000000) (h : RS w pb L f) : Calls Try.prog 81 #[.pointer (some ⟨pb, 0, none⟩)] w (TPost w pb f (outL L)) := by
  have hpb := h.lt
  have HC : Hid (Calls Try.prog 84 #[.pointer (some ⟨pb, 0, none⟩), .int .i64 1] w (TPost w pb f (outC 1 L))) := takeC pb 1 f L w (by omega) (by omega) hL h
  clear h
  unfold outL
  rcases htk : tkC 1 L with ⟨n, R⟩ | k
  · obtain ⟨hn, hR⟩ := tkC_le htk
    have HTK : Hid (outC 1 L = .ok (fun v _ => v = .int .i64 (n : Int)) R) := by show _ = _; unfold outC; rw [htk]
    clear htk
    dsimp only
    obtain ⟨out, hout⟩ : ∃ out : Out, (match tkN n [] R with | .ok l R' => Out.ok (fun v w' => NSl w' v l) R' | .err k => .err k) = out := ⟨_, rfl⟩
    have HOUT : Hid ((match tkN n [] R with | .ok l R' => Out.ok (fun v w' => NSl w' v l) R' | .err k => .err k) = out) := hout
    rw [hout]
    clear hout
    have hn9 : n ≤ 1000000000 := by omega
    obtain ⟨i0, hi, hz0, hz1, hz2⟩ := info_parts info2
    go_enter Try.func81, Try.ntmps81
    go_wp2_with fail
    refine HC.out.mono ?_
    intro e w2 hp
    rw [HTK.out] at hp
    obtain ⟨v, rfl, rfl, h2, h3⟩ := hp
    have H2 : Hid (RS w2 pb R f) := h2
    have H3 : Hid (w.grownBy w2 (some pb)) := h3
    have hpb2 := h2.lt
    obtain ⟨w3, hmk, hown, hgr⟩ := run_make_full (P := Try.prog) w2 w2.heap.size 60 2 i0 (.int .i64 0) 1 Try.underlying60 hi hz0 hz1 .i64 .i64 n (by rw [hz2]; omega) (by unfold maxLen; omega) (Nat.le_refl _)
    have HIB : Hid (IB w3 w2.heap.size n []) := made_ib hown
    have HGR : Hid (w2.grownBy w3 none) := hgr
    have HR3 : Hid (RS w3 pb R f) := H2.out.below ⟨hgr.os, hgr.tape, hgr.output, hgr.size, fun k hk => hgr.block k hk (fun e => by cases e)⟩
    have hs3 : w2.heap.size < w3.heap.size := (World.ownsRow.lt hown w2.heap.size rfl).2
    obtain ⟨g, hg⟩ : ∃ g, w2.heap.size = g := ⟨_, rfl⟩
    have HG3 : Hid (w.grownBy w3 (some pb)) := grow_trans H3.out ⟨hgr.os, hgr.tape, hgr.output, hgr.size, fun k hk _ => hgr.block k hk (fun e => by cases e)⟩
    rw [hg] at hmk HIB hs3 hpb2
    have hgpb : g ≠ pb := by omega
    have hgw : w.heap.size ≤ g := by rw [← hg]; exact H3.out.size
    clear h2 h3 hown hgr hg
    go_wp2
    go_loopw [10] (fun t wr => ∃ (j : Nat) (M : List UInt8) (xs : List Int), j ≤ n ∧ t = .int .i64 (j : Int) ∧ Hid (xs.length = j) ∧ Hid (RS wr pb M f) ∧ Hid (M.length ≤ 1000000000) ∧ Hid ((match tkN (n - j) xs M with | .ok l R' => Out.ok (fun v w' => NSl w' v l) R' | .err k => .err k) = out) ∧ Hid (IB wr g n xs) ∧ Hid (w.grownBy wr (some pb)) ∧ Hid (g < wr.heap.size) ∧ Hid (∀ z ∈ xs, -9223372036854775808 ≤ z ∧ z ≤ 9223372036854775807)) (fun t _ => n - (intOf t).toNat)
    case atStart => exact ⟨0, R, [], Nat.zero_le _, rfl, rfl, HR3, by show _ ≤ _; omega, HOUT, HIB, HG3, hs3, fun z hz => by cases hz⟩
    case round =>
      obtain ⟨j, M, xs, hj, rfl, HX, HM, HML, HT, HI, HG, HS, HZ⟩ := hrel
      by_cases hlt : j < n
      · have hnj : n - j = (n - (j + 1)) + 1 := by omega
        rcases htk : tk 0 0 M with ⟨m, M'⟩ | k
        · obtain ⟨hm, hM'⟩ := tk_le M 0 0 m M' (by omega) (by omega) htk
          have HTI : Hid (outI M = .ok (fun v _ => v = .int .i64 (zag m)) M') := by show _ = _; unfold outI; rw [htk]
          have HT2 : Hid ((match tkN (n - (j + 1)) (xs ++ [zag m]) M' with | .ok l R' => Out.ok (fun v w' => NSl w' v l) R' | .err k => .err k) = out) := by
            show _ = _
            rw [← HT.out, hnj]
            conv => rhs; unfold tkN
            rw [htk]
          have HZ2 : Hid (∀ z ∈ xs ++ [zag m], -9223372036854775808 ≤ z ∧ z ≤ 9223372036854775807) := by
            intro z hz
            rcases List.mem_append.1 hz with hz | hz
            · exact HZ.out z hz
            · simp at hz; subst hz; exact zag_in m hm
          have HML2 : Hid (M'.length ≤ 1000000000) := by show _ ≤ _; have := HML.out; omega
          obtain ⟨zm, hzm⟩ : ∃ zm, zag m = zm := ⟨_, rfl⟩
          rw [hzm] at HTI HT2 HZ2
          clear htk hM' hzm hnj
          go_wp2_with fail
          refine (takeI pb f M wr HM.out).mono ?_
          intro e w4 hp
          rw [HTI.out] at hp
          obtain ⟨v, rfl, rfl, h2, h3⟩ := hp
          have HM4 : Hid (RS w4 pb M' f) := h2
          have hblk : w4.heap[g]? = wr.heap[g]? := h3.block g HS.out (fun e => by injection e with e; exact hgpb e)
          have hib := HI.out.keep hblk
          obtain ⟨z0, c0⟩ := hib.2.1 j hlt
          have f0 := hib.frozen j
          have HIB4 : Hid (IB (w4.setCell ⟨g, j, none⟩ (.int .i64 zm)) g n (xs ++ [zm])) := by
            have := hib.set (x := zm) (by have := HX.out; omega)
            rw [HX.out] at this
            exact this
          have HG5 : Hid (w.grownBy (w4.setCell ⟨g, j, none⟩ (.int .i64 zm)) (some pb)) := by
            have hg4 := grow_trans HG.out h3
            exact ⟨hg4.os, hg4.tape, hg4.output, by have := hg4.size; simpa [World.setCell] using this, fun q hq hr => (Below.heap_setCell _ _ _ _ (by show q ≠ g; have := hgw; omega)).trans (hg4.block q hq hr)⟩
          have HS5 : Hid (g < (w4.setCell ⟨g, j, none⟩ (.int .i64 zm)).heap.size) := by show _ < _; simpa [World.setCell] using Nat.lt_of_lt_of_le HS.out h3.size
          have HM5 : Hid (RS (w4.setCell ⟨g, j, none⟩ (.int .i64 zm)) pb M' f) := h2.belowAt (B := g) (by omega) (Below.setCell (Below.refl g w4) (p := ⟨g, j, none⟩) (show g ≤ g from Nat.le_refl _) _)
          clear h2 h3 hblk hib
          go_wp2
          go_roundw
          case rel =>
            refine ⟨j + 1, M', xs ++ [zm], by omega, by go_num, by show _ = _; have := HX.out; simp; omega, HM5, HML2, HT2, HIB4, HG5, HS5, HZ2⟩
          case measure => simp [intOf]; omega
        · have HTI : Hid (outI M = .err k) := by show _ = _; unfold outI; rw [htk]
          have HOE : Hid (out = .err k) := by
            show _ = _
            rw [← HT.out, hnj]
            unfold tkN
            rw [htk]
          clear htk hnj
          go_wp2_with fail
          refine (takeI pb f M wr HM.out).mono ?_
          intro e w4 hp
          rw [HTI.out] at hp
          obtain ⟨rfl, h2, h3⟩ := hp
          refine ⟨rfl, ?_⟩
          rw [HOE.out]
          exact ⟨rfl, h2, grow_trans HG.out h3⟩
      · have HOE : Hid (out = .ok (fun v w' => NSl w' v xs) M) := by
          show _ = _
          rw [← HT.out, show n - j = 0 by omega]
          rfl
        have HNS : Hid (NSl wr (.slice (some ⟨g, 0, none⟩) n n) xs) := by
          have hxl : xs.length = n := by have := HX.out; omega
          refine ⟨_, n, by rw [hxl], by omega, by unfold maxLen; omega, HZ.out, fun h0 => ⟨g, 0, rfl, HS.out, fun i hi => ?_⟩⟩
          rw [Nat.zero_add]
          exact HI.out.2.2 i hi
        go_wp2
        go_ret
        rw [HOE.out]
        exact ⟨_, rfl, HNS.out, HM.out, HG.out⟩
  · have HTK : Hid (outC 1 L = .err k) := by show _ = _; unfold outC; rw [htk]
    clear htk
    go_enter Try.func81, Try.ntmps81
    go_wp2_with fail
    refine HC.out.mono ?_
    intro e w2 hp
    rw [HTK.out] at hp
    obtain ⟨rfl, h2, h3⟩ := hp
    exact ⟨rfl, rfl, h2, h3⟩
end Go.Proofs.Ytjdcoiekbnefkab
