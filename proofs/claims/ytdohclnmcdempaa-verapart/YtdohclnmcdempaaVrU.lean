/- A new store. -/
import Derived.Test.YtdohclnmcdempaaVrT
namespace Go.Proofs.Ytdohclnmcdempaa
open Go.RowKit Go.Maps
set_option linter.unusedVariables false

theorem info62 : (Try.prog.info? 62).map (fun i => (i.zero, i.size, i.bytes)) = some (some (.agg #[.int .i64 0, .int .i64 0]), 2, 16) := by kernel_rfl
theorem info22 : (Try.prog.info? 22).map (fun i => (i.zero, i.size, i.bytes)) = some (some (.slice none 0 0), 1, 24) := by kernel_rfl
theorem made_prs : ∀ (n : Nat), madeCells (Value.agg #[.int .i64 0, .int .i64 0]).cells (((n : Int).toNat) * 2) = prs (List.replicate n (0, 0)) := by
  intro n
  unfold prs
  apply Array.ext
  · simp [madeCells]
  · intro i h1 h2
    have hl : i < 2 * n := by simpa [madeCells, Nat.mul_comm] using h1
    have hq : i / 2 < (List.replicate n ((0 : Int), (0 : Int))).length := by simp; omega
    have := prs_get (List.replicate n (0, 0)) (i / 2) hq (i % 2) (by omega)
    rw [show 2 * (i / 2) + i % 2 = i by omega] at this
    have e2 : (List.flatMap (fun x : Int × Int => [Value.int .i64 x.1, Value.int .i64 x.2]) (List.replicate n ((0 : Int), (0 : Int)))).toArray[i]? = [Value.int .i64 0, Value.int .i64 0][i % 2]? := by
      rw [List.getElem?_toArray, this]; simp
    rw [Array.getElem?_eq_getElem h2] at e2
    have hm : i % 2 = 0 ∨ i % 2 = 1 := by omega
    rcases hm with q | q <;> · rw [q] at e2; simp at e2; simp [madeCells, Value.cells, q, e2]
theorem made66 (n : Nat) (hn : n ≤ 100000) : ∀ w, (Instr.makeSlice 66 (.int .i64 (n : Int)) (.int .i64 (n : Int))).run Try.prog w = .ok (.slice (some ⟨w.heap.size, 0, none⟩) n n) (w.alloc (.cells (prs (List.replicate n (0, 0))) 62)) := by
  intro w
  obtain ⟨i, h1, e1, e2, e3⟩ := info_parts info62
  have := run_make (P := Try.prog) w 66 62 i _ Try.underlying66 h1 e1 .i64 .i64 (n : Int) (n : Int) (by omega) (by omega) (by rw [e3]; omega) (by omega)
  rw [e2, made_prs] at this
  simpa using this
theorem nils_made (n : Nat) : madeCells (Value.slice none 0 0).cells (((n : Int).toNat) * 1) = (List.replicate n (Value.slice none 0 0)).toArray := by
  simp only [madeCells, Value.cells]
  apply Array.ext
  · simp
  · intro i h1 h2
    simp [Nat.mod_one]
theorem made72 (n : Nat) (hn : n ≤ 100000) : ∀ w, (Instr.makeSlice 72 (.int .i64 (n : Int)) (.int .i64 (n : Int))).run Try.prog w = .ok (.slice (some ⟨w.heap.size, 0, none⟩) n n) (w.alloc (.cells (List.replicate n (Value.slice none 0 0)).toArray 22)) := by
  intro w
  obtain ⟨i, h1, e1, e2, e3⟩ := info_parts info22
  have := run_make (P := Try.prog) w 72 22 i _ Try.underlying72 h1 e1 .i64 .i64 (n : Int) (n : Int) (by omega) (by omega) (by rw [e3]; omega) (by omega)
  rw [e2, nils_made] at this
  simpa using this
def noK : Nat → Ch2 := fun _ => []
def newE (W R : Int) : Int := if ¬ (1 ≤ W ∧ W ≤ 64) then 130 else if ¬ (1 ≤ R ∧ R ≤ 512) then 161 else 0
def NewSQ (W R : Int) (w : World) (e : Ending) (w' : World) : Prop :=
  Below w.heap.size w w' ∧ if newE W R = 0 then ∃ sb lab, e = .returned (.tuple #[.pointer (some ⟨sb, 0, none⟩), .int .i64 0]) ∧ SS w' lab sb R.toNat W.toNat 0 noK ∧ ∀ k, k < w.heap.size → lab k = 0 else e = .returned (.tuple #[.pointer none, .int .i64 (newE W R)])
theorem md_empty (W : Nat) : MD (.map [] : M1) (manyK W noK) := by
  intro a ha
  have h : manyK W noK a = 0 := manyK_zero (fun i _ => rfl)
  rw [h]
  exact ⟨rfl, rfl⟩
theorem SS.first {w w' : World} {sb ab ub hb wb mb : Nat} {R W : Nat} (hW : 1 ≤ W ∧ W ≤ 64) (bl : w'.heap[sb]? = some (.cells #[.pointer (some ⟨ab, 0, none⟩), .slice (some ⟨hb, 0, none⟩) R R, .slice (some ⟨wb, 0, none⟩) W W, .map (some mb)] 75))
    (bH : w'.heap[hb]? = some (.cells (prs (List.replicate R (0, 0))) 62)) (bW : w'.heap[wb]? = some (.cells (Array.replicate W (Value.slice none 0 0)) 22)) (bM : w'.heap[mb]? = some (.map #[] 0)) (ar : AA w' ab ub none R (List.range R))
    (h0 : w.heap.size ≤ sb ∧ w.heap.size ≤ ab ∧ w.heap.size ≤ ub ∧ w.heap.size ≤ hb ∧ w.heap.size ≤ wb ∧ w.heap.size ≤ mb) (hn : ab < hb ∧ ub < hb ∧ ab < wb ∧ ub < wb ∧ ab < mb ∧ ub < mb ∧ hb < sb ∧ wb < sb ∧ mb < sb ∧ hb ≠ wb ∧ hb ≠ mb ∧ wb ≠ mb) :
    ∃ lab, SS w' lab sb R W 0 noK ∧ ∀ k, k < w.heap.size → lab k = 0 := by
  have hau := ar.apart.1
  have hK : kf (List.replicate R (0, 0)) (List.replicate W []) = noK := by funext i; unfold kf; rw [cc_nil]; rfl
  refine ⟨fun k => if k = sb then 1 else if k = hb then 2 else if k = wb then 3 else if k = mb then 4 else if k = ab then 5 else if k = ub then 6 else 0, ⟨ab, ub, hb, wb, mb, none, List.range R, List.replicate R (0, 0), List.replicate W [], List.replicate W (.slice none 0 0), .map [], ⟨bl, bH, by simpa using bW, ar, by simp, ?_, ?_, ?_, OkS.first R W, ?_, ?_, ?_, ?_, ?_, ?_, (fun g hg => by cases hg), ?_, ?_, hW⟩, hK⟩, ?_⟩
  · intro i v hv
    rw [List.getElem?_replicate] at hv
    split at hv
    · injection hv with hv
      subst hv
      rw [cc_nil]
      exact IZ.nil _ _
    · cases hv
  · have := World.ownsMap_made (H := Unit) w' Try.prog 3 (plainElem Try.prog 3)
    obtain ⟨es, clock, e1, r⟩ := this
    rw [heap_alloc_new] at e1
    injection e1 with e1
    injection e1 with e1 e2
    subst e1 e2
    exact ⟨_, _, bM, r⟩
  · rw [hK]; exact md_empty W
  · simp
  · rw [if_neg (by omega), if_pos rfl]
  · rw [if_neg (by omega), if_neg (by omega), if_pos rfl]
  · rw [if_neg (by omega), if_neg (by omega), if_neg (by omega), if_pos rfl]
  · rw [if_neg (by omega), if_neg (by omega), if_neg (by omega), if_neg (by omega), if_pos rfl]
  · rw [if_neg (by omega), if_neg (by omega), if_neg (by omega), if_neg (by omega), if_neg (by omega), if_pos rfl]
  · intro i v g hv hg
    rw [List.getElem?_replicate] at hv
    split at hv
    · injection hv with hv
      subst hv
      cases hg
    · cases hv
  · intro k hk
    have hs := (Array.getElem?_eq_some_iff.1 bl).1
    by_cases q : k ≤ sb
    · omega
    · rw [if_neg (by omega), if_neg (by omega), if_neg (by omega), if_neg (by omega), if_neg (by omega), if_neg (by omega)] at hk
      exact absurd rfl hk
  · intro k hk
    show (if k = sb then 1 else if k = hb then 2 else if k = wb then 3 else if k = mb then 4 else if k = ab then 5 else if k = ub then 6 else 0) = 0
    rw [if_neg (by omega), if_neg (by omega), if_neg (by omega), if_neg (by omega), if_neg (by omega), if_neg (by omega)]
theorem heap4 (w1 : World) (A B C S : Obj) : let U := ((((w1.alloc A).alloc B).alloc C).alloc S).drew; U.heap[w1.heap.size]? = some A ∧ U.heap[w1.heap.size + 1]? = some B ∧ U.heap[w1.heap.size + 1 + 1]? = some C ∧ U.heap[w1.heap.size + 1 + 1 + 1]? = some S ∧ Below w1.heap.size w1 U := by
  refine ⟨?_, ?_, ?_, ?_, ?_⟩
  · show ((((w1.alloc A).alloc B).alloc C).alloc S).heap[w1.heap.size]? = _
    rw [heap_alloc_old _ _ (by first | (simp; done) | (simp; omega)), heap_alloc_old _ _ (by first | (simp; done) | (simp; omega)), heap_alloc_old _ _ (by simp), heap_alloc_new]
  · show ((((w1.alloc A).alloc B).alloc C).alloc S).heap[w1.heap.size + 1]? = _
    rw [heap_alloc_old _ _ (by first | (simp; done) | (simp; omega)), heap_alloc_old _ _ (by simp)]
    exact heap_alloc2_new _ _ _
  · show ((((w1.alloc A).alloc B).alloc C).alloc S).heap[w1.heap.size + 1 + 1]? = _
    rw [heap_alloc_old _ _ (by simp)]
    have := heap_alloc2_new (w1.alloc A) B C
    simpa using this
  · show ((((w1.alloc A).alloc B).alloc C).alloc S).heap[w1.heap.size + 1 + 1 + 1]? = _
    have := heap_alloc2_new ((w1.alloc A).alloc B) C S
    simpa using this
  · have h1 : w1.heap.size ≤ (w1.alloc A).heap.size := by simp
    have h2 : w1.heap.size ≤ ((w1.alloc A).alloc B).heap.size := by simp; omega
    have h3 : w1.heap.size ≤ (((w1.alloc A).alloc B).alloc C).heap.size := by simp; omega
    exact ((((Below.refl _ w1).alloc (Nat.le_refl _) A).alloc h1 B).alloc h2 C |>.alloc h3 S).drew
set_option maxRecDepth 100000 in
set_option maxHeartbeats 4000000 in
theorem snew_any (W R : Int) (w : World) : Calls Try.prog 20 #[.int .i64 W, .int .i64 R] w (NewSQ W R w) := by
  by_cases hW : 1 ≤ W ∧ W ≤ 64
  · have HN : Hid (Calls Try.prog 9 #[.int .i64 R] w (NewQ R w)) := new_any R w
    by_cases hR : 1 ≤ R ∧ R ≤ 512
    · obtain ⟨W, rfl⟩ : ∃ n : Nat, W = (n : Int) := ⟨W.toNat, by omega⟩
      obtain ⟨R, rfl⟩ : ∃ n : Nat, R = (n : Int) := ⟨R.toNat, by omega⟩
      have he : newE (W : Int) (R : Int) = 0 := by unfold newE; rw [if_neg (fun q => q hW), if_neg (fun q => q hR)]
      have HRR : Hid (1 ≤ (R : Int) ∧ (R : Int) ≤ 512) := hR
      have hm1 := made66 R (by omega)
      have hm2 := made72 W (by omega)
      have hmm := @run_makeMap Try.prog
      have HQ : Hid (∀ sb w', Below w.heap.size w w' → (∃ lab, SS w' lab sb R W 0 noK ∧ ∀ k, k < w.heap.size → lab k = 0) → NewSQ (W : Int) (R : Int) w (.returned (.tuple #[.pointer (some ⟨sb, 0, none⟩), .int .i64 0])) w') := fun sb w' hb h => by
        obtain ⟨lab, h1, h2⟩ := h
        refine ⟨hb, ?_⟩
        rw [if_pos he]
        exact ⟨sb, lab, rfl, by simpa using h1, h2⟩
      have hWn : 1 ≤ W ∧ W ≤ 64 := by omega
      generalize NewSQ (W : Int) (R : Int) w = P at *
      have d1 : decide ((W : Int) < 1) = false := by simp; omega
      have d2 : decide (64 < (W : Int)) = false := by simp; omega
      clear hW hR he
      go_enter Try.func20, Try.ntmps20
      go_wp2_with fail
      refine HN.out.mono ?_
      rintro e w1 ⟨b1, h1⟩
      rw [if_pos HRR.out] at h1
      obtain ⟨ab, ub, rfl, a1, l1, l2⟩ := h1
      simp only [Int.toNat_natCast] at a1
      have A1 : Hid (AA w1 ab ub none R (List.range R)) := a1
      have B1 : Hid (Below w.heap.size w w1) := b1
      have L1 : Hid (w.heap.size ≤ ab ∧ w.heap.size ≤ ub) := ⟨l1, l2⟩
      have HALL : Hid (∀ (U : World) (hb wb mb : Nat), Below w1.heap.size w1 U → U.heap[w1.heap.size + 1 + 1 + 1]? = some (.cells #[.pointer (some ⟨ab, 0, none⟩), .slice (some ⟨hb, 0, none⟩) R R, .slice (some ⟨wb, 0, none⟩) W W, .map (some mb)] 75) → U.heap[hb]? = some (.cells (prs (List.replicate R (0, 0))) 62) → U.heap[wb]? = some (.cells (Array.replicate W (Value.slice none 0 0)) 22) → U.heap[mb]? = some (.map #[] 0) → (w1.heap.size ≤ hb ∧ w1.heap.size ≤ wb ∧ w1.heap.size ≤ mb ∧ hb < w1.heap.size + 3 ∧ wb < w1.heap.size + 3 ∧ mb < w1.heap.size + 3 ∧ hb ≠ wb ∧ hb ≠ mb ∧ wb ≠ mb) → P (.returned (.tuple #[.pointer (some ⟨w1.heap.size + 1 + 1 + 1, 0, none⟩), .int .i64 0])) U) := fun U hb wb mb bU s1 s2 s3 s4 hh => by
        have hs := B1.out.size
        have hl := A1.out.lt
        have hL := L1.out
        refine HQ.out _ _ (B1.out.trans (bU.mono hs)) (SS.first hWn s1 s2 s3 s4 (A1.out.below bU) ⟨by omega, hL.1, hL.2, by omega, by omega, by omega⟩ ?_)
        refine ⟨by omega, by omega, by omega, by omega, by omega, by omega, by omega, by omega, by omega, by omega, by omega, by omega⟩
      clear a1 b1 l1 l2 HN
      have H4 : Hid (∀ (A B C S : Obj), ((((w1.alloc A).alloc B).alloc C).alloc S).drew.heap[w1.heap.size]? = some A ∧ ((((w1.alloc A).alloc B).alloc C).alloc S).drew.heap[w1.heap.size + 1]? = some B ∧ ((((w1.alloc A).alloc B).alloc C).alloc S).drew.heap[w1.heap.size + 1 + 1]? = some C ∧ ((((w1.alloc A).alloc B).alloc C).alloc S).drew.heap[w1.heap.size + 1 + 1 + 1]? = some S ∧ Below w1.heap.size w1 ((((w1.alloc A).alloc B).alloc C).alloc S).drew) := fun A B C S => heap4 w1 A B C S
      go_upto_region 6 with fail
      go_region
      all_goals
        go_wp2_with fail
        try go_ret2
        first
          | exact HALL.out _ w1.heap.size (w1.heap.size + 1) (w1.heap.size + 1 + 1) (H4.out _ _ _ _).2.2.2.2 (H4.out _ _ _ _).2.2.2.1 (H4.out _ _ _ _).1 (H4.out _ _ _ _).2.1 (H4.out _ _ _ _).2.2.1 (by omega)
          | exact HALL.out _ w1.heap.size (w1.heap.size + 1 + 1) (w1.heap.size + 1) (H4.out _ _ _ _).2.2.2.2 (H4.out _ _ _ _).2.2.2.1 (H4.out _ _ _ _).1 (H4.out _ _ _ _).2.2.1 (H4.out _ _ _ _).2.1 (by omega)
          | exact HALL.out _ (w1.heap.size + 1) w1.heap.size (w1.heap.size + 1 + 1) (H4.out _ _ _ _).2.2.2.2 (H4.out _ _ _ _).2.2.2.1 (H4.out _ _ _ _).2.1 (H4.out _ _ _ _).1 (H4.out _ _ _ _).2.2.1 (by omega)
          | exact HALL.out _ (w1.heap.size + 1 + 1) w1.heap.size (w1.heap.size + 1) (H4.out _ _ _ _).2.2.2.2 (H4.out _ _ _ _).2.2.2.1 (H4.out _ _ _ _).2.2.1 (H4.out _ _ _ _).1 (H4.out _ _ _ _).2.1 (by omega)
          | exact HALL.out _ (w1.heap.size + 1) (w1.heap.size + 1 + 1) w1.heap.size (H4.out _ _ _ _).2.2.2.2 (H4.out _ _ _ _).2.2.2.1 (H4.out _ _ _ _).2.1 (H4.out _ _ _ _).2.2.1 (H4.out _ _ _ _).1 (by omega)
          | exact HALL.out _ (w1.heap.size + 1 + 1) (w1.heap.size + 1) w1.heap.size (H4.out _ _ _ _).2.2.2.2 (H4.out _ _ _ _).2.2.2.1 (H4.out _ _ _ _).2.2.1 (H4.out _ _ _ _).2.1 (H4.out _ _ _ _).1 (by omega)
    · have he : newE W R = 161 := by unfold newE; rw [if_neg (fun q => q hW), if_pos hR]
      have HRR : Hid (¬ (1 ≤ R ∧ R ≤ 512)) := hR
      have HQ : Hid (∀ w', Below w.heap.size w w' → NewSQ W R w (.returned (.tuple #[.pointer none, .int .i64 161])) w') := fun w' hb => ⟨hb, by rw [he, if_neg (by decide)]⟩
      generalize NewSQ W R w = P at *
      have d1 : decide (W < 1) = false := by simp; omega
      have d2 : decide (64 < W) = false := by simp; omega
      clear hR he hW
      go_enter Try.func20, Try.ntmps20
      go_wp2_with fail
      refine HN.out.mono ?_
      rintro e w1 ⟨b1, h1⟩
      rw [if_neg HRR.out] at h1
      subst h1
      have B1 : Hid (Below w.heap.size w w1) := b1
      clear b1 HN
      go_wp2
      first | exact HQ.out _ B1.out | (go_ret2; exact HQ.out _ B1.out)
  · have he : newE W R = 130 := by unfold newE; rw [if_pos hW]
    have HQ : Hid (NewSQ W R w (.returned (.tuple #[.pointer none, .int .i64 130])) w) := ⟨Below.refl _ _, by rw [he, if_neg (by decide)]⟩
    generalize NewSQ W R w = P at *
    by_cases h1 : W < 1
    · clear hW he
      go_enter Try.func20, Try.ntmps20
      go_wp2
      first | exact HQ.out | (go_ret2; exact HQ.out)
    · have h2 : 64 < W := by omega
      clear hW he
      go_enter Try.func20, Try.ntmps20
      go_wp2
      first | exact HQ.out | (go_ret2; exact HQ.out)
end Go.Proofs.Ytdohclnmcdempaa
