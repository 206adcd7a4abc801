/- A slot comes back; an arena is made. -/
import Derived.Test.YtdohclnmcdempaaArB
import Derived.Deep.CutRange
namespace Go.Proofs.Ytdohclnmcdempaa
open Go.RowKit Go.Maps
set_option linter.unusedVariables false

def aw3 (ab ub : Nat) (ob : Option Nat) : Nat → Prop := fun k => k = ab ∨ k = ub ∨ ob = some k
section
variable {w w' : World} {ab ub : Nat} {bv : Value} {n F : Nat} {B : List Nat} {ob : Option Nat} {L : List Nat}
def BackQ (w : World) (ab ub : Nat) (ob : Option Nat) (n : Nat) (L : List Nat) (s : Int) (e : Ending) (w' : World) : Prop :=
  e = .returned (.int .i64 (if usedB n L s then 0 else 201)) ∧ Ch (aw3 ab ub ob) w w' ∧ ∃ ob', AA w' ab ub ob' n (backL n L s) ∧ (ob' = ob ∨ ∃ g, ob' = some g ∧ w.heap.size ≤ g)
/-- which slots are used: one is no longer -/
theorem AR.off (h : AR w ab ub bv n F B) {s : Nat} (hs : s < n) (hn : s ∉ freeL n F B) :
    (w.setCell ⟨ub, s, none⟩ (.bool false)).heap[ab]? = some (.cells #[.slice (some ⟨ub, 0, none⟩) n n, bv, .int .i64 (F : Int)] 70) ∧
    (w.setCell ⟨ub, s, none⟩ (.bool false)).heap[ub]? = some (.cells (bls (useL n F (B ++ [s]))) 4) ∧ IZ (w.setCell ⟨ub, s, none⟩ (.bool false)) 0 bv (cs B) := by
  obtain ⟨o, hu, hf⟩ := h.ok.back hs hn
  refine ⟨(Below.heap_setCell _ _ _ _ h.ne).trans h.bl, ?_, h.bk.keepO (fun k hk => ?_)⟩
  · rw [heap_setCell_same _ ub s _ 4 _ h.bU, bls_set, hu]
  · have hgu : k ≠ ub := fun e => h.gu (e ▸ hk)
    exact Below.heap_setCell _ _ _ _ hgu
/-- one more was taken back -/
theorem AR.on {s : Nat} {bv' : Value} (ok : OkA n F (B ++ [s])) (ne : ab ≠ ub) (bl : w.heap[ab]? = some (.cells #[.slice (some ⟨ub, 0, none⟩) n n, bv, .int .i64 (F : Int)] 70)) (bU : w.heap[ub]? = some (.cells (bls (useL n F (B ++ [s]))) 4))
    (hi : IZ w 0 bv' (cs B ++ [(s : Int)])) (ga : bv'.ownBlock ≠ some ab) (gu : bv'.ownBlock ≠ some ub) : AR (w.setCell ⟨ab, 1, none⟩ bv') ab ub bv' n F (B ++ [s]) := by
  refine ⟨?_, (Below.heap_setCell _ _ _ _ ne.symm).trans bU, ?_, ne, ga, gu, ok⟩
  · rw [heap_setCell_same w ab 1 _ 70 _ bl]; rfl
  · rw [cs_app]
    exact hi.keepO (fun k hk => Below.heap_setCell _ _ _ _ (by show k ≠ ab; exact fun e => ga (e ▸ hk)))
set_option maxRecDepth 100000 in
set_option maxHeartbeats 2000000 in
theorem back_any (w : World) (h : AA w ab ub ob n L) (s : Int) : Calls Try.prog 13 #[.pointer (some ⟨ab, 0, none⟩), .int .i64 s] w (BackQ w ab ub ob n L s) := by
  have HC : Hid (Calls Try.prog 18 #[.pointer (some ⟨ab, 0, none⟩), .int .i64 s] w (QD w (.bool (usedB n L s)))) := h.used s
  obtain ⟨P, hP⟩ : ∃ P, BackQ w ab ub ob n L s = P := ⟨_, rfl⟩
  have HP : Hid (BackQ w ab ub ob n L s = P) := hP
  rw [hP]
  clear hP
  cases hq : usedB n L s with
  | false =>
    rw [hq] at HC
    have HF : Hid (∀ k, P (.returned (.int .i64 201)) (w.drewN k)) := fun k => by
      rw [← HP.out]
      refine ⟨by rw [hq]; rfl, (Ch.refl _ _).drewN k, ob, ?_, .inl rfl⟩
      unfold backL
      rw [hq]
      exact h.drewN k
    clear h HP
    go_enter Try.func13, Try.ntmps13
    go_wp2_with fail
    refine HC.out.mono ?_
    rintro e w1 ⟨rfl, k, rfl⟩
    go_wp2
    first | exact HF.out _ | (go_ret; exact HF.out _)
  | true =>
    rw [hq] at HC
    obtain ⟨bv, F, B, h, e1, e2⟩ := h
    have hu := of_decide_eq_true hq
    obtain ⟨i, rfl⟩ : ∃ i : Nat, s = (i : Int) := ⟨s.toNat, by omega⟩
    have hin : i < n := by omega
    have hfr : i ∉ freeL n F B := by rw [e1]; simpa using hu.2.2
    obtain ⟨o, _, hf⟩ := h.ok.back hin hfr
    have HN : Hid (∀ k, AR (w.drewN k) ab ub bv n F B) := fun k => h.keep rfl rfl (fun _ _ => rfl)
    have hB := h.bl3
    have HF : Hid (∀ (k : Nat) (v' : Value) (w5 : World), Ch (aw3 ab ub ob) w w5 → AR (w5.setCell ⟨ab, 1, none⟩ v') ab ub v' n F (B ++ [i]) → (v'.ownBlock = ob ∨ ∃ g, v'.ownBlock = some g ∧ w.heap.size ≤ g) → P (.returned (.int .i64 0)) (w5.setCell ⟨ab, 1, none⟩ v')) := fun k v' w5 c a o => by
      rw [← HP.out]
      refine ⟨by rw [hq]; rfl, c.set (.inl (.inl rfl)) _ _, v'.ownBlock, ⟨v', F, B ++ [i], a, ?_, rfl⟩, o⟩
      unfold backL
      rw [hq, hf, e1]
      simp
    have c0 := fun k => (HN.out k).c0
    have c1 := fun k => (HN.out k).c1
    have f1 := fun k => (HN.out k).f 1
    have fU := fun k => (HN.out k).fU i
    have cU := fun k => (HN.out k).cU i hin
    generalize (!decide (i ∈ freeL n F B)) = bU at cU
    have n1 : ¬ ab = ub := h.ne
    have n2 : ¬ ub = ab := fun q => h.ne q.symm
    have HX : Hid (∀ k, ((w.drewN k).setCell ⟨ub, i, none⟩ (.bool false)).heap[ab]? = some (.cells #[.slice (some ⟨ub, 0, none⟩) n n, bv, .int .i64 (F : Int)] 70) ∧
      ((w.drewN k).setCell ⟨ub, i, none⟩ (.bool false)).heap[ub]? = some (.cells (bls (useL n F (B ++ [i]))) 4) ∧ IZ ((w.drewN k).setCell ⟨ub, i, none⟩ (.bool false)) 0 bv (cs B)) := fun k => (HN.out k).off hin hfr
    have HO : Hid (OkA n F (B ++ [i])) := o
    have HG : Hid (bv.ownBlock ≠ some ab ∧ bv.ownBlock ≠ some ub ∧ bv.ownBlock = ob ∧ ab ≠ ub ∧ ab < w.heap.size ∧ ub < w.heap.size ∧ ∀ g, bv.ownBlock = some g → g < w.heap.size) := ⟨h.ga, h.gu, e2, h.ne, h.lt.1, h.lt.2, fun g hg => (h.bk.own hg).2⟩
    have hlB : (cs B).length ≤ 100000 := by rw [cs_len]; omega
    clear h HN e1 e2 o hf hfr hu hB
    go_enter Try.func13, Try.ntmps13
    go_wp2_with fail
    refine HC.out.mono ?_
    rintro e w1 ⟨rfl, k, rfl⟩
    have c0 := c0 k
    have c1 := c1 k
    have f1 := f1 k
    have fU := fU k
    have cU := cU k
    have HC5 : Hid (Ch (aw3 ab ub ob) w ((w.drewN k).setCell ⟨ub, i, none⟩ (.bool false))) := ((Ch.refl (aw3 ab ub ob) w).drewN k).set (.inl (.inr (.inl rfl))) _ _
    have HS5 : Hid (w.heap.size = ((w.drewN k).setCell ⟨ub, i, none⟩ (.bool false)).heap.size) := by show _ = _; simp [World.setCell, World.drewN]
    go_upto_region 4 with fail
    have HXk := HX.out k
    clear HX c0 c1 f1 fU cU
    generalize (w.drewN k).setCell ⟨ub, i, none⟩ (.bool false) = V at *
    obtain ⟨x1, x2, x3⟩ := HXk
    have X1 : Hid (V.heap[ab]? = some (.cells #[.slice (some ⟨ub, 0, none⟩) n n, bv, .int .i64 (F : Int)] 70)) := x1
    have X2 : Hid (V.heap[ub]? = some (.cells (bls (useL n F (B ++ [i]))) 4)) := x2
    have X3 : Hid (∀ A, IZ (V.alloc A) 0 bv (cs B)) := fun A => x3.below (bl1 _ _)
    have c1 : V.cell? ⟨ab, 1, none⟩ = some bv := by rw [cell_of_row V ab 1 _ _ _ x1]; rfl
    clear x1 x2 x3
    go_wp2_with (at_builtin; refine push_int_at _ rfl _ _ rfl 0 bv (cs B) (i : Int) rfl ?p1 _ rfl ?p2 ?p3 ?p4 ?_)
    case p1 => exact X3.out _
    case p2 => simp
    case p3 => exact hlB
    case p4 => exact Nat.zero_le _
    intro v5 w5 hi5 hg5 ho5
    obtain ⟨a5, k5, rfl⟩ := hi5.sl
    have hss := HS5.out
    have hsz : (V.alloc (.cells #[.int .i64 (i : Int)] 3)).heap.size = V.heap.size + 1 := by simp
    have HAR : Hid (AR (w5.setCell ⟨ab, 1, none⟩ (.slice a5 (cs B ++ [(i : Int)]).length k5)) ab ub (.slice a5 (cs B ++ [(i : Int)]).length k5) n F (B ++ [i])) := by
      obtain ⟨g1, g2, g3, g4, g5, g6, g7⟩ := HG.out
      have hg : (Value.slice a5 (cs B ++ [(i : Int)]).length k5).ownBlock ≠ some ab ∧ (Value.slice a5 (cs B ++ [(i : Int)]).length k5).ownBlock ≠ some ub := by
        rcases ho5 with e | e
        · rw [e]; exact ⟨g1, g2⟩
        · rw [e]; exact ⟨fun e => by injection e; omega, fun e => by injection e; omega⟩
      refine AR.on (bv := bv) HO.out g4 ?_ ?_ hi5 hg.1 hg.2
      · rw [hg5.block ab (by omega) (fun e => g1 e.symm), heap_alloc_old _ _ (by rw [← HS5.out]; exact g5)]; exact X1.out
      · rw [hg5.block ub (by omega) (fun e => g2 e.symm), heap_alloc_old _ _ (by rw [← HS5.out]; exact g6)]; exact X2.out
    have HQ : Hid (P (.returned (.int .i64 0)) (w5.setCell ⟨ab, 1, none⟩ (.slice a5 (cs B ++ [(i : Int)]).length k5))) := by
      obtain ⟨g1, g2, g3, g4, g5, g6, g7⟩ := HG.out
      refine HF.out 0 _ w5 ?_ HAR.out ?_
      · refine HC5.out.trans ⟨hg5.os, hg5.tape, hg5.output, ?_, fun q hq hn => ?_⟩
        · have := hg5.size; omega
        · refine (hg5.block q (by omega) (fun e => hn (.inr (.inr (g3.symm.trans e.symm))))).trans (heap_alloc_old _ _ hq)
      · rcases ho5 with e | e
        · exact .inl (e.trans g3)
        · exact .inr ⟨_, e, by omega⟩
    have c1' : w5.cell? ⟨ab, 1, none⟩ = some bv := by
      obtain ⟨g1, g2, g3, g4, g5, g6, g7⟩ := HG.out
      rw [cell_of_row w5 ab 1 _ _ _ ((hg5.block ab (by omega) (fun e => g1 e.symm)).trans ((heap_alloc_old _ _ (by omega)).trans X1.out))]; rfl
    have f1' : w5.frozen? ⟨ab, 1, none⟩ = false := by
      obtain ⟨g1, g2, g3, g4, g5, g6, g7⟩ := HG.out
      exact frozen_of_row w5 ab 1 _ _ ((hg5.block ab (by omega) (fun e => g1 e.symm)).trans ((heap_alloc_old _ _ (by omega)).trans X1.out))
    clear hi5 hg5 ho5 hss c1 hsz HAR
    generalize (cs B ++ [(i : Int)]).length = q5 at *
    go_wp2
    first | exact HQ.out | (go_ret; exact HQ.out)
def NewQ (n : Int) (w : World) (e : Ending) (w' : World) : Prop :=
  Below w.heap.size w w' ∧ if 1 ≤ n ∧ n ≤ 512 then ∃ ab ub, e = .returned (.tuple #[.pointer (some ⟨ab, 0, none⟩), .int .i64 0]) ∧ AA w' ab ub none n.toNat (List.range n.toNat) ∧ w.heap.size ≤ ab ∧ w.heap.size ≤ ub else e = .returned (.tuple #[.pointer none, .int .i64 161])
set_option maxRecDepth 100000 in
set_option maxHeartbeats 2000000 in
theorem new_any (n : Int) (w : World) : Calls Try.prog 9 #[.int .i64 n] w (NewQ n w) := by
  by_cases hn : 1 ≤ n ∧ n ≤ 512
  · obtain ⟨N, rfl⟩ : ∃ N : Nat, n = (N : Int) := ⟨n.toNat, by omega⟩
    have hmk := made42 N (by omega)
    have HF : Hid (NewQ (N : Int) w (.returned (.tuple #[.pointer (some ⟨w.heap.size + 1, 0, none⟩), .int .i64 0])) ((w.alloc (.cells (bls (List.replicate N false)) 4)).alloc (.cells #[.slice (some ⟨w.heap.size, 0, none⟩) N N, .slice none 0 0, .int .i64 0] 70))) := by
      obtain ⟨o1, o2, o3⟩ := OkA.first (n := N) (by omega) (by omega)
      refine ⟨(bl1 w _).trans ((bl1 _ _).mono (bl1 w _).size), ?_⟩
      rw [if_pos hn]
      refine ⟨w.heap.size + 1, w.heap.size, rfl, ⟨.slice none 0 0, 0, [], ⟨?_, ?_, IZ.nil _ _, by omega, by simp [Value.ownBlock], by simp [Value.ownBlock], o1⟩, ?_, rfl⟩, by omega, Nat.le_refl _⟩
      · exact heap_alloc2_new _ _ _
      · rw [heap_alloc_old _ _ (by simp), heap_alloc_new]
        simp only [Int.toNat_natCast] at *
        rw [o2]
      · simp only [Int.toNat_natCast]
        exact o3
    have h1 : ¬ (N : Int) < 1 := by omega
    have h2 : ¬ 512 < (N : Int) := by omega
    have e1 : decide ((N : Int) < 1) = false := by simp; omega
    have e2 : decide (512 < (N : Int)) = false := by simp; omega
    clear hn
    generalize NewQ (N : Int) w = P at *
    go_enter Try.func9, Try.ntmps9
    go_wp2
    first | exact HF.out | (go_ret2; exact HF.out)
  · have HF : Hid (NewQ n w (.returned (.tuple #[.pointer none, .int .i64 161])) w) := ⟨Below.refl _ _, by rw [if_neg hn]⟩
    generalize NewQ n w = P at *
    by_cases h1 : n < 1
    · clear hn
      go_enter Try.func9, Try.ntmps9
      go_wp2
      first | exact HF.out | (go_ret2; exact HF.out)
    · have h2 : 512 < n := by omega
      clear hn
      go_enter Try.func9, Try.ntmps9
      go_wp2
      first | exact HF.out | (go_ret2; exact HF.out)
end
end Go.Proofs.Ytdohclnmcdempaa
