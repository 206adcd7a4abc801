/- The document's machine is made. -/
import Derived.Test.YtkcncngcmhldpaaNew
namespace Go.Proofs.Ytkcncngcmhldpaa
open Go.RowKit Go.Maps
set_option linter.unusedVariables false

/-- the document's machine as a value: cv its instructions, rv its registers -/
def mC (cv rv : Value) (words fuel : Int) (s : St) : Array Value := #[cv, .int .i64 words, .int .i64 fuel, rv, .int .i64 s.pc, .int .i64 s.steps, .int .i64 s.over, .int .i64 s.value]
def mV (cv rv : Value) (words fuel : Int) (s : St) : Value := .agg (mC cv rv words fuel s)
/-- the registers as they lie -/
def RRg (w : World) (rv : Value) (s : St) : Prop := ∃ g cap, rv = .slice (some ⟨g, 0, none⟩) 16 cap ∧ 16 ≤ cap ∧ cap ≤ maxLen ∧ ∀ r, r < 16 → w.cell? ⟨g, r, none⟩ = some (.int .i64 (rg s r))
theorem RRg.below {w w' : World} {rv : Value} {s : St} (h : RRg w rv s) (hb : Below w.heap.size w w') : RRg w' rv s := by
  obtain ⟨g, cap, h1, h2, h3, h4⟩ := h
  exact ⟨g, cap, h1, h2, h3, fun r hr => (hb.cell (p := ⟨g, r, none⟩) (World.block_lt_of_cell? w ⟨g, r, none⟩ (h4 r hr))).trans (h4 r hr)⟩
def mZ : Value := .agg #[.slice none 0 0, .int .i64 0, .int .i64 0, .slice none 0 0, .int .i64 0, .int .i64 0, .int .i64 0, .int .i64 0]
/-- what the document's New leaves -/
def RNewP (C : List In) (v : Value) (cells words fuel n i k : Int) (w : World) (e : Ending) (w' : World) : Prop :=
  (∃ er, e = .returned (.tuple #[mZ, .int .i64 er]) ∧ newE C cells words fuel = er ∧ er ≠ 0 ∧ Below w.heap.size w w') ∨
  (∃ rv, e = .returned (.tuple #[mV v rv words fuel (St0 n i k), .int .i64 0]) ∧ newE C cells words fuel = 0 ∧ RRg w' rv (St0 n i k) ∧ Below w.heap.size w w')
theorem size29 : (Try.prog.info? 29).map (·.size) = some 8 := by kernel_rfl
theorem info2 : (Try.prog.info? 2).map (fun i => (i.zero, i.size, i.bytes)) = some (some (.int .i64 0), 1, 8) := by kernel_rfl
theorem ret_m {fn : Func} {q t : Nat} (h : fn.results = #[.cell q 29, .tmp t]) (tmps : Array Value) (g : Nat) (hb : tmps.getD q undef = .pointer (some ⟨g, 0, none⟩)) (v : Value) (ht : tmps.getD t undef = v) (W : World) (cs : Array Value) (hl : cs.size = 8) (hg : W.heap[g]? = some (.cells cs 29)) :
    (results fn tmps).run Try.prog W = .ok (.tuple #[.agg cs, v]) W := by
  have hp' : tmps[q]?.getD undef = .pointer (some ⟨g, 0, none⟩) := by simpa using hb
  have ht' : tmps[t]?.getD undef = v := by simpa using ht
  simp [results, h, hp', ht', asAddr, run_loadVar_row W g 29 29 cs _ _ hg Try.underlying29 rfl (by rw [hl]; exact size29)]
def mZa : Array Value := #[.slice none 0 0, .int .i64 0, .int .i64 0, .slice none 0 0, .int .i64 0, .int .i64 0, .int .i64 0, .int .i64 0]
theorem mZa_one : mZa.all (·.oneCell') = true := all_oneCell_toArray (cs := [.slice none 0 0, .int .i64 0, .int .i64 0, .slice none 0 0, .int .i64 0, .int .i64 0, .int .i64 0, .int .i64 0]) (by intro v hv; simp at hv; rcases hv with rfl | rfl | rfl | rfl <;> rfl)
def lenV : Value → Nat
  | .slice _ n _ => n
  | _ => 0
/-- the registers at first -/
def R0 (n i k : Int) : List Int := [n, i, k, 0, 0, 0, 0, 0, 0, 0, 0, 0, 0, 0, 0, 0]
def R0v (n i k : Int) (q : Nat) : List Value := ((R0 n i k).take q).map (Value.int .i64)
theorem R0v_succ (n i k : Int) (q : Nat) (h3 : 3 ≤ q) (hlt : q < 16) : R0v n i k q ++ [Value.int .i64 0] = R0v n i k (q + 1) := by
  match q, h3, hlt with
  | 3, _, _ => rfl
  | 4, _, _ => rfl
  | 5, _, _ => rfl
  | 6, _, _ => rfl
  | 7, _, _ => rfl
  | 8, _, _ => rfl
  | 9, _, _ => rfl
  | 10, _, _ => rfl
  | 11, _, _ => rfl
  | 12, _, _ => rfl
  | 13, _, _ => rfl
  | 14, _, _ => rfl
  | 15, _, _ => rfl
  | j + 16, _, h => exact absurd h (by omega)
/-- registers of which q are laid -/
def RgI (w w1 : World) (n i k : Int) (v : Value) (wr : World) : Prop :=
  ∃ (q : Nat) (a : Option Addr) (c : Nat), (3 ≤ q ∧ q ≤ 16) ∧ v = .slice a q c ∧ wr.ownsRow w1.heap.size 2 1 (.slice a q c) q (R0v n i k q) ∧ Below w1.heap.size w1 wr

set_option maxRecDepth 100000 in
set_option maxHeartbeats 2000000 in
theorem rnew_any (C : List In) (v : Value) (cells words fuel n i k : Int) (w : World) (hv : ISl w v C) : Calls Try.prog 25 #[v, .int .i64 cells, .int .i64 words, .int .i64 fuel, .int .i64 n, .int .i64 i, .int .i64 k] w (RNewP C v cells words fuel n i k w) := by
  have HK : Hid (∀ o, Calls Try.prog 43 #[v, .int .i64 cells] (w.alloc o) fun e w' => e = .returned (.tuple #[.int .i64 (checkL C cells).1, .int .i64 (checkL C cells).2]) ∧ Below (w.alloc o).heap.size (w.alloc o) w') := fun o => refCheck_any C cells v _ (hv.below ((Below.refl _ _).alloc (Nat.le_refl _) o))
  obtain ⟨r, hr⟩ : ∃ r, newE C cells words fuel = r := ⟨_, rfl⟩
  have HR : Hid (newE C cells words fuel = r) := hr
  unfold newE at hr
  generalize (checkL C cells).1 = c1 at HK
  generalize (checkL C cells).2 = c2 at HK hr
  obtain ⟨ad, cp, vb0, vo0, rfl, hv2⟩ := hv
  clear hv2
  by_cases h2 : c2 = 0
  · subst h2
    rw [if_neg (by simp)] at hr
    by_cases hw1 : words < 1
    · rw [if_pos (by omega)] at hr
      subst hr
      have e1 : decide (words < 1) = true := by simp [hw1]
      go_enter Try.func25, Try.ntmps25
      go_wp2_with (first | (go_at_call 43; refine (HK.out _).mono ?_; rintro e w1 ⟨rfl, hb⟩; have HB : Hid (Below w.heap.size w w1) := ((Below.refl _ _).alloc (Nat.le_refl _) _).trans (hb.mono (by simp)); have HG : Hid (w1.heap[w.heap.size]? = some (.cells mZa 29)) := (hb.block w.heap.size (by simp)).trans (heap_alloc_new w _); clear hb) | (refine wpList_store_row rfl 29 _ _ rfl w.heap.size mZa rfl rfl 29 _ HG.out size29 rfl mZa_one ?_))
      refine bodyPost_ret (ret_m Try.results25 _ w.heap.size rfl _ rfl _ mZa rfl (setRow_heap _ _ _ _ _ _ HG.out)) rfl ?_
      exact Or.inl ⟨130, rfl, HR.out, (by decide), (below_setRow HB.out (Nat.le_refl _) _)⟩
    have e1 : decide (words < 1) = false := by simp; omega
    by_cases hw2 : 64 < words
    · rw [if_pos (by omega)] at hr
      subst hr
      have e2 : decide (64 < words) = true := by simp [hw2]
      go_enter Try.func25, Try.ntmps25
      go_wp2_with (first | (go_at_call 43; refine (HK.out _).mono ?_; rintro e w1 ⟨rfl, hb⟩; have HB : Hid (Below w.heap.size w w1) := ((Below.refl _ _).alloc (Nat.le_refl _) _).trans (hb.mono (by simp)); have HG : Hid (w1.heap[w.heap.size]? = some (.cells mZa 29)) := (hb.block w.heap.size (by simp)).trans (heap_alloc_new w _); clear hb) | (refine wpList_store_row rfl 29 _ _ rfl w.heap.size mZa rfl rfl 29 _ HG.out size29 rfl mZa_one ?_))
      refine bodyPost_ret (ret_m Try.results25 _ w.heap.size rfl _ rfl _ mZa rfl (setRow_heap _ _ _ _ _ _ HG.out)) rfl ?_
      exact Or.inl ⟨130, rfl, HR.out, (by decide), (below_setRow HB.out (Nat.le_refl _) _)⟩
    have e2 : decide (64 < words) = false := by simp; omega
    rw [if_neg (by omega)] at hr
    by_cases hf1 : fuel < 1
    · rw [if_pos (by omega)] at hr
      subst hr
      have e3 : decide (fuel < 1) = true := by simp [hf1]
      go_enter Try.func25, Try.ntmps25
      go_wp2_with (first | (go_at_call 43; refine (HK.out _).mono ?_; rintro e w1 ⟨rfl, hb⟩; have HB : Hid (Below w.heap.size w w1) := ((Below.refl _ _).alloc (Nat.le_refl _) _).trans (hb.mono (by simp)); have HG : Hid (w1.heap[w.heap.size]? = some (.cells mZa 29)) := (hb.block w.heap.size (by simp)).trans (heap_alloc_new w _); clear hb) | (refine wpList_store_row rfl 29 _ _ rfl w.heap.size mZa rfl rfl 29 _ HG.out size29 rfl mZa_one ?_))
      refine bodyPost_ret (ret_m Try.results25 _ w.heap.size rfl _ rfl _ mZa rfl (setRow_heap _ _ _ _ _ _ HG.out)) rfl ?_
      exact Or.inl ⟨110, rfl, HR.out, (by decide), (below_setRow HB.out (Nat.le_refl _) _)⟩
    have e3 : decide (fuel < 1) = false := by simp; omega
    by_cases hf2 : 4000 < fuel
    · rw [if_pos (by omega)] at hr
      subst hr
      have e4 : decide (4000 < fuel) = true := by simp [hf2]
      go_enter Try.func25, Try.ntmps25
      go_wp2_with (first | (go_at_call 43; refine (HK.out _).mono ?_; rintro e w1 ⟨rfl, hb⟩; have HB : Hid (Below w.heap.size w w1) := ((Below.refl _ _).alloc (Nat.le_refl _) _).trans (hb.mono (by simp)); have HG : Hid (w1.heap[w.heap.size]? = some (.cells mZa 29)) := (hb.block w.heap.size (by simp)).trans (heap_alloc_new w _); clear hb) | (refine wpList_store_row rfl 29 _ _ rfl w.heap.size mZa rfl rfl 29 _ HG.out size29 rfl mZa_one ?_))
      refine bodyPost_ret (ret_m Try.results25 _ w.heap.size rfl _ rfl _ mZa rfl (setRow_heap _ _ _ _ _ _ HG.out)) rfl ?_
      exact Or.inl ⟨110, rfl, HR.out, (by decide), (below_setRow HB.out (Nat.le_refl _) _)⟩
    have e4 : decide (4000 < fuel) = false := by simp; omega
    rw [if_neg (by omega)] at hr
    subst hr
    obtain ⟨i0, hi, hz0, hz1, hz2⟩ := info_parts info2
    go_enter Try.func25, Try.ntmps25
    go_wp2_with (go_at_call 43; refine (HK.out _).mono ?_; rintro e w1 ⟨rfl, hb⟩; have HB : Hid (Below w.heap.size w w1) := ((Below.refl _ _).alloc (Nat.le_refl _) _).trans (hb.mono (by simp)); have HG : Hid (w1.heap[w.heap.size]? = some (.cells mZa 29)) := (hb.block w.heap.size (by simp)).trans (heap_alloc_new w _); clear hb)
    have HOW : Hid ((w1.alloc (.cells #[.int .i64 n, .int .i64 i, .int .i64 k] 2)).ownsRow w1.heap.size 2 1 (.slice (some ⟨w1.heap.size, 0, none⟩) 3 3) 3 (R0v n i k 3)) := ⟨rfl, Or.inr ⟨w1.heap.size, 3, _, rfl, Nat.le_refl _, heap_alloc_new w1 _, Nat.le_refl _, by unfold maxLen; omega, rfl, rfl⟩⟩
    go_loopw [18] (fun v wr => RgI w w1 n i k v wr) (fun v _ => 16 - lenV v)
    case atStart => exact ⟨3, _, _, by omega, rfl, HOW.out, (Below.refl _ _).alloc (Nat.le_refl _) _⟩
    case round =>
      obtain ⟨q, a, c, hq, rfl, ho, hb⟩ := hrel
      have HO : Hid (wr.ownsRow w1.heap.size 2 1 (.slice a q c) q (R0v n i k q)) := ho
      have HB1 : Hid (Below w1.heap.size w1 wr) := hb
      clear ho hb
      by_cases hlt : q < 16
      · have h16 : decide ((q : Int) < 16) = true := by simp; omega
        have HOA : Hid (∀ o, (wr.alloc o).ownsRow w1.heap.size 2 1 (.slice a q c) q (R0v n i k q)) := fun o => World.ownsRow.alloc HO.out o
        go_wp2_with (at_builtin; refine wpList_append_own_at _ rfl _ _ 25 rfl w1.heap.size 2 i0 (.int .i64 0) 1 8 Try.underlying25 hi hz0 hz1 hz2 rfl (by decide) _ q _ rfl (HOA.out _) ⟨wr.heap.size, 0, none⟩ 1 1 [.int .i64 0] rfl rfl ?d1 ?d2 ?d3 ?d4 ?d5 ?_)
        case d1 => exact cell_one_new _ _ _
        case d2 => intro u hu; rw [List.mem_singleton.1 hu]; rfl
        case d3 => unfold maxLen; omega
        case d4 => omega
        case d5 => have := HB1.out.size; simp; omega
        intro v' w' hown hg _ _
        rw [R0v_succ n i k q hq.1 hlt] at hown
        obtain ⟨a', c', rfl⟩ : ∃ a' c', v' = .slice a' (q + 1) c' := by
          rcases hown.2 with ⟨_, h⟩ | ⟨g, cap', _, h, _⟩
          · omega
          · exact ⟨_, _, h⟩
        have HO2 : Hid (w'.ownsRow w1.heap.size 2 1 (.slice a' (q + 1) c') (q + 1) (R0v n i k (q + 1))) := hown
        have HB2 : Hid (Below w1.heap.size w1 w') := (HB1.out.alloc HB1.out.size _).grown hg (by simp; have := HB1.out.size; omega) (fun j hj => (HO.out.lt j hj).1)
        clear hown hg
        go_wp2
        go_roundw
        case rel => exact ⟨q + 1, a', c', by omega, rfl, HO2.out, HB2.out⟩
        case measure => simp [lenV]; omega
      · have h16 : decide ((q : Int) < 16) = false := by simp; omega
        obtain rfl : q = 16 := by omega
        have HG2 : Hid (wr.heap[w.heap.size]? = some (.cells mZa 29)) := (HB1.out.block _ (Array.getElem?_eq_some_iff.1 HG.out).1).trans HG.out
        have hce := fun g => World.ownsRow.cells HO.out (g := g)
        obtain ⟨_, h6⟩ := HO.out
        rcases h6 with ⟨_, h6⟩ | ⟨g, c', cur, e1, e2, e3, e4, e5, e6, e7⟩
        · omega
        injection e1 with e8 e9 e10
        subst e8
        subst e10
        have HRR : Hid (RRg wr (.slice (some ⟨g, 0, none⟩) 16 c) (St0 n i k)) := ⟨g, c, rfl, e4, e5, fun r hr => by
          have := hce g rfl r (.int .i64 (rg (St0 n i k) r)) (by
            match r, hr with
            | 0, _ => rfl
            | 1, _ => rfl
            | 2, _ => rfl
            | 3, _ => rfl
            | 4, _ => rfl
            | 5, _ => rfl
            | 6, _ => rfl
            | 7, _ => rfl
            | 8, _ => rfl
            | 9, _ => rfl
            | 10, _ => rfl
            | 11, _ => rfl
            | 12, _ => rfl
            | 13, _ => rfl
            | 14, _ => rfl
            | 15, _ => rfl
            | j + 16, h => exact absurd h (by omega))
          rw [addn, Nat.zero_add] at this
          exact this⟩
        have hgs : w.heap.size < g := Nat.lt_of_lt_of_le (Array.getElem?_eq_some_iff.1 HG.out).1 e2
        have HB2 : Hid (Below w.heap.size w wr) := HB.out.trans (HB1.out.mono HB.out.size)
        have HON : Hid ((mC (.slice ad C.length cp) (.slice (some ⟨g, 0, none⟩) 16 c) words fuel (St0 n i k)).all (·.oneCell') = true) := by
          exact all_oneCell_toArray (cs := [_, _, _, _, _, _, _, _]) (by intro u hu; simp at hu; rcases hu with rfl | rfl | rfl | rfl | rfl | rfl | rfl | rfl <;> rfl)
        clear hce HO e1 e2 e3 e4 e5 e6 e7 e9
        go_wp2_with (refine wpList_store_row rfl 29 _ _ rfl w.heap.size (mC (.slice ad C.length cp) (.slice (some ⟨g, 0, none⟩) 16 c) words fuel (St0 n i k)) rfl rfl 29 _ HG2.out size29 rfl HON.out ?_)
        refine bodyPost_ret (ret_m Try.results25 _ w.heap.size rfl _ rfl _ _ rfl (setRow_heap _ _ _ _ _ _ HG2.out)) rfl ?_
        refine Or.inr ⟨.slice (some ⟨g, 0, none⟩) 16 c, rfl, HR.out, ?_, below_setRow HB2.out (Nat.le_refl _) _⟩
        obtain ⟨g', c', h1, h2, h3, h4⟩ := HRR.out
        injection h1 with h1 _ h5
        injection h1 with h1
        injection h1 with h1
        subst h1
        exact ⟨g, c', by rw [h5], h2, h3, fun r hr => (cell_setRow_other _ _ _ _ (by show g ≠ w.heap.size; omega)).trans (h4 r hr)⟩
  · rw [if_pos h2] at hr
    subst hr
    have e2 : (c2 != 0) = true := by simp [h2]
    go_enter Try.func25, Try.ntmps25
    go_wp2_with (first | (go_at_call 43; refine (HK.out _).mono ?_; rintro e w1 ⟨rfl, hb⟩; have HB : Hid (Below w.heap.size w w1) := ((Below.refl _ _).alloc (Nat.le_refl _) _).trans (hb.mono (by simp)); have HG : Hid (w1.heap[w.heap.size]? = some (.cells mZa 29)) := (hb.block w.heap.size (by simp)).trans (heap_alloc_new w _); clear hb) | (refine wpList_store_row rfl 29 _ _ rfl w.heap.size mZa rfl rfl 29 _ HG.out size29 rfl mZa_one ?_))
    refine bodyPost_ret (ret_m Try.results25 _ w.heap.size rfl _ rfl _ mZa rfl (setRow_heap _ _ _ _ _ _ HG.out)) rfl ?_
    exact Or.inl ⟨c2, rfl, HR.out, h2, (below_setRow HB.out (Nat.le_refl _) _)⟩
end Go.Proofs.Ytkcncngcmhldpaa
