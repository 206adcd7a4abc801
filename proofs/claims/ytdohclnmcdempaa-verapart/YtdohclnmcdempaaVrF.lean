/- Where in a chain an age's version stands: the search. -/
import Derived.Test.YtdohclnmcdempaaVrM
import Derived.Deep.CutRange
namespace Go.Proofs.Ytdohclnmcdempaa
open Go.RowKit Go.Maps
set_option linter.unusedVariables false

def cmpI (a b : Int) : Int := if a < b then -1 else if b < a then 1 else 0
set_option maxRecDepth 100000 in
theorem nan_any (a : Int) (w : World) : Calls Try.prog 55 #[.int .i64 a] w (QD w (.bool false)) := by
  have HF : Hid (QD w (.bool false) (.returned (.bool false)) w) := QD.mk0 _ _
  generalize QD w (.bool false) = P at *
  go_enter Try.func55, Try.ntmps55
  go_wp2
  first | exact HF.out | (go_ret; exact HF.out)
def Same (w : World) (v : Value) (e : Ending) (w' : World) : Prop := e = .returned v ∧ w' = w
set_option maxRecDepth 100000 in
set_option maxHeartbeats 2000000 in
theorem cmp_any (a b : Int) (w : World) : Calls Try.prog 52 #[.int .i64 a, .int .i64 b] w (Same w (.int .i64 (cmpI a b))) := by
  have HN : Hid (∀ (a : Int) (w : World), Calls Try.prog 55 #[.int .i64 a] w (Same w (.bool false))) := fun a w => by
    have HF : Hid (Same w (.bool false) (.returned (.bool false)) w) := ⟨rfl, rfl⟩
    generalize Same w (.bool false) = P at *
    go_enter Try.func55, Try.ntmps55
    go_wp2
    first | exact HF.out | (go_ret; exact HF.out)
  have HF : Hid (Same w (.int .i64 (cmpI a b)) (.returned (.int .i64 (cmpI a b))) w) := ⟨rfl, rfl⟩
  have HC : Hid (cmpI a b = if a < b then -1 else if b < a then 1 else 0) := rfl
  generalize Same w (.int .i64 (cmpI a b)) = P at *
  by_cases h1 : a < b
  · rw [HC.out, if_pos h1] at HF
    go_enter Try.func52, Try.ntmps52
    go_wp2_with fail
    refine (HN.out _ _).mono ?_
    rintro e w1 ⟨rfl, rfl⟩
    go_wp2_with fail
    refine (HN.out _ _).mono ?_
    rintro e w2 ⟨rfl, hw2⟩
    subst hw2
    go_wp2
    first | exact HF.out | (go_ret; exact HF.out)
  · by_cases h2 : b < a
    · rw [HC.out, if_neg h1, if_pos h2] at HF
      go_enter Try.func52, Try.ntmps52
      go_wp2_with fail
      refine (HN.out _ _).mono ?_
      rintro e w1 ⟨rfl, rfl⟩
      go_wp2_with fail
      refine (HN.out _ _).mono ?_
      rintro e w2 ⟨rfl, hw2⟩
      subst hw2
      go_wp2
      first | exact HF.out | (go_ret; exact HF.out)
    · rw [HC.out, if_neg h1, if_neg h2] at HF
      go_enter Try.func52, Try.ntmps52
      go_wp2_with fail
      refine (HN.out _ _).mono ?_
      rintro e w1 ⟨rfl, rfl⟩
      go_wp2_with fail
      refine (HN.out _ _).mono ?_
      rintro e w2 ⟨rfl, hw2⟩
      subst hw2
      go_wp2
      first | exact HF.out | (go_ret; exact HF.out)
section
variable {w w' : World} {lab : Nat → Nat} {sb ab ub hb wb mb : Nat} {ob : Option Nat} {R W n : Nat} {L : List Nat} {H : Ch2} {C : List (List Nat)} {cv : List Value} {D : M1}
set_option maxRecDepth 100000 in
set_option maxHeartbeats 2000000 in
theorem clo_any (h : SV w lab sb ab ub hb wb mb ob R W n L H C cv D) (bx : Nat) (hbx : w.cell? ⟨bx, 0, none⟩ = some (.pointer (some ⟨sb, 0, none⟩))) (s : Nat) (hs : s < R) (a : Int) :
    Calls Try.prog 51 #[.int .i64 (s : Int), .int .i64 a, .pointer (some ⟨bx, 0, none⟩)] w (Same w (.int .i64 (cmpI (H.getD s (0, 0)).1 a))) := by
  have c1 := h.c1
  have cx := (h.cH s hs).1
  generalize (H.getD s (0, 0)).1 = x at *
  have HC : Hid (Calls Try.prog 52 #[.int .i64 x, .int .i64 a] w (Same w (.int .i64 (cmpI x a)))) := cmp_any x a w
  have HF : Hid (Same w (.int .i64 (cmpI x a)) (.returned (.int .i64 (cmpI x a))) w) := ⟨rfl, rfl⟩
  generalize cmpI x a = z at *
  clear h
  go_enter Try.func51, Try.ntmps51
  go_wp2_with fail
  refine HC.out.mono ?_
  rintro e w2 ⟨rfl, hw2⟩
  subst hw2
  generalize Same w2 (.int .i64 z) = P at *
  go_wp2
  first | exact HF.out | (go_ret; exact HF.out)
/-- what the search is asked with: each element held against the age -/
def CloOk (w : World) (c : List Nat) (k : Ch2) (a : Int) (bx : Nat) : Prop := ∀ i (h : i < c.length) (h2 : i < k.length), Calls Try.prog 51 #[.int .i64 (c[i] : Int), .int .i64 a, .pointer (some ⟨bx, 0, none⟩)] w (Same w (.int .i64 (cmpI k[i].1 a)))
theorem cmp_lt {x a : Int} (h : x < a) : cmpI x a = -1 := by unfold cmpI; rw [if_pos h]
theorem cmp_eq {a : Int} : cmpI a a = 0 := by unfold cmpI; rw [if_neg (Int.lt_irrefl a), if_neg (Int.lt_irrefl a)]
theorem cmp_gt {x a : Int} (h : a < x) : cmpI x a = 1 := by unfold cmpI; rw [if_neg (by omega), if_pos h]
set_option maxRecDepth 100000 in
set_option maxHeartbeats 4000000 in
theorem bs_any (w : World) (c : List Nat) (k : Ch2) (hk : k.length = c.length) (hs : srt k) (v : Value) (hv : GSl w v (cs c)) (hc : c.length ≤ 1000) (a : Int) (bx : Nat) (HC : CloOk w c k a bx) :
    Calls Try.prog 50 #[v, .int .i64 a, .func (.func 51) #[] #[.pointer (some ⟨bx, 0, none⟩)]] w (Same w (.tuple #[.int .i64 (pl k a : Int), .bool (hasK k a)])) := by
  obtain ⟨va, vc, vb, vo, rfl, h2, h3, h4, h5⟩ := hv
  rw [cs_len] at h2 h4 ⊢
  obtain ⟨m, hm⟩ : ∃ m, c.length = m := ⟨_, rfl⟩
  have HM : Hid (c.length = m) := hm
  have HMK : Hid (k.length = m) := hk.trans hm
  have HVA : Hid (0 < m → va = some ⟨vb, vo, none⟩) := by rw [← hm]; exact h4
  have HVC : Hid (∀ i, (h : i < m) → w.cell? ⟨vb, vo + i, none⟩ = some (.int .i64 ((c[i]'(by rw [HM.out]; exact h) : Nat) : Int))) := fun i h => by
    have := h5 i (by rw [cs_len, HM.out]; exact h)
    rw [cs_at _ _ _ (by rw [HM.out]; exact h)] at this
    exact this
  have HCL : Hid (∀ i (h : i < m), Calls Try.prog 51 #[.int .i64 ((c[i]'(by rw [HM.out]; exact h) : Nat) : Int), .int .i64 a, .pointer (some ⟨bx, 0, none⟩)] w (Same w (.int .i64 (cmpI (k[i]'(by rw [HMK.out]; exact h)).1 a)))) := fun i h => HC i _ _
  have HST : Hid (srt k) := hs
  have HF : Hid (∀ p b, p = pl k a → b = hasK k a → Same w (.tuple #[.int .i64 (pl k a : Int), .bool (hasK k a)]) (.returned (.tuple #[.int .i64 (p : Int), .bool b])) w) := fun p b h1 h2 => ⟨by rw [h1, h2], rfl⟩
  rw [hm] at h2 hc ⊢
  generalize Same w (.tuple #[.int .i64 (pl k a : Int), .bool (hasK k a)]) = P at *
  clear h4 h5 HC hs hm hk
  go_enter Try.func50, Try.ntmps50
  go_wp2_with fail
  go_loopw [9, 10, 11] (fun i j _ wr => ∃ p q : Nat, i = .int .i64 (p : Int) ∧ j = .int .i64 (q : Int) ∧ p ≤ q ∧ q ≤ m ∧ wr = w ∧ Hid ((∀ x (h : x < k.length), x < p → k[x].1 < a) ∧ (∀ x (h : x < k.length), q ≤ x → a ≤ k[x].1))) (fun i j _ _ => (intOf j - intOf i).toNat)
  case atStart => exact ⟨0, m, rfl, rfl, Nat.zero_le _, Nat.le_refl _, rfl, fun x h q => absurd q (Nat.not_lt_zero _), fun x h q => absurd h (by have := HMK.out; omega)⟩
  case round =>
    obtain ⟨p, q, rfl, rfl, hpq, hqm, rfl, HI⟩ := hrel
    by_cases hlt : p < q
    · have e1 : decide (p < q) = true := by simp; omega
      go_upto_region 5 with fail
      obtain ⟨y, hy⟩ : ∃ y : Nat, ((p : Int) + (q : Int)) / 2 = (y : Int) := ⟨(p + q) / 2, by omega⟩
      have hpy : p ≤ y ∧ y < q := by omega
      rw [hy]
      clear hy
      have hym : y < m := by omega
      have hva := HVA.out (by omega)
      subst hva
      have cy := HVC.out y hym
      have HCy := HCL.out y hym
      have hky : y < k.length := by rw [HMK.out]; exact hym
      have HKY : Hid (∃ z, k[y] = z) := ⟨_, rfl⟩
      obtain ⟨z, hz⟩ := HKY.out
      have HZ : Hid (k[y] = z) := hz
      rw [hz] at HCy
      generalize (c[y]'(by rw [HM.out]; exact hym) : Nat) = sy at *
      by_cases hlt2 : z.1 < a
      · rw [cmp_lt hlt2] at HCy
        have HI2 : Hid ((∀ x (h : x < k.length), x < y + 1 → k[x].1 < a) ∧ (∀ x (h : x < k.length), q ≤ x → a ≤ k[x].1)) := by
          refine ⟨fun x h hx => ?_, HI.out.2⟩
          rcases Nat.lt_or_ge x y with r | r
          · have g := (List.pairwise_iff_getElem.1 HST.out) x y h hky r
            rw [hz] at g; omega
          · have : x = y := by omega
            subst this
            rw [hz]; exact hlt2
        clear hz HKY
        go_wp2_with fail
        refine HCy.mono ?_
        rintro e w2 ⟨rfl, hw2⟩
        rw [hw2]
        clear hw2
        go_wp2_with fail
        go_roundw
        case rel => exact ⟨y + 1, q, by go_num, rfl, by omega, hqm, trivial, HI2⟩
        case measure => simp [intOf] <;> omega
      · have HI2 : Hid ((∀ x (h : x < k.length), x < p → k[x].1 < a) ∧ (∀ x (h : x < k.length), y ≤ x → a ≤ k[x].1)) := by
          refine ⟨HI.out.1, fun x h hx => ?_⟩
          rcases Nat.lt_or_ge y x with r | r
          · have g := (List.pairwise_iff_getElem.1 HST.out) y x hky h r
            rw [hz] at g; omega
          · have : x = y := by omega
            subst this
            rw [hz]; omega
        have hcm : ¬ cmpI z.1 a < 0 := by unfold cmpI; rw [if_neg hlt2]; split <;> omega
        clear hz HKY
        generalize cmpI z.1 a = cz at *
        go_wp2_with fail
        refine HCy.mono ?_
        rintro e w2 ⟨rfl, hw2⟩
        rw [hw2]
        clear hw2
        go_wp2_with fail
        go_roundw
        case rel => exact ⟨p, y, rfl, rfl, by omega, by omega, trivial, HI2⟩
        case measure => simp [intOf] <;> omega
    · have hpq2 : p = q := by omega
      subst hpq2
      have HP : Hid (p = pl k a) := (pl_is k a p (by rw [HMK.out]; exact hqm) HI.out.1 HI.out.2).symm
      have e1 : decide (p < p) = false := by simp
      by_cases hpm : p < m
      · have e2 : decide (p < m) = true := by simp; omega
        have hva := HVA.out (by omega)
        subst hva
        have cy := HVC.out p hpm
        have HCy := HCL.out p hpm
        have hky : p < k.length := by rw [HMK.out]; exact hpm
        have HB : Hid (hasK k a = ((k[p]).1 == a)) := by
          show _ = _
          unfold hasK
          have hh : pl k a < k.length := by rw [← HP.out]; exact hky
          rw [List.getElem?_eq_getElem hh]
          simp only []
          congr 2
          congr 1
          exact HP.out.symm
        have hge := HI.out.2 p hky (Nat.le_refl _)
        generalize (k[p]).1 = z at *
        generalize (c[p]'(by rw [HM.out]; exact hpm) : Nat) = sy at *
        by_cases hza : z = a
        · subst hza
          have HR : Hid (P (.returned (.tuple #[.int .i64 (p : Int), .bool true])) wr) := HF.out p true HP.out (by rw [HB.out]; simp)
          rw [cmp_eq] at HCy
          go_wp2_with fail
          refine HCy.mono ?_
          rintro e w2 ⟨rfl, hw2⟩
          rw [hw2]
          clear hw2
          go_wp2
          first | exact HR.out | (go_ret2; exact HR.out)
        · have HR : Hid (P (.returned (.tuple #[.int .i64 (p : Int), .bool false])) wr) := HF.out p false HP.out (by rw [HB.out]; simp [hza])
          rw [cmp_gt (by omega)] at HCy
          go_wp2_with fail
          refine HCy.mono ?_
          rintro e w2 ⟨rfl, hw2⟩
          rw [hw2]
          clear hw2
          go_wp2
          first | exact HR.out | (go_ret2; exact HR.out)
      · have e2 : decide (p < m) = false := by simp; omega
        have HR : Hid (P (.returned (.tuple #[.int .i64 (p : Int), .bool false])) wr) := HF.out p false HP.out (by
          unfold hasK
          rw [List.getElem?_eq_none (by rw [HMK.out, ← HP.out]; omega)])
        go_wp2
        first | exact HR.out | (go_ret2; exact HR.out)
section
variable {w w' : World} {lab : Nat → Nat} {sb ab ub hb wb mb : Nat} {ob : Option Nat} {R W n : Nat} {L : List Nat} {H : Ch2} {C : List (List Nat)} {cv : List Value} {D : M1}
/-- where an age's version stands in a word's chain -/
def FindQ (k : Ch2) (a : Int) (w : World) (e : Ending) (w' : World) : Prop := e = .returned (.tuple #[.int .i64 (pl k a : Int), .bool (hasK k a)]) ∧ ∃ A, w' = w.alloc A
theorem tot_ge : ∀ (C : List (List Nat)) (i : Nat), (cc C i).length ≤ tot C
  | [], i => by simp [cc]
  | x :: C, 0 => by simp [cc, tot]
  | x :: C, i + 1 => by
    have := tot_ge C i
    simp [cc, tot] at *
    omega
theorem SV.len (h : SV w lab sb ab ub hb wb mb ob R W n L H C cv D) (i : Nat) : (cc C i).length ≤ R ∧ R ≤ 512 := by
  have h1 := tot_ge C i
  have h2 := h.ok.cnt
  have h3 := h.ar.ok.n2
  omega
set_option maxRecDepth 100000 in
set_option maxHeartbeats 2000000 in
theorem find_any (h : SV w lab sb ab ub hb wb mb ob R W n L H C cv D) (i : Nat) (v : Value) (hv : GSl w v (cs (cc C i))) (a : Int) :
    Calls Try.prog 45 #[.pointer (some ⟨sb, 0, none⟩), v, .int .i64 a] w (FindQ (kf H C i) a w) := by
  have hl := h.len i
  have HB : Hid (Calls Try.prog 50 #[v, .int .i64 a, .func (.func 51) #[] #[.pointer (some ⟨w.heap.size, 0, none⟩)]] (w.alloc (.cells #[.pointer (some ⟨sb, 0, none⟩)] 44)) (Same (w.alloc (.cells #[.pointer (some ⟨sb, 0, none⟩)] 44)) (.tuple #[.int .i64 (pl (kf H C i) a : Int), .bool (hasK (kf H C i) a)]))) := by
    refine bs_any _ (cc C i) (kf H C i) (kc_len _ _) (h.ok.st i) v (hv.below (bl1 _ _)) (by omega) a w.heap.size ?_
    intro j hj hj2
    have e : (kf H C i)[j] = H.getD (cc C i)[j] (0, 0) := kc_at _ _ _ _ hj
    rw [e]
    exact clo_any (h.alloc _) w.heap.size (by rw [World.cell?_alloc_new]; rfl) _ (h.ok.lt i _ (List.getElem_mem _)) a
  have HF : Hid (∀ A, FindQ (kf H C i) a w (.returned (.tuple #[.int .i64 (pl (kf H C i) a : Int), .bool (hasK (kf H C i) a)])) (w.alloc A)) := fun A => ⟨rfl, A, rfl⟩
  have hmk : ∀ (fn : Fn) (first cap : Array Value) (w : World), (Instr.makeFunc fn first cap).run Try.prog w = .ok (.func fn first cap) w := fun _ _ _ _ => rfl
  generalize FindQ (kf H C i) a w = P at *
  generalize (pl (kf H C i) a) = p at *
  generalize (hasK (kf H C i) a) = b at *
  clear h hv hl
  go_enter Try.func45, Try.ntmps45
  go_wp2_with fail
  refine HB.out.mono ?_
  rintro e w2 ⟨rfl, hw2⟩
  subst hw2
  go_wp2
  first | exact HF.out _ | (go_ret2; exact HF.out _)
end
end
end Go.Proofs.Ytdohclnmcdempaa
