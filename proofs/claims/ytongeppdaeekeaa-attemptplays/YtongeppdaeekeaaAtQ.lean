/- The document's log is made. -/
import Derived.Test.YtongeppdaeekeaaAtP
namespace Go.Proofs.Ytongeppdaeekeaa
open Go.RowKit Go.Maps
set_option linter.unusedVariables false

def errD (Rd : List (Int × Int)) : Int := if 4 < Rd.length then 171 else if rightL Rd = false then 140 else 0
set_option maxRecDepth 100000 in
set_option maxHeartbeats 4000000 in
theorem rcheck_any {w : World} {v : Value} {l : List (Int × Int)} (h : RS kD w v l) : Calls Try.prog 44 #[v] w (fun e w' => e = .returned (.int .i64 (errD l)) ∧ w' = w) := by
  obtain ⟨m, hm⟩ : ∃ m, l.length = m := ⟨_, rfl⟩
  have HM : Hid (l.length = m) := hm
  have H1 : Hid (RS kD w v l) := h
  have hml : m ≤ maxLen := by obtain ⟨_, _, _, _, _, q1, q2, _⟩ := h; omega
  unfold maxLen at hml
  obtain ⟨a1, c1, e1⟩ := h.form
  rw [hm] at e1
  subst e1
  clear hm h
  have HF : Hid (∀ E, errD l = E → (fun (e : Ending) w' => e = .returned (.int .i64 (errD l)) ∧ w' = w) (.returned (.int .i64 E)) w) := fun E h => ⟨by rw [h], rfl⟩
  generalize (fun (e : Ending) w' => e = .returned (.int .i64 (errD l)) ∧ w' = w) = P at *
  by_cases h4 : 4 < m
  · have d1 : decide (4 < (m : Int)) = true := by simp; omega
    have d1' : decide (4 < m) = true := by simp; omega
    have HQ : Hid (P (.returned (.int .i64 171)) w) := HF.out 171 (by unfold errD; rw [HM.out, if_pos h4])
    go_enter Try.func44, Try.ntmps44
    go_wp2
    first | exact HQ.out | (go_ret; exact HQ.out)
  have d1 : decide (4 < (m : Int)) = false := by simp; omega
  have d1' : decide (4 < m) = false := by simp; omega
  have HG : Hid (∀ q (hq : q < l.length), rightB l[q].1 = false → P (.returned (.int .i64 140)) w) := fun q hq hr => HF.out 140 (by
    have : rightL l = false := by unfold rightL; rw [List.all_eq_false]; exact ⟨_, List.getElem_mem hq, by simp [hr]⟩
    unfold errD; rw [HM.out, if_neg h4, this, if_pos rfl])
  have HT : Hid ((∀ j (hj : j < l.length), rightB l[j].1 = true) → P (.returned (.int .i64 0)) w) := fun hr => HF.out 0 (by
    have : rightL l = true := by unfold rightL; rw [List.all_eq_true]; intro z hz; obtain ⟨i, hi, rfl⟩ := List.getElem_of_mem hz; exact hr i hi
    unfold errD; rw [HM.out, if_neg h4, this, if_neg (by decide)])
  clear HF
  go_enter Try.func44, Try.ntmps44
  go_wp2_with fail
  go_loop [3] (fun i => ∃ q : Nat, i = .int .i64 (q : Int) ∧ q ≤ m ∧ Hid (∀ j (hj : j < l.length), j < q → rightB l[j].1 = true)) (fun i => m - (intOf i).toNat)
  case atStart => exact ⟨0, rfl, Nat.zero_le _, fun j hj h => absurd h (by omega)⟩
  case round =>
    obtain ⟨q, rfl, hq, HN⟩ := hrel
    by_cases hlt : q < m
    · have e1 : decide (q < m) = true := by simp; omega
      have hq' : q < l.length := by rw [HM.out]; exact hlt
      obtain ⟨b, o, n, c', hg, hcl⟩ := H1.out.cell hq'
      simp only [Value.slice.injEq] at hg
      obtain ⟨rfl, rfl, rfl⟩ := hg
      obtain ⟨⟨z0, z1⟩, hz⟩ : ∃ x, l[q]'hq' = x := ⟨_, rfl⟩
      have HZ : Hid (l[q]'hq' = (z0, z1)) := hz
      rw [hz] at hcl
      obtain ⟨c0, c1⟩ := duo_cells rfl rfl hcl
      have i1 : (0 : Int) ≤ (q : Int) := by omega
      have i2 : (q : Int) < (m : Int) := by omega
      clear hcl hz
      cases hr : rightB z0 with
      | true =>
        have HN2 : Hid (∀ j (hj : j < l.length), j < q + 1 → rightB l[j].1 = true) := fun j hj h => by
          rcases Nat.lt_or_ge j q with r | r
          · exact HN.out j hj r
          · have : j = q := by omega
            subst this
            rw [HZ.out]; exact hr
        have HR : Hid (∀ w, Calls Try.prog 85 #[.int .i64 z0] w fun e w' => e = .returned (.bool true) ∧ w' = w) := fun w => by rw [← hr]; exact rright_any z0 w
        clear hr
        go_wp2_with fail
        refine (HR.out _).mono ?_
        rintro e w4 ⟨rfl, hw4⟩
        rw [hw4]
        clear hw4
        go_wp2_with fail
        go_round
        case rel => exact ⟨q + 1, by go_num, by omega, HN2⟩
        case measure => simp [intOf]; omega
      | false =>
        have HQ : Hid (P (.returned (.int .i64 140)) w) := HG.out q hq' (by rw [HZ.out]; exact hr)
        have HR : Hid (∀ w, Calls Try.prog 85 #[.int .i64 z0] w fun e w' => e = .returned (.bool false) ∧ w' = w) := fun w => by rw [← hr]; exact rright_any z0 w
        clear hr
        go_wp2_with fail
        refine (HR.out _).mono ?_
        rintro e w4 ⟨rfl, hw4⟩
        rw [hw4]
        clear hw4
        go_wp2
        first | exact HQ.out | (go_ret; exact HQ.out)
    · have e1 : decide (q < m) = false := by simp; omega
      have hqm : q = m := by omega
      subst hqm
      have HQ : Hid (P (.returned (.int .i64 0)) w) := HT.out (fun j hj => HN.out j hj (by rw [HM.out] at hj; exact hj))
      go_wp2
      first | exact HQ.out | (go_ret; exact HQ.out)
/-- the document's log is made, or refused -/
def RNewQ (r u o : Int) (v : Value) (Rd : List (Int × Int)) (w : World) (e : Ending) (w' : World) : Prop :=
  Below w.heap.size w w' ∧ ((errL r u o Rd ≠ 0 ∧ e = .returned (.tuple #[.agg #[.int .i64 0, .int .i64 0, .int .i64 0, .slice none 0 0, .slice none 0 0, .slice none 0 0, .slice none 0 0, .slice none 0 0], .int .i64 (errL r u o Rd)])) ∨
    (errL r u o Rd = 0 ∧ e = .returned (.tuple #[.agg #[.int .i64 r, .int .i64 u, .int .i64 o, v, .slice none 0 0, .slice none 0 0, .slice none 0 0, .slice none 0 0], .int .i64 0])))
theorem errL_no {r u o : Int} {Rd : List (Int × Int)} (h : (roomOk r && roomOk u && roomOk o) = false) : errL r u o Rd = 161 := by unfold errL; rw [h, if_pos rfl]
theorem errL_yes {r u o : Int} {Rd : List (Int × Int)} (h : (roomOk r && roomOk u && roomOk o) = true) : errL r u o Rd = errD Rd := by unfold errL errD; rw [h, if_neg (by decide)]
set_option maxRecDepth 100000 in
set_option maxHeartbeats 8000000 in
theorem rlnew_any {w : World} {v : Value} {Rd : List (Int × Int)} (h : RS kD w v Rd) (r u o : Int) : Calls Try.prog 10 #[.int .i64 r, .int .i64 u, .int .i64 o, v] w (RNewQ r u o v Rd w) := by
  have HCK : Hid (∀ A, Calls Try.prog 44 #[v] (w.alloc A) (fun e w' => e = .returned (.int .i64 (errD Rd)) ∧ w' = w.alloc A)) := fun A => rcheck_any (h.below (bl1 w A))
  have HB : Hid (∀ a0 a1 a2 a3 a4 a5 a6 a7 A, Below w.heap.size w (put8W (w.alloc A) w.heap.size a0 a1 a2 a3 a4 a5 a6 a7)) := fun a0 a1 a2 a3 a4 a5 a6 a7 A => below8 (bl1 w A) (Nat.le_refl _) _ _ _ _ _ _ _ _
  have HB1 : Hid (∀ A, Below w.heap.size w (w.alloc A)) := fun A => bl1 w A
  have HE : Hid (∀ W E, Below w.heap.size w W → errL r u o Rd = E → E ≠ 0 → RNewQ r u o v Rd w (.returned (.tuple #[.agg #[.int .i64 0, .int .i64 0, .int .i64 0, .slice none 0 0, .slice none 0 0, .slice none 0 0, .slice none 0 0, .slice none 0 0], .int .i64 E])) W) := fun W E hW he h0 => ⟨hW, .inl ⟨by rw [he]; exact h0, by rw [he]⟩⟩
  have HO : Hid (∀ W, Below w.heap.size w W → errL r u o Rd = 0 → RNewQ r u o v Rd w (.returned (.tuple #[.agg #[.int .i64 r, .int .i64 u, .int .i64 o, v, .slice none 0 0, .slice none 0 0, .slice none 0 0, .slice none 0 0], .int .i64 0])) W) := fun W hW he => ⟨hW, .inr ⟨he, rfl⟩⟩
  have HN : Hid ((w.alloc (.cells #[.int .i64 0, .int .i64 0, .int .i64 0, .slice none 0 0, .slice none 0 0, .slice none 0 0, .slice none 0 0, .slice none 0 0] 35)).heap[w.heap.size]? = some (.cells #[.int .i64 0, .int .i64 0, .int .i64 0, .slice none 0 0, .slice none 0 0, .slice none 0 0, .slice none 0 0, .slice none 0 0] 35)) := heap_alloc_new _ _
  obtain ⟨a, k, e⟩ := h.form
  subst e
  clear h
  have hroom : ∀ n, roomOk n = (decide (1 ≤ n) && decide (n ≤ 64)) := fun n => rfl
  generalize RNewQ r u o _ Rd w = P at *
  generalize Rd.length = n at *
  have bad : (roomOk r && roomOk u && roomOk o) = false → Hid (∀ W, Below w.heap.size w W → P (.returned (.tuple #[.agg #[.int .i64 0, .int .i64 0, .int .i64 0, .slice none 0 0, .slice none 0 0, .slice none 0 0, .slice none 0 0, .slice none 0 0], .int .i64 161])) W) := fun hb W hW => HE.out W 161 hW (errL_no hb) (by decide)
  by_cases r1 : r < 1
  · have HX := bad (by rw [hroom r, decide_eq_false (show ¬ 1 ≤ r by omega)]; simp)
    have t_r1 : decide (r < 1) = true := by simp; omega
    clear bad hroom
    go_enter Try.func10, Try.ntmps10
    go_wp2_with fail
    refine bodyPost_ret (ret_L2 Try.results10 _ w.heap.size rfl _ _ _ _ _ _ _ _ _ HN.out) rfl ?_
    exact HX.out _ (HB1.out _)
  have t_r1 : decide (r < 1) = false := by simp; omega
  by_cases r2 : 64 < r
  · have HX := bad (by rw [hroom r, decide_eq_false (show ¬ r ≤ 64 by omega)]; simp)
    have t_r2 : decide (64 < r) = true := by simp; omega
    clear bad hroom
    go_enter Try.func10, Try.ntmps10
    go_wp2_with fail
    refine bodyPost_ret (ret_L2 Try.results10 _ w.heap.size rfl _ _ _ _ _ _ _ _ _ HN.out) rfl ?_
    exact HX.out _ (HB1.out _)
  have t_r2 : decide (64 < r) = false := by simp; omega
  by_cases r3 : u < 1
  · have HX := bad (by rw [hroom u, decide_eq_false (show ¬ 1 ≤ u by omega)]; simp)
    have t_r3 : decide (u < 1) = true := by simp; omega
    clear bad hroom
    go_enter Try.func10, Try.ntmps10
    go_wp2_with fail
    refine bodyPost_ret (ret_L2 Try.results10 _ w.heap.size rfl _ _ _ _ _ _ _ _ _ HN.out) rfl ?_
    exact HX.out _ (HB1.out _)
  have t_r3 : decide (u < 1) = false := by simp; omega
  by_cases r4 : 64 < u
  · have HX := bad (by rw [hroom u, decide_eq_false (show ¬ u ≤ 64 by omega)]; simp)
    have t_r4 : decide (64 < u) = true := by simp; omega
    clear bad hroom
    go_enter Try.func10, Try.ntmps10
    go_wp2_with fail
    refine bodyPost_ret (ret_L2 Try.results10 _ w.heap.size rfl _ _ _ _ _ _ _ _ _ HN.out) rfl ?_
    exact HX.out _ (HB1.out _)
  have t_r4 : decide (64 < u) = false := by simp; omega
  by_cases r5 : o < 1
  · have HX := bad (by rw [hroom o, decide_eq_false (show ¬ 1 ≤ o by omega)]; simp)
    have t_r5 : decide (o < 1) = true := by simp; omega
    clear bad hroom
    go_enter Try.func10, Try.ntmps10
    go_wp2_with fail
    refine bodyPost_ret (ret_L2 Try.results10 _ w.heap.size rfl _ _ _ _ _ _ _ _ _ HN.out) rfl ?_
    exact HX.out _ (HB1.out _)
  have t_r5 : decide (o < 1) = false := by simp; omega
  by_cases r6 : 64 < o
  · have HX := bad (by rw [hroom o, decide_eq_false (show ¬ o ≤ 64 by omega)]; simp)
    have t_r6 : decide (64 < o) = true := by simp; omega
    clear bad hroom
    go_enter Try.func10, Try.ntmps10
    go_wp2_with fail
    refine bodyPost_ret (ret_L2 Try.results10 _ w.heap.size rfl _ _ _ _ _ _ _ _ _ HN.out) rfl ?_
    exact HX.out _ (HB1.out _)
  have t_r6 : decide (64 < o) = false := by simp; omega
  have hgood : (roomOk r && roomOk u && roomOk o) = true := by
    rw [hroom, hroom, hroom, decide_eq_true (show 1 ≤ r by omega), decide_eq_true (show r ≤ 64 by omega), decide_eq_true (show 1 ≤ u by omega), decide_eq_true (show u ≤ 64 by omega), decide_eq_true (show 1 ≤ o by omega), decide_eq_true (show o ≤ 64 by omega)]; rfl
  have HEQ : Hid (errL r u o Rd = errD Rd) := errL_yes hgood
  clear bad hroom hgood
  generalize errD Rd = E at *
  by_cases hE : E = 0
  · subst hE
    have HX : Hid (∀ W, Below w.heap.size w W → P (.returned (.tuple #[.agg #[.int .i64 r, .int .i64 u, .int .i64 o, .slice a n k, .slice none 0 0, .slice none 0 0, .slice none 0 0, .slice none 0 0], .int .i64 0])) W) := fun W hW => HO.out W hW HEQ.out
    have HN2 : Hid ((w.alloc (.cells #[.int .i64 r, .int .i64 u, .int .i64 o, .slice a n k, .slice none 0 0, .slice none 0 0, .slice none 0 0, .slice none 0 0] 35)).heap[w.heap.size]? = some (.cells #[.int .i64 r, .int .i64 u, .int .i64 o, .slice a n k, .slice none 0 0, .slice none 0 0, .slice none 0 0, .slice none 0 0] 35)) := heap_alloc_new _ _
    clear HO HE
    go_enter Try.func10, Try.ntmps10
    go_wp2_with fail
    refine (HCK.out _).mono ?_
    rintro e w4 ⟨rfl, hw4⟩
    rw [hw4]
    clear hw4
    go_wp2_with fail
    refine bodyPost_ret (ret_L2 Try.results10 _ w.heap.size rfl _ _ _ _ _ _ _ _ _ HN2.out) rfl ?_
    exact HX.out _ (HB1.out _)
  · have t_E : (E == 0) = false := by simp [hE]
    have t_E2 : (E != 0) = true := by simp [hE]
    have HX : Hid (∀ W, Below w.heap.size w W → P (.returned (.tuple #[.agg #[.int .i64 0, .int .i64 0, .int .i64 0, .slice none 0 0, .slice none 0 0, .slice none 0 0, .slice none 0 0, .slice none 0 0], .int .i64 E])) W) := fun W hW => HE.out W E hW HEQ.out hE
    clear HO HE
    go_enter Try.func10, Try.ntmps10
    go_wp2_with fail
    refine (HCK.out _).mono ?_
    rintro e w4 ⟨rfl, hw4⟩
    rw [hw4]
    clear hw4
    go_wp2_with fail
    refine bodyPost_ret (ret_L2 Try.results10 _ w.heap.size rfl _ _ _ _ _ _ _ _ _ HN.out) rfl ?_
    exact HX.out _ (HB1.out _)
end Go.Proofs.Ytongeppdaeekeaa
