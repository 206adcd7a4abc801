/- What reader.line answers. -/
import Derived.Test.YthcidcfaodjbjabGreatDoorInstr
import Derived.Deep.RegionWith
namespace Go.Proofs.YthcidcfaodjbjabGreatDoor
open Go.RowKit Go.Maps Go.WideMaps
set_option linter.unusedVariables false

theorem suf_has (l : List UInt8) : Lib.hasSuffix l [58] = decide (l.getLast? = some 58) := by
  unfold Lib.hasSuffix
  rw [Bool.eq_iff_iff]
  simp only [decide_eq_true_eq, List.isSuffixOf_iff_suffix]
  constructor
  · rintro ⟨t, rfl⟩; simp
  · intro h
    obtain ⟨ys, rfl⟩ := List.getLast?_eq_some_iff.1 h
    exact ⟨ys, rfl⟩
theorem suf_trim (l : List UInt8) (h : l.getLast? = some 58) : Lib.trimSuffix l [58] = l.dropLast := by
  unfold Lib.trimSuffix
  rw [suf_has, decide_eq_true h, if_pos rfl, List.dropLast_eq_take]
  rfl
theorem lineL_one_yes (st : Rs) (n : Int) (p : List UInt8) (h : p.getLast? = some 58) : lineL st n [p] = labelL st p.dropLast := by
  show (if _ then _ else _) = _
  rw [if_pos ⟨h, rfl⟩]
theorem lineL_one_no (st : Rs) (n : Int) (p : List UInt8) (h : ¬ p.getLast? = some 58) : lineL st n [p] = insR st n (insL p []) := by
  show (if _ then _ else _) = _
  rw [if_neg (fun k => h k.1)]
  cases insL p [] <;> rfl
theorem lineL_more (st : Rs) (n : Int) (p q : List UInt8) (r : List (List UInt8)) : lineL st n (p :: q :: r) = insR st n (insL p (q :: r)) := by
  show (if _ then _ else _) = _
  rw [if_neg (fun k => by cases k.2)]
  cases insL p (q :: r) <;> rfl
/-- a slice of strings of known place -/
structure SAt (w : World) (A : Nat) (l : List ByteArray) : Prop where
  c : ∀ i (h : i < l.length), w.cell? ⟨A, i, none⟩ = some (.string l[i]) ∧ l[i].size ≤ 8192
theorem SAt.tail {w : World} {A : Nat} {p : ByteArray} {r : List ByteArray} (h : SAt w A (p :: r)) (hl : r.length ≤ 100000) (ad : Option Addr) (hd : 0 < r.length → ad = some ⟨A, 1, none⟩) : SSl w (.slice ad r.length r.length) r := by
  refine ⟨ad, r.length, A, 1, rfl, Nat.le_refl _, hl, hd, fun i hi => ?_⟩
  have := h.c (i + 1) (by simp; omega)
  rw [List.getElem_cons_succ] at this
  exact ⟨by rw [Nat.add_comm]; exact this.1, by omega⟩

theorem FR.drew {rb mb base : Nat} {w w' : World} (h : FR rb mb base w.drew w') : FR rb mb base w w' := ⟨h.os, h.tape, h.output, h.size, h.block⟩
theorem LrP.drew {rb mb base : Nat} {w : World} {e : Ending} {w' : World} : ∀ {lr : Lr}, LrP rb mb base w.drew e w' lr → LrP rb mb base w e w' lr
  | .err x, h => ⟨h.1, h.2.1, h.2.2.drew⟩
  | .ok s, h => by obtain ⟨h1, vc, vf, h2, h3⟩ := h; exact ⟨h1, vc, vf, h2, h3.drew⟩
theorem LrP.int {rb mb base : Nat} {w : World} {e : Ending} {w' : World} : ∀ {lr : Lr}, LrP rb mb base w e w' lr → ∃ k : Int, e = .returned (.int .i64 k)
  | .err x, h => ⟨x, h.1⟩
  | .ok s, h => ⟨0, h.1⟩
set_option maxRecDepth 100000 in
set_option maxHeartbeats 2000000 in
theorem line_any (rb mb base A : Nat) (vc vf : Value) (st : Rs) (n : Int) (P : List ByteArray) (w : World) (h : RSt w rb mb base vc vf st) (hv : SAt w A P) (hP : P.length ≤ 100000) (hl : st.tab.length ≤ 100000) (hc : st.code.length ≤ 100000) (hf : st.frm.length ≤ 100000) :
    Calls Tryz.prog 34 #[.pointer (some ⟨rb, 0, none⟩), .int .i64 n, .slice (some ⟨A, 0, none⟩) P.length P.length] w fun e w' => LrP rb mb base w e w' (lineL st n (P.map (·.data.toList))) := by
  have HW : Hid (RSt w rb mb base vc vf st) := h
  rcases P with _ | ⟨p, r⟩
  · show Calls Tryz.prog 34 #[.pointer (some ⟨rb, 0, none⟩), .int .i64 n, .slice (some ⟨A, 0, none⟩) 0 0] w fun e w' => e = .returned (.int .i64 0) ∧ ∃ vc vf, RSt w' rb mb base vc vf st ∧ FR rb mb base w w'
    clear h hv
    go_enter Tryz.func34, Tryz.ntmps34
    go_wp2
    go_ret
    exact ⟨rfl, vc, vf, HW.out, FR.refl _ _ _ _⟩
  · obtain ⟨q1, q2⟩ := hv.c 0 (by simp)
    rw [List.getElem_cons_zero] at q1 q2
    have HS : Hid (∀ w, Calls Tryz.prog 53 #[.string p, .string ⟨#[58]⟩] w fun e w' => e = .returned (.tuple #[.string ⟨(Lib.trimSuffix p.data.toList [58]).toArray⟩, .bool (Lib.hasSuffix p.data.toList [58])]) ∧ w' = w) := fun w => Tryz.strings_CutSuffix p ⟨#[58]⟩ w (by omega)
    have HT : Hid (∀ ad, (0 < r.length → ad = some ⟨A, 1, none⟩) → SSl w (.slice ad r.length r.length) r) := fun ad hd => hv.tail (by simp at hP; omega) ad hd
    rw [suf_has] at HS
    rcases r with _ | ⟨q, r⟩
    · by_cases hsf : p.data.toList.getLast? = some 58
      · obtain ⟨t, ht⟩ : ∃ t : ByteArray, ⟨p.data.toList.dropLast.toArray⟩ = t := ⟨_, rfl⟩
        have htl : t.data.toList = p.data.toList.dropLast := by rw [← ht]
        have hts : t.size ≤ maxLen := by
          have h1 : t.size = p.data.toList.dropLast.length := by rw [← htl]; simp
          rw [h1, List.length_dropLast]
          have : p.data.toList.length = p.size := by simp
          unfold maxLen; omega
        rw [decide_eq_true hsf, suf_trim _ hsf, ht] at HS
        show Calls Tryz.prog 34 #[.pointer (some ⟨rb, 0, none⟩), .int .i64 n, .slice (some ⟨A, 0, none⟩) 1 1] w fun e w' => LrP rb mb base w e w' (lineL st n [p.data.toList])
        rw [lineL_one_yes _ _ _ hsf, ← htl]
        have HL : Hid (Calls Tryz.prog 54 #[.pointer (some ⟨rb, 0, none⟩), .string t] w fun e w' => LrP rb mb base w e w' (labelL st t.data.toList)) := label_line rb mb base vc vf st t hts w h hl hc
        obtain ⟨lr, hlr⟩ : ∃ lr, labelL st t.data.toList = lr := ⟨_, rfl⟩
        rw [hlr] at HL ⊢
        obtain ⟨post, hpost⟩ : ∃ p : Ending → World → Prop, p = fun e w' => LrP rb mb base w e w' lr := ⟨_, rfl⟩
        have HPOST : Hid (∀ e w', post e w' → ∃ k : Int, e = .returned (.int .i64 k)) := by
          intro e w' hp
          rw [hpost] at hp
          exact hp.int
        rw [← hpost] at HL ⊢
        clear h hv ht htl hts hsf hlr hpost HT
        go_enter Tryz.func34, Tryz.ntmps34
        go_wp2_with (first | (go_at_call 53; refine (HS.out _).mono ?_; rintro e w' ⟨rfl, rfl⟩) | (go_at_call 54; refine HL.out.mono ?_; intro e w' hp; obtain ⟨k, rfl⟩ := HPOST.out _ _ hp; have HPP : Hid _ := hp; clear hp))
        exact HPP.out
      · rw [decide_eq_false hsf] at HS
        obtain ⟨t, ht⟩ : ∃ t : ByteArray, ⟨(Lib.trimSuffix p.data.toList [58]).toArray⟩ = t := ⟨_, rfl⟩
        rw [ht] at HS
        show Calls Tryz.prog 34 #[.pointer (some ⟨rb, 0, none⟩), .int .i64 n, .slice (some ⟨A, 0, none⟩) 1 1] w fun e w' => LrP rb mb base w e w' (lineL st n [p.data.toList])
        rw [lineL_one_no _ _ _ hsf]
        have HL : Hid (∀ ad, Calls Tryz.prog 55 #[.pointer (some ⟨rb, 0, none⟩), .int .i64 n, .string p, .slice ad 0 0] w.drew fun e w' => LrP rb mb base w.drew e w' (insR st n (insL p.data.toList []))) := fun ad => instruction_any rb mb base vc vf _ st n p [] w.drew h.drew (SSl.below (HT.out ad (fun h => absurd h (by simp))) ((Below.refl _ _).drew)) hc hf
        obtain ⟨lr, hlr⟩ : ∃ lr, insR st n (insL p.data.toList []) = lr := ⟨_, rfl⟩
        rw [hlr] at HL ⊢
        obtain ⟨post, hpost⟩ : ∃ p : Ending → World → Prop, p = fun e w' => LrP rb mb base w e w' lr := ⟨_, rfl⟩
        have HPOST : Hid (∀ e w', LrP rb mb base w.drew e w' lr → post e w') := by
          intro e w' hp
          rw [hpost]
          exact hp.drew
        rw [← hpost]
        clear h hv ht hsf hlr HT hpost
        go_enter Tryz.func34, Tryz.ntmps34
        go_wp2_with (first | (go_at_call 53; refine (HS.out _).mono ?_; rintro e w' ⟨rfl, rfl⟩))
        go_region_with (go_at_call 55; refine (HL.out _).mono ?_; intro e w' hp; obtain ⟨k, rfl⟩ := hp.int; have HPP : Hid _ := HPOST.out _ _ hp; clear hp)
        all_goals
          go_wp2
          first | exact HPP.out | (go_ret; exact HPP.out)
    · obtain ⟨t, ht⟩ : ∃ t : ByteArray, ⟨(Lib.trimSuffix p.data.toList [58]).toArray⟩ = t := ⟨_, rfl⟩
      obtain ⟨b, hb⟩ : ∃ b, decide (p.data.toList.getLast? = some 58) = b := ⟨_, rfl⟩
      rw [ht, hb] at HS
      obtain ⟨m, hm⟩ : ∃ m, r.length = m := ⟨_, rfl⟩
      have hlen : (p :: q :: r).length = m + 1 + 1 := by simp [hm]
      rw [hlen]
      show Calls Tryz.prog 34 #[.pointer (some ⟨rb, 0, none⟩), .int .i64 n, .slice (some ⟨A, 0, none⟩) (m + 1 + 1) (m + 1 + 1)] w fun e w' => LrP rb mb base w e w' (lineL st n (p.data.toList :: q.data.toList :: r.map (·.data.toList)))
      rw [lineL_more]
      have HT2 := HT.out (some ⟨A, 1, none⟩) (fun _ => rfl)
      rw [show (q :: r).length = m + 1 by simp [hm]] at HT2
      have HL : Hid (Calls Tryz.prog 55 #[.pointer (some ⟨rb, 0, none⟩), .int .i64 n, .string p, .slice (some ⟨A, 1, none⟩) (m + 1) (m + 1)] w.drew fun e w' => LrP rb mb base w.drew e w' (insR st n (insL p.data.toList (q.data.toList :: r.map (·.data.toList))))) := instruction_any rb mb base vc vf _ st n p (q :: r) w.drew h.drew (SSl.below HT2 ((Below.refl _ _).drew)) hc hf
      obtain ⟨lr, hlr⟩ : ∃ lr, insR st n (insL p.data.toList (q.data.toList :: r.map (·.data.toList))) = lr := ⟨_, rfl⟩
      rw [hlr] at HL ⊢
      obtain ⟨post, hpost⟩ : ∃ p : Ending → World → Prop, p = fun e w' => LrP rb mb base w e w' lr := ⟨_, rfl⟩
      have HPOST : Hid (∀ e w', LrP rb mb base w.drew e w' lr → post e w') := by
        intro e w' hp
        rw [hpost]
        exact hp.drew
      rw [← hpost]
      have hm5 : m ≤ 100000 := by rw [← hm]; simp at hP; omega
      have hne1 : ((m : Int) + 1 + 1 == 1) = false := by rw [beq_eq_false_iff_ne]; omega
      have hne0 : ((m : Int) + 1 + 1 == 0) = false := by rw [beq_eq_false_iff_ne]; omega
      have hc1 : ¬ m + 1 + 1 = 1 := by omega
      clear h hv ht hb hlr HT HT2 hpost hm hlen hP
      cases b with
      | true =>
        go_enter Tryz.func34, Tryz.ntmps34
        go_wp2_with (first | (go_at_call 53; refine (HS.out _).mono ?_; rintro e w' ⟨rfl, rfl⟩))
        go_region_with (go_at_call 55; refine HL.out.mono ?_; intro e w' hp; obtain ⟨k, rfl⟩ := hp.int; have HPP : Hid _ := HPOST.out _ _ hp; clear hp)
        all_goals
          go_wp2
          first | exact HPP.out | (go_ret; exact HPP.out)
      | false =>
        go_enter Tryz.func34, Tryz.ntmps34
        go_wp2_with (first | (go_at_call 53; refine (HS.out _).mono ?_; rintro e w' ⟨rfl, rfl⟩))
        go_region_with (go_at_call 55; refine HL.out.mono ?_; intro e w' hp; obtain ⟨k, rfl⟩ := hp.int; have HPP : Hid _ := HPOST.out _ _ hp; clear hp)
        all_goals
          go_wp2
          first | exact HPP.out | (go_ret; exact HPP.out)
end Go.Proofs.YthcidcfaodjbjabGreatDoor
