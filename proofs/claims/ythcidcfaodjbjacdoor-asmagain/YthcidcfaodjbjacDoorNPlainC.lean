/- Plain mathematics: a number's text is read as it; what is read is written as it was. -/
import Derived.Test.YthcidcfaodjbjacDoorNPlain
import Derived.Test.YthcidcfaodjbjacDoorNPlainB
import Derived.Test.YthcidcfaodjbjacDoorNParse
namespace Go.Proofs.YthcidcfaodjbjacDoor
open Go.RowKit

theorem digsF_succ (f n : Nat) : digsF (f + 1) n = (if n < 10 then [] else digsF f (n / 10)) ++ [UInt8.ofNat (48 + n % 10)] := rfl

theorem ofNat_nat (d : Nat) (h : d < 10) : (UInt8.ofNat (48 + d)).toNat = 48 + d := by
  simp [UInt8.toNat_ofNat']; omega

theorem digsF_facts : ∀ (f n : Nat), n < 10 ^ f → 1 ≤ f →
    (digsF f n).all isD = true ∧ val (digsF f n) = n ∧ 1 ≤ (digsF f n).length ∧ (digsF f n).length ≤ f ∧ (n ≠ 0 → (digsF f n).head? ≠ some 48) ∧ (n = 0 → digsF f n = [48])
  | 0, _, _, h => by omega
  | f + 1, n, hn, _ => by
    rw [digsF_succ]
    have hd := ofNat_nat (n % 10) (by omega)
    have hD : isD (UInt8.ofNat (48 + n % 10)) = true := by simp only [isD, hd, decide_eq_true_eq]; omega
    by_cases h10 : n < 10
    · rw [if_pos h10]
      have e : n % 10 = n := by omega
      rw [e] at hd hD ⊢
      refine ⟨by simpa using hD, ?_, by simp, by simp, ?_, ?_⟩
      · simp [val]; omega
      · intro h0 he
        have : UInt8.ofNat (48 + n) = 48 := by simpa using he
        rw [this] at hd
        have : (48 : UInt8).toNat = 48 := rfl
        omega
      · intro h0; subst h0; rfl
    · rw [if_neg h10]
      have hf : 1 ≤ f := by
        rcases f with _ | f
        · simp at hn; omega
        · omega
      obtain ⟨a1, a2, a3, a4, a5, _⟩ := digsF_facts f (n / 10) (by rw [Nat.pow_succ] at hn; omega) hf
      refine ⟨?_, ?_, by simp, by simp; omega, ?_, fun h => by omega⟩
      · rw [List.all_append, a1]; simpa using hD
      · rw [val_snoc, a2, hd]; omega
      · intro _
        have : (digsF f (n / 10) ++ [UInt8.ofNat (48 + n % 10)]).head? = (digsF f (n / 10)).head? := by
          cases h : digsF f (n / 10) with
          | nil => rw [h] at a3; simp at a3
          | cons x l => rfl
        rw [this]
        exact a5 (by omega)

theorem val_pos (l : List UInt8) (ha : l.all isD = true) (hne : l ≠ []) (hh : l.head? ≠ some 48) : 0 < val l := by
  have : ∀ r : List UInt8, r.reverse.all isD = true → r ≠ [] → r.reverse.head? ≠ some 48 → 0 < val r.reverse := by
    intro r
    induction r with
    | nil => intro _ h; exact absurd rfl h
    | cons c r ih =>
      intro ha _ hh
      simp only [List.reverse_cons, List.all_append, Bool.and_eq_true] at ha hh
      have h2 : isD c = true := by simpa using ha.2
      simp [isD] at h2
      rw [List.reverse_cons, val_snoc]
      by_cases hr : r = []
      · subst hr
        simp at hh
        have : c.toNat ≠ 48 := fun e => hh (UInt8.toNat_inj.1 e)
        simp [val]; omega
      · have : (r.reverse ++ [c]).head? = r.reverse.head? := by
          cases h : r.reverse with
          | nil => simp at h; exact absurd h hr
          | cons x l => rfl
        rw [this] at hh
        have := ih ha.1 hr hh
        omega
  have := this l.reverse (by simpa using ha) (by simpa using hne) (by simpa using hh)
  simpa using this

theorem val_ge (l : List UInt8) (ha : l.all isD = true) (hne : l ≠ []) (hh : l.head? ≠ some 48) : 10 ^ (l.length - 1) ≤ val l := by
  have : ∀ r : List UInt8, r.reverse.all isD = true → r ≠ [] → r.reverse.head? ≠ some 48 → 10 ^ (r.length - 1) ≤ val r.reverse := by
    intro r
    induction r with
    | nil => intro _ h; exact absurd rfl h
    | cons c r ih =>
      intro ha hn hh
      have hp := val_pos (c :: r).reverse ha (by simp) hh
      simp only [List.reverse_cons, List.all_append, Bool.and_eq_true] at ha hh hp ⊢
      by_cases hr : r = []
      · subst hr
        simp at hp ⊢
        exact hp
      · have : (r.reverse ++ [c]).head? = r.reverse.head? := by
          cases h : r.reverse with
          | nil => simp at h; exact absurd h hr
          | cons x l => rfl
        rw [this] at hh
        have h3 := ih ha.1 hr hh
        rw [val_snoc]
        have h4 : (c :: r).length - 1 = (r.length - 1) + 1 := by
          have : r.length ≠ 0 := fun e => hr (List.eq_nil_of_length_eq_zero e)
          simp; omega
        rw [h4, Nat.pow_succ]
        omega
  have := this l.reverse (by simpa using ha) (by simpa using hne) (by simpa using hh)
  simpa using this

theorem digsF_val (l : List UInt8) : ∀ f, l.all isD = true → l ≠ [] → (l.head? ≠ some 48 ∨ l = [48]) → l.length ≤ f → digsF f (val l) = l := by
  have : ∀ (r : List UInt8) (f : Nat), r.reverse.all isD = true → r ≠ [] → (r.reverse.head? ≠ some 48 ∨ r.reverse = [48]) → r.length ≤ f → digsF f (val r.reverse) = r.reverse := by
    intro r
    induction r with
    | nil => intro f _ h; exact absurd rfl h
    | cons c r ih =>
      intro f ha _ hh hl
      rcases f with _ | f
      · simp at hl
      simp only [List.reverse_cons, List.all_append, Bool.and_eq_true] at ha hh ⊢
      have h2 : isD c = true := by simpa using ha.2
      simp [isD] at h2
      have hc : ∀ d, d = c.toNat - 48 → UInt8.ofNat (48 + d) = c := by
        intro d hd
        apply UInt8.toNat_inj.1
        rw [ofNat_nat d (by omega)]; omega
      rw [digsF_succ, val_snoc]
      by_cases hr : r = []
      · subst hr
        have e : val ([] : List UInt8) = 0 := rfl
        simp only [List.reverse_nil, e, List.nil_append]
        rw [if_pos (by omega), hc _ (by omega)]
        rfl
      · have hhd : (r.reverse ++ [c]).head? = r.reverse.head? := by
          cases h : r.reverse with
          | nil => simp at h; exact absurd h hr
          | cons x l => rfl
        have hh' : r.reverse.head? ≠ some 48 := by
          rcases hh with hh | hh
          · rw [hhd] at hh; exact hh
          · exfalso
            have := congrArg List.length hh
            simp at this
            exact hr this
        have hv := val_pos r.reverse ha.1 (by simpa using hr) hh'
        rw [if_neg (by omega), show (val r.reverse * 10 + (c.toNat - 48)) / 10 = val r.reverse by omega, hc _ (by omega), ih f ha.1 hr (Or.inl hh') (by simp at hl; omega)]
  intro f h1 h2 h3 h4
  have := this l.reverse f (by simpa using h1) (by simpa using h2) (by simpa using h3) (by simpa using h4)
  simpa using this

theorem parse_cons (c : UInt8) (r : List UInt8) : parse (c :: r) = if c = 45 then parseOf true false r else parseOf false (c :: r == [48]) (c :: r) := rfl

theorem parse_text (n : Int) (h1 : -9223372036854775808 ≤ n) (h2 : n ≤ 9223372036854775807) : parse (text n) = (n, 0) ∧ (text n).length ≤ 20 := by
  have hm : ((mag n).toNat : Int) = mag n := by unfold mag; split <;> omega
  have hm2 : (mag n).toNat ≤ 9223372036854775808 := by unfold mag; split <;> omega
  obtain ⟨a1, a2, a3, _, a5, a6⟩ := digsF_facts 20 (mag n).toNat (by omega) (by omega)
  have a4 : (digsF 20 (mag n).toNat).length ≤ 19 := by
    rcases Nat.lt_or_ge 19 (digsF 20 (mag n).toNat).length with hx | hx
    · exfalso
      -- twenty digits, the first of them no nought, are more than the greatest number
      by_cases h0 : (mag n).toNat = 0
      · rw [a6 h0] at hx; simp at hx
      · have hp := val_ge (digsF 20 (mag n).toNat) a1 (by intro e; rw [e] at a3; simp at a3) (a5 h0)
        rw [a2] at hp
        have : 10 ^ 19 ≤ 10 ^ ((digsF 20 (mag n).toNat).length - 1) := Nat.pow_le_pow_right (by omega) (by omega)
        omega
    · exact hx
  have hne : digsF 20 (mag n).toNat ≠ [] := by intro e; rw [e] at a3; simp at a3
  have hA : areD (digsF 20 (mag n).toNat) = true := by
    unfold areD; rw [a1]; cases h : digsF 20 (mag n).toNat with
    | nil => exact absurd h hne
    | cons x l => rfl
  by_cases hn : n < 0
  · have hmn : mag n = -n := by unfold mag; rw [if_pos hn]
    unfold text
    rw [if_pos hn]
    refine ⟨?_, by simp; omega⟩
    rw [show [(45 : UInt8)] ++ digsF 20 (mag n).toNat = 45 :: digsF 20 (mag n).toNat from rfl, parse_cons, if_pos rfl, parseOf_4 hA (Or.inl (a5 (by omega))) (by omega), a2]
    unfold withS
    rw [if_pos rfl, if_pos (by omega)]
    simp only [Prod.mk.injEq, and_true]
    omega
  · have hmn : mag n = n := by unfold mag; rw [if_neg hn]
    unfold text
    rw [if_neg hn, List.nil_append]
    refine ⟨?_, by omega⟩
    have key : parse (digsF 20 (mag n).toNat) = parseOf false (digsF 20 (mag n).toNat == [48]) (digsF 20 (mag n).toNat) := by
      cases h : digsF 20 (mag n).toNat with
      | nil => exact absurd h hne
      | cons x l =>
        have hx : isD x = true := by rw [h] at a1; simp at a1; exact a1.1
        have : x ≠ 45 := by intro e; subst e; exact absurd hx (by decide)
        simp only [parse, if_neg this]
    rw [key, parseOf_4 hA ?_ (by omega), a2]
    · unfold withS
      rw [if_neg (by decide), if_pos (by omega)]
      simp only [Prod.mk.injEq, and_true]
      omega
    · by_cases h0 : (mag n).toNat = 0
      · right; rw [a6 h0]; rfl
      · left; exact a5 h0

theorem text_of (b : Bool) (l : List UInt8) (one : Bool) (k : Int) (ho : one = true → l = [48]) (hb : b = true → one = false) (h : parseOf b one l = (k, 0)) :
    text k = (if b then [45] else []) ++ l := by
  by_cases hA : areD l = true
  · have hA' := hA
    unfold areD at hA'
    simp only [Bool.and_eq_true] at hA'
    have hne : l ≠ [] := by intro e; subst e; simp at hA'
    by_cases hz : l.head? = some 48 ∧ one = false
    · obtain ⟨hz1, hz2⟩ := hz
      subst hz2
      rw [parseOf_2 hA hz1] at h; simp at h
    · have hh : l.head? ≠ some 48 ∨ one = true := by
        by_cases h1 : l.head? = some 48
        · right; cases one with
          | true => rfl
          | false => exact absurd ⟨h1, rfl⟩ hz
        · left; exact h1
      have hh2 : l.head? ≠ some 48 ∨ l = [48] := hh.imp_right ho
      by_cases hl : 19 < l.length
      · rw [parseOf_3 hA hh hl] at h; simp at h
      · rw [parseOf_4 hA hh hl] at h
        have hd := digsF_val l 20 hA'.2 hne hh2 (by omega)
        unfold withS at h
        cases b with
        | true =>
          simp only [if_true] at h ⊢
          by_cases hv : (val l : Int) ≤ 9223372036854775808
          · rw [if_pos hv] at h
            simp only [Prod.mk.injEq, and_true] at h
            have hp := val_pos l hA'.2 hne (by
              rcases hh with hh | hh
              · exact hh
              · rw [hb rfl] at hh; exact absurd hh (by decide))
            unfold text
            have hm : (mag k).toNat = val l := by unfold mag; split <;> omega
            rw [if_pos (by omega), hm, hd]
          · rw [if_neg hv] at h; simp at h
        | false =>
          simp only [Bool.false_eq_true, if_false] at h ⊢
          by_cases hv : (val l : Int) ≤ 9223372036854775807
          · rw [if_pos hv] at h
            simp only [Prod.mk.injEq, and_true] at h
            unfold text
            have hm : (mag k).toNat = val l := by unfold mag; split <;> omega
            rw [if_neg (by omega), hm, hd]
          · rw [if_neg hv] at h; simp at h
  · have hA : areD l = false := by simpa using hA
    rw [parseOf_1 hA] at h; simp at h

theorem text_parse (l : List UInt8) (k : Int) (h : parse l = (k, 0)) : text k = l := by
  cases l with
  | nil => simp [parse] at h
  | cons c r =>
    rw [parse_cons] at h
    by_cases hc : c = 45
    · rw [if_pos hc] at h
      have := text_of true r false k (fun e => by simp at e) (fun _ => rfl) h
      rw [this, hc]; rfl
    · rw [if_neg hc] at h
      have := text_of false (c :: r) _ k (fun e => by simpa using e) (fun e => by simp at e) h
      rw [this]; rfl

theorem parse_bd (l : List UInt8) : -9223372036854775808 ≤ (parse l).1 ∧ (parse l).1 ≤ 9223372036854775807 := by
  have hw : ∀ b (n : Int), 0 ≤ n → -9223372036854775808 ≤ (withS b n).1 ∧ (withS b n).1 ≤ 9223372036854775807 := by
    intro b n hn
    unfold withS
    cases b <;> simp only [if_true, Bool.false_eq_true, if_false] <;> split <;> simp <;> omega
  have hp : ∀ b one d, -9223372036854775808 ≤ (parseOf b one d).1 ∧ (parseOf b one d).1 ≤ 9223372036854775807 := by
    intro b one d
    unfold parseOf
    split
    · simp
    · split
      · simp
      · split
        · simp
        · exact hw b _ (by omega)
  cases l with
  | nil => simp [parse]
  | cons c r =>
    rw [parse_cons]
    split
    · exact hp _ _ _
    · exact hp _ _ _
end Go.Proofs.YthcidcfaodjbjacDoor
