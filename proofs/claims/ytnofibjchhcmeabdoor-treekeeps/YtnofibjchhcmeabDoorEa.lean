/- All expressions are read as the plain parser reads them. -/
import Derived.Test.YtnofibjchhcmeabDoorEx
namespace Go.Proofs.YtnofibjchhcmeabDoor
open Go.RowKit Go.Maps
set_option linter.unusedVariables false

/-- what is to be known of signs of one number -/
def SignedOk (pb g c : Nat) (L : List Tok) (b : Nat) : Prop := ∀ on, OnOk pb g c L b on → ∀ (op : Int) p o n w, PS w pb g c L p o b n → SG w pb → n ≤ 600 → o ≤ 48 → p + 1 < L.length → Fed (signedP L on op p o n) → Calls Tryd.prog 104 #[.pointer (some ⟨pb, 0, none⟩), .int .i64 op] w (EPost w w.heap.size pb g c L o b (signedP L on op p o n))
def NoSign (L : List Tok) : Prop := ∀ p, ¬ (tk L p).text = [45] ∧ ¬ (tk L p).text = [126] ∧ ¬ (tk L p).text = [33]
theorem one_step {pb g c : Nat} {L : List Tok} {b : Nat} (hE : TEnd L) (hsg : SignedOk pb g c L b ∨ NoSign L) (F : Nat) (hon : OnOk pb g c L b (exprF L F none)) (hex : ExAll pb g c L b F) : OnOk pb g c L b (exprF L (F + 1) none) := by
  have hex1 : ExOk pb g c L b (exprF L F (some (1, none))) := fun p o n W h1 h2 h3 h4 h5 => hex 1 p o n W (Int.le_refl 1) (by decide) h1 h2 h3 h4 h5
  have hfw : Fwd 1 (exprF L F (some (1, none))) := (exprF_fwd L F).2.1 1
  intro p o n w h hs hn ho hfd
  have e0 : exprF L (F + 1) none p o n = oneP L (exprF L F (some (1, none))) (exprF L F none) p o n := rfl
  rw [e0] at hfd ⊢
  unfold oneP at hfd ⊢
  by_cases k1 : (tk L p).kind = 1
  · rw [if_pos k1]; exact one_num hE p o n w h hn k1
  rw [if_neg k1] at hfd ⊢
  by_cases k2 : (tk L p).kind = 2
  · rw [if_pos k2]; exact one_name hE p o n w h hn k2
  rw [if_neg k2] at hfd ⊢
  by_cases t1 : (tk L p).text = [40]
  · rw [if_pos t1] at hfd ⊢
    exact one_paren p o n w _ h hs k1 k2 t1 fun V hV hS => within_any hE hex1 hfw ⟨#[40]⟩ ⟨#[41]⟩ (by simp) (by simp) p o n V hV hS hn ho hfd
  rw [if_neg t1] at hfd ⊢
  by_cases t2 : (tk L p).text = [109]
  · rw [if_pos t2] at hfd ⊢
    rw [memP_is] at hfd ⊢
    have hfw2 : Fed (withinP L (exprF L F (some (1, none))) [91] [93] (p + 1) o n) := by
      rcases e : withinP L (exprF L F (some (1, none))) [91] [93] (p + 1) o n with a | a
      · rw [e] at hfd; exact hfd
      · exact fed_ok
    exact one_mem p o n w _ hE (fun x q m e => (withinP_fwd hfw _ _ _ _ _ _ _ _ e).2 hn) h hs k1 k2 t2 fun V hV hS => within_any hE hex1 hfw ⟨#[91]⟩ ⟨#[93]⟩ (by simp) (by simp) (p + 1) o n V hV hS hn ho hfw2
  rw [if_neg t2] at hfd ⊢
  by_cases t3 : (tk L p).text = [109, 105, 110]
  · rw [if_pos t3] at hfd ⊢
    exact one_min p o n w _ h hs k1 k2 t3 fun V hV hS => pair_any hE hex1 hfw 17 p o n V hV hS hn ho (hE.text (by rw [t3]; simp)) hfd
  rw [if_neg t3] at hfd ⊢
  by_cases t4 : (tk L p).text = [109, 97, 120]
  · rw [if_pos t4] at hfd ⊢
    exact one_max p o n w _ h hs k1 k2 t4 fun V hV hS => pair_any hE hex1 hfw 18 p o n V hV hS hn ho (hE.text (by rw [t4]; simp)) hfd
  rw [if_neg t4] at hfd ⊢
  by_cases t5 : (tk L p).text = [45]
  · rw [if_pos t5] at hfd ⊢
    rcases hsg with hsg | hno
    · exact one_neg p o n w _ h hs k1 k2 t5 fun V hV hS => hsg _ hon 19 p o n V hV hS hn ho (hE.text (by rw [t5]; simp)) hfd
    · exact absurd t5 (hno p).1
  rw [if_neg t5] at hfd ⊢
  by_cases t6 : (tk L p).text = [126]
  · rw [if_pos t6] at hfd ⊢
    rcases hsg with hsg | hno
    · exact one_com p o n w _ h hs k1 k2 t6 fun V hV hS => hsg _ hon 20 p o n V hV hS hn ho (hE.text (by rw [t6]; simp)) hfd
    · exact absurd t6 (hno p).2.1
  rw [if_neg t6] at hfd ⊢
  by_cases t7 : (tk L p).text = [33]
  · rw [if_pos t7] at hfd ⊢
    rcases hsg with hsg | hno
    · exact one_not p o n w _ h hs k1 k2 t7 fun V hV hS => hsg _ hon 21 p o n V hV hS hn ho (hE.text (by rw [t7]; simp)) hfd
    · exact absurd t7 (hno p).2.2
  rw [if_neg t7] at hfd ⊢
  refine one_bad p o n w h hs k1 k2 ?_
  intro l hl
  simp at hl
  rcases hl with rfl | rfl | rfl | rfl | rfl | rfl | rfl
  · exact t1
  · exact t2
  · exact t3
  · exact t4
  · exact t5
  · exact t6
  · exact t7
theorem expr_both {pb g c : Nat} {L : List Tok} {b : Nat} (hE : TEnd L) (hsg : SignedOk pb g c L b ∨ NoSign L) : ∀ F, OnOk pb g c L b (exprF L F none) ∧ ExAll pb g c L b F := by
  intro F
  induction F using Nat.strongRecOn with
  | _ F ih =>
    rcases F with _ | F
    · exact ⟨fun p o n W _ _ _ _ h => absurd rfl (h 0), fun least p o n W _ _ _ _ _ _ h => absurd rfl (h 0)⟩
    · obtain ⟨i1, i2⟩ := ih F (Nat.lt_succ_self F)
      exact ⟨one_step hE hsg F i1 i2, expr_step hE F i1 (fun f hf => (ih f (Nat.lt_succ_of_lt hf)).2)⟩
/-- the expressions of statements -/
theorem ex1_any {pb g c : Nat} {L : List Tok} {b : Nat} (hE : TEnd L) (hsg : SignedOk pb g c L b ∨ NoSign L) : ExOk pb g c L b (ex1 L) := fun p o n W h1 h2 h3 h4 h5 => (expr_both hE hsg (3 * L.length + 2)).2 1 p o n W (Int.le_refl 1) (by decide) h1 h2 h3 h4 h5
theorem ex1_fed (L : List Tok) (p o n : Nat) : Fed (ex1 L p o n) := (exprF_fed L L.length p (by omega)).2.2 _ o n 1 (Nat.le_refl _) (Int.le_refl 1)
end Go.Proofs.YtnofibjchhcmeabDoor
