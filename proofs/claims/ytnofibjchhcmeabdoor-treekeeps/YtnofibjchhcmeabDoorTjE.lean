/- No error of Parse is 0; rows of statements as they lie in memory. -/
import Derived.Test.YtnofibjchhcmeabDoorPlS
import Derived.Test.YtnofibjchhcmeabDoorNd
import Derived.Test.YtnofibjchhcmeabDoorEa
import Derived.Test.YtnofibjchhcmeabDoorRp
import Derived.Test.YtnofibjchhcmeabDoorPb
import Derived.Test.YtnofibjchhcmeabDoorSe
import Derived.Test.YtnofibjchhcmeabDoorSo
import Derived.Test.YtnofibjchhcmeabDoorSd
import Derived.Test.YtnofibjchhcmeabDoorSi
import Derived.Test.YtnofibjchhcmeabDoorSp
import Derived.Test.YtnofibjchhcmeabDoorEs
import Derived.Test.YtnofibjchhcmeabDoorLCutQ
import Derived.Deep.RegionHeld3
import Derived.Deep.CutRange
namespace Go.Proofs.YtnofibjchhcmeabDoor
open Go.RowKit
set_option linter.unusedVariables false

/-- how many nodes an expression is -/
def pcnt (x : PE) : Nat := ecnt x.args + 1
def pcnts : List PE → Nat
  | [] => 0
  | x :: l => pcnt x + pcnts l
theorem ecnt_row (l : List PE) : ecnt (erow l) = pcnts l := by
  induction l with
  | nil => rfl
  | cons x l ih => simp only [erow, ecnt, pcnts, pcnt, ih]; omega
theorem mkE_cnt {t : Tok} {k m : Int} {s : ByteArray} {op : Int} {l : List PE} {n : Nat} {x : PE} {i : Nat} (h : mkE t k m s op l n = .ok (x, i)) : i = n + 1 ∧ pcnt x = pcnts l + 1 := by
  unfold mkE at h
  split at h
  · cases h
  · split at h
    · cases h
    · cases h; exact ⟨rfl, by unfold pcnt; rw [ecnt_row]⟩
theorem mk'_cnt {p : Nat} {t : Tok} {k m : Int} {s : ByteArray} {op : Int} {l : List PE} {n : Nat} {x : PE} {q i : Nat} (h : mk' p (mkE t k m s op l n) = .ok (x, q, i)) : i = n + 1 ∧ pcnt x = pcnts l + 1 := by
  rcases e : mkE t k m s op l n with e1 | ⟨y, j⟩
  · rw [e] at h; cases h
  · rw [e] at h; cases h; exact mkE_cnt e
/-- as many nodes are made as there are -/
def Cts (r : Nat → Nat → Nat → PR) : Prop := ∀ p o n x q m, r p o n = .ok (x, q, m) → m = n + pcnt x
theorem withinP_cts {L : List Tok} {ex : Nat → Nat → Nat → PR} (h : Cts ex) (a b : List UInt8) : Cts (withinP L ex a b) := by
  intro p o n x q m hr
  unfold withinP at hr
  split at hr
  · cases hr
  · split at hr
    · cases hr
    · rcases e : ex (p + 1) (o + 1) n with e1 | ⟨y, r, i⟩
      · rw [e] at hr; cases hr
      · rw [e] at hr
        have h1 := h _ _ _ _ _ _ e
        simp only at hr
        split at hr
        · cases hr
        · cases hr; exact h1
theorem memP_cts {L : List Tok} {ex : Nat → Nat → Nat → PR} (h : Cts ex) : Cts (memP L ex) := by
  intro p o n x q m hr
  unfold memP at hr
  rcases e : withinP L ex [91] [93] (p + 1) o n with e1 | ⟨y, r, i⟩
  · rw [e] at hr; cases hr
  · rw [e] at hr
    have h1 := withinP_cts h _ _ _ _ _ _ _ _ e
    obtain ⟨h3, h4⟩ := mk'_cnt hr
    simp only [pcnts] at h4; omega
theorem pairP_cts {L : List Tok} {ex : Nat → Nat → Nat → PR} (h : Cts ex) (op : Int) : Cts (pairP L ex op) := by
  intro p o n x q m hr
  unfold pairP at hr
  split at hr
  · cases hr
  · split at hr
    · cases hr
    · rcases e : ex (p + 2) (o + 1) n with e1 | ⟨y, r, i⟩
      · rw [e] at hr; cases hr
      · rw [e] at hr
        have h1 := h _ _ _ _ _ _ e
        simp only at hr
        split at hr
        · cases hr
        · rcases e2 : ex (r + 1) (o + 1) i with e1 | ⟨z, r2, i2⟩
          · rw [e2] at hr; cases hr
          · rw [e2] at hr
            have h3 := h _ _ _ _ _ _ e2
            simp only at hr
            split at hr
            · cases hr
            · obtain ⟨h5, h6⟩ := mk'_cnt hr
              simp only [pcnts] at h6; omega
theorem signedP_cts {L : List Tok} {on : Nat → Nat → Nat → PR} (h : Cts on) (op : Int) : Cts (signedP L on op) := by
  intro p o n x q m hr
  unfold signedP at hr
  split at hr
  · cases hr
  · rcases e : on (p + 1) (o + 1) n with e1 | ⟨y, r, i⟩
    · rw [e] at hr; cases hr
    · rw [e] at hr
      have h1 := h _ _ _ _ _ _ e
      obtain ⟨h3, h4⟩ := mk'_cnt hr
      simp only [pcnts] at h4; omega
theorem oneP_cts {L : List Tok} {ex on : Nat → Nat → Nat → PR} (h : Cts ex) (h' : Cts on) : Cts (oneP L ex on) := by
  intro p o n x q m hr
  unfold oneP at hr
  split at hr
  · obtain ⟨h3, h4⟩ := mk'_cnt hr; simp only [pcnts] at h4; omega
  split at hr
  · obtain ⟨h3, h4⟩ := mk'_cnt hr; simp only [pcnts] at h4; omega
  split at hr
  · exact withinP_cts h _ _ _ _ _ _ _ _ hr
  split at hr
  · exact memP_cts h _ _ _ _ _ _ hr
  split at hr
  · exact pairP_cts h _ _ _ _ _ _ _ hr
  split at hr
  · exact pairP_cts h _ _ _ _ _ _ _ hr
  split at hr
  · exact signedP_cts h' _ _ _ _ _ _ _ hr
  split at hr
  · exact signedP_cts h' _ _ _ _ _ _ _ hr
  split at hr
  · exact signedP_cts h' _ _ _ _ _ _ _ hr
  · cases hr
theorem exprF_cts (L : List Tok) : ∀ f, Cts (exprF L f none) ∧ (∀ least, Cts (exprF L f (some (least, none)))) ∧ (∀ least y p o n x q m, exprF L f (some (least, some y)) p o n = .ok (x, q, m) → n ≤ m ∧ m + pcnt y = n + pcnt x) := by
  intro f
  induction f with
  | zero => exact ⟨fun _ _ _ _ _ _ h => (by cases h), fun _ _ _ _ _ _ _ h => (by cases h), fun _ _ _ _ _ _ _ _ h => (by cases h)⟩
  | succ f ih =>
    obtain ⟨i0, i1, i2⟩ := ih
    refine ⟨oneP_cts (i1 1) i0, fun least => ?_, fun least y => ?_⟩
    · intro p o n x q m h
      unfold exprF at h
      rcases e : exprF L f none p o n with e1 | ⟨z, r, i⟩
      · rw [e] at h; cases h
      · rw [e] at h; simp only at h
        have h1 := i0 _ _ _ _ _ _ e
        obtain ⟨h2, h3⟩ := i2 _ _ _ _ _ _ _ _ h
        omega
    · intro p o n x q m h
      unfold exprF at h
      split at h
      · cases h; exact ⟨Nat.le_refl _, rfl⟩
      · rcases e : exprF L f (some ((rankOf (tk L p).text).1 + 1, none)) (p + 1) o n with e1 | ⟨z, r, i⟩
        · rw [e] at h; cases h
        · rw [e] at h; simp only at h
          have h1 := i1 _ _ _ _ _ _ _ e
          rcases e2 : mkE (tk L p) 5 0 ⟨#[]⟩ (rankOf (tk L p).text).2 [y, z] i with e1 | ⟨u, j⟩
          · rw [e2] at h; cases h
          · rw [e2] at h; simp only at h
            obtain ⟨h2, h3⟩ := mkE_cnt e2
            simp only [pcnts] at h3
            obtain ⟨h4, h5⟩ := i2 _ _ _ _ _ _ _ _ h
            omega

/-- tokens of L, d places on in M, up to the place K -/
def Mv (L M : List Tok) (K d : Nat) : Prop := ∀ i, i < K → (tk M (d + i)).kind = (tk L i).kind ∧ (tk M (d + i)).text = (tk L i).text ∧ (tk M (d + i)).num = (tk L i).num
def Mo (c d : Nat) (x : PE) (q m : Nat) (r : PR) : Prop := (m + c ≤ 600 ∧ r = .ok (x, d + q, m + c)) ∨ (600 < m + c ∧ ∃ e, r = .error (e, 42))
def MvE (K d c : Nat) (r r' : Nat → Nat → Nat → PR) : Prop := ∀ p o n x q m, r p o n = .ok (x, q, m) → q < K → n + c ≤ 600 → Mo c d x q m (r' (d + p) o (n + c))

theorem mkE_mv {t t' : Tok} {k m : Int} {s : ByteArray} {op : Int} {l : List PE} {n : Nat} {x : PE} {i : Nat} (c : Nat) (h : mkE t k m s op l n = .ok (x, i)) :
    (i + c ≤ 600 ∧ mkE t' k m s op l (n + c) = .ok (x, i + c)) ∨ (600 < i + c ∧ ∃ e, mkE t' k m s op l (n + c) = .error (e, 42)) := by
  unfold mkE at h ⊢
  split at h
  · cases h
  · split at h
    · cases h
    · rename_i h1 h2
      cases h
      rw [if_neg h1]
      by_cases hc : 600 < n + c + 1
      · right; exact ⟨by omega, t'.pos, by rw [if_pos hc]⟩
      · left; refine ⟨by omega, ?_⟩
        rw [if_neg hc]
        have : n + 1 + c = n + c + 1 := by omega
        rw [this]
theorem mk'_mv {p : Nat} {t t' : Tok} {k m : Int} {s : ByteArray} {op : Int} {l : List PE} {n : Nat} {x : PE} {q i : Nat} (c d : Nat) (h : mk' p (mkE t k m s op l n) = .ok (x, q, i)) : Mo c d x q i (mk' (d + p) (mkE t' k m s op l (n + c))) := by
  rcases e : mkE t k m s op l n with e1 | ⟨y, j⟩
  · rw [e] at h; cases h
  · rw [e] at h; cases h
    rcases mkE_mv (t' := t') c e with ⟨h1, h2⟩ | ⟨h1, e', h2⟩
    · left; exact ⟨h1, by rw [h2]; rfl⟩
    · right; exact ⟨h1, e', by rw [h2]; rfl⟩
theorem withinP_mv {L M : List Tok} {K d c : Nat} (H : Mv L M K d) {ex ex' : Nat → Nat → Nat → PR} (hf : Fwd 1 ex) (hx : MvE K d c ex ex') (a b : List UInt8) :
    ∀ p o n x q m, withinP L ex a b p o n = .ok (x, q, m) → q ≤ K → n + c ≤ 600 → Mo c d x q m (withinP M ex' a b (d + p) o (n + c)) := by
  intro p o n x q m hr hq hn
  unfold withinP at hr ⊢
  split at hr
  · cases hr
  · rename_i g1
    split at hr
    · cases hr
    · rename_i g2
      rcases e : ex (p + 1) (o + 1) n with e1 | ⟨y, r, i⟩
      · rw [e] at hr; cases hr
      · rw [e] at hr
        simp only at hr
        split at hr
        · cases hr
        · rename_i g3
          cases hr
          obtain ⟨f1, f2⟩ := hf _ _ _ _ _ _ e
          have k1 := (H p (by omega)).2.1
          have k2 := (H r (by omega)).2.1
          rw [if_neg (by rw [k1]; exact g1), if_neg g2]
          rcases hx _ _ _ _ _ _ e (by omega) hn with ⟨h1, h2⟩ | ⟨h1, e', h2⟩
          · left; refine ⟨h1, ?_⟩
            rw [show d + p + 1 = d + (p + 1) from rfl, h2]
            simp only
            rw [if_neg (by rw [k2]; exact g3)]
            rfl
          · right; refine ⟨h1, e', ?_⟩
            rw [show d + p + 1 = d + (p + 1) from rfl, h2]
theorem memP_mv {L M : List Tok} {K d c : Nat} (H : Mv L M K d) {ex ex' : Nat → Nat → Nat → PR} (hf : Fwd 1 ex) (hc : Cts ex) (hx : MvE K d c ex ex') : MvE K d c (memP L ex) (memP M ex') := by
  intro p o n x q m hr hq hn
  unfold memP at hr ⊢
  rcases e : withinP L ex [91] [93] (p + 1) o n with e1 | ⟨y, r, i⟩
  · rw [e] at hr; cases hr
  · rw [e] at hr
    simp only at hr
    obtain ⟨h3, h4, h5⟩ := mk'_ok hr
    rw [show d + p + 1 = d + (p + 1) from rfl]
    rcases withinP_mv H hf hx _ _ _ _ _ _ _ _ e (by omega) hn with ⟨h1, h2⟩ | ⟨h1, e', h2⟩
    · rw [h2]; exact mk'_mv c d hr
    · rw [h2]; right; exact ⟨by omega, e', rfl⟩
theorem pairP_mv {L M : List Tok} {K d c : Nat} (H : Mv L M K d) {ex ex' : Nat → Nat → Nat → PR} (hf : Fwd 1 ex) (hc : Cts ex) (hx : MvE K d c ex ex') (op : Int) : MvE K d c (pairP L ex op) (pairP M ex' op) := by
  intro p o n x q m hr hq hn
  unfold pairP at hr ⊢
  split at hr
  · cases hr
  · rename_i g1
    split at hr
    · cases hr
    · rename_i g2
      rcases e : ex (p + 2) (o + 1) n with e1 | ⟨y, r, i⟩
      · rw [e] at hr; cases hr
      · rw [e] at hr
        simp only at hr
        split at hr
        · cases hr
        · rename_i g3
          rcases e2 : ex (r + 1) (o + 1) i with e1 | ⟨z, r2, i2⟩
          · rw [e2] at hr; cases hr
          · rw [e2] at hr
            simp only at hr
            split at hr
            · cases hr
            · rename_i g4
              obtain ⟨h5, h6, h7⟩ := mk'_ok hr
              obtain ⟨f1, f2⟩ := hf _ _ _ _ _ _ e
              obtain ⟨f3, f4⟩ := hf _ _ _ _ _ _ e2
              have c1 := hc _ _ _ _ _ _ e
              have c2 := hc _ _ _ _ _ _ e2
              have k1 := (H (p + 1) (by omega)).2.1
              have k2 := (H r (by omega)).2.1
              have k3 := (H r2 (by omega)).2.1
              rw [show d + p + 1 = d + (p + 1) from rfl, if_neg (by rw [k1]; exact g1), if_neg g2, show d + p + 2 = d + (p + 2) from rfl]
              rcases hx _ _ _ _ _ _ e (by omega) hn with ⟨h1, h2⟩ | ⟨h1, e', h2⟩
              · rw [h2]; simp only
                rw [if_neg (by rw [k2]; exact g3), show d + r + 1 = d + (r + 1) from rfl]
                rcases hx _ _ _ _ _ _ e2 (by omega) h1 with ⟨h3, h4⟩ | ⟨h3, e', h4⟩
                · rw [h4]; simp only
                  rw [if_neg (by rw [k3]; exact g4)]
                  exact mk'_mv c d hr
                · rw [h4]; right; exact ⟨by omega, e', rfl⟩
              · rw [h2]; right; exact ⟨by omega, e', rfl⟩
theorem signedP_mv {L M : List Tok} {K d c : Nat} {on on' : Nat → Nat → Nat → PR} (hx : MvE K d c on on') (op : Int) : MvE K d c (signedP L on op) (signedP M on' op) := by
  intro p o n x q m hr hq hn
  unfold signedP at hr ⊢
  split at hr
  · cases hr
  · rename_i g2
    rcases e : on (p + 1) (o + 1) n with e1 | ⟨y, r, i⟩
    · rw [e] at hr; cases hr
    · rw [e] at hr
      simp only at hr
      obtain ⟨h5, h6, h7⟩ := mk'_ok hr
      rw [if_neg g2, show d + p + 1 = d + (p + 1) from rfl]
      rcases hx _ _ _ _ _ _ e (by omega) hn with ⟨h1, h2⟩ | ⟨h1, e', h2⟩
      · rw [h2]; exact mk'_mv c d hr
      · rw [h2]; right; exact ⟨by omega, e', rfl⟩
theorem oneP_mv {L M : List Tok} {K d c : Nat} (H : Mv L M K d) {ex ex' on on' : Nat → Nat → Nat → PR} (hf : Fwd 1 ex) (hf' : Fwd 1 on) (hc : Cts ex) (hx : MvE K d c ex ex') (hx' : MvE K d c on on') : MvE K d c (oneP L ex on) (oneP M ex' on') := by
  intro p o n x q m hr hq hn
  have hp := (oneP_fwd hf hf' _ _ _ _ _ _ hr).1
  obtain ⟨k1, k2, k3⟩ := H p (by omega)
  unfold oneP at hr ⊢
  rw [k1, k2, k3]
  split at hr
  · rename_i g; rw [if_pos g, show d + p + 1 = d + (p + 1) from rfl]; exact mk'_mv c d hr
  rename_i g; rw [if_neg g]
  split at hr
  · rename_i g; rw [if_pos g, show d + p + 1 = d + (p + 1) from rfl]; exact mk'_mv c d hr
  rename_i g; rw [if_neg g]
  split at hr
  · rename_i g; rw [if_pos g]; exact withinP_mv H hf hx _ _ _ _ _ _ _ _ hr (by omega) hn
  rename_i g; rw [if_neg g]
  split at hr
  · rename_i g; rw [if_pos g]; exact memP_mv H hf hc hx _ _ _ _ _ _ hr hq hn
  rename_i g; rw [if_neg g]
  split at hr
  · rename_i g; rw [if_pos g]; exact pairP_mv H hf hc hx _ _ _ _ _ _ _ hr hq hn
  rename_i g; rw [if_neg g]
  split at hr
  · rename_i g; rw [if_pos g]; exact pairP_mv H hf hc hx _ _ _ _ _ _ _ hr hq hn
  rename_i g; rw [if_neg g]
  split at hr
  · rename_i g; rw [if_pos g]; exact signedP_mv hx' _ _ _ _ _ _ _ hr hq hn
  rename_i g; rw [if_neg g]
  split at hr
  · rename_i g; rw [if_pos g]; exact signedP_mv hx' _ _ _ _ _ _ _ hr hq hn
  rename_i g; rw [if_neg g]
  split at hr
  · rename_i g; rw [if_pos g]; exact signedP_mv hx' _ _ _ _ _ _ _ hr hq hn
  · cases hr
theorem exprF_mv {L M : List Tok} {K d c : Nat} (H : Mv L M K d) : ∀ f f', f ≤ f' → ∀ md, MvE K d c (exprF L f md) (exprF M f' md) := by
  intro f
  induction f with
  | zero => intro f' _ md p o n x q m h; cases h
  | succ f ih =>
    intro f' hf md
    cases f' with
    | zero => omega
    | succ f' =>
      have ih' := ih f' (by omega)
      have F := exprF_fwd L f
      have C := exprF_cts L f
      rcases md with _ | ⟨least, _ | y⟩
      · exact oneP_mv H (F.2.1 1) F.1 (C.2.1 1) (ih' _) (ih' _)
      · intro p o n x q m h hq hn
        unfold exprF at h ⊢
        rcases e : exprF L f none p o n with e1 | ⟨z, r, i⟩
        · rw [e] at h; cases h
        · rw [e] at h; simp only at h
          have f1 := (F.2.2 _ _ _ _ _ _ _ _ h).1
          have c1 := (C.2.2 _ _ _ _ _ _ _ _ h).1
          rcases ih' none _ _ _ _ _ _ e (by omega) hn with ⟨h1, h2⟩ | ⟨h1, e', h2⟩
          · rw [h2]; exact ih' _ _ _ _ _ _ _ h hq h1
          · rw [h2]; right; exact ⟨by omega, e', rfl⟩
      · intro p o n x q m h hq hn
        have f0 := ((exprF_fwd L (f + 1)).2.2 _ _ _ _ _ _ _ _ h).1
        have k2 := (H p (by omega)).2.1
        unfold exprF at h ⊢
        rw [k2]
        split at h
        · rename_i g
          cases h
          rw [if_pos g]; left; exact ⟨hn, rfl⟩
        · rename_i g
          rw [if_neg g]
          rcases e : exprF L f (some ((rankOf (tk L p).text).1 + 1, none)) (p + 1) o n with e1 | ⟨z, r, i⟩
          · rw [e] at h; cases h
          · rw [e] at h; simp only at h
            rcases e2 : mkE (tk L p) 5 0 ⟨#[]⟩ (rankOf (tk L p).text).2 [y, z] i with e1 | ⟨u, j⟩
            · rw [e2] at h; cases h
            · rw [e2] at h; simp only at h
              have f1 := (F.2.2 _ _ _ _ _ _ _ _ h).1
              have c1 := (C.2.2 _ _ _ _ _ _ _ _ h).1
              have c2 := (mkE_cnt e2).1
              rw [show d + p + 1 = d + (p + 1) from rfl]
              rcases ih' _ _ _ _ _ _ _ e (by omega) hn with ⟨h1, h2⟩ | ⟨h1, e', h2⟩
              · rw [h2]; simp only
                rcases mkE_mv (t' := tk M (d + p)) c e2 with ⟨h3, h4⟩ | ⟨h3, e', h4⟩
                · rw [h4]; simp only; exact ih' _ _ _ _ _ _ _ h hq h3
                · rw [h4]; right; exact ⟨by omega, e', rfl⟩
              · rw [h2]; right; exact ⟨by omega, e', rfl⟩
end Go.Proofs.YtnofibjchhcmeabDoor
namespace Go.Proofs.YtnofibjchhcmeabDoor
open Go.RowKit
set_option linter.unusedVariables false

/-- how many nodes a statement is -/
def tcnt (x : PT) : Nat := ecnt x.args + scnt x.body + scnt x.els + 1
def tcnts : List PT → Nat
  | [] => 0
  | x :: l => tcnt x + tcnts l
theorem scnt_row (l : List PT) : scnt (srow l) = tcnts l := by
  induction l with
  | nil => rfl
  | cons x l ih => show scnt (SL.cons _ _ _ _ _ _ _) = _; rw [scnt_inner]; simp only [slft, srgt, tcnts, tcnt, ih]; omega
theorem tcnts_app (l m : List PT) : tcnts (l ++ m) = tcnts l + tcnts m := by
  induction l with
  | nil => simp [tcnts]
  | cons x l ih => simp only [List.cons_append, tcnts, ih]; omega
theorem mkS_cnt {t : Tok} {x : PT} {q n : Nat} {l : List PT} {r m : Nat} (h : mkS t x q n = .ok (l, r, m)) : l = [x] ∧ r = q ∧ m = n + 1 := by
  obtain ⟨h1, h2, h3, h4⟩ := mkS_ok h; exact ⟨h1, h2, h3⟩
def CtsT (r : Nat → Nat → Nat → TR) : Prop := ∀ b p n l q m, r b p n = .ok (l, q, m) → m = n + tcnts l
theorem ex1_cts (L : List Tok) : Cts (ex1 L) := (exprF_cts L _).2.1 1
theorem withinT_cts {L : List Tok} {a b : List UInt8} {p n : Nat} {x : PE} {q m : Nat} (h : withinT L a b p n = .ok (x, q, m)) : m = n + pcnt x := withinP_cts (ex1_cts L) _ _ _ _ _ _ _ _ h
theorem lastP_cts {L : List Tok} {p n : Nat} {x : PE} {q m : Nat} (h : lastP L p n = .ok (x, q, m)) : m = n + pcnt x := by
  unfold lastP at h
  rcases e : ex1 L p 0 n with e1 | ⟨y, r, i⟩
  · rw [e] at h; cases h
  · rw [e] at h; simp only at h
    have h1 := ex1_cts L _ _ _ _ _ _ e
    split at h
    · cases h
    · cases h; exact h1
theorem valueP_cts {L : List Tok} {p n : Nat} {x : PE} {q m : Nat} (h : valueP L p n = .ok (x, q, m)) : m = n + pcnt x := by
  unfold valueP at h
  split at h
  · cases h
  · exact lastP_cts h
theorem ofPart_cts {t : Tok} {k : Int} {s : ByteArray} {c : Int} {r : PR} {l : List PT} {q m : Nat} (h : ofPart t k s c r = .ok (l, q, m)) : ∃ x i, r = .ok (x, q, i) ∧ m = i + 1 ∧ tcnts l = pcnt x + 1 := by
  unfold ofPart at h
  rcases r with e | ⟨x, r, i⟩
  · cases h
  · simp only at h
    obtain ⟨h1, h2, h3⟩ := mkS_cnt h
    subst h1 h2 h3
    exact ⟨x, i, rfl, rfl, by simp [tcnts, tcnt, ecnt_row, pcnts, scnt]⟩
theorem blockP_cts {L : List Tok} {row : Nat → Nat → Nat → TR} (hr : CtsT row) : CtsT (blockP L row) := by
  intro b p n x q m h
  unfold blockP at h
  split at h
  · cases h
  · split at h
    · cases h
    · rcases e : row (b + 1) (p + 1) n with e1 | ⟨y, r, i⟩
      · rw [e] at h; cases h
      · rw [e] at h; simp only at h
        have h1 := hr _ _ _ _ _ _ e
        cases h; exact h1
theorem otherP_cts {L : List Tok} {row ch : Nat → Nat → Nat → TR} (hr : CtsT row) (hc : CtsT ch) : CtsT (otherP L row ch) := by
  intro b p n x q m h
  unfold otherP at h
  split at h
  · exact blockP_cts hr _ _ _ _ _ _ h
  · split at h
    · cases h
    · exact hc _ _ _ _ _ _ h
theorem chooseP_cts {L : List Tok} {row ch : Nat → Nat → Nat → TR} (hr : CtsT row) (hc : CtsT ch) : CtsT (chooseP L row ch) := by
  intro b p n x q m h
  unfold chooseP at h
  rcases e : withinT L [40] [41] (p + 1) n with e1 | ⟨y, r, i⟩
  · rw [e] at h; cases h
  · rw [e] at h; simp only at h
    have h1 := withinT_cts e
    rcases e2 : blockP L row b r i with e1 | ⟨z, r2, i2⟩
    · rw [e2] at h; cases h
    · rw [e2] at h; simp only at h
      have h3 := blockP_cts hr _ _ _ _ _ _ e2
      split at h
      · rcases e3 : otherP L row ch b (r2 + 1) i2 with e1 | ⟨u, r3, i3⟩
        · rw [e3] at h; cases h
        · rw [e3] at h; simp only at h
          have h5 := otherP_cts hr hc _ _ _ _ _ _ e3
          obtain ⟨g1, g2, g3⟩ := mkS_cnt h
          subst g1
          simp only [tcnts, tcnt, ecnt_row, pcnts, scnt_row]; omega
      · obtain ⟨g1, g2, g3⟩ := mkS_cnt h
        subst g1
        simp only [tcnts, tcnt, ecnt_row, pcnts, scnt_row, scnt]; omega
theorem repeatP_cts {L : List Tok} {row : Nat → Nat → Nat → TR} (hr : CtsT row) : CtsT (repeatP L row) := by
  intro b p n x q m h
  unfold repeatP at h
  rcases e : withinT L [40] [41] (p + 1) n with e1 | ⟨y, r, i⟩
  · rw [e] at h; cases h
  · rw [e] at h; simp only at h
    have h1 := withinT_cts e
    rcases e2 : blockP L row b r i with e1 | ⟨z, r2, i2⟩
    · rw [e2] at h; cases h
    · rw [e2] at h; simp only at h
      have h3 := blockP_cts hr _ _ _ _ _ _ e2
      obtain ⟨g1, g2, g3⟩ := mkS_cnt h
      subst g1
      simp only [tcnts, tcnt, ecnt_row, pcnts, scnt_row, scnt]; omega
theorem stmtP_cts {L : List Tok} {row ch : Nat → Nat → Nat → TR} (hr : CtsT row) (hc : CtsT ch) : CtsT (stmtP L row ch) := by
  intro b p n x q m h
  unfold stmtP at h
  split at h
  · obtain ⟨y, i, h1, h2, h3⟩ := ofPart_cts h
    have := valueP_cts h1; omega
  split at h
  · unfold declareP at h
    split at h
    · cases h
    · obtain ⟨y, i, h1, h2, h3⟩ := ofPart_cts h
      have := valueP_cts h1; omega
  split at h
  · unfold storeP at h
    rcases e : withinT L [91] [93] (p + 1) n with e1 | ⟨y, r, i⟩
    · rw [e] at h; cases h
    · rw [e] at h; simp only at h
      have h1 := withinT_cts e
      rcases e2 : valueP L r i with e1 | ⟨z, r2, i2⟩
      · rw [e2] at h; cases h
      · rw [e2] at h; simp only at h
        have h3 := valueP_cts e2
        obtain ⟨g1, g2, g3⟩ := mkS_cnt h
        subst g1
        simp only [tcnts, tcnt, ecnt_row, pcnts, scnt]; omega
  split at h
  · obtain ⟨y, i, h1, h2, h3⟩ := ofPart_cts h
    have := lastP_cts h1; omega
  split at h
  · obtain ⟨y, i, h1, h2, h3⟩ := ofPart_cts h
    have := lastP_cts h1; omega
  split at h
  · unfold intoP at h
    split at h
    · cases h
    split at h
    · cases h
    · obtain ⟨y, i, h1, h2, h3⟩ := ofPart_cts h
      have := lastP_cts h1; omega
  split at h
  · unfold stopP at h
    split at h
    · cases h
    · obtain ⟨g1, g2, g3⟩ := mkS_cnt h
      subst g1
      simp only [tcnts, tcnt, ecnt, scnt]; omega
  split at h
  · exact chooseP_cts hr hc _ _ _ _ _ _ h
  split at h
  · exact repeatP_cts hr _ _ _ _ _ _ h
  · cases h
theorem stmtF_cts (L : List Tok) : ∀ f, CtsT (stmtF L f 0) ∧ CtsT (stmtF L f 1) ∧ CtsT (stmtF L f 2) := by
  intro f
  induction f with
  | zero => exact ⟨fun _ _ _ _ _ _ h => (by cases h), fun _ _ _ _ _ _ h => (by cases h), fun _ _ _ _ _ _ h => (by cases h)⟩
  | succ f ih =>
    obtain ⟨i0, i1, i2⟩ := ih
    refine ⟨stmtP_cts i1 i2, ?_, chooseP_cts i1 i2⟩
    intro b p n x q m h
    rw [stmtF_row] at h
    split at h
    · cases h; simp [tcnts]
    · rcases e : stmtF L f 0 b p n with e1 | ⟨y, r, i⟩
      · rw [e] at h; cases h
      · rw [e] at h; simp only at h
        have h1 := i0 _ _ _ _ _ _ e
        rcases e2 : stmtF L f 1 b r i with e1 | ⟨z, r2, i2⟩
        · rw [e2] at h; cases h
        · rw [e2] at h; simp only at h
          have h3 := i1 _ _ _ _ _ _ e2
          cases h
          rw [tcnts_app]; omega
theorem textF_cts (L : List Tok) : ∀ f p n l q m, textF L f p n = .ok (l, q, m) → m = n + tcnts l := by
  intro f
  induction f with
  | zero => intro p n l q m h; cases h
  | succ f ih =>
    intro p n l q m h
    unfold textF at h
    split at h
    · cases h; simp [tcnts]
    · rcases e : stmtT L 0 p n with e1 | ⟨y, r, i⟩
      · rw [e] at h; cases h
      · rw [e] at h; simp only at h
        have h1 := (stmtF_cts L _).1 _ _ _ _ _ _ e
        rcases e2 : textF L f r i with e1 | ⟨z, r2, i2⟩
        · rw [e2] at h; cases h
        · rw [e2] at h; simp only at h
          have h3 := ih _ _ _ _ _ e2
          cases h
          rw [tcnts_app]; omega

def MoT (c d : Nat) (l : List PT) (q m : Nat) (r : TR) : Prop := (m + c ≤ 600 ∧ r = .ok (l, d + q, m + c)) ∨ (600 < m + c ∧ ∃ e, r = .error (e, 42))
def MvT (K d c : Nat) (r r' : Nat → Nat → Nat → TR) : Prop := ∀ b p n l q m, r b p n = .ok (l, q, m) → q ≤ K → n + c ≤ 600 → MoT c d l q m (r' b (d + p) (n + c))
def MvR (K d c : Nat) (r r' : Nat → Nat → Nat → TR) : Prop := ∀ b p n l q m, r b p n = .ok (l, q, m) → q < K → n + c ≤ 600 → MoT c d l q m (r' b (d + p) (n + c))
theorem ex1_mv {L M : List Tok} {K d c : Nat} (H : Mv L M K d) (hl : L.length ≤ M.length) : MvE K d c (ex1 L) (ex1 M) := exprF_mv H _ _ (by omega) _
theorem withinT_mv {L M : List Tok} {K d c : Nat} (H : Mv L M K d) (hl : L.length ≤ M.length) {a b : List UInt8} {p n : Nat} {x : PE} {q m : Nat} (h : withinT L a b p n = .ok (x, q, m)) (hq : q ≤ K) (hn : n + c ≤ 600) : Mo c d x q m (withinT M a b (d + p) (n + c)) :=
  withinP_mv H (ex1_fwd L) (ex1_mv H hl) a b p 0 n x q m h hq hn
theorem lastP_mv {L M : List Tok} {K d c : Nat} (H : Mv L M K d) (hl : L.length ≤ M.length) {p n : Nat} {x : PE} {q m : Nat} (h : lastP L p n = .ok (x, q, m)) (hq : q ≤ K) (hn : n + c ≤ 600) : Mo c d x q m (lastP M (d + p) (n + c)) := by
  unfold lastP at h ⊢
  rcases e : ex1 L p 0 n with e1 | ⟨y, r, i⟩
  · rw [e] at h; cases h
  · rw [e] at h; simp only at h
    split at h
    · cases h
    · rename_i g
      cases h
      have k := (H r (by omega)).2.1
      rcases ex1_mv (c := c) H hl _ _ _ _ _ _ e (by omega) hn with ⟨h1, h2⟩ | ⟨h1, e', h2⟩
      · rw [h2]; simp only
        rw [if_neg (by rw [k]; exact g)]
        left; exact ⟨h1, rfl⟩
      · rw [h2]; right; exact ⟨h1, e', rfl⟩
theorem valueP_mv {L M : List Tok} {K d c : Nat} (H : Mv L M K d) (hl : L.length ≤ M.length) {p n : Nat} {x : PE} {q m : Nat} (h : valueP L p n = .ok (x, q, m)) (hq : q ≤ K) (hn : n + c ≤ 600) : Mo c d x q m (valueP M (d + p) (n + c)) := by
  have hf := (valueP_fwd h).1
  unfold valueP at h ⊢
  split at h
  · cases h
  · rename_i g
    have k := (H p (by omega)).2.1
    rw [if_neg (by rw [k]; exact g)]
    exact lastP_mv H hl h hq hn
theorem mkS_mv {t t' : Tok} {x : PT} {q n : Nat} {l : List PT} {r m : Nat} (c d : Nat) (h : mkS t x q n = .ok (l, r, m)) : MoT c d l r m (mkS t' x (d + q) (n + c)) := by
  unfold mkS at h ⊢
  split at h
  · cases h
  · cases h
    by_cases hc : 600 < n + c + 1
    · right; exact ⟨by omega, t'.pos, by rw [if_pos hc]⟩
    · left; refine ⟨by omega, ?_⟩
      rw [if_neg hc]
      have : n + 1 + c = n + c + 1 := by omega
      rw [this]
theorem ofPart_mv {t t' : Tok} {k : Int} {s : ByteArray} {c0 : Int} {r r' : PR} {l : List PT} {q m : Nat} (c d : Nat) (h : ofPart t k s c0 r = .ok (l, q, m)) (hr : ∀ x i, r = .ok (x, q, i) → Mo c d x q i r') : MoT c d l q m (ofPart t' k s c0 r') := by
  unfold ofPart at h ⊢
  rcases r with e | ⟨x, r, i⟩
  · cases h
  · simp only at h
    obtain ⟨h1, h2, h3⟩ := mkS_cnt h
    subst h2
    rcases hr x i rfl with ⟨g1, g2⟩ | ⟨g1, e', g2⟩
    · rw [g2]; exact mkS_mv c d h
    · rw [g2]; right; exact ⟨by omega, e', rfl⟩
theorem blockP_mv {L M : List Tok} {K d c : Nat} (H : Mv L M K d) {row row' : Nat → Nat → Nat → TR} (hf : FwdT 0 row) (hr : MvR K d c row row') : MvT K d c (blockP L row) (blockP M row') := by
  intro b p n l q m h hq hn
  have hfw := (blockP_fwd hf _ _ _ _ _ _ h).1
  unfold blockP at h ⊢
  split at h
  · cases h
  · rename_i g1
    split at h
    · cases h
    · rename_i g2
      rcases e : row (b + 1) (p + 1) n with e1 | ⟨y, r, i⟩
      · rw [e] at h; cases h
      · rw [e] at h; simp only at h
        cases h
        have k := (H p (by omega)).2.1
        rw [if_neg (by rw [k]; exact g1), if_neg g2, show d + p + 1 = d + (p + 1) from rfl]
        rcases hr _ _ _ _ _ _ e (by omega) hn with ⟨h1, h2⟩ | ⟨h1, e', h2⟩
        · rw [h2]; left; exact ⟨h1, rfl⟩
        · rw [h2]; right; exact ⟨h1, e', rfl⟩
theorem otherP_mv {L M : List Tok} {K d c : Nat} (H : Mv L M K d) {row row' ch ch' : Nat → Nat → Nat → TR} (hf : FwdT 0 row) (hfc : FwdT 1 ch) (hr : MvR K d c row row') (hc : MvT K d c ch ch') : MvT K d c (otherP L row ch) (otherP M row' ch') := by
  intro b p n l q m h hq hn
  have hfw := (otherP_fwd hf hfc _ _ _ _ _ _ h).1
  have k := (H p (by omega)).2.1
  unfold otherP at h ⊢
  split at h
  · rename_i g1
    rw [if_pos (by rw [k]; exact g1)]
    exact blockP_mv H hf hr _ _ _ _ _ _ h hq hn
  · rename_i g1
    rw [if_neg (by rw [k]; exact g1)]
    split at h
    · cases h
    · rename_i g2
      rw [if_neg g2]
      exact hc _ _ _ _ _ _ h hq hn
/-- at the end of what was read the one tells an else just if the other does -/
def ElseAt (L M : List Tok) (K d : Nat) : Prop := (tk M (d + K)).text = [101, 108, 115, 101] ↔ (tk L K).text = [101, 108, 115, 101]
theorem ElseAt.at {L M : List Tok} {K d : Nat} (H : Mv L M K d) (hE : ElseAt L M K d) {r : Nat} (hr : r ≤ K) : (tk M (d + r)).text = [101, 108, 115, 101] ↔ (tk L r).text = [101, 108, 115, 101] := by
  rcases Nat.lt_or_ge r K with h | h
  · rw [(H r h).2.1]
  · obtain rfl : r = K := by omega
    exact hE
theorem chooseP_mv {L M : List Tok} {K d c : Nat} (H : Mv L M K d) (hl : L.length ≤ M.length) (hE : ElseAt L M K d) {row row' ch ch' : Nat → Nat → Nat → TR} (hf : FwdT 0 row) (hfc : FwdT 1 ch) (hcr : CtsT row) (hcc : CtsT ch) (hr : MvR K d c row row') (hc : MvT K d c ch ch') : MvT K d c (chooseP L row ch) (chooseP M row' ch') := by
  intro b p n l q m h hq hn
  have hct := chooseP_cts hcr hcc _ _ _ _ _ _ h
  unfold chooseP at h ⊢
  rcases e : withinT L [40] [41] (p + 1) n with e1 | ⟨y, r, i⟩
  · rw [e] at h; cases h
  · rw [e] at h; simp only at h
    rcases e2 : blockP L row b r i with e1 | ⟨z, r2, i2⟩
    · rw [e2] at h; cases h
    · rw [e2] at h; simp only at h
      have f1 := (blockP_fwd hf _ _ _ _ _ _ e2).1
      have c1 := withinT_cts e
      have c2 := blockP_cts hcr _ _ _ _ _ _ e2
      rw [show d + p + 1 = d + (p + 1) from rfl]
      split at h
      · rename_i g
        rcases e3 : otherP L row ch b (r2 + 1) i2 with e1 | ⟨u, r3, i3⟩
        · rw [e3] at h; cases h
        · rw [e3] at h; simp only at h
          have f2 := (otherP_fwd hf hfc _ _ _ _ _ _ e3).1
          have c3 := otherP_cts hcr hcc _ _ _ _ _ _ e3
          obtain ⟨g1, g2, g3⟩ := mkS_cnt h
          rcases withinT_mv (c := c) H hl e (by omega) hn with ⟨h1, h2⟩ | ⟨h1, e', h2⟩
          · rw [h2]; simp only
            rcases blockP_mv H hf hr _ _ _ _ _ _ e2 (by omega) h1 with ⟨h3, h4⟩ | ⟨h3, e', h4⟩
            · rw [h4]; simp only
              rw [if_pos ((hE.at H (by omega)).2 g), show d + r2 + 1 = d + (r2 + 1) from rfl]
              rcases otherP_mv H hf hfc hr hc _ _ _ _ _ _ e3 (by omega) h3 with ⟨h5, h6⟩ | ⟨h5, e', h6⟩
              · rw [h6]; exact mkS_mv c d h
              · rw [h6]; right; exact ⟨by omega, e', rfl⟩
            · rw [h4]; right; exact ⟨by omega, e', rfl⟩
          · rw [h2]; right; exact ⟨by omega, e', rfl⟩
      · rename_i g
        obtain ⟨g1, g2, g3⟩ := mkS_cnt h
        rcases withinT_mv (c := c) H hl e (by omega) hn with ⟨h1, h2⟩ | ⟨h1, e', h2⟩
        · rw [h2]; simp only
          rcases blockP_mv H hf hr _ _ _ _ _ _ e2 (by omega) h1 with ⟨h3, h4⟩ | ⟨h3, e', h4⟩
          · rw [h4]; simp only
            rw [if_neg (fun x => g ((hE.at H (by omega)).1 x))]
            exact mkS_mv c d h
          · rw [h4]; right; exact ⟨by omega, e', rfl⟩
        · rw [h2]; right; exact ⟨by omega, e', rfl⟩
theorem repeatP_mv {L M : List Tok} {K d c : Nat} (H : Mv L M K d) (hl : L.length ≤ M.length) {row row' : Nat → Nat → Nat → TR} (hf : FwdT 0 row) (hcr : CtsT row) (hr : MvR K d c row row') : MvT K d c (repeatP L row) (repeatP M row') := by
  intro b p n l q m h hq hn
  unfold repeatP at h ⊢
  rcases e : withinT L [40] [41] (p + 1) n with e1 | ⟨y, r, i⟩
  · rw [e] at h; cases h
  · rw [e] at h; simp only at h
    rcases e2 : blockP L row b r i with e1 | ⟨z, r2, i2⟩
    · rw [e2] at h; cases h
    · rw [e2] at h; simp only at h
      have f1 := (blockP_fwd hf _ _ _ _ _ _ e2).1
      have c2 := blockP_cts hcr _ _ _ _ _ _ e2
      obtain ⟨g1, g2, g3⟩ := mkS_cnt h
      rw [show d + p + 1 = d + (p + 1) from rfl]
      rcases withinT_mv (c := c) H hl e (by omega) hn with ⟨h1, h2⟩ | ⟨h1, e', h2⟩
      · rw [h2]; simp only
        rcases blockP_mv H hf hr _ _ _ _ _ _ e2 (by omega) h1 with ⟨h3, h4⟩ | ⟨h3, e', h4⟩
        · rw [h4]; exact mkS_mv c d h
        · rw [h4]; right; exact ⟨by omega, e', rfl⟩
      · rw [h2]; right; exact ⟨by omega, e', rfl⟩
theorem stmtP_mv {L M : List Tok} {K d c : Nat} (H : Mv L M K d) (hl : L.length ≤ M.length) (hE : ElseAt L M K d) {row row' ch ch' : Nat → Nat → Nat → TR} (hf : FwdT 0 row) (hfc : FwdT 1 ch) (hcr : CtsT row) (hcc : CtsT ch) (hr : MvR K d c row row') (hc : MvT K d c ch ch') : MvT K d c (stmtP L row ch) (stmtP M row' ch') := by
  intro b p n l q m h hq hn
  have hfw := (stmtP_fwd hf hfc _ _ _ _ _ _ h).1
  obtain ⟨k1, k2, k3⟩ := H p (by omega)
  unfold stmtP at h ⊢
  rw [k1, k2]
  split at h
  · rename_i g; rw [if_pos g]
    unfold setP at h ⊢
    rw [k2, show d + p + 1 = d + (p + 1) from rfl]
    exact ofPart_mv c d h (fun x i e => valueP_mv H hl e hq hn)
  rename_i g; rw [if_neg g]
  split at h
  · rename_i g; rw [if_pos g]
    unfold declareP at h ⊢
    split at h
    · cases h
    · rename_i g2
      obtain ⟨x, i, hx, _⟩ := ofPart_cts h
      have f := (valueP_fwd hx).1
      obtain ⟨j1, j2, j3⟩ := H (p + 1) (by omega)
      rw [show d + p + 1 = d + (p + 1) from rfl, if_neg (by rw [j1]; exact g2), j2, show d + p + 2 = d + (p + 2) from rfl]
      exact ofPart_mv c d h (fun x i e => valueP_mv H hl e hq hn)
  rename_i g; rw [if_neg g]
  split at h
  · rename_i g; rw [if_pos g]
    unfold storeP at h ⊢
    rcases e : withinT L [91] [93] (p + 1) n with e1 | ⟨y, r, i⟩
    · rw [e] at h; cases h
    · rw [e] at h; simp only at h
      rcases e2 : valueP L r i with e1 | ⟨z, r2, i2⟩
      · rw [e2] at h; cases h
      · rw [e2] at h; simp only at h
        obtain ⟨g1, g2, g3⟩ := mkS_cnt h
        have f1 := (valueP_fwd e2).1
        have c2 := valueP_cts e2
        rw [show d + p + 1 = d + (p + 1) from rfl]
        rcases withinT_mv (c := c) H hl e (by omega) hn with ⟨h1, h2⟩ | ⟨h1, e', h2⟩
        · rw [h2]; simp only
          rcases valueP_mv (c := c) H hl e2 (by omega) h1 with ⟨h3, h4⟩ | ⟨h3, e', h4⟩
          · rw [h4]; exact mkS_mv c d h
          · rw [h4]; right; exact ⟨by omega, e', rfl⟩
        · rw [h2]; right; exact ⟨by omega, e', rfl⟩
  rename_i g; rw [if_neg g]
  split at h
  · rename_i g; rw [if_pos g]
    unfold tellP at h ⊢
    rw [show d + p + 1 = d + (p + 1) from rfl]
    exact ofPart_mv c d h (fun x i e => lastP_mv H hl e hq hn)
  rename_i g; rw [if_neg g]
  split at h
  · rename_i g; rw [if_pos g]
    unfold tellP at h ⊢
    rw [show d + p + 1 = d + (p + 1) from rfl]
    exact ofPart_mv c d h (fun x i e => lastP_mv H hl e hq hn)
  rename_i g; rw [if_neg g]
  split at h
  · rename_i g; rw [if_pos g]
    unfold intoP at h ⊢
    split at h
    · cases h
    split at h
    · cases h
    · rename_i g2 g3
      obtain ⟨x, i, hx, _⟩ := ofPart_cts h
      have f := (lastP_fwd hx).1
      obtain ⟨j1, j2, j3⟩ := H (p + 1) (by omega)
      rw [show d + p + 1 = d + (p + 1) from rfl, if_neg (by rw [j3]; exact g2), if_neg (by rw [j1]; exact g3), j3, show d + p + 2 = d + (p + 2) from rfl]
      exact ofPart_mv c d h (fun x i e => lastP_mv H hl e hq hn)
  rename_i g; rw [if_neg g]
  split at h
  · rename_i g; rw [if_pos g]
    unfold stopP at h ⊢
    split at h
    · cases h
    · rename_i g2
      obtain ⟨g1, g3, g4⟩ := mkS_cnt h
      obtain ⟨j1, j2, j3⟩ := H (p + 1) (by omega)
      rw [show d + p + 1 = d + (p + 1) from rfl, if_neg (by rw [j2]; exact g2), show d + p + 2 = d + (p + 2) from rfl]
      exact mkS_mv c d h
  rename_i g; rw [if_neg g]
  split at h
  · rename_i g; rw [if_pos g]; exact chooseP_mv H hl hE hf hfc hcr hcc hr hc _ _ _ _ _ _ h hq hn
  rename_i g; rw [if_neg g]
  split at h
  · rename_i g; rw [if_pos g]; exact repeatP_mv H hl hf hcr hr _ _ _ _ _ _ h hq hn
  · cases h
theorem stmtF_mv {L M : List Tok} {K d c : Nat} (H : Mv L M K d) (hl : L.length ≤ M.length) (hE : ElseAt L M K d) : ∀ f f', f ≤ f' → MvT K d c (stmtF L f 0) (stmtF M f' 0) ∧ MvR K d c (stmtF L f 1) (stmtF M f' 1) ∧ MvT K d c (stmtF L f 2) (stmtF M f' 2) := by
  intro f
  induction f with
  | zero => intro f' _; exact ⟨fun _ _ _ _ _ _ h => (by cases h), fun _ _ _ _ _ _ h => (by cases h), fun _ _ _ _ _ _ h => (by cases h)⟩
  | succ f ih =>
    intro f' hf
    cases f' with
    | zero => omega
    | succ f' =>
      obtain ⟨i0, i1, i2⟩ := ih f' (by omega)
      obtain ⟨F0, F1, F2⟩ := stmtF_fwd L f
      obtain ⟨C0, C1, C2⟩ := stmtF_cts L f
      refine ⟨stmtP_mv H hl hE F1 F2 C1 C2 i1 i2, ?_, chooseP_mv H hl hE F1 F2 C1 C2 i1 i2⟩
      intro b p n l q m h hq hn
      have hfw := ((stmtF_fwd L (f + 1)).2.1 _ _ _ _ _ _ h).1
      have k2 := (H p (by omega)).2.1
      rw [stmtF_row] at h ⊢
      rw [k2]
      split at h
      · rename_i g; rw [if_pos g]; cases h; left; exact ⟨hn, rfl⟩
      · rename_i g; rw [if_neg g]
        rcases e : stmtF L f 0 b p n with e1 | ⟨y, r, i⟩
        · rw [e] at h; cases h
        · rw [e] at h; simp only at h
          rcases e2 : stmtF L f 1 b r i with e1 | ⟨z, r2, i3⟩
          · rw [e2] at h; cases h
          · rw [e2] at h; simp only at h
            cases h
            have f1 := (F1 _ _ _ _ _ _ e2).1
            have c1 := C1 _ _ _ _ _ _ e2
            rcases i0 _ _ _ _ _ _ e (by omega) hn with ⟨h1, h2⟩ | ⟨h1, e', h2⟩
            · rw [h2]; simp only
              rcases i1 _ _ _ _ _ _ e2 hq h1 with ⟨h3, h4⟩ | ⟨h3, e', h4⟩
              · rw [h4]; left; exact ⟨h3, rfl⟩
              · rw [h4]; right; exact ⟨h3, e', rfl⟩
            · rw [h2]; right; exact ⟨by omega, e', rfl⟩
end Go.Proofs.YtnofibjchhcmeabDoor
namespace Go.Proofs.YtnofibjchhcmeabDoor
open Go.RowKit
set_option linter.unusedVariables false

def FdT (r : TR) : Prop := ∀ k, r ≠ .error (k, -1)
theorem fdT_ok {x : List PT × Nat × Nat} : FdT (.ok x) := by intro k e; cases e
theorem fdT_err {k : Nat} {e : Int} (h : e ≠ -1) : FdT (.error (k, e)) := by
  intro k' e'
  injection e' with e'
  injection e' with _ e'
  exact h e'
theorem mkS_fd (t : Tok) (x : PT) (q n : Nat) : FdT (mkS t x q n) := by
  unfold mkS
  split
  · exact fdT_err (by decide)
  · exact fdT_ok
theorem lastP_fed (L : List Tok) (p n : Nat) : Fed (lastP L p n) := by
  unfold lastP
  have h := ex1_fed L p 0 n
  rcases e : ex1 L p 0 n with e1 | ⟨x, q, m⟩
  · rw [e] at h; exact h
  · simp only
    split
    · intro k e'; injection e' with e'; injection e' with _ e'; exact absurd e' (by decide)
    · intro k e'; cases e'
theorem valueP_fed (L : List Tok) (p n : Nat) : Fed (valueP L p n) := by
  unfold valueP
  split
  · intro k e'; injection e' with e'; injection e' with _ e'; exact absurd e' (by decide)
  · exact lastP_fed L _ _
theorem withinT_fed (L : List Tok) (a b : List UInt8) (p n : Nat) : Fed (withinT L a b p n) := withinP_fed fun _ => ex1_fed L _ _ _
theorem ofPart_fd {t : Tok} {k : Int} {s : ByteArray} {c : Int} {r : PR} (h : Fed r) : FdT (ofPart t k s c r) := by
  unfold ofPart
  rcases r with ⟨k', e⟩ | ⟨x, q, m⟩
  · intro k'' e'; injection e' with e'; cases e'; exact h _ rfl
  · exact mkS_fd _ _ _ _
theorem fd_of_fed {k : Nat} {e : Int} (h : Fed (.error (k, e))) : FdT (.error (k, e)) := by
  intro k' e'; injection e' with e'; cases e'; exact h _ rfl
theorem blockP_fd {L : List Tok} {row : Nat → Nat → Nat → TR} {b p n : Nat} (h : p < L.length → FdT (row (b + 1) (p + 1) n)) (hl : (tk L p).text = [123] → p < L.length) : FdT (blockP L row b p n) := by
  unfold blockP
  split
  · exact fdT_err (by decide)
  · rename_i h0
    split
    · exact fdT_err (by decide)
    · have := h (hl (Decidable.of_not_not h0))
      rcases e : row (b + 1) (p + 1) n with ⟨k, e1⟩ | ⟨y, r, i⟩
      · rw [e] at this; exact this
      · exact fdT_ok
theorem tk_in {L : List Tok} {p : Nat} (h : ¬ (tk L p).text = []) : p < L.length := by
  rcases Nat.lt_or_ge p L.length with h1 | h1
  · exact h1
  · exfalso
    apply h
    unfold tk
    rw [List.getD, List.getElem?_eq_none h1]
    rfl
theorem chooseP_fd {L : List Tok} {row ch : Nat → Nat → Nat → TR} {b p n : Nat} (hrow : ∀ b q m, p + 2 ≤ q → q ≤ L.length → FdT (row b q m)) (hch : ∀ b q m, p + 2 ≤ q → q < L.length → FdT (ch b q m)) (hf : FwdT 0 row) : FdT (chooseP L row ch b p n) := by
  unfold chooseP
  have h1 := withinT_fed L [40] [41] (p + 1) n
  rcases e : withinT L [40] [41] (p + 1) n with ⟨k, e1⟩ | ⟨x, q, m⟩
  · rw [e] at h1; exact fd_of_fed h1
  · simp only
    obtain ⟨w1, _⟩ := withinT_fwd e
    have h2 : FdT (blockP L row b q m) := blockP_fd (fun hq => hrow _ _ _ (by omega) (by omega)) (fun ht => tk_in (by rw [ht]; simp))
    rcases e2 : blockP L row b q m with ⟨k, e1⟩ | ⟨l, r, i⟩
    · rw [e2] at h2; exact h2
    · simp only
      obtain ⟨w2, _⟩ := blockP_fwd hf _ _ _ _ _ _ e2
      split
      · have h3 : FdT (otherP L row ch b (r + 1) i) := by
          unfold otherP
          split
          · exact blockP_fd (fun hq => hrow _ _ _ (by omega) (by omega)) (fun ht => tk_in (by rw [ht]; simp))
          · rename_i h0
            split
            · exact fdT_err (by decide)
            · exact hch _ _ _ (by omega) (tk_in (by rw [Decidable.of_not_not h0]; simp))
        rcases e3 : otherP L row ch b (r + 1) i with ⟨k, e1⟩ | ⟨l2, r2, i2⟩
        · rw [e3] at h3; exact h3
        · exact mkS_fd _ _ _ _
      · exact mkS_fd _ _ _ _
theorem repeatP_fd {L : List Tok} {row : Nat → Nat → Nat → TR} {b p n : Nat} (hrow : ∀ b q m, p + 2 ≤ q → q ≤ L.length → FdT (row b q m)) : FdT (repeatP L row b p n) := by
  unfold repeatP
  have h1 := withinT_fed L [40] [41] (p + 1) n
  rcases e : withinT L [40] [41] (p + 1) n with ⟨k, e1⟩ | ⟨x, q, m⟩
  · rw [e] at h1; exact fd_of_fed h1
  · simp only
    obtain ⟨w1, _⟩ := withinT_fwd e
    have h2 : FdT (blockP L row b q m) := blockP_fd (fun hq => hrow _ _ _ (by omega) (by omega)) (fun ht => tk_in (by rw [ht]; simp))
    rcases e2 : blockP L row b q m with ⟨k, e1⟩ | ⟨l, r, i⟩
    · rw [e2] at h2; exact h2
    · exact mkS_fd _ _ _ _
theorem stmtP_fd {L : List Tok} {row ch : Nat → Nat → Nat → TR} {b p n : Nat} (hrow : ∀ b q m, p + 2 ≤ q → q ≤ L.length → FdT (row b q m)) (hch : ∀ b q m, p + 2 ≤ q → q < L.length → FdT (ch b q m)) (hf : FwdT 0 row) : FdT (stmtP L row ch b p n) := by
  unfold stmtP
  split
  · exact ofPart_fd (valueP_fed L _ _)
  split
  · unfold declareP
    split
    · exact fdT_err (by decide)
    · exact ofPart_fd (valueP_fed L _ _)
  split
  · unfold storeP
    have h1 := withinT_fed L [91] [93] (p + 1) n
    rcases e : withinT L [91] [93] (p + 1) n with ⟨k, e1⟩ | ⟨x, q, m⟩
    · rw [e] at h1; exact fd_of_fed h1
    · simp only
      have h2 := valueP_fed L q m
      rcases e2 : valueP L q m with ⟨k, e1⟩ | ⟨y, r, i⟩
      · rw [e2] at h2; exact fd_of_fed h2
      · exact mkS_fd _ _ _ _
  split
  · exact ofPart_fd (lastP_fed L _ _)
  split
  · exact ofPart_fd (lastP_fed L _ _)
  split
  · unfold intoP
    split
    · exact fdT_err (by decide)
    · split
      · exact fdT_err (by decide)
      · exact ofPart_fd (lastP_fed L _ _)
  split
  · unfold stopP
    split
    · exact fdT_err (by decide)
    · exact mkS_fd _ _ _ _
  split
  · exact chooseP_fd hrow hch hf
  split
  · exact repeatP_fd hrow
  · exact fdT_err (by decide)
/-- a statement is read where there is a token -/
theorem stmtP_in {L : List Tok} {row ch : Nat → Nat → Nat → TR} {b p n : Nat} {x : List PT × Nat × Nat} (h : stmtP L row ch b p n = .ok x) : p < L.length := by
  rcases Nat.lt_or_ge p L.length with h1 | h1
  · exact h1
  · exfalso
    have ht : tk L p = noTok := by unfold tk; rw [List.getD, List.getElem?_eq_none h1]; rfl
    unfold stmtP at h
    rw [ht] at h
    simp [noTok] at h
theorem stmtF_fd (L : List Tok) : ∀ f, (∀ b p n, 2 * (L.length - p) + 1 ≤ f → FdT (stmtF L f 0 b p n)) ∧ (∀ b p n, 2 * (L.length - p) + 2 ≤ f → FdT (stmtF L f 1 b p n)) ∧ (∀ b p n, 2 * (L.length - p) + 1 ≤ f → FdT (stmtF L f 2 b p n)) := by
  intro f
  induction f with
  | zero => exact ⟨fun b p n h => by omega, fun b p n h => by omega, fun b p n h => by omega⟩
  | succ f ih =>
    obtain ⟨i0, i1, i2⟩ := ih
    have hf : FwdT 0 (stmtF L f 1) := (stmtF_fwd L f).2.1
    refine ⟨fun b p n h => ?_, fun b p n h => ?_, fun b p n h => ?_⟩
    · show FdT (stmtP L (stmtF L f 1) (stmtF L f 2) b p n)
      exact stmtP_fd (fun b q m h1 h2 => i1 _ _ _ (by omega)) (fun b q m h1 h2 => i2 _ _ _ (by omega)) hf
    · rw [stmtF_row]
      split
      · exact fdT_ok
      · have h0 := i0 b p n (by omega)
        rcases e : stmtF L f 0 b p n with ⟨k, e1⟩ | ⟨x, q, m⟩
        · rw [e] at h0; exact h0
        · simp only
          obtain ⟨w1, _⟩ := (stmtF_fwd L f).1 _ _ _ _ _ _ e
          have hpl : p < L.length := by
            cases f with
            | zero => cases e
            | succ f => exact stmtP_in e
          have h1 := i1 b q m (by omega)
          rcases e2 : stmtF L f 1 b q m with ⟨k, e1⟩ | ⟨l, r, i⟩
          · rw [e2] at h1; exact h1
          · exact fdT_ok
    · show FdT (chooseP L (stmtF L f 1) (stmtF L f 2) b p n)
      exact chooseP_fd (fun b q m h1 h2 => i1 _ _ _ (by omega)) (fun b q m h1 h2 => i2 _ _ _ (by omega)) hf
theorem stmtT_fd (L : List Tok) (b p n : Nat) : FdT (stmtT L b p n) := (stmtF_fd L _).1 b p n (by omega)
theorem textF_fd (L : List Tok) : ∀ f p n, L.length - p + 1 ≤ f → FdT (textF L f p n) := by
  intro f
  induction f with
  | zero => intro p n h; omega
  | succ f ih =>
    intro p n h
    unfold textF
    split
    · exact fdT_ok
    · have h0 := stmtT_fd L 0 p n
      rcases e : stmtT L 0 p n with ⟨k, e1⟩ | ⟨x, q, m⟩
      · rw [e] at h0; exact h0
      · simp only
        obtain ⟨w1, _⟩ := (stmtF_fwd L _).1 _ _ _ _ _ _ e
        have hpl : p < L.length := stmtP_in (show stmtP L (stmtF L (2 * L.length + 1) 1) (stmtF L (2 * L.length + 1) 2) 0 p n = _ from e)
        have h1 := ih q m (by omega)
        rcases e2 : textF L f q m with ⟨k, e1⟩ | ⟨l, r, i⟩
        · rw [e2] at h1; exact h1
        · exact fdT_ok
end Go.Proofs.YtnofibjchhcmeabDoor
namespace Go.Proofs.YtnofibjchhcmeabDoor
open Go.RowKit Go.Maps
set_option linter.unusedVariables false

theorem signed_ok {pb g c : Nat} {L : List Tok} {b : Nat} (hE : TEnd L) : SignedOk pb g c L b := fun on hon op p o n w h hs hn ho hp hf => signed_any hE hon op p o n w h hs hn ho hp hf
theorem ex_all {pb g c : Nat} {L : List Tok} {b : Nat} (hE : TEnd L) : ExOk pb g c L b (ex1 L) := ex1_any hE (Or.inl (signed_ok hE))
/-- an if, with so much fuel -/
def ChB (pb g c : Nat) (L : List Tok) (b f : Nat) : Prop := ∀ p n W, PS W pb g c L p 0 b n → SG W pb → n ≤ 600 → (tk L p).text = [105, 102] → FedT (stmtF L f 2 b p n) → Calls Tryd.prog 61 #[.pointer (some ⟨pb, 0, none⟩)] W (TPost W (fun j => W.heap.size ≤ j) pb g c L b (stmtF L f 2 b p n))
theorem block_f {pb g c : Nat} {L : List Tok} (hE : TEnd L) (hLL : L.length ≤ 8193) {F b : Nat} (hb : b ≤ 12) (hst : ∀ f, f < F → ∀ b, b ≤ 12 → StB pb g c L b f) :
    ∀ q m W, PS W pb g c L q 0 b m → SG W pb → m ≤ 600 → FedT (blockP L (stmtF L F 1) b q m) → Calls Tryd.prog 82 #[.pointer (some ⟨pb, 0, none⟩)] W (BPost W (fun j => W.heap.size ≤ j) pb g c L b (blockP L (stmtF L F 1) b q m)) :=
  fun q m W h1 h2 h3 h4 => block_any hE hLL F (fun hb' f hf => hst f hf (b + 1) (by omega)) q m W h1 h2 h3 hb h4
theorem other_f {pb g c : Nat} {L : List Tok} (hE : TEnd L) (hLL : L.length ≤ 8193) {F b : Nat} (hb : b ≤ 12) (hst : ∀ f, f < F → ∀ b, b ≤ 12 → StB pb g c L b f) (hch : ∀ b, b ≤ 12 → ChB pb g c L b F) :
    ∀ q m W, PS W pb g c L q 0 b m → SG W pb → m ≤ 600 → FedT (otherP L (stmtF L F 1) (stmtF L F 2) b q m) → Calls Tryd.prog 84 #[.pointer (some ⟨pb, 0, none⟩)] W (BPost W (fun j => W.heap.size ≤ j) pb g c L b (otherP L (stmtF L F 1) (stmtF L F 2) b q m)) := by
  intro q m W h1 h2 h3 h4
  refine other_any hE (stmtF L F 1) (stmtF L F 2) q m W h1 h2 h3 hb (fun V v1 v2 hif => ?_) (fun V v1 v2 hif hlt => ?_)
  · refine block_f hE hLL hb hst q m V v1 v2 h3 ?_
    unfold otherP at h4
    rw [if_pos hif] at h4
    exact h4
  · refine hch (b + 1) (by omega) q m V v1 v2 h3 hif ?_
    unfold otherP at h4
    rw [if_neg (not_not_intro hif), if_neg (by omega)] at h4
    exact h4
theorem choose_f {pb g c : Nat} {L : List Tok} (hE : TEnd L) (hLL : L.length ≤ 8193) {F b : Nat} (hb : b ≤ 12) (hst : ∀ f, f < F → ∀ b, b ≤ 12 → StB pb g c L b f) (hch : ∀ b, b ≤ 12 → ChB pb g c L b F) : ChB pb g c L b (F + 1) := by
  intro p n W h hs hn ht hf
  exact choose_any hE (ex_all hE) (stmtF L F 1) (stmtF L F 2) p n W h hs hn (hE.text (by rw [ht]; simp)) (block_f hE hLL hb hst) (other_f hE hLL hb hst hch) hf
theorem stmt_f {pb g c : Nat} {L : List Tok} (hE : TEnd L) (hLL : L.length ≤ 8193) {F b : Nat} (hb : b ≤ 12) (hst : ∀ f, f < F → ∀ b, b ≤ 12 → StB pb g c L b f) (hch : ∀ b, b ≤ 12 → ChB pb g c L b F) : StB pb g c L b (F + 1) := by
  intro p n W h hs hn hf
  have hx : ExOk pb g c L b (ex1 L) := ex_all hE
  replace hf : FedT (stmtP L (stmtF L F 1) (stmtF L F 2) b p n) := hf
  show Calls _ _ _ _ (TPost _ _ _ _ _ _ _ (stmtP L (stmtF L F 1) (stmtF L F 2) b p n))
  unfold stmtP at hf ⊢
  by_cases k2 : (tk L p).kind = 2
  · rw [if_pos k2]
    exact stmt_set p n W _ h hs k2 fun V v1 v2 => set_any hE hx p n V v1 v2 hn (hE.kind (by omega))
  rw [if_neg k2] at hf ⊢
  by_cases q1 : (tk L p).text = [118, 97, 114]
  · rw [if_pos q1]
    exact stmt_var p n W _ h hs k2 q1 fun V v1 v2 => declare_any hE hx p n V v1 v2 hn (hE.text (by rw [q1]; simp))
  rw [if_neg q1] at hf ⊢
  by_cases q2 : (tk L p).text = [109]
  · rw [if_pos q2]
    exact stmt_m p n W _ h hs k2 q2 fun V v1 v2 => store_any hE hx p n V v1 v2 hn (hE.text (by rw [q2]; simp))
  rw [if_neg q2] at hf ⊢
  by_cases t1 : (tk L p).text = [101, 109, 105, 116]
  · rw [if_pos t1]
    exact stmt_emit p n W _ h hs k2 t1 fun V v1 v2 => tell_any hE hx 4 p n V v1 v2 hn (hE.text (by rw [t1]; simp))
  rw [if_neg t1] at hf ⊢
  by_cases t2 : (tk L p).text = [102, 97, 105, 108]
  · rw [if_pos t2]
    exact stmt_fail p n W _ h hs k2 t2 fun V v1 v2 => tell_any hE hx 8 p n V v1 v2 hn (hE.text (by rw [t2]; simp))
  rw [if_neg t2] at hf ⊢
  by_cases q3 : (tk L p).text = [105, 110, 116, 111]
  · rw [if_pos q3]
    exact stmt_into p n W _ h hs k2 q3 fun V v1 v2 => into_any hE hx p n V v1 v2 hn (hE.text (by rw [q3]; simp))
  rw [if_neg q3] at hf ⊢
  by_cases q4 : (tk L p).text = [115, 116, 111, 112]
  · rw [if_pos q4]
    exact stmt_stop p n W _ h hs k2 q4 fun V v1 v2 => stop_any hE p n V v1 hn (hE.text (by rw [q4]; simp))
  rw [if_neg q4] at hf ⊢
  by_cases q5 : (tk L p).text = [105, 102]
  · rw [if_pos q5] at hf ⊢
    exact stmt_if p n W _ h hs k2 q5 fun V v1 v2 => choose_any hE hx (stmtF L F 1) (stmtF L F 2) p n V v1 v2 hn (hE.text (by rw [q5]; simp)) (block_f hE hLL hb hst) (other_f hE hLL hb hst hch) hf
  rw [if_neg q5] at hf ⊢
  by_cases q6 : (tk L p).text = [119, 104, 105, 108, 101]
  · rw [if_pos q6] at hf ⊢
    exact stmt_while p n W _ h hs k2 q6 fun V v1 v2 => repeat_any hE hx (stmtF L F 1) p n V v1 v2 hn (hE.text (by rw [q6]; simp)) (block_f hE hLL hb hst) hf
  rw [if_neg q6]
  refine stmt_bad p n W h hs k2 ?_
  intro l hl
  simp at hl
  rcases hl with rfl | rfl | rfl | rfl | rfl | rfl | rfl | rfl
  · exact q1
  · exact q2
  · exact t1
  · exact t2
  · exact q3
  · exact q4
  · exact q5
  · exact q6
theorem stmt_both {pb g c : Nat} {L : List Tok} (hE : TEnd L) (hLL : L.length ≤ 8193) : ∀ F, ∀ f, f ≤ F → ∀ b, b ≤ 12 → StB pb g c L b f ∧ ChB pb g c L b f := by
  intro F
  induction F with
  | zero =>
    intro f hf b hb
    obtain rfl : f = 0 := by omega
    exact ⟨fun p n W _ _ _ h => absurd rfl (h 0), fun p n W _ _ _ _ h => absurd rfl (h 0)⟩
  | succ F ih =>
    intro f hf b hb
    rcases Nat.lt_or_ge F f with h1 | h1
    · obtain rfl : f = F + 1 := by omega
      have hst : ∀ f, f < F → ∀ b, b ≤ 12 → StB pb g c L b f := fun f hf b hb => (ih f (by omega) b hb).1
      have hch : ∀ b, b ≤ 12 → ChB pb g c L b F := fun b hb => (ih F (Nat.le_refl _) b hb).2
      exact ⟨stmt_f hE hLL hb hst hch, choose_f hE hLL hb hst hch⟩
    · exact ih f h1 b hb
theorem st_ok {pb g c : Nat} {L : List Tok} (hE : TEnd L) (hLL : L.length ≤ 8193) : StOk pb g c L := fun p n W h hs hn hf => (stmt_both hE hLL (2 * L.length + 2) _ (Nat.le_refl _) 0 (by omega)).1 p n W h hs hn hf
/-- Parse of a text that can be cut -/
theorem parse_all (s : ByteArray) (w : World) (L : List Tok) (hcut : cut s.data.toList = .inl L) (hm : s.size ≤ maxLen) (hsg : ∃ A t fr, SA A ∧ w.heap[0]? = some (.cells A t fr)) : Calls Tryd.prog 19 #[.string s] w (PPost w (outT (textF L (L.length + 1) 0 0))) := by
  obtain ⟨hE, hl1, hl2⟩ := cut_end hcut
  exact parse_cut s w L hcut hm hsg (fun pb g c => st_ok hE (by omega)) (textF_fd L _ 0 0 (by omega))
end Go.Proofs.YtnofibjchhcmeabDoor
namespace Go.Proofs.YtnofibjchhcmeabDoor
open Go.RowKit Go.Maps
set_option linter.unusedVariables false

theorem tokOf_er {R : List UInt8} {o : Nat} {e : Int} (hR : R ≠ []) (h : tokOf R = .inr (o, e)) : e ≠ 0 := by
  cases R with
  | nil => exact absurd rfl hR
  | cons b T =>
    change (if isD b = true then numTok (b :: T) else if isL b = true then wordTok (b :: T) else signTok (b :: T)) = _ at h
    split at h
    · unfold numTok at h
      simp only at h
      split at h
      · cases h; decide
      · split at h
        · cases h; decide
        · cases h
    · split at h
      · unfold wordTok at h
        simp only at h
        split at h
        · cases h
        · split at h
          · cases h; decide
          · cases h
      · unfold signTok at h
        simp only at h
        split at h
        · cases h; decide
        · cases h
theorem cutG_er : ∀ (f p : Nat) (R : List UInt8) (k : Nat) (e : Int), R.length < f → cutG f p R = .inr (k, e) → e ≠ 0 := by
  intro f
  induction f with
  | zero => intro p R k e h; omega
  | succ f ih =>
    intro p R k e hl h
    cases R with
    | nil => cases h
    | cons b T =>
      unfold cutG at h
      rcases ht : tokOf (b :: T) with ⟨kd, m, n⟩ | ⟨o, er⟩
      · rw [ht] at h
        simp only at h
        have hn := (tokOf_tok ht).1
        rcases hc : cutG f (p + n + gapLen ((b :: T).drop n)) (((b :: T).drop n).drop (gapLen ((b :: T).drop n))) with l | ⟨k', e'⟩
        · rw [hc] at h; cases h
        · rw [hc] at h
          cases h
          refine ih _ _ _ _ ?_ hc
          simp only [List.length_drop, List.length_cons] at hl ⊢
          omega
      · rw [ht] at h
        cases h
        exact tokOf_er (by simp) ht
theorem cut_er {s : List UInt8} {k : Nat} {e : Int} (h : cut s = .inr (k, e)) : e ≠ 0 := by
  unfold cut at h
  split at h
  · cases h; decide
  · exact cutG_er _ _ _ _ _ (by simp only [List.length_drop]; omega) h
set_option maxRecDepth 100000 in
set_option maxHeartbeats 8000000 in
theorem parse_err (s : ByteArray) (w : World) (k : Nat) (er : Int) (her : er ≠ 0) (hcut : cut s.data.toList = .inr (k, er)) (hm : s.size ≤ maxLen) :
    Calls Tryd.prog 19 #[.string s] w (PPost w (.error (k, er))) := by
  have hmf : ∀ (fn : Fn) (first cap : Array Value) (w : World), (Instr.makeFunc fn first cap).run Tryd.prog w = .ok (.func fn first cap) w := fun _ _ _ _ => rfl
  have HRR : Hid (Res3 (((w.alloc (.cells #[.slice none 0 0] 27)).alloc (.cells #[.int .i64 0] 3)).alloc (.cells #[.int .i64 0] 31)) w.heap.size (.slice none 0 0) (.int .i64 0) (.int .i64 0)) := Res3.new w (.slice none 0 0) (.int .i64 0) (.int .i64 0) 27 3 31
  have HBB : Hid (Below w.heap.size w (((w.alloc (.cells #[.slice none 0 0] 27)).alloc (.cells #[.int .i64 0] 3)).alloc (.cells #[.int .i64 0] 31))) := below3 w _ _ _ _ _ _
  have hws : (((w.alloc (.cells #[.slice none 0 0] 27)).alloc (.cells #[.int .i64 0] 3)).alloc (.cells #[.int .i64 0] 31)).heap.size = w.heap.size + 3 := by simp
  have HCUT : Hid (Calls Tryd.prog 30 #[.string s] (((w.alloc (.cells #[.slice none 0 0] 27)).alloc (.cells #[.int .i64 0] 3)).alloc (.cells #[.int .i64 0] 31)) fun e w' => CutPost (((w.alloc (.cells #[.slice none 0 0] 27)).alloc (.cells #[.int .i64 0] 3)).alloc (.cells #[.int .i64 0] 31)) (.inr (k, er)) e w') := by have := cut_any s (((w.alloc (.cells #[.slice none 0 0] 27)).alloc (.cells #[.int .i64 0] 3)).alloc (.cells #[.int .i64 0] 31)) hm; rw [hcut] at this; exact this
  obtain ⟨P, hP⟩ : ∃ P, PPost w (.error (k, er)) = P := ⟨_, rfl⟩
  have HP : Hid (PPost w (.error (k, er)) = P) := hP
  rw [hP]
  have e1 : (er != 0) = true := by simpa using her
  clear hcut hm hP her
  go_enter_defers Tryd.func19, Tryd.ntmps19
  go_wp2_with fail
  refine HCUT.out.mono ?_
  rintro e w1 ⟨rfl, hb1⟩
  rw [hws] at hb1
  have R1 : Res3 w1 w.heap.size (.slice none 0 0) (.int .i64 0) (.int .i64 0) := HRR.out.keep (fun k _ hk => hb1.block k (by omega)) hb1.size
  have HB1 : Hid (Below w.heap.size w w1) := HBB.out.trans (hb1.mono (by omega))
  obtain ⟨x0, x1, x2, y0, y1, y2, hlt1⟩ := R1
  have x2' : w1.cell? ⟨w.heap.size + 1 + 1, 0, none⟩ = some (.int .i64 0) := x2
  have y2' : w1.frozen? ⟨w.heap.size + 1 + 1, 0, none⟩ = false := y2
  clear hb1 HCUT HRR HBB hws
  go_wp2_with fail
  have q1 : ∀ (u : World) (x y : Nat) (v : Value), x ≠ y → (u.setCell ⟨x, 0, none⟩ v).cell? ⟨y, 0, none⟩ = u.cell? ⟨y, 0, none⟩ := fun u x y v hne => World.cell?_setCell_other u _ _ _ (by intro e; cases e; exact hne rfl)
  generalize hV : (w1.setCell ⟨w.heap.size + 1, 0, none⟩ (.int .i64 (k : Int))).setCell ⟨w.heap.size + 1 + 1, 0, none⟩ (.int .i64 er) = V
  have v0 : V.cell? ⟨w.heap.size, 0, none⟩ = some (.slice none 0 0) := by rw [← hV, q1 _ _ _ _ (by omega), q1 _ _ _ _ (by omega)]; exact x0
  have v1 : V.cell? ⟨w.heap.size + 1, 0, none⟩ = some (.int .i64 (k : Int)) := by rw [← hV, q1 _ _ _ _ (by omega)]; exact World.cell?_setCell_same _ _ _ x1
  have v2 : V.cell? ⟨w.heap.size + 1 + 1, 0, none⟩ = some (.int .i64 er) := by rw [← hV]; exact World.cell?_setCell_same _ _ _ ((q1 _ _ _ _ (by omega)).trans x2')
  have g0 : V.frozen? ⟨w.heap.size, 0, none⟩ = false := by rw [← hV]; simpa using y0
  have g1 : V.frozen? ⟨w.heap.size + 1, 0, none⟩ = false := by rw [← hV]; simpa using y1
  have g2 : V.frozen? ⟨w.heap.size + 1 + 1, 0, none⟩ = false := by rw [← hV]; simpa using y2'
  have HV : Hid (Below w.heap.size w V) := by
    show Below _ _ _
    rw [← hV]
    exact (HB1.out.setCell (p := ⟨w.heap.size + 1, 0, none⟩) (by show w.heap.size ≤ w.heap.size + 1; omega) _).setCell (p := ⟨w.heap.size + 1 + 1, 0, none⟩) (by show w.heap.size ≤ w.heap.size + 1 + 1; omega) _
  have HVS : Hid (w.heap.size + 2 < V.heap.size) := by show _ < _; rw [← hV]; simpa [World.setCell] using hlt1
  clear hV x0 x1 x2 x2' y0 y1 y2 y2' hlt1
  have HE : Hid (∀ U : World, U.cell? ⟨w.heap.size, 0, none⟩ = some (.slice none 0 0) → U.cell? ⟨w.heap.size + 1, 0, none⟩ = some (.int .i64 (k : Int)) → U.cell? ⟨w.heap.size + 1 + 1, 0, none⟩ = some (.int .i64 er) → w.heap.size + 2 < U.heap.size →
      (U.alloc (.cells #[.int .i64 0, .int .i64 0] 60)).cell? ⟨w.heap.size, 0, none⟩ = some (.slice none 0 0) ∧ (U.alloc (.cells #[.int .i64 0, .int .i64 0] 60)).cell? ⟨w.heap.size + 1, 0, none⟩ = some (.int .i64 (k : Int)) ∧ (U.alloc (.cells #[.int .i64 0, .int .i64 0] 60)).cell? ⟨w.heap.size + 2, 0, none⟩ = some (.int .i64 er)) := by
    intro U h0 h1 h2 hs
    refine ⟨?_, ?_, ?_⟩
    · rw [World.cell?_of_block (a := ⟨w.heap.size, 0, none⟩) (Below.heap_alloc _ _ _ (by show w.heap.size < _; omega))]; exact h0
    · rw [World.cell?_of_block (a := ⟨w.heap.size + 1, 0, none⟩) (Below.heap_alloc _ _ _ (by show w.heap.size + 1 < _; omega))]; exact h1
    · rw [World.cell?_of_block (a := ⟨w.heap.size + 2, 0, none⟩) (Below.heap_alloc _ _ _ (by show w.heap.size + 2 < _; omega))]; exact h2
  have F1 : Hid ((V.setCell ⟨w.heap.size, 0, none⟩ (.slice none 0 0)).cell? ⟨w.heap.size, 0, none⟩ = some (.slice none 0 0) ∧ (V.setCell ⟨w.heap.size, 0, none⟩ (.slice none 0 0)).cell? ⟨w.heap.size + 1, 0, none⟩ = some (.int .i64 (k : Int)) ∧ (V.setCell ⟨w.heap.size, 0, none⟩ (.slice none 0 0)).cell? ⟨w.heap.size + 1 + 1, 0, none⟩ = some (.int .i64 er)) := ⟨World.cell?_setCell_same _ _ _ v0, (q1 _ _ _ _ (by omega)).trans v1, (q1 _ _ _ _ (by omega)).trans v2⟩
  have F2 : Hid (((V.setCell ⟨w.heap.size, 0, none⟩ (.slice none 0 0)).setCell ⟨w.heap.size + 1, 0, none⟩ (.int .i64 (k : Int))).cell? ⟨w.heap.size, 0, none⟩ = some (.slice none 0 0) ∧ ((V.setCell ⟨w.heap.size, 0, none⟩ (.slice none 0 0)).setCell ⟨w.heap.size + 1, 0, none⟩ (.int .i64 (k : Int))).cell? ⟨w.heap.size + 1, 0, none⟩ = some (.int .i64 (k : Int)) ∧ ((V.setCell ⟨w.heap.size, 0, none⟩ (.slice none 0 0)).setCell ⟨w.heap.size + 1, 0, none⟩ (.int .i64 (k : Int))).cell? ⟨w.heap.size + 1 + 1, 0, none⟩ = some (.int .i64 er)) := ⟨(q1 _ _ _ _ (by omega)).trans F1.out.1, World.cell?_setCell_same _ _ _ F1.out.2.1, (q1 _ _ _ _ (by omega)).trans F1.out.2.2⟩
  have F3 : Hid ((((V.setCell ⟨w.heap.size, 0, none⟩ (.slice none 0 0)).setCell ⟨w.heap.size + 1, 0, none⟩ (.int .i64 (k : Int))).setCell ⟨w.heap.size + 1 + 1, 0, none⟩ (.int .i64 er)).cell? ⟨w.heap.size, 0, none⟩ = some (.slice none 0 0) ∧ (((V.setCell ⟨w.heap.size, 0, none⟩ (.slice none 0 0)).setCell ⟨w.heap.size + 1, 0, none⟩ (.int .i64 (k : Int))).setCell ⟨w.heap.size + 1 + 1, 0, none⟩ (.int .i64 er)).cell? ⟨w.heap.size + 1, 0, none⟩ = some (.int .i64 (k : Int)) ∧ (((V.setCell ⟨w.heap.size, 0, none⟩ (.slice none 0 0)).setCell ⟨w.heap.size + 1, 0, none⟩ (.int .i64 (k : Int))).setCell ⟨w.heap.size + 1 + 1, 0, none⟩ (.int .i64 er)).cell? ⟨w.heap.size + 1 + 1, 0, none⟩ = some (.int .i64 er)) := ⟨(q1 _ _ _ _ (by omega)).trans F2.out.1, (q1 _ _ _ _ (by omega)).trans F2.out.2.1, World.cell?_setCell_same _ _ _ F2.out.2.2⟩
  have HB3 : Hid (Below w.heap.size w (((V.setCell ⟨w.heap.size, 0, none⟩ (.slice none 0 0)).setCell ⟨w.heap.size + 1, 0, none⟩ (.int .i64 (k : Int))).setCell ⟨w.heap.size + 1 + 1, 0, none⟩ (.int .i64 er)) ∧ w.heap.size + 2 < (((V.setCell ⟨w.heap.size, 0, none⟩ (.slice none 0 0)).setCell ⟨w.heap.size + 1, 0, none⟩ (.int .i64 (k : Int))).setCell ⟨w.heap.size + 1 + 1, 0, none⟩ (.int .i64 er)).heap.size) := ⟨((HV.out.setCell (p := ⟨w.heap.size, 0, none⟩) (Nat.le_refl _) _).setCell (p := ⟨w.heap.size + 1, 0, none⟩) (by show w.heap.size ≤ w.heap.size + 1; omega) _).setCell (p := ⟨w.heap.size + 1 + 1, 0, none⟩) (by show w.heap.size ≤ w.heap.size + 1 + 1; omega) _, by simpa [World.setCell] using HVS.out⟩
  clear q1
  go_region_held3 (fun w' => w'.cell? ⟨w.heap.size, 0, none⟩ = some (.slice none 0 0) ∧ w'.cell? ⟨w.heap.size + 1, 0, none⟩ = some (.int .i64 (k : Int)) ∧ w'.cell? ⟨w.heap.size + 1 + 1, 0, none⟩ = some (.int .i64 er)) (first | exact ⟨v0, v1, v2⟩ | exact F1.out | exact F2.out | exact F3.out) (fail)
  go_wp2
  refine leaves_cons (f := 29) (args := #[.pointer (some ⟨w.heap.size, 0, none⟩), .pointer (some ⟨w.heap.size + 1, 0, none⟩), .pointer (some ⟨w.heap.size + 2, 0, none⟩)]) (by simp) (by simp [go_sem]) ?_
  refine (tcatch_idle _ _ _ _).mono ?_
  rintro e u' w7 ⟨rfl, rfl, rfl⟩
  obtain ⟨z0, z1, z2⟩ := HE.out (((V.setCell ⟨w.heap.size, 0, none⟩ (.slice none 0 0)).setCell ⟨w.heap.size + 1, 0, none⟩ (.int .i64 (k : Int))).setCell ⟨w.heap.size + 1 + 1, 0, none⟩ (.int .i64 er)).drew F3.out.1 F3.out.2.1 F3.out.2.2 HB3.out.2
  have HF : Hid (P (.returned (.tuple #[.slice none 0 0, .int .i64 (k : Int), .int .i64 er])) (((((V.setCell ⟨w.heap.size, 0, none⟩ (.slice none 0 0)).setCell ⟨w.heap.size + 1, 0, none⟩ (.int .i64 (k : Int))).setCell ⟨w.heap.size + 1 + 1, 0, none⟩ (.int .i64 er)).drew).alloc (.cells #[.int .i64 0, .int .i64 0] 60))) := by
    show P _ _
    rw [← HP.out]
    exact ⟨rfl, (show Below w.heap.size w ((((V.setCell ⟨w.heap.size, 0, none⟩ (.slice none 0 0)).setCell ⟨w.heap.size + 1, 0, none⟩ (.int .i64 (k : Int))).setCell ⟨w.heap.size + 1 + 1, 0, none⟩ (.int .i64 er)).drew) from ⟨HB3.out.1.os, HB3.out.1.tape, HB3.out.1.output, HB3.out.1.size, HB3.out.1.block⟩).alloc (Nat.le_trans (Nat.le_add_right _ 2) (Nat.le_of_lt HB3.out.2)) _⟩
  generalize (((((V.setCell ⟨w.heap.size, 0, none⟩ (.slice none 0 0)).setCell ⟨w.heap.size + 1, 0, none⟩ (.int .i64 (k : Int))).setCell ⟨w.heap.size + 1 + 1, 0, none⟩ (.int .i64 er)).drew).alloc (.cells #[.int .i64 0, .int .i64 0] 60)) = w7 at z0 z1 z2 HF ⊢
  simp [Leaves, settle, results, Tryd.results19, go_sem, z0, z1, z2]
  exact HF.out
/-- Parse of any text -/
theorem tparse_any (s : ByteArray) (w : World) (hm : s.size ≤ maxLen) (hsg : ∃ A t fr, SA A ∧ w.heap[0]? = some (.cells A t fr)) : Calls Tryd.prog 19 #[.string s] w (PPost w (parseT s.data.toList)) := by
  unfold parseT
  rcases e : cut s.data.toList with L | ⟨k, er⟩
  · have := parse_all s w L e hm hsg
    rcases e2 : textF L (L.length + 1) 0 0 with ⟨a, b⟩ | ⟨l, q, m⟩
    · rw [e2] at this; simp only; rw [e2]; exact this
    · rw [e2] at this; simp only; rw [e2]; exact this
  · exact parse_err s w k er (cut_er e) e hm
end Go.Proofs.YtnofibjchhcmeabDoor
namespace Go.Proofs.YtnofibjchhcmeabDoor
open Go.RowKit
set_option linter.unusedVariables false

/-- what is read ends ahead of the last token -/
def InT (L : List Tok) (r : Nat → Nat → Nat → TR) : Prop := ∀ b p n l q m, r b p n = .ok (l, q, m) → q < L.length
def InR (L : List Tok) (r : Nat → Nat → Nat → TR) : Prop := ∀ b p n l q m, r b p n = .ok (l, q, m) → (tk L q).text = [125]
theorem lastP_in {L : List Tok} (hE : TEnd L) {p n : Nat} {x : PE} {q m : Nat} (h : lastP L p n = .ok (x, q, m)) : q < L.length := by
  unfold lastP at h
  rcases e : ex1 L p 0 n with e1 | ⟨y, r, i⟩
  · rw [e] at h; cases h
  · rw [e] at h; simp only at h
    split at h
    · cases h
    · rename_i g
      cases h
      exact hE.text (by rw [Decidable.of_not_not g]; simp)
theorem valueP_in {L : List Tok} (hE : TEnd L) {p n : Nat} {x : PE} {q m : Nat} (h : valueP L p n = .ok (x, q, m)) : q < L.length := by
  unfold valueP at h
  split at h
  · cases h
  · exact lastP_in hE h
theorem blockP_in {L : List Tok} (hE : TEnd L) {row : Nat → Nat → Nat → TR} (hr : InR L row) : InT L (blockP L row) := by
  intro b p n x q m h
  unfold blockP at h
  split at h
  · cases h
  · split at h
    · cases h
    · rcases e : row (b + 1) (p + 1) n with e1 | ⟨y, r, i⟩
      · rw [e] at h; cases h
      · rw [e] at h; simp only at h
        have h1 := hr _ _ _ _ _ _ e
        cases h; exact hE.text (by rw [h1]; simp)
theorem otherP_in {L : List Tok} (hE : TEnd L) {row ch : Nat → Nat → Nat → TR} (hr : InR L row) (hc : InT L ch) : InT L (otherP L row ch) := by
  intro b p n x q m h
  unfold otherP at h
  split at h
  · exact blockP_in hE hr _ _ _ _ _ _ h
  · split at h
    · cases h
    · exact hc _ _ _ _ _ _ h
theorem chooseP_in {L : List Tok} (hE : TEnd L) {row ch : Nat → Nat → Nat → TR} (hr : InR L row) (hc : InT L ch) : InT L (chooseP L row ch) := by
  intro b p n x q m h
  unfold chooseP at h
  rcases e : withinT L [40] [41] (p + 1) n with e1 | ⟨y, r, i⟩
  · rw [e] at h; cases h
  · rw [e] at h; simp only at h
    rcases e2 : blockP L row b r i with e1 | ⟨z, r2, i2⟩
    · rw [e2] at h; cases h
    · rw [e2] at h; simp only at h
      have h3 := blockP_in hE hr _ _ _ _ _ _ e2
      split at h
      · rcases e3 : otherP L row ch b (r2 + 1) i2 with e1 | ⟨u, r3, i3⟩
        · rw [e3] at h; cases h
        · rw [e3] at h; simp only at h
          have h5 := otherP_in hE hr hc _ _ _ _ _ _ e3
          obtain ⟨g1, g2, g3⟩ := mkS_cnt h
          omega
      · obtain ⟨g1, g2, g3⟩ := mkS_cnt h
        omega
theorem repeatP_in {L : List Tok} (hE : TEnd L) {row : Nat → Nat → Nat → TR} (hr : InR L row) : InT L (repeatP L row) := by
  intro b p n x q m h
  unfold repeatP at h
  rcases e : withinT L [40] [41] (p + 1) n with e1 | ⟨y, r, i⟩
  · rw [e] at h; cases h
  · rw [e] at h; simp only at h
    rcases e2 : blockP L row b r i with e1 | ⟨z, r2, i2⟩
    · rw [e2] at h; cases h
    · rw [e2] at h; simp only at h
      have h3 := blockP_in hE hr _ _ _ _ _ _ e2
      obtain ⟨g1, g2, g3⟩ := mkS_cnt h
      omega
theorem stmtP_inT {L : List Tok} (hE : TEnd L) {row ch : Nat → Nat → Nat → TR} (hr : InR L row) (hc : InT L ch) : InT L (stmtP L row ch) := by
  intro b p n x q m h
  unfold stmtP at h
  split at h
  · obtain ⟨y, i, h1, h2, h3⟩ := ofPart_cts h; exact valueP_in hE h1
  split at h
  · unfold declareP at h
    split at h
    · cases h
    · obtain ⟨y, i, h1, h2, h3⟩ := ofPart_cts h; exact valueP_in hE h1
  split at h
  · unfold storeP at h
    rcases e : withinT L [91] [93] (p + 1) n with e1 | ⟨y, r, i⟩
    · rw [e] at h; cases h
    · rw [e] at h; simp only at h
      rcases e2 : valueP L r i with e1 | ⟨z, r2, i2⟩
      · rw [e2] at h; cases h
      · rw [e2] at h; simp only at h
        have h3 := valueP_in hE e2
        obtain ⟨g1, g2, g3⟩ := mkS_cnt h
        omega
  split at h
  · obtain ⟨y, i, h1, h2, h3⟩ := ofPart_cts h; exact lastP_in hE h1
  split at h
  · obtain ⟨y, i, h1, h2, h3⟩ := ofPart_cts h; exact lastP_in hE h1
  split at h
  · unfold intoP at h
    split at h
    · cases h
    split at h
    · cases h
    · obtain ⟨y, i, h1, h2, h3⟩ := ofPart_cts h; exact lastP_in hE h1
  split at h
  · unfold stopP at h
    split at h
    · cases h
    · rename_i g
      obtain ⟨g1, g2, g3⟩ := mkS_cnt h
      have := hE.text (p := p + 1) (by rw [Decidable.of_not_not g]; simp)
      omega
  split at h
  · exact chooseP_in hE hr hc _ _ _ _ _ _ h
  split at h
  · exact repeatP_in hE hr _ _ _ _ _ _ h
  · cases h
theorem stmtF_in {L : List Tok} (hE : TEnd L) : ∀ f, InT L (stmtF L f 0) ∧ InR L (stmtF L f 1) ∧ InT L (stmtF L f 2) := by
  intro f
  induction f with
  | zero => exact ⟨fun _ _ _ _ _ _ h => (by cases h), fun _ _ _ _ _ _ h => (by cases h), fun _ _ _ _ _ _ h => (by cases h)⟩
  | succ f ih =>
    obtain ⟨i0, i1, i2⟩ := ih
    refine ⟨stmtP_inT hE i1 i2, ?_, chooseP_in hE i1 i2⟩
    intro b p n x q m h
    rw [stmtF_row] at h
    split at h
    · rename_i g; cases h; exact g
    · rcases e : stmtF L f 0 b p n with e1 | ⟨y, r, i⟩
      · rw [e] at h; cases h
      · rw [e] at h; simp only at h
        rcases e2 : stmtF L f 1 b r i with e1 | ⟨z, r2, i2⟩
        · rw [e2] at h; cases h
        · rw [e2] at h; simp only at h
          have h3 := i1 _ _ _ _ _ _ e2
          cases h
          exact h3
theorem ofPart_one {t : Tok} {k : Int} {s : ByteArray} {c : Int} {r : PR} {l : List PT} {q m : Nat} (h : ofPart t k s c r = .ok (l, q, m)) : l.length = 1 := by
  unfold ofPart at h
  rcases r with e | ⟨x, r, i⟩
  · cases h
  · simp only at h
    rw [(mkS_cnt h).1]; rfl
theorem chooseP_one {L : List Tok} {row ch : Nat → Nat → Nat → TR} {b p n : Nat} {l : List PT} {q m : Nat} (h : chooseP L row ch b p n = .ok (l, q, m)) : l.length = 1 := by
  unfold chooseP at h
  rcases e : withinT L [40] [41] (p + 1) n with e1 | ⟨y, r, i⟩
  · rw [e] at h; cases h
  · rw [e] at h; simp only at h
    rcases e2 : blockP L row b r i with e1 | ⟨z, r2, i2⟩
    · rw [e2] at h; cases h
    · rw [e2] at h; simp only at h
      split at h
      · rcases e3 : otherP L row ch b (r2 + 1) i2 with e1 | ⟨u, r3, i3⟩
        · rw [e3] at h; cases h
        · rw [e3] at h; simp only at h
          rw [(mkS_cnt h).1]; rfl
      · rw [(mkS_cnt h).1]; rfl
theorem stmtP_one {L : List Tok} {row ch : Nat → Nat → Nat → TR} {b p n : Nat} {l : List PT} {q m : Nat} (h : stmtP L row ch b p n = .ok (l, q, m)) : l.length = 1 := by
  unfold stmtP at h
  split at h
  · exact ofPart_one h
  split at h
  · unfold declareP at h
    split at h
    · cases h
    · exact ofPart_one h
  split at h
  · unfold storeP at h
    rcases e : withinT L [91] [93] (p + 1) n with e1 | ⟨y, r, i⟩
    · rw [e] at h; cases h
    · rw [e] at h; simp only at h
      rcases e2 : valueP L r i with e1 | ⟨z, r2, i2⟩
      · rw [e2] at h; cases h
      · rw [e2] at h; simp only at h
        rw [(mkS_cnt h).1]; rfl
  split at h
  · exact ofPart_one h
  split at h
  · exact ofPart_one h
  split at h
  · unfold intoP at h
    split at h
    · cases h
    split at h
    · cases h
    · exact ofPart_one h
  split at h
  · unfold stopP at h
    split at h
    · cases h
    · rw [(mkS_cnt h).1]; rfl
  split at h
  · exact chooseP_one h
  split at h
  · unfold repeatP at h
    rcases e : withinT L [40] [41] (p + 1) n with e1 | ⟨y, r, i⟩
    · rw [e] at h; cases h
    · rw [e] at h; simp only at h
      rcases e2 : blockP L row b r i with e1 | ⟨z, r2, i2⟩
      · rw [e2] at h; cases h
      · rw [e2] at h; simp only at h
        rw [(mkS_cnt h).1]; rfl
  · cases h
theorem stmtT_one {L : List Tok} {b p n : Nat} {l : List PT} {q m : Nat} (h : stmtT L b p n = .ok (l, q, m)) : l.length = 1 := stmtP_one (show stmtP L (stmtF L (2 * L.length + 1) 1) (stmtF L (2 * L.length + 1) 2) b p n = _ from h)

theorem textF_in {L : List Tok} (hE : TEnd L) : ∀ f p n l q m, textF L f p n = .ok (l, q, m) → p < L.length → p + l.length ≤ q ∧ q < L.length := by
  intro f
  induction f with
  | zero => intro p n l q m h; cases h
  | succ f ih =>
    intro p n l q m h hp
    unfold textF at h
    split at h
    · cases h; exact ⟨by simp, hp⟩
    · rcases e : stmtT L 0 p n with e1 | ⟨y, r, i⟩
      · rw [e] at h; cases h
      · rw [e] at h; simp only at h
        rcases e2 : textF L f r i with e1 | ⟨z, r2, i2⟩
        · rw [e2] at h; cases h
        · rw [e2] at h; simp only at h
          cases h
          have o1 := stmtT_one e
          have hr := (stmtF_in hE _).1 _ _ _ _ _ _ e
          have hf := ((stmtF_fwd L _).1 _ _ _ _ _ _ e).1
          have := ih _ _ _ _ _ e2 hr
          rw [List.length_append]
          omega
/-- a text read of the same tokens elsewhere -/
theorem textF_mv {B C : List Tok} {d c : Nat} (H : ∀ K, Mv B C K d) (hl : B.length ≤ C.length) : ∀ f p n l q m, textF B f p n = .ok (l, q, m) → n + c ≤ 600 → ∀ F, l.length + 1 ≤ F →
    (m + c ≤ 600 ∧ textF C F (d + p) (n + c) = .ok (l, d + q, m + c)) ∨ (600 < m + c ∧ ∃ e, textF C F (d + p) (n + c) = .error (e, 42)) := by
  intro f
  induction f with
  | zero => intro p n l q m h; cases h
  | succ f ih =>
    intro p n l q m h hn F hF
    cases F with
    | zero => omega
    | succ F =>
      have k1 := (H (p + 1) p (by omega)).1
      unfold textF at h ⊢
      rw [k1]
      split at h
      · rename_i g; rw [if_pos g]; cases h; left; exact ⟨hn, rfl⟩
      · rename_i g; rw [if_neg g]
        rcases e : stmtT B 0 p n with e1 | ⟨y, r, i⟩
        · rw [e] at h; cases h
        · rw [e] at h; simp only at h
          rcases e2 : textF B f r i with e1 | ⟨z, r2, i2⟩
          · rw [e2] at h; cases h
          · rw [e2] at h; simp only at h
            cases h
            have c1 := textF_cts B _ _ _ _ _ _ e2
            have o1 := stmtT_one e
            rw [List.length_append] at hF
            have hE : ElseAt B C r d := by unfold ElseAt; rw [(H (r + 1) r (by omega)).2.1]
            rcases (stmtF_mv (c := c) (H r) hl hE (2 * B.length + 2) (2 * C.length + 2) (by omega)).1 _ _ _ _ _ _ e (Nat.le_refl _) hn with ⟨h1, h2⟩ | ⟨h1, e', h2⟩
            · rw [show stmtT C 0 (d + p) (n + c) = _ from h2]; simp only
              rcases ih _ _ _ _ _ e2 h1 F (by omega) with ⟨h3, h4⟩ | ⟨h3, e', h4⟩
              · rw [h4]; left; exact ⟨h3, rfl⟩
              · rw [h4]; right; exact ⟨h3, e', rfl⟩
            · rw [show stmtT C 0 (d + p) (n + c) = _ from h2]; right; exact ⟨by omega, e', rfl⟩
/-- the first text's statements, and what comes behind them -/
theorem textF_pre {A C : List Tok} {K : Nat} (hE : TEnd A) (hA : A.length = K + 1) (hk : ∀ i, i < K → (tk A i).kind ≠ 0) (H : Mv A C K 0) (hl : A.length ≤ C.length) (hel : ElseAt A C K 0) (hck : (tk C K).kind = 0 ∨ (tk C K).kind ≠ 0) :
    ∀ f p n l q m, textF A f p n = .ok (l, q, m) → p ≤ K → n ≤ 600 → q = K ∧ p + l.length ≤ K ∧ m ≤ 600 ∧ ∀ F r, textF C F K m = r → textF C (F + l.length) p n = (match r with | .error e => .error e | .ok (l2, q2, m2) => .ok (l ++ l2, q2, m2)) := by
  intro f
  induction f with
  | zero => intro p n l q m h; cases h
  | succ f ih =>
    intro p n l q m h hp hn
    unfold textF at h
    split at h
    · rename_i g
      cases h
      have hpk : p = K := by
        rcases Nat.lt_or_ge p K with h1 | h1
        · exact absurd g (hk p h1)
        · omega
      subst hpk
      refine ⟨rfl, by simp, hn, fun F r hr => ?_⟩
      rw [List.length_nil, Nat.add_zero, hr]
      rcases r with e | ⟨l2, q2, m2⟩ <;> rfl
    · rename_i g
      rcases e : stmtT A 0 p n with e1 | ⟨y, r, i⟩
      · rw [e] at h; cases h
      · rw [e] at h; simp only at h
        rcases e2 : textF A f r i with e1 | ⟨z, r2, i2⟩
        · rw [e2] at h; cases h
        · rw [e2] at h; simp only at h
          cases h
          have o1 := stmtT_one e
          have hr := (stmtF_in hE _).1 _ _ _ _ _ _ e
          have hf := (stmtF_fwd A _).1 _ _ _ _ _ _ e
          obtain ⟨g1, g2, g3, g4⟩ := ih _ _ _ _ _ e2 (by omega) (hf.2 hn)
          have hpK : p < K := by omega
          refine ⟨g1, by rw [List.length_append]; omega, g3, fun F rr hrr => ?_⟩
          rw [List.length_append, o1, show F + (1 + z.length) = (F + z.length) + 1 by omega]
          unfold textF
          have k1 := (H p hpK).1
          rw [Nat.zero_add] at k1
          rw [if_neg (by rw [k1]; exact g)]
          have hs := (stmtF_mv (c := 0) H hl hel (2 * A.length + 2) (2 * C.length + 2) (by omega)).1 _ _ _ _ _ _ e (by omega) (by omega)
          have hs2 : stmtT C 0 p n = .ok (y, r, i) := by
            rcases hs with ⟨h1, h2⟩ | ⟨h1, e', h2⟩
            · unfold stmtT; simpa using h2
            · have := hf.2 hn; omega
          rw [hs2]; simp only
          rw [g4 F rr hrr]
          rcases rr with e | ⟨l2, q2, m2⟩
          · rfl
          · simp only [List.append_assoc]
/-- tokens of a kind -/
theorem cutG_kinds : ∀ (f p : Nat) (R : List UInt8) (l : List Tok), cutG f p R = .inl l → (∀ i, i + 1 < l.length → (tk l i).kind ≠ 0) ∧ (∀ t ∈ l, t.kind = 2 → isW t.text = false) := by
  intro f
  induction f with
  | zero => intro p R l h; cases h
  | succ f ih =>
    intro p R l h
    cases R with
    | nil =>
      cases h
      exact ⟨fun i hi => by simp at hi, fun t ht hk => by simp at ht; subst ht; cases hk⟩
    | cons b T =>
      unfold cutG at h
      rcases ht : tokOf (b :: T) with ⟨kd, m, n⟩ | ⟨o, er⟩
      · rw [ht] at h
        simp only at h
        rcases hc : cutG f (p + n + gapLen ((b :: T).drop n)) (((b :: T).drop n).drop (gapLen ((b :: T).drop n))) with l' | ⟨k', e'⟩
        · rw [hc] at h
          cases h
          obtain ⟨i1, i2⟩ := ih _ _ _ hc
          refine ⟨fun i hi => ?_, fun t htm hk => ?_⟩
          · cases i with
            | zero => exact (tokOf_tok ht).2.2
            | succ i => exact i1 i (by simpa using hi)
          · rcases List.mem_cons.1 htm with rfl | h2
            · simp only at hk ⊢
              subst hk
              change (if isD b = true then numTok (b :: T) else if isL b = true then wordTok (b :: T) else signTok (b :: T)) = _ at ht
              split at ht
              · unfold numTok at ht
                simp only at ht
                split at ht
                · cases ht
                · split at ht
                  · cases ht
                  · injection ht with ht; injection ht with h1 _; cases h1
              · split at ht
                · unfold wordTok at ht
                  simp only at ht
                  split at ht
                  · injection ht with ht; injection ht with h1 _; cases h1
                  · rename_i hw
                    split at ht
                    · cases ht
                    · injection ht with ht; injection ht with _ h1; injection h1 with _ h1; subst h1
                      simpa using hw
                · unfold signTok at ht
                  simp only at ht
                  split at ht
                  · cases ht
                  · injection ht with ht; injection ht with h1 _; cases h1
            · exact i2 t h2 hk
        · rw [hc] at h; cases h
      · rw [ht] at h; cases h
theorem cut_kinds {s : List UInt8} {l : List Tok} (h : cut s = .inl l) : (∀ i, i + 1 < l.length → (tk l i).kind ≠ 0) ∧ (∀ t ∈ l, t.kind = 2 → isW t.text = false) := by
  unfold cut at h
  split at h
  · cases h
  · exact cutG_kinds _ _ _ _ h
/-- what can be read begins with no else -/
theorem no_else {B : List Tok} (hE : TEnd B) (hl : 1 ≤ B.length) (hk : (∀ i, i + 1 < B.length → (tk B i).kind ≠ 0) ∧ (∀ t ∈ B, t.kind = 2 → isW t.text = false)) {f n : Nat} {l : List PT} {q m : Nat} (h : textF B f 0 n = .ok (l, q, m)) : (tk B 0).text ≠ [101, 108, 115, 101] := by
  cases f with
  | zero => cases h
  | succ f =>
    unfold textF at h
    intro hx
    split at h
    · rename_i g
      rcases Nat.lt_or_ge 1 B.length with h1 | h1
      · exact hk.1 0 (by omega) g
      · have := (hE 0 (by omega)).2
        rw [this] at hx; cases hx
    · rename_i g
      rcases e : stmtT B 0 0 n with e1 | ⟨y, r, i⟩
      · rw [e] at h; cases h
      · have e' : stmtP B (stmtF B (2 * B.length + 1) 1) (stmtF B (2 * B.length + 1) 2) 0 0 n = .ok (y, r, i) := e
        have h0 : 0 < B.length := by omega
        have hm : tk B 0 ∈ B := by rw [← tk_eq h0]; exact List.getElem_mem h0
        unfold stmtP at e'
        split at e'
        · rename_i g2
          have := hk.2 _ hm g2
          rw [hx] at this
          exact absurd this (by decide)
        · rw [hx] at e'
          simp at e'
/-- a text behind another one -/
theorem parse_two (s t : List UInt8) (hlen : s.length + 1 + t.length ≤ 8192) (la lb : List PT) (ha : parseT s = .ok la) (hb : parseT t = .ok lb) :
    (tcnts la + tcnts lb ≤ 600 → parseT (s ++ 10 :: t) = .ok (la ++ lb)) ∧ (600 < tcnts la + tcnts lb → ∃ k, parseT (s ++ 10 :: t) = .error (k, 42)) := by
  unfold parseT at ha hb ⊢
  rcases hA : cut s with A | ⟨k, e⟩
  · rcases hB : cut t with B | ⟨k, e⟩
    · rw [hA] at ha; rw [hB] at hb
      simp only at ha hb
      rcases eA : textF A (A.length + 1) 0 0 with e1 | ⟨la', qa, ma⟩
      · rw [eA] at ha; cases ha
      · rcases eB : textF B (B.length + 1) 0 0 with e1 | ⟨lb', qb, mb⟩
        · rw [eB] at hb; cases hb
        · rw [eA] at ha; rw [eB] at hb
          cases ha; cases hb
          obtain ⟨EA, lA1, lA2⟩ := cut_end hA
          obtain ⟨EB, lB1, lB2⟩ := cut_end hB
          have kA := cut_kinds hA
          have kB := cut_kinds hB
          have hC := cut_two s t hlen
          rw [hA, hB] at hC
          obtain ⟨C, hCC⟩ : ∃ C, C = A.dropLast ++ B.map fun t => { t with pos := t.pos + (s.length + 1) } := ⟨_, rfl⟩
          have hC' : cut (s ++ 10 :: t) = .inl C := by rw [hC, hCC]; rfl
          rw [hC']
          simp only
          obtain ⟨K, hK⟩ : ∃ K, A.dropLast.length = K := ⟨_, rfl⟩
          have hAK : A.length = K + 1 := by rw [← hK, List.length_dropLast]; omega
          have hCl : C.length = K + B.length := by rw [hCC, List.length_append, hK, List.length_map]
          have M1 : Mv A C K 0 := by
            intro i hi
            have : tk C (0 + i) = tk A i := by
              unfold tk
              rw [Nat.zero_add, hCC, List.getD, List.getD, List.getElem?_append_left (by rw [hK]; exact hi), List.getElem?_dropLast, if_pos (by omega)]
            rw [this]; exact ⟨rfl, rfl, rfl⟩
          have M2 : ∀ K', Mv B C K' K := by
            intro K' i hi
            have : (C[K + i]?) = (B[i]?).map fun t => { t with pos := t.pos + (s.length + 1) } := by
              rw [hCC, List.getElem?_append_right (by rw [hK]; omega), hK, Nat.add_sub_cancel_left, List.getElem?_map]
            unfold tk
            rw [List.getD, List.getD, this]
            rcases B[i]? with _ | b
            · exact ⟨rfl, rfl, rfl⟩
            · exact ⟨rfl, rfl, rfl⟩
          have hne := no_else EB lB1 kB eB
          have hel : ElseAt A C K 0 := by
            unfold ElseAt
            rw [Nat.zero_add]
            have h1 := (M2 1 0 (by omega)).2.1
            rw [Nat.add_zero] at h1
            rw [h1, (EA K (by omega)).2]
            constructor
            · intro h; exact absurd h hne
            · intro h; cases h
          obtain ⟨p1, p2, p3, p4⟩ := textF_pre EA hAK (fun i hi => kA.1 i (by omega)) M1 (by omega) hel (Decidable.em _) _ _ _ _ _ _ eA (by omega) (by omega)
          have cA := textF_cts A _ _ _ _ _ _ eA
          have cB := textF_cts B _ _ _ _ _ _ eB
          rw [Nat.zero_add] at cA cB p2
          have lenB : lb.length ≤ B.length := by
            have := textF_in EB _ _ _ _ _ _ eB (by omega)
            omega
          have hF : C.length + 1 = (C.length + 1 - la.length) + la.length := by omega
          have hm := textF_mv (c := ma) M2 (by omega) _ _ _ _ _ _ eB (by omega) (C.length + 1 - la.length) (by omega)
          rw [Nat.add_zero, Nat.zero_add] at hm
          rw [hF]
          rcases hm with ⟨h1, h2⟩ | ⟨h1, e', h2⟩
          · rw [p4 _ _ h2]
            simp only
            exact ⟨fun _ => trivial, fun h => by omega⟩
          · rw [p4 _ _ h2]
            simp only
            exact ⟨fun h => by omega, fun _ => ⟨e', rfl⟩⟩
    · rw [hB] at hb; cases hb
  · rw [hA] at ha; cases ha
end Go.Proofs.YtnofibjchhcmeabDoor
namespace Go.Proofs.YtnofibjchhcmeabDoor
open Go.RowKit Go.Maps
set_option linter.unusedVariables false

def toPE : EL → List PE
  | .leaf => []
  | .inner _ (k, n, s, p) _ a r => ⟨k, n, s, p, a, 0⟩ :: toPE r
theorem toPE_len (l : EL) : (toPE l).length = elen l := by
  induction l with
  | leaf => rfl
  | inner i d v a r _ ih => obtain ⟨k, n, s, p⟩ := d; simp only [toPE, elen, List.length_cons, ih]
theorem EAt.of_row {w : World} {ok : Nat → Prop} (l : EL) : ∀ {b o : Nat}, EAt w ok (erow (toPE l)) b o → EAt w ok l b o := by
  induction l with
  | leaf => intro b o _; trivial
  | inner i d v a r _ ih =>
    obtain ⟨k, n, s, p⟩ := d
    intro b o ⟨h1, h2, h3, h4, h5, h6⟩
    exact ⟨h1, h2, h3, h4, h5, ih h6⟩
theorem ESlP.of_row {w : World} {ok : Nat → Prop} {v : Value} {l : EL} (h : ESlP w ok v (erow (toPE l))) : ESlP w ok v l := by
  obtain ⟨ad, cap, b, o, h1, h2, h3, h4, h5⟩ := h
  rw [elen_row, toPE_len] at h1 h2 h4
  exact ⟨ad, cap, b, o, h1, h2, h3, h4, h5.of_row⟩
def toPT : SL → List PT
  | .leaf => []
  | .inner _ (k, s, c, a) _ x r => ⟨k, s, c, a, slft x, srgt x⟩ :: toPT r
theorem toPT_len (l : SL) : (toPT l).length = slen l := by
  induction l with
  | leaf => rfl
  | inner i d v x r _ ih => obtain ⟨k, s, c, a⟩ := d; simp only [toPT, slen, List.length_cons, ih]
theorem SAt.of_row {w : World} {ok : Nat → Prop} (l : SL) : ∀ {b o : Nat}, SAt w ok (srow (toPT l)) b o → SAt w ok l b o := by
  induction l with
  | leaf => intro b o _; trivial
  | inner i d v x r _ ih =>
    obtain ⟨k, s, c, a⟩ := d
    intro b o h
    cases x with
    | leaf =>
      obtain ⟨h1, h2, h3, h4, ⟨ad, cap, b', o', f1, f2, f3, f4, f5⟩, ⟨ad', cap', b'', o'', g1, g2, g3, g4, g5⟩, hr⟩ := h
      exact ⟨h1, h2, h3, h4, ⟨ad, cap, f1, f3⟩, ⟨ad', cap', g1, g3⟩, ih hr⟩
    | inner j d' v' p q =>
      obtain ⟨h1, h2, h3, h4, h5, h6, hr⟩ := h
      exact ⟨h1, h2, h3, h4, h5, h6, ih hr⟩
theorem SSlP.of_row {w : World} {ok : Nat → Prop} {v : Value} {l : SL} (h : SSlP w ok v (srow (toPT l))) : SSlP w ok v l := by
  obtain ⟨ad, cap, b, o, h1, h2, h3, h4, h5⟩ := h
  rw [slen_row, toPT_len] at h1 h2 h4
  exact ⟨ad, cap, b, o, h1, h2, h3, h4, h5.of_row⟩

/-- expressions copied: a row of its own -/
def CEv (w' : World) (base : Nat) (l : EL) (v : Value) : Prop :=
  ∃ ys : List (PE × Value), ys.map (·.1) = toPE l ∧ XOwn w' base v (rxs ys) ∧ ∀ y ∈ ys, ESlP w' (fun j => base ≤ j ∧ some j ≠ v.ownBlock) y.2 y.1.args
theorem CEv.esl {w' : World} {base : Nat} {l : EL} {v : Value} (h : CEv w' base l v) : ESlP w' (fun j => base ≤ j) v l := by
  obtain ⟨ys, h1, h2, h3⟩ := h
  have := h2.esl (ok := fun j => base ≤ j) (fun k hk => hk) (fun y hy => (h3 y hy).mono fun j hj => hj.1)
  rw [h1] at this
  exact this.of_row
def CEP (w : World) (l : EL) (e : Ending) (w' : World) : Prop := ∃ v1 v2 v3, e = .returned (.slice v1 v2 v3) ∧ CEv w' w.heap.size l (.slice v1 v2 v3) ∧ Below w.heap.size w w'
/-- statements copied: rows of their own -/
def CSv (w' : World) (base : Nat) (l : SL) (v : Value) : Prop :=
  ∃ ys : List RT, ys.map (·.x) = toPT l ∧ SOwn w' base v ys ∧ ∀ y ∈ ys, TM w' (fun j => base ≤ j ∧ some j ≠ v.ownBlock) y
theorem CSv.ssl {w' : World} {base : Nat} {l : SL} {v : Value} (h : CSv w' base l v) : SSlP w' (fun j => base ≤ j) v l := by
  obtain ⟨ys, h1, h2, h3⟩ := h
  have := h2.ssl (ok := fun j => base ≤ j) (fun k hk => hk) (fun y hy => (h3 y hy).mono fun j hj => hj.1)
  rw [h1] at this
  exact this.of_row
end Go.Proofs.YtnofibjchhcmeabDoor
namespace Go.Proofs.YtnofibjchhcmeabDoor
open Go.RowKit Go.Maps
set_option linter.unusedVariables false

theorem c5 {W : World} {k : Nat} {T : TypeId} {a0 a1 a2 a3 a4 : Value} (h : W.heap[k]? = some (.cells #[a0, a1, a2, a3, a4] T)) : W.cell? ⟨k, 0, none⟩ = some a0 ∧ W.cell? ⟨k, 1, none⟩ = some a1 ∧ W.cell? ⟨k, 2, none⟩ = some a2 ∧ W.cell? ⟨k, 3, none⟩ = some a3 ∧ W.cell? ⟨k, 4, none⟩ = some a4 := by
  refine ⟨?_, ?_, ?_, ?_, ?_⟩
  · rw [cell_of_row W k 0 _ _ _ h]; rfl
  · rw [cell_of_row W k 1 _ _ _ h]; rfl
  · rw [cell_of_row W k 2 _ _ _ h]; rfl
  · rw [cell_of_row W k 3 _ _ _ h]; rfl
  · rw [cell_of_row W k 4 _ _ _ h]; rfl
/-- while expressions are copied -/
def CX (w : World) (l : EL) (ok : Nat → Prop) (b o : Nat) (u3 u8 : Value) (wr : World) : Prop :=
  ∃ (r : EL) (i : Nat) (ys : List (PE × Value)), u8 = .int .i64 (i : Int) ∧ i + elen r = elen l ∧ ys.map (·.1) ++ toPE r = toPE l ∧ ys.length = i ∧ ecnt r ≤ ecnt l ∧ XOwn wr w.heap.size u3 (rxs ys) ∧ (∀ y ∈ ys, ESlP wr (fun j => w.heap.size ≤ j ∧ some j ≠ u3.ownBlock) y.2 y.1.args) ∧ EAt w ok r b (o + i * 5) ∧ Below w.heap.size w wr
theorem ESlP.keep' {w w' : World} {ok ok' : Nat → Prop} {v : Value} {l : EL} (h : ESlP w ok v l) (hb : ∀ k, ok k → k < w.heap.size → w'.heap[k]? = w.heap[k]? ∧ ok' k) : ESlP w' ok' v l := by
  have h1 : ESlP w (fun k => ok k ∧ ok' k) v l := h.mono' fun k a b => ⟨a, (hb k a b).2⟩
  exact (h1.keep fun k a b => (hb k a.1 b).1).mono fun k a => a.2
theorem rxs_app (a b : List (PE × Value)) : rxs (a ++ b) = rxs a ++ rxs b := by simp [rxs]
theorem rxs_len (a : List (PE × Value)) : (rxs a).length = a.length := by simp [rxs]

set_option maxRecDepth 100000 in
set_option maxHeartbeats 8000000 in
theorem copyExprs_any : ∀ (N : Nat) (l : EL) (ok : Nat → Prop) (v : Value) (w : World), ecnt l ≤ N → N ≤ 1000000 → ESlP w ok v l → Calls Tryd.prog 32 #[v] w (CEP w l) := by
  intro N
  induction N using Nat.strongRecOn with
  | _ N ih =>
  intro l ok v w hc hN hes
  obtain ⟨ad, cap, b, o, rfl, h2, h3, h4, h5⟩ := hes
  obtain ⟨P, hP⟩ : ∃ P, CEP w l = P := ⟨_, rfl⟩
  have HP : Hid (CEP w l = P) := hP
  rw [hP]
  have hll := elen_le l
  have HIH : Hid (∀ M, M < N → ∀ (l : EL) (ok : Nat → Prop) (v : Value) (w : World), ecnt l ≤ M → M ≤ 1000000 → ESlP w ok v l → Calls Tryd.prog 32 #[v] w (CEP w l)) := ih
  have E0 : Hid (CX w l ok b o (.slice none 0 0) (.int .i64 0) w) := ⟨l, 0, [], rfl, by omega, rfl, rfl, Nat.le_refl _, XOwn.nil _ _, (by intro y hy; cases hy), by simpa using h5, Below.refl _ _⟩
  have HAD : Hid (0 < elen l → ad = some ⟨b, o, none⟩ ∧ ok b) := h4
  obtain ⟨i0, hi0, hz0, hz1, hz2⟩ := info_parts info42
  unfold maxLen at h3
  clear ih hP h4 h5
  go_enter Tryd.func32, Tryd.ntmps32
  go_wp2
  go_loopw [3, 8] (fun u3 u8 wr => Hid (CX w l ok b o u3 u8 wr)) (fun _ u8 _ => elen l - (intOf u8).toNat)
  case atStart => exact E0
  case round =>
    clear E0
    obtain ⟨r, i, ys, rfl, hi, hys, hyl, hcr, hown, htm, hat, hbl⟩ := hrel.out
    clear hrel
    have HBL : Hid (Below w.heap.size w wr) := hbl
    have hsz := hbl.size
    obtain ⟨u31, u32, u33, rfl⟩ := hown.sl
    cases r with
    | leaf =>
      have hi' : i = elen l := by simpa [elen] using hi
      have HF : Hid (P (.returned (.slice u31 u32 u33)) wr) := by show P _ _; rw [← HP.out]; exact ⟨_, _, _, rfl, ⟨ys, by simpa [toPE] using hys, hown, htm⟩, HBL.out⟩
      have hil : ¬ ((i : Int) < (elen l : Int)) := by omega
      clear hbl hat hi hown htm hi'
      go_wp2
      first | exact HF.out | (go_ret; exact HF.out)
    | inner j d q a r =>
      obtain ⟨k, n, s, p⟩ := d
      obtain ⟨g1, g2, g3, g4, ⟨ad', cap', b', o', f1, f2, f3, f4, f5⟩, hr⟩ := hat
      simp only [elen, ecnt] at hi hcr
      obtain ⟨e1, e2⟩ := HAD.out (by omega)
      subst e1
      have hbw : b < w.heap.size := World.block_lt_of_cell? w ⟨b, o + i * 5, none⟩ g1
      have c0 := (hbl.cell (p := ⟨b, o + i * 5, none⟩) hbw).trans g1
      have c1 := (hbl.cell (p := ⟨b, o + i * 5 + 1, none⟩) hbw).trans g2
      have c2 := (hbl.cell (p := ⟨b, o + i * 5 + 2, none⟩) hbw).trans g3
      have c3 := (hbl.cell (p := ⟨b, o + i * 5 + 3, none⟩) hbw).trans g4
      have c4 := (hbl.cell (p := ⟨b, o + i * 5 + 4, none⟩) hbw).trans f1
      have HCA : Hid (∀ W, Below wr.heap.size wr W → Calls Tryd.prog 32 #[.slice ad' (elen a) cap'] W (CEP W a)) := fun W hW => HIH.out (ecnt a) (by omega) a ok _ W (Nat.le_refl _) (by omega) (ESlP.keep (w := w) ⟨ad', cap', b', o', rfl, f2, f3, f4, f5⟩ fun k _ hk => (hW.block k (by omega)).trans (hbl.block k hk))
      have HRA : Hid (EAt w ok r b (o + (i + 1) * 5)) := by rw [show o + (i + 1) * 5 = o + i * 5 + 5 by omega]; exact hr
      have HO1 : Hid (XOwn wr w.heap.size (.slice u31 u32 u33) (rxs ys)) := hown
      have HT1 : Hid (∀ y ∈ ys, ESlP wr (fun j => w.heap.size ≤ j ∧ some j ≠ (Value.slice u31 u32 u33).ownBlock) y.2 y.1.args) := htm
      have HNM : Hid (i + (elen r + 1) = elen l ∧ ecnt a + ecnt r + 1 ≤ ecnt l ∧ ys.length = i ∧ ecnt l ≤ 1000000) := ⟨hi, hcr, hyl, by omega⟩
      have HYS : Hid (ys.map (·.1) ++ (⟨k, n, s, p, a, 0⟩ :: toPE r) = toPE l) := hys
      have hil : (i : Int) < (elen l : Int) := by omega
      clear hr f5 hbl f4 f2 hown htm hys hyl g1 g2 g3 g4 f1 hcr
      go_upto_region 5 with fail
      go_wp2_with fail
      have hW1 : (wr.alloc (.cells #[.int .i64 k, .int .i64 n, .string s, .int .i64 p, .slice ad' (elen a) cap'] 42)).heap.size = wr.heap.size + 1 := by simp
      refine (HCA.out _ ((Below.refl _ wr).alloc (Nat.le_refl _) _)).mono ?_
      rintro e w2 ⟨v1, v2, v3, rfl, hcv, hb2⟩
      have hb2' : Below (wr.heap.size + 1) (wr.alloc (.cells #[.int .i64 k, .int .i64 n, .string s, .int .i64 p, .slice ad' (elen a) cap'] 42)) w2 := by rw [← hW1]; exact hb2
      have hs2 : wr.heap.size + 1 ≤ w2.heap.size := by have := hb2'.size; rw [hW1] at this; exact this
      have hcv' : CEv w2 (wr.heap.size + 1) a (.slice v1 v2 v3) := by rw [← hW1]; exact hcv
      have hB2 : w2.heap[wr.heap.size]? = some (.cells #[.int .i64 k, .int .i64 n, .string s, .int .i64 p, .slice ad' (elen a) cap'] 42) := (hb2'.block _ (by omega)).trans (heap_alloc_new _ _)
      have hk2 : ∀ j, j < wr.heap.size → w2.heap[j]? = wr.heap[j]? := fun j hj => (hb2'.block j (by omega)).trans (heap_alloc_old _ _ hj)
      have HB3 : Hid ((w2.setCell ⟨wr.heap.size, 4, none⟩ (.slice v1 v2 v3)).heap[wr.heap.size]? = some (.cells #[.int .i64 k, .int .i64 n, .string s, .int .i64 p, .slice v1 v2 v3] 42)) := heap_setCell_same w2 wr.heap.size 4 _ 42 (.slice v1 v2 v3) hB2
      have HK3 : Hid (∀ j, j ≠ wr.heap.size → (w2.setCell ⟨wr.heap.size, 4, none⟩ (.slice v1 v2 v3)).heap[j]? = w2.heap[j]?) := fun j hj => Below.heap_setCell _ _ _ _ hj
      have HS3 : Hid ((w2.setCell ⟨wr.heap.size, 4, none⟩ (.slice v1 v2 v3)).heap.size = w2.heap.size) := by show _ = _; simp [World.setCell]
      have HL3 : Hid (Below w.heap.size w (w2.setCell ⟨wr.heap.size, 4, none⟩ (.slice v1 v2 v3))) := (HBL.out.trans ((((Below.refl wr.heap.size wr).alloc (Nat.le_refl _) _).trans (hb2'.mono (by omega))).mono hsz)).setCell (p := ⟨wr.heap.size, 4, none⟩) hsz _
      have HK2 : Hid ((∀ j, j < wr.heap.size → w2.heap[j]? = wr.heap[j]?) ∧ wr.heap.size + 1 ≤ w2.heap.size ∧ w.heap.size ≤ wr.heap.size) := ⟨hk2, hs2, hsz⟩
      have HCV : Hid (CEv w2 (wr.heap.size + 1) a (.slice v1 v2 v3)) := hcv'
      obtain ⟨_, _, _, _, x4⟩ := c5 hB2
      have y4 := frozen_of_row w2 wr.heap.size 4 _ _ hB2
      clear hcv hcv' hb2 hb2' hB2 hk2 hs2 hW1
      go_upto_region 6 with fail
      generalize w2.setCell ⟨wr.heap.size, 4, none⟩ (.slice v1 v2 v3) = w3 at HB3 HK3 HS3 HL3 ⊢
      obtain ⟨d0, d1, d2, d3, d4⟩ := c5 HB3.out
      have hlt3 : wr.heap.size < w3.heap.size := by have := HS3.out; have := HK2.out; omega
      have hbk : ∀ j, j < wr.heap.size → w3.heap[j]? = wr.heap[j]? := fun j hj => (HK3.out j (by omega)).trans (HK2.out.1 j hj)
      have HO3 : Hid (w3.ownsRow w.heap.size 42 5 (.slice u31 u32 u33) (rxs ys).length (xcs (rxs ys))) := HO1.out.keep fun j _ hj => hbk j hj
      have HT3 : Hid (∀ y ∈ ys, ESlP w3 (fun j => w.heap.size ≤ j ∧ some j ≠ (Value.slice u31 u32 u33).ownBlock) y.2 y.1.args) := fun y hy => (HT1.out y hy).keep fun j _ hj => hbk j hj
      have HOL : Hid (∀ k, (Value.slice u31 u32 u33).ownBlock = some k → w.heap.size ≤ k ∧ k < wr.heap.size) := World.ownsRow.lt HO1.out
      have HY3 : Hid (ESlP w3 (fun j => w.heap.size ≤ j ∧ some j ≠ (Value.slice u31 u32 u33).ownBlock) (.slice v1 v2 v3) a) := by
        refine (HCV.out.esl.mono (ok' := fun j => wr.heap.size + 1 ≤ j) fun j hj => hj).keep' fun j h1 h2 => ⟨HK3.out j (by omega), by have := HK2.out; omega, fun e => by have := HOL.out j e.symm; omega⟩
      clear x4 y4 HK3 HCV hbk c0 c1 c2 c3 c4
      go_wp2_with (at_builtin; refine wpList_append_own_at _ rfl _ _ 37 rfl w.heap.size 42 i0 (.agg #[.int .i64 0, .int .i64 0, .string ⟨#[]⟩, .int .i64 0, .slice none 0 0]) 5 64 Tryd.underlying37 hi0 hz0 hz1 hz2 rfl (by decide) _ _ _ rfl (World.ownsRow.alloc HO3.out _) ⟨w3.heap.size, 0, none⟩ 1 1 (xcs (rxs [(⟨k, n, s, p, a, 0⟩, .slice v1 v2 v3)])) rfl rfl ?c1 ?c2 ?c3 ?c4 ?c5 ?_)
      case c1 =>
        intro j u hj
        match j, hj with
        | 0, hj => simp [rxs, rx, xcs, xc] at hj; subst hj; simp [Addr.add]
        | 1, hj => simp [rxs, rx, xcs, xc] at hj; subst hj; simp [Addr.add]
        | 2, hj => simp [rxs, rx, xcs, xc] at hj; subst hj; simp [Addr.add]
        | 3, hj => simp [rxs, rx, xcs, xc] at hj; subst hj; simp [Addr.add]
        | 4, hj => simp [rxs, rx, xcs, xc] at hj; subst hj; simp [Addr.add]
      case c2 => exact xc_one _ ⟨_, _, _, rfl⟩
      case c3 => have := HNM.out; rw [rxs_len]; unfold maxLen; omega
      case c4 => have := HNM.out; rw [rxs_len]; omega
      case c5 => have := HK2.out; simp; omega
      intro v' w4 hown' hgrow _ hloc
      have hsz4 := hgrow.size
      simp at hsz4
      have hbl : ∀ j, j < w3.heap.size → some j ≠ (Value.slice u31 u32 u33).ownBlock → w4.heap[j]? = w3.heap[j]? := fun j h1 h2 => (hgrow.block j (by simp; omega) h2).trans (heap_alloc_old _ _ h1)
      have hown2 : XOwn w4 w.heap.size v' (rxs (ys ++ [(⟨k, n, s, p, a, 0⟩, .slice v1 v2 v3)])) := by
        show w4.ownsRow _ _ _ _ _ _
        rw [rxs_app, List.length_append, xcs_app]
        exact hown'
      have hok : ∀ j, (w.heap.size ≤ j ∧ some j ≠ (Value.slice u31 u32 u33).ownBlock) → j < w3.heap.size → (w.heap.size ≤ j ∧ some j ≠ v'.ownBlock) := by
        intro j h1 h2
        refine ⟨h1.1, fun e => ?_⟩
        rcases hloc with h3 | h3
        · rw [h3] at e; exact h1.2 e
        · rw [h3] at e; cases e; omega
      have htm : ∀ y ∈ ys ++ [((⟨k, n, s, p, a, 0⟩ : PE), (Value.slice v1 v2 v3))], ESlP w4 (fun j => w.heap.size ≤ j ∧ some j ≠ v'.ownBlock) y.2 y.1.args := by
        intro y hy
        have h0 : ESlP w3 (fun j => w.heap.size ≤ j ∧ some j ≠ (Value.slice u31 u32 u33).ownBlock) y.2 y.1.args := by
          rcases List.mem_append.1 hy with h | h
          · exact HT3.out y h
          · simp at h; subst h; exact HY3.out
        exact h0.keep' fun j h1 h2 => ⟨hbl j h2 h1.2, hok j h1 h2⟩
      have hbelow : Below w.heap.size w w4 := ⟨hgrow.os.trans HL3.out.os, hgrow.tape.trans HL3.out.tape, hgrow.output.trans HL3.out.output, by have := HL3.out.size; omega, fun j hj => (hbl j (by have := HL3.out.size; omega) (fun e => by have := HOL.out j e.symm; omega)).trans (HL3.out.block j hj)⟩
      have HXN : Hid (CX w l ok b o v' (.int .i64 ((i : Int) + 1)) w4) := by
        refine ⟨r, i + 1, ys ++ [(⟨k, n, s, p, a, 0⟩, .slice v1 v2 v3)], by simp, by have := HNM.out; omega, ?_, by have := HNM.out; simp; omega, by have := HNM.out; omega, hown2, htm, HRA.out, hbelow⟩
        rw [List.map_append, List.append_assoc]
        exact HYS.out
      clear hown' hgrow hloc hsz4 hbl hown2 hok htm hbelow HO3 HT3 HY3 HOL HB3 d0 d1 d2 d3 d4
      go_wp2
      go_roundw
      case rel => exact HXN
      case measure => simp [intOf]; omega

set_option maxRecDepth 100000 in
set_option maxHeartbeats 8000000 in
theorem copies_any : ∀ (N : Nat) (l : EL) (ok : Nat → Prop) (v : Value) (w : World), ecnt l ≤ N → N ≤ 1000000 → ESlP w ok v l → Calls Tryd.prog 33 #[v] w (CEP w l) := by
  intro N
  induction N using Nat.strongRecOn with
  | _ N ih =>
  intro l ok v w hc hN hes
  obtain ⟨ad, cap, b, o, rfl, h2, h3, h4, h5⟩ := hes
  obtain ⟨P, hP⟩ : ∃ P, CEP w l = P := ⟨_, rfl⟩
  have HP : Hid (CEP w l = P) := hP
  rw [hP]
  have hll := elen_le l
  have HIH : Hid (∀ M, M < N → ∀ (l : EL) (ok : Nat → Prop) (v : Value) (w : World), ecnt l ≤ M → M ≤ 1000000 → ESlP w ok v l → Calls Tryd.prog 33 #[v] w (CEP w l)) := ih
  have E0 : Hid (CX w l ok b o (.slice none 0 0) (.int .i64 0) w) := ⟨l, 0, [], rfl, by omega, rfl, rfl, Nat.le_refl _, XOwn.nil _ _, (by intro y hy; cases hy), by simpa using h5, Below.refl _ _⟩
  have HAD : Hid (0 < elen l → ad = some ⟨b, o, none⟩ ∧ ok b) := h4
  obtain ⟨i0, hi0, hz0, hz1, hz2⟩ := info_parts info42
  unfold maxLen at h3
  clear ih hP h4 h5
  go_enter Tryd.func33, Tryd.ntmps33
  go_wp2
  go_loopw [3, 4] (fun u3 u8 wr => Hid (CX w l ok b o u3 u8 wr)) (fun _ u8 _ => elen l - (intOf u8).toNat)
  case atStart => exact E0
  case round =>
    clear E0
    obtain ⟨r, i, ys, rfl, hi, hys, hyl, hcr, hown, htm, hat, hbl⟩ := hrel.out
    clear hrel
    have HBL : Hid (Below w.heap.size w wr) := hbl
    have hsz := hbl.size
    obtain ⟨u31, u32, u33, rfl⟩ := hown.sl
    cases r with
    | leaf =>
      have hi' : i = elen l := by simpa [elen] using hi
      have HF : Hid (P (.returned (.slice u31 u32 u33)) wr) := by show P _ _; rw [← HP.out]; exact ⟨_, _, _, rfl, ⟨ys, by simpa [toPE] using hys, hown, htm⟩, HBL.out⟩
      have hil : ¬ ((i : Int) < (elen l : Int)) := by omega
      clear hbl hat hi hown htm hi'
      go_wp2
      first | exact HF.out | (go_ret; exact HF.out)
    | inner j d q a r =>
      obtain ⟨k, n, s, p⟩ := d
      obtain ⟨g1, g2, g3, g4, ⟨ad', cap', b', o', f1, f2, f3, f4, f5⟩, hr⟩ := hat
      simp only [elen, ecnt] at hi hcr
      obtain ⟨e1, e2⟩ := HAD.out (by omega)
      subst e1
      have hbw : b < w.heap.size := World.block_lt_of_cell? w ⟨b, o + i * 5, none⟩ g1
      have c0 := (hbl.cell (p := ⟨b, o + i * 5, none⟩) hbw).trans g1
      have c1 := (hbl.cell (p := ⟨b, o + i * 5 + 1, none⟩) hbw).trans g2
      have c2 := (hbl.cell (p := ⟨b, o + i * 5 + 2, none⟩) hbw).trans g3
      have c3 := (hbl.cell (p := ⟨b, o + i * 5 + 3, none⟩) hbw).trans g4
      have c4 := (hbl.cell (p := ⟨b, o + i * 5 + 4, none⟩) hbw).trans f1
      have HCA : Hid (∀ W, Below wr.heap.size wr W → Calls Tryd.prog 33 #[.slice ad' (elen a) cap'] W (CEP W a)) := fun W hW => HIH.out (ecnt a) (by omega) a ok _ W (Nat.le_refl _) (by omega) (ESlP.keep (w := w) ⟨ad', cap', b', o', rfl, f2, f3, f4, f5⟩ fun k _ hk => (hW.block k (by omega)).trans (hbl.block k hk))
      have HRA : Hid (EAt w ok r b (o + (i + 1) * 5)) := by rw [show o + (i + 1) * 5 = o + i * 5 + 5 by omega]; exact hr
      have HO1 : Hid (XOwn wr w.heap.size (.slice u31 u32 u33) (rxs ys)) := hown
      have HT1 : Hid (∀ y ∈ ys, ESlP wr (fun j => w.heap.size ≤ j ∧ some j ≠ (Value.slice u31 u32 u33).ownBlock) y.2 y.1.args) := htm
      have HNM : Hid (i + (elen r + 1) = elen l ∧ ecnt a + ecnt r + 1 ≤ ecnt l ∧ ys.length = i ∧ ecnt l ≤ 1000000) := ⟨hi, hcr, hyl, by omega⟩
      have HYS : Hid (ys.map (·.1) ++ (⟨k, n, s, p, a, 0⟩ :: toPE r) = toPE l) := hys
      have hil : (i : Int) < (elen l : Int) := by omega
      clear hr f5 hbl f4 f2 hown htm hys hyl g1 g2 g3 g4 f1 hcr
      go_upto_region 6 with fail
      go_wp2_with fail
      have hW1 : (wr.alloc (.cells #[.int .i64 k, .int .i64 n, .string s, .int .i64 p, .slice ad' (elen a) cap'] 42)).heap.size = wr.heap.size + 1 := by simp
      refine (HCA.out _ ((Below.refl _ wr).alloc (Nat.le_refl _) _)).mono ?_
      rintro e w2 ⟨v1, v2, v3, rfl, hcv, hb2⟩
      have hb2' : Below (wr.heap.size + 1) (wr.alloc (.cells #[.int .i64 k, .int .i64 n, .string s, .int .i64 p, .slice ad' (elen a) cap'] 42)) w2 := by rw [← hW1]; exact hb2
      have hs2 : wr.heap.size + 1 ≤ w2.heap.size := by have := hb2'.size; rw [hW1] at this; exact this
      have hcv' : CEv w2 (wr.heap.size + 1) a (.slice v1 v2 v3) := by rw [← hW1]; exact hcv
      have hB2 : w2.heap[wr.heap.size]? = some (.cells #[.int .i64 k, .int .i64 n, .string s, .int .i64 p, .slice ad' (elen a) cap'] 42) := (hb2'.block _ (by omega)).trans (heap_alloc_new _ _)
      have hk2 : ∀ j, j < wr.heap.size → w2.heap[j]? = wr.heap[j]? := fun j hj => (hb2'.block j (by omega)).trans (heap_alloc_old _ _ hj)
      have HB3 : Hid ((w2.setCell ⟨wr.heap.size, 4, none⟩ (.slice v1 v2 v3)).heap[wr.heap.size]? = some (.cells #[.int .i64 k, .int .i64 n, .string s, .int .i64 p, .slice v1 v2 v3] 42)) := heap_setCell_same w2 wr.heap.size 4 _ 42 (.slice v1 v2 v3) hB2
      have HK3 : Hid (∀ j, j ≠ wr.heap.size → (w2.setCell ⟨wr.heap.size, 4, none⟩ (.slice v1 v2 v3)).heap[j]? = w2.heap[j]?) := fun j hj => Below.heap_setCell _ _ _ _ hj
      have HS3 : Hid ((w2.setCell ⟨wr.heap.size, 4, none⟩ (.slice v1 v2 v3)).heap.size = w2.heap.size) := by show _ = _; simp [World.setCell]
      have HL3 : Hid (Below w.heap.size w (w2.setCell ⟨wr.heap.size, 4, none⟩ (.slice v1 v2 v3))) := (HBL.out.trans ((((Below.refl wr.heap.size wr).alloc (Nat.le_refl _) _).trans (hb2'.mono (by omega))).mono hsz)).setCell (p := ⟨wr.heap.size, 4, none⟩) hsz _
      have HK2 : Hid ((∀ j, j < wr.heap.size → w2.heap[j]? = wr.heap[j]?) ∧ wr.heap.size + 1 ≤ w2.heap.size ∧ w.heap.size ≤ wr.heap.size) := ⟨hk2, hs2, hsz⟩
      have HCV : Hid (CEv w2 (wr.heap.size + 1) a (.slice v1 v2 v3)) := hcv'
      obtain ⟨_, _, _, _, x4⟩ := c5 hB2
      have y4 := frozen_of_row w2 wr.heap.size 4 _ _ hB2
      clear hcv hcv' hb2 hb2' hB2 hk2 hs2 hW1
      go_upto_region 7 with fail
      generalize w2.setCell ⟨wr.heap.size, 4, none⟩ (.slice v1 v2 v3) = w3 at HB3 HK3 HS3 HL3 ⊢
      obtain ⟨d0, d1, d2, d3, d4⟩ := c5 HB3.out
      have hlt3 : wr.heap.size < w3.heap.size := by have := HS3.out; have := HK2.out; omega
      have hbk : ∀ j, j < wr.heap.size → w3.heap[j]? = wr.heap[j]? := fun j hj => (HK3.out j (by omega)).trans (HK2.out.1 j hj)
      have HO3 : Hid (w3.ownsRow w.heap.size 42 5 (.slice u31 u32 u33) (rxs ys).length (xcs (rxs ys))) := HO1.out.keep fun j _ hj => hbk j hj
      have HT3 : Hid (∀ y ∈ ys, ESlP w3 (fun j => w.heap.size ≤ j ∧ some j ≠ (Value.slice u31 u32 u33).ownBlock) y.2 y.1.args) := fun y hy => (HT1.out y hy).keep fun j _ hj => hbk j hj
      have HOL : Hid (∀ k, (Value.slice u31 u32 u33).ownBlock = some k → w.heap.size ≤ k ∧ k < wr.heap.size) := World.ownsRow.lt HO1.out
      have HY3 : Hid (ESlP w3 (fun j => w.heap.size ≤ j ∧ some j ≠ (Value.slice u31 u32 u33).ownBlock) (.slice v1 v2 v3) a) := by
        refine (HCV.out.esl.mono (ok' := fun j => wr.heap.size + 1 ≤ j) fun j hj => hj).keep' fun j h1 h2 => ⟨HK3.out j (by omega), by have := HK2.out; omega, fun e => by have := HOL.out j e.symm; omega⟩
      clear x4 y4 HK3 HCV hbk c0 c1 c2 c3 c4
      go_wp2_with (at_builtin; refine wpList_append_own_at _ rfl _ _ 37 rfl w.heap.size 42 i0 (.agg #[.int .i64 0, .int .i64 0, .string ⟨#[]⟩, .int .i64 0, .slice none 0 0]) 5 64 Tryd.underlying37 hi0 hz0 hz1 hz2 rfl (by decide) _ _ _ rfl (World.ownsRow.alloc HO3.out _) ⟨w3.heap.size, 0, none⟩ 1 1 (xcs (rxs [(⟨k, n, s, p, a, 0⟩, .slice v1 v2 v3)])) rfl rfl ?c1 ?c2 ?c3 ?c4 ?c5 ?_)
      case c1 =>
        intro j u hj
        match j, hj with
        | 0, hj => simp [rxs, rx, xcs, xc] at hj; subst hj; simp [Addr.add]
        | 1, hj => simp [rxs, rx, xcs, xc] at hj; subst hj; simp [Addr.add]
        | 2, hj => simp [rxs, rx, xcs, xc] at hj; subst hj; simp [Addr.add]
        | 3, hj => simp [rxs, rx, xcs, xc] at hj; subst hj; simp [Addr.add]
        | 4, hj => simp [rxs, rx, xcs, xc] at hj; subst hj; simp [Addr.add]
      case c2 => exact xc_one _ ⟨_, _, _, rfl⟩
      case c3 => have := HNM.out; rw [rxs_len]; unfold maxLen; omega
      case c4 => have := HNM.out; rw [rxs_len]; omega
      case c5 => have := HK2.out; simp; omega
      intro v' w4 hown' hgrow _ hloc
      have hsz4 := hgrow.size
      simp at hsz4
      have hbl : ∀ j, j < w3.heap.size → some j ≠ (Value.slice u31 u32 u33).ownBlock → w4.heap[j]? = w3.heap[j]? := fun j h1 h2 => (hgrow.block j (by simp; omega) h2).trans (heap_alloc_old _ _ h1)
      have hown2 : XOwn w4 w.heap.size v' (rxs (ys ++ [(⟨k, n, s, p, a, 0⟩, .slice v1 v2 v3)])) := by
        show w4.ownsRow _ _ _ _ _ _
        rw [rxs_app, List.length_append, xcs_app]
        exact hown'
      have hok : ∀ j, (w.heap.size ≤ j ∧ some j ≠ (Value.slice u31 u32 u33).ownBlock) → j < w3.heap.size → (w.heap.size ≤ j ∧ some j ≠ v'.ownBlock) := by
        intro j h1 h2
        refine ⟨h1.1, fun e => ?_⟩
        rcases hloc with h3 | h3
        · rw [h3] at e; exact h1.2 e
        · rw [h3] at e; cases e; omega
      have htm : ∀ y ∈ ys ++ [((⟨k, n, s, p, a, 0⟩ : PE), (Value.slice v1 v2 v3))], ESlP w4 (fun j => w.heap.size ≤ j ∧ some j ≠ v'.ownBlock) y.2 y.1.args := by
        intro y hy
        have h0 : ESlP w3 (fun j => w.heap.size ≤ j ∧ some j ≠ (Value.slice u31 u32 u33).ownBlock) y.2 y.1.args := by
          rcases List.mem_append.1 hy with h | h
          · exact HT3.out y h
          · simp at h; subst h; exact HY3.out
        exact h0.keep' fun j h1 h2 => ⟨hbl j h2 h1.2, hok j h1 h2⟩
      have hbelow : Below w.heap.size w w4 := ⟨hgrow.os.trans HL3.out.os, hgrow.tape.trans HL3.out.tape, hgrow.output.trans HL3.out.output, by have := HL3.out.size; omega, fun j hj => (hbl j (by have := HL3.out.size; omega) (fun e => by have := HOL.out j e.symm; omega)).trans (HL3.out.block j hj)⟩
      have HXN : Hid (CX w l ok b o v' (.int .i64 ((i : Int) + 1)) w4) := by
        refine ⟨r, i + 1, ys ++ [(⟨k, n, s, p, a, 0⟩, .slice v1 v2 v3)], by simp, by have := HNM.out; omega, ?_, by have := HNM.out; simp; omega, by have := HNM.out; omega, hown2, htm, HRA.out, hbelow⟩
        rw [List.map_append, List.append_assoc]
        exact HYS.out
      clear hown' hgrow hloc hsz4 hbl hown2 hok htm hbelow HO3 HT3 HY3 HOL HB3 d0 d1 d2 d3 d4
      go_wp2
      go_roundw
      case rel => exact HXN
      case measure => simp [intOf]; omega
end Go.Proofs.YtnofibjchhcmeabDoor
namespace Go.Proofs.YtnofibjchhcmeabDoor
open Go.RowKit Go.Maps
set_option linter.unusedVariables false

/-- a row that may be written -/
def Wr (w : World) (ok : Nat → Prop) (sz : Nat) (u : Value) : Prop := u = .slice none 0 0 ∨ ∃ g n cap cur t, u = .slice (some ⟨g, 0, none⟩) n cap ∧ ok g ∧ w.heap[g]? = some (.cells cur t) ∧ n ≤ cap ∧ cur.size = cap * sz ∧ cap ≤ maxLen
theorem Wr.keep' {w w' : World} {ok ok' : Nat → Prop} {sz : Nat} {v : Value} (h : Wr w ok sz v) (hb : ∀ k, ok k → k < w.heap.size → w'.heap[k]? = w.heap[k]? ∧ ok' k) : Wr w' ok' sz v := by
  rcases h with h | ⟨g, n, cap, cur, t, h1, h2, h3, h4⟩
  · exact Or.inl h
  · have hg : g < w.heap.size := (Array.getElem?_eq_some_iff.1 h3).1
    exact Or.inr ⟨g, n, cap, cur, t, h1, (hb g h2 hg).2, (hb g h2 hg).1.trans h3, h4⟩
theorem XOwn.wr {w : World} {base : Nat} {ok : Nat → Prop} {v : Value} {l : List RX} (h : XOwn w base v l) (hb : ∀ k, base ≤ k → ok k) : Wr w ok 5 v := by
  obtain ⟨h1, ⟨h2, h3⟩ | ⟨g, cap, cur, e1, e2, e3, e4, e5, e6, e7⟩⟩ := h
  · exact Or.inl h2
  · exact Or.inr ⟨g, _, cap, cur, 42, e1, hb g e2, e3, e4, e6, e5⟩
theorem SOwn.wr {w : World} {base : Nat} {ok : Nat → Prop} {v : Value} {l : List RT} (h : SOwn w base v l) (hb : ∀ k, base ≤ k → ok k) : Wr w ok 6 v := by
  obtain ⟨h1, ⟨h2, h3⟩ | ⟨g, cap, cur, e1, e2, e3, e4, e5, e6, e7⟩⟩ := h
  · exact Or.inl h2
  · exact Or.inr ⟨g, _, cap, cur, 39, e1, hb g e2, e3, e4, e6, e5⟩
/-- a copied statement's slices -/
def TM2 (w : World) (ok : Nat → Prop) (y : RT) : Prop := TM w ok y ∧ Wr w ok 5 y.v ∧ Wr w ok 6 y.b ∧ Wr w ok 6 y.e
theorem TM2.keep' {w w' : World} {ok ok' : Nat → Prop} {y : RT} (h : TM2 w ok y) (hb : ∀ k, ok k → k < w.heap.size → w'.heap[k]? = w.heap[k]? ∧ ok' k) : TM2 w' ok' y := ⟨h.1.keep' hb, h.2.1.keep' hb, h.2.2.1.keep' hb, h.2.2.2.keep' hb⟩
/-- statements copied -/
def CTv (w' : World) (base : Nat) (l : SL) (v : Value) : Prop :=
  ∃ ys : List RT, ys.map (·.x) = toPT l ∧ SOwn w' base v ys ∧ ∀ y ∈ ys, TM2 w' (fun j => base ≤ j ∧ some j ≠ v.ownBlock) y
theorem CTv.ssl {w' : World} {base : Nat} {l : SL} {v : Value} (h : CTv w' base l v) : SSlP w' (fun j => base ≤ j) v l := by
  obtain ⟨ys, h1, h2, h3⟩ := h
  exact CSv.ssl ⟨ys, h1, h2, fun y hy => (h3 y hy).1⟩
def CSP (w : World) (l : SL) (e : Ending) (w' : World) : Prop := ∃ v1 v2 v3, e = .returned (.slice v1 v2 v3) ∧ CTv w' w.heap.size l (.slice v1 v2 v3) ∧ Below w.heap.size w w'
/-- while statements are copied -/
def CY (w : World) (l : SL) (ok : Nat → Prop) (b o : Nat) (u3 u8 : Value) (wr : World) : Prop :=
  ∃ (r : SL) (i : Nat) (ys : List RT), u8 = .int .i64 (i : Int) ∧ i + slen r = slen l ∧ ys.map (·.x) ++ toPT r = toPT l ∧ ys.length = i ∧ scnt r ≤ scnt l ∧ SOwn wr w.heap.size u3 ys ∧ (∀ y ∈ ys, TM2 wr (fun j => w.heap.size ≤ j ∧ some j ≠ u3.ownBlock) y) ∧ SAt w ok r b (o + i * 6) ∧ Below w.heap.size w wr
/-- the statement that is being copied -/
structure Ph (k : Int) (s : ByteArray) (c : Int) (w wr W : World) (A B E : Value) : Prop where
  blk : W.heap[wr.heap.size]? = some (.cells #[.int .i64 k, .string s, .int .i64 c, A, B, E] 39)
  old : ∀ j, j < wr.heap.size → W.heap[j]? = wr.heap[j]?
  lt : wr.heap.size < W.heap.size
  le : w.heap.size ≤ wr.heap.size
  bel : Below w.heap.size w W
theorem Ph.new {k : Int} {s : ByteArray} {c : Int} {w wr : World} {A B E : Value} (h : Below w.heap.size w wr) : Ph k s c w wr (wr.alloc (.cells #[.int .i64 k, .string s, .int .i64 c, A, B, E] 39)) A B E :=
  ⟨heap_alloc_new _ _, fun j hj => heap_alloc_old _ _ hj, by simp, h.size, h.alloc h.size _⟩
theorem Ph.call {k : Int} {s : ByteArray} {c : Int} {w wr W W' : World} {A B E : Value} (h : Ph k s c w wr W A B E) (hb : Below W.heap.size W W') : Ph k s c w wr W' A B E :=
  ⟨(hb.block _ h.lt).trans h.blk, fun j hj => (hb.block j (Nat.lt_trans hj h.lt)).trans (h.old j hj), Nat.lt_of_lt_of_le h.lt hb.size, h.le, h.bel.trans (hb.mono (Nat.le_trans h.le (Nat.le_of_lt h.lt)))⟩
theorem Ph.set3 {k : Int} {s : ByteArray} {c : Int} {w wr W : World} {A B E : Value} (h : Ph k s c w wr W A B E) (v : Value) : Ph k s c w wr (W.setCell ⟨wr.heap.size, 3, none⟩ v) v B E :=
  ⟨heap_setCell_same W wr.heap.size 3 _ 39 v h.blk, fun j hj => (Below.heap_setCell _ _ _ _ (Nat.ne_of_lt hj)).trans (h.old j hj), by simpa [World.setCell] using h.lt, h.le, h.bel.setCell (p := ⟨wr.heap.size, 3, none⟩) h.le _⟩
theorem Ph.set4 {k : Int} {s : ByteArray} {c : Int} {w wr W : World} {A B E : Value} (h : Ph k s c w wr W A B E) (v : Value) : Ph k s c w wr (W.setCell ⟨wr.heap.size, 4, none⟩ v) A v E :=
  ⟨heap_setCell_same W wr.heap.size 4 _ 39 v h.blk, fun j hj => (Below.heap_setCell _ _ _ _ (Nat.ne_of_lt hj)).trans (h.old j hj), by simpa [World.setCell] using h.lt, h.le, h.bel.setCell (p := ⟨wr.heap.size, 4, none⟩) h.le _⟩
theorem Ph.set5 {k : Int} {s : ByteArray} {c : Int} {w wr W : World} {A B E : Value} (h : Ph k s c w wr W A B E) (v : Value) : Ph k s c w wr (W.setCell ⟨wr.heap.size, 5, none⟩ v) A B v :=
  ⟨heap_setCell_same W wr.heap.size 5 _ 39 v h.blk, fun j hj => (Below.heap_setCell _ _ _ _ (Nat.ne_of_lt hj)).trans (h.old j hj), by simpa [World.setCell] using h.lt, h.le, h.bel.setCell (p := ⟨wr.heap.size, 5, none⟩) h.le _⟩
theorem Ph.cells {k : Int} {s : ByteArray} {c : Int} {w wr W : World} {A B E : Value} (h : Ph k s c w wr W A B E) : W.cell? ⟨wr.heap.size, 3, none⟩ = some A ∧ W.cell? ⟨wr.heap.size, 4, none⟩ = some B ∧ W.cell? ⟨wr.heap.size, 5, none⟩ = some E ∧ W.frozen? ⟨wr.heap.size, 3, none⟩ = false ∧ W.frozen? ⟨wr.heap.size, 4, none⟩ = false ∧ W.frozen? ⟨wr.heap.size, 5, none⟩ = false := by
  obtain ⟨_, _, _, h1, h2, h3⟩ := c6 h.blk
  exact ⟨h1, h2, h3, frozen_of_row W wr.heap.size 3 _ _ h.blk, frozen_of_row W wr.heap.size 4 _ _ h.blk, frozen_of_row W wr.heap.size 5 _ _ h.blk⟩
/-- what was made behind block n -/
def NwE (W : World) (n : Nat) (v : Value) (a : EL) : Prop := ESlP W (fun j => n < j) v a ∧ Wr W (fun j => n < j) 5 v
def NwS (W : World) (n : Nat) (v : Value) (l : SL) : Prop := SSlP W (fun j => n < j) v l ∧ Wr W (fun j => n < j) 6 v
theorem CEv.nw {W : World} {n base : Nat} {v : Value} {a : EL} (h : CEv W base a v) (hn : n < base) : NwE W n v a := by
  refine ⟨h.esl.mono fun j hj => Nat.lt_of_lt_of_le hn hj, ?_⟩
  obtain ⟨ys, _, h2, _⟩ := h
  exact h2.wr fun k hk => Nat.lt_of_lt_of_le hn hk
theorem CTv.nw {W : World} {n base : Nat} {v : Value} {a : SL} (h : CTv W base a v) (hn : n < base) : NwS W n v a := by
  refine ⟨h.ssl.mono fun j hj => Nat.lt_of_lt_of_le hn hj, ?_⟩
  obtain ⟨ys, _, h2, _⟩ := h
  exact h2.wr fun k hk => Nat.lt_of_lt_of_le hn hk
theorem NwE.keep {W W' : World} {n : Nat} {v : Value} {a : EL} (h : NwE W n v a) (hb : ∀ j, n < j → j < W.heap.size → W'.heap[j]? = W.heap[j]?) : NwE W' n v a := ⟨h.1.keep hb, h.2.keep' fun k h1 h2 => ⟨hb k h1 h2, h1⟩⟩
theorem NwS.keep {W W' : World} {n : Nat} {v : Value} {a : SL} (h : NwS W n v a) (hb : ∀ j, n < j → j < W.heap.size → W'.heap[j]? = W.heap[j]?) : NwS W' n v a := ⟨h.1.keep hb, h.2.keep' fun k h1 h2 => ⟨hb k h1 h2, h1⟩⟩
theorem NwE.set {W : World} {n : Nat} {v : Value} {a : EL} (h : NwE W n v a) (q : Nat) (u : Value) : NwE (W.setCell ⟨n, q, none⟩ u) n v a := h.keep fun j h1 _ => Below.heap_setCell _ _ _ _ (Nat.ne_of_gt h1)
theorem NwS.set {W : World} {n : Nat} {v : Value} {a : SL} (h : NwS W n v a) (q : Nat) (u : Value) : NwS (W.setCell ⟨n, q, none⟩ u) n v a := h.keep fun j h1 _ => Below.heap_setCell _ _ _ _ (Nat.ne_of_gt h1)
theorem NwE.call {W W' : World} {n : Nat} {v : Value} {a : EL} (h : NwE W n v a) (hb : Below W.heap.size W W') : NwE W' n v a := h.keep fun j _ h2 => hb.block j h2
theorem NwS.call {W W' : World} {n : Nat} {v : Value} {a : SL} (h : NwS W n v a) (hb : Below W.heap.size W W') : NwS W' n v a := h.keep fun j _ h2 => hb.block j h2
theorem NwE.sl {W : World} {n : Nat} {v : Value} {a : EL} (h : NwE W n v a) : Sl v := h.1.sl
theorem NwS.sl {W : World} {n : Nat} {v : Value} {a : SL} (h : NwS W n v a) : Sl v := h.1.sl
/-- a statement's copy is there -/
def Cpd (k : Int) (s : ByteArray) (c : Int) (w wr : World) (a : EL) (d e : SL) (W : World) : Prop := ∃ A B E, Ph k s c w wr W A B E ∧ NwE W wr.heap.size A a ∧ NwS W wr.heap.size B d ∧ NwS W wr.heap.size E e
theorem Ph.drew {k : Int} {s : ByteArray} {c : Int} {w wr W : World} {A B E : Value} (h : Ph k s c w wr W A B E) : Ph k s c w wr W.drew A B E := ⟨h.blk, h.old, h.lt, h.le, h.bel.drew⟩

set_option maxRecDepth 100000 in
set_option maxHeartbeats 16000000 in
theorem refCopy_any : ∀ (N : Nat) (l : SL) (ok : Nat → Prop) (v : Value) (w : World), scnt l ≤ N → N ≤ 1000000 → SSlP w ok v l → Calls Tryd.prog 21 #[v] w (CSP w l) := by
  intro N
  induction N using Nat.strongRecOn with
  | _ N ih =>
  intro l ok v w hc hN hes
  obtain ⟨ad, cap, b, o, rfl, h2, h3, h4, h5⟩ := hes
  obtain ⟨P, hP⟩ : ∃ P, CSP w l = P := ⟨_, rfl⟩
  have HP : Hid (CSP w l = P) := hP
  rw [hP]
  have hll := slen_le l
  have HIH : Hid (∀ M, M < N → ∀ (l : SL) (ok : Nat → Prop) (v : Value) (w : World), scnt l ≤ M → M ≤ 1000000 → SSlP w ok v l → Calls Tryd.prog 21 #[v] w (CSP w l)) := ih
  have E0 : Hid (CY w l ok b o (.slice none 0 0) (.int .i64 0) w) := ⟨l, 0, [], rfl, by omega, rfl, rfl, Nat.le_refl _, SOwn.nil _ _, (by intro y hy; cases hy), by simpa using h5, Below.refl _ _⟩
  have HAD : Hid (0 < slen l → ad = some ⟨b, o, none⟩ ∧ ok b) := h4
  obtain ⟨i0, hi0, hz0, hz1, hz2⟩ := info_parts info39
  unfold maxLen at h3
  clear ih hP h4 h5
  go_enter Tryd.func21, Tryd.ntmps21
  go_wp2
  go_loopw [3, 4] (fun u3 u8 wr => Hid (CY w l ok b o u3 u8 wr)) (fun _ u8 _ => slen l - (intOf u8).toNat)
  case atStart => exact E0
  case round =>
    clear E0
    obtain ⟨r, i, ys, rfl, hi, hys, hyl, hcr, hown, htm, hat, hbl⟩ := hrel.out
    clear hrel
    have HBL : Hid (Below w.heap.size w wr) := hbl
    have hsz := hbl.size
    obtain ⟨u31, u32, u33, rfl⟩ := hown.sl
    cases r with
    | leaf =>
      have hi' : i = slen l := by simpa [slen] using hi
      have HF : Hid (P (.returned (.slice u31 u32 u33)) wr) := by show P _ _; rw [← HP.out]; exact ⟨_, _, _, rfl, ⟨ys, by simpa [toPT] using hys, hown, htm⟩, HBL.out⟩
      have hil : ¬ ((i : Int) < (slen l : Int)) := by omega
      clear hbl hat hi hown htm hi'
      go_wp2
      first | exact HF.out | (go_ret; exact HF.out)
    | inner j d q x r =>
      obtain ⟨k, s, c, a⟩ := d
      obtain ⟨g1, g2, g3, va, vb, ve, g4, g5, g6, pa, pb, pe, hr⟩ := hat.parts
      rw [scnt_inner] at hcr
      simp only [slen] at hi
      obtain ⟨e1, e2⟩ := HAD.out (by omega)
      subst e1
      have hbw : b < w.heap.size := World.block_lt_of_cell? w ⟨b, o + i * 6, none⟩ g1
      have c0 := (hbl.cell (p := ⟨b, o + i * 6, none⟩) hbw).trans g1
      have c1 := (hbl.cell (p := ⟨b, o + i * 6 + 1, none⟩) hbw).trans g2
      have c2 := (hbl.cell (p := ⟨b, o + i * 6 + 2, none⟩) hbw).trans g3
      have c3 := (hbl.cell (p := ⟨b, o + i * 6 + 3, none⟩) hbw).trans g4
      have c4 := (hbl.cell (p := ⟨b, o + i * 6 + 4, none⟩) hbw).trans g5
      have c5 := (hbl.cell (p := ⟨b, o + i * 6 + 5, none⟩) hbw).trans g6
      have HCA : Hid (∀ W, (∀ j, j < wr.heap.size → W.heap[j]? = wr.heap[j]?) → Calls Tryd.prog 33 #[va] W (CEP W a)) := fun W hW => copies_any (ecnt a) a ok _ W (Nat.le_refl _) (by omega) (pa.keep fun k _ hk => (hW k (by omega)).trans (hbl.block k hk))
      have HCB : Hid (∀ W, (∀ j, j < wr.heap.size → W.heap[j]? = wr.heap[j]?) → Calls Tryd.prog 21 #[vb] W (CSP W (slft x))) := fun W hW => HIH.out (scnt (slft x)) (by omega) _ ok _ W (Nat.le_refl _) (by omega) (pb.keep fun k _ hk => (hW k (by omega)).trans (hbl.block k hk))
      have HCE : Hid (∀ W, (∀ j, j < wr.heap.size → W.heap[j]? = wr.heap[j]?) → Calls Tryd.prog 21 #[ve] W (CSP W (srgt x))) := fun W hW => HIH.out (scnt (srgt x)) (by omega) _ ok _ W (Nat.le_refl _) (by omega) (pe.keep fun k _ hk => (hW k (by omega)).trans (hbl.block k hk))
      obtain ⟨a1, a2, a3, rfl⟩ := pa.sl
      obtain ⟨b1, b2, b3, rfl⟩ := pb.sl
      obtain ⟨c1', c2', c3', rfl⟩ := pe.sl
      have HRA : Hid (SAt w ok r b (o + (i + 1) * 6)) := by rw [show o + (i + 1) * 6 = o + i * 6 + 6 by omega]; exact hr
      have HO1 : Hid (SOwn wr w.heap.size (.slice u31 u32 u33) ys) := hown
      have HT1 : Hid (∀ y ∈ ys, TM2 wr (fun j => w.heap.size ≤ j ∧ some j ≠ (Value.slice u31 u32 u33).ownBlock) y) := htm
      have HNM : Hid (i + (slen r + 1) = slen l ∧ ecnt a + scnt (slft x) + scnt (srgt x) + scnt r + 1 ≤ scnt l ∧ ys.length = i ∧ scnt l ≤ 1000000) := ⟨hi, hcr, hyl, by omega⟩
      have HYS : Hid (ys.map (·.x) ++ (⟨k, s, c, a, slft x, srgt x⟩ :: toPT r) = toPT l) := hys
      have hil : (i : Int) < (slen l : Int) := by omega
      have HPH : Hid (Ph k s c w wr (wr.alloc (.cells #[.int .i64 k, .string s, .int .i64 c, .slice a1 a2 a3, .slice b1 b2 b3, .slice c1' c2' c3'] 39)) (.slice a1 a2 a3) (.slice b1 b2 b3) (.slice c1' c2' c3')) := Ph.new hbl
      clear hr hbl hown htm hys hyl g1 g2 g3 g4 g5 g6 pa pb pe hat hcr
      go_upto_region 6 with fail
      generalize wr.alloc (.cells #[.int .i64 k, .string s, .int .i64 c, .slice a1 a2 a3, .slice b1 b2 b3, .slice c1' c2' c3'] 39) = W1 at HPH ⊢
      clear c0 c1 c2 c3 c4 c5
      obtain ⟨q3, q4, q5, f3, f4, f5⟩ := HPH.out.cells
      go_wp2_with fail
      refine (HCA.out _ HPH.out.old).mono ?_
      rintro e w2 ⟨p1, p2, p3, rfl, hcv, hb2⟩
      have HPA : Hid (Ph k s c w wr (w2.setCell ⟨wr.heap.size, 3, none⟩ (.slice p1 p2 p3)) (.slice p1 p2 p3) (.slice b1 b2 b3) (.slice c1' c2' c3')) := (HPH.out.call hb2).set3 _
      have HNA : Hid (NwE (w2.setCell ⟨wr.heap.size, 3, none⟩ (.slice p1 p2 p3)) wr.heap.size (.slice p1 p2 p3) a) := (hcv.nw HPH.out.lt).set 3 _
      clear q3 q4 q5 f3 f4 f5
      obtain ⟨q3, q4, q5, f3, f4, f5⟩ := (HPH.out.call hb2).cells
      clear hcv hb2 HPH
      go_upto_region 7 with fail
      generalize w2.setCell ⟨wr.heap.size, 3, none⟩ (.slice p1 p2 p3) = WA at HPA HNA  ⊢
      clear q3 q4 q5 f3 f4 f5
      obtain ⟨q3, q4, q5, f3, f4, f5⟩ := HPA.out.cells
      go_wp2_with fail
      refine (HCB.out _ HPA.out.old).mono ?_
      rintro e w2 ⟨p4, p5, p6, rfl, hcv, hb2⟩
      have HPB : Hid (Ph k s c w wr (w2.setCell ⟨wr.heap.size, 4, none⟩ (.slice p4 p5 p6)) (.slice p1 p2 p3) (.slice p4 p5 p6) (.slice c1' c2' c3')) := (HPA.out.call hb2).set4 _
      have HNB : Hid (NwS (w2.setCell ⟨wr.heap.size, 4, none⟩ (.slice p4 p5 p6)) wr.heap.size (.slice p4 p5 p6) (slft x)) := (hcv.nw HPA.out.lt).set 4 _
      replace HNA : Hid (NwE (w2.setCell ⟨wr.heap.size, 4, none⟩ (.slice p4 p5 p6)) wr.heap.size (.slice p1 p2 p3) a) := (HNA.out.call hb2).set 4 _
      clear q3 q4 q5 f3 f4 f5
      obtain ⟨q3, q4, q5, f3, f4, f5⟩ := (HPA.out.call hb2).cells
      clear hcv hb2 HPA
      go_upto_region 8 with fail
      generalize w2.setCell ⟨wr.heap.size, 4, none⟩ (.slice p4 p5 p6) = WB at HPB HNB HNA ⊢
      clear q3 q4 q5 f3 f4 f5
      obtain ⟨q3, q4, q5, f3, f4, f5⟩ := HPB.out.cells
      go_wp2_with fail
      refine (HCE.out _ HPB.out.old).mono ?_
      rintro e w2 ⟨p7, p8, p9, rfl, hcv, hb2⟩
      have HPE : Hid (Ph k s c w wr (w2.setCell ⟨wr.heap.size, 5, none⟩ (.slice p7 p8 p9)) (.slice p1 p2 p3) (.slice p4 p5 p6) (.slice p7 p8 p9)) := (HPB.out.call hb2).set5 _
      have HNE : Hid (NwS (w2.setCell ⟨wr.heap.size, 5, none⟩ (.slice p7 p8 p9)) wr.heap.size (.slice p7 p8 p9) (srgt x)) := (hcv.nw HPB.out.lt).set 5 _
      replace HNA : Hid (NwE (w2.setCell ⟨wr.heap.size, 5, none⟩ (.slice p7 p8 p9)) wr.heap.size (.slice p1 p2 p3) a) := (HNA.out.call hb2).set 5 _
      replace HNB : Hid (NwS (w2.setCell ⟨wr.heap.size, 5, none⟩ (.slice p7 p8 p9)) wr.heap.size (.slice p4 p5 p6) (slft x)) := (HNB.out.call hb2).set 5 _
      clear q3 q4 q5 f3 f4 f5
      obtain ⟨q3, q4, q5, f3, f4, f5⟩ := (HPB.out.call hb2).cells
      clear hcv hb2 HPB
      go_upto_region 9 with fail
      generalize w2.setCell ⟨wr.heap.size, 5, none⟩ (.slice p7 p8 p9) = w3 at HPE HNE HNA HNB ⊢
      clear q3 q4 q5 f3 f4 f5
      have HCP : Hid (Cpd k s c w wr a (slft x) (srgt x) w3) := ⟨_, _, _, HPE.out, HNA.out, HNB.out, HNE.out⟩
      clear HPE HNA HNB HNE
      obtain ⟨A, B, E, hph, hA, hB, hE⟩ := HCP.out
      obtain ⟨x1, x2, x3, rfl⟩ := hA.sl
      obtain ⟨y1, y2, y3, rfl⟩ := hB.sl
      obtain ⟨z1, z2, z3, rfl⟩ := hE.sl
      obtain ⟨d0, d1, d2, d3, d4, d5⟩ := c6 hph.blk
      have hlt3 := hph.lt
      have HO3 : Hid (w3.ownsRow w.heap.size 39 6 (.slice u31 u32 u33) ys.length (scs ys)) := HO1.out.keep fun j _ hj => hph.old j hj
      have HT3 : Hid (∀ y ∈ ys, TM2 w3 (fun j => w.heap.size ≤ j ∧ some j ≠ (Value.slice u31 u32 u33).ownBlock) y) := fun y hy => (HT1.out y hy).keep' fun j h1 hj => ⟨hph.old j hj, h1⟩
      have HOL : Hid (∀ k, (Value.slice u31 u32 u33).ownBlock = some k → w.heap.size ≤ k ∧ k < wr.heap.size) := World.ownsRow.lt HO1.out
      have HL3 : Hid (Below w.heap.size w w3 ∧ w.heap.size ≤ w3.heap.size) := ⟨hph.bel, by have := hph.bel.size; omega⟩
      have HY3 : Hid (TM2 w3 (fun j => w.heap.size ≤ j ∧ some j ≠ (Value.slice u31 u32 u33).ownBlock) ⟨⟨k, s, c, a, slft x, srgt x⟩, .slice x1 x2 x3, .slice y1 y2 y3, .slice z1 z2 z3⟩) := by
        have hq : ∀ j, wr.heap.size < j → (w.heap.size ≤ j ∧ some j ≠ (Value.slice u31 u32 u33).ownBlock) := fun j hj => ⟨by have := hph.le; omega, fun e => by have := HOL.out j e.symm; omega⟩
        exact ⟨⟨hA.1.mono hq, hB.1.mono hq, hE.1.mono hq⟩, hA.2.keep' fun j h _ => ⟨rfl, hq j h⟩, hB.2.keep' fun j h _ => ⟨rfl, hq j h⟩, hE.2.keep' fun j h _ => ⟨rfl, hq j h⟩⟩
      clear hph hA hB hE HCP HCA HCB HCE
      go_wp2_with (at_builtin; refine wpList_append_own_at _ rfl _ _ 27 rfl w.heap.size 39 i0 (.agg #[.int .i64 0, .string ⟨#[]⟩, .int .i64 0, .slice none 0 0, .slice none 0 0, .slice none 0 0]) 6 104 Tryd.underlying27 hi0 hz0 hz1 hz2 rfl (by decide) _ _ _ rfl (World.ownsRow.alloc HO3.out _) ⟨w3.heap.size, 0, none⟩ 1 1 (scs [⟨⟨k, s, c, a, slft x, srgt x⟩, .slice x1 x2 x3, .slice y1 y2 y3, .slice z1 z2 z3⟩]) rfl rfl ?c1 ?c2 ?c3 ?c4 ?c5 ?_)
      case c1 =>
        intro j u hj
        match j, hj with
        | 0, hj => simp [scs, sc] at hj; subst hj; simp [Addr.add]
        | 1, hj => simp [scs, sc] at hj; subst hj; simp [Addr.add]
        | 2, hj => simp [scs, sc] at hj; subst hj; simp [Addr.add]
        | 3, hj => simp [scs, sc] at hj; subst hj; simp [Addr.add]
        | 4, hj => simp [scs, sc] at hj; subst hj; simp [Addr.add]
        | 5, hj => simp [scs, sc] at hj; subst hj; simp [Addr.add]
      case c2 => exact sc_one _ ⟨_, _, _, rfl⟩ ⟨_, _, _, rfl⟩ ⟨_, _, _, rfl⟩
      case c3 => have := HNM.out; unfold maxLen; omega
      case c4 => have := HNM.out; omega
      case c5 => have := HL3.out.2; simp; omega
      intro v' w4 hown' hgrow _ hloc
      have hsz4 := hgrow.size
      simp at hsz4
      have hbl : ∀ j, j < w3.heap.size → some j ≠ (Value.slice u31 u32 u33).ownBlock → w4.heap[j]? = w3.heap[j]? := fun j h1 h2 => (hgrow.block j (by simp; omega) h2).trans (heap_alloc_old _ _ h1)
      have hown2 : SOwn w4 w.heap.size v' (ys ++ [⟨⟨k, s, c, a, slft x, srgt x⟩, .slice x1 x2 x3, .slice y1 y2 y3, .slice z1 z2 z3⟩]) := by
        show w4.ownsRow _ _ _ _ _ _
        rw [List.length_append, scs_app]
        exact hown'
      have hok : ∀ j, (w.heap.size ≤ j ∧ some j ≠ (Value.slice u31 u32 u33).ownBlock) → j < w3.heap.size → (w.heap.size ≤ j ∧ some j ≠ v'.ownBlock) := by
        intro j h1 h2
        refine ⟨h1.1, fun e => ?_⟩
        rcases hloc with h3 | h3
        · rw [h3] at e; exact h1.2 e
        · rw [h3] at e; cases e; omega
      have htm : ∀ y ∈ ys ++ [(⟨⟨k, s, c, a, slft x, srgt x⟩, .slice x1 x2 x3, .slice y1 y2 y3, .slice z1 z2 z3⟩ : RT)], TM2 w4 (fun j => w.heap.size ≤ j ∧ some j ≠ v'.ownBlock) y := by
        intro y hy
        have h0 : TM2 w3 (fun j => w.heap.size ≤ j ∧ some j ≠ (Value.slice u31 u32 u33).ownBlock) y := by
          rcases List.mem_append.1 hy with h | h
          · exact HT3.out y h
          · simp at h; subst h; exact HY3.out
        exact h0.keep' fun j h1 h2 => ⟨hbl j h2 h1.2, hok j h1 h2⟩
      have hbelow : Below w.heap.size w w4 := ⟨hgrow.os.trans HL3.out.1.os, hgrow.tape.trans HL3.out.1.tape, hgrow.output.trans HL3.out.1.output, by have := HL3.out.1.size; omega, fun j hj => (hbl j (by have := HL3.out.1.size; omega) (fun e => by have := HOL.out j e.symm; omega)).trans (HL3.out.1.block j hj)⟩
      have HXN : Hid (CY w l ok b o v' (.int .i64 ((i : Int) + 1)) w4) := by
        refine ⟨r, i + 1, ys ++ [⟨⟨k, s, c, a, slft x, srgt x⟩, .slice x1 x2 x3, .slice y1 y2 y3, .slice z1 z2 z3⟩], by simp, by have := HNM.out; omega, ?_, by have := HNM.out; simp; omega, by have := HNM.out; omega, hown2, htm, HRA.out, hbelow⟩
        rw [List.map_append, List.append_assoc]
        exact HYS.out
      clear hown' hgrow hloc hsz4 hbl hown2 hok htm hbelow HO3 HT3 HY3 HOL d0 d1 d2 d3 d4 d5
      go_wp2
      go_roundw
      case rel => exact HXN
      case measure => simp [intOf]; omega
end Go.Proofs.YtnofibjchhcmeabDoor
namespace Go.Proofs.YtnofibjchhcmeabDoor
open Go.RowKit
set_option linter.unusedVariables false

def NZ {α : Type} (r : Except (Nat × Int) α) : Prop := ∀ k e, r = .error (k, e) → e ≠ 0
theorem nz_ok {α : Type} (x : α) : NZ (.ok x) := fun k e h => by cases h
theorem nz_err {α : Type} {k : Nat} {e : Int} (h : e ≠ 0) : NZ (α := α) (.error (k, e)) := fun k' e' h' => by cases h'; exact h
theorem nz_mk {t : Tok} {k m : Int} {s : ByteArray} {op : Int} {l : List PE} {n : Nat} : NZ (mkE t k m s op l n) := by
  unfold mkE
  split
  · exact nz_err (by decide)
  · split
    · exact nz_err (by decide)
    · exact nz_ok _
theorem nz_mk' {p : Nat} {r : Except (Nat × Int) (PE × Nat)} (h : NZ r) : NZ (mk' p r) := by
  rcases r with ⟨k, e⟩ | ⟨x, n⟩
  · exact nz_err (h k e rfl)
  · exact nz_ok _
theorem nz_of {α β : Type} {k : Nat} {e : Int} (h : NZ (α := α) (.error (k, e))) : NZ (α := β) (.error (k, e)) := nz_err (h k e rfl)
theorem withinP_nz {L : List Tok} {ex : Nat → Nat → Nat → PR} (h : ∀ p o n, NZ (ex p o n)) (a b : List UInt8) (p o n : Nat) : NZ (withinP L ex a b p o n) := by
  unfold withinP
  split
  · exact nz_err (by decide)
  split
  · exact nz_err (by decide)
  have := h (p + 1) (o + 1) n
  rcases e : ex (p + 1) (o + 1) n with ⟨k, e1⟩ | ⟨x, q, m⟩
  · rw [e] at this; exact this
  · simp only
    split
    · exact nz_err (by decide)
    · exact nz_ok _
theorem memP_nz {L : List Tok} {ex : Nat → Nat → Nat → PR} (h : ∀ p o n, NZ (ex p o n)) (p o n : Nat) : NZ (memP L ex p o n) := by
  unfold memP
  have := withinP_nz (L := L) h [91] [93] (p + 1) o n
  rcases e : withinP L ex [91] [93] (p + 1) o n with ⟨k, e1⟩ | ⟨x, q, m⟩
  · rw [e] at this; exact this
  · exact nz_mk' nz_mk
theorem pairP_nz {L : List Tok} {ex : Nat → Nat → Nat → PR} (h : ∀ p o n, NZ (ex p o n)) (op : Int) (p o n : Nat) : NZ (pairP L ex op p o n) := by
  unfold pairP
  split
  · exact nz_err (by decide)
  split
  · exact nz_err (by decide)
  have := h (p + 2) (o + 1) n
  rcases e : ex (p + 2) (o + 1) n with ⟨k, e1⟩ | ⟨x, q, m⟩
  · rw [e] at this; exact this
  · simp only
    split
    · exact nz_err (by decide)
    have h2 := h (q + 1) (o + 1) m
    rcases e2 : ex (q + 1) (o + 1) m with ⟨k, e1⟩ | ⟨y, r, i⟩
    · rw [e2] at h2; exact h2
    · simp only
      split
      · exact nz_err (by decide)
      · exact nz_mk' nz_mk
theorem signedP_nz {L : List Tok} {on : Nat → Nat → Nat → PR} (h : ∀ p o n, NZ (on p o n)) (op : Int) (p o n : Nat) : NZ (signedP L on op p o n) := by
  unfold signedP
  split
  · exact nz_err (by decide)
  have := h (p + 1) (o + 1) n
  rcases e : on (p + 1) (o + 1) n with ⟨k, e1⟩ | ⟨x, q, m⟩
  · rw [e] at this; exact this
  · exact nz_mk' nz_mk
theorem oneP_nz {L : List Tok} {ex on : Nat → Nat → Nat → PR} (h : ∀ p o n, NZ (ex p o n)) (h' : ∀ p o n, NZ (on p o n)) (p o n : Nat) : NZ (oneP L ex on p o n) := by
  unfold oneP
  split
  · exact nz_mk' nz_mk
  split
  · exact nz_mk' nz_mk
  split
  · exact withinP_nz h _ _ _ _ _
  split
  · exact memP_nz h _ _ _
  split
  · exact pairP_nz h _ _ _ _
  split
  · exact pairP_nz h _ _ _ _
  split
  · exact signedP_nz h' _ _ _ _
  split
  · exact signedP_nz h' _ _ _ _
  split
  · exact signedP_nz h' _ _ _ _
  · exact nz_err (by decide)
theorem exprF_nz (L : List Tok) : ∀ f md p o n, NZ (exprF L f md p o n) := by
  intro f
  induction f with
  | zero => intro md p o n; exact nz_err (by decide)
  | succ f ih =>
    intro md p o n
    rcases md with _ | ⟨least, _ | y⟩
    · exact oneP_nz (ih _) (ih _) p o n
    · unfold exprF
      have := ih none p o n
      rcases e : exprF L f none p o n with ⟨k, e1⟩ | ⟨x, q, m⟩
      · rw [e] at this; exact this
      · exact ih _ _ _ _
    · unfold exprF
      split
      · exact nz_ok _
      · have := ih (some ((rankOf (tk L p).text).1 + 1, none)) (p + 1) o n
        rcases e : exprF L f (some ((rankOf (tk L p).text).1 + 1, none)) (p + 1) o n with ⟨k, e1⟩ | ⟨x, q, m⟩
        · rw [e] at this; exact this
        · simp only
          have h2 := nz_mk (t := tk L p) (k := 5) (m := 0) (s := ⟨#[]⟩) (op := (rankOf (tk L p).text).2) (l := [y, x]) (n := m)
          rcases e2 : mkE (tk L p) 5 0 ⟨#[]⟩ (rankOf (tk L p).text).2 [y, x] m with ⟨k, e1⟩ | ⟨z, i⟩
          · rw [e2] at h2; exact nz_of h2
          · exact ih _ _ _ _
theorem ex1_nz (L : List Tok) (p o n : Nat) : NZ (ex1 L p o n) := exprF_nz L _ _ _ _ _
theorem lastP_nz (L : List Tok) (p n : Nat) : NZ (lastP L p n) := by
  unfold lastP
  have h := ex1_nz L p 0 n
  rcases e : ex1 L p 0 n with ⟨k, e1⟩ | ⟨x, q, m⟩
  · rw [e] at h; exact h
  · simp only
    split
    · exact nz_err (by decide)
    · exact nz_ok _
theorem valueP_nz (L : List Tok) (p n : Nat) : NZ (valueP L p n) := by
  unfold valueP
  split
  · exact nz_err (by decide)
  · exact lastP_nz L _ _
theorem withinT_nz (L : List Tok) (a b : List UInt8) (p n : Nat) : NZ (withinT L a b p n) := withinP_nz (ex1_nz L) _ _ _ _ _
theorem mkS_nz (t : Tok) (x : PT) (q n : Nat) : NZ (mkS t x q n) := by
  unfold mkS
  split
  · exact nz_err (by decide)
  · exact nz_ok _
theorem ofPart_nz {t : Tok} {k : Int} {s : ByteArray} {c : Int} {r : PR} (h : NZ r) : NZ (ofPart t k s c r) := by
  unfold ofPart
  rcases r with ⟨k', e⟩ | ⟨x, q, m⟩
  · exact nz_of h
  · exact mkS_nz _ _ _ _
theorem blockP_nz {L : List Tok} {row : Nat → Nat → Nat → TR} (h : ∀ b p n, NZ (row b p n)) (b p n : Nat) : NZ (blockP L row b p n) := by
  unfold blockP
  split
  · exact nz_err (by decide)
  split
  · exact nz_err (by decide)
  have := h (b + 1) (p + 1) n
  rcases e : row (b + 1) (p + 1) n with ⟨k, e1⟩ | ⟨y, r, i⟩
  · rw [e] at this; exact this
  · exact nz_ok _
theorem otherP_nz {L : List Tok} {row ch : Nat → Nat → Nat → TR} (h : ∀ b p n, NZ (row b p n)) (h' : ∀ b p n, NZ (ch b p n)) (b p n : Nat) : NZ (otherP L row ch b p n) := by
  unfold otherP
  split
  · exact blockP_nz h _ _ _
  split
  · exact nz_err (by decide)
  · exact h' _ _ _
theorem chooseP_nz {L : List Tok} {row ch : Nat → Nat → Nat → TR} (h : ∀ b p n, NZ (row b p n)) (h' : ∀ b p n, NZ (ch b p n)) (b p n : Nat) : NZ (chooseP L row ch b p n) := by
  unfold chooseP
  have h1 := withinT_nz L [40] [41] (p + 1) n
  rcases e : withinT L [40] [41] (p + 1) n with ⟨k, e1⟩ | ⟨x, q, m⟩
  · rw [e] at h1; exact nz_of h1
  · simp only
    have h2 := blockP_nz (L := L) h b q m
    rcases e2 : blockP L row b q m with ⟨k, e1⟩ | ⟨l, r, i⟩
    · rw [e2] at h2; exact h2
    · simp only
      split
      · have h3 := otherP_nz (L := L) h h' b (r + 1) i
        rcases e3 : otherP L row ch b (r + 1) i with ⟨k, e1⟩ | ⟨l2, r2, i2⟩
        · rw [e3] at h3; exact h3
        · exact mkS_nz _ _ _ _
      · exact mkS_nz _ _ _ _
theorem repeatP_nz {L : List Tok} {row : Nat → Nat → Nat → TR} (h : ∀ b p n, NZ (row b p n)) (b p n : Nat) : NZ (repeatP L row b p n) := by
  unfold repeatP
  have h1 := withinT_nz L [40] [41] (p + 1) n
  rcases e : withinT L [40] [41] (p + 1) n with ⟨k, e1⟩ | ⟨x, q, m⟩
  · rw [e] at h1; exact nz_of h1
  · simp only
    have h2 := blockP_nz (L := L) h b q m
    rcases e2 : blockP L row b q m with ⟨k, e1⟩ | ⟨l, r, i⟩
    · rw [e2] at h2; exact h2
    · exact mkS_nz _ _ _ _
theorem stmtP_nz {L : List Tok} {row ch : Nat → Nat → Nat → TR} (h : ∀ b p n, NZ (row b p n)) (h' : ∀ b p n, NZ (ch b p n)) (b p n : Nat) : NZ (stmtP L row ch b p n) := by
  unfold stmtP
  split
  · exact ofPart_nz (valueP_nz L _ _)
  split
  · unfold declareP
    split
    · exact nz_err (by decide)
    · exact ofPart_nz (valueP_nz L _ _)
  split
  · unfold storeP
    have h1 := withinT_nz L [91] [93] (p + 1) n
    rcases e : withinT L [91] [93] (p + 1) n with ⟨k, e1⟩ | ⟨x, q, m⟩
    · rw [e] at h1; exact nz_of h1
    · simp only
      have h2 := valueP_nz L q m
      rcases e2 : valueP L q m with ⟨k, e1⟩ | ⟨y, r, i⟩
      · rw [e2] at h2; exact nz_of h2
      · exact mkS_nz _ _ _ _
  split
  · exact ofPart_nz (lastP_nz L _ _)
  split
  · exact ofPart_nz (lastP_nz L _ _)
  split
  · unfold intoP
    split
    · exact nz_err (by decide)
    split
    · exact nz_err (by decide)
    · exact ofPart_nz (lastP_nz L _ _)
  split
  · unfold stopP
    split
    · exact nz_err (by decide)
    · exact mkS_nz _ _ _ _
  split
  · exact chooseP_nz h h' _ _ _
  split
  · exact repeatP_nz h _ _ _
  · exact nz_err (by decide)
theorem stmtF_nz (L : List Tok) : ∀ f, (∀ b p n, NZ (stmtF L f 0 b p n)) ∧ (∀ b p n, NZ (stmtF L f 1 b p n)) ∧ (∀ b p n, NZ (stmtF L f 2 b p n)) := by
  intro f
  induction f with
  | zero => exact ⟨fun _ _ _ => nz_err (by decide), fun _ _ _ => nz_err (by decide), fun _ _ _ => nz_err (by decide)⟩
  | succ f ih =>
    obtain ⟨i0, i1, i2⟩ := ih
    refine ⟨stmtP_nz i1 i2, fun b p n => ?_, chooseP_nz i1 i2⟩
    rw [stmtF_row]
    split
    · exact nz_ok _
    · have h0 := i0 b p n
      rcases e : stmtF L f 0 b p n with ⟨k, e1⟩ | ⟨x, q, m⟩
      · rw [e] at h0; exact h0
      · simp only
        have h1 := i1 b q m
        rcases e2 : stmtF L f 1 b q m with ⟨k, e1⟩ | ⟨l, r, i⟩
        · rw [e2] at h1; exact h1
        · exact nz_ok _
theorem textF_nz (L : List Tok) : ∀ f p n, NZ (textF L f p n) := by
  intro f
  induction f with
  | zero => intro p n; exact nz_err (by decide)
  | succ f ih =>
    intro p n
    unfold textF
    split
    · exact nz_ok _
    · have h0 := (stmtF_nz L (2 * L.length + 2)).1 0 p n
      rcases e : stmtT L 0 p n with ⟨k, e1⟩ | ⟨x, q, m⟩
      · rw [show stmtF L (2 * L.length + 2) 0 0 p n = _ from e] at h0; exact h0
      · simp only
        have h1 := ih q m
        rcases e2 : textF L f q m with ⟨k, e1⟩ | ⟨l, r, i⟩
        · rw [e2] at h1; exact h1
        · exact nz_ok _
theorem parseT_nz (s : List UInt8) : NZ (parseT s) := by
  unfold parseT
  rcases e : cut s with L | ⟨k, er⟩
  · simp only
    have h := textF_nz L (L.length + 1) 0 0
    rcases e2 : textF L (L.length + 1) 0 0 with ⟨k, e1⟩ | ⟨l, q, m⟩
    · rw [e2] at h; exact nz_of h
    · exact nz_ok _
  · exact nz_err (cut_er e)
theorem textF_bd (L : List Tok) : ∀ f p n l q m, textF L f p n = .ok (l, q, m) → n ≤ 600 → m ≤ 600 := by
  intro f
  induction f with
  | zero => intro p n l q m h; cases h
  | succ f ih =>
    intro p n l q m h hn
    unfold textF at h
    split at h
    · cases h; exact hn
    · rcases e : stmtT L 0 p n with e1 | ⟨y, r, i⟩
      · rw [e] at h; cases h
      · rw [e] at h; simp only at h
        rcases e2 : textF L f r i with e1 | ⟨z, r2, i2⟩
        · rw [e2] at h; cases h
        · rw [e2] at h; simp only at h
          cases h
          exact ih _ _ _ _ _ e2 (((stmtF_fwd L _).1 _ _ _ _ _ _ e).2 hn)
theorem parseT_cnt {s : List UInt8} {l : List PT} (h : parseT s = .ok l) : tcnts l ≤ 600 := by
  unfold parseT at h
  rcases e : cut s with L | ⟨k, er⟩
  · rw [e] at h
    simp only at h
    rcases e2 : textF L (L.length + 1) 0 0 with ⟨k, e1⟩ | ⟨l', q, m⟩
    · rw [e2] at h; cases h
    · rw [e2] at h; cases h
      have h1 := textF_cts L _ _ _ _ _ _ e2
      have h2 := textF_bd L _ _ _ _ _ _ e2 (by omega)
      omega
  · rw [e] at h; cases h

/-- statements as they lie in a row -/
theorem rows_of {w : World} {ok : Nat → Prop} {b : Nat} : ∀ (l : List PT) (o : Nat), SAt w ok (srow l) b o → ∃ ys : List RT, ys.map (·.x) = l ∧ (∀ j u, (scs ys)[j]? = some u → w.cell? ⟨b, o + j, none⟩ = some u) ∧ ∀ y ∈ ys, TM w ok y ∧ ∀ u ∈ sc y, u.oneCell' = true
  | [], o, _ => ⟨[], rfl, fun j u h => by simp [scs] at h, fun y hy => by cases hy⟩
  | x :: l, o, h => by
    obtain ⟨h1, h2, h3, ⟨u, h4, h5⟩, ⟨ad, cap, b', o', f1, f2, f3, f4, f5⟩, ⟨ad', cap', b'', o'', g1, g2, g3, g4, g5⟩, hr⟩ := h
    obtain ⟨ys, y1, y2, y3⟩ := rows_of l (o + 6) hr
    have hone : u.oneCell' = true := by obtain ⟨a, c, b, o, rfl, _⟩ := h5; rfl
    refine ⟨⟨x, u, .slice ad (slen x.body) cap, .slice ad' (slen x.els) cap'⟩ :: ys, by simp [y1], ?_, ?_⟩
    · intro j v hj
      match j, hj with
      | 0, hj => simp [scs, sc] at hj; subst hj; exact h1
      | 1, hj => simp [scs, sc] at hj; subst hj; exact h2
      | 2, hj => simp [scs, sc] at hj; subst hj; exact h3
      | 3, hj => simp [scs, sc] at hj; subst hj; exact h4
      | 4, hj => simp [scs, sc] at hj; subst hj; exact f1
      | 5, hj => simp [scs, sc] at hj; subst hj; exact g1
      | j + 6, hj =>
        have := y2 j v (by simpa [scs, sc] using hj)
        rw [show o + (j + 6) = o + 6 + j by omega]; exact this
    · intro y hy
      rcases List.mem_cons.1 hy with rfl | hy
      · refine ⟨⟨h5, ⟨ad, cap, b', o', rfl, f2, f3, f4, f5⟩, ⟨ad', cap', b'', o'', rfl, g2, g3, g4, g5⟩⟩, ?_⟩
        intro v hv
        simp [sc] at hv
        rcases hv with rfl | rfl | rfl | rfl | rfl | rfl
        · rfl
        · rfl
        · rfl
        · exact hone
        · rfl
        · rfl
      · exact y3 y hy
theorem toPT_row (l : List PT) : toPT (srow l) = l := by
  induction l with
  | nil => rfl
  | cons x l ih => show _ :: toPT (srow l) = _; rw [ih]; rfl
end Go.Proofs.YtnofibjchhcmeabDoor
