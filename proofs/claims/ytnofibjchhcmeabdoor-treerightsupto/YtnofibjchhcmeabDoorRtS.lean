/- The looker goes over statements: exact; Right. -/
import Derived.Test.YtnofibjchhcmeabDoorRtE
import Derived.Test.YtnofibjchhcmeabDoorRtD
namespace Go.Proofs.YtnofibjchhcmeabDoor
open Go.RowKit Go.Maps
set_option linter.unusedVariables false
set_option linter.unusedSimpArgs false

def SSz : SL → Prop
  | .leaf => True
  | .inner _ (_, s, _, a) _ .leaf r => s.size ≤ maxLen ∧ ESz a ∧ SSz r
  | .inner _ (_, s, _, a) _ (.inner _ _ _ d e) r => s.size ≤ maxLen ∧ ESz a ∧ SSz d ∧ SSz e ∧ SSz r
theorem SSz_inner {i : Nat} {k : Int} {s : ByteArray} {c : Int} {a : EL} {v : Unit} {x r : SL} (h : SSz (.inner i (k, s, c, a) v x r)) : s.size ≤ maxLen ∧ ESz a ∧ SSz (slft x) ∧ SSz (srgt x) ∧ SSz r := by
  cases x with
  | leaf => exact ⟨h.1, h.2.1, trivial, trivial, h.2.2⟩
  | inner => exact h
def rtS : SL → Nat → Nat → Option Nat
  | .leaf, _, n => some n
  | .inner _ (k, s, c, a) _ .leaf r, b, n => if 600 < n + 1 then none else if stmtOk k s c (elen a) 0 0 = false then none else
    match rtE a 1 (n + 1) with
    | none => none
    | some n1 => if (hasS k).body = true ∧ 12 ≤ b then none else rtS r b n1
  | .inner _ (k, s, c, a) _ (.inner _ _ _ d e) r, b, n => if 600 < n + 1 then none else if stmtOk k s c (elen a) (slen d) (slen e) = false then none else
    match rtE a 1 (n + 1) with
    | none => none
    | some n1 => if (hasS k).body = true ∧ 12 ≤ b then none else
      match rtS d (b + 1) n1 with
      | none => none
      | some n2 => match rtS e (b + 1) n2 with
        | none => none
        | some n3 => rtS r b n3
/-- a statement's blocks -/
def blkR (k : Int) (b : Nat) (rd re : Nat → Option Nat) (n : Nat) : Option Nat := if (hasS k).body = true ∧ 12 ≤ b then none else
  match rd n with
  | none => none
  | some n2 => re n2
theorem rtS_inner (i : Nat) (k : Int) (s : ByteArray) (c : Int) (a : EL) (v : Unit) (x r : SL) (b n : Nat) : rtS (.inner i (k, s, c, a) v x r) b n = if 600 < n + 1 then none else if stmtOk k s c (elen a) (slen (slft x)) (slen (srgt x)) = false then none else
    match rtE a 1 (n + 1) with
    | none => none
    | some n1 => match blkR k b (rtS (slft x) (b + 1)) (rtS (srgt x) (b + 1)) n1 with
      | none => none
      | some n3 => rtS r b n3 := by
  cases x with
  | leaf =>
    rw [rtS]
    unfold blkR
    simp only [slft, srgt, slen]
    split
    · rfl
    split
    · rfl
    rcases rtE a 1 (n + 1) with _ | n1
    · rfl
    · simp only
      split <;> rfl
  | inner j d' v' p q =>
    show rtS (.inner i (k, s, c, a) v (.inner j d' v' p q) r) b n = if 600 < n + 1 then none else if stmtOk k s c (elen a) (slen p) (slen q) = false then none else
      match rtE a 1 (n + 1) with
      | none => none
      | some n1 => match blkR k b (rtS p (b + 1)) (rtS q (b + 1)) n1 with
        | none => none
        | some n3 => rtS r b n3
    rw [rtS]
    unfold blkR
    by_cases h1 : 600 < n + 1
    · rw [if_pos h1, if_pos h1]
    rw [if_neg h1, if_neg h1]
    by_cases h2 : stmtOk k s c (elen a) (slen p) (slen q) = false
    · rw [if_pos h2, if_pos h2]
    rw [if_neg h2, if_neg h2]
    rcases rtE a 1 (n + 1) with _ | n1
    · rfl
    · simp only
      by_cases h3 : (hasS k).body = true ∧ 12 ≤ b
      · rw [if_pos h3, if_pos h3]
      · rw [if_neg h3, if_neg h3]
        rcases rtS p (b + 1) n1 with _ | n2
        · rfl
        · rfl
theorem rtS_bd (l : SL) : ∀ b n n', n ≤ 600 → rtS l b n = some n' → n' ≤ 600 := by
  induction l using sl_ind with
  | h0 => intro b n n' hn h; cases h; exact hn
  | h1 i d v x r ihl ihr ih =>
    obtain ⟨k, s, c, a⟩ := d
    intro b n n' hn h
    rw [rtS_inner] at h
    split at h
    · cases h
    split at h
    · cases h
    rcases e : rtE a 1 (n + 1) with _ | n1
    · rw [e] at h; cases h
    · rw [e] at h; simp only at h
      have h1 := rtE_bd a 1 (n + 1) n1 (by omega) e
      rcases e2 : blkR k b (rtS (slft x) (b + 1)) (rtS (srgt x) (b + 1)) n1 with _ | n3
      · rw [e2] at h; cases h
      · rw [e2] at h; simp only at h
        refine ih _ _ _ ?_ h
        unfold blkR at e2
        split at e2
        · cases e2
        · rcases e3 : rtS (slft x) (b + 1) n1 with _ | n2
          · rw [e3] at e2; cases e2
          · rw [e3] at e2; simp only at e2
            exact ihr _ _ _ (ihl _ _ _ h1 e3) e2
theorem body_cell (w : World) (kk : Nat) (h1 : 1 ≤ kk) (h9 : kk ≤ 9) (hT : TB w) : w.cell? ⟨1, kk * 5 + 2, none⟩ = some (.bool (hasS (kk : Int)).body) ∧ 1 < w.heap.size := by
  obtain ⟨_, ⟨t, fr, h⟩⟩ := hT
  refine ⟨?_, (Array.getElem?_eq_some_iff.1 h).1⟩
  rw [cell_of_row w 1 _ _ _ _ h]
  have hk9 : kk = 1 ∨ kk = 2 ∨ kk = 3 ∨ kk = 4 ∨ kk = 5 ∨ kk = 6 ∨ kk = 7 ∨ kk = 8 ∨ kk = 9 := by omega
  rcases hk9 with rfl | rfl | rfl | rfl | rfl | rfl | rfl | rfl | rfl <;> rfl

set_option maxRecDepth 100000 in
set_option maxHeartbeats 8000000 in
theorem blocks_any (k : Int) (hk : 1 ≤ k ∧ k ≤ 9) (s : ByteArray) (c : Int) (va vb ve : Value) (b n kb : Nat) (hb : b ≤ 100) (rd re : Nat → Option Nat) (w : World) (hlk : LK w kb n) (hT : TB w) (hk2 : 2 < kb)
    (HD : Hid (∀ W, ¬ ((hasS k).body = true ∧ 12 ≤ b) → Gr w W kb → LK W kb n → TB W → Calls Tryd.prog 22 #[.pointer (some ⟨kb, 0, none⟩), vb, .int .i64 ((b : Int) + 1)] W (LP W kb (rd n))))
    (HE : Hid (∀ W n2, ¬ ((hasS k).body = true ∧ 12 ≤ b) → rd n = some n2 → Gr w W kb → LK W kb n2 → TB W → Calls Tryd.prog 22 #[.pointer (some ⟨kb, 0, none⟩), ve, .int .i64 ((b : Int) + 1)] W (LP W kb (re n2)))) :
    Calls Tryd.prog 37 #[.pointer (some ⟨kb, 0, none⟩), .agg #[.int .i64 k, .string s, .int .i64 c, va, vb, ve], .int .i64 (b : Int)] w (LP w kb (blkR k b rd re n)) := by
  obtain ⟨kk, rfl⟩ : ∃ kk : Nat, k = kk := ⟨k.toNat, by omega⟩
  have hk10 : (kk : Int) < 10 := by omega
  obtain ⟨res, hres⟩ : ∃ r, blkR (kk : Int) b rd re n = r := ⟨_, rfl⟩
  have HR : Hid (blkR (kk : Int) b rd re n = res) := hres
  obtain ⟨P, hP⟩ : ∃ P, LP w kb res = P := ⟨_, rfl⟩
  have HP : Hid (LP w kb res = P) := hP
  rw [hres, hP]
  obtain ⟨bd, hbd⟩ : ∃ bd, (hasS (kk : Int)).body = bd := ⟨_, rfl⟩
  have HBD : Hid ((hasS (kk : Int)).body = bd) := hbd
  have tb : ∀ A, (w.alloc A).cell? ⟨1, kk * 5 + 2, none⟩ = some (.bool bd) := fun A => by
    obtain ⟨h1, h2⟩ := body_cell w kk (by omega) (by omega) hT
    rw [World.cell?_of_block (a := ⟨1, kk * 5 + 2, none⟩) (Below.heap_alloc _ _ _ h2), h1, hbd]
  have HLK : Hid (LK w kb n) := hlk
  have HT : Hid (TB w) := hT
  have HLT : Hid (kb < w.heap.size) := hlk.lt
  clear hres hP hbd hT hlk
  have HFN : Hid (∀ W, res = none → Gr w W kb → P (.returned (.bool false)) W) := by
    intro W h g
    rw [← HP.out, h]
    exact ⟨rfl, (fun n' h => by cases h), g⟩
  by_cases hbb : bd = true ∧ 12 ≤ b
  · obtain ⟨rfl, h12⟩ := hbb
    have e12 : decide ((12 : Int) ≤ (b : Int)) = true := by simp; omega
    have HRN : Hid (res = none) := by show _ = _; rw [← HR.out]; unfold blkR; rw [if_pos ⟨HBD.out, h12⟩]
    have HF : Hid (∀ A, P (.returned (.bool false)) (w.alloc A)) := fun A => HFN.out _ HRN.out ((Gr.refl _ _).alloc _)
    clear h12
    go_enter Tryd.func37, Tryd.ntmps37
    go_wp2_with fail
    first | exact HF.out _ | (go_ret; exact HF.out _)
  · have HRM : Hid ((match rd n with | none => none | some n2 => re n2) = res) := by show _ = _; rw [← HR.out]; unfold blkR; rw [HBD.out, if_neg hbb]
    have K : ∃ z : Bool, bd = z ∧ (z = true → decide ((12 : Int) ≤ (b : Int)) = false) := ⟨bd, rfl, fun h => by simp; simp [h] at hbb; omega⟩
    have HNB : Hid (¬ ((hasS (kk : Int)).body = true ∧ 12 ≤ b)) := by rw [HBD.out]; exact hbb
    clear hbb
    have main : ∀ (hz : bd = true → decide ((12 : Int) ≤ (b : Int)) = false), Calls Tryd.prog 37 #[.pointer (some ⟨kb, 0, none⟩), .agg #[.int .i64 (kk : Int), .string s, .int .i64 c, va, vb, ve], .int .i64 (b : Int)] w P := by
      intro hz
      cases bd
      all_goals
        try have hz' := hz rfl
        clear hz K
        go_enter Tryd.func37, Tryd.ntmps37
        go_wp2_with fail
        generalize hW : w.alloc _ = W0
        have B0 : Hid (Below w.heap.size w W0) := by show Below _ _ _; rw [← hW]; exact (Below.refl _ _).alloc (Nat.le_refl _) _
        have X0 : Hid (W0.heap[w.heap.size]? = some (.cells #[.int .i64 (kk : Int), .string s, .int .i64 c, va, vb, ve] 39)) := by show _ = _; rw [← hW]; exact heap_alloc_new _ _
        clear hW
        refine (HD.out _ HNB.out (Gr.below B0.out) (HLK.out.keep (B0.out.block kb HLT.out)) (HT.out.below B0.out)).mono ?_
        intro e w1 hp1
        rcases hr1 : rd n with _ | n2
        · rw [hr1] at hp1 HRM
          obtain ⟨rfl, hp2, hp3⟩ := hp1
          have HF : Hid (P (.returned (.bool false)) w1) := HFN.out _ HRM.out.symm ((Gr.below B0.out).trans hp3)
          clear hp2 hp3 hr1
          simp only [Option.isSome]
          go_wp2_with fail
          first | exact HF.out | (go_ret; exact HF.out)
        · rw [hr1] at hp1 HRM
          obtain ⟨rfl, hp2, hp3⟩ := hp1
          have G1 : Hid (Gr w w1 kb) := (Gr.below B0.out).trans hp3
          have L1 : Hid (LK w1 kb n2) := hp2 n2 rfl
          have X1 : Hid (w1.heap[w.heap.size]? = some (.cells #[.int .i64 (kk : Int), .string s, .int .i64 c, va, vb, ve] 39)) := (hp3.block _ (Array.getElem?_eq_some_iff.1 X0.out).1 (by intro e; cases e; have := HLT.out; omega)).trans X0.out
          have y5 : w1.cell? ⟨w.heap.size, 5, none⟩ = some ve := (cell_of_row _ _ 5 _ _ _ X1.out).trans rfl
          have HRM2 : Hid (re n2 = res) := HRM.out
          have HR1 : Hid (rd n = some n2) := hr1
          clear hp2 hp3 hr1 HRM
          simp only [Option.isSome]
          go_wp2_with fail
          refine (HE.out _ n2 HNB.out HR1.out G1.out L1.out (HT.out.gr G1.out hk2)).mono ?_
          intro e w2 hp4
          have HF : Hid (P e w2) := by
            show P _ _
            rw [← HP.out, ← HRM2.out]
            exact ⟨hp4.1, hp4.2.1, G1.out.trans hp4.2.2⟩
          obtain ⟨rfl, hp5, hp6⟩ := hp4
          clear hp5 hp6
          generalize (re n2).isSome = zz at HF ⊢
          go_wp2_with fail
          first | exact HF.out | (go_ret; exact HF.out)
    obtain ⟨z, hz1, hz2⟩ := K
    exact main (fun h => hz2 (by rw [← hz1]; exact h))
end Go.Proofs.YtnofibjchhcmeabDoor
