/- What is written is read: the whole text, plain. -/
import Derived.Test.YthcidcfaodjbjacDoorBkA
namespace Go.Proofs.YthcidcfaodjbjacDoor
set_option linter.unusedVariables false
theorem cln_parts {s : List UInt8} (h : cln s = true) : s ≠ [] ∧ s.all (fun b => !sepB b) = true ∧ s.count 10 = 0 ∧ s.count 35 = 0 ∧ s.getLast? ≠ some 58 := by
  unfold cln at h
  rw [Bool.and_eq_true] at h
  have ha : ∀ b ∈ s, sepB b = false ∧ b ≠ 10 ∧ b ≠ 35 ∧ b ≠ 58 := fun b hb => by
    have := List.all_eq_true.1 h.2 b hb
    unfold okB at this
    simpa [and_assoc] using this
  refine ⟨fun e => by rw [e] at h; simp at h, List.all_eq_true.2 fun b hb => by rw [(ha b hb).1]; rfl, ?_, ?_, ?_⟩
  · exact List.count_eq_zero.2 fun hm => (ha _ hm).2.1 rfl
  · exact List.count_eq_zero.2 fun hm => (ha _ hm).2.2.1 rfl
  · intro e
    exact (ha _ (List.mem_of_getLast? e)).2.2.2 rfl
theorem fields_tail : ∀ (ps : List (List UInt8)) (cur : List UInt8), cur ≠ [] → (∀ p ∈ ps, cln p = true) → fieldsG (Lib.joinTail [32] ps) cur = cur :: ps
  | [], cur, hc, _ => by
    show fieldsG [] cur = _
    rw [fieldsG, if_neg hc]
  | p :: ps, cur, hc, h => by
    have hp := cln_parts (h p (List.mem_cons_self ..))
    have e : Lib.joinTail [32] (p :: ps) = 32 :: (p ++ Lib.joinTail [32] ps) := by simp [Lib.joinTail]
    rw [e, fieldsG, if_pos (by decide), if_neg hc, fieldsG_skip p _ [] hp.2.1, List.nil_append, fields_tail ps p hp.1 (fun q hq => h q (List.mem_cons_of_mem _ hq))]
theorem fields_join (p : List UInt8) (ps : List (List UInt8)) (h : ∀ q ∈ p :: ps, cln q = true) : fieldsL (Lib.join (p :: ps) [32]) = p :: ps := by
  have hp := cln_parts (h p (List.mem_cons_self ..))
  unfold fieldsL
  rw [Lib.join_cons, fieldsG_skip p _ [] hp.2.1, List.nil_append, fields_tail ps p hp.1 (fun q hq => h q (List.mem_cons_of_mem _ hq))]
theorem tail_count (c : UInt8) (hc : c = 10 ∨ c = 35) : ∀ (ps : List (List UInt8)), (∀ p ∈ ps, cln p = true) → (Lib.joinTail [32] ps).count c = 0
  | [], _ => rfl
  | p :: ps, h => by
    have hp := cln_parts (h p (List.mem_cons_self ..))
    have e : Lib.joinTail [32] (p :: ps) = 32 :: (p ++ Lib.joinTail [32] ps) := by simp [Lib.joinTail]
    rw [e, List.count_cons_of_ne (by rcases hc with rfl | rfl <;> decide), List.count_append, tail_count c hc ps (fun q hq => h q (List.mem_cons_of_mem _ hq))]
    rcases hc with rfl | rfl
    · rw [hp.2.2.1]
    · rw [hp.2.2.2.1]
theorem join_count (c : UInt8) (hc : c = 10 ∨ c = 35) (p : List UInt8) (ps : List (List UInt8)) (h : ∀ q ∈ p :: ps, cln q = true) : (Lib.join (p :: ps) [32]).count c = 0 := by
  have hp := cln_parts (h p (List.mem_cons_self ..))
  rw [Lib.join_cons, List.count_append, tail_count c hc ps (fun q hq => h q (List.mem_cons_of_mem _ hq))]
  rcases hc with rfl | rfl
  · rw [hp.2.2.1]
  · rw [hp.2.2.2.1]
theorem wordGo_cln (k o : Int) : ∀ L : List Say, (L.all fun s => cln s.word) = true → (∃ s ∈ L, s.kind = k ∧ s.op = o) → cln (wordGo k o L).1 = true
  | [], _, ⟨_, h, _⟩ => by cases h
  | s :: L, h, he => by
    rw [List.all_cons, Bool.and_eq_true] at h
    unfold wordGo
    by_cases hs : s.kind = k ∧ s.op = o
    · rw [if_pos hs]; exact h.1
    · rw [if_neg hs]
      obtain ⟨t, ht, h2⟩ := he
      rcases List.mem_cons.1 ht with rfl | ht
      · exact absurd h2 hs
      · exact wordGo_cln k o L h.2 ⟨t, ht, h2⟩
theorem word_cln {x : In} {y : In × List UInt8} {r : List (List UInt8)} (h : insL (wordOf x).1 r = some y) : cln (wordOf x).1 = true := by
  unfold insL meanL at h
  have : ∀ L : List Say, (L.all fun s => cln s.word) = true → ∀ w s, meanGo w L = some s → cln w = true := by
    intro L
    induction L with
    | nil => intro _ w s h; cases h
    | cons t L ih =>
      intro hL w s h
      rw [List.all_cons, Bool.and_eq_true] at hL
      unfold meanGo at h
      split at h
      · rename_i e; rw [← e]; exact hL.1
      · exact ih hL.2 w s h
  cases hm : meanGo (wordOf x).1 saysL with
  | none => rw [hm] at h; cases h
  | some s => exact this saysL (by decide) _ s hm
/-- may stand in a text that is written -/
structure Fit (x : In) (cells long : Int) : Prop where
  w : InW x
  ok : oneC x cells long = 0
theorem Fit.all {x : In} {cells long : Int} (f : Fit x cells long) (hl : long ≤ 600) : ∀ q ∈ (wordOf x).1 :: (wordOf x).2.map (pieceT x), cln q = true := by
  intro q hq
  rcases List.mem_cons.1 hq with rfl | hq
  · exact word_cln (ins_back f.w f.ok hl)
  · obtain ⟨c, _, rfl⟩ := List.mem_map.1 hq
    exact piece_cln f.w c
theorem Fit.line {x : In} {cells long : Int} (f : Fit x cells long) (hl : long ≤ 600) (st : Rs) (n : Int) : lineL st n (fieldsL (saidL (listT x))) = .ok ⟨st.code ++ [baseI x], st.frm ++ [(n, nameI x)], st.tab⟩ := by
  have ha := f.all hl
  unfold listT
  rw [saidL_none _ (join_count 35 (Or.inr rfl) _ _ ha), fields_join _ _ ha]
  have hw := cln_parts (ha _ (List.mem_cons_self ..))
  unfold lineL
  dsimp only
  rw [if_neg (fun e => hw.2.2.2.2 e.1), ins_back f.w f.ok hl]
theorem label_cln (k : Nat) (hk : k < 600) : cln (labelT k) = true := cons_cln (by decide) (text_cln _ (by omega) (by omega))
theorem lbl_line (k : Nat) (hk : k < 600) (st : Rs) (n : Int) (h : findT st.tab (labelT k) = none) : lineL st n (fieldsL (saidL (labelT k ++ [58]))) = .ok ⟨st.code, st.frm, st.tab ++ [(labelT k, (st.code.length : Int))]⟩ := by
  have hc := cln_parts (label_cln k hk)
  rw [saidL_none _ (by rw [List.count_append, hc.2.2.2.1]; rfl)]
  have e : fieldsL (labelT k ++ [58]) = [labelT k ++ [58]] := by
    unfold fieldsL
    have := fieldsG_skip (labelT k ++ [58]) [] [] (by rw [List.all_append, hc.2.1]; rfl)
    rw [List.append_nil, List.nil_append] at this
    rw [this, fieldsG, if_neg (by simp)]
  rw [e]
  unfold lineL
  dsimp only
  rw [if_pos ⟨by simp, rfl⟩, List.dropLast_concat]
  unfold labelL
  rw [if_pos (lab_text k (by omega) (by omega)), h]
end Go.Proofs.YthcidcfaodjbjacDoor
