/- The chapter's example of a log. -/
import Derived.Test.YtongeppdaeekeaaAtH
namespace Go.Proofs.Ytongeppdaeekeaa
open Go.RowKit Go.Maps
set_option linter.unusedVariables false

theorem PSl.nil (w : World) : PSl w (.slice none 0 0) [] := ⟨none, 0, 0, 0, rfl, Nat.le_refl _, Nat.zero_le _, fun h => absurd h (by simp), fun i hi => absurd hi (by simp)⟩
/-- a log of the call's own -/
def OL (b W : World) (lb : Nat) (s : Lg) : Prop := ∃ lab, LV W lab 0 lb s ∧ (∀ k, k < b.heap.size → lab k = 0) ∧ Below b.heap.size b W
theorem OL.step {b W : World} {lb : Nat} {s s' : Lg} {v : Value} {f : Nat} {args : Array Value} (h : OL b W lb s) (hc : ∀ lab, LV W lab 0 lb s → Calls Try.prog f args W (LQ 0 lab lb s' v W)) : Calls Try.prog f args W fun e w' => e = .returned v ∧ OL b w' lb s' := by
  obtain ⟨lab, h1, h2, h3⟩ := h
  refine (hc lab h1).mono ?_
  rintro e w' ⟨he, lab', q1, q2⟩
  refine ⟨he, lab', q1, fun k hk => (q2.1 k (by have := h3.size; omega)).trans (h2 k hk), ?_⟩
  exact h3.trans (q2.2.below h3.size (fun k hk => by
    rcases Nat.lt_or_ge k b.heap.size with r | r
    · have := h2 k r; omega
    · exact r))
theorem OL.look {b W : World} {lb : Nat} {s : Lg} {v : Value} {f : Nat} {args : Array Value} (h : OL b W lb s) (hc : ∀ lab, LV W lab 0 lb s → Calls Try.prog f args W (AN W v)) : Calls Try.prog f args W fun e w' => e = .returned v ∧ OL b w' lb s := by
  obtain ⟨lab, h1, h2, h3⟩ := h
  refine (hc lab h1).mono ?_
  rintro e w' ⟨he, hb⟩
  exact ⟨he, lab, h1.below hb, h2, h3.trans (hb.mono h3.size)⟩
theorem OL.below {b W W' : World} {lb : Nat} {s : Lg} (h : OL b W lb s) (hb : Below W.heap.size W W') : OL b W' lb s := by
  obtain ⟨lab, h1, h2, h3⟩ := h
  exact ⟨lab, h1.below hb, h2, h3.trans (hb.mono h3.size)⟩
theorem OL.bel {b W : World} {lb : Nat} {s : Lg} (h : OL b W lb s) : Below b.heap.size b W := h.choose_spec.2.2
theorem new_own {r u o : Int} {Rd : List (Int × Int)} {w w' : World} {e : Ending} (h0 : errL r u o Rd = 0) (h : LNewQ r u o Rd w e w') : ∃ lb, e = .returned (.tuple #[.pointer (some ⟨lb, 0, none⟩), .int .i64 0]) ∧ OL w w' lb (newL r u o Rd) := by
  rcases h with ⟨hb, ⟨h1, _⟩ | ⟨_, lb, rfl, hl, hf⟩⟩
  · exact absurd h0 h1
  · obtain ⟨lab', q1, q2⟩ := hf (fun _ => 0) 0 (fun k hk => absurd rfl hk)
    exact ⟨lb, rfl, lab', q2, fun k hk => q1 k hk, hb⟩
theorem GSl.four (w : World) (a b c d : Int) (t : Nat) : GSl (w.alloc (Obj.cells #[Value.int .i64 a, Value.int .i64 b, Value.int .i64 c, Value.int .i64 d] t)) (.slice (some ⟨w.heap.size, 0, none⟩) 4 4) [a, b, c, d] := by
  refine ⟨some ⟨w.heap.size, 0, none⟩, 4, w.heap.size, 0, rfl, Nat.le_refl _, by unfold maxLen; omega, fun _ => rfl, fun i hi => ?_⟩
  match i, hi with
  | 0, _ => simp
  | 1, _ => simp
  | 2, _ => simp
  | 3, _ => simp
def s1 : Lg := { R := 1, W := 1, O := 1, Rs := [(3, 7, -1)], Ws := [], Os := [], ops := [], now := [] }
def s2 : Lg := { R := 1, W := 1, O := 1, Rs := [(3, 7, -1)], Ws := [(3, 9)], Os := [], ops := [], now := [] }
def s3 : Lg := { R := 1, W := 1, O := 1, Rs := [(3, 7, -1)], Ws := [(3, 10)], Os := [], ops := [], now := [] }
theorem xa0 : noteS (newL 1 1 1 []) (3, 7, -1) = s1 ∧ noteE (newL 1 1 1 []) (3, 7, -1) = 0 := ⟨rfl, rfl⟩
theorem xa1 : noteS s1 (4, 0, 2) = s1 ∧ noteE s1 (4, 0, 2) = 200 := ⟨rfl, rfl⟩
theorem xa2 : noteS s1 (3, 8, 2) = s1 ∧ noteE s1 (3, 8, 2) = 61 := ⟨rfl, rfl⟩
theorem xa3 : writeS s1 3 9 = s2 ∧ writeE s1 3 = 0 := ⟨rfl, rfl⟩
theorem xa4 : writeS s2 3 10 = s3 ∧ writeE s2 3 = 0 := ⟨rfl, rfl⟩
theorem xa5 : writeS s3 5 1 = s3 ∧ writeE s3 5 = 200 := ⟨rfl, rfl⟩
theorem xa6 : holdsL s3.Rs [0, 0, 0, 7] = true ∧ holdsL s3.Rs [0, 0, 0, 8] = false := ⟨rfl, rfl⟩
set_option maxRecDepth 100000 in
set_option maxHeartbeats 4000000 in
theorem alive_any (w : World) : Calls Try.prog 13 #[] w (AN w (.bool true)) := by
  have HN : Hid (Calls Try.prog 9 #[.int .i64 1, .int .i64 1, .int .i64 1, .slice none 0 0] w fun e w' => ∃ lb, e = .returned (.tuple #[.pointer (some ⟨lb, 0, none⟩), .int .i64 0]) ∧ OL w w' lb (newL 1 1 1 [])) := (lnew_any 1 1 1 [] _ w (PSl.nil w)).mono fun e w' h => new_own rfl h
  have HQ : Hid (∀ W, Below w.heap.size w W → AN w (.bool true) (.returned (.bool true)) W) := fun W hW => ⟨rfl, hW⟩
  generalize AN w (.bool true) = P at *
  go_enter Try.func13, Try.ntmps13
  go_wp2_with fail
  refine HN.out.mono ?_
  rintro e w1 ⟨lb, rfl, h1⟩
  have HO := h1.step (s' := s1) (v := .int .i64 0) (f := 22) (args := #[.pointer (some ⟨lb, 0, none⟩), .agg #[.int .i64 3, .int .i64 7, .int .i64 (-1)]]) (fun lab h => by have := note_any h 3 7 (-1); rw [xa0.1, xa0.2] at this; exact this)
  clear h1 HN
  go_wp2_with fail
  refine HO.mono ?_
  rintro e w2 ⟨rfl, h2⟩
  have HO := h2.step (s' := s1) (v := .int .i64 200) (f := 22) (args := #[.pointer (some ⟨lb, 0, none⟩), .agg #[.int .i64 4, .int .i64 0, .int .i64 2]]) (fun lab h => by have := note_any h 4 0 2; rw [xa1.1, xa1.2] at this; exact this)
  clear h2
  go_wp2_with fail
  refine HO.mono ?_
  rintro e w3 ⟨rfl, h3⟩
  have HO := h3.step (s' := s1) (v := .int .i64 61) (f := 22) (args := #[.pointer (some ⟨lb, 0, none⟩), .agg #[.int .i64 3, .int .i64 8, .int .i64 2]]) (fun lab h => by have := note_any h 3 8 2; rw [xa2.1, xa2.2] at this; exact this)
  clear h3
  go_wp2_with fail
  refine HO.mono ?_
  rintro e w4 ⟨rfl, h4⟩
  have HO := h4.step (s' := s2) (v := .int .i64 0) (f := 51) (args := #[.pointer (some ⟨lb, 0, none⟩), .int .i64 3, .int .i64 9]) (fun lab h => by have := write_any h 3 9; rw [xa3.1, xa3.2] at this; exact this)
  clear h4
  go_wp2_with fail
  refine HO.mono ?_
  rintro e w5 ⟨rfl, h5⟩
  have HO := h5.step (s' := s3) (v := .int .i64 0) (f := 51) (args := #[.pointer (some ⟨lb, 0, none⟩), .int .i64 3, .int .i64 10]) (fun lab h => by have := write_any h 3 10; rw [xa4.1, xa4.2] at this; exact this)
  clear h5
  go_wp2_with fail
  refine HO.mono ?_
  rintro e w6 ⟨rfl, h6⟩
  have HO := h6.step (s' := s3) (v := .int .i64 200) (f := 51) (args := #[.pointer (some ⟨lb, 0, none⟩), .int .i64 5, .int .i64 1]) (fun lab h => by have := write_any h 5 1; rw [xa5.1, xa5.2] at this; exact this)
  clear h6
  go_wp2_with fail
  refine HO.mono ?_
  rintro e w7 ⟨rfl, h7⟩
  have HO := (h7.below (bl1 w7 (.cells #[.int .i64 0, .int .i64 0, .int .i64 0, .int .i64 7] 2))).look (v := .bool true) (f := 23) (args := #[.pointer (some ⟨lb, 0, none⟩), .slice (some ⟨w7.heap.size, 0, none⟩) 4 4]) (fun lab h => by
    obtain ⟨_, _, _, _, _, _, _, h⟩ := h
    have := holds_any h _ _ (GSl.four w7 0 0 0 7 2); rw [xa6.1] at this; exact this)
  clear h7
  go_wp2_with fail
  refine HO.mono ?_
  rintro e w8 ⟨rfl, h8⟩
  have HO := (h8.below (bl1 w8 (.cells #[.int .i64 0, .int .i64 0, .int .i64 0, .int .i64 8] 2))).look (v := .bool false) (f := 23) (args := #[.pointer (some ⟨lb, 0, none⟩), .slice (some ⟨w8.heap.size, 0, none⟩) 4 4]) (fun lab h => by
    obtain ⟨_, _, _, _, _, _, _, h⟩ := h
    have := holds_any h _ _ (GSl.four w8 0 0 0 8 2); rw [xa6.2] at this; exact this)
  clear h8
  go_wp2_with fail
  refine HO.mono ?_
  rintro e w9 ⟨rfl, h9⟩
  have HF : Hid (P (.returned (.bool true)) w9) := HQ.out w9 h9.bel
  clear h9
  go_wp2
  first | exact HF.out | (go_ret; exact HF.out)
end Go.Proofs.Ytongeppdaeekeaa
