/- The document's tasks of any shape. -/
import Derived.Test.YtamlnagipmomgaaTkC
namespace Go.Proofs.Ytamlnagipmomgaa
open Go.RowKit Go.Maps
set_option linter.unusedVariables false

def tasksL (k lo hi st it sg : Int) : List (Int × Int) := tasksN k lo st sg (countI k lo hi st it sg).1.toNat
set_option maxRecDepth 100000 in
set_option maxHeartbeats 4000000 in
theorem tasks_any (k lo hi st it sg : Int) (b0 : R64 lo) (b1 : R64 hi) (b2 : R64 st) (b3 : R64 it) (w : World) : Calls Try.prog 10 #[shV k lo hi st it sg] w fun e w' => ∃ v, e = .returned (.tuple #[v, .int .i64 (countI k lo hi st it sg).2]) ∧ PZ w' (w.heap.size + 1) v (tasksL k lo hi st it sg) ∧ Below w.heap.size w w' := by
  have fin : ∀ (n : Nat) (er : Int), countI k lo hi st it sg = ((n : Int), er) → Calls Try.prog 10 #[shV k lo hi st it sg] w (TkQ w k lo st sg n er) → Calls Try.prog 10 #[shV k lo hi st it sg] w fun e w' => ∃ v, e = .returned (.tuple #[v, .int .i64 (countI k lo hi st it sg).2]) ∧ PZ w' (w.heap.size + 1) v (tasksL k lo hi st it sg) ∧ Below w.heap.size w w' := by
    intro n er hc h
    refine h.mono fun e w' hq => ?_
    obtain ⟨v, h1, h2, h3⟩ := hq
    refine ⟨v, by rw [hc]; exact h1, ?_, h3⟩
    unfold tasksL
    rw [hc]
    simpa using h2
  have none : ∀ (er : Int), countI k lo hi st it sg = (0, er) → Calls Try.prog 10 #[.agg #[.int .i64 k, .int .i64 lo, .int .i64 hi, .int .i64 st, .int .i64 it, .int .i64 sg]] w (fun e w' => e = .returned (.tuple #[.slice none 0 0, .int .i64 er]) ∧ Below w.heap.size w w') → Calls Try.prog 10 #[shV k lo hi st it sg] w fun e w' => ∃ v, e = .returned (.tuple #[v, .int .i64 (countI k lo hi st it sg).2]) ∧ PZ w' (w.heap.size + 1) v (tasksL k lo hi st it sg) ∧ Below w.heap.size w w' := by
    intro er hc h
    refine fin 0 er hc (h.mono fun e w' hq => ?_)
    obtain ⟨rfl, h3⟩ := hq
    exact TkQ.nil _ _ _ _ _ _ _ h3
  by_cases h1 : k = 1
  · by_cases h2 : it = 0
    · by_cases h3 : sg = 0
      · by_cases h4 : st = 0
        · clear b0 b1 b2 b3 fin
          refine none 150 (by subst h1; simp [countI, countF, h2, h3, h4]) ?_
          go_enter Try.func10, Try.ntmps10
          go_wp2
          go_ret2
          exact ⟨rfl, bl1 _ _⟩
        · subst h1 h2 h3
          have hb := for_spec lo hi st b0 b1 b2 h4
          obtain ⟨n, er, hc⟩ : ∃ (n : Nat) (er : Int), countI 1 lo hi st 0 0 = ((n : Int), er) := by
            have e : countI 1 lo hi st 0 0 = if 200 < forN lo hi st then (0, 151) else (forN lo hi st, 0) := by unfold countI countF; rw [if_pos rfl, if_neg (by omega), if_neg h4]
            rw [e]
            split
            · exact ⟨0, 151, rfl⟩
            · exact ⟨(forN lo hi st).toNat, 0, by rw [Int.toNat_of_nonneg hb.1]⟩
          rcases Int.lt_or_gt_of_ne h4 with hs | hs
          · exact fin n er hc (tkF_neg lo hi st b0 b1 b2 hs n er hc w)
          · exact fin n er hc (tkF_pos lo hi st b0 b1 b2 hs n er hc w)
      · clear b0 b1 b2 b3 fin
        refine none 152 (by subst h1; simp [countI, countF, h3]) ?_
        go_enter Try.func10, Try.ntmps10
        go_wp2
        go_ret2
        exact ⟨rfl, bl1 _ _⟩
    · clear b0 b1 b2 b3 fin
      refine none 152 (by subst h1; simp [countI, countF, h2]) ?_
      go_enter Try.func10, Try.ntmps10
      go_wp2
      go_ret2
      exact ⟨rfl, bl1 _ _⟩
  by_cases h2 : k = 2
  · have e : countI k lo hi st it sg = countP lo hi st it sg := by unfold countI; rw [if_neg h1, if_pos h2]
    by_cases h3 : lo = 0
    · by_cases h4 : hi = 0
      · by_cases h5 : st = 0
        · by_cases h6 : it < 0
          · clear b0 b1 b2 b3 fin
            refine none 152 (by rw [e]; simp [countP, h3, h4, h5, h6]) ?_
            go_enter Try.func10, Try.ntmps10
            go_wp2
            go_ret2
            exact ⟨rfl, bl1 _ _⟩
          by_cases h7 : sg < 1
          · clear b0 b1 b2 b3 fin
            refine none 152 (by rw [e]; simp [countP, h3, h4, h5, h7]) ?_
            go_enter Try.func10, Try.ntmps10
            go_wp2
            go_ret2
            exact ⟨rfl, bl1 _ _⟩
          by_cases h8 : 6 < sg
          · clear b0 b1 b2 b3 fin
            refine none 152 (by rw [e]; simp [countP, h3, h4, h5, h8]) ?_
            go_enter Try.func10, Try.ntmps10
            go_wp2
            go_ret2
            exact ⟨rfl, bl1 _ _⟩
          · subst h2 h3 h4 h5
            obtain ⟨n, er, hc⟩ : ∃ (n : Nat) (er : Int), countI 2 0 0 0 it sg = ((n : Int), er) := by
              have e : countI 2 0 0 0 it sg = if 200 / sg < it then (0, 151) else (it * sg, 0) := by unfold countI countP; rw [if_neg (by omega), if_pos rfl, if_neg (by omega), if_neg (by omega)]
              rw [e]
              split
              · exact ⟨0, 151, rfl⟩
              · exact ⟨(it * sg).toNat, 0, by rw [Int.toNat_of_nonneg (Int.mul_nonneg (by omega) (by omega))]⟩
            exact fin n er hc (tkP it sg (by omega) (by omega) (by omega) b3 n er hc w)
        · clear b0 b1 b2 b3 fin
          refine none 152 (by rw [e]; simp [countP, h5]) ?_
          go_enter Try.func10, Try.ntmps10
          go_wp2
          go_ret2
          exact ⟨rfl, bl1 _ _⟩
      · clear b0 b1 b2 b3 fin
        refine none 152 (by rw [e]; simp [countP, h4]) ?_
        go_enter Try.func10, Try.ntmps10
        go_wp2
        go_ret2
        exact ⟨rfl, bl1 _ _⟩
    · clear b0 b1 b2 b3 fin
      refine none 152 (by rw [e]; simp [countP, h3]) ?_
      go_enter Try.func10, Try.ntmps10
      go_wp2
      go_ret2
      exact ⟨rfl, bl1 _ _⟩
  · clear b0 b1 b2 b3 fin
    refine none 152 (by unfold countI; rw [if_neg h1, if_neg h2]) ?_
    go_enter Try.func10, Try.ntmps10
    go_wp2
    go_ret2
    exact ⟨rfl, bl1 _ _⟩
end Go.Proofs.Ytamlnagipmomgaa
