/- Plain: a chain of edges, each on the one before. -/
import Derived.Test.YtongeppdaeekeaaGrI
namespace Go.Proofs.Ytongeppdaeekeaa
set_option linter.unusedVariables false

def chE (k : Nat) : Ed := (List.range k).map fun i : Nat => ((i : Int) + 1, (i : Int))
theorem chE_len (k : Nat) : (chE k).length = k := by simp [chE]
theorem mem_chE {k : Nat} {x : Int × Int} : x ∈ chE k ↔ ∃ i : Nat, i < k ∧ x = ((i : Int) + 1, (i : Int)) := by
  unfold chE
  rw [List.mem_map]
  constructor
  · rintro ⟨i, hi, rfl⟩; exact ⟨i, List.mem_range.1 hi, rfl⟩
  · rintro ⟨i, hi, rfl⟩; exact ⟨i, List.mem_range.2 hi, rfl⟩
theorem chE_at (k i : Nat) (h : i < (chE k).length) : (chE k)[i] = ((i : Int) + 1, (i : Int)) := by simp [chE]
theorem chE_succ (k : Nat) : chE (k + 1) = chE k ++ [((k : Int) + 1, (k : Int))] := by unfold chE; rw [List.range_succ, List.map_append]; rfl
theorem chE_new (k : Nat) : hasE (chE k) ((k : Int) + 1, (k : Int)) = false := by
  unfold hasE
  rw [decide_eq_false]
  rw [mem_chE]
  rintro ⟨i, hi, e⟩
  injection e with e1 e2
  omega
theorem chE_pl (k : Nat) : plE (chE k) ((k : Int) + 1, (k : Int)) = k := by
  refine pl_is _ _ _ (by rw [chE_len]; exact Nat.le_refl _) (fun i h hi => ?_) (fun i h hi => ?_)
  · rw [chE_at]; left; show (i : Int) < (k : Int); omega
  · rw [chE_len] at h; omega
theorem chE_ins (k : Nat) : insE (chE k) ((k : Int) + 1, (k : Int)) = chE (k + 1) := by
  unfold insE
  rw [chE_pl, List.take_of_length_le (by rw [chE_len]; exact Nat.le_refl _), List.drop_of_length_le (by rw [chE_len]; exact Nat.le_refl _), chE_succ]
theorem chE_add (room k : Nat) (h : k < room) : addE room (chE k) ((k : Int) + 1) (k : Int) = 0 ∧ addS room (chE k) ((k : Int) + 1) (k : Int) = chE (k + 1) := by
  have hb : badE ((k : Int) + 1) (k : Int) = false := by unfold badE; simp; omega
  unfold addE addS
  rw [hb, chE_new, chE_len, chE_ins]
  simp only [Bool.false_eq_true, if_false]
  rw [if_neg (by omega), if_neg (by omega)]
  exact ⟨rfl, rfl⟩
theorem chE_add2 (room k : Nat) (i : Nat) (h : i < k) : addE room (chE k) ((i : Int) + 1) (i : Int) = 0 ∧ addS room (chE k) ((i : Int) + 1) (i : Int) = chE k := by
  have hb : badE ((i : Int) + 1) (i : Int) = false := by unfold badE; simp; omega
  have hh : hasE (chE k) ((i : Int) + 1, (i : Int)) = true := by unfold hasE; rw [decide_eq_true]; exact mem_chE.2 ⟨i, h, rfl⟩
  unfold addE addS
  rw [hb, hh]
  exact ⟨rfl, rfl⟩
theorem chE_full (room : Nat) (h : 1 ≤ room) : addE room (chE room) ((room : Int) + 5) 0 = 200 ∧ addS room (chE room) ((room : Int) + 5) 0 = chE room := by
  have hb : badE ((room : Int) + 5) 0 = false := by unfold badE; simp; omega
  have hh : hasE (chE room) ((room : Int) + 5, 0) = false := by
    unfold hasE
    rw [decide_eq_false]
    rw [mem_chE]
    rintro ⟨i, hi, e⟩
    injection e with e1 e2
    omega
  unfold addE addS
  rw [hb, hh, chE_len]
  simp
/-- without the first -/
def tlE (room : Nat) : Ed := remS (chE room) 0
theorem mem_tlE {room : Nat} {x : Int × Int} : x ∈ tlE room ↔ ∃ i : Nat, 1 ≤ i ∧ i < room ∧ x = ((i : Int) + 1, (i : Int)) := by
  unfold tlE remS
  rw [List.mem_filter, mem_chE]
  constructor
  · rintro ⟨⟨i, hi, rfl⟩, h⟩
    refine ⟨i, ?_, hi, rfl⟩
    simp [isA] at h
    omega
  · rintro ⟨i, h1, h2, rfl⟩
    refine ⟨⟨i, h2, rfl⟩, ?_⟩
    simp [isA]
    omega
theorem tlE_len (room : Nat) (h : 1 ≤ room) : (tlE room).length + 1 = room := by
  obtain ⟨m, rfl⟩ : ∃ m, room = m + 1 := ⟨room - 1, by omega⟩
  unfold tlE remS chE
  rw [List.range_succ_eq_map, List.map_cons, List.filter_cons, List.map_map]
  have h0 : (!isA 0 (((0 : Nat) : Int) + 1, ((0 : Nat) : Int))) = false := by rfl
  rw [h0]
  simp only [Bool.false_eq_true, if_false]
  rw [List.filter_eq_self.2]
  · simp
  · intro z hz
    obtain ⟨i, hi, rfl⟩ := List.mem_map.1 hz
    simp [isA]
    omega
theorem tl_add (room : Nat) (h : 1 ≤ room) : addE room (tlE room) ((room : Int) + 5) 0 = 0 ∧ addS room (tlE room) ((room : Int) + 5) 0 = insE (tlE room) ((room : Int) + 5, 0) := by
  have hb : badE ((room : Int) + 5) 0 = false := by unfold badE; simp; omega
  have hh : hasE (tlE room) ((room : Int) + 5, 0) = false := by
    unfold hasE
    rw [decide_eq_false]
    rw [mem_tlE]
    rintro ⟨i, hi, _, e⟩
    injection e with e1 e2
    omega
  have := tlE_len room h
  unfold addE addS
  rw [hb, hh]
  simp only [Bool.false_eq_true, if_false]
  rw [if_neg (by omega), if_neg (by omega)]
  exact ⟨rfl, rfl⟩
theorem room_falls (room : Nat) (h : 1 ≤ room) : FallsOf (insE (tlE room) ((room : Int) + 5, 0)) 1 ((List.range room).map fun i : Nat => (i : Int) + 1) := by
  refine ⟨?_, ?_, fun x hx => ?_, fun e he hf => ?_⟩
  · rw [List.pairwise_map]
    exact List.pairwise_lt_range.imp fun q => by omega
  · obtain ⟨m, rfl⟩ : ∃ m, room = m + 1 := ⟨room - 1, by omega⟩
    rw [List.range_succ_eq_map]
    simp
  · obtain ⟨i, hi, rfl⟩ := List.mem_map.1 hx
    rw [List.mem_range] at hi
    by_cases h0 : i = 0
    · subst h0; exact .inl rfl
    · refine .inr ⟨(i : Int), List.mem_map.2 ⟨i - 1, List.mem_range.2 (by omega), by omega⟩, ?_⟩
      rw [mem_insE]
      exact .inr (mem_tlE.2 ⟨i, by omega, hi, rfl⟩)
  · obtain ⟨i, hi, hi2⟩ := List.mem_map.1 hf
    rw [List.mem_range] at hi
    rcases mem_insE.1 he with rfl | he
    · simp only at hi2; omega
    · obtain ⟨j, h1, h2, rfl⟩ := mem_tlE.1 he
      exact List.mem_map.2 ⟨j, List.mem_range.2 h2, rfl⟩
/-- there is just one answer -/
theorem FallsOf.one {E : Ed} {age : Int} {F G : List Int} (hu : Up E) (hF : FallsOf E age F) (hG : FallsOf E age G) : F = G := FallsOf.ext hu (fun _ => Iff.rfl) hF hG
theorem OkE.Up {room : Nat} {E : Ed} (h : OkE room E) : Up E := fun e he => (h.up e he).2
end Go.Proofs.Ytongeppdaeekeaa
