/- What the document's Rank answers. -/
import Derived.Test.YtnofibjchhcmeabDoorRank
namespace Go.Proofs.YtnofibjchhcmeabDoor
open Go.RowKit
set_option linter.unusedVariables false

/-- the three rows as they lie -/
def R3 (w : World) (b : Nat) : Prop := ∀ k, k < 16 → w.cell? ⟨b, k, none⟩ = some (.int .i64 (sgn k).2.1) ∧ w.cell? ⟨b + 1, k, none⟩ = some (.string ⟨(sgn k).1.toArray⟩) ∧ w.cell? ⟨b + 2, k, none⟩ = some (.int .i64 (sgn k).2.2)
theorem r3a (w : World) (k : Nat) (hk : k < 16) : (w.alloc (.cells #[.int .i64 1, .int .i64 2, .int .i64 3, .int .i64 4, .int .i64 4, .int .i64 5, .int .i64 5, .int .i64 5, .int .i64 5, .int .i64 6, .int .i64 6, .int .i64 7, .int .i64 7, .int .i64 8, .int .i64 8, .int .i64 8] 3)).cell? ⟨w.heap.size, k, none⟩ = some (.int .i64 (sgn k).2.1) := by
  match k, hk with
  | 0, _ => simp [sgn, signsL]
  | 1, _ => simp [sgn, signsL]
  | 2, _ => simp [sgn, signsL]
  | 3, _ => simp [sgn, signsL]
  | 4, _ => simp [sgn, signsL]
  | 5, _ => simp [sgn, signsL]
  | 6, _ => simp [sgn, signsL]
  | 7, _ => simp [sgn, signsL]
  | 8, _ => simp [sgn, signsL]
  | 9, _ => simp [sgn, signsL]
  | 10, _ => simp [sgn, signsL]
  | 11, _ => simp [sgn, signsL]
  | 12, _ => simp [sgn, signsL]
  | 13, _ => simp [sgn, signsL]
  | 14, _ => simp [sgn, signsL]
  | 15, _ => simp [sgn, signsL]
  | j + 16, h => exact absurd h (by omega)
theorem r3b (w : World) (k : Nat) (hk : k < 16) : (w.alloc (.cells #[.string ⟨#[124]⟩, .string ⟨#[94]⟩, .string ⟨#[38]⟩, .string ⟨#[61, 61]⟩, .string ⟨#[33, 61]⟩, .string ⟨#[60]⟩, .string ⟨#[60, 61]⟩, .string ⟨#[62]⟩, .string ⟨#[62, 61]⟩, .string ⟨#[60, 60]⟩, .string ⟨#[62, 62]⟩, .string ⟨#[43]⟩, .string ⟨#[45]⟩, .string ⟨#[42]⟩, .string ⟨#[47]⟩, .string ⟨#[37]⟩] 9)).cell? ⟨w.heap.size, k, none⟩ = some (.string ⟨(sgn k).1.toArray⟩) := by
  match k, hk with
  | 0, _ => simp [sgn, signsL]
  | 1, _ => simp [sgn, signsL]
  | 2, _ => simp [sgn, signsL]
  | 3, _ => simp [sgn, signsL]
  | 4, _ => simp [sgn, signsL]
  | 5, _ => simp [sgn, signsL]
  | 6, _ => simp [sgn, signsL]
  | 7, _ => simp [sgn, signsL]
  | 8, _ => simp [sgn, signsL]
  | 9, _ => simp [sgn, signsL]
  | 10, _ => simp [sgn, signsL]
  | 11, _ => simp [sgn, signsL]
  | 12, _ => simp [sgn, signsL]
  | 13, _ => simp [sgn, signsL]
  | 14, _ => simp [sgn, signsL]
  | 15, _ => simp [sgn, signsL]
  | j + 16, h => exact absurd h (by omega)
theorem r3c (w : World) (k : Nat) (hk : k < 16) : (w.alloc (.cells #[.int .i64 7, .int .i64 8, .int .i64 6, .int .i64 11, .int .i64 12, .int .i64 13, .int .i64 14, .int .i64 15, .int .i64 16, .int .i64 9, .int .i64 10, .int .i64 1, .int .i64 2, .int .i64 3, .int .i64 4, .int .i64 5] 22)).cell? ⟨w.heap.size, k, none⟩ = some (.int .i64 (sgn k).2.2) := by
  match k, hk with
  | 0, _ => simp [sgn, signsL]
  | 1, _ => simp [sgn, signsL]
  | 2, _ => simp [sgn, signsL]
  | 3, _ => simp [sgn, signsL]
  | 4, _ => simp [sgn, signsL]
  | 5, _ => simp [sgn, signsL]
  | 6, _ => simp [sgn, signsL]
  | 7, _ => simp [sgn, signsL]
  | 8, _ => simp [sgn, signsL]
  | 9, _ => simp [sgn, signsL]
  | 10, _ => simp [sgn, signsL]
  | 11, _ => simp [sgn, signsL]
  | 12, _ => simp [sgn, signsL]
  | 13, _ => simp [sgn, signsL]
  | 14, _ => simp [sgn, signsL]
  | 15, _ => simp [sgn, signsL]
  | j + 16, h => exact absurd h (by omega)
theorem R3.new (w : World) : R3 (((w.alloc (.cells #[.int .i64 1, .int .i64 2, .int .i64 3, .int .i64 4, .int .i64 4, .int .i64 5, .int .i64 5, .int .i64 5, .int .i64 5, .int .i64 6, .int .i64 6, .int .i64 7, .int .i64 7, .int .i64 8, .int .i64 8, .int .i64 8] 3)).alloc (.cells #[.string ⟨#[124]⟩, .string ⟨#[94]⟩, .string ⟨#[38]⟩, .string ⟨#[61, 61]⟩, .string ⟨#[33, 61]⟩, .string ⟨#[60]⟩, .string ⟨#[60, 61]⟩, .string ⟨#[62]⟩, .string ⟨#[62, 61]⟩, .string ⟨#[60, 60]⟩, .string ⟨#[62, 62]⟩, .string ⟨#[43]⟩, .string ⟨#[45]⟩, .string ⟨#[42]⟩, .string ⟨#[47]⟩, .string ⟨#[37]⟩] 9)).alloc (.cells #[.int .i64 7, .int .i64 8, .int .i64 6, .int .i64 11, .int .i64 12, .int .i64 13, .int .i64 14, .int .i64 15, .int .i64 16, .int .i64 9, .int .i64 10, .int .i64 1, .int .i64 2, .int .i64 3, .int .i64 4, .int .i64 5] 22)) w.heap.size := by
  intro k hk
  have y1 := r3a w k hk
  have y2 := r3b (w.alloc (.cells #[.int .i64 1, .int .i64 2, .int .i64 3, .int .i64 4, .int .i64 4, .int .i64 5, .int .i64 5, .int .i64 5, .int .i64 5, .int .i64 6, .int .i64 6, .int .i64 7, .int .i64 7, .int .i64 8, .int .i64 8, .int .i64 8] 3)) k hk
  have y3 := r3c ((w.alloc (.cells #[.int .i64 1, .int .i64 2, .int .i64 3, .int .i64 4, .int .i64 4, .int .i64 5, .int .i64 5, .int .i64 5, .int .i64 5, .int .i64 6, .int .i64 6, .int .i64 7, .int .i64 7, .int .i64 8, .int .i64 8, .int .i64 8] 3)).alloc (.cells #[.string ⟨#[124]⟩, .string ⟨#[94]⟩, .string ⟨#[38]⟩, .string ⟨#[61, 61]⟩, .string ⟨#[33, 61]⟩, .string ⟨#[60]⟩, .string ⟨#[60, 61]⟩, .string ⟨#[62]⟩, .string ⟨#[62, 61]⟩, .string ⟨#[60, 60]⟩, .string ⟨#[62, 62]⟩, .string ⟨#[43]⟩, .string ⟨#[45]⟩, .string ⟨#[42]⟩, .string ⟨#[47]⟩, .string ⟨#[37]⟩] 9)) k hk
  generalize ((.cells #[.int .i64 1, .int .i64 2, .int .i64 3, .int .i64 4, .int .i64 4, .int .i64 5, .int .i64 5, .int .i64 5, .int .i64 5, .int .i64 6, .int .i64 6, .int .i64 7, .int .i64 7, .int .i64 8, .int .i64 8, .int .i64 8] 3) : Obj) = o1 at y1 y2 y3 ⊢
  generalize ((.cells #[.string ⟨#[124]⟩, .string ⟨#[94]⟩, .string ⟨#[38]⟩, .string ⟨#[61, 61]⟩, .string ⟨#[33, 61]⟩, .string ⟨#[60]⟩, .string ⟨#[60, 61]⟩, .string ⟨#[62]⟩, .string ⟨#[62, 61]⟩, .string ⟨#[60, 60]⟩, .string ⟨#[62, 62]⟩, .string ⟨#[43]⟩, .string ⟨#[45]⟩, .string ⟨#[42]⟩, .string ⟨#[47]⟩, .string ⟨#[37]⟩] 9) : Obj) = o2 at y2 y3 ⊢
  generalize ((.cells #[.int .i64 7, .int .i64 8, .int .i64 6, .int .i64 11, .int .i64 12, .int .i64 13, .int .i64 14, .int .i64 15, .int .i64 16, .int .i64 9, .int .i64 10, .int .i64 1, .int .i64 2, .int .i64 3, .int .i64 4, .int .i64 5] 22) : Obj) = o3 at y3 ⊢
  have s1 : (w.alloc o1).heap.size = w.heap.size + 1 := by simp
  have s2 : ((w.alloc o1).alloc o2).heap.size = w.heap.size + 2 := by simp
  have b2 : Below ((w.alloc o1).alloc o2).heap.size ((w.alloc o1).alloc o2) (((w.alloc o1).alloc o2).alloc o3) := (Below.refl _ _).alloc (Nat.le_refl _) _
  have b1 : Below (w.alloc o1).heap.size (w.alloc o1) (((w.alloc o1).alloc o2).alloc o3) := ((Below.refl _ _).alloc (Nat.le_refl _) _).alloc (by simp) _
  rw [s1] at y2
  rw [s2] at y3
  exact ⟨(b1.cell (p := ⟨w.heap.size, k, none⟩) (by rw [s1]; exact Nat.lt_succ_self _)).trans y1, (b2.cell (p := ⟨w.heap.size + 1, k, none⟩) (by rw [s2]; exact Nat.lt_succ_self _)).trans y2, y3⟩

set_option maxRecDepth 100000 in
set_option maxHeartbeats 1000000 in
theorem refRank_any (s : ByteArray) (w : World) :
    Calls Tryd.prog 10 #[.string s] w fun e w' => e = .returned (.tuple #[.int .i64 (rankOf s.data.toList).1, .int .i64 (rankOf s.data.toList).2]) ∧ Below w.heap.size w w' := by
  obtain ⟨R, hR⟩ : ∃ R, rankOf s.data.toList = R := ⟨_, rfl⟩
  have HR : Hid (rankGo s.data.toList (signsL.drop 0) = R) := hR
  rw [hR]
  clear hR
  go_enter Tryd.func10, Tryd.ntmps10
  go_wp2
  obtain ⟨w5, hw5⟩ : ∃ w5, w5 = (((w.alloc (.cells #[.int .i64 1, .int .i64 2, .int .i64 3, .int .i64 4, .int .i64 4, .int .i64 5, .int .i64 5, .int .i64 5, .int .i64 5, .int .i64 6, .int .i64 6, .int .i64 7, .int .i64 7, .int .i64 8, .int .i64 8, .int .i64 8] 3)).alloc (.cells #[.string ⟨#[124]⟩, .string ⟨#[94]⟩, .string ⟨#[38]⟩, .string ⟨#[61, 61]⟩, .string ⟨#[33, 61]⟩, .string ⟨#[60]⟩, .string ⟨#[60, 61]⟩, .string ⟨#[62]⟩, .string ⟨#[62, 61]⟩, .string ⟨#[60, 60]⟩, .string ⟨#[62, 62]⟩, .string ⟨#[43]⟩, .string ⟨#[45]⟩, .string ⟨#[42]⟩, .string ⟨#[47]⟩, .string ⟨#[37]⟩] 9)).alloc (.cells #[.int .i64 7, .int .i64 8, .int .i64 6, .int .i64 11, .int .i64 12, .int .i64 13, .int .i64 14, .int .i64 15, .int .i64 16, .int .i64 9, .int .i64 10, .int .i64 1, .int .i64 2, .int .i64 3, .int .i64 4, .int .i64 5] 22)) := ⟨_, rfl⟩
  have H3 : Hid (R3 w5 w.heap.size) := by rw [hw5]; exact R3.new w
  have HB5 : Hid (Below w.heap.size w w5) := by rw [hw5]; exact (((Below.refl _ _).alloc (Nat.le_refl _) _).alloc (by simp) _).alloc (by simp; omega) _
  have hs5 : w.heap.size + 2 < w5.heap.size := by rw [hw5]; simp
  rw [← hw5]
  clear hw5
  obtain ⟨bb, hbb⟩ : ∃ bb, w.heap.size = bb := ⟨_, rfl⟩
  have HBE : Hid (w.heap.size = bb) := hbb
  rw [hbb] at H3 hs5
  simp only [hbb]
  clear hbb
  go_loopw [7] (fun i wr => ∃ k : Nat, k ≤ 16 ∧ i = .int .i64 (k : Int) ∧ Hid (rankGo s.data.toList (signsL.drop k) = R) ∧ wr = w5) (fun i _ => 16 - (intOf i).toNat)
  case atStart => exact ⟨0, Nat.zero_le _, rfl, HR, rfl⟩
  case round =>
    obtain ⟨k, hk, rfl, HK, hwr⟩ := hrel
    subst hwr
    by_cases hlt : k < 16
    · obtain ⟨x1, x2, x3⟩ := H3.out k hlt
      have hd := rankGo_drop s.data.toList k hlt
      obtain ⟨T, hT⟩ : ∃ T : ByteArray, (⟨(sgn k).1.toArray⟩ : ByteArray) = T := ⟨_, rfl⟩
      have hTl : (sgn k).1 = T.data.toList := by rw [← hT]
      rw [HK.out] at hd
      rw [hT] at x2
      rw [hTl] at hd
      obtain ⟨r, hr⟩ : ∃ r, (sgn k).2 = r := ⟨_, rfl⟩
      rw [hr] at x1 x3 hd
      obtain ⟨r1, r2⟩ := r
      clear hT hTl hr
      by_cases e : T.data.toList = s.data.toList
      · rw [if_pos e] at hd
        have HD : Hid (R = (r1, r2)) := hd
        have e1 : (T.toList == s.toList) = true := by rw [ByteArray.toList_eq, ByteArray.toList_eq]; simpa using e
        clear hd e
        go_wp2
        go_region
        all_goals
          go_wp2
          go_ret2
          refine ⟨by rw [HD.out]; rfl, ?_⟩
          have h6 := HB5.out.drew
          first | exact h6 | (rw [HBE.out] at h6; exact h6)
      · rw [if_neg e] at hd
        have HD : Hid (rankGo s.data.toList (signsL.drop (k + 1)) = R) := hd.symm
        have e1 : (T.toList == s.toList) = false := by rw [ByteArray.toList_eq, ByteArray.toList_eq]; simpa using e
        clear hd e
        go_wp2
        go_roundw
        case rel => exact ⟨k + 1, by omega, by go_num, HD, by trivial⟩
        case measure => simp [intOf]; omega
    · have hk16 : k = 16 := by omega
      subst hk16
      have HD : Hid (R = (0, 0)) := HK.out.symm
      go_wp2
      go_ret2
      refine ⟨by rw [HD.out]; rfl, ?_⟩
      have h6 := HB5.out
      first | exact h6 | (rw [HBE.out] at h6; exact h6)
end Go.Proofs.YtnofibjchhcmeabDoor
