/- An overlay as it lies in memory, and its calls. -/
import Derived.Test.YtlcgoobjpnpfhaaM9
namespace Go.Proofs.Ytlcgoobjpnpfhaa
open Go.RowKit Go.Maps
set_option linter.unusedVariables false

def ovC (S : List (Int × Int)) : List Value := (ofM 64 S).map (Value.int .i64) ++ (toldM S).map Value.bool
/-- the overlay lies in block ob: what was set last counts -/
def OV (w : World) (ob : Nat) (S : List (Int × Int)) : Prop := w.heap[ob]? = some (.cells (ovC S).toArray 42)
theorem ovC_len (S : List (Int × Int)) : (ovC S).length = 128 := by simp [ovC, ofM_len, toldM_len]
theorem ovC_word (S : List (Int × Int)) (k : Nat) (h : k < 64) : (ovC S)[k]? = some (.int .i64 ((lastC S (k : Int)).getD 0)) := by
  unfold ovC
  rw [List.getElem?_append_left (by simp [ofM_len]; exact h)]
  simp [ofM, h]
theorem ovC_laid (S : List (Int × Int)) (k : Nat) (h : k < 64) : (ovC S)[64 + k]? = some (.bool (lastC S (k : Int)).isSome) := by
  unfold ovC
  rw [List.getElem?_append_right (by simp [ofM_len])]
  simp [ofM_len, toldM, h]
theorem OV.word {w : World} {ob : Nat} {S : List (Int × Int)} (h : OV w ob S) (k : Nat) (hk : k < 64) : w.cell? ⟨ob, k, none⟩ = some (.int .i64 ((lastC S (k : Int)).getD 0)) := by
  rw [cell_of_row w ob k _ _ _ h, List.getElem?_toArray, ovC_word S k hk]
theorem OV.laid {w : World} {ob : Nat} {S : List (Int × Int)} (h : OV w ob S) (k : Nat) (hk : k < 64) : w.cell? ⟨ob, 64 + k, none⟩ = some (.bool (lastC S (k : Int)).isSome) := by
  rw [cell_of_row w ob (64 + k) _ _ _ h, List.getElem?_toArray, ovC_laid S k hk]
theorem OV.fz {w : World} {ob : Nat} {S : List (Int × Int)} (h : OV w ob S) (j : Nat) : w.frozen? ⟨ob, j, none⟩ = false := frozen_of_row w ob j _ _ h
theorem OV.lt {w : World} {ob : Nat} {S : List (Int × Int)} (h : OV w ob S) : ob < w.heap.size := (Array.getElem?_eq_some_iff.1 h).1
theorem OV.keep {w w' : World} {ob : Nat} {S : List (Int × Int)} (h : OV w ob S) (hk : w'.heap[ob]? = w.heap[ob]?) : OV w' ob S := hk.trans h
theorem OV.below {w w' : World} {ob : Nat} {S : List (Int × Int)} (h : OV w ob S) (hb : Below w.heap.size w w') : OV w' ob S := h.keep (hb.block ob h.lt)
theorem OV.set {w : World} {ob : Nat} {S : List (Int × Int)} (h : OV w ob S) (k : Nat) (hk : k < 64) (v : Int) : OV ((w.setCell ⟨ob, k, none⟩ (.int .i64 v)).setCell ⟨ob, 64 + k, none⟩ (.bool true)) ob (S ++ [((k : Int), v)]) := by
  have h1 := heap_setCell_same w ob k _ 42 (.int .i64 v) h
  have h2 := heap_setCell_same (w.setCell ⟨ob, k, none⟩ (.int .i64 v)) ob (64 + k) _ 42 (.bool true) h1
  unfold OV
  rw [h2]
  congr 2
  have e : ((ovC S).set k (.int .i64 v)).set (64 + k) (.bool true) = ovC (S ++ [((k : Int), v)]) := by
    unfold ovC
    rw [List.set_append_left _ _ (by simp [ofM_len]; exact hk), List.set_append_right _ _ (by simp [ofM_len]), ← ofM_snoc, ← toldM_snoc]
    simp [ofM_len, List.map_set]
  rw [← e]
  simp

def SetQ (ob : Nat) (S : List (Int × Int)) (k v : Int) (w : World) (e : Ending) (w' : World) : Prop :=
  e = .returned (.bool (withinB k 64)) ∧ OV w' ob (if withinB k 64 = true then S ++ [(k, v)] else S) ∧ Ch (fun x => x = ob) w w'
set_option maxRecDepth 100000 in
set_option maxHeartbeats 2000000 in
theorem oset_any (ob : Nat) (S : List (Int × Int)) (k v : Int) (w : World) (h : OV w ob S) : Calls Try.prog 20 #[.pointer (some ⟨ob, 0, none⟩), .int .i64 k, .int .i64 v] w (SetQ ob S k v w) := by
  have H : Hid (OV w ob S) := h
  obtain ⟨P, hP⟩ : ∃ P, SetQ ob S k v w = P := ⟨_, rfl⟩
  have HQ : Hid (SetQ ob S k v w = P) := hP
  rw [hP]
  clear h hP
  by_cases hw : withinB k 64 = true
  · obtain ⟨q, rfl⟩ : ∃ q : Nat, k = (q : Int) := ⟨k.toNat, by unfold withinB at hw; simp at hw; omega⟩
    have hq : q < 64 := by unfold withinB at hw; simp at hw; omega
    have hqi : (q : Int) < 64 := by omega
    have hq0 : (0 : Int) ≤ (q : Int) := by omega
    have c1 := H.out.word q hq
    have c2 := H.out.laid q hq
    have f1 := H.out.fz q
    have f2 := H.out.fz (64 + q)
    have c3 : (w.setCell ⟨ob, q, none⟩ (.int .i64 v)).cell? ⟨ob, 64 + q, none⟩ = some (.bool (lastC S (q : Int)).isSome) := (World.cell?_setCell_other w _ _ _ (by intro e; injection e with _ e2 _; omega)).trans c2
    have HF : Hid (P (.returned (.bool true)) ((w.drew.setCell ⟨ob, q, none⟩ (.int .i64 v)).setCell ⟨ob, 64 + q, none⟩ (.bool true))) := by
      show P _ _
      rw [← HQ.out]
      unfold SetQ
      rw [hw, if_pos rfl]
      have hd : OV w.drew ob S := H.out
      exact ⟨rfl, hd.set q hq v, Ch.set (p := fun x => x = ob) (Ch.set (p := fun x => x = ob) (Ch.refl _ w).drew (.inl rfl) _ _) (.inl rfl) _ _⟩
    generalize (lastC S (q : Int)).getD 0 = old at *
    generalize (lastC S (q : Int)).isSome = oldb at *
    go_enter Try.func20, Try.ntmps20
    go_wp2_with (first | (go_at_call 34; refine (within_any _ _ _).mono ?_; rintro e w4 ⟨rfl, hw4⟩; rw [hw4, hw]; clear hw4 w4) | fail)
    go_region_held3 (fun w' => True) (trivial) (fail)
    go_wp2
    first | exact HF.out | (go_ret; exact HF.out)
  · have er : withinB k 64 = false := by simpa using hw
    have HF : Hid (P (.returned (.bool false)) w) := by
      show P _ _
      rw [← HQ.out]
      unfold SetQ
      rw [er, if_neg (by decide)]
      exact ⟨rfl, H.out, Ch.refl _ _⟩
    go_enter Try.func20, Try.ntmps20
    go_wp2_with (first | (go_at_call 34; refine (within_any _ _ _).mono ?_; rintro e w4 ⟨rfl, hw4⟩; rw [hw4, er]; clear hw4 w4) | fail)
    first | exact HF.out | (go_ret; exact HF.out)
end Go.Proofs.Ytlcgoobjpnpfhaa
