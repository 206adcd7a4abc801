/- Readers; rows of numbers side by side. -/
import Derived.Test.YtongeppdaeekeaaGrO
namespace Go.Proofs.Ytongeppdaeekeaa
open Go.RowKit Go.Maps
set_option linter.unusedVariables false

def kZ : RK Int := { st := 83, et := 3, k := 1, bytes := 8, cl := uno, len := fun _ => rfl, one := uno_one, pos := by decide, zero := .int .i64 0, und := Try.underlying83, inf := by kernel_rfl, zs := rfl, bd := by decide }
def RowQ (w : World) (L : List Int) (e : Ending) (W : World) : Prop := ∃ v, e = .returned v ∧ RZ kZ W v L ∧ Below w.heap.size w W ∧ ∀ g, v.ownBlock = some g → w.heap.size ≤ g
def fstS (L : Ed) : List Int := L.map (·.1)
theorem fstS_next (L : Ed) (q : Nat) (hq : q < L.length) : fstS (L.take (q + 1)) = fstS (L.take q) ++ [(L[q]'hq).1] := by
  unfold fstS
  rw [List.take_succ_eq_append_getElem hq, List.map_append]; rfl
theorem fstS_len (L : Ed) : (fstS L).length = L.length := by unfold fstS; rw [List.length_map]
theorem ofS_len {room : Nat} {E : Ed} (h : OkE room E) (wt : Int) : (ofS E wt).length ≤ 512 := by
  have h1 : (ofS E wt).length ≤ E.length := List.length_filter_le _ _
  have := h.len
  have := h.r1
  omega
theorem num_rz (w : World) (x : Int) : RS kZ (w.alloc (.cells #[.int .i64 x] 3)) (.slice (some ⟨w.heap.size, 0, none⟩) 1 1) [x] :=
  ⟨some ⟨w.heap.size, 0, none⟩, 1, w.heap.size, 0, rfl, Nat.le_refl _, by unfold maxLen; omega, fun _ => rfl, fun i hi j hj => by
    match i, hi with
    | 0, _ =>
      have hj' : j < 1 := hj
      match j, hj' with
      | 0, _ => simp [kZ, uno]⟩
theorem pushZ_more {V W w4 : World} {v v4 : Value} {n : Nat} (hV : Below V.heap.size V W) (hv : ∀ g, v.ownBlock = some g → V.heap.size ≤ g) (g4 : W.grownBy w4 v.ownBlock) (ho : v4.ownBlock = v.ownBlock ∨ v4.ownBlock = some n) (hn : V.heap.size ≤ n) :
    Below V.heap.size V w4 ∧ ∀ g, v4.ownBlock = some g → V.heap.size ≤ g := by
  refine ⟨hV.trans (grown_below g4 hV.size hv), fun g hg => ?_⟩
  rcases ho with h | h
  · exact hv g (h ▸ hg)
  · rw [h] at hg
    injection hg with hg
    omega
set_option maxRecDepth 100000 in
set_option maxHeartbeats 8000000 in
theorem readers_any {w : World} {gb room : Nat} {ev : Value} {E : Ed} (h : GV w gb room ev E) (wt : Int) : Calls Try.prog 32 #[.pointer (some ⟨gb, 0, none⟩), .int .i64 wt] w (RowQ w (readersOf E wt)) := by
  have HOF := of_any h wt
  have hlen := ofS_len h.ok wt
  have hre : readersOf E wt = fstS (ofS E wt) := rfl
  rw [hre]
  clear hre h
  generalize ofS E wt = L at *
  have HF : Hid (∀ v W, RZ kZ W v (fstS L) → Below w.heap.size w W → (∀ g, v.ownBlock = some g → w.heap.size ≤ g) → RowQ w (fstS L) (.returned v) W) := fun v W h1 h2 h3 => ⟨v, rfl, h1, h2, h3⟩
  obtain ⟨n, hn⟩ : ∃ n, L.length = n := ⟨_, rfl⟩
  have HN : Hid (L.length = n) := hn
  rw [hn] at hlen
  clear hn
  generalize RowQ w (fstS L) = P at *
  go_enter Try.func32, Try.ntmps32
  go_wp2_with fail
  refine HOF.mono ?_
  rintro e w3 ⟨v3, rfl, r3, b3, _⟩
  obtain ⟨a, c, e⟩ := r3.form
  rw [HN.out] at e
  subst e
  have HB3 : Hid (Below w.heap.size w w3) := b3
  have HR3 : Hid (RS kE w3 (.slice a n c) L) := r3
  clear b3 r3 HOF
  go_wp2_with fail
  go_loopw [5, 7, 12] (fun ov _ i wr => ∃ q : Nat, i = .int .i64 (q : Int) ∧ q ≤ n ∧ (∃ a c, ov = .slice a q c) ∧ Hid (Below w3.heap.size w3 wr) ∧ Hid (RZ kZ wr ov (fstS (L.take q))) ∧ Hid (∀ g, ov.ownBlock = some g → w3.heap.size ≤ g)) (fun ov _ i _ => n - (intOf i).toNat)
  case atStart => exact ⟨0, rfl, Nat.zero_le _, ⟨_, _, rfl⟩, Below.refl _ _, RZ.nil _ _, fun g hg => by simp [Value.ownBlock] at hg⟩
  case round =>
    obtain ⟨q, rfl, hq, ⟨ao, co, rfl⟩, HB, HO, HW⟩ := hrel
    by_cases hlt : q < n
    · have d1 : decide (q < n) = true := decide_eq_true hlt
      have hq' : q < L.length := by rw [HN.out]; exact hlt
      obtain ⟨b, bo, n', c', hg, hcl⟩ := (HR3.out.below HB.out).cell hq'
      simp only [Value.slice.injEq] at hg
      obtain ⟨rfl, rfl, rfl⟩ := hg
      obtain ⟨⟨z0, z1⟩, hz⟩ : ∃ x, L[q]'hq' = x := ⟨_, rfl⟩
      have HNX : Hid (fstS (L.take (q + 1)) = fstS (L.take q) ++ [z0]) := by show _ = _; rw [fstS_next L q hq', hz]
      rw [hz] at hcl
      obtain ⟨y0, y1⟩ := duo_cells rfl rfl hcl
      have i1 : (0 : Int) ≤ (q : Int) := by omega
      have i2 : (q : Int) < (n : Int) := by omega
      have HLM : Hid ((fstS (L.take q)).length = q) := by show _ = _; rw [fstS_len, List.length_take]; omega
      have HE : Hid (∀ A B, RZ kZ ((wr.alloc A).alloc B) (.slice ao q co) (fstS (L.take q))) := fun A B => (HO.out.below (bl1 wr A)).below (bl1 _ B)
      have HP2 : Hid (∀ A, RS kZ ((wr.alloc A).alloc (.cells #[.int .i64 z0] 3)) (.slice (some ⟨wr.heap.size + 1, 0, none⟩) 1 1) [z0]) := fun A => by
        have := num_rz (wr.alloc A) z0
        simpa using this
      have HL : Hid ((fstS (L.take q)).length + [z0].length ≤ 100000) := by show _ ≤ _; rw [HLM.out]; show q + 1 ≤ _; omega
      clear hcl hz hq' HO
      go_wp2_with (at_builtin; refine push_row kZ _ rfl _ _ rfl _ _ (fstS (L.take q)) [z0] rfl rfl (HE.out _ _) (HP2.out _) HL.out ?_)
      intro v5 w5 hz5 g5 ho5
      obtain ⟨B5, n5⟩ := pushZ_more (V := w3) ((HB.out.alloc HB.out.size _).alloc (by have := HB.out.size; first | omega | (simp; omega)) _) HW.out g5 ho5 (by have := HB.out.size; first | omega | (simp; omega))
      obtain ⟨a8, k8, rfl⟩ := hz5.sl
      have hl8 : (fstS (L.take q) ++ [z0]).length = q + 1 := by rw [List.length_append, HLM.out]; rfl
      rw [hl8] at hz5 n5 ⊢
      have HZ5 : Hid (RZ kZ w5 (.slice a8 (q + 1) k8) (fstS (L.take (q + 1)))) := by rw [HNX.out]; exact hz5
      have HN5 : Hid (∀ g, (Value.slice a8 (q + 1) k8).ownBlock = some g → w3.heap.size ≤ g) := n5
      have HB5 : Hid (Below w3.heap.size w3 w5) := B5
      clear hz5 g5 ho5 B5 n5 HE HP2 HL HB HNX hl8 HW HLM y0 y1
      go_wp2_with fail
      go_roundw
      case rel => exact ⟨q + 1, by go_num, by omega, ⟨_, _, rfl⟩, HB5, HZ5, HN5⟩
      case measure => simp [intOf]; omega
    · have d1 : decide (q < n) = false := decide_eq_false hlt
      have hqn : q = n := by omega
      subst hqn
      have HT : L.take q = L := List.take_of_length_le (by rw [HN.out]; exact Nat.le_refl _)
      have HR : Hid (P (.returned (.slice ao q co)) wr) := HF.out _ wr (by have := HO.out; rw [HT] at this; exact this) (HB3.out.trans (HB.out.mono HB3.out.size)) (fun g hg => Nat.le_trans HB3.out.size (HW.out g hg))
      clear HT HO HB HW
      go_wp2
      first | exact HR.out | (go_ret; exact HR.out)
end Go.Proofs.Ytongeppdaeekeaa
