/- What the registers are ahead of the first instruction; going on and passing by of any instruction. -/
import Derived.Test.YtcaefimnhoeimaaPs2
import Derived.Test.YtcaefimnhoeimaaPs3
import Derived.Test.YtcaefimnhoeimaaPs4
import Derived.Test.YtcaefimnhoeimaaPs5
import Derived.Test.YtcaefimnhoeimaaPs6
import Derived.Test.YtcaefimnhoeimaaGo
namespace Go.Proofs.Ytcaefimnhoeimaa
open Go.RowKit
set_option linter.unusedVariables false

set_option maxRecDepth 100000 in
set_option maxHeartbeats 2000000 in
theorem goes_no (fb : Nat) (R : List Fm) (kd op xa xb xc xk : Int) (hk : kd = 10 ∨ kd = 11 ∨ kd = 12 ∨ kd = 13) (w : World) : Calls Try.prog 25 #[.pointer (some ⟨fb, 0, none⟩), .agg #[.int .i64 kd, .int .i64 op, .int .i64 xa, .int .i64 xb, .int .i64 xc, .int .i64 xk]] w fun e w' => e = .returned (.bool false) ∧ Below w.heap.size w w' := by
  rcases hk with rfl | rfl | rfl | rfl
  all_goals
    go_enter Try.func25, Try.ntmps25
    go_wp2_with fail
    go_ret
    exact ⟨rfl, bl1 _ _⟩
set_option maxRecDepth 100000 in
set_option maxHeartbeats 2000000 in
theorem goes_yes (fb : Nat) (R : List Fm) (kd op xa xb xc xk : Int) (hk : kd = 1 ∨ kd = 2 ∨ kd = 3 ∨ kd = 4 ∨ kd = 6 ∨ kd = 7 ∨ kd = 8 ∨ kd = 9) (w : World) : Calls Try.prog 25 #[.pointer (some ⟨fb, 0, none⟩), .agg #[.int .i64 kd, .int .i64 op, .int .i64 xa, .int .i64 xb, .int .i64 xc, .int .i64 xk]] w fun e w' => e = .returned (.bool true) ∧ Below w.heap.size w w' := by
  rcases hk with rfl | rfl | rfl | rfl | rfl | rfl | rfl | rfl
  all_goals
    go_enter Try.func25, Try.ntmps25
    go_wp2_with fail
    go_ret
    exact ⟨rfl, bl1 _ _⟩
theorem goes_any (fb : Nat) (R : List Fm) (x : In) (hx : OkI x) (w : World) (h : FB w fb R) : Calls Try.prog 25 #[.pointer (some ⟨fb, 0, none⟩), iv x] w fun e w' => e = .returned (.bool (goB R x)) ∧ Below w.heap.size w w' := by
  obtain ⟨kd, op, xa, xb, xc, xk⟩ := x
  have hk := hx.kd
  have hc := hx.c
  simp only at hk hc
  unfold iv
  simp only
  by_cases h1 : kd = 10 ∨ kd = 11 ∨ kd = 12 ∨ kd = 13
  · have e : goB R ⟨kd, op, xa, xb, xc, xk⟩ = false := by unfold goB; simp only; rw [if_pos h1]
    rw [e]; exact goes_no fb R kd op xa xb xc xk h1 w
  · by_cases h5 : kd = 5
    · subst h5
      by_cases ho : op = 4 ∨ op = 5
      · have e : goB R ⟨5, op, xa, xb, xc, xk⟩ = (isNumB (rgF R xc) && !((rgF R xc).c == 0)) := by unfold goB; simp [ho]
        rw [e]
        cases hn : isNumB (rgF R xc)
        · exact goes_1 fb R op xa xb xc xk hc ho hn w h
        · exact goes_2 fb R op xa xb xc xk hc ho hn _ rfl w h
      · have e : goB R ⟨5, op, xa, xb, xc, xk⟩ = true := by unfold goB; simp [ho]
        rw [e]; exact goes_0 fb R op xa xb xc xk hc ho w h
    · have e : goB R ⟨kd, op, xa, xb, xc, xk⟩ = true := by unfold goB; simp only; rw [if_neg h1, if_neg h5]
      rw [e]; exact goes_yes fb R kd op xa xb xc xk (by omega) w
set_option maxRecDepth 100000 in
set_option maxHeartbeats 2000000 in
theorem pass_no (fb : Nat) (R : List Fm) (kd op xa xb xc xk : Int) (hk : kd = 1 ∨ kd = 7 ∨ kd = 8 ∨ kd = 9 ∨ kd = 10 ∨ kd = 11 ∨ kd = 12 ∨ kd = 13) (w : World) (h : FB w fb R) : Calls Try.prog 27 #[.pointer (some ⟨fb, 0, none⟩), .agg #[.int .i64 kd, .int .i64 op, .int .i64 xa, .int .i64 xb, .int .i64 xc, .int .i64 xk]] w (PaP fb R w) := by
  have H : Hid (∀ o, FB (w.alloc o) fb R) := fun o => h.alloc o
  clear h
  rcases hk with rfl | rfl | rfl | rfl | rfl | rfl | rfl | rfl
  all_goals
    go_enter Try.func27, Try.ntmps27
    go_wp2_with fail
    go_end0
    exact ⟨rfl, H.out _, (Ch.refl _ _).alloc _⟩
theorem pass_any (fb : Nat) (R : List Fm) (x : In) (hx : OkI x) (w : World) (h : FB w fb R) : Calls Try.prog 27 #[.pointer (some ⟨fb, 0, none⟩), iv x] w (PaP fb (passF R x) w) := by
  obtain ⟨kd, op, xa, xb, xc, xk⟩ := x
  have hk := hx.kd
  have ha := hx.a
  have hb := hx.b
  have hc := hx.c
  simp only at hk ha hb hc
  unfold iv passF
  simp only
  by_cases h2 : kd = 2
  · subst h2; rw [if_pos rfl]; exact pass_2 fb R op xa xb xc xk ha w h
  rw [if_neg h2]
  by_cases h3 : kd = 3
  · subst h3; rw [if_pos rfl]; exact pass_3 fb R op xa xb xc xk ha hb w h
  rw [if_neg h3]
  by_cases h4 : kd = 4
  · subst h4; rw [if_pos rfl]; exact pass_4 fb R op xa xb xc xk ha hb w h
  rw [if_neg h4]
  by_cases h5 : kd = 5
  · subst h5; rw [if_pos rfl]; exact pass_5 fb R op xa xb xc xk ha hb hc w h
  rw [if_neg h5]
  by_cases h6 : kd = 6
  · subst h6; rw [if_pos rfl]; exact pass_6 fb R op xa xb xc xk ha w h
  rw [if_neg h6]
  exact pass_no fb R kd op xa xb xc xk (by omega) w h

def begF (r : Nat) : List Fm := List.replicate r ⟨true, 0, 0⟩ ++ List.replicate (16 - r) fz
theorem begF_set (r : Nat) (h : r < 16) : (begF r).set r ⟨true, 0, 0⟩ = begF (r + 1) := by
  unfold begF
  rw [List.set_append_right _ _ (by simp)]
  simp only [List.length_replicate, Nat.sub_self]
  rw [show 16 - r = (16 - (r + 1)) + 1 by omega, List.replicate_succ, List.set_cons_zero, List.replicate_succ' , List.append_assoc]
  rfl
theorem begF_ok (r : Nat) (h : r ≤ 16) : OkR (begF r) := ⟨by unfold begF; simp; omega, fun f hf => by
  unfold begF at hf
  rcases List.mem_append.1 hf with q | q
  · rw [(List.mem_replicate.1 q).2]; unfold OkF; simp
  · rw [(List.mem_replicate.1 q).2]; exact okF_fz⟩
theorem zero79 (W : World) : (zeroValue 79).run Try.prog W = .ok (.agg (rcs (begF 0)).toArray) W := by kernel_rfl
theorem put3q_below {B g : Nat} {w W : World} (h : Below B w W) (hg : B ≤ g) (q : Nat) (a b c : Value) : Below B w (((W.setCell ⟨g, q * 3, none⟩ a).setCell ⟨g, q * 3 + 1, none⟩ b).setCell ⟨g, q * 3 + 2, none⟩ c) :=
  ((h.setCell hg _).setCell hg _).setCell hg _
def AhP (w : World) (e : Ending) (w' : World) : Prop := ∃ fb, e = .returned (.pointer (some ⟨fb, 0, none⟩)) ∧ fb = w.heap.size ∧ FB w' fb startF ∧ Below w.heap.size w w'
set_option maxRecDepth 100000 in
set_option maxHeartbeats 2000000 in
theorem ahead_any (w : World) : Calls Try.prog 24 #[] w (AhP w) := by
  have z := zero79
  have HZ : Hid (rcs (begF 0) = rcs (begF 0)) := rfl
  obtain ⟨Z, hZ⟩ : ∃ Z, rcs (begF 0) = Z := ⟨_, rfl⟩
  rw [hZ] at z
  have HK : Hid (∀ w, Calls Try.prog 39 #[.int .i64 0] w (FP ⟨true, 0, 0⟩ w)) := fun w => number_any 0 w
  have HK2 : Hid (∀ w, Calls Try.prog 40 #[.int .i64 1, .int .i64 0] w (FP ⟨true, 1, 0⟩ w)) := fun w => kept_any 1 0 w
  have H0 : Hid (FB (w.alloc (.cells Z.toArray 79)) w.heap.size (begF 0)) := ⟨begF_ok 0 (by omega), by rw [hZ]; exact heap_alloc_new w _⟩
  clear hZ HZ
  go_enter Try.func24, Try.ntmps24
  go_wp2_with fail
  generalize hW : w.alloc _ = W
  rw [hW] at H0
  have HB0 : Hid (Below w.heap.size w W) := by show Below _ _ _; rw [← hW]; exact bl1 _ _
  clear hW
  go_loopw [3] (fun i wr => ∃ r : Nat, i = .int .i64 (r : Int) ∧ r ≤ 16 ∧ Hid (FB wr w.heap.size (begF r)) ∧ Hid (Below w.heap.size w wr)) (fun i _ => 16 - (intOf i).toNat)
  case atStart => exact ⟨0, rfl, by omega, H0, HB0⟩
  case round =>
    obtain ⟨r, rfl, hr, HF, HB⟩ := hrel
    by_cases hlt : r < 16
    · have e1 : decide ((r : Int) < 16) = true := by simp; omega
      go_wp2_with fail
      refine (HK.out _).mono ?_
      rintro e w9 ⟨rfl, hb9⟩
      have HF9 : Hid (FB w9 w.heap.size (begF r)) := HF.out.below hb9
      have HB9 : Hid (Below w.heap.size w w9) := HB.out.trans (hb9.mono HB.out.size)
      obtain ⟨y0, y1, y2⟩ := HF9.out.c r hlt
      have yf := HF9.out.frz
      clear hb9
      unfold fv
      go_wp2_with fail
      go_roundw
      case rel => exact ⟨r + 1, by go_num, by omega, by have := HF9.out.put r ⟨true, 0, 0⟩ (by unfold OkF; simp); rw [begF_set r hlt] at this; exact this, put3q_below HB9.out (Nat.le_refl _) r _ _ _⟩
      case measure => simp [intOf]; omega
    · obtain rfl : r = 16 := by omega
      obtain ⟨y0, y1, y2⟩ := HF.out.c 0 (by omega)
      have yf := HF.out.frz
      have HP0 : Hid (FB (((wr.setCell ⟨w.heap.size, 0 * 3, none⟩ (.bool false)).setCell ⟨w.heap.size, 0 * 3 + 1, none⟩ (.int .i64 0)).setCell ⟨w.heap.size, 0 * 3 + 2, none⟩ (.int .i64 0)) w.heap.size ((begF 16).set 0 fz)) := HF.out.put 0 fz okF_fz
      have HPB : Hid (Below w.heap.size w (((wr.setCell ⟨w.heap.size, 0 * 3, none⟩ (.bool false)).setCell ⟨w.heap.size, 0 * 3 + 1, none⟩ (.int .i64 0)).setCell ⟨w.heap.size, 0 * 3 + 2, none⟩ (.int .i64 0))) := put3q_below HB.out (Nat.le_refl _) 0 _ _ _
      simp only [Nat.zero_mul, Nat.zero_add] at y0 y1 y2 HP0 HPB
      go_wp2_with fail
      generalize hV : World.setCell _ _ _ = V at HP0 HPB ⊢
      clear hV y0 y1 y2 yf
      refine (HK2.out _).mono ?_
      rintro e w9 ⟨rfl, hb9⟩
      have HF9 : Hid (FB w9 w.heap.size ((begF 16).set 0 fz)) := HP0.out.below hb9
      have HB9 : Hid (Below w.heap.size w w9) := HPB.out.trans (hb9.mono HPB.out.size)
      obtain ⟨y0, y1, y2⟩ := HF9.out.c 1 (by omega)
      have yf := HF9.out.frz
      simp only [Nat.one_mul] at y0 y1 y2
      clear hb9
      unfold fv
      go_wp2_with fail
      go_ret
      exact ⟨_, rfl, rfl, HF9.out.put 1 ⟨true, 1, 0⟩ (by unfold OkF; simp), put3q_below HB9.out (Nat.le_refl _) 1 _ _ _⟩
end Go.Proofs.Ytcaefimnhoeimaa
