/- Ages in a heap: one goes up, one is put. -/
import Derived.Test.YtongeppdaeekeaaGrL
namespace Go.Proofs.Ytongeppdaeekeaa
open Go.RowKit Go.Maps
set_option linter.unusedVariables false

theorem RZ.takeN {α : Type} {K : RK α} {w : World} {g m c n : Nat} {l : List α} (h : RZ K w (.slice (some ⟨g, 0, none⟩) m c) l) (hm : l.length = m) (hn : n ≤ m) : RZ K w (.slice (some ⟨g, 0, none⟩) n c) (l.take n) := by
  have hl : (l.take n).length = n := by rw [List.length_take]; omega
  rcases h.2 with ⟨h1, h0⟩ | ⟨g', cap, cur, h1, h2, h3, h4, h5, h6, h7⟩
  · cases h1
  · injection h1 with e1 e2 e3
    injection e1 with e1
    injection e1 with e1
    subst e1 e3
    refine ⟨by rw [K.flat_len], .inr ⟨g, c, cur, by rw [hl], h2, h3, by rw [hl]; omega, h5, h6, ?_⟩⟩
    rw [hl, K.flat_take l n (by omega), ← h7, List.take_take, Nat.min_eq_left (Nat.mul_le_mul_right _ (by omega))]
section
variable {w w' W W' : World} {ab : Nat} {hv hv' : Value} {H H' : List Int}
/-- the ages behind some calls -/
def AI (w W : World) (ab : Nat) (hv : Value) (H' : List Int) (hv' : Value) : Prop := AV W ab hv' H' ∧ Ch (fun k => k = ab ∨ hv.ownBlock = some k) w W ∧ (hv'.ownBlock = hv.ownBlock ∨ ∃ n, w.heap.size ≤ n ∧ hv'.ownBlock = some n)
theorem AI.first (h : AV w ab hv H) : AI w w ab hv H hv := ⟨h, Ch.refl _ _, .inl rfl⟩
theorem AI.below (h : AI w W ab hv H hv') (b : Below W.heap.size W W') : AI w W' ab hv H hv' := ⟨h.1.below b, h.2.1.trans (Ch.of b), h.2.2⟩
theorem AI.step {x : Value} {e : Ending} (h : AI w W ab hv H hv') (q : AQ W ab hv' H' x e W') : ∃ hv2, e = .returned x ∧ AI w W' ab hv H' hv2 := by
  obtain ⟨hv2, e1, a, c, o⟩ := q
  have hs := h.2.1.size
  refine ⟨hv2, e1, a, ?_, ?_⟩
  · refine ⟨c.os.trans h.2.1.os, c.tape.trans h.2.1.tape, c.output.trans h.2.1.output, Nat.le_trans hs c.size, fun k hk hn => (c.block k (by omega) (fun e => ?_)).trans (h.2.1.block k hk hn)⟩
    rcases e with e | e
    · exact hn (.inl e)
    · rcases h.2.2 with r | ⟨n, h1, h2⟩
      · exact hn (.inr (r ▸ e))
      · rw [h2] at e; injection e with e; omega
  · rcases o with r | ⟨n, h1, h2⟩
    · rw [r]; exact h.2.2
    · exact .inr ⟨n, by omega, h2⟩
theorem AI.aq {x : Value} (h : AI w W ab hv H hv') : AQ w ab hv H x (.returned x) W := ⟨hv', rfl, h.1, h.2.1, h.2.2⟩
set_option maxRecDepth 100000 in
set_option maxHeartbeats 4000000 in
theorem pop_any (h : AV w ab hv H) (n : Nat) (hn : H.length = n + 1) : Calls Try.prog 147 #[.pointer (some ⟨ab, 0, none⟩)] w (AQ w ab hv (H.take n) (.iface 3 (.int .i64 (at0 H n)))) := by
  have c1 := h.cell
  have f1 := h.fr
  obtain ⟨g, c, e, x0, _⟩ := h.num (i := n) (by omega)
  have hl := h.ll
  have hgab : g ≠ ab := fun e2 => h.ne (by rw [e, e2]; rfl)
  rw [hn] at e
  subst e
  obtain ⟨m, hm⟩ : ∃ m, n + 1 = m := ⟨_, rfl⟩
  rw [hm] at hn
  have hcm : m ≤ c := by
    rcases h.rz.2 with ⟨h1, h0⟩ | ⟨g', c', cur, h1, _, _, h4, _⟩
    · cases h1
    · injection h1 with _ e2 e3; omega
  have HR : Hid (AQ w ab (.slice (some ⟨g, 0, none⟩) m c) (H.take n) (.iface 3 (.int .i64 (at0 H n))) (.returned (.iface 3 (.int .i64 (at0 H n)))) (w.setCell ⟨ab, 0, none⟩ (.slice (some ⟨g, 0, none⟩) n c))) := by
    refine ⟨.slice (some ⟨g, 0, none⟩) n c, rfl, ⟨?_, ?_, fun e => hgab (by simp [Value.ownBlock] at e; exact e), by rw [List.length_take]; omega⟩, (Ch.refl _ w).set (.inl (.inl rfl)) _ _, .inl rfl⟩
    · exact heap_setCell_same w ab 0 _ 159 _ (hm ▸ h.bl)
    · refine RZ.keep (w := w) (RZ.takeN (hm ▸ h.rz) hn (by omega)) (fun g' hg' => Below.heap_setCell _ _ _ _ (by show g' ≠ ab; intro e; rw [e] at hg'; simp [Value.ownBlock] at hg'; exact hgab hg'))
  rw [hm] at c1
  have hmk : (m : Int) - 1 = (n : Int) := by omega
  rw [hm]
  clear h hgab
  generalize AQ w ab _ (H.take n) (.iface 3 (.int .i64 (at0 H n))) = P at *
  generalize at0 H n = v at *
  have i1 : (0 : Int) ≤ (n : Int) := by omega
  have i2 : (n : Int) < (m : Int) := by omega
  have i3 : (n : Int) ≤ (c : Int) := by omega
  go_enter Try.func147, Try.ntmps147
  go_wp2
  first | exact HR.out | (go_ret; exact HR.out)
/-- a number goes up -/
def UpQ (w : World) (ab : Nat) (hv : Value) (H : List Int) (e : Ending) (W : World) : Prop := ∃ H', H'.Perm H ∧ HpO H' H'.length ∧ AQ w ab hv H' (.tuple #[]) e W
set_option maxRecDepth 100000 in
set_option maxHeartbeats 8000000 in
theorem up_any (h : AV w ab hv H) (j : Nat) (hj : j < H.length) (hu : UpO H H.length j) : Calls Try.prog 107 #[.iface 138 (.pointer (some ⟨ab, 0, none⟩)), .int .i64 (j : Int)] w (UpQ w ab hv H) := by
  have HA : Hid (AI w w ab hv H hv) := AI.first h
  have HU : Hid (UpO H H.length j) := hu
  have hl := h.ll
  obtain ⟨n, hn⟩ : ∃ n, H.length = n := ⟨_, rfl⟩
  have HN : Hid (H.length = n) := hn
  have HF : Hid (∀ W H' hv', AI w W ab hv H' hv' → H'.Perm H → HpO H' H'.length → UpQ w ab hv H (.returned (.tuple #[])) W) := fun W H' hv' h1 h2 h3 => ⟨H', h2, h3, h1.aq⟩
  rw [hn] at hj hl
  clear h hu hn
  generalize UpQ w ab hv H = P at *
  go_enter Try.func107, Try.ntmps107
  go_wp2_with fail
  go_loopw [1, 4] (fun jv _ wr => ∃ (j : Nat) (H' : List Int) (hv' : Value), jv = .int .i64 (j : Int) ∧ j < n ∧ Hid (AI w wr ab hv H' hv') ∧ Hid (H'.Perm H ∧ UpO H' n j)) (fun jv _ _ => (intOf jv).toNat)
  case atStart => exact ⟨j, H, hv, rfl, hj, HA, List.Perm.refl _, by have := HU.out; rw [HN.out] at this; exact this⟩
  case round =>
    clear HA HU
    obtain ⟨k, H1, hv1, rfl, hk, HI, HP⟩ := hrel
    have hlen : H1.length = n := by rw [HP.out.1.length_eq]; exact HN.out
    by_cases hk0 : k = 0
    · have q0 : ((k : Int) - 1).tdiv 2 = 0 := by subst hk0; decide
      have q1 : ((0 : Int) == (k : Int)) = true := by simp [hk0]
      have HR : Hid (P (.returned (.tuple #[])) wr) := HF.out wr H1 hv1 HI.out HP.out.1 (by rw [hlen]; exact HP.out.2.stop (.inl hk0))
      clear hk0 HI HP hlen
      go_wp2
      go_end0
      exact HR.out
    · obtain ⟨p, hp⟩ : ∃ p, (k - 1) / 2 = p := ⟨_, rfl⟩
      have q0 : ((k : Int) - 1).tdiv 2 = (p : Int) := by rw [Int.tdiv_eq_ediv_of_nonneg (by omega)]; omega
      have hpk : p < k := by omega
      have q1 : ((p : Int) == (k : Int)) = false := by simp; omega
      have HL := less_any HI.out.1 k p (by rw [hlen]; exact hk) (by rw [hlen]; omega)
      by_cases hlt : at0 H1 k < at0 H1 p
      · rw [decide_eq_true hlt] at HL
        have HS : Hid (∀ W, Below wr.heap.size wr W → Calls Try.prog 149 #[.pointer (some ⟨ab, 0, none⟩), .int .i64 (p : Int), .int .i64 (k : Int)] W (AQ W ab hv1 (swp H1 p k) (.tuple #[]))) := fun W hW => swap_any (HI.out.1.below hW) p k (by rw [hlen]; omega) (by rw [hlen]; exact hk)
        have HP2 : Hid ((swp H1 p k).Perm H ∧ UpO (swp H1 p k) n p) := by
          refine ⟨(swp_perm H1 p k (by rw [hlen]; omega) (by rw [hlen]; exact hk)).trans HP.out.1, ?_⟩
          have := HP.out.2.go (by omega) hk (by omega) (by rw [hp]; exact hlt)
          rw [hp] at this
          exact this
        clear hk0 HP hlen hlt hp
        go_wp2_with fail
        refine HL.mono ?_
        rintro e w4 ⟨rfl, b4⟩
        have HI4 : Hid (AI w w4 ab hv H1 hv1) := HI.out.below b4
        have HS4 := HS.out w4 b4
        clear b4 HS
        go_wp2_with fail
        refine HS4.mono ?_
        intro e w5 q5
        obtain ⟨hv5, rfl, a5⟩ := HI4.out.step q5
        have HI5 : Hid (AI w w5 ab hv (swp H1 p k) hv5) := a5
        clear q5 a5
        go_wp2_with fail
        go_roundw
        case rel => exact ⟨p, _, hv5, rfl, by omega, HI5, HP2⟩
        case measure => simp [intOf]; omega
      · rw [decide_eq_false hlt] at HL
        have HR : Hid (∀ W, Below wr.heap.size wr W → P (.returned (.tuple #[])) W) := fun W hW => HF.out W H1 hv1 (HI.out.below hW) HP.out.1 (by rw [hlen]; exact HP.out.2.stop (.inr (by rw [hp]; omega)))
        clear hk0 HP hlen hlt hp HI
        go_wp2_with fail
        refine HL.mono ?_
        rintro e w4 ⟨rfl, b4⟩
        have HR4 : Hid (P (.returned (.tuple #[])) w4) := HR.out w4 b4
        clear b4
        go_wp2
        go_end0
        exact HR4.out
end
end Go.Proofs.Ytongeppdaeekeaa
