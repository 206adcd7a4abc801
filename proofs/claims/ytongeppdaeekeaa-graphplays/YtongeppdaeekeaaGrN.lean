/- Ages in a heap: one goes down. -/
import Derived.Test.YtongeppdaeekeaaGrM
namespace Go.Proofs.Ytongeppdaeekeaa
open Go.RowKit Go.Maps
set_option linter.unusedVariables false

theorem DnO.child {a : List Int} {n i c : Nat} (h : 2 * i + 1 < n) (hc : (c = 2 * i + 1 ∧ (n ≤ 2 * i + 2 ∨ at0 a (2 * i + 1) ≤ at0 a (2 * i + 2))) ∨ (c = 2 * i + 2 ∧ 2 * i + 2 < n ∧ at0 a (2 * i + 2) ≤ at0 a (2 * i + 1))) :
    (c - 1) / 2 = i ∧ 0 < c ∧ c < n ∧ ∀ k, 0 < k → k < n → (k - 1) / 2 = i → at0 a c ≤ at0 a k := by
  refine ⟨by omega, by omega, by omega, fun k k0 kn hk => ?_⟩
  have : k = 2 * i + 1 ∨ k = 2 * i + 2 := by omega
  rcases hc with ⟨rfl, h1⟩ | ⟨rfl, h1, h2⟩
  · rcases this with rfl | rfl
    · exact Int.le_refl _
    · rcases h1 with h1 | h1
      · omega
      · exact h1
  · rcases this with rfl | rfl
    · exact h2
    · exact Int.le_refl _
/-- how far one has gone down -/
structure DI (H H1 : List Int) (n i : Nat) : Prop where
  pm : H1.Perm H
  dn : DnO H1 n i
  tl : ∀ k, n ≤ k → k < H.length → at0 H1 k = at0 H k
theorem DI.go {H H1 : List Int} {n i c : Nat} (h : DI H H1 n i) (hn : n ≤ H.length) (hi : (c - 1) / 2 = i ∧ 0 < c ∧ c < n ∧ ∀ k, 0 < k → k < n → (k - 1) / 2 = i → at0 H1 c ≤ at0 H1 k) (hlt : at0 H1 c < at0 H1 i) : DI H (swp H1 i c) n c := by
  obtain ⟨h1, h2, h3, h4⟩ := hi
  have hl : H1.length = H.length := h.pm.length_eq
  refine ⟨(swp_perm H1 i c (by omega) (by omega)).trans h.pm, h.dn.go (by omega) h3 h2 h1 hlt h4, fun k k1 k2 => ?_⟩
  rw [swp_at H1 i c k (by omega) (by omega) (by omega), if_neg (by omega), if_neg (by omega)]
  exact h.tl k k1 k2
theorem DI.stop {H H1 : List Int} {n i c : Nat} (h : DI H H1 n i) (hi : (c - 1) / 2 = i ∧ 0 < c ∧ c < n ∧ ∀ k, 0 < k → k < n → (k - 1) / 2 = i → at0 H1 c ≤ at0 H1 k) (hge : ¬ at0 H1 c < at0 H1 i) : HpO H1 n :=
  h.dn.stop fun k k0 kn hk => by have := hi.2.2.2 k k0 kn hk; omega
theorem DI.low {H H1 : List Int} {n i : Nat} (h : DI H H1 n i) (hi : n ≤ 2 * i + 1) : HpO H1 n := h.dn.stop fun k k0 kn hk => by omega
def DownQ (w : World) (ab : Nat) (hv : Value) (H : List Int) (n : Nat) (e : Ending) (W : World) : Prop := ∃ H' b, H'.Perm H ∧ HpO H' n ∧ (∀ k, n ≤ k → k < H.length → at0 H' k = at0 H k) ∧ AQ w ab hv H' (.bool b) e W
set_option maxRecDepth 100000 in
set_option maxHeartbeats 16000000 in
theorem down_any {w : World} {ab : Nat} {hv : Value} {H : List Int} (h : AV w ab hv H) (n : Nat) (hn : n ≤ H.length) (hd : DnO H n 0) : Calls Try.prog 106 #[.iface 138 (.pointer (some ⟨ab, 0, none⟩)), .int .i64 0, .int .i64 (n : Int)] w (DownQ w ab hv H n) := by
  have HA : Hid (AI w w ab hv H hv) := AI.first h
  have HD : Hid (DI H H n 0) := ⟨.refl _, hd, fun _ _ _ => rfl⟩
  have hl := h.ll
  have HN : Hid (n ≤ H.length) := hn
  have HF : Hid (∀ W H' hv' b, AI w W ab hv H' hv' → H'.Perm H → (∀ k, n ≤ k → k < H.length → at0 H' k = at0 H k) → HpO H' n → DownQ w ab hv H n (.returned (.bool b)) W) := fun W H' hv' b h1 h2 h3 h4 => ⟨H', b, h2, h4, h3, h1.aq⟩
  have hn2 : n ≤ 2000 := by omega
  clear h hd hn hl
  generalize DownQ w ab hv H n = P at *
  go_enter Try.func106, Try.ntmps106
  go_wp2_with fail
  go_loopw [7, 8, 9, 10] (fun iv _ _ _ wr => ∃ (i : Nat) (H' : List Int) (hv' : Value), iv = .int .i64 (i : Int) ∧ (i < n ∨ i = 0) ∧ Hid (AI w wr ab hv H' hv') ∧ Hid (DI H H' n i)) (fun iv _ _ _ _ => n - (intOf iv).toNat)
  case atStart => exact ⟨0, H, hv, rfl, .inr rfl, HA, HD⟩
  case round =>
    clear HA HD
    obtain ⟨i, H1, hv1, rfl, hi, HI, HP⟩ := hrel
    have hlen : H1.length = H.length := HP.out.pm.length_eq
    have hnn := HN.out
    obtain ⟨d, hd⟩ : ∃ d, 2 * i = d := ⟨_, rfl⟩
    obtain ⟨a1, ha1⟩ : ∃ a1, d + 1 = a1 := ⟨_, rfl⟩
    obtain ⟨a2, ha2⟩ : ∃ a2, a1 + 1 = a2 := ⟨_, rfl⟩
    have q0 : 2 * (i : Int) = (d : Int) := by omega
    have q1 : (d : Int) + 1 = (a1 : Int) := by omega
    have q2 : (a1 : Int) + 1 = (a2 : Int) := by omega
    have w0 : IntKind.i64.wrap (d : Int) = (d : Int) := by rw [IntKind.wrap_i64]; omega
    have w1 : IntKind.i64.wrap (a1 : Int) = (a1 : Int) := by rw [IntKind.wrap_i64]; omega
    have w2 : IntKind.i64.wrap (a2 : Int) = (a2 : Int) := by rw [IntKind.wrap_i64]; omega
    by_cases hlow : n ≤ a1
    · have e1 : decide (n ≤ a1) = true := decide_eq_true hlow
      have HR : Hid (∀ b, P (.returned (.bool b)) wr) := fun b => HF.out wr H1 hv1 b HI.out HP.out.pm HP.out.tl (HP.out.low (by omega))
      clear HI HP hlen hnn hd ha1 ha2 hlow hi
      go_wp2
      first | exact HR.out _ | (go_ret; exact HR.out _)
    · have e1 : decide (n ≤ a1) = false := decide_eq_false hlow
      by_cases h2 : a2 < n
      · have e2 : decide (a2 < n) = true := decide_eq_true h2
        have HL2 := less_any HI.out.1 a2 a1 (by omega) (by omega)
        by_cases hlt2 : at0 H1 a2 < at0 H1 a1
        · rw [decide_eq_true hlt2] at HL2
          have HC : Hid ((a2 - 1) / 2 = i ∧ 0 < a2 ∧ a2 < n ∧ ∀ k, 0 < k → k < n → (k - 1) / 2 = i → at0 H1 a2 ≤ at0 H1 k) := DnO.child (by omega) (by subst ha2 ha1 hd; exact .inr ⟨rfl, h2, Int.le_of_lt hlt2⟩)
          have HL : Hid (∀ W, Below wr.heap.size wr W → Calls Try.prog 146 #[.pointer (some ⟨ab, 0, none⟩), .int .i64 (a2 : Int), .int .i64 (i : Int)] W (AN W (.bool (decide (at0 H1 a2 < at0 H1 i))))) := fun W hW => less_any (HI.out.1.below hW) a2 i (by have := HC.out; omega) (by have := HC.out; omega)
          have HIW : Hid (∀ W, Below wr.heap.size wr W → AI w W ab hv H1 hv1) := fun W hW => HI.out.below hW
          by_cases hlt : at0 H1 a2 < at0 H1 i
          · rw [decide_eq_true hlt] at HL
            have HS : Hid (∀ W, Below wr.heap.size wr W → Calls Try.prog 149 #[.pointer (some ⟨ab, 0, none⟩), .int .i64 (i : Int), .int .i64 (a2 : Int)] W (AQ W ab hv1 (swp H1 i a2) (.tuple #[]))) := fun W hW => swap_any (HI.out.1.below hW) i a2 (by have := HC.out; omega) (by have := HC.out; omega)
            have HP2 : Hid (DI H (swp H1 i a2) n a2) := HP.out.go hnn HC.out hlt
            have HM : Hid (a2 < n ∧ i < a2) := by have := HC.out; show _ ∧ _; omega
            clear h2 hlt2 HI HP hlen hnn hd ha1 ha2 hlow hi HC hlt
            go_wp2_with fail
            refine HL2.mono ?_
            rintro e w3 ⟨rfl, b3⟩
            have B4 : Below wr.heap.size wr w3 := b3
            clear b3 HL2
            go_wp2_with fail
            refine (HL.out _ B4).mono ?_
            rintro e w4 ⟨rfl, b4⟩
            have B5 : Below wr.heap.size wr w4 := B4.trans (b4.mono B4.size)
            have HS4 := HS.out w4 B5
            have HI4 : Hid (AI w w4 ab hv H1 hv1) := HIW.out w4 B5
            clear b4 B4 B5 HS HIW HL
            go_wp2_with fail
            refine HS4.mono ?_
            intro e w5 q5
            obtain ⟨hv5, rfl, a5⟩ := HI4.out.step q5
            have HI5 : Hid (AI w w5 ab hv (swp H1 i a2) hv5) := a5
            clear q5 a5
            go_wp2_with fail
            go_roundw
            case rel => exact ⟨a2, _, hv5, rfl, .inl HM.out.1, HI5, HP2⟩
            case measure => have := HM.out; simp [intOf]; omega
          · rw [decide_eq_false hlt] at HL
            have HR : Hid (∀ W b, Below wr.heap.size wr W → P (.returned (.bool b)) W) := fun W b hW => HF.out W H1 hv1 b (HI.out.below hW) HP.out.pm HP.out.tl (HP.out.stop HC.out hlt)
            clear h2 hlt2 HI HP hlen hnn hd ha1 ha2 hlow hi HC hlt
            go_wp2_with fail
            refine HL2.mono ?_
            rintro e w3 ⟨rfl, b3⟩
            have B4 : Below wr.heap.size wr w3 := b3
            clear b3 HL2
            go_wp2_with fail
            refine (HL.out _ B4).mono ?_
            rintro e w4 ⟨rfl, b4⟩
            have HR4 : Hid (∀ b, P (.returned (.bool b)) w4) := fun b => HR.out w4 b (B4.trans (b4.mono B4.size))
            clear b4 B4 HL HIW HR
            go_wp2
            first | exact HR4.out _ | (go_ret; exact HR4.out _)
        · rw [decide_eq_false hlt2] at HL2
          have HC : Hid ((a1 - 1) / 2 = i ∧ 0 < a1 ∧ a1 < n ∧ ∀ k, 0 < k → k < n → (k - 1) / 2 = i → at0 H1 a1 ≤ at0 H1 k) := DnO.child (by omega) (by subst ha2 ha1 hd; exact .inl ⟨rfl, .inr (Int.not_lt.1 hlt2)⟩)
          have HL : Hid (∀ W, Below wr.heap.size wr W → Calls Try.prog 146 #[.pointer (some ⟨ab, 0, none⟩), .int .i64 (a1 : Int), .int .i64 (i : Int)] W (AN W (.bool (decide (at0 H1 a1 < at0 H1 i))))) := fun W hW => less_any (HI.out.1.below hW) a1 i (by have := HC.out; omega) (by have := HC.out; omega)
          have HIW : Hid (∀ W, Below wr.heap.size wr W → AI w W ab hv H1 hv1) := fun W hW => HI.out.below hW
          by_cases hlt : at0 H1 a1 < at0 H1 i
          · rw [decide_eq_true hlt] at HL
            have HS : Hid (∀ W, Below wr.heap.size wr W → Calls Try.prog 149 #[.pointer (some ⟨ab, 0, none⟩), .int .i64 (i : Int), .int .i64 (a1 : Int)] W (AQ W ab hv1 (swp H1 i a1) (.tuple #[]))) := fun W hW => swap_any (HI.out.1.below hW) i a1 (by have := HC.out; omega) (by have := HC.out; omega)
            have HP2 : Hid (DI H (swp H1 i a1) n a1) := HP.out.go hnn HC.out hlt
            have HM : Hid (a1 < n ∧ i < a1) := by have := HC.out; show _ ∧ _; omega
            clear h2 hlt2 HI HP hlen hnn hd ha1 ha2 hlow hi HC hlt
            go_wp2_with fail
            refine HL2.mono ?_
            rintro e w3 ⟨rfl, b3⟩
            have B4 : Below wr.heap.size wr w3 := b3
            clear b3 HL2
            go_wp2_with fail
            refine (HL.out _ B4).mono ?_
            rintro e w4 ⟨rfl, b4⟩
            have B5 : Below wr.heap.size wr w4 := B4.trans (b4.mono B4.size)
            have HS4 := HS.out w4 B5
            have HI4 : Hid (AI w w4 ab hv H1 hv1) := HIW.out w4 B5
            clear b4 B4 B5 HS HIW HL
            go_wp2_with fail
            refine HS4.mono ?_
            intro e w5 q5
            obtain ⟨hv5, rfl, a5⟩ := HI4.out.step q5
            have HI5 : Hid (AI w w5 ab hv (swp H1 i a1) hv5) := a5
            clear q5 a5
            go_wp2_with fail
            go_roundw
            case rel => exact ⟨a1, _, hv5, rfl, .inl HM.out.1, HI5, HP2⟩
            case measure => have := HM.out; simp [intOf]; omega
          · rw [decide_eq_false hlt] at HL
            have HR : Hid (∀ W b, Below wr.heap.size wr W → P (.returned (.bool b)) W) := fun W b hW => HF.out W H1 hv1 b (HI.out.below hW) HP.out.pm HP.out.tl (HP.out.stop HC.out hlt)
            clear h2 hlt2 HI HP hlen hnn hd ha1 ha2 hlow hi HC hlt
            go_wp2_with fail
            refine HL2.mono ?_
            rintro e w3 ⟨rfl, b3⟩
            have B4 : Below wr.heap.size wr w3 := b3
            clear b3 HL2
            go_wp2_with fail
            refine (HL.out _ B4).mono ?_
            rintro e w4 ⟨rfl, b4⟩
            have HR4 : Hid (∀ b, P (.returned (.bool b)) w4) := fun b => HR.out w4 b (B4.trans (b4.mono B4.size))
            clear b4 B4 HL HIW HR
            go_wp2
            first | exact HR4.out _ | (go_ret; exact HR4.out _)
      · have e2 : decide (a2 < n) = false := decide_eq_false h2
        have HC : Hid ((a1 - 1) / 2 = i ∧ 0 < a1 ∧ a1 < n ∧ ∀ k, 0 < k → k < n → (k - 1) / 2 = i → at0 H1 a1 ≤ at0 H1 k) := DnO.child (by omega) (by subst ha2 ha1 hd; exact .inl ⟨rfl, .inl (by omega)⟩)
        have HL : Hid (∀ W, Below wr.heap.size wr W → Calls Try.prog 146 #[.pointer (some ⟨ab, 0, none⟩), .int .i64 (a1 : Int), .int .i64 (i : Int)] W (AN W (.bool (decide (at0 H1 a1 < at0 H1 i))))) := fun W hW => less_any (HI.out.1.below hW) a1 i (by have := HC.out; omega) (by have := HC.out; omega)
        have HIW : Hid (∀ W, Below wr.heap.size wr W → AI w W ab hv H1 hv1) := fun W hW => HI.out.below hW
        by_cases hlt : at0 H1 a1 < at0 H1 i
        · rw [decide_eq_true hlt] at HL
          have HS : Hid (∀ W, Below wr.heap.size wr W → Calls Try.prog 149 #[.pointer (some ⟨ab, 0, none⟩), .int .i64 (i : Int), .int .i64 (a1 : Int)] W (AQ W ab hv1 (swp H1 i a1) (.tuple #[]))) := fun W hW => swap_any (HI.out.1.below hW) i a1 (by have := HC.out; omega) (by have := HC.out; omega)
          have HP2 : Hid (DI H (swp H1 i a1) n a1) := HP.out.go hnn HC.out hlt
          have HM : Hid (a1 < n ∧ i < a1) := by have := HC.out; show _ ∧ _; omega
          clear h2 HI HP hlen hnn hd ha1 ha2 hlow hi HC hlt
          have B4 : Below wr.heap.size wr wr := Below.refl _ _
          go_wp2_with fail
          refine (HL.out _ B4).mono ?_
          rintro e w4 ⟨rfl, b4⟩
          have B5 : Below wr.heap.size wr w4 := B4.trans (b4.mono B4.size)
          have HS4 := HS.out w4 B5
          have HI4 : Hid (AI w w4 ab hv H1 hv1) := HIW.out w4 B5
          clear b4 B4 B5 HS HIW HL
          go_wp2_with fail
          refine HS4.mono ?_
          intro e w5 q5
          obtain ⟨hv5, rfl, a5⟩ := HI4.out.step q5
          have HI5 : Hid (AI w w5 ab hv (swp H1 i a1) hv5) := a5
          clear q5 a5
          go_wp2_with fail
          go_roundw
          case rel => exact ⟨a1, _, hv5, rfl, .inl HM.out.1, HI5, HP2⟩
          case measure => have := HM.out; simp [intOf]; omega
        · rw [decide_eq_false hlt] at HL
          have HR : Hid (∀ W b, Below wr.heap.size wr W → P (.returned (.bool b)) W) := fun W b hW => HF.out W H1 hv1 b (HI.out.below hW) HP.out.pm HP.out.tl (HP.out.stop HC.out hlt)
          clear h2 HI HP hlen hnn hd ha1 ha2 hlow hi HC hlt
          have B4 : Below wr.heap.size wr wr := Below.refl _ _
          go_wp2_with fail
          refine (HL.out _ B4).mono ?_
          rintro e w4 ⟨rfl, b4⟩
          have HR4 : Hid (∀ b, P (.returned (.bool b)) w4) := fun b => HR.out w4 b (B4.trans (b4.mono B4.size))
          clear b4 B4 HL HIW HR
          go_wp2
          first | exact HR4.out _ | (go_ret; exact HR4.out _)
end Go.Proofs.Ytongeppdaeekeaa
