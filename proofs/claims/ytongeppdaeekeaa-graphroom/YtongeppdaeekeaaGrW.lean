/- The walk of GraphRoom. -/
import Derived.Test.YtongeppdaeekeaaGrV
namespace Go.Proofs.Ytongeppdaeekeaa
open Go.RowKit Go.Maps
set_option linter.unusedVariables false

set_option maxRecDepth 100000 in
set_option maxHeartbeats 16000000 in
theorem groom_walk (room : Int) (w : World) : Calls Try.prog 8 #[.int .i64 room] w (AN w (.bool true)) := by
  have HNQ := gnew_any room w
  have HF : Hid (∀ W, Below w.heap.size w W → AN w (.bool true) (.returned (.bool true)) W) := fun W hW => ⟨rfl, hW⟩
  generalize AN w (.bool true) = P at *
  go_enter Try.func8, Try.ntmps8
  go_wp2_with fail
  refine HNQ.mono ?_
  rintro e w1 ⟨b1, ⟨hb, rfl⟩ | ⟨hr, gb, hgb, rfl, g1⟩⟩
  · have HAL := alive38_any w1
    have HR : Hid (∀ W, Below w1.heap.size w1 W → P (.returned (.bool true)) W) := fun W hW => HF.out W (b1.trans (hW.mono b1.size))
    clear b1
    by_cases h1 : room < 1
    · have t1 : decide (room < 1) = true := decide_eq_true h1
      clear hb
      go_wp2_with fail
      refine HAL.mono ?_
      rintro e w2 ⟨rfl, b2⟩
      have HR2 : Hid (P (.returned (.bool true)) w2) := HR.out w2 b2
      clear b2
      go_wp2
      first | exact HR2.out | (go_ret; exact HR2.out)
    · have t1 : decide (room < 1) = false := decide_eq_false h1
      have t2 : decide (512 < room) = true := decide_eq_true (by omega)
      clear hb
      go_wp2_with fail
      refine HAL.mono ?_
      rintro e w2 ⟨rfl, b2⟩
      have HR2 : Hid (P (.returned (.bool true)) w2) := HR.out w2 b2
      clear b2
      go_wp2
      first | exact HR2.out | (go_ret; exact HR2.out)
  · obtain ⟨n, hn⟩ : ∃ n : Nat, room = (n : Int) := ⟨room.toNat, by omega⟩
    subst hn
    have hn1 : 1 ≤ n := by omega
    have hn2 : n ≤ 512 := by omega
    rw [Int.toNat_natCast] at g1
    have HM1 : Hid (GM w w1 gb n (.slice none 0 0) (chE 0)) := ⟨g1, b1, hgb, fun g hg => by simp [Value.ownBlock] at hg⟩
    clear b1 hgb g1 hr HNQ
    obtain ⟨n5, hn5⟩ : ∃ n5, n + 5 = n5 := ⟨_, rfl⟩
    have q5 : (n : Int) + 5 = (n5 : Int) := by omega
    have w5 : IntKind.i64.wrap (n5 : Int) = (n5 : Int) := by rw [IntKind.wrap_i64]; omega
    have HA5 := chE_full n hn1
    have HB5 := tl_add n hn1
    have HC5 := chE_add2 n n 0 (by omega)
    have HFN : Hid (FallsOf (insE (tlE n) ((n5 : Int), 0)) 1 ((List.range n).map fun i : Nat => (i : Int) + 1)) := by
      have := room_falls n hn1
      rw [q5] at this
      exact this
    rw [q5] at HA5 HB5
    have HA5 : Hid _ := HA5
    have HB5 : Hid _ := HB5
    have HC5 : Hid (addE n (chE n) 1 0 = 0 ∧ addS n (chE n) 1 0 = chE n) := HC5
    have HTL : Hid (((chE n).length : Int) - ((remS (chE n) 0).length : Int) = 1) := by
      show _ = _
      have := tlE_len n hn1
      have e1 := chE_len n
      unfold tlE at this
      omega
    clear hn5
    go_wp2_with fail
    go_loopw [5] (fun iv wr => ∃ (k : Nat) (ev : Value), iv = .int .i64 (k : Int) ∧ k ≤ n ∧ Hid (GM w wr gb n ev (chE k))) (fun iv _ => n - (intOf iv).toNat)
    case atStart => exact ⟨0, _, rfl, Nat.zero_le _, HM1⟩
    case round =>
      clear HM1
      obtain ⟨k, ev, rfl, hk, HM1⟩ := hrel
      by_cases hlt : k < n
      · have d1 : decide (k < n) = true := decide_eq_true hlt
        have d1' : (k : Int) < (n : Int) := by omega
        obtain ⟨k1, hk1⟩ : ∃ k1, k + 1 = k1 := ⟨_, rfl⟩
        have q1 : (k : Int) + 1 = (k1 : Int) := by omega
        have w1' : IntKind.i64.wrap (k1 : Int) = (k1 : Int) := by rw [IntKind.wrap_i64]; omega
        have hA := chE_add n k hlt
        have hB := chE_add2 n (k + 1) k (by omega)
        rw [hk1, q1] at hA hB
        have HB1 : Hid (addE n (chE k1) (k1 : Int) (k : Int) = 0 ∧ addS n (chE k1) (k1 : Int) (k : Int) = chE k1) := hB
        have HK1 : Hid (k1 ≤ n ∧ k1 = k + 1) := by show _ ∧ _; omega
        have HA := add_any HM1.out.gv (k1 : Int) (k : Int)
        rw [hA.1, hA.2] at HA
        clear hA hB hk1 hlt
        go_wp2_with fail
        refine HA.mono ?_
        intro e w2 q
        obtain ⟨ev2, rfl, m⟩ := HM1.out.step q
        have HM2 : Hid (GM w w2 gb n ev2 (chE k1)) := m
        clear q m HA HM1
        have HA := add_any HM2.out.gv (k1 : Int) (k : Int)
        rw [HB1.out.1, HB1.out.2] at HA
        go_wp2_with fail
        refine HA.mono ?_
        intro e w3 q
        obtain ⟨ev3, rfl, m⟩ := HM2.out.step q
        have HM3 : Hid (GM w w3 gb n ev3 (chE k1)) := m
        clear q m HA HM2
        have HA := glen_any HM3.out.gv
        rw [chE_len] at HA
        go_wp2_with fail
        refine HA.mono ?_
        rintro e w4 ⟨rfl, rfl⟩
        clear HA
        go_wp2_with fail
        go_roundw
        case rel => exact ⟨k1, ev3, rfl, HK1.out.1, HM3⟩
        case measure => have := HK1.out; simp [intOf]; omega
      · have d1 : decide (k < n) = false := decide_eq_false hlt
        have d1' : ¬ (k : Int) < (n : Int) := by omega
        have hkn : k = n := by omega
        subst hkn
        clear hlt
        have HA := add_any HM1.out.gv (n5 : Int) 0
        rw [HA5.out.1, HA5.out.2] at HA
        go_wp2_with fail
        refine HA.mono ?_
        intro e w2 q
        obtain ⟨ev2, rfl, m⟩ := HM1.out.step q
        have HM2 : Hid (GM w w2 gb k ev2 (chE k)) := m
        clear q m HA HM1
        have HA := add_any HM2.out.gv 1 0
        rw [HC5.out.1, HC5.out.2] at HA
        go_wp2_with fail
        refine HA.mono ?_
        intro e w3 q
        obtain ⟨ev3, rfl, m⟩ := HM2.out.step q
        have HM3 : Hid (GM w w3 gb k ev3 (chE k)) := m
        clear q m HA HM2
        have HA := rem_any HM3.out.gv 0
        rw [HTL.out] at HA
        go_wp2_with fail
        refine HA.mono ?_
        intro e w4 q
        obtain ⟨ev4, rfl, m⟩ := HM3.out.step q
        have HM4 : Hid (GM w w4 gb k ev4 (tlE k)) := m
        clear q m HA HM3
        have HA := add_any HM4.out.gv (n5 : Int) 0
        rw [HB5.out.1, HB5.out.2] at HA
        go_wp2_with fail
        refine HA.mono ?_
        intro e w5 q
        obtain ⟨ev5, rfl, m⟩ := HM4.out.step q
        have HM5 : Hid (GM w w5 gb k ev5 (insE (tlE k) ((n5 : Int), 0))) := m
        clear q m HA HM4
        have HA := fall_any HM5.out.gv 1
        go_wp2_with fail
        refine HA.mono ?_
        rintro e w6 ⟨F, hF, v, rfl, hz, b, _⟩
        have hFe := FallsOf.one HM5.out.gv.ok.Up hF HFN.out
        have hFl : F.length = k := by rw [hFe]; simp
        obtain ⟨a, c, e⟩ := hz.sl
        rw [hFl] at e
        subst e
        have HB6 : Hid (Below w.heap.size w w6) := (HM5.out.below b).bl
        have HAL := alive38_any w6
        have HR : Hid (∀ W, Below w6.heap.size w6 W → P (.returned (.bool true)) W) := fun W hW => HF.out W (HB6.out.trans (hW.mono HB6.out.size))
        clear hF hz b hFe hFl HA HM5 HFN HA5 HB5 HC5 HTL
        go_wp2_with fail
        refine HAL.mono ?_
        rintro e w7 ⟨rfl, b7⟩
        have HR7 : Hid (P (.returned (.bool true)) w7) := HR.out w7 b7
        clear b7
        go_wp2
        first | exact HR7.out | (go_ret; exact HR7.out)
end Go.Proofs.Ytongeppdaeekeaa
