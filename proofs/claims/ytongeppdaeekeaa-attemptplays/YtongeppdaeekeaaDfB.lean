/- Does the document's log hold a memory? -/
import Derived.Test.YtongeppdaeekeaaDfA
namespace Go.Proofs.Ytongeppdaeekeaa
open Go.RowKit Go.Maps
set_option linter.unusedVariables false

theorem holds_false {l : List (Int × Int × Int)} {G : List Int} {q : Nat} (hq : q < l.length) (h : hlds G l[q] = false) : holdsL l G = false := by
  unfold holdsL
  rw [List.all_eq_false]
  exact ⟨_, List.getElem_mem hq, by simp [h]⟩
theorem holds_true {l : List (Int × Int × Int)} {G : List Int} (h : ∀ j (hj : j < l.length), hlds G l[j] = true) : holdsL l G = true := by
  unfold holdsL
  rw [List.all_eq_true]
  intro x hx
  obtain ⟨i, hi, rfl⟩ := List.getElem_of_mem hx
  exact h i hi
theorem hlds_neg {G : List Int} {z0 z1 z2 : Int} (h : z0 < 0) : hlds G (z0, z1, z2) = false := by unfold hlds; simp; intro h; omega
theorem hlds_far {G : List Int} {z0 z1 z2 : Int} (h : (G.length : Int) ≤ z0) : hlds G (z0, z1, z2) = false := by
  have k2 : decide (z0 < (G.length : Int)) = false := by simp; omega
  unfold hlds
  simp only [k2, Bool.and_false, Bool.false_and]
theorem hlds_in {G : List Int} {q : Nat} {z1 z2 : Int} (hq : q < G.length) : hlds G ((q : Int), z1, z2) = (G[q] == z1) := by
  have k1 : decide (0 ≤ (q : Int)) = true := by simp
  have k2 : decide ((q : Int) < (G.length : Int)) = true := by simp; exact hq
  have k3 : G.getD ((q : Int)).toNat 0 = G[q] := by simp [List.getD, hq]
  unfold hlds
  simp only [k1, k2, k3, Bool.true_and]
set_option maxRecDepth 100000 in
set_option maxHeartbeats 8000000 in
theorem rholds_any {w : World} {v : Value} {d : Dg} (h : DV w v d) (gv : Value) (G : List Int) (hv : GSl w gv G) (hl : d.Rs.length ≤ 1000) : Calls Try.prog 60 #[v, gv] w (AN w (.bool (holdsL d.Rs G))) := by
  obtain ⟨dv, rv, wv, ov, iv, rfl, h⟩ := h
  obtain ⟨m, hm⟩ : ∃ m, d.Rs.length = m := ⟨_, rfl⟩
  have HM : Hid (d.Rs.length = m) := hm
  obtain ⟨N, hN⟩ : ∃ N, G.length = N := ⟨_, rfl⟩
  have HN : Hid (G.length = N) := hN
  have HX : Hid (∀ W, Below w.heap.size w W → RS kQ W rv d.Rs) := fun W hW => h.rr.below hW
  have HG : Hid (∀ W, Below w.heap.size w W → GSl W gv G) := fun W hW => hv.below hW
  have HF : Hid (∀ W, Below w.heap.size w W → (∀ j (hj : j < d.Rs.length), hlds G d.Rs[j] = true) → AN w (.bool (holdsL d.Rs G)) (.returned (.bool true)) W) := fun W hW h => by
    rw [holds_true h]
    exact ⟨rfl, hW⟩
  have HT : Hid (∀ W q, Below w.heap.size w W → ∀ hq : q < d.Rs.length, hlds G d.Rs[q] = false → AN w (.bool (holdsL d.Rs G)) (.returned (.bool false)) W) := fun W q hW hq h => by
    rw [holds_false hq h]
    exact ⟨rfl, hW⟩
  generalize AN w (.bool (holdsL d.Rs G)) = P at *
  obtain ⟨a, c, e⟩ := h.rr.form
  rw [hm] at hl e
  subst e
  obtain ⟨a2, c2, b2, o2, e2, h2, h3, h4, h5⟩ := hv
  rw [hN] at e2
  subst e2
  have hml : N ≤ maxLen := by omega
  unfold maxLen at hml h3
  clear h hm h4 h5 hN h2
  have hb : ∀ W, Below (w.heap.size + 1) (w.alloc (.cells #[.int .i64 d.R, .int .i64 d.W, .int .i64 d.O, dv, .slice a m c, wv, ov, iv] 35)) W → W.cell? ⟨w.heap.size, 4, none⟩ = some (.slice a m c) := fun W hW => (hW.cell (p := ⟨w.heap.size, 4, none⟩) (by show w.heap.size < _; omega)).trans (by simp)
  have HB : Hid (∀ W, Below (w.heap.size + 1) (w.alloc (.cells #[.int .i64 d.R, .int .i64 d.W, .int .i64 d.O, dv, .slice a m c, wv, ov, iv] 35)) W → W.cell? ⟨w.heap.size, 4, none⟩ = some (.slice a m c)) := hb
  clear hb
  go_enter Try.func60, Try.ntmps60
  go_wp2_with fail
  have B0 : Hid (Below w.heap.size w (w.alloc (.cells #[.int .i64 d.R, .int .i64 d.W, .int .i64 d.O, dv, .slice a m c, wv, ov, iv] 35))) := bl1 _ _
  have S0 : Hid (w.heap.size + 1 ≤ (w.alloc (.cells #[.int .i64 d.R, .int .i64 d.W, .int .i64 d.O, dv, .slice a m c, wv, ov, iv] 35)).heap.size) := by show _ ≤ _; simp
  generalize w.alloc (.cells #[.int .i64 d.R, .int .i64 d.W, .int .i64 d.O, dv, .slice a m c, wv, ov, iv] 35) = U at *
  obtain ⟨g, hgg⟩ : ∃ g, w.heap.size = g := ⟨_, rfl⟩
  have HGG : Hid (w.heap.size = g) := hgg
  rw [hgg] at HB S0 ⊢
  clear hgg
  go_loopw [5] (fun i wr => ∃ q : Nat, i = .int .i64 (q : Int) ∧ q ≤ m ∧ Hid (∀ j (hj : j < d.Rs.length), j < q → hlds G d.Rs[j] = true) ∧ Hid (Below (g + 1) U wr)) (fun i _ => m - (intOf i).toNat)
  case atStart => exact ⟨0, rfl, Nat.zero_le _, fun j hj h => absurd h (by omega), Below.refl _ _⟩
  case round =>
    obtain ⟨q, rfl, hq, HNN, HBB⟩ := hrel
    have hbelow : ∀ W, Below (g + 1) U W → Below w.heap.size w W := fun W hW => B0.out.trans (hW.mono (by have := HGG.out; omega))
    have HBL : Hid (∀ W, Below (g + 1) U W → Below w.heap.size w W) := hbelow
    clear hbelow
    have c4 := HB.out wr HBB.out
    by_cases hlt : q < m
    · have e1 : decide (q < m) = true := by simp; omega
      have hq' : q < d.Rs.length := by rw [HM.out]; exact hlt
      obtain ⟨b, o, n, c', hg, hcl⟩ := (HX.out wr (HBL.out _ HBB.out)).cell hq'
      simp only [Value.slice.injEq] at hg
      obtain ⟨rfl, _, rfl⟩ := hg
      obtain ⟨z0, z1, z2, hz⟩ : ∃ z0 z1 z2, d.Rs[q] = (z0, z1, z2) := ⟨d.Rs[q].1, d.Rs[q].2.1, d.Rs[q].2.2, rfl⟩
      have HZ : Hid (d.Rs[q] = (z0, z1, z2)) := hz
      rw [hz] at hcl
      obtain ⟨y0, y1, y2⟩ := tri_cells rfl rfl hcl
      clear hcl hz
      obtain ⟨V, hV⟩ : ∃ V, wr.alloc (.cells #[.int .i64 z0, .int .i64 z1, .int .i64 z2] 107) = V := ⟨_, rfl⟩
      have hszU : g + 1 ≤ wr.heap.size := by have := HBB.out.size; have := S0.out; omega
      have HV : Hid (wr.alloc (.cells #[.int .i64 z0, .int .i64 z1, .int .i64 z2] 107) = V) := hV
      have BV : Hid (Below (g + 1) U V) := by rw [← hV]; exact HBB.out.alloc hszU _
      have v0 : V.cell? ⟨wr.heap.size, 0, none⟩ = some (.int .i64 z0) := by rw [← hV]; simp
      have v1 : V.cell? ⟨wr.heap.size, 1, none⟩ = some (.int .i64 z1) := by rw [← hV]; simp
      have HQF : Hid (hlds G (z0, z1, z2) = false → ∀ k, P (.returned (.bool false)) (V.drewN k)) := fun h k => HT.out _ q (Below.dN (HBL.out _ BV.out) k) hq' (by rw [HZ.out]; exact h)
      have HQT : Hid (hlds G (z0, z1, z2) = true → ∀ j (hj : j < d.Rs.length), j < q + 1 → hlds G d.Rs[j] = true) := fun h j hj hjq => by
        rcases Nat.lt_or_ge j q with r | r
        · exact HNN.out j hj r
        · have : j = q := by omega
          subst this
          rw [HZ.out]; exact h
      clear hV hszU
      by_cases h0 : z0 < 0
      · have HQ : Hid (∀ k, P (.returned (.bool false)) (V.drewN k)) := HQF.out (hlds_neg h0)
        have e2 : decide (z0 < 0) = true := by simp [h0]
        go_upto_region 5 with fail
        rw [HV.out]
        go_quiet (fail)
        go_wp2
        first | exact HQ.out _ | (go_ret; exact HQ.out _)
      · have e2 : decide (z0 < 0) = false := by simp; omega
        by_cases h1 : (N : Int) ≤ z0
        · have HQ : Hid (∀ k, P (.returned (.bool false)) (V.drewN k)) := HQF.out (hlds_far (by rw [HN.out]; exact h1))
          have e3 : decide ((N : Int) ≤ z0) = true := by simp [h1]
          go_upto_region 5 with fail
          rw [HV.out]
          go_quiet (fail)
          go_wp2
          first | exact HQ.out _ | (go_ret; exact HQ.out _)
        · obtain ⟨x, rfl⟩ : ∃ x : Nat, z0 = (x : Int) := ⟨z0.toNat, by omega⟩
          have e3 : decide ((N : Int) ≤ (x : Int)) = false := by simp; omega
          have e3' : decide (N ≤ x) = false := by simp; omega
          have hxG : x < G.length := by rw [HN.out]; omega
          obtain ⟨a', c3, b3, o3, e4, k2, k3, k4, k5⟩ := HG.out V (HBL.out _ BV.out)
          rw [HN.out] at e4 k4
          simp only [Value.slice.injEq] at e4
          obtain ⟨rfl, _, rfl⟩ := e4
          obtain rfl := k4 (by omega)
          have cx := k5 x hxG
          have hin := hlds_in (z1 := z1) (z2 := z2) hxG
          obtain ⟨y, hy⟩ : ∃ y, G[x] = y := ⟨_, rfl⟩
          rw [hy] at cx hin
          have i1 : (0 : Int) ≤ (x : Int) := by omega
          have i2 : (x : Int) < (N : Int) := by omega
          clear k5 k4 k2 k3 hy
          by_cases hyz : y = z1
          · have e5 : (y != z1) = false := by simp [hyz]
            have HQ : Hid _ := HQT.out (hin.trans (by simp [hyz]))
            clear hin
            go_upto_region 5 with fail
            rw [HV.out]
            go_quiet (fail)
            go_wp2_with fail
            go_roundw
            case rel => exact ⟨q + 1, by go_num, by omega, HQ, Below.dN BV.out _⟩
            case measure => simp [intOf]; omega
          · have e5 : (y != z1) = true := by simp [hyz]
            have HQ : Hid (∀ k, P (.returned (.bool false)) (V.drewN k)) := HQF.out (hin.trans (by simp [hyz]))
            clear hin
            go_upto_region 5 with fail
            rw [HV.out]
            go_quiet (fail)
            go_wp2
            first | exact HQ.out _ | (go_ret; exact HQ.out _)
    · have e1 : decide (q < m) = false := by simp; omega
      have hqm : q = m := by omega
      subst hqm
      have HQ : Hid (P (.returned (.bool true)) wr) := HF.out _ (HBL.out _ HBB.out) (fun j hj => HNN.out j hj (by rw [HM.out] at hj; exact hj))
      go_wp2
      first | exact HQ.out | (go_ret; exact HQ.out)
end Go.Proofs.Ytongeppdaeekeaa
