/- The document's Fall. -/
import Derived.Test.YtongeppdaeekeaaGpB
namespace Go.Proofs.Ytongeppdaeekeaa
open Go.RowKit Go.Maps
set_option linter.unusedVariables false

theorem num_own (w : World) (x : Int) : RZ kZ (w.alloc (.cells #[.int .i64 x] 3)) (.slice (some ⟨w.heap.size, 0, none⟩) 1 1) [x] :=
  ⟨by simp [RK.flat, kZ, uno], .inr ⟨w.heap.size, 1, #[.int .i64 x], rfl, Nat.zero_le _, heap_alloc_new _ _, Nat.le_refl _, by unfold maxLen; omega, rfl, by simp [RK.flat, kZ, uno]⟩⟩
def boolN : Value → Nat
  | .bool true => 1
  | _ => 0
/-- no edge ahead of q leads from those who fall to one who doesn't -/
def cloQ (L : Ed) (l : List Int) (q : Nat) : Prop := ∀ i (hi : i < L.length), i < q → (L[i]).2 ∈ l → (L[i]).1 ∈ l
theorem cloQ.all {L : Ed} {l : List Int} {q : Nat} (h : cloQ L l q) (hq : L.length ≤ q) : ∀ e ∈ L, e.2 ∈ l → e.1 ∈ l := fun e he h2 => by
  obtain ⟨i, hi, rfl⟩ := List.getElem_of_mem he
  exact h i hi (by omega) h2
theorem cloQ.next {L : Ed} {l : List Int} {q : Nat} (h : cloQ L l q) (hq : q < L.length) (hc : (L[q]).2 ∈ l → (L[q]).1 ∈ l) : cloQ L l (q + 1) := fun i hi hiq h2 => by
  rcases Nat.lt_or_ge i q with r | r
  · exact h i hi r h2
  · have : i = q := by omega
    subst this
    exact hc h2
set_option maxRecDepth 100000 in
set_option maxHeartbeats 8000000 in
theorem rfall_any {w : World} {v : Value} {E L : Ed} (h : RS kF w v L) (hE : PE E L) (hl : L.length ≤ 512) (dr age : Int) : Calls Try.prog 35 #[.agg #[.int .i64 dr, v], .int .i64 age] w (FallQ w E age) := by
  obtain ⟨a, c, e⟩ := h.form
  obtain ⟨n, hn⟩ : ∃ n, L.length = n := ⟨_, rfl⟩
  have HN : Hid (L.length = n) := hn
  have HUL : Hid (Up L) := fun e he => hE.up e ((hE.mem e).2 he)
  have HDO : Hid (∀ l R, FallI L age l → (∀ e ∈ L, e.2 ∈ l → e.1 ∈ l) → SrtOf l R → FallsOf E age R) := fun l R h1 h2 h3 => h1.done hE h2 h3
  rw [hn] at e hl
  subst e
  obtain ⟨V, hV⟩ : ∃ V, w.alloc (.cells #[.int .i64 dr, .slice a n c] 72) = V := ⟨_, rfl⟩
  obtain ⟨g, hg⟩ : ∃ g, w.heap.size = g := ⟨_, rfl⟩
  have HVV : Hid _ := hV
  have HGG : Hid (w.heap.size = g) := hg
  have hb : V.heap[g]? = some (.cells #[.int .i64 dr, .slice a n c] 72) := by rw [← hV, ← hg]; exact heap_alloc_new _ _
  have c0 : V.cell? ⟨g, 1, none⟩ = some (.slice a n c) := by rw [cell_of_row V g _ _ _ _ hb]; rfl
  have hbw : Below w.heap.size w V := by rw [← hV]; exact bl1 w _
  have HBW : Hid (Below w.heap.size w V) := hbw
  have HR : Hid (RS kF V (.slice a n c) L) := h.below hbw
  have HC0 : Hid (∀ W, Below V.heap.size V W → W.cell? ⟨g, 1, none⟩ = some (.slice a n c)) := fun W hW => by
    rw [cell_of_row W g _ _ _ _ ((hW.block g (Array.getElem?_eq_some_iff.1 hb).1).trans hb)]; rfl
  have HF : Hid (∀ v W R, FallsOf E age R → RZ kZ W v R → Below w.heap.size w W → (∀ g, v.ownBlock = some g → w.heap.size ≤ g) → FallQ w E age (.returned v) W) := fun v W R h0 h1 h2 h3 => ⟨R, h0, v, rfl, h1, h2, h3⟩
  clear h hn hV hg hb hbw hE
  generalize FallQ w E age = P at *
  go_enter Try.func35, Try.ntmps35
  go_upto_region 1 with fail
  rw [HVV.out, HGG.out]
  clear HVV HGG
  have HZ1 : Hid (RZ kZ (V.alloc (.cells #[.int .i64 age] 3)) (.slice (some ⟨V.heap.size, 0, none⟩) 1 1) [age]) := num_own V age
  have HB1 : Hid (Below V.heap.size V (V.alloc (.cells #[.int .i64 age] 3))) := bl1 V _
  have HI1 : Hid (FallI L age [age]) := FallI.first L age
  have HN1 : Hid (∀ g, (Value.slice (some ⟨V.heap.size, 0, none⟩) 1 1).ownBlock = some g → V.heap.size ≤ g) := fun g hg => by simp [Value.ownBlock] at hg; omega
  go_upto_region 2 with fail
  generalize V.alloc (.cells #[.int .i64 age] 3) = w1 at *
  generalize (some (⟨V.heap.size, 0, none⟩ : Addr)) = a1 at *
  go_wp2_with fail
  go_loopw [5, 6] (fun ov mv wr => ∃ (m : Nat) (l : List Int) (mb : Bool), mv = .bool mb ∧ (∃ a c, ov = .slice a m c) ∧ Hid (l.length = m) ∧ Hid (FallI L age l) ∧ Hid (mb = false → cloQ L l n) ∧ Hid (Below V.heap.size V wr) ∧ Hid (RZ kZ wr ov l) ∧ Hid (∀ g, ov.ownBlock = some g → V.heap.size ≤ g)) (fun ov mv wr => 2 * outE L (rowOf wr ov) + boolN mv)
  case atStart => exact ⟨1, [age], true, rfl, ⟨_, _, rfl⟩, rfl, HI1, fun h => (by cases h), HB1, HZ1, HN1⟩
  case round =>
    clear c0 HZ1 HB1 HI1 HN1
    obtain ⟨m, l, mb, rfl, ⟨al, cl, rfl⟩, HLM, HI, HCL, HB, HZ, HW⟩ := hrel
    cases mb with
    | false =>
      have hln := HI.out.ln
      have HS : Hid (Calls Try.prog 74 #[.slice al m cl] wr (SrtQ wr l)) := sort74_any HZ.out.rs (by have := HN.out; have := hln; omega)
      have HB2 : Hid (Below w.heap.size w wr) := HBW.out.trans (HB.out.mono HBW.out.size)
      have HFO : Hid (∀ R, SrtOf l R → FallsOf E age R) := fun R hR => HDO.out l R HI.out ((HCL.out rfl).all (by rw [HN.out]; exact Nat.le_refl _)) hR
      clear hln HZ HB HW HLM HI HCL
      go_wp2_with fail
      refine HS.out.mono ?_
      rintro e w3 ⟨R, hR, v3, rfl, z3, b3, n3⟩
      have HQ : Hid (P (.returned v3) w3) := HF.out v3 w3 R (HFO.out R hR) z3 (HB2.out.trans (b3.mono HB2.out.size)) (fun g hg => Nat.le_trans HB2.out.size (n3 g hg))
      clear z3 b3 n3 hR
      go_wp2
      first | exact HQ.out | (go_ret; exact HQ.out)
    | true =>
      generalize wr = wo at *
      have HRO : Hid (rowOf wo (.slice al m cl) = l) := rowOf_is HZ.out
      have HML : Hid (m ≤ 513) := by
        have h1 := HI.out.ln
        have h2 := HN.out
        have h3 := HLM.out
        show m ≤ 513
        omega
      clear HCL
      go_wp2_with fail
      go_loopw [5, 6, 7] (fun ov mv iv wr2 => ∃ (q m2 : Nat) (l2 : List Int) (mb : Bool), iv = .int .i64 (q : Int) ∧ q ≤ n ∧ mv = .bool mb ∧ (∃ a c, ov = .slice a m2 c) ∧ Hid (l2.length = m2) ∧ Hid (FallI L age l2) ∧ Hid (mb = false → cloQ L l2 q) ∧ Hid (outE L l2 ≤ outE L l ∧ (mb = true → outE L l2 < outE L l)) ∧ Hid (Below V.heap.size V wr2) ∧ Hid (RZ kZ wr2 ov l2) ∧ Hid (∀ g, ov.ownBlock = some g → V.heap.size ≤ g)) (fun _ _ iv _ => n - (intOf iv).toNat)
      case atStart => exact ⟨0, m, l, false, rfl, Nat.zero_le _, rfl, ⟨_, _, rfl⟩, HLM, HI, fun _ i hi h0 => absurd h0 (by omega), ⟨Nat.le_refl _, fun h => (by cases h)⟩, HB, HZ, HW⟩
      case round =>
        clear HB HZ HW HI HLM
        obtain ⟨q, m2, l2, mb, rfl, hq, rfl, ⟨a2, c2, rfl⟩, HLM, HI, HCL, HOU, HB, HZ, HW⟩ := hrel
        have c0 := HC0.out wr HB.out
        by_cases hlt : q < n
        · have d1 : decide (q < n) = true := decide_eq_true hlt
          have hq' : q < L.length := by rw [HN.out]; exact hlt
          obtain ⟨b, bo, n', c', hg, hcl⟩ := (HR.out.below HB.out).cell hq'
          simp only [Value.slice.injEq] at hg
          obtain ⟨rfl, rfl, rfl⟩ := hg
          obtain ⟨⟨z0, z1⟩, hz⟩ : ∃ x, L[q]'hq' = x := ⟨_, rfl⟩
          rw [hz] at hcl
          obtain ⟨y0, y1⟩ := duo_cells rfl rfl hcl
          have i1 : (0 : Int) ≤ (q : Int) := by omega
          have i2 : (q : Int) < (n : Int) := by omega
          have HM5 : Hid (l2.length ≤ 600) := by
            have h1 := HI.out.ln
            have h2 := HN.out
            show l2.length ≤ 600
            omega
          have HI1 : Hid (Calls Try.prog 79 #[.slice a2 m2 c2, .int .i64 z1] wr (SameW wr (.bool (decide (z1 ∈ l2))))) := in79_any HZ.out.rs (by have := HM5.out; omega) z1
          have HI0 : Hid (Calls Try.prog 79 #[.slice a2 m2 c2, .int .i64 z0] wr (SameW wr (.bool (decide (z0 ∈ l2))))) := in79_any HZ.out.rs (by have := HM5.out; omega) z0
          by_cases k1 : z1 ∈ l2
          · rw [decide_eq_true k1] at HI1
            by_cases k0 : z0 ∈ l2
            · rw [decide_eq_true k0] at HI0
              have HCL2 : Hid (mb = false → cloQ L l2 (q + 1)) := fun h => (HCL.out h).next hq' (fun _ => by rw [hz]; exact k0)
              clear k0 k1 hz hcl hq' HCL HM5
              go_wp2_with fail
              refine HI1.out.mono ?_
              rintro e w3 ⟨rfl, rfl⟩
              go_wp2_with fail
              refine HI0.out.mono ?_
              rintro e w3 ⟨rfl, rfl⟩
              go_wp2_with fail
              go_roundw
              case rel => exact ⟨q + 1, m2, l2, mb, by go_num, by omega, rfl, ⟨_, _, rfl⟩, HLM, HI, HCL2, HOU, HB, HZ, HW⟩
              case measure => simp [intOf]; omega
            · rw [decide_eq_false k0] at HI0
              have hmem : (z0, z1) ∈ L := by rw [← hz]; exact List.getElem_mem _
              have HI2 : Hid (FallI L age (l2 ++ [z0])) := HI.out.add HUL.out (z0, z1) hmem k1 k0
              have HOU2 : Hid (outE L (l2 ++ [z0]) < outE L l) := Nat.lt_of_lt_of_le (outE_add L l2 (z0, z1) hmem k0) HOU.out.1
              have HE : Hid (∀ A, RZ kZ (wr.alloc A) (.slice a2 m2 c2) l2) := fun A => HZ.out.below (bl1 wr A)
              have HP2 : Hid (RS kZ (wr.alloc (.cells #[.int .i64 z0] 3)) (.slice (some ⟨wr.heap.size, 0, none⟩) 1 1) [z0]) := num_rz wr z0
              have HL : Hid (l2.length + [z0].length ≤ 100000) := by show _ ≤ _; have := HM5.out; show _ + 1 ≤ _; omega
              clear k0 k1 hz hcl hq' HCL HM5 hmem HI HOU HZ
              go_wp2_with fail
              refine HI1.out.mono ?_
              rintro e w3 ⟨rfl, rfl⟩
              go_wp2_with fail
              refine HI0.out.mono ?_
              rintro e w3 ⟨rfl, rfl⟩
              clear HI0 HI1
              go_wp2_with (at_builtin; refine push_row kZ _ rfl _ _ rfl _ _ l2 [z0] rfl rfl (HE.out _) HP2.out HL.out ?_)
              intro v5 w5 hz5 g5 ho5
              obtain ⟨B5, n5⟩ := pushZ_more (V := V) (HB.out.alloc HB.out.size _) HW.out g5 ho5 (by have := HB.out.size; first | omega | (simp; omega))
              obtain ⟨a8, k8, rfl⟩ := hz5.sl
              have hl8 : (l2 ++ [z0]).length = m2 + 1 := by rw [List.length_append, HLM.out]; rfl
              rw [hl8] at hz5 n5 ⊢
              have HZ5 : Hid (RZ kZ w5 (.slice a8 (m2 + 1) k8) (l2 ++ [z0])) := hz5
              have HLM5 : Hid ((l2 ++ [z0]).length = m2 + 1) := hl8
              have HN5 : Hid (∀ g, (Value.slice a8 (m2 + 1) k8).ownBlock = some g → V.heap.size ≤ g) := n5
              have HB5 : Hid (Below V.heap.size V w5) := B5
              clear hz5 g5 ho5 B5 n5 HE HP2 HL HB hl8 HW HLM y0 y1 c0
              go_wp2_with fail
              go_roundw
              case rel => exact ⟨q + 1, m2 + 1, l2 ++ [z0], true, by go_num, by omega, rfl, ⟨_, _, rfl⟩, HLM5, HI2, fun h => (by cases h), ⟨Nat.le_of_lt HOU2.out, fun _ => HOU2.out⟩, HB5, HZ5, HN5⟩
              case measure => simp [intOf]; omega
          · rw [decide_eq_false k1] at HI1
            have HCL2 : Hid (mb = false → cloQ L l2 (q + 1)) := fun h => (HCL.out h).next hq' (fun h => absurd (by rw [hz] at h; exact h) k1)
            clear k1 hz hcl hq' HCL HM5 HI0
            go_wp2_with fail
            refine HI1.out.mono ?_
            rintro e w3 ⟨rfl, rfl⟩
            go_wp2_with fail
            go_roundw
            case rel => exact ⟨q + 1, m2, l2, mb, by go_num, by omega, rfl, ⟨_, _, rfl⟩, HLM, HI, HCL2, HOU, HB, HZ, HW⟩
            case measure => simp [intOf]; omega
        · have d1 : decide (q < n) = false := decide_eq_false hlt
          have hqn : q = n := by omega
          rw [hqn] at HCL
          have HMS : Hid (2 * outE L (rowOf wr (.slice a2 m2 c2)) + boolN (.bool mb) < 2 * outE L (rowOf wo (.slice al m cl)) + boolN (.bool true)) := by
            show _ < _
            rw [HRO.out, rowOf_is HZ.out]
            have h1 := HOU.out
            cases mb with
            | false => show 2 * _ + 0 < 2 * _ + 1; omega
            | true => have := h1.2 rfl; show 2 * _ + 1 < 2 * _ + 1; omega
          clear hqn HOU HRO
          go_wp2_with fail
          go_roundw
          case rel => exact ⟨m2, l2, mb, rfl, ⟨_, _, rfl⟩, HLM, HI, HCL, HB, HZ, HW⟩
          case measure => exact HMS.out
end Go.Proofs.Ytongeppdaeekeaa
