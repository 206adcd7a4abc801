/- Edges; is a number in a row? -/
import Derived.Test.YtongeppdaeekeaaGfC
namespace Go.Proofs.Ytongeppdaeekeaa
open Go.RowKit Go.Maps
set_option linter.unusedVariables false

theorem one27_any {w W : World} {gb room : Nat} {ev v : Value} {E L : Ed} (h : GD kF w W gb room ev E v L) (hl : L.length ≤ 600) (dr : Int) (x : O3) : Calls Try.prog 27 #[.pointer (some ⟨gb, 0, none⟩), .agg #[.int .i64 dr, v], opG x] W (OneGQ w W gb room ev dr (oneGE room E x) (oneGL dr L x) (oneGB room dr E L x)) := by
  obtain ⟨k, r, wt⟩ := x
  unfold oneGE oneGL oneGB opG
  cases hk : opRem (k, r, wt) with
  | true => exact one_rem h hl dr k r wt hk
  | false => exact one_add h hl dr k r wt hk
set_option maxRecDepth 100000 in
set_option maxHeartbeats 4000000 in
theorem clone80_any {w : World} {v : Value} {l : Ed} (h : RZ kE w v l) (hl : l.length ≤ 1000) : Calls Try.prog 80 #[v] w (fun e w' => ∃ v', e = .returned v' ∧ RS kE w' v' l ∧ Below w.heap.size w w') := by
  have HR : Hid (RS kE w v l) := h.rs
  have qN : ∀ (w : World) (a : Option Addr) (n c n' c' : Nat), (binOp .eql 86 (.slice a n c) (.slice none n' c')).run Try.prog w = .ok (.bool a.isNone) w := fun w a n c n' c' => Lib.run_eql_slice_nil w 86 90 a n c n' c' Try.underlying86
  have hc := h.2
  rcases hc with ⟨rfl, h0⟩ | ⟨g, cap, cur, rfl, _⟩
  · have hl0 : l = [] := List.length_eq_zero_iff.1 h0
    subst hl0
    have HF : Hid ((fun (e : Ending) w' => ∃ v', e = .returned v' ∧ RS kE w' v' [] ∧ Below w.heap.size w w') (.returned (.slice none 0 0)) w) := ⟨_, rfl, RS.nil _ _, Below.refl _ _⟩
    generalize (fun (e : Ending) w' => ∃ v', e = .returned v' ∧ RS kE w' v' [] ∧ Below w.heap.size w w') = P at *
    clear h h0
    go_enter Try.func80, Try.ntmps80
    go_wp2
    first | exact HF.out | (go_ret; exact HF.out)
  · have HF : Hid (∀ v' w', RS kE w' v' l → Below w.heap.size w w' → (fun (e : Ending) w' => ∃ v', e = .returned v' ∧ RS kE w' v' l ∧ Below w.heap.size w w') (.returned v') w') := fun v' w' h1 h2 => ⟨_, rfl, h1, h2⟩
    have HE : Hid (RZ kE (w.alloc (.cells #[] 90)) (.slice (some ⟨w.heap.size, 0, none⟩) 0 0) []) := RZ.empty kE w
    have HO : Hid (RS kE (w.alloc (.cells #[] 90)) (.slice (some ⟨g, 0, none⟩) l.length cap) l) := HR.out.below (bl1 w _)
    have HL : Hid (([] : Ed).length + l.length ≤ 100000) := by show _ ≤ _; simp; omega
    generalize (fun (e : Ending) w' => ∃ v', e = .returned v' ∧ RS kE w' v' l ∧ Below w.heap.size w w') = P at *
    clear h
    go_enter Try.func80, Try.ntmps80
    go_wp2_with (at_builtin; refine push_row kE _ rfl _ _ rfl _ _ [] l rfl rfl HE.out HO.out HL.out ?_)
    intro v4 w4 hz g4 ho
    try rw [List.nil_append] at hz
    obtain ⟨B4, n4⟩ := pushZ_new g4 ho (by first | omega | (simp; omega) | (simp; done))
    have HQ := HF.out v4 w4 hz.rs B4
    have HQQ : Hid (P (.returned v4) w4) := HQ
    clear hz g4 ho B4 n4 HQ HE HO HF
    go_wp2
    first | exact HQQ.out | (go_ret; exact HQQ.out)
def EdgesQ (w : World) (E : Ed) (e : Ending) (W : World) : Prop := ∃ v, e = .returned v ∧ RS kE W v E ∧ Below w.heap.size w W
set_option maxRecDepth 100000 in
set_option maxHeartbeats 4000000 in
theorem edges_any {w : World} {gb room : Nat} {ev : Value} {E : Ed} (h : GV w gb room ev E) : Calls Try.prog 36 #[.pointer (some ⟨gb, 0, none⟩)] w (EdgesQ w E) := by
  have HCL : Hid (Calls Try.prog 80 #[ev] w (fun e w' => ∃ v', e = .returned v' ∧ RS kE w' v' E ∧ Below w.heap.size w w')) := clone80_any h.rz (by have := h.l512; omega)
  have c1 := h.cell.2
  have HF : Hid (∀ v W, RS kE W v E → Below w.heap.size w W → EdgesQ w E (.returned v) W) := fun v W h1 h2 => ⟨v, rfl, h1, h2⟩
  obtain ⟨a, c, e⟩ := h.rz.sl
  subst e
  clear h
  generalize EdgesQ w E = P at *
  go_enter Try.func36, Try.ntmps36
  go_wp2_with fail
  refine HCL.out.mono ?_
  rintro e w3 ⟨v3, rfl, r3, b3⟩
  have HR : Hid (P (.returned v3) w3) := HF.out v3 w3 r3 b3
  clear r3 b3
  go_wp2
  first | exact HR.out | (go_ret; exact HR.out)
set_option maxRecDepth 100000 in
set_option maxHeartbeats 4000000 in
theorem has39_any {w : World} {v : Value} {F : List Int} (h : RS kZ w v F) (hl : F.length ≤ 1000) (z : Int) : Calls Try.prog 39 #[v, .int .i64 z] w (SameW w (.bool (decide (z ∈ F)))) := by
  obtain ⟨a, c, e⟩ := h.form
  obtain ⟨n, hn⟩ : ∃ n, F.length = n := ⟨_, rfl⟩
  have HN : Hid (F.length = n) := hn
  rw [hn] at e hl
  subst e
  have HR : Hid (RS kZ w (.slice a n c) F) := h
  have HT : Hid (∀ q (hq : q < F.length), F[q] = z → SameW w (.bool (decide (z ∈ F))) (.returned (.bool true)) w) := fun q hq e => ⟨by rw [decide_eq_true (by rw [← e]; exact List.getElem_mem _)], rfl⟩
  have HF : Hid ((∀ q (hq : q < F.length), F[q] ≠ z) → SameW w (.bool (decide (z ∈ F))) (.returned (.bool false)) w) := fun e => ⟨by
    rw [decide_eq_false]
    intro hm
    obtain ⟨i, hi, hx⟩ := List.getElem_of_mem hm
    exact e i hi hx, rfl⟩
  clear h hn
  generalize SameW w (.bool (decide (z ∈ F))) = P at *
  go_enter Try.func39, Try.ntmps39
  go_wp2_with fail
  go_loopw [5] (fun iv wr => wr = w ∧ ∃ q : Nat, iv = .int .i64 (q : Int) ∧ q ≤ n ∧ Hid (∀ i (hi : i < F.length), i < q → F[i] ≠ z)) (fun iv _ => n - (intOf iv).toNat)
  case atStart => exact ⟨rfl, 0, rfl, Nat.zero_le _, fun i hi h0 => absurd h0 (by omega)⟩
  case round =>
    obtain ⟨rfl, q, rfl, hq, HI⟩ := hrel
    by_cases hlt : q < n
    · have d1 : decide (q < n) = true := decide_eq_true hlt
      have hq' : q < F.length := by rw [HN.out]; exact hlt
      obtain ⟨b, bo, n', c', hg, hcl⟩ := HR.out.cell hq'
      simp only [Value.slice.injEq] at hg
      obtain ⟨rfl, rfl, rfl⟩ := hg
      obtain ⟨z0, hz⟩ : ∃ x, F[q]'hq' = x := ⟨_, rfl⟩
      rw [hz] at hcl
      have y0 := uno_cell rfl rfl hcl
      have i1 : (0 : Int) ≤ (q : Int) := by omega
      have i2 : (q : Int) < (n : Int) := by omega
      by_cases h0 : z0 = z
      · have t0 : (z0 == z) = true := by simp [h0]
        have HQ : Hid (P (.returned (.bool true)) wr) := HT.out q hq' (by rw [hz, h0])
        clear h0 hz hcl HI hq'
        go_wp2
        first | exact HQ.out | (go_ret; exact HQ.out)
      · have t0 : (z0 == z) = false := by simp [h0]
        have HI2 : Hid (∀ i (hi : i < F.length), i < q + 1 → F[i] ≠ z) := fun i hi k => by
          rcases Nat.lt_or_ge i q with k2 | k2
          · exact HI.out i hi k2
          · have : i = q := by omega
            subst this
            rw [hz]; exact h0
        clear h0 hz hcl HI hq'
        go_wp2_with fail
        go_roundw
        case rel => exact ⟨trivial, q + 1, by go_num, by omega, HI2⟩
        case measure => simp [intOf]; omega
    · have d1 : decide (q < n) = false := decide_eq_false hlt
      have HQ : Hid (P (.returned (.bool false)) wr) := HF.out (fun i hi => HI.out i hi (by have := HN.out; omega))
      clear HI
      go_wp2
      first | exact HQ.out | (go_ret; exact HQ.out)
end Go.Proofs.Ytongeppdaeekeaa
