/- The kind of a call; how many reads, writes, outputs; their rows told. -/
import Derived.Test.YtongeppdaeekeaaDfG
import Derived.Test.YtongeppdaeekeaaAtI
namespace Go.Proofs.Ytongeppdaeekeaa
open Go.RowKit Go.Maps
set_option linter.unusedVariables false

def kindI (n : Int) : Int := Int.tmod (Int.tmod n 8 + 8) 8
theorem kindI_bd (n : Int) : 0 ≤ kindI n ∧ kindI n ≤ 7 := by
  unfold kindI
  have h1 := Int.lt_tmod_of_pos n (show (0 : Int) < 8 by omega)
  have h2 := Int.tmod_lt_of_pos n (show (0 : Int) < 8 by omega)
  have h3 := Int.tmod_lt_of_pos (Int.tmod n 8 + 8) (show (0 : Int) < 8 by omega)
  have h4 := Int.tmod_nonneg 8 (show (0 : Int) ≤ Int.tmod n 8 + 8 by omega)
  omega
set_option maxRecDepth 100000 in
set_option maxHeartbeats 2000000 in
theorem kind_any (n : Int) (w : World) : Calls Try.prog 45 #[.int .i64 n] w (fun e w' => e = .returned (.int .i64 (kindI n)) ∧ w' = w) := by
  obtain ⟨a, ha⟩ : ∃ a, Int.tmod n 8 = a := ⟨_, rfl⟩
  have h1 := Int.lt_tmod_of_pos n (show (0 : Int) < 8 by omega)
  have h2 := Int.tmod_lt_of_pos n (show (0 : Int) < 8 by omega)
  obtain ⟨b, hb⟩ : ∃ b, Int.tmod (a + 8) 8 = b := ⟨_, rfl⟩
  have HF : Hid ((fun (e : Ending) w' => e = .returned (.int .i64 (kindI n)) ∧ w' = w) (.returned (.int .i64 b)) w) := ⟨by unfold kindI; rw [ha, hb], rfl⟩
  rw [ha] at h1 h2
  have hw : wrap64 (a + 8) = a + 8 := w64in _ ⟨by omega, by omega⟩
  have hw2 : IntKind.i64.wrap (a + 8) = a + 8 := by simp [IntKind.wrap, IntKind.bits, IntKind.signed]; omega
  generalize (fun (e : Ending) w' => e = .returned (.int .i64 (kindI n)) ∧ w' = w) = P at *
  go_enter Try.func45, Try.ntmps45
  go_wp2
  first | exact HF.out | (go_ret; exact HF.out)
set_option maxRecDepth 100000 in
set_option maxHeartbeats 4000000 in
theorem clone63_any {w : World} {v : Value} {l : List (Int × Int)} (h : RZ kC w v l) (hl : l.length ≤ 1000) : Calls Try.prog 63 #[v] w (fun e w' => ∃ v', e = .returned v' ∧ RS kC w' v' l ∧ Below w.heap.size w w') := by
  have HR : Hid (RS kC w v l) := h.rs
  have qN : ∀ (w : World) (a : Option Addr) (n c n' c' : Nat), (binOp .eql 32 (.slice a n c) (.slice none n' c')).run Try.prog w = .ok (.bool a.isNone) w := fun w a n c n' c' => Lib.run_eql_slice_nil w 32 120 a n c n' c' Try.underlying32
  have hc := h.2
  rcases hc with ⟨rfl, h0⟩ | ⟨g, cap, cur, rfl, _⟩
  · have hl0 : l = [] := List.length_eq_zero_iff.1 h0
    subst hl0
    have HF : Hid ((fun (e : Ending) w' => ∃ v', e = .returned v' ∧ RS kC w' v' [] ∧ Below w.heap.size w w') (.returned (.slice none 0 0)) w) := ⟨_, rfl, RS.nil _ _, Below.refl _ _⟩
    generalize (fun (e : Ending) w' => ∃ v', e = .returned v' ∧ RS kC w' v' [] ∧ Below w.heap.size w w') = P at *
    clear h h0
    go_enter Try.func63, Try.ntmps63
    go_wp2
    first | exact HF.out | (go_ret; exact HF.out)
  · have HF : Hid (∀ v' w', RS kC w' v' l → Below w.heap.size w w' → (fun (e : Ending) w' => ∃ v', e = .returned v' ∧ RS kC w' v' l ∧ Below w.heap.size w w') (.returned v') w') := fun v' w' h1 h2 => ⟨_, rfl, h1, h2⟩
    have HE : Hid (RZ kC (w.alloc (.cells #[] 120)) (.slice (some ⟨w.heap.size, 0, none⟩) 0 0) []) := RZ.empty kC w
    have HO : Hid (RS kC (w.alloc (.cells #[] 120)) (.slice (some ⟨g, 0, none⟩) l.length cap) l) := HR.out.below (bl1 w _)
    have HL : Hid (([] : List (Int × Int)).length + l.length ≤ 100000) := by show _ ≤ _; simp; omega
    generalize (fun (e : Ending) w' => ∃ v', e = .returned v' ∧ RS kC w' v' l ∧ Below w.heap.size w w') = P at *
    clear h
    go_enter Try.func63, Try.ntmps63
    go_wp2_with (at_builtin; refine push_row kC _ rfl _ _ rfl _ _ [] l rfl rfl HE.out HO.out HL.out ?_)
    intro v4 w4 hz g4 ho
    try rw [List.nil_append] at hz
    obtain ⟨B4, n4⟩ := push_new g4 ho (by first | omega | (simp; omega) | (simp; done))
    have HQ := HF.out v4 w4 hz.rs B4
    have HQQ : Hid (P (.returned v4) w4) := HQ
    clear hz g4 ho B4 n4 HQ HE HO HF
    go_wp2
    first | exact HQQ.out | (go_ret; exact HQQ.out)
set_option maxRecDepth 100000 in
set_option maxHeartbeats 4000000 in
theorem clone64_any {w : World} {v : Value} {l : List Int} (h : RZ kN w v l) (hl : l.length ≤ 1000) : Calls Try.prog 64 #[v] w (fun e w' => ∃ v', e = .returned v' ∧ RS kN w' v' l ∧ Below w.heap.size w w') := by
  have HR : Hid (RS kN w v l) := h.rs
  have qN : ∀ (w : World) (a : Option Addr) (n c n' c' : Nat), (binOp .eql 26 (.slice a n c) (.slice none n' c')).run Try.prog w = .ok (.bool a.isNone) w := fun w a n c n' c' => Lib.run_eql_slice_nil w 26 2 a n c n' c' Try.underlying26
  have hc := h.2
  rcases hc with ⟨rfl, h0⟩ | ⟨g, cap, cur, rfl, _⟩
  · have hl0 : l = [] := List.length_eq_zero_iff.1 h0
    subst hl0
    have HF : Hid ((fun (e : Ending) w' => ∃ v', e = .returned v' ∧ RS kN w' v' [] ∧ Below w.heap.size w w') (.returned (.slice none 0 0)) w) := ⟨_, rfl, RS.nil _ _, Below.refl _ _⟩
    generalize (fun (e : Ending) w' => ∃ v', e = .returned v' ∧ RS kN w' v' [] ∧ Below w.heap.size w w') = P at *
    clear h h0
    go_enter Try.func64, Try.ntmps64
    go_wp2
    first | exact HF.out | (go_ret; exact HF.out)
  · have HF : Hid (∀ v' w', RS kN w' v' l → Below w.heap.size w w' → (fun (e : Ending) w' => ∃ v', e = .returned v' ∧ RS kN w' v' l ∧ Below w.heap.size w w') (.returned v') w') := fun v' w' h1 h2 => ⟨_, rfl, h1, h2⟩
    have HE : Hid (RZ kN (w.alloc (.cells #[] 2)) (.slice (some ⟨w.heap.size, 0, none⟩) 0 0) []) := RZ.empty kN w
    have HO : Hid (RS kN (w.alloc (.cells #[] 2)) (.slice (some ⟨g, 0, none⟩) l.length cap) l) := HR.out.below (bl1 w _)
    have HL : Hid (([] : List Int).length + l.length ≤ 100000) := by show _ ≤ _; simp; omega
    generalize (fun (e : Ending) w' => ∃ v', e = .returned v' ∧ RS kN w' v' l ∧ Below w.heap.size w w') = P at *
    clear h
    go_enter Try.func64, Try.ntmps64
    go_wp2_with (at_builtin; refine push_row kN _ rfl _ _ rfl _ _ [] l rfl rfl HE.out HO.out HL.out ?_)
    intro v4 w4 hz g4 ho
    try rw [List.nil_append] at hz
    obtain ⟨B4, n4⟩ := push_new g4 ho (by first | omega | (simp; omega) | (simp; done))
    have HQ := HF.out v4 w4 hz.rs B4
    have HQQ : Hid (P (.returned v4) w4) := HQ
    clear hz g4 ho B4 n4 HQ HE HO HF
    go_wp2
    first | exact HQQ.out | (go_ret; exact HQQ.out)
set_option maxRecDepth 100000 in
set_option maxHeartbeats 4000000 in
theorem clone65_any {w : World} {v : Value} {l : List (Int × Int × Int)} (h : RZ kR w v l) (hl : l.length ≤ 1000) : Calls Try.prog 65 #[v] w (fun e w' => ∃ v', e = .returned v' ∧ RS kR w' v' l ∧ Below w.heap.size w w') := by
  have HR : Hid (RS kR w v l) := h.rs
  have qN : ∀ (w : World) (a : Option Addr) (n c n' c' : Nat), (binOp .eql 54 (.slice a n c) (.slice none n' c')).run Try.prog w = .ok (.bool a.isNone) w := fun w a n c n' c' => Lib.run_eql_slice_nil w 54 57 a n c n' c' Try.underlying54
  have hc := h.2
  rcases hc with ⟨rfl, h0⟩ | ⟨g, cap, cur, rfl, _⟩
  · have hl0 : l = [] := List.length_eq_zero_iff.1 h0
    subst hl0
    have HF : Hid ((fun (e : Ending) w' => ∃ v', e = .returned v' ∧ RS kR w' v' [] ∧ Below w.heap.size w w') (.returned (.slice none 0 0)) w) := ⟨_, rfl, RS.nil _ _, Below.refl _ _⟩
    generalize (fun (e : Ending) w' => ∃ v', e = .returned v' ∧ RS kR w' v' [] ∧ Below w.heap.size w w') = P at *
    clear h h0
    go_enter Try.func65, Try.ntmps65
    go_wp2
    first | exact HF.out | (go_ret; exact HF.out)
  · have HF : Hid (∀ v' w', RS kR w' v' l → Below w.heap.size w w' → (fun (e : Ending) w' => ∃ v', e = .returned v' ∧ RS kR w' v' l ∧ Below w.heap.size w w') (.returned v') w') := fun v' w' h1 h2 => ⟨_, rfl, h1, h2⟩
    have HE : Hid (RZ kR (w.alloc (.cells #[] 57)) (.slice (some ⟨w.heap.size, 0, none⟩) 0 0) []) := RZ.empty kR w
    have HO : Hid (RS kR (w.alloc (.cells #[] 57)) (.slice (some ⟨g, 0, none⟩) l.length cap) l) := HR.out.below (bl1 w _)
    have HL : Hid (([] : List (Int × Int × Int)).length + l.length ≤ 100000) := by show _ ≤ _; simp; omega
    generalize (fun (e : Ending) w' => ∃ v', e = .returned v' ∧ RS kR w' v' l ∧ Below w.heap.size w w') = P at *
    clear h
    go_enter Try.func65, Try.ntmps65
    go_wp2_with (at_builtin; refine push_row kR _ rfl _ _ rfl _ _ [] l rfl rfl HE.out HO.out HL.out ?_)
    intro v4 w4 hz g4 ho
    try rw [List.nil_append] at hz
    obtain ⟨B4, n4⟩ := push_new g4 ho (by first | omega | (simp; omega) | (simp; done))
    have HQ := HF.out v4 w4 hz.rs B4
    have HQQ : Hid (P (.returned v4) w4) := HQ
    clear hz g4 ho B4 n4 HQ HE HO HF
    go_wp2
    first | exact HQQ.out | (go_ret; exact HQQ.out)
section
variable {w w' V w4 : World} {lab lab' : Nat → Nat} {c lb hb bo bn : Nat} {rv wv ov : Value} {many : Int} {s : Lg}
set_option maxRecDepth 100000 in
set_option maxHeartbeats 4000000 in
theorem reads_any (h : LV w lab c lb s) : Calls Try.prog 20 #[.pointer (some ⟨lb, 0, none⟩)] w (fun e w' => ∃ v', e = .returned v' ∧ RS kR w' v' s.Rs ∧ Below w.heap.size w w') := by
  obtain ⟨hb, bo, bn, rv, wv, ov, many, h⟩ := h
  have hl := h.lens
  have HC : Hid (Calls Try.prog 65 #[rv] w (fun e w' => ∃ v', e = .returned v' ∧ RS kR w' v' s.Rs ∧ Below w.heap.size w w')) := clone65_any h.rr (by omega)
  have c3 := h.cell.2.2.2.1
  have HPP : ∀ e w', (fun (e : Ending) w' => ∃ v', e = .returned v' ∧ RS kR w' v' s.Rs ∧ Below w.heap.size w w') e w' → ∃ v', e = .returned v' := fun e w' ⟨v', q, _⟩ => ⟨v', q⟩
  generalize (fun (e : Ending) w' => ∃ v', e = .returned v' ∧ RS kR w' v' s.Rs ∧ Below w.heap.size w w') = P at *
  have HP : Hid (∀ e w', P e w' → ∃ v', e = .returned v') := HPP
  clear HPP
  obtain ⟨a, k, e⟩ := h.rr.sl
  subst e
  clear h hl
  go_enter Try.func20, Try.ntmps20
  go_wp2_with fail
  refine HC.out.mono ?_
  rintro e w2 hq
  obtain ⟨v', rfl⟩ := HP.out _ _ hq
  have HQ : Hid (P (.returned v') w2) := hq
  go_wp2
  first | exact HQ.out | (go_ret; exact HQ.out)
set_option maxRecDepth 100000 in
set_option maxHeartbeats 4000000 in
theorem writes_any (h : LV w lab c lb s) : Calls Try.prog 17 #[.pointer (some ⟨lb, 0, none⟩)] w (fun e w' => ∃ v', e = .returned v' ∧ RS kC w' v' s.Ws ∧ Below w.heap.size w w') := by
  obtain ⟨hb, bo, bn, rv, wv, ov, many, h⟩ := h
  have hl := h.lens
  have HC : Hid (Calls Try.prog 63 #[wv] w (fun e w' => ∃ v', e = .returned v' ∧ RS kC w' v' s.Ws ∧ Below w.heap.size w w')) := clone63_any h.ww (by omega)
  have c3 := h.cell.2.2.2.2.1
  have HPP : ∀ e w', (fun (e : Ending) w' => ∃ v', e = .returned v' ∧ RS kC w' v' s.Ws ∧ Below w.heap.size w w') e w' → ∃ v', e = .returned v' := fun e w' ⟨v', q, _⟩ => ⟨v', q⟩
  generalize (fun (e : Ending) w' => ∃ v', e = .returned v' ∧ RS kC w' v' s.Ws ∧ Below w.heap.size w w') = P at *
  have HP : Hid (∀ e w', P e w' → ∃ v', e = .returned v') := HPP
  clear HPP
  obtain ⟨a, k, e⟩ := h.ww.sl
  subst e
  clear h hl
  go_enter Try.func17, Try.ntmps17
  go_wp2_with fail
  refine HC.out.mono ?_
  rintro e w2 hq
  obtain ⟨v', rfl⟩ := HP.out _ _ hq
  have HQ : Hid (P (.returned v') w2) := hq
  go_wp2
  first | exact HQ.out | (go_ret; exact HQ.out)
set_option maxRecDepth 100000 in
set_option maxHeartbeats 4000000 in
theorem outs_any (h : LV w lab c lb s) : Calls Try.prog 19 #[.pointer (some ⟨lb, 0, none⟩)] w (fun e w' => ∃ v', e = .returned v' ∧ RS kN w' v' s.Os ∧ Below w.heap.size w w') := by
  obtain ⟨hb, bo, bn, rv, wv, ov, many, h⟩ := h
  have hl := h.lens
  have HC : Hid (Calls Try.prog 64 #[ov] w (fun e w' => ∃ v', e = .returned v' ∧ RS kN w' v' s.Os ∧ Below w.heap.size w w')) := clone64_any h.oo (by omega)
  have c3 := h.cell.2.2.2.2.2.1
  have HPP : ∀ e w', (fun (e : Ending) w' => ∃ v', e = .returned v' ∧ RS kN w' v' s.Os ∧ Below w.heap.size w w') e w' → ∃ v', e = .returned v' := fun e w' ⟨v', q, _⟩ => ⟨v', q⟩
  generalize (fun (e : Ending) w' => ∃ v', e = .returned v' ∧ RS kN w' v' s.Os ∧ Below w.heap.size w w') = P at *
  have HP : Hid (∀ e w', P e w' → ∃ v', e = .returned v') := HPP
  clear HPP
  obtain ⟨a, k, e⟩ := h.oo.sl
  subst e
  clear h hl
  go_enter Try.func19, Try.ntmps19
  go_wp2_with fail
  refine HC.out.mono ?_
  rintro e w2 hq
  obtain ⟨v', rfl⟩ := HP.out _ _ hq
  have HQ : Hid (P (.returned v') w2) := hq
  go_wp2
  first | exact HQ.out | (go_ret; exact HQ.out)
set_option maxRecDepth 100000 in
set_option maxHeartbeats 4000000 in
theorem lens_any (h : LV w lab c lb s) : Calls Try.prog 15 #[.pointer (some ⟨lb, 0, none⟩)] w (AN w (.tuple #[.int .i64 (s.Rs.length : Int), .int .i64 (s.Ws.length : Int), .int .i64 (s.Os.length : Int)])) := by
  obtain ⟨hb, bo, bn, rv, wv, ov, many, h⟩ := h
  have c3 := h.cell.2.2.2.1
  have c4 := h.cell.2.2.2.2.1
  have c5 := h.cell.2.2.2.2.2.1
  have HF : Hid (∀ k, AN w (.tuple #[.int .i64 (s.Rs.length : Int), .int .i64 (s.Ws.length : Int), .int .i64 (s.Os.length : Int)]) (.returned (.tuple #[.int .i64 (s.Rs.length : Int), .int .i64 (s.Ws.length : Int), .int .i64 (s.Os.length : Int)])) (w.drewN k)) := fun k => ⟨rfl, Below.dN (Below.refl _ _) k⟩
  obtain ⟨a1, k1, e1⟩ := h.rr.sl
  obtain ⟨a2, k2, e2⟩ := h.ww.sl
  obtain ⟨a3, k3, e3⟩ := h.oo.sl
  subst e1 e2 e3
  clear h
  generalize AN w _ = P at *
  go_enter Try.func15, Try.ntmps15
  go_wp2_with fail
  go_quiet (fail)
  go_wp2
  first | exact HF.out _ | (go_ret2; exact HF.out _) | (go_ret; exact HF.out _)
def roomB (s : Lg) (a : Int) : Bool := decide (s.Ws.length < s.W) || hasC s a
set_option maxRecDepth 100000 in
set_option maxHeartbeats 4000000 in
theorem room_any (h : LV w lab c lb s) (a : Int) : Calls Try.prog 50 #[.pointer (some ⟨lb, 0, none⟩), .int .i64 a] w (AN w (.bool (roomB s a))) := by
  obtain ⟨hb, bo, bn, rv, wv, ov, many, h⟩ := h
  have c1 := h.cell.2.1
  have c4 := h.cell.2.2.2.2.1
  have HF : Hid (∀ W, Below w.heap.size w W → AN w (.bool (roomB s a)) (.returned (.bool (roomB s a))) W) := fun W hW => ⟨rfl, hW⟩
  have HW : Hid (∀ W, Below w.heap.size w W → Calls Try.prog 86 #[.pointer (some ⟨lb, 0, none⟩), .int .i64 a] W (FndQ 2 wv s.Ws (isC a) W)) := fun W hW => written_any (h.below hW) a
  have hl := h.lens.2.1
  have HKK : Hid (∀ W, Below w.heap.size w W → W.cell? ⟨lb, 1, none⟩ = some (.int .i64 (s.W : Int)) ∧ W.cell? ⟨lb, 4, none⟩ = some wv) := fun W hW => ⟨(h.below hW).cell.2.1, (h.below hW).cell.2.2.2.2.1⟩
  obtain ⟨a2, k2, e2⟩ := h.ww.sl
  obtain ⟨n, hn⟩ : ∃ n, s.Ws.length = n := ⟨_, rfl⟩
  have HN : Hid (s.Ws.length = n) := hn
  rw [hn] at e2 hl
  subst e2
  clear h hn
  by_cases h0 : n < s.W
  · have e1 : decide (n < s.W) = true := by simp [h0]
    have HT : Hid (roomB s a = true) := by show _ = _; unfold roomB; rw [HN.out, e1]; rfl
    rw [HT.out] at HF ⊢
    generalize AN w _ = P at *
    go_enter Try.func50, Try.ntmps50
    go_wp2_with fail
    go_quiet (fail)
    go_wp2
    first | exact HF.out _ (Below.dN (Below.refl _ _) _) | (go_ret; exact HF.out _ (Below.dN (Below.refl _ _) _))
  · have e1 : decide (n < s.W) = false := by simp; omega
    have HT : Hid (roomB s a = hasC s a) := by show _ = _; unfold roomB; rw [HN.out, e1]; rfl
    rw [HT.out] at HF ⊢
    have HH : Hid (∀ W e W', FndQ 2 (.slice a2 n k2) s.Ws (isC a) W e W' → Below W.heap.size W W' ∧ ((hasC s a = false ∧ e = .returned (.pointer none)) ∨ (hasC s a = true ∧ ∃ q, e = .returned (.pointer (some q))))) := fun W e W' h => by
      obtain ⟨b, h⟩ := h
      refine ⟨b, ?_⟩
      rcases h with ⟨h1, rfl⟩ | ⟨g, c', _, h1, rfl⟩
      · exact .inl ⟨decide_eq_false (by omega), rfl⟩
      · exact .inr ⟨decide_eq_true h1, _, rfl⟩
    generalize FndQ 2 (.slice a2 n k2) s.Ws (isC a) = F at *
    have HKP : Hid (∀ W, Below w.heap.size w W → W.cell? ⟨lb, 1, none⟩ = some (.int .i64 (s.W : Int)) ∧ W.cell? ⟨lb, 4, none⟩ = some (.slice a2 n k2)) := HKK
    clear HKK
    cases hh : hasC s a with
    | true =>
      rw [hh] at HF HH
      generalize AN w _ = P at *
      clear hh HT
      go_enter Try.func50, Try.ntmps50
      go_wp2_with fail
      go_region_held3 (fun W => W.cell? ⟨lb, 1, none⟩ = some (.int .i64 (s.W : Int)) ∧ W.cell? ⟨lb, 4, none⟩ = some (.slice a2 n k2)) (first | exact HKP.out _ (Below.refl _ _).drew | exact HKP.out _ (Below.refl _ _) | exact HKP.out _ b2)
        (first | (go_at_call 86; refine (HW.out _ (by first | exact (Below.refl _ _).drew | exact Below.refl _ _)).mono ?_; rintro e w2 hq; obtain ⟨b3, (⟨q1, _⟩ | ⟨_, q, rfl⟩)⟩ := HH.out _ _ _ hq; (exact absurd q1 (by decide)); have b2 : Below w.heap.size w w2 := (by first | exact ((Below.refl _ _).drew).trans (b3.mono (Nat.le_refl _)) | exact b3)))
      go_wp2
      first | exact HF.out _ b2 | (go_ret; exact HF.out _ b2)
    | false =>
      rw [hh] at HF HH
      generalize AN w _ = P at *
      clear hh HT
      go_enter Try.func50, Try.ntmps50
      go_wp2_with fail
      go_region_held3 (fun W => W.cell? ⟨lb, 1, none⟩ = some (.int .i64 (s.W : Int)) ∧ W.cell? ⟨lb, 4, none⟩ = some (.slice a2 n k2)) (first | exact HKP.out _ (Below.refl _ _).drew | exact HKP.out _ (Below.refl _ _) | exact HKP.out _ b2)
        (first | (go_at_call 86; refine (HW.out _ (by first | exact (Below.refl _ _).drew | exact Below.refl _ _)).mono ?_; rintro e w2 hq; obtain ⟨b3, (⟨_, rfl⟩ | ⟨q1, _⟩)⟩ := HH.out _ _ _ hq; rotate_left; (exact absurd q1 (by decide)); have b2 : Below w.heap.size w w2 := (by first | exact ((Below.refl _ _).drew).trans (b3.mono (Nat.le_refl _)) | exact b3)))
      go_wp2
      first | exact HF.out _ b2 | (go_ret; exact HF.out _ b2)
end
end Go.Proofs.Ytongeppdaeekeaa
