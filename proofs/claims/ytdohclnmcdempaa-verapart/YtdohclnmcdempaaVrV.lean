/- A store of the call's own; the chapter's example. -/
import Derived.Test.YtdohclnmcdempaaVrU
namespace Go.Proofs.Ytdohclnmcdempaa
open Go.RowKit Go.Maps
set_option linter.unusedVariables false

def kindI (n : Int) : Int := Int.tmod (Int.tmod n 7 + 7) 7
theorem kindI_bd (n : Int) : 0 ≤ kindI n ∧ kindI n ≤ 6 := by
  unfold kindI
  have h1 := Int.lt_tmod_of_pos n (show (0 : Int) < 7 by omega)
  have h2 := Int.tmod_lt_of_pos n (show (0 : Int) < 7 by omega)
  have h3 := Int.tmod_lt_of_pos (Int.tmod n 7 + 7) (show (0 : Int) < 7 by omega)
  have h4 := Int.tmod_nonneg 7 (show (0 : Int) ≤ Int.tmod n 7 + 7 by omega)
  omega
set_option maxRecDepth 100000 in
set_option maxHeartbeats 2000000 in
theorem kind_any (n : Int) (w : World) : Calls Try.prog 25 #[.int .i64 n] w (Same w (.int .i64 (kindI n))) := by
  obtain ⟨a, ha⟩ : ∃ a, Int.tmod n 7 = a := ⟨_, rfl⟩
  have h1 := Int.lt_tmod_of_pos n (show (0 : Int) < 7 by omega)
  have h2 := Int.tmod_lt_of_pos n (show (0 : Int) < 7 by omega)
  obtain ⟨b, hb⟩ : ∃ b, Int.tmod (a + 7) 7 = b := ⟨_, rfl⟩
  have HF : Hid (Same w (.int .i64 (kindI n)) (.returned (.int .i64 b)) w) := ⟨by unfold kindI; rw [ha, hb], rfl⟩
  rw [ha] at h1 h2
  have hw : wrap64 (a + 7) = a + 7 := w64in _ ⟨by omega, by omega⟩
  have hw2 : IntKind.i64.wrap (a + 7) = a + 7 := i64_wrap _ ⟨by omega, by omega⟩
  generalize Same w (.int .i64 (kindI n)) = P at *
  go_enter Try.func25, Try.ntmps25
  go_wp2
  first | exact HF.out | (go_ret; exact HF.out)
/-- a store of the call's own, beside which nothing that was is written -/
def SA (w0 : World) (sb R W n : Nat) (K : Nat → Ch2) (w : World) : Prop := ∃ lab, SS w lab sb R W n K ∧ (∀ k, k < w0.heap.size → lab k = 0) ∧ Below w0.heap.size w0 w
theorem SA.bel {w0 : World} {sb R W n : Nat} {K : Nat → Ch2} {w : World} (h : SA w0 sb R W n K w) : Below w0.heap.size w0 w := by obtain ⟨_, _, _, b⟩ := h; exact b
theorem SA.same {w0 : World} {sb R W n : Nat} {K : Nat → Ch2} {w w' : World} (h : SA w0 sb R W n K w) (c : Below w.heap.size w w') : SA w0 sb R W n K w' := by
  obtain ⟨lab, s, l, b⟩ := h
  exact ⟨lab, s.below c, l, b.trans (c.mono b.size)⟩
theorem SA.next {w0 : World} {sb R W : Nat} {K' : Nat → Ch2} {w w' : World} {lab lab' : Nat → Nat} {n' : Nat} (l : ∀ k, k < w0.heap.size → lab k = 0) (b : Below w0.heap.size w0 w) (s : SS w' lab' sb R W n' K') (q : LabQ lab lab' w w') : SA w0 sb R W n' K' w' :=
  ⟨lab', s, fun k hk => (q.1 k (Nat.lt_of_lt_of_le hk b.size)).trans (l k hk), b.trans ⟨q.2.os, q.2.tape, q.2.output, q.2.size, fun k hk => q.2.block k (Nat.lt_of_lt_of_le hk b.size) (fun h => h (l k hk))⟩⟩
section
variable {w0 : World} {sb R W n : Nat} {K : Nat → Ch2} {w : World}
theorem SA.put (h : SA w0 sb R W n K w) (z a v : Int) (ha : a ≤ 9223372036854775807) (hn : n < 1000000) : Calls Try.prog 26 #[.pointer (some ⟨sb, 0, none⟩), .int .i64 z, .int .i64 a, .int .i64 v] w fun e w' => e = .returned (.int .i64 (putE R W K z a)) ∧ SA w0 sb R W (n + 1) (putF R W K z a v) w' := by
  obtain ⟨lab, s, l, b⟩ := h
  refine (s.put z a v ha hn).mono ?_
  rintro e w' ⟨rfl, lab', s', q⟩
  exact ⟨rfl, SA.next l b s' q⟩
theorem SA.drop (h : SA w0 sb R W n K w) (z a : Int) (ha : -9223372036854775808 ≤ a ∧ a ≤ 9223372036854775807) (hn : n < 1000000) : Calls Try.prog 27 #[.pointer (some ⟨sb, 0, none⟩), .int .i64 z, .int .i64 a] w fun e w' => e = .returned (.bool (hasK (K (wi W z)) a)) ∧ SA w0 sb R W (n + 1) (dropF W K z a) w' := by
  obtain ⟨lab, s, l, b⟩ := h
  refine (s.drop z a ha hn).mono ?_
  rintro e w' ⟨rfl, lab', s', q⟩
  exact ⟨rfl, SA.next l b s' q⟩
theorem SA.dropAll (h : SA w0 sb R W n K w) (a : Int) (ha : -9223372036854775808 ≤ a ∧ a ≤ 9223372036854775807) (hn : n < 900000) : Calls Try.prog 28 #[.pointer (some ⟨sb, 0, none⟩), .int .i64 a] w fun e w' => e = .returned (.int .i64 (manyK W K a : Int)) ∧ SA w0 sb R W (n + 64) (allF K a) w' := by
  obtain ⟨lab, s, l, b⟩ := h
  refine (s.dropAll a ha hn).mono ?_
  rintro e w' ⟨rfl, lab', s', q⟩
  exact ⟨rfl, SA.next l b s' q⟩
theorem SA.older (h : SA w0 sb R W n K w) (z a : Int) : Calls Try.prog 29 #[.pointer (some ⟨sb, 0, none⟩), .int .i64 z, .int .i64 a] w fun e w' => e = .returned (.tuple #[.agg #[.int .i64 ((oldK (K (wi W z)) a).getD (0, 0)).1, .int .i64 ((oldK (K (wi W z)) a).getD (0, 0)).2], .bool (oldK (K (wi W z)) a).isSome]) ∧ SA w0 sb R W n K w' := by
  have h0 := h
  obtain ⟨lab, s, l, b⟩ := h
  refine (s.older z a).mono ?_
  rintro e w' ⟨rfl, q⟩
  exact ⟨rfl, h0.same q⟩
theorem SA.live (h : SA w0 sb R W n K w) : Calls Try.prog 30 #[.pointer (some ⟨sb, 0, none⟩)] w fun e w' => e = .returned (.int .i64 (totK W K : Int)) ∧ SA w0 sb R W n K w' := by
  have h0 := h
  obtain ⟨lab, s, l, b⟩ := h
  refine s.live.mono ?_
  rintro e w' ⟨rfl, k, rfl⟩
  exact ⟨rfl, h0.same (Below.dN (Below.refl _ _) k)⟩
theorem SA.free (h : SA w0 sb R W n K w) : Calls Try.prog 38 #[.pointer (some ⟨sb, 0, none⟩)] w fun e w' => e = .returned (.int .i64 ((R : Int) - (totK W K : Int))) ∧ SA w0 sb R W n K w' := by
  have h0 := h
  obtain ⟨lab, s, l, b⟩ := h
  refine s.free.mono ?_
  rintro e w' ⟨rfl, k, rfl⟩
  exact ⟨rfl, h0.same (Below.dN (Below.refl _ _) k)⟩
theorem SA.new (W R : Nat) (w : World) (h : newE (W : Int) (R : Int) = 0) : Calls Try.prog 20 #[.int .i64 (W : Int), .int .i64 (R : Int)] w fun e w' => ∃ sb, e = .returned (.tuple #[.pointer (some ⟨sb, 0, none⟩), .int .i64 0]) ∧ SA w sb R W 0 noK w' := by
  refine (snew_any (W : Int) (R : Int) w).mono ?_
  rintro e w' ⟨b, h1⟩
  rw [if_pos h] at h1
  obtain ⟨sb, lab, rfl, s, l⟩ := h1
  exact ⟨sb, rfl, lab, by simpa using s, l, b⟩
end
theorem und62 : Try.prog.underlying 62 = some (.struct (Try.prog.fieldsOf 62)) := by kernel_rfl
theorem stood62 : Try.prog.stoodInHeld 62 = false := by kernel_rfl
set_option maxRecDepth 100000 in
theorem eql62 (a b c d : Int) (w : World) : (binOp .eql 62 (.agg #[.int .i64 a, .int .i64 b]) (.agg #[.int .i64 c, .int .i64 d])).run Try.prog w = .ok (.bool (a == c && b == d)) w := by
  rw [run_eql_struct, run_equalIn_agg w 9999 62 _ _ und62 stood62]
  simp only [Program.fieldsOf, Try.underlying62]
  simp [go_sem]
  by_cases h1 : a = c <;> by_cases h2 : b = d <;> simp [h1, h2]
theorem eqg62 (a b c d : Int) (x y : Operand) (w : World) : (eqGuard .eql 62 x y (.agg #[.int .i64 a, .int .i64 b]) (.agg #[.int .i64 c, .int .i64 d])).run Try.prog w = .ok () w := by
  simp [eqGuard]
def exK : Nat → Ch2 := putF 3 2 (putF 3 2 (putF 3 2 noK 0 5 50) 0 2 20) 1 5 7
set_option maxRecDepth 100000 in
set_option maxHeartbeats 4000000 in
theorem valive_any (w : World) : Calls Try.prog 24 #[] w fun e w' => e = .returned (.bool true) ∧ Below w.heap.size w w' := by
  have E1 : Hid (putE 3 2 noK 0 5 = 0) := by show _ = _; decide +kernel
  have E2 : Hid (putE 3 2 (putF 3 2 noK 0 5 50) 0 2 = 0) := by show _ = _; decide +kernel
  have E3 : Hid (putE 3 2 (putF 3 2 (putF 3 2 noK 0 5 50) 0 2 20) 1 5 = 0) := by show _ = _; decide +kernel
  have E4 : Hid (putE 3 2 exK 1 6 = 200) := by show _ = _; decide +kernel
  have E5 : Hid (putF 3 2 exK 1 6 8 = exK) := by show _ = _; unfold putF; rw [if_neg (by rw [E4.out]; decide)]
  have E6 : Hid (oldK (exK (wi 2 0)) 5 = some (2, 20)) := by show _ = _; decide +kernel
  have E7 : Hid (totK 2 exK = 3) := by show _ = _; decide +kernel
  have E8 : Hid (manyK 2 exK 5 = 2) := by show _ = _; decide +kernel
  have E9 : Hid (totK 2 (allF exK 5) = 1) := by show _ = _; decide +kernel
  have HN : Hid (Calls Try.prog 20 #[.int .i64 2, .int .i64 3] w fun e w' => ∃ sb, e = .returned (.tuple #[.pointer (some ⟨sb, 0, none⟩), .int .i64 0]) ∧ SA w sb 3 2 0 noK w') := SA.new 2 3 w (by decide)
  go_enter Try.func24, Try.ntmps24
  go_wp2_with fail
  refine HN.out.mono ?_
  rintro e w1 ⟨sb, rfl, s1⟩
  have S1 : Hid (SA w sb 3 2 0 noK w1) := s1
  clear s1 HN
  go_wp2_with fail
  refine (S1.out.put 0 5 50 (by omega) (by omega)).mono ?_
  rintro e w2 ⟨rfl, s2⟩
  rw [E1.out]
  have S2 : Hid (SA w sb 3 2 1 (putF 3 2 noK 0 5 50) w2) := s2
  clear s2
  go_wp2_with fail
  refine (S2.out.put 0 2 20 (by omega) (by omega)).mono ?_
  rintro e w3 ⟨rfl, s3⟩
  rw [E2.out]
  have S3 : Hid (SA w sb 3 2 2 (putF 3 2 (putF 3 2 noK 0 5 50) 0 2 20) w3) := s3
  clear s3
  go_wp2_with fail
  refine (S3.out.put 1 5 7 (by omega) (by omega)).mono ?_
  rintro e w4 ⟨rfl, s4⟩
  rw [E3.out]
  have S4 : Hid (SA w sb 3 2 3 exK w4) := s4
  clear s4
  go_wp2_with fail
  refine (S4.out.put 1 6 8 (by omega) (by omega)).mono ?_
  rintro e w5 ⟨rfl, s5⟩
  rw [E5.out] at s5
  rw [E4.out]
  have S5 : Hid (SA w sb 3 2 4 exK w5) := s5
  clear s5
  go_wp2_with fail
  refine (S5.out.older 0 5).mono ?_
  rintro e w6 ⟨rfl, s6⟩
  have S6 : Hid (∀ A, SA w sb 3 2 4 exK (w6.alloc A)) := fun A => s6.same (bl1 _ _)
  clear s6
  have E6a : ((oldK (exK (wi 2 0)) 5).getD (0, 0)).1 = 2 := by rw [E6.out]; rfl
  have E6b : ((oldK (exK (wi 2 0)) 5).getD (0, 0)).2 = 20 := by rw [E6.out]; rfl
  have E6c : (oldK (exK (wi 2 0)) 5).isSome = true := by rw [E6.out]; rfl
  rw [E6a, E6b, E6c]
  clear E6a E6b E6c
  have q1 := eql62 2 20 2 20
  have q2 := eqg62 2 20 2 20
  go_wp2_with fail
  refine ((S6.out _).live).mono ?_
  rintro e w7 ⟨rfl, s7⟩
  rw [E7.out]
  have S7 : Hid (SA w sb 3 2 4 exK w7) := s7
  clear s7 q1 q2
  go_wp2_with fail
  refine (S7.out.dropAll 5 (by omega) (by omega)).mono ?_
  rintro e w8 ⟨rfl, s8⟩
  rw [E8.out]
  have S8 : Hid (SA w sb 3 2 68 (allF exK 5) w8) := s8
  clear s8
  go_wp2_with fail
  refine (S8.out.free).mono ?_
  rintro e w9 ⟨rfl, s9⟩
  rw [E9.out]
  have B9 : Hid (Below w.heap.size w w9) := s9.bel
  clear s9
  go_wp2
  first | exact ⟨rfl, B9.out⟩ | (go_ret; exact ⟨rfl, B9.out⟩)
end Go.Proofs.Ytdohclnmcdempaa
