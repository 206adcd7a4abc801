/- The document's step, whole. -/
import Derived.Test.YtkcncngcmhldpaaRSt3
import Derived.Test.YtkcncngcmhldpaaRSt4
namespace Go.Proofs.Ytkcncngcmhldpaa
open Go.RowKit Go.Maps
set_option linter.unusedVariables false

set_option maxRecDepth 100000 in
set_option maxHeartbeats 2000000 in
theorem rst_over (ad : Option Addr) (cl cp : Nat) (got words fuel : Int) (rv : Value) (s : St) (h0 : s.over ≠ 0) (w : World) (hrv : RRg w rv s) : Calls Try.prog 13 #[mV (.slice ad cl cp) rv words fuel s, .int .i64 got] w (RSetP rv ad cl cp words fuel s w) := by
  obtain ⟨rb, rc, rfl, h16, hrm, hcells⟩ := hrv
  have HCE : Hid (∀ r, r < 16 → w.cell? ⟨rb, r, none⟩ = some (.int .i64 (rg s r))) := hcells
  have HRM : Hid (rc ≤ maxLen) := hrm
  have HS : Hid (∃ t : St, t = s) := ⟨s, rfl⟩
  unfold mV mC
  have e1 : (s.over != 0) = true := by simp [h0]
  have e2 : (s.over == 0) = false := by simp [h0]
  clear hcells hrm
  go_enter Try.func13, Try.ntmps13
  go_wp2
  refine bodyPost_ret (ret_m1 Try.results13 _ (w.heap.size + 1) rfl _ _ rfl (two_new w _ _)) rfl ?_
  exact ⟨_, rfl, RRg.keep h16 HRM.out rfl HCE.out (((Below.refl _ _).alloc (Nat.le_refl _) _).alloc (by simp) _), ((Below.refl _ _).alloc (Nat.le_refl _) _).alloc (by simp) _, Or.inl rfl⟩

set_option maxRecDepth 100000 in
set_option maxHeartbeats 2000000 in
theorem rst_spent (ad : Option Addr) (cl cp : Nat) (got words fuel : Int) (rv : Value) (s : St) (h0 : s.over = 0) (hf : fuel ≤ s.steps) (w : World) (hrv : RRg w rv s) : Calls Try.prog 13 #[mV (.slice ad cl cp) rv words fuel s, .int .i64 got] w (RSetP rv ad cl cp words fuel (endS s 5 0) w) := by
  obtain ⟨rb, rc, rfl, h16, hrm, hcells⟩ := hrv
  have HCE : Hid (∀ r, r < 16 → w.cell? ⟨rb, r, none⟩ = some (.int .i64 (rg s r))) := hcells
  have HRM : Hid (rc ≤ maxLen) := hrm
  unfold mV mC endS
  obtain ⟨q, hq⟩ : ∃ q, s.steps = q := ⟨_, rfl⟩
  obtain ⟨p, hp⟩ : ∃ q, s.pc = q := ⟨_, rfl⟩
  obtain ⟨vl, hvl⟩ : ∃ v, s.value = v := ⟨_, rfl⟩
  rw [h0, hq, hp, hvl]
  rw [hq] at hf
  have hf2 : decide (fuel ≤ q) = true := by simp [hf]
  have HON : Hid (#[Value.slice ad cl cp, .int .i64 words, .int .i64 fuel, .slice (some ⟨rb, 0, none⟩) 16 rc, .int .i64 p, .int .i64 q, .int .i64 5, .int .i64 0].all (·.oneCell') = true) := all_oneCell_toArray (cs := [Value.slice ad cl cp, .int .i64 words, .int .i64 fuel, .slice (some ⟨rb, 0, none⟩) 16 rc, .int .i64 p, .int .i64 q, .int .i64 5, .int .i64 0]) (by intro u hu; simp at hu; rcases hu with rfl | rfl | rfl | rfl | rfl | rfl | rfl | rfl <;> rfl)
  clear hcells hrm h0 hq hp hvl hf
  go_enter Try.func13, Try.ntmps13
  go_wp2_with (first | (go_at_call 33; refine (over_any _ _ _ _ _ _ _ _ _ _ _ _ 5 0 _).mono ?_; rintro e V ⟨rfl, hb⟩; have HZ : Hid (V.heap[w.heap.size + 1]? = some (.cells mZa 29)) := (hb.block _ (by simp)).trans (two_new w _ _); have HB : Hid (Below w.heap.size w V) := (((Below.refl _ _).alloc (Nat.le_refl _) _).alloc (by simp) _).trans (hb.mono (by simp; omega)); clear hb) | (refine wpList_store_row rfl 29 _ _ rfl (w.heap.size + 1) #[Value.slice ad cl cp, .int .i64 words, .int .i64 fuel, .slice (some ⟨rb, 0, none⟩) 16 rc, .int .i64 p, .int .i64 q, .int .i64 5, .int .i64 0] rfl rfl 29 _ HZ.out size29 rfl HON.out ?_))
  refine bodyPost_ret (ret_m1 Try.results13 _ (w.heap.size + 1) rfl _ _ rfl (setRow_heap _ _ _ _ _ _ HZ.out)) rfl ?_
  exact ⟨_, rfl, (RRg.keep h16 HRM.out rfl HCE.out HB.out).setRow HZ.out _, below_setRow HB.out (by omega) _, Or.inl rfl⟩

/-- what the document's machine stands on -/
structure ROk (C : List In) (fuel : Int) (s : St) : Prop where
  ok : Ok C fuel s
  len : s.regs.length = 16
  lenC : C.length ≤ 1000
  good : ∀ x ∈ C, OkI x
  k : ∀ x ∈ C, R64 x.k
/-- the instructions of the document's machine, as they came in -/
structure RCd (w : World) (v : Value) (C : List In) (cb co cp : Nat) : Prop where
  v : v = .slice (some ⟨cb, co, none⟩) C.length cp
  cap : C.length ≤ cp
  mx : cp ≤ maxLen
  row : ∀ i (h : i < C.length), IAt w cb (co + i * 6) C[i]

theorem rstep_any (C : List In) (v : Value) (cb co cp : Nat) (got words fuel : Int) (rv : Value) (s : St) (ho : ROk C fuel s) (w : World) (hv : RCd w v C cb co cp) (hrv : RRg w rv s) : Calls Try.prog 13 #[mV v rv words fuel s, .int .i64 got] w (RSetP rv (some ⟨cb, co, none⟩) C.length cp words fuel (stepS C words fuel s got) w) := by
  obtain ⟨rfl, hcap, hmx, hrow⟩ := hv
  unfold stepS
  by_cases h0 : s.over = 0
  · rw [if_neg (by simpa using h0)]
    by_cases hf : fuel ≤ s.steps
    · rw [if_pos hf]
      exact rst_spent _ _ _ got words fuel rv s h0 hf w hrv
    · rw [if_neg hf]
      obtain ⟨p, hp⟩ : ∃ p : Nat, s.pc = p := ⟨s.pc.toNat, by have := ho.ok.pc; omega⟩
      have hlt : p < C.length := by have := ho.ok.pc; omega
      have hget : C.getD s.pc.toNat ⟨0, 0, 0, 0, 0, 0⟩ = C[p] := by rw [hp, Int.toNat_natCast]; simp [List.getD, hlt]
      rw [hget]
      have hmem : C[p] ∈ C := List.getElem_mem hlt
      have hA : At1 w cb co C.length cp p C[p] := ⟨hrow p hlt, hlt, hcap, hmx⟩
      have hI := ho.good _ hmem
      have hK := ho.k _ hmem
      have hs : 0 ≤ s.steps ∧ s.steps < 4000 := by have := ho.ok.steps; have := ho.ok.fuel; omega
      have hl := ho.len
      have hreg := ho.ok.regs
      have hc := ho.lenC
      generalize C[p] = x at hA hI hK
      obtain ⟨kd, op, xa, xb, xc, xk⟩ := x
      obtain ⟨h1, ha, hb, hcc⟩ := hI
      dsimp only at h1 ha hb hcc hK
      rcases (by omega : kd = 1 ∨ kd = 2 ∨ kd = 3 ∨ kd = 4 ∨ kd = 5 ∨ kd = 6 ∨ kd = 7 ∨ kd = 8 ∨ kd = 9 ∨ kd = 10 ∨ kd = 11 ∨ kd = 12 ∨ kd = 13) with rfl | rfl | rfl | rfl | rfl | rfl | rfl | rfl | rfl | rfl | rfl | rfl | rfl
      · exact rst_1 cb co C.length cp p op xa xb xc xk got words fuel rv s hl hp h0 hf hs hc w hA hrv
      · exact rst_2 cb co C.length cp p op xa xb xc xk got words fuel ha rv s hl hp h0 hf hs hc w hA hrv
      · exact rst_3 cb co C.length cp p op xa xb xc xk got words fuel ha hb rv s hl hreg hp h0 hf hs hc w hA hrv
      · exact rst_4 cb co C.length cp p op xa xb xc xk got words fuel ha hb rv s hl hreg hp h0 hf hs hc w hA hrv
      · exact rst_5 cb co C.length cp p op xa xb xc xk got words fuel ha hb hcc rv s hl hreg hp h0 hf hs hc w hA hrv
      · exact rst_6 cb co C.length cp p op xa xb xc xk got words fuel ha hb hK rv s hl hreg hp h0 hf hs hc w hA hrv
      · exact rst_7 cb co C.length cp p op xa xb xc xk got words fuel hb hK rv s hl hreg hp h0 hf hs hc w hA hrv
      · exact rst_8 cb co C.length cp p op xa xb xc xk got words fuel rv s hl hp h0 hf hs hc w hA hrv
      · exact rst_9 cb co C.length cp p op xa xb xc xk got words fuel rv s hl hp h0 hf hs hc w hA hrv
      · exact rst_10 cb co C.length cp p op xa xb xc xk got words fuel rv s hl hp h0 hf hs hc w hA hrv
      · exact rst_11 cb co C.length cp p op xa xb xc xk got words fuel ha rv s hl hp h0 hf hs hc w hA hrv
      · exact rst_12 cb co C.length cp p op xa xb xc xk got words fuel ha rv s hl hp h0 hf hs hc w hA hrv
      · exact rst_13 cb co C.length cp p op xa xb xc xk got words fuel ha rv s hl hp h0 hf hs hc w hA hrv
  · rw [if_pos h0]
    exact rst_over _ _ _ got words fuel rv s h0 w hrv

end Go.Proofs.Ytkcncngcmhldpaa
