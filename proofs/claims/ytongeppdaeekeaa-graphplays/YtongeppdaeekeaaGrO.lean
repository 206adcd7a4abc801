/- Ages in a heap: one is put, the least is taken. -/
import Derived.Test.YtongeppdaeekeaaGrN
namespace Go.Proofs.Ytongeppdaeekeaa
open Go.RowKit Go.Maps
set_option linter.unusedVariables false

section
variable {w w' W W' : World} {ab : Nat} {hv hv' : Value} {H H' : List Int}
set_option maxRecDepth 100000 in
set_option maxHeartbeats 4000000 in
theorem hpush_any (h : AV w ab hv H) (hp : HpO H H.length) (x : Int) (hl : H.length < 2000) : Calls Try.prog 96 #[.iface 138 (.pointer (some ⟨ab, 0, none⟩)), .iface 3 (.int .i64 x)] w (UpQ w ab hv (H ++ [x])) := by
  have HPU := push_any h x hl
  have HI0 : Hid (AI w w ab hv H hv) := AI.first h
  obtain ⟨n, hn⟩ : ∃ n, H.length = n := ⟨_, rfl⟩
  obtain ⟨m, hm⟩ : ∃ m, n + 1 = m := ⟨_, rfl⟩
  have HLEN : Hid ((H ++ [x]).length = m ∧ n < m) := by show _ ∧ _; simp; omega
  have HUP : Hid (UpO (H ++ [x]) m n) := by have := hp.push (n := 0) x; rw [hn, hm] at this; exact this
  have HF : Hid (∀ W H' hv', AI w W ab hv H' hv' → H'.Perm (H ++ [x]) → HpO H' H'.length → UpQ w ab hv (H ++ [x]) (.returned (.tuple #[])) W) := fun W H' hv' h1 h2 h3 => ⟨H', h2, h3, h1.aq⟩
  have q0 : (m : Int) - 1 = (n : Int) := by omega
  have hn2 : n < 2000 := by omega
  clear h hp hl hn hm
  generalize UpQ w ab hv (H ++ [x]) = P at *
  go_enter Try.func96, Try.ntmps96
  go_wp2_with fail
  refine HPU.mono ?_
  intro e w1 q1
  obtain ⟨hv1, rfl, a1⟩ := HI0.out.step q1
  have HI1 : Hid (AI w w1 ab hv (H ++ [x]) hv1) := a1
  have HL1 := alen_any a1.1
  rw [HLEN.out.1] at HL1
  have HU1 : Calls Try.prog 107 #[.iface 138 (.pointer (some ⟨ab, 0, none⟩)), .int .i64 (n : Int)] w1 (UpQ w1 ab hv1 (H ++ [x])) := up_any a1.1 n (by rw [HLEN.out.1]; exact HLEN.out.2) (by rw [HLEN.out.1]; exact HUP.out)
  clear q1 a1 HLEN HUP HI0
  generalize H ++ [x] = L at *
  go_wp2_with fail
  refine HL1.mono ?_
  rintro e w2 ⟨rfl, rfl⟩
  go_wp2_with fail
  refine HU1.mono ?_
  rintro e w3 ⟨H3, p3, o3, q3⟩
  obtain ⟨hv3, rfl, a3⟩ := HI1.out.step q3
  have HR : Hid (P (.returned (.tuple #[])) w3) := HF.out w3 H3 hv3 a3 p3 o3
  clear q3 a3 p3 o3
  go_wp2
  go_end0
  exact HR.out
set_option maxRecDepth 100000 in
set_option maxHeartbeats 4000000 in
theorem put_any (h : AV w ab hv H) (hp : HpO H H.length) (x : Int) (hl : H.length < 2000) : Calls Try.prog 78 #[.pointer (some ⟨ab, 0, none⟩), .int .i64 x] w (UpQ w ab hv (H ++ [x])) := by
  have HPU := hpush_any h hp x hl
  have HF : Hid (∀ e W, UpQ w ab hv (H ++ [x]) e W → e = .returned (.tuple #[])) := by rintro e W ⟨H', _, _, hv', he, _⟩; exact he
  clear h hp hl
  generalize UpQ w ab hv (H ++ [x]) = P at *
  go_enter Try.func78, Try.ntmps78
  go_wp2_with fail
  refine HPU.mono ?_
  intro e w1 q1
  obtain rfl := HF.out e w1 q1
  have HR : Hid (P (.returned (.tuple #[])) w1) := q1
  clear q1
  go_wp2
  go_end0
  exact HR.out
/-- the least one goes -/
def PopQ (f : Int → Value) (w : World) (ab : Nat) (hv : Value) (H : List Int) (e : Ending) (W : World) : Prop := ∃ z H', (z :: H').Perm H ∧ (∀ x ∈ H', z ≤ x) ∧ HpO H' H'.length ∧ AQ w ab hv H' (f z) e W
theorem pop_is {H H2 : List Int} {n : Nat} (hp : HpO H H.length) (hn : H.length = n + 1) (h2 : H2.Perm (swp H 0 n)) (ho : HpO H2 n) (ht : at0 H2 n = at0 (swp H 0 n) n) : (at0 H2 n :: H2.take n).Perm H ∧ (∀ x ∈ H2.take n, at0 H2 n ≤ x) ∧ HpO (H2.take n) (H2.take n).length := by
  have hl : H2.length = n + 1 := by rw [h2.length_eq, swp_len, hn]
  have h3 : H2.Perm H := h2.trans (swp_perm H 0 n (by omega) (by omega))
  have h4 : H2 = H2.take n ++ [at0 H2 n] := by
    rw [at0_get H2 n (by omega)]
    conv => lhs; rw [← List.take_append_drop n H2]
    congr 1
    rw [List.drop_eq_getElem_cons (by omega), List.drop_of_length_le (by omega)]
  have h0 : at0 H2 n = at0 H 0 := by
    rw [ht, swp_at H 0 n n (by omega) (by omega) (by omega), if_pos rfl]
  have hp4 : (at0 H2 n :: H2.take n).Perm H := by
    refine List.Perm.trans ?_ h3
    conv => rhs; rw [h4]
    exact (List.perm_append_singleton _ _).symm
  refine ⟨hp4, fun x hx => ?_, ho.of_perm_take (by omega)⟩
  have hm : x ∈ H := hp4.mem_iff.1 (by simp [hx])
  obtain ⟨k, hk, rfl⟩ := List.getElem_of_mem hm
  rw [h0, ← at0_get H k hk]
  exact hp.min k hk
set_option maxRecDepth 100000 in
set_option maxHeartbeats 4000000 in
theorem hpop_any (h : AV w ab hv H) (hp : HpO H H.length) (n : Nat) (hn : H.length = n + 1) : Calls Try.prog 95 #[.iface 138 (.pointer (some ⟨ab, 0, none⟩))] w (PopQ (fun z => .iface 3 (.int .i64 z)) w ab hv H) := by
  have HI0 : Hid (AI w w ab hv H hv) := AI.first h
  obtain ⟨m, hm⟩ : ∃ m, n + 1 = m := ⟨_, rfl⟩
  have HLN := alen_any h
  rw [hn, hm] at HLN
  have HS := swap_any h 0 n (by omega) (by omega)
  have HD : Hid (∀ W hv1, AV W ab hv1 (swp H 0 n) → Calls Try.prog 106 #[.iface 138 (.pointer (some ⟨ab, 0, none⟩)), .int .i64 0, .int .i64 (n : Int)] W (DownQ W ab hv1 (swp H 0 n) n)) := fun W hv1 h1 => down_any h1 n (by rw [swp_len]; omega) (hp.turn n hn)
  have HP2 : Hid (∀ H2, H2.Perm (swp H 0 n) → HpO H2 n → (∀ k, n ≤ k → k < (swp H 0 n).length → at0 H2 k = at0 (swp H 0 n) k) → (at0 H2 n :: H2.take n).Perm H ∧ (∀ x ∈ H2.take n, at0 H2 n ≤ x) ∧ HpO (H2.take n) (H2.take n).length) := fun H2 h2 h3 h4 => pop_is hp hn h2 h3 (h4 n (Nat.le_refl _) (by rw [swp_len]; omega))
  have HLW : Hid (∀ H2 : List Int, H2.Perm (swp H 0 n) → H2.length = n + 1) := fun H2 h2 => by rw [h2.length_eq, swp_len]; exact hn
  have HF : Hid (∀ W H' hv' z, AI w W ab hv H' hv' → (z :: H').Perm H → (∀ x ∈ H', z ≤ x) → HpO H' H'.length → PopQ (fun z => .iface 3 (.int .i64 z)) w ab hv H (.returned (.iface 3 (.int .i64 z))) W) := fun W H' hv' z h1 h2 h3 h4 => ⟨z, H', h2, h3, h4, h1.aq⟩
  have q0 : (m : Int) - 1 = (n : Int) := by omega
  have hn2 : n < 2000 := by have := h.ll; omega
  clear h hp hn hm
  generalize PopQ _ w ab hv H = P at *
  have e0 : (.int .i64 ((0 : Nat) : Int) : Value) = .int .i64 0 := rfl
  rw [e0] at HS
  clear e0
  go_enter Try.func95, Try.ntmps95
  go_wp2_with fail
  refine HLN.mono ?_
  rintro e w1 ⟨rfl, rfl⟩
  go_wp2_with fail
  refine HS.mono ?_
  intro e w2 q2
  obtain ⟨hv2, rfl, a2⟩ := HI0.out.step q2
  have HI2 : Hid (AI w1 w2 ab hv (swp H 0 n) hv2) := a2
  have HD2 := HD.out w2 hv2 a2.1
  clear q2 a2 HD HI0 HS
  go_wp2_with fail
  refine HD2.mono ?_
  rintro e w3 ⟨H3, b3, p3, o3, t3, q3⟩
  obtain ⟨hv3, rfl, a3⟩ := HI2.out.step q3
  have HI3 : Hid (AI w1 w3 ab hv H3 hv3) := a3
  have HP3 : Hid _ := HP2.out H3 p3 o3 t3
  have HPO := pop_any a3.1 n (HLW.out H3 p3)
  clear q3 a3 p3 o3 t3 HI2 HP2 HLW
  go_wp2_with fail
  refine HPO.mono ?_
  intro e w4 q4
  obtain ⟨hv4, rfl, a4⟩ := HI3.out.step q4
  have HR : Hid (P (.returned (.iface 3 (.int .i64 (at0 H3 n)))) w4) := HF.out w4 _ hv4 _ a4 HP3.out.1 HP3.out.2.1 HP3.out.2.2
  clear q4 a4 HP3 HI3
  go_wp2
  first | exact HR.out | (go_ret; exact HR.out)
set_option maxRecDepth 100000 in
set_option maxHeartbeats 4000000 in
theorem take_any (h : AV w ab hv H) (hp : HpO H H.length) (n : Nat) (hn : H.length = n + 1) : Calls Try.prog 77 #[.pointer (some ⟨ab, 0, none⟩)] w (PopQ (fun z => .int .i64 z) w ab hv H) := by
  have HPO := hpop_any h hp n hn
  have HF : Hid (∀ W H' hv' z, (z :: H').Perm H → (∀ x ∈ H', z ≤ x) → HpO H' H'.length → AV W ab hv' H' → Ch (fun k => k = ab ∨ hv.ownBlock = some k) w W → (hv'.ownBlock = hv.ownBlock ∨ ∃ n, w.heap.size ≤ n ∧ hv'.ownBlock = some n) → PopQ (fun z => .int .i64 z) w ab hv H (.returned (.int .i64 z)) W) := fun W H' hv' z h2 h3 h4 h5 h6 h7 => ⟨z, H', h2, h3, h4, hv', rfl, h5, h6, h7⟩
  clear h hp hn
  generalize PopQ (fun z => .int .i64 z) w ab hv H = P at *
  go_enter Try.func77, Try.ntmps77
  go_wp2_with fail
  refine HPO.mono ?_
  rintro e w1 ⟨z, H', h1, h2, h3, hv', rfl, h4, h5, h6⟩
  have HR : Hid (P (.returned (.int .i64 z)) w1) := HF.out w1 H' hv' z h1 h2 h3 h4 h5 h6
  have hta : ∀ W, (Instr.typeAssert (.iface 3 (.int .i64 z)) 20 3 false).run Try.prog W = .ok (.int .i64 z) W := fun W => rfl
  clear h1 h2 h3 h4 h5 h6
  go_wp2
  first | exact HR.out | (go_ret; exact HR.out)
end
end Go.Proofs.Ytongeppdaeekeaa
