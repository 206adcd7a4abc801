/- VmFuel: the walk. -/
import Derived.Test.YtkcncngcmhldpaaSam2
import Derived.Test.YtkcncngcmhldpaaFuelP
import Derived.Test.YtkcncngcmhldpaaAlive
namespace Go.Proofs.Ytkcncngcmhldpaa
open Go.RowKit Go.Maps
set_option linter.unusedVariables false
def rnV (v : Value) (cells fuel more : Int) (mv : Value) (n i k : Int) : Value := .agg #[v, .int .i64 cells, .int .i64 fuel, .int .i64 more, mv, .int .i64 n, .int .i64 i, .int .i64 k]

set_option maxRecDepth 100000 in
set_option maxHeartbeats 4000000 in
theorem fuel_walk (C : List In) (v mv : Value) (cells fuel more n i k : Int) (M : List Int) (hn : R64 n) (hi : R64 i) (hk : R64 k) (hR : ∀ x ∈ C, R64 x.k) (hMr : ∀ x ∈ M, R64 x) (w : World) (hv : ISl w v C) (hm : GSl w mv M) : Calls Try.prog 7 #[rnV v cells fuel more mv n i k] w (TrueP w) := by
  have HR : Hid (M.length ≤ 100 → ∀ f W, Below w.heap.size w W → Calls Try.prog 17 #[v, .int .i64 cells, .int .i64 f, inV mv n i k] W (RunQ C cells f n i k M W)) := fun h100 f W hb => run_any C v mv cells f n i k M h100 hn hi hk hR hMr W (hv.below hb) (hm.below hb)
  have HL : Hid (∀ f, newE C cells M.length f = 0 → _) := fun f hf => last_ok hf hn hi hk hR hMr
  have H2 : Hid (∀ f g, newE C cells M.length f = 0 → newE C cells M.length g = 0 → f ≤ g → _) := fun f g hf hg hfg => last_two hf hg hfg hn hi hk hR hMr
  obtain ⟨ad, cp, vb0, vo0, rfl, hv2, hv3, hv4⟩ := hv
  obtain ⟨mad, mcp, mb0, mo0, rfl, hm2, hm3, hm4⟩ := hm
  obtain ⟨cl, hcl⟩ : ∃ cl, C.length = cl := ⟨_, rfl⟩
  obtain ⟨ml, hml⟩ : ∃ ml, M.length = ml := ⟨_, rfl⟩
  have HML : Hid (M.length = ml) := hml
  rw [hcl] at HR hv2 ⊢
  rw [hml] at HR hm2 ⊢
  unfold maxLen at hv3 hm3
  clear hcl hml hv4 hm4 hn hi hk hR hMr
  unfold rnV
  unfold inV at HR
  go_enter Try.func7, Try.ntmps7
  go_wp2_with fail
  go_region_held3 (fun w' => w'.cell? ⟨w.heap.size, 0, none⟩ = some (.slice ad cl cp) ∧ w'.cell? ⟨w.heap.size, 1, none⟩ = some (.int .i64 cells) ∧ w'.cell? ⟨w.heap.size, 2, none⟩ = some (.int .i64 fuel) ∧ w'.cell? ⟨w.heap.size, 3, none⟩ = some (.int .i64 more) ∧ w'.cell? ⟨w.heap.size, 4, none⟩ = some (.slice mad ml mcp) ∧ w'.cell? ⟨w.heap.size, 5, none⟩ = some (.int .i64 n) ∧ w'.cell? ⟨w.heap.size, 6, none⟩ = some (.int .i64 i) ∧ w'.cell? ⟨w.heap.size, 7, none⟩ = some (.int .i64 k)) (go_keep) (fail)
  obtain ⟨W1, hW1⟩ : ∃ W1, ((w.alloc (Obj.cells #[Value.slice ad cl cp, .int .i64 cells, .int .i64 fuel, .int .i64 more, .slice mad ml mcp, .int .i64 n, .int .i64 i, .int .i64 k] 51)).alloc (Obj.cells #[Value.slice mad ml mcp, .int .i64 n, .int .i64 i, .int .i64 k] 49)).drew = W1 := ⟨_, rfl⟩
  have HB1 : Hid (Below w.heap.size w W1) := by rw [← hW1]; exact (((Below.refl _ _).alloc (Nat.le_refl _) _).alloc (by simp) _).drew
  have hX1 : W1.heap[w.heap.size + 1]? = some (.cells #[Value.slice mad ml mcp, .int .i64 n, .int .i64 i, .int .i64 k] 49) := by
    rw [← hW1]
    have := heap_alloc_new (w.alloc (Obj.cells #[Value.slice ad cl cp, .int .i64 cells, .int .i64 fuel, .int .i64 more, .slice mad ml mcp, .int .i64 n, .int .i64 i, .int .i64 k] 51)) (Obj.cells #[Value.slice mad ml mcp, .int .i64 n, .int .i64 i, .int .i64 k] 49)
    rw [World.size_alloc] at this
    exact this
  have HX : Hid (∀ V, Below W1.heap.size W1 V → V.cell? ⟨w.heap.size + 1, 0, none⟩ = some (.slice mad ml mcp) ∧ V.cell? ⟨w.heap.size + 1, 1, none⟩ = some (.int .i64 n) ∧ V.cell? ⟨w.heap.size + 1, 2, none⟩ = some (.int .i64 i) ∧ V.cell? ⟨w.heap.size + 1, 3, none⟩ = some (.int .i64 k)) := fun V hV => by
    have hx : V.heap[w.heap.size + 1]? = _ := (hV.block _ (Array.getElem?_eq_some_iff.1 hX1).1).trans hX1
    exact ⟨(cell_of_row V _ 0 _ _ _ hx).trans rfl, (cell_of_row V _ 1 _ _ _ hx).trans rfl, (cell_of_row V _ 2 _ _ _ hx).trans rfl, (cell_of_row V _ 3 _ _ _ hx).trans rfl⟩
  obtain ⟨c0, c1, c2, c3⟩ := HX.out W1 (Below.refl _ _)
  rw [hW1]
  clear hW1 hX1
  by_cases hlong : 1000 < cl
  · have e1 : decide ((1000 : Int) < (cl : Int)) = true := by simp; omega
    go_wp2_with fail
    go_ret
    exact ⟨rfl, HB1.out⟩
  have e1 : decide ((1000 : Int) < (cl : Int)) = false := by simp; omega
  by_cases hwide : 100 < ml
  · have e2 : decide ((100 : Int) < (ml : Int)) = true := by simp; omega
    go_wp2_with fail
    go_ret
    exact ⟨rfl, HB1.out⟩
  have e2 : decide ((100 : Int) < (ml : Int)) = false := by simp; omega
  by_cases hmore : more < fuel
  · have e3 : decide (more < fuel) = true := by simp; omega
    go_wp2_with fail
    go_ret
    exact ⟨rfl, HB1.out⟩
  have e3 : decide (more < fuel) = false := by simp; omega
  go_wp2_with fail
  refine (HR.out (by omega) fuel W1 HB1.out).mono ?_
  rintro e w2 (⟨er, rfl, hr, hne, hb⟩ | ⟨mv1, ov1, nv1, rfl, hr, her, hb⟩)
  · have HB2 : Hid (Below w.heap.size w w2) := HB1.out.trans (hb.mono HB1.out.size)
    obtain ⟨t0, t1, t2, t3⟩ := HX.out w2 hb
    have c0 := fun A => cell_alloc t0 A
    have c1 := fun A => cell_alloc t1 A
    have c2 := fun A => cell_alloc t2 A
    have c3 := fun A => cell_alloc t3 A
    have hner : (er != 0) = true := by simp [hne]
    have HA2 : Hid (∀ A, Below w.heap.size w (w2.alloc A)) := fun A => HB2.out.alloc HB2.out.size _
    unfold efZ
    clear hb hr t0 t1 t2 t3
    go_wp2_with fail
    refine (HR.out (by omega) more _ (HA2.out _)).mono ?_
    obtain ⟨W3, hW3⟩ : ∃ W3, w2.alloc (Obj.cells #[Value.slice none 0 0, Value.slice none 0 0, Value.slice none 0 0, Value.int IntKind.i64 0, Value.int IntKind.i64 0, Value.int IntKind.i64 0] 54) = W3 := ⟨_, rfl⟩
    have HB3 : Hid (Below w.heap.size w W3) := by rw [← hW3]; exact HA2.out _
    rw [hW3]
    clear hW3 HA2 c0 c1 c2 c3
    rintro e w4 (⟨er2, rfl, hr, hne2, hb⟩ | ⟨mv2, ov2, nv2, rfl, hr, her2, hb⟩)
    · have HB4 : Hid (∀ A, Below w.heap.size w (w4.alloc A)) := fun A => (HB3.out.trans (hb.mono HB3.out.size)).alloc (HB3.out.trans (hb.mono HB3.out.size)).size _
      unfold efZ
      clear hb hr
      go_wp2_with (go_at_call 9; refine (alive_any _).mono ?_; rintro e w5 ⟨rfl, hb5⟩)
      go_ret
      exact ⟨rfl, (HB4.out _).trans (hb5.mono (HB4.out _).size)⟩
    · have HB4 : Hid (∀ A, Below w.heap.size w (w4.alloc A)) := fun A => (HB3.out.trans (hb.mono HB3.out.size)).alloc (HB3.out.trans (hb.mono HB3.out.size)).size _
      obtain ⟨p1, p2, _, _, rfl, hh⟩ := her2.m
      clear hh
      obtain ⟨p3, p4, _, _, rfl, hh⟩ := her2.o
      clear hh
      obtain ⟨p5, p6, _, _, rfl, hh⟩ := her2.n
      clear hh
      unfold efV
      clear hb hr her2
      go_wp2_with (go_at_call 9; refine (alive_any _).mono ?_; rintro e w5 ⟨rfl, hb5⟩)
      go_ret
      exact ⟨rfl, (HB4.out _).trans (hb5.mono (HB4.out _).size)⟩
  have HB2 : Hid (Below w.heap.size w w2) := HB1.out.trans (hb.mono HB1.out.size)
  obtain ⟨t0, t1, t2, t3⟩ := HX.out w2 hb
  have c0 := fun A => cell_alloc t0 A
  have c1 := fun A => cell_alloc t1 A
  have c2 := fun A => cell_alloc t2 A
  have c3 := fun A => cell_alloc t3 A
  have HA2 : Hid (∀ A, Below w.heap.size w (w2.alloc A)) := fun A => HB2.out.alloc HB2.out.size _
  have HNF : Hid (newE C cells M.length fuel = 0) := hr
  obtain ⟨F, hF⟩ : ∃ F, lastS C M.length fuel n i k M = F := ⟨_, rfl⟩
  have HFE : Hid (lastS C M.length fuel n i k M = F) := hF
  rw [hF] at her ⊢
  have HER : Hid (ER w2 mv1 ov1 nv1 F.2) := her
  obtain ⟨p1, p2, _, _, rfl, hh⟩ := her.m
  clear hh
  obtain ⟨p3, p4, _, _, rfl, hh⟩ := her.o
  clear hh
  obtain ⟨p5, p6, _, _, rfl, hh⟩ := her.n
  clear hh
  obtain ⟨l1, hl1⟩ : ∃ l1, F.2.mem.length = l1 := ⟨_, rfl⟩
  obtain ⟨l2, hl2⟩ : ∃ l2, F.2.outs.length = l2 := ⟨_, rfl⟩
  obtain ⟨l3, hl3⟩ : ∃ l3, F.2.intos.length = l3 := ⟨_, rfl⟩
  rw [hl1, hl2, hl3] at HER ⊢
  unfold efV
  clear hb hr t0 t1 t2 t3 her hF hl1 hl2 hl3
  go_wp2_with fail
  refine (HR.out (by omega) more _ (HA2.out _)).mono ?_
  obtain ⟨W3, hW3⟩ : ∃ W3, w2.alloc (Obj.cells #[Value.slice p1 l1 p2, Value.slice p3 l2 p4, Value.slice p5 l3 p6, Value.int IntKind.i64 F.1.over, Value.int IntKind.i64 F.1.value, Value.int IntKind.i64 F.1.steps] 54) = W3 := ⟨_, rfl⟩
  have HB3 : Hid (Below w.heap.size w W3) := by rw [← hW3]; exact HA2.out _
  have HER3 : Hid (ER W3 (.slice p1 l1 p2) (.slice p3 l2 p4) (.slice p5 l3 p6) F.2) := by rw [← hW3]; exact HER.out.below ((Below.refl _ _).alloc (Nat.le_refl _) _)
  obtain ⟨ab, hab⟩ : ∃ ab, w2.heap.size = ab := ⟨_, rfl⟩
  have HAB : Hid (W3.heap[ab]? = some (.cells #[Value.slice p1 l1 p2, Value.slice p3 l2 p4, Value.slice p5 l3 p6, Value.int IntKind.i64 F.1.over, Value.int IntKind.i64 F.1.value, Value.int IntKind.i64 F.1.steps] 54)) := by rw [← hW3, ← hab]; exact heap_alloc_new w2 _
  rw [hW3, hab]
  clear hW3 HA2 c0 c1 c2 c3 hab HER HB2
  rintro e w4 (⟨er2, rfl, hr, hne2, hb⟩ | ⟨mv2, ov2, nv2, rfl, hr, her2, hb⟩)
  · have HB4 : Hid (∀ A, Below w.heap.size w (w4.alloc A)) := fun A => (HB3.out.trans (hb.mono HB3.out.size)).alloc (HB3.out.trans (hb.mono HB3.out.size)).size _
    have h110 : er2 = 110 := by
      rcases newE_fuel (g := more) HNF.out with h | h
      · exact absurd (hr.symm.trans h) hne2
      · exact hr.symm.trans h
    subst h110
    unfold efZ
    clear hb hr hne2
    go_wp2_with (go_at_call 9; refine (alive_any _).mono ?_; rintro e w5 ⟨rfl, hb5⟩)
    go_ret
    exact ⟨rfl, (HB4.out _).trans (hb5.mono (HB4.out _).size)⟩
  obtain ⟨G, hG⟩ : ∃ G, lastS C M.length more n i k M = G := ⟨_, rfl⟩
  rw [hG] at her2 ⊢
  have hFok := HL.out fuel HNF.out
  have hGok := HL.out more hr
  have htwo := H2.out fuel more HNF.out hr (by omega)
  rw [HFE.out] at hFok htwo
  rw [hG] at hGok htwo
  have HER4 : Hid (ER w4 mv2 ov2 nv2 G.2) := her2
  have HERA : Hid (ER w4 (.slice p1 l1 p2) (.slice p3 l2 p4) (.slice p5 l3 p6) F.2) := HER3.out.below hb
  have HLN : Hid (F.2.mem.length ≤ 4000 ∧ F.2.outs.length ≤ 4000 ∧ F.2.intos.length ≤ 4000) := ⟨hFok.2.2.1, hFok.2.2.2.1, hFok.2.2.2.2⟩
  obtain ⟨q1, q2, _, _, rfl, hh⟩ := her2.m
  clear hh
  obtain ⟨q3, q4, _, _, rfl, hh⟩ := her2.o
  clear hh
  obtain ⟨q5, q6, _, _, rfl, hh⟩ := her2.n
  clear hh
  have hA4 : w4.heap[ab]? = some (.cells #[Value.slice p1 l1 p2, Value.slice p3 l2 p4, Value.slice p5 l3 p6, Value.int IntKind.i64 F.1.over, Value.int IntKind.i64 F.1.value, Value.int IntKind.i64 F.1.steps] 54) := (hb.block _ (Array.getElem?_eq_some_iff.1 HAB.out).1).trans HAB.out
  have HB4 : Hid (Below w.heap.size w w4) := HB3.out.trans (hb.mono HB3.out.size)
  have a3 : ∀ A, (w4.alloc A).cell? ⟨ab, 3, none⟩ = some (.int .i64 F.1.over) := fun A => cell_alloc ((cell_of_row w4 _ 3 _ _ _ hA4).trans rfl) A
  have a5 : ∀ A, (w4.alloc A).cell? ⟨ab, 5, none⟩ = some (.int .i64 F.1.steps) := fun A => cell_alloc ((cell_of_row w4 _ 5 _ _ _ hA4).trans rfl) A
  have HA4 : Hid (w4.heap[ab]? = some (.cells #[Value.slice p1 l1 p2, Value.slice p3 l2 p4, Value.slice p5 l3 p6, Value.int IntKind.i64 F.1.over, Value.int IntKind.i64 F.1.value, Value.int IntKind.i64 F.1.steps] 54)) := hA4
  have d1 : decide (fuel < F.1.steps) = false := by simp; omega
  have d2 : decide (more < G.1.steps) = false := by simp; omega
  have d3 : (F.1.over == 0) = false := by simpa using hFok.1
  have d4 : (G.1.over == 0) = false := by simpa using hGok.1
  obtain ⟨k1, hk1⟩ : ∃ l1, G.2.mem.length = l1 := ⟨_, rfl⟩
  obtain ⟨k2, hk2⟩ : ∃ l2, G.2.outs.length = l2 := ⟨_, rfl⟩
  obtain ⟨k3, hk3⟩ : ∃ l3, G.2.intos.length = l3 := ⟨_, rfl⟩
  rw [hk1, hk2, hk3] at HER4 ⊢
  unfold efV
  clear hb hr her2 hG HAB HER3 hA4 hFok hGok hk1 hk2 hk3
  rcases htwo with ⟨h5, hs, hge⟩ | ⟨h5, heq⟩
  · have d5 : (F.1.over == 5) = true := by simpa using h5
    have d6 : (F.1.steps == fuel) = true := by simpa using hs
    have d7 : decide (fuel ≤ G.1.steps) = true := by simpa using hge
    clear h5 hs hge
    go_wp2_with (go_at_call 9; refine (alive_any _).mono ?_; rintro e w5 ⟨rfl, hb5⟩)
    go_ret
    exact ⟨rfl, (HB4.out.alloc HB4.out.size _).trans (hb5.mono (HB4.out.alloc HB4.out.size _).size)⟩
  · subst heq
    have d5 : (F.1.over == 5) = false := by simpa using h5
    have HSM : Hid (∀ A, Calls Try.prog 19 #[.agg (efV (.slice p1 l1 p2) (.slice p3 l2 p4) (.slice p5 l3 p6) F.1), .agg (efV (.slice q1 k1 q2) (.slice q3 k2 q4) (.slice q5 k3 q6) F.1), .bool true] (w4.alloc A) fun e w' => e = .returned (.bool true) ∧ Below (w4.alloc A).heap.size (w4.alloc A) w') := fun A => same_true _ _ _ _ _ _ F.1 F.2 HLN.out _ (HERA.out.below ((Below.refl _ _).alloc (Nat.le_refl _) _)) (HER4.out.below ((Below.refl _ _).alloc (Nat.le_refl _) _))
    unfold efV at HSM
    have b0 : ∀ A, (w4.alloc A).cell? ⟨ab, 0, none⟩ = some (.slice p1 l1 p2) := fun A => cell_alloc ((cell_of_row w4 _ 0 _ _ _ HA4.out).trans rfl) A
    have b1 : ∀ A, (w4.alloc A).cell? ⟨ab, 1, none⟩ = some (.slice p3 l2 p4) := fun A => cell_alloc ((cell_of_row w4 _ 1 _ _ _ HA4.out).trans rfl) A
    have b2 : ∀ A, (w4.alloc A).cell? ⟨ab, 2, none⟩ = some (.slice p5 l3 p6) := fun A => cell_alloc ((cell_of_row w4 _ 2 _ _ _ HA4.out).trans rfl) A
    have b4 : ∀ A, (w4.alloc A).cell? ⟨ab, 4, none⟩ = some (.int .i64 F.1.value) := fun A => cell_alloc ((cell_of_row w4 _ 4 _ _ _ HA4.out).trans rfl) A
    clear h5
    go_wp2_with (first | (go_at_call 19; refine (HSM.out _).mono ?_; rintro e w5 ⟨rfl, hb5⟩) | (go_at_call 9; refine (alive_any _).mono ?_; rintro e w6 ⟨rfl, hb6⟩))
    go_ret
    have q := HB4.out.alloc HB4.out.size (Obj.cells #[Value.slice q1 k1 q2, Value.slice q3 k2 q4, Value.slice q5 k3 q6, Value.int IntKind.i64 F.1.over, Value.int IntKind.i64 F.1.value, Value.int IntKind.i64 F.1.steps] 54)
    have q5 := q.trans (hb5.mono q.size)
    exact ⟨rfl, q5.trans (hb6.mono q5.size)⟩
end Go.Proofs.Ytkcncngcmhldpaa
