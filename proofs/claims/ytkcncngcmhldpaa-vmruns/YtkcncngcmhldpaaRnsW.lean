/- VmRuns: the walk. -/
import Derived.Test.YtkcncngcmhldpaaSam2
import Derived.Test.YtkcncngcmhldpaaFuelP
import Derived.Test.YtkcncngcmhldpaaAlive
import Derived.Test.YtkcncngcmhldpaaRRn
namespace Go.Proofs.Ytkcncngcmhldpaa
open Go.RowKit Go.Maps
set_option linter.unusedVariables false
def rnW (v : Value) (cells fuel more : Int) (mv : Value) (n i k : Int) : Value := .agg #[v, .int .i64 cells, .int .i64 fuel, .int .i64 more, mv, .int .i64 n, .int .i64 i, .int .i64 k]

set_option maxRecDepth 100000 in
set_option maxHeartbeats 4000000 in
theorem runs_walk (C : List In) (v mv : Value) (cells fuel more n i k : Int) (M : List Int) (hn : R64 n) (hi : R64 i) (hk : R64 k) (hR : ∀ x ∈ C, R64 x.k) (hMr : ∀ x ∈ M, R64 x) (w : World) (hv : ISl w v C) (hm : GSl w mv M) (hnil : ∀ l c, mv = .slice none l c → c = 0) : Calls Try.prog 4 #[rnW v cells fuel more mv n i k] w (TrueP w) := by
  have HR : Hid (M.length ≤ 100 → ∀ W u, Below w.heap.size w W → GSl W u M → Calls Try.prog 17 #[v, .int .i64 cells, .int .i64 fuel, inV u n i k] W (RunQ C cells fuel n i k M W)) := fun h100 W u hb hu => run_any C v u cells fuel n i k M h100 hn hi hk hR hMr W (hv.below hb) hu
  have HRR : Hid (M.length ≤ 100 → ∀ W, Below w.heap.size w W → Calls Try.prog 18 #[v, .int .i64 cells, .int .i64 fuel, inV mv n i k] W (RunQ C cells fuel n i k M W)) := fun h100 W hb => rrun_any C v mv cells fuel n i k M h100 hn hi hk hR hMr W (hv.below hb) (hm.below hb)
  have HL : Hid (∀ f, newE C cells M.length f = 0 → _) := fun f hf => last_ok hf hn hi hk hR hMr
  have HGM : Hid (GSl w mv M) := hm
  obtain ⟨ad, cp, vb0, vo0, rfl, hv2, hv3, hv4⟩ := hv
  obtain ⟨mad, mcp, mb0, mo0, rfl, hm2, hm3, hm4⟩ := hm
  obtain ⟨cl, hcl⟩ : ∃ cl, C.length = cl := ⟨_, rfl⟩
  obtain ⟨ml, hml⟩ : ∃ ml, M.length = ml := ⟨_, rfl⟩
  have HML : Hid (M.length = ml) := hml
  rw [hcl] at HR HRR hv2 ⊢
  rw [hml] at HR HRR hm2 HGM ⊢
  unfold maxLen at hv3 hm3
  clear hcl hml hv4 hm4 hn hi hk hR hMr
  unfold rnW
  unfold inV at HR HRR
  go_enter Try.func4, Try.ntmps4
  go_wp2_with fail
  go_region_held3 (fun w' => w'.cell? ⟨w.heap.size, 0, none⟩ = some (.slice ad cl cp) ∧ w'.cell? ⟨w.heap.size, 1, none⟩ = some (.int .i64 cells) ∧ w'.cell? ⟨w.heap.size, 2, none⟩ = some (.int .i64 fuel) ∧ w'.cell? ⟨w.heap.size, 3, none⟩ = some (.int .i64 more) ∧ w'.cell? ⟨w.heap.size, 4, none⟩ = some (.slice mad ml mcp) ∧ w'.cell? ⟨w.heap.size, 5, none⟩ = some (.int .i64 n) ∧ w'.cell? ⟨w.heap.size, 6, none⟩ = some (.int .i64 i) ∧ w'.cell? ⟨w.heap.size, 7, none⟩ = some (.int .i64 k)) (go_keep) (fail)
  obtain ⟨W1, hW1⟩ : ∃ W1, ((w.alloc (Obj.cells #[Value.slice ad cl cp, .int .i64 cells, .int .i64 fuel, .int .i64 more, .slice mad ml mcp, .int .i64 n, .int .i64 i, .int .i64 k] 51)).alloc (Obj.cells #[Value.slice mad ml mcp, .int .i64 n, .int .i64 i, .int .i64 k] 49)).drew = W1 := ⟨_, rfl⟩
  have HB1 : Hid (Below w.heap.size w W1) := by rw [← hW1]; exact (((Below.refl _ _).alloc (Nat.le_refl _) _).alloc (by simp) _).drew
  have hX1 : W1.heap[w.heap.size + 1]? = some (.cells #[Value.slice mad ml mcp, .int .i64 n, .int .i64 i, .int .i64 k] 49) := by
    rw [← hW1]
    have := heap_alloc_new (w.alloc (Obj.cells #[Value.slice ad cl cp, .int .i64 cells, .int .i64 fuel, .int .i64 more, .slice mad ml mcp, .int .i64 n, .int .i64 i, .int .i64 k] 51)) (Obj.cells #[Value.slice mad ml mcp, .int .i64 n, .int .i64 i, .int .i64 k] 49)
    rw [World.size_alloc] at this
    exact this
  have HX : Hid (∀ V, Below W1.heap.size W1 V → V.cell? ⟨w.heap.size + 1, 0, none⟩ = some (.slice mad ml mcp) ∧ V.cell? ⟨w.heap.size + 1, 1, none⟩ = some (.int .i64 n) ∧ V.cell? ⟨w.heap.size + 1, 2, none⟩ = some (.int .i64 i) ∧ V.cell? ⟨w.heap.size + 1, 3, none⟩ = some (.int .i64 k)) := fun V hV => by
    have hx : V.heap[w.heap.size + 1]? = _ := (hV.block _ (Array.getElem?_eq_some_iff.1 hX1).1).trans hX1
    exact ⟨(cell_of_row V _ 0 _ _ _ hx).trans rfl, (cell_of_row V _ 1 _ _ _ hx).trans rfl, (cell_of_row V _ 2 _ _ _ hx).trans rfl, (cell_of_row V _ 3 _ _ _ hx).trans rfl⟩
  obtain ⟨c0, c1, c2, c3⟩ := HX.out W1 (Below.refl _ _)
  rw [hW1]
  clear hW1 hX1
  by_cases hlong : 1000 < cl
  · have e1 : decide ((1000 : Int) < (cl : Int)) = true := by simp; omega
    go_wp2_with fail
    go_ret
    exact ⟨rfl, HB1.out⟩
  have e1 : decide ((1000 : Int) < (cl : Int)) = false := by simp; omega
  by_cases hwide : 100 < ml
  · have e2 : decide ((100 : Int) < (ml : Int)) = true := by simp; omega
    go_wp2_with fail
    go_ret
    exact ⟨rfl, HB1.out⟩
  have e2 : decide ((100 : Int) < (ml : Int)) = false := by simp; omega
  have HB1' : Hid (Below w.heap.size w W1) := HB1.out
  obtain ⟨i9, hi9, hy0, hy1, hy2⟩ := info_parts info2
  have x0' : ∀ A D, ((W1.alloc A).alloc D).cell? ⟨w.heap.size + 1, 0, none⟩ = some (.slice mad ml mcp) := fun A D => cell_alloc (cell_alloc c0 A) D
  have hlt1 : w.heap.size + 1 < W1.heap.size := World.block_lt_of_cell? W1 _ c0
  cases mad with
  | none =>
    have hc0 : mcp = 0 := hnil _ mcp rfl
    subst hc0
    have hl0 : ml = 0 := by omega
    subst hl0
    clear hnil
    go_wp2_with fail
    obtain ⟨W3, hW3⟩ : ∃ W3, (W1.alloc (Obj.cells #[Value.slice (some ⟨W1.heap.size + 1, 0, none⟩) 0 0, .int .i64 n, .int .i64 i, .int .i64 k] 49)).alloc (Obj.cells #[] 2) = W3 := ⟨_, rfl⟩
    obtain ⟨ob, hobe⟩ : ∃ ob, W1.heap.size = ob := ⟨_, rfl⟩
    have HB3 : Hid (Below w.heap.size w W3) := by rw [← hW3]; exact (HB1.out.alloc HB1.out.size _).alloc (by have := HB1.out.size; simp; omega) _
    have hM0 : M = [] := List.eq_nil_of_length_eq_zero HML.out
    have HG3 : Hid (GSl W3 (.slice (some ⟨ob + 1, 0, none⟩) 0 0) M) := by
      rw [hM0]
      exact ⟨_, 0, 0, 0, rfl, Nat.le_refl _, Nat.zero_le _, fun h => absurd h (by simp), fun i hi => absurd hi (by simp)⟩
    have HXI : Hid (∀ V, Below W3.heap.size W3 V → (V.cell? ⟨w.heap.size + 1, 0, none⟩ = some (.slice none 0 0) ∧ V.cell? ⟨w.heap.size + 1, 1, none⟩ = some (.int .i64 n) ∧ V.cell? ⟨w.heap.size + 1, 2, none⟩ = some (.int .i64 i) ∧ V.cell? ⟨w.heap.size + 1, 3, none⟩ = some (.int .i64 k)) ∧ V.cell? ⟨ob, 0, none⟩ = some (.slice (some ⟨ob + 1, 0, none⟩) 0 0)) := fun V hV => by
      have hb3 : W3.heap[w.heap.size + 1]? = W1.heap[w.heap.size + 1]? := by rw [← hW3]; exact (Below.heap_alloc _ _ _ (by simp; omega)).trans (Below.heap_alloc _ _ _ hlt1)
      have hl3 : w.heap.size + 1 < W3.heap.size := by rw [← hW3]; simp; omega
      have hv1 : V.heap[w.heap.size + 1]? = W1.heap[w.heap.size + 1]? := (hV.block _ hl3).trans hb3
      have hc := HX.out W1 (Below.refl _ _)
      have ho : W3.heap[ob]? = some (.cells #[Value.slice (some ⟨ob + 1, 0, none⟩) 0 0, .int .i64 n, .int .i64 i, .int .i64 k] 49) := by rw [← hobe, ← hW3]; exact (Below.heap_alloc _ _ _ (by simp)).trans (heap_alloc_new W1 _)
      have ho2 : V.heap[ob]? = _ := (hV.block _ (Array.getElem?_eq_some_iff.1 ho).1).trans ho
      exact ⟨⟨(World.cell?_of_block (a := ⟨w.heap.size + 1, 0, none⟩) hv1).trans hc.1, (World.cell?_of_block (a := ⟨w.heap.size + 1, 1, none⟩) hv1).trans hc.2.1, (World.cell?_of_block (a := ⟨w.heap.size + 1, 2, none⟩) hv1).trans hc.2.2.1, (World.cell?_of_block (a := ⟨w.heap.size + 1, 3, none⟩) hv1).trans hc.2.2.2⟩, (cell_of_row V _ 0 _ _ _ ho2).trans rfl⟩
    rw [hW3, hobe]
    clear hW3 hobe x0' c0 c1 c2 c3 hM0 hlt1
    refine (HR.out (by omega) W3 _ HB3.out HG3.out).mono ?_
    rintro e w4 (⟨er, rfl, hr, hne, hb⟩ | ⟨mv1, ov1, nv1, rfl, hr, her, hb⟩)
    · have HB4 : Hid (Below W3.heap.size W3 w4) := hb
      obtain ⟨⟨t0, t1, t2, t3⟩, _⟩ := HXI.out w4 hb
      have c0 := fun A => cell_alloc t0 A
      have c1 := fun A => cell_alloc t1 A
      have c2 := fun A => cell_alloc t2 A
      have c3 := fun A => cell_alloc t3 A
      have HNE : Hid (newE C cells M.length fuel = er ∧ er ≠ 0) := ⟨hr, hne⟩
      have HW4 : Hid (∀ A, Below W3.heap.size W3 (w4.alloc A)) := fun A => HB4.out.alloc HB4.out.size _
      unfold efZ
      clear hb hr hne t0 t1 t2 t3
      go_wp2_with fail
      refine (HRR.out (by omega) _ (HB3.out.trans ((HW4.out _).mono HB3.out.size))).mono ?_
      obtain ⟨W5, hW5⟩ : ∃ W5, w4.alloc (Obj.cells #[Value.slice none 0 0, Value.slice none 0 0, Value.slice none 0 0, Value.int IntKind.i64 0, Value.int IntKind.i64 0, Value.int IntKind.i64 0] 54) = W5 := ⟨_, rfl⟩
      obtain ⟨ab, hab⟩ : ∃ ab, w4.heap.size = ab := ⟨_, rfl⟩
      have HB5 : Hid (Below W3.heap.size W3 W5) := by rw [← hW5]; exact HW4.out _
      have HAB : Hid (W5.heap[ab]? = some (.cells #[Value.slice none 0 0, Value.slice none 0 0, Value.slice none 0 0, Value.int IntKind.i64 0, Value.int IntKind.i64 0, Value.int IntKind.i64 0] 54)) := by rw [← hW5, ← hab]; exact heap_alloc_new w4 _
      rw [hW5, hab]
      clear hW5 hab HW4 c0 c1 c2 c3
      rintro e w6 (⟨er2, rfl, hr, hne2, hb⟩ | ⟨mv2, ov2, nv2, rfl, hr, her2, hb⟩)
      · obtain rfl : er = er2 := HNE.out.1.symm.trans hr
        have HB6 : Hid (Below W3.heap.size W3 w6) := HB5.out.trans (hb.mono HB5.out.size)
        have hA6 : w6.heap[ab]? = _ := (hb.block _ (Array.getElem?_eq_some_iff.1 HAB.out).1).trans HAB.out
        have HW6 : Hid (∀ A, Below W3.heap.size W3 (w6.alloc A)) := fun A => HB6.out.alloc HB6.out.size _
        have u0 : ∀ A, (w6.alloc A).cell? ⟨ab, 0, none⟩ = some (.slice none 0 0) := fun A => cell_alloc ((cell_of_row w6 _ 0 _ _ _ hA6).trans rfl) A
        have u1 : ∀ A, (w6.alloc A).cell? ⟨ab, 1, none⟩ = some (.slice none 0 0) := fun A => cell_alloc ((cell_of_row w6 _ 1 _ _ _ hA6).trans rfl) A
        have u2 : ∀ A, (w6.alloc A).cell? ⟨ab, 2, none⟩ = some (.slice none 0 0) := fun A => cell_alloc ((cell_of_row w6 _ 2 _ _ _ hA6).trans rfl) A
        have u3 : ∀ A, (w6.alloc A).cell? ⟨ab, 3, none⟩ = some (.int .i64 0) := fun A => cell_alloc ((cell_of_row w6 _ 3 _ _ _ hA6).trans rfl) A
        have u4 : ∀ A, (w6.alloc A).cell? ⟨ab, 4, none⟩ = some (.int .i64 0) := fun A => cell_alloc ((cell_of_row w6 _ 4 _ _ _ hA6).trans rfl) A
        have u5 : ∀ A, (w6.alloc A).cell? ⟨ab, 5, none⟩ = some (.int .i64 0) := fun A => cell_alloc ((cell_of_row w6 _ 5 _ _ _ hA6).trans rfl) A
        have HRW : Hid (∀ V, Below W3.heap.size W3 V → Calls Try.prog 20 #[.slice (some ⟨ob + 1, 0, none⟩) 0 0, .slice none 0 0] V fun e w' => e = .returned (.bool true) ∧ Below V.heap.size V w') := fun V hV => row_same M _ _ (by rw [HML.out]; omega) V (HG3.out.below hV) (HGM.out.below (HB3.out.trans (hV.mono HB3.out.size)))
        have hee : (er == er) = true := by simp
        have HSN : Hid (∀ V, Calls Try.prog 19 #[.agg efZ, .agg efZ, .bool true] V fun e w' => e = .returned (.bool true) ∧ Below V.heap.size V w') := fun V => same_nil V
        unfold efZ at HSN
        unfold efZ
        clear hb hr hne2 hA6
        go_wp2_with (first | (go_at_call 19; refine (HSN.out _).mono ?_; rintro e w7 ⟨rfl, hb7⟩; have HB7 : Hid (Below W3.heap.size W3 w7) := ((HW6.out _).trans (hb7.mono (HW6.out _).size)); obtain ⟨⟨s0, _, _, _⟩, s4⟩ := HXI.out w7 HB7.out; clear hb7) | (go_at_call 20; refine (HRW.out w7 HB7.out).mono ?_; rintro e w8 ⟨rfl, hb8⟩; have HB8 : Hid (Below W3.heap.size W3 w8) := (HB7.out.trans (hb8.mono HB7.out.size)); clear hb8) | (go_at_call 9; refine (alive_any _).mono ?_; rintro e w9 ⟨rfl, hb9⟩))
        go_ret
        have hw8 := HB3.out.trans (HB8.out.mono HB3.out.size)
        exact ⟨rfl, hw8.trans (hb9.mono hw8.size)⟩
      · exact absurd (HNE.out.1.symm.trans hr) HNE.out.2
    have HB4 : Hid (Below W3.heap.size W3 w4) := hb
    obtain ⟨⟨t0, t1, t2, t3⟩, _⟩ := HXI.out w4 hb
    have c0 := fun A => cell_alloc t0 A
    have c1 := fun A => cell_alloc t1 A
    have c2 := fun A => cell_alloc t2 A
    have c3 := fun A => cell_alloc t3 A
    have HNE : Hid (newE C cells M.length fuel = 0) := hr
    have HW4 : Hid (∀ A, Below W3.heap.size W3 (w4.alloc A)) := fun A => HB4.out.alloc HB4.out.size _
    have hFok := HL.out fuel hr
    obtain ⟨F, hF⟩ : ∃ F, lastS C M.length fuel n i k M = F := ⟨_, rfl⟩
    have HFE : Hid (lastS C M.length fuel n i k M = F) := hF
    rw [hF] at her hFok ⊢
    have HLN : Hid (F.2.mem.length ≤ 4000 ∧ F.2.outs.length ≤ 4000 ∧ F.2.intos.length ≤ 4000) := ⟨hFok.2.2.1, hFok.2.2.2.1, hFok.2.2.2.2⟩
    have HER : Hid (ER w4 mv1 ov1 nv1 F.2) := her
    obtain ⟨p1, p2, _, _, rfl, hh⟩ := her.m
    clear hh
    obtain ⟨p3, p4, _, _, rfl, hh⟩ := her.o
    clear hh
    obtain ⟨p5, p6, _, _, rfl, hh⟩ := her.n
    clear hh
    obtain ⟨l1, hl1⟩ : ∃ l1, F.2.mem.length = l1 := ⟨_, rfl⟩
    obtain ⟨l2, hl2⟩ : ∃ l2, F.2.outs.length = l2 := ⟨_, rfl⟩
    obtain ⟨l3, hl3⟩ : ∃ l3, F.2.intos.length = l3 := ⟨_, rfl⟩
    have HLS : Hid (F.2.mem.length = l1 ∧ F.2.outs.length = l2 ∧ F.2.intos.length = l3) := ⟨hl1, hl2, hl3⟩
    rw [hl1, hl2, hl3] at HER ⊢
    unfold efV
    clear hb hr t0 t1 t2 t3 her hF hl1 hl2 hl3 hFok
    go_wp2_with fail
    refine (HRR.out (by omega) _ (HB3.out.trans ((HW4.out _).mono HB3.out.size))).mono ?_
    obtain ⟨W5, hW5⟩ : ∃ W5, w4.alloc (Obj.cells #[Value.slice p1 l1 p2, Value.slice p3 l2 p4, Value.slice p5 l3 p6, Value.int IntKind.i64 F.1.over, Value.int IntKind.i64 F.1.value, Value.int IntKind.i64 F.1.steps] 54) = W5 := ⟨_, rfl⟩
    obtain ⟨ab, hab⟩ : ∃ ab, w4.heap.size = ab := ⟨_, rfl⟩
    have HB5 : Hid (Below W3.heap.size W3 W5) := by rw [← hW5]; exact HW4.out _
    have HER5 : Hid (ER W5 (.slice p1 l1 p2) (.slice p3 l2 p4) (.slice p5 l3 p6) F.2) := by rw [← hW5]; exact HER.out.below ((Below.refl _ _).alloc (Nat.le_refl _) _)
    have HAB : Hid (W5.heap[ab]? = some (.cells #[Value.slice p1 l1 p2, Value.slice p3 l2 p4, Value.slice p5 l3 p6, Value.int IntKind.i64 F.1.over, Value.int IntKind.i64 F.1.value, Value.int IntKind.i64 F.1.steps] 54)) := by rw [← hW5, ← hab]; exact heap_alloc_new w4 _
    rw [hW5, hab]
    clear hW5 hab HW4 c0 c1 c2 c3 HER
    rintro e w6 (⟨er2, rfl, hr, hne2, hb⟩ | ⟨mv2, ov2, nv2, rfl, hr, her2, hb⟩)
    · exact absurd (hr.symm.trans HNE.out) hne2
    rw [HFE.out] at her2 ⊢
    have HER6 : Hid (ER w6 mv2 ov2 nv2 F.2) := her2
    have HERA : Hid (ER w6 (.slice p1 l1 p2) (.slice p3 l2 p4) (.slice p5 l3 p6) F.2) := HER5.out.below hb
    obtain ⟨q1, q2, _, _, rfl, hh⟩ := her2.m
    clear hh
    obtain ⟨q3, q4, _, _, rfl, hh⟩ := her2.o
    clear hh
    obtain ⟨q5, q6, _, _, rfl, hh⟩ := her2.n
    clear hh
    rw [HLS.out.1, HLS.out.2.1, HLS.out.2.2] at HER6 ⊢
    have HB6 : Hid (Below W3.heap.size W3 w6) := HB5.out.trans (hb.mono HB5.out.size)
    have hA6 : w6.heap[ab]? = _ := (hb.block _ (Array.getElem?_eq_some_iff.1 HAB.out).1).trans HAB.out
    have HW6 : Hid (∀ A, Below W3.heap.size W3 (w6.alloc A)) := fun A => HB6.out.alloc HB6.out.size _
    have u0 : ∀ A, (w6.alloc A).cell? ⟨ab, 0, none⟩ = some (.slice p1 l1 p2) := fun A => cell_alloc ((cell_of_row w6 _ 0 _ _ _ hA6).trans rfl) A
    have u1 : ∀ A, (w6.alloc A).cell? ⟨ab, 1, none⟩ = some (.slice p3 l2 p4) := fun A => cell_alloc ((cell_of_row w6 _ 1 _ _ _ hA6).trans rfl) A
    have u2 : ∀ A, (w6.alloc A).cell? ⟨ab, 2, none⟩ = some (.slice p5 l3 p6) := fun A => cell_alloc ((cell_of_row w6 _ 2 _ _ _ hA6).trans rfl) A
    have u3 : ∀ A, (w6.alloc A).cell? ⟨ab, 3, none⟩ = some (.int .i64 F.1.over) := fun A => cell_alloc ((cell_of_row w6 _ 3 _ _ _ hA6).trans rfl) A
    have u4 : ∀ A, (w6.alloc A).cell? ⟨ab, 4, none⟩ = some (.int .i64 F.1.value) := fun A => cell_alloc ((cell_of_row w6 _ 4 _ _ _ hA6).trans rfl) A
    have u5 : ∀ A, (w6.alloc A).cell? ⟨ab, 5, none⟩ = some (.int .i64 F.1.steps) := fun A => cell_alloc ((cell_of_row w6 _ 5 _ _ _ hA6).trans rfl) A
    have HRW : Hid (∀ V, Below W3.heap.size W3 V → Calls Try.prog 20 #[.slice (some ⟨ob + 1, 0, none⟩) 0 0, .slice none 0 0] V fun e w' => e = .returned (.bool true) ∧ Below V.heap.size V w') := fun V hV => row_same M _ _ (by rw [HML.out]; omega) V (HG3.out.below hV) (HGM.out.below (HB3.out.trans (hV.mono HB3.out.size)))
    have HSN : Hid (∀ A, Calls Try.prog 19 #[.agg (efV (.slice p1 l1 p2) (.slice p3 l2 p4) (.slice p5 l3 p6) F.1), .agg (efV (.slice q1 l1 q2) (.slice q3 l2 q4) (.slice q5 l3 q6) F.1), .bool true] (w6.alloc A) fun e w' => e = .returned (.bool true) ∧ Below (w6.alloc A).heap.size (w6.alloc A) w') := fun A => same_true _ _ _ _ _ _ F.1 F.2 HLN.out _ (HERA.out.below ((Below.refl _ _).alloc (Nat.le_refl _) _)) (HER6.out.below ((Below.refl _ _).alloc (Nat.le_refl _) _))
    unfold efV at HSN
    unfold efV
    clear hb hr her2 hA6
    go_wp2_with (first | (go_at_call 19; refine (HSN.out _).mono ?_; rintro e w7 ⟨rfl, hb7⟩; have HB7 : Hid (Below W3.heap.size W3 w7) := ((HW6.out _).trans (hb7.mono (HW6.out _).size)); obtain ⟨⟨s0, _, _, _⟩, s4⟩ := HXI.out w7 HB7.out; clear hb7) | (go_at_call 20; refine (HRW.out w7 HB7.out).mono ?_; rintro e w8 ⟨rfl, hb8⟩; have HB8 : Hid (Below W3.heap.size W3 w8) := (HB7.out.trans (hb8.mono HB7.out.size)); clear hb8) | (go_at_call 9; refine (alive_any _).mono ?_; rintro e w9 ⟨rfl, hb9⟩))
    go_ret
    have hw8 := HB3.out.trans (HB8.out.mono HB3.out.size)
    exact ⟨rfl, hw8.trans (hb9.mono hw8.size)⟩
  | some ma =>
    clear hnil
    obtain ⟨gad, gcap, gb, go, hge, hg2, hg3, hg4, hg5⟩ := HGM.out.below HB1.out
    injection hge with ge1 ge2 ge3
    subst ge1 ge3
    have HG5 : Hid (∀ i (h : i < M.length), W1.cell? (ma.add i) = some (.int .i64 M[i])) := fun i hi => by
      have := hg4 (by omega)
      injection this with this
      rw [this, addn]
      exact hg5 i hi
    clear ge2 hg4 hg5 hg2 hg3
    go_wp2_with (at_builtin; refine wpList_append_own_at _ rfl _ _ 25 rfl (W1.heap.size + 1) 2 i9 _ 1 8 Try.underlying25 hi9 hy0 hy1 hy2 rfl (by decide) _ 0 [] rfl ?d0 ma ml mcp (iE M) rfl ?dl ?d1 ?d2 ?d3 ?d4 ?d5 ?_)
    case d0 => exact ⟨rfl, Or.inr ⟨W1.heap.size + 1, 0, #[], rfl, Nat.le_refl _, by have := heap_alloc_new (W1.alloc (Obj.cells #[Value.slice (some ma) ml mcp, .int .i64 n, .int .i64 i, .int .i64 k] 49)) (Obj.cells #[] 2); rw [World.size_alloc] at this; exact this, Nat.le_refl _, by unfold maxLen; omega, rfl, rfl⟩⟩
    case dl => rw [iE_len, HML.out]; omega
    case d1 =>
      intro j u hu
      have hj : j < M.length := by
        rcases Nat.lt_or_ge j M.length with h | h
        · exact h
        · rw [List.getElem?_eq_none (by rw [iE_len]; exact h)] at hu; cases hu
      rw [iE_at M j hj] at hu
      injection hu with hu
      subst hu
      exact cell_alloc (cell_alloc (HG5.out j hj) _) _
    case d2 => intro u hu; simp [iE] at hu; obtain ⟨x, _, rfl⟩ := hu; rfl
    case d3 => unfold maxLen; omega
    case d4 => omega
    case d5 => simp
    intro v' w3 hown hg _ hob
    obtain ⟨a1, a2, a3, rfl⟩ := owns_slice hown
    obtain ⟨ob, hobe⟩ : ∃ ob, W1.heap.size = ob := ⟨_, rfl⟩
    have HBL : Hid (Below w.heap.size w w3) := by
      have h1 : Below W1.heap.size W1 w3 := ⟨hg.os, hg.tape, hg.output, Nat.le_trans (by simp; omega) hg.size, fun k hk => (hg.block k (by simp; omega) (by intro e; injection e with e; simp at e; omega)).trans ((Below.heap_alloc _ _ _ (by simp; omega)).trans (Below.heap_alloc _ _ _ hk))⟩
      exact HB1.out.trans (h1.mono HB1.out.size)
    have HIN : Hid (w3.heap[w.heap.size + 1]? = W1.heap[w.heap.size + 1]?) := (hg.block _ (by simp; omega) (by intro e; injection e with e; simp at e; omega)).trans ((Below.heap_alloc _ _ _ (by simp; omega)).trans (Below.heap_alloc _ _ _ hlt1))
    have HOB : Hid (w3.heap[ob]? = some (.cells #[Value.slice (some ma) ml mcp, .int .i64 n, .int .i64 i, .int .i64 k] 49)) := by rw [← hobe]; exact (hg.block _ (by simp; omega) (by intro e; injection e with e; simp at e)).trans ((Below.heap_alloc _ _ _ (by simp)).trans (heap_alloc_new W1 _))
    have HOW : Hid (w3.ownsRow (ob + 1) 2 1 (.slice a1 a2 a3) M.length (iE M)) := by rw [HML.out, ← hobe]; exact hown
    have hsz3 : ob + 1 < w3.heap.size := by have := hg.size; simp at this; omega
    rw [hobe] at hlt1
    rw [hobe]
    clear hown hg hob hobe x0' c0 c1 c2 c3

    have HXO : Hid (w3.heap[ob]? = some (.cells #[Value.slice (some ma) ml mcp, .int .i64 n, .int .i64 i, .int .i64 k] 49)) := HOB.out
    have z0 : w3.cell? ⟨ob, 0, none⟩ = some (.slice (some ma) ml mcp) := (cell_of_row w3 _ 0 _ _ _ HXO.out).trans rfl
    have zf : w3.frozen? ⟨ob, 0, none⟩ = false := frozen_of_row w3 ob 0 _ _ HXO.out
    have z1 : w3.cell? ⟨ob, 1, none⟩ = some (.int .i64 n) := (cell_of_row w3 _ 1 _ _ _ HXO.out).trans rfl
    have z2 : w3.cell? ⟨ob, 2, none⟩ = some (.int .i64 i) := (cell_of_row w3 _ 2 _ _ _ HXO.out).trans rfl
    have z3 : w3.cell? ⟨ob, 3, none⟩ = some (.int .i64 k) := (cell_of_row w3 _ 3 _ _ _ HXO.out).trans rfl
    obtain ⟨W3, hW3⟩ : ∃ W3, w3.setCell ⟨ob, 0, none⟩ (.slice a1 a2 a3) = W3 := ⟨_, rfl⟩
    have hobw : w.heap.size + 1 < ob := by omega
    have HB3 : Hid (Below w.heap.size w W3) := by rw [← hW3]; exact below_put HBL.out (by omega)
    have HG3 : Hid (GSl W3 (.slice a1 a2 a3) M) := by rw [← hW3]; exact gsl_own (B := ob + 1) (ownsRow_setCell_below HOW.out (by show ob < ob + 1; omega) _)
    have HXI : Hid (∀ V, Below W3.heap.size W3 V → (V.cell? ⟨w.heap.size + 1, 0, none⟩ = some (.slice (some ma) ml mcp) ∧ V.cell? ⟨w.heap.size + 1, 1, none⟩ = some (.int .i64 n) ∧ V.cell? ⟨w.heap.size + 1, 2, none⟩ = some (.int .i64 i) ∧ V.cell? ⟨w.heap.size + 1, 3, none⟩ = some (.int .i64 k)) ∧ V.cell? ⟨ob, 0, none⟩ = some (.slice a1 a2 a3)) := fun V hV => by
      have hb3 : W3.heap[w.heap.size + 1]? = W1.heap[w.heap.size + 1]? := by rw [← hW3, Below.heap_setCell _ _ _ _ (by show w.heap.size + 1 ≠ ob; omega)]; exact HIN.out
      have hl3 : w.heap.size + 1 < W3.heap.size := by have := HBL.out.size; rw [← hW3]; simp [World.setCell]; omega
      have hv1 : V.heap[w.heap.size + 1]? = W1.heap[w.heap.size + 1]? := (hV.block _ hl3).trans hb3
      have hc := HX.out W1 (Below.refl _ _)
      have ho : W3.heap[ob]? = some (.cells #[Value.slice a1 a2 a3, .int .i64 n, .int .i64 i, .int .i64 k] 49) := by rw [← hW3]; exact heap_setCell_same w3 ob 0 _ 49 _ HXO.out
      have ho2 : V.heap[ob]? = _ := (hV.block _ (Array.getElem?_eq_some_iff.1 ho).1).trans ho
      exact ⟨⟨(World.cell?_of_block (a := ⟨w.heap.size + 1, 0, none⟩) hv1).trans hc.1, (World.cell?_of_block (a := ⟨w.heap.size + 1, 1, none⟩) hv1).trans hc.2.1, (World.cell?_of_block (a := ⟨w.heap.size + 1, 2, none⟩) hv1).trans hc.2.2.1, (World.cell?_of_block (a := ⟨w.heap.size + 1, 3, none⟩) hv1).trans hc.2.2.2⟩, (cell_of_row V _ 0 _ _ _ ho2).trans rfl⟩
    have HW3 : Hid (w3.setCell ⟨ob, 0, none⟩ (.slice a1 a2 a3) = W3) := hW3
    clear hW3 HOW HIN
    go_wp2_with fail
    rw [HW3.out]
    clear HW3 z0 z1 z2 z3 zf
    refine (HR.out (by omega) W3 _ HB3.out HG3.out).mono ?_
    rintro e w4 (⟨er, rfl, hr, hne, hb⟩ | ⟨mv1, ov1, nv1, rfl, hr, her, hb⟩)
    · have HB4 : Hid (Below W3.heap.size W3 w4) := hb
      obtain ⟨⟨t0, t1, t2, t3⟩, _⟩ := HXI.out w4 hb
      have c0 := fun A => cell_alloc t0 A
      have c1 := fun A => cell_alloc t1 A
      have c2 := fun A => cell_alloc t2 A
      have c3 := fun A => cell_alloc t3 A
      have HNE : Hid (newE C cells M.length fuel = er ∧ er ≠ 0) := ⟨hr, hne⟩
      have HW4 : Hid (∀ A, Below W3.heap.size W3 (w4.alloc A)) := fun A => HB4.out.alloc HB4.out.size _
      unfold efZ
      clear hb hr hne t0 t1 t2 t3
      go_wp2_with fail
      refine (HRR.out (by omega) _ (HB3.out.trans ((HW4.out _).mono HB3.out.size))).mono ?_
      obtain ⟨W5, hW5⟩ : ∃ W5, w4.alloc (Obj.cells #[Value.slice none 0 0, Value.slice none 0 0, Value.slice none 0 0, Value.int IntKind.i64 0, Value.int IntKind.i64 0, Value.int IntKind.i64 0] 54) = W5 := ⟨_, rfl⟩
      obtain ⟨ab, hab⟩ : ∃ ab, w4.heap.size = ab := ⟨_, rfl⟩
      have HB5 : Hid (Below W3.heap.size W3 W5) := by rw [← hW5]; exact HW4.out _
      have HAB : Hid (W5.heap[ab]? = some (.cells #[Value.slice none 0 0, Value.slice none 0 0, Value.slice none 0 0, Value.int IntKind.i64 0, Value.int IntKind.i64 0, Value.int IntKind.i64 0] 54)) := by rw [← hW5, ← hab]; exact heap_alloc_new w4 _
      rw [hW5, hab]
      clear hW5 hab HW4 c0 c1 c2 c3
      rintro e w6 (⟨er2, rfl, hr, hne2, hb⟩ | ⟨mv2, ov2, nv2, rfl, hr, her2, hb⟩)
      · obtain rfl : er = er2 := HNE.out.1.symm.trans hr
        have HB6 : Hid (Below W3.heap.size W3 w6) := HB5.out.trans (hb.mono HB5.out.size)
        have hA6 : w6.heap[ab]? = _ := (hb.block _ (Array.getElem?_eq_some_iff.1 HAB.out).1).trans HAB.out
        have HW6 : Hid (∀ A, Below W3.heap.size W3 (w6.alloc A)) := fun A => HB6.out.alloc HB6.out.size _
        have u0 : ∀ A, (w6.alloc A).cell? ⟨ab, 0, none⟩ = some (.slice none 0 0) := fun A => cell_alloc ((cell_of_row w6 _ 0 _ _ _ hA6).trans rfl) A
        have u1 : ∀ A, (w6.alloc A).cell? ⟨ab, 1, none⟩ = some (.slice none 0 0) := fun A => cell_alloc ((cell_of_row w6 _ 1 _ _ _ hA6).trans rfl) A
        have u2 : ∀ A, (w6.alloc A).cell? ⟨ab, 2, none⟩ = some (.slice none 0 0) := fun A => cell_alloc ((cell_of_row w6 _ 2 _ _ _ hA6).trans rfl) A
        have u3 : ∀ A, (w6.alloc A).cell? ⟨ab, 3, none⟩ = some (.int .i64 0) := fun A => cell_alloc ((cell_of_row w6 _ 3 _ _ _ hA6).trans rfl) A
        have u4 : ∀ A, (w6.alloc A).cell? ⟨ab, 4, none⟩ = some (.int .i64 0) := fun A => cell_alloc ((cell_of_row w6 _ 4 _ _ _ hA6).trans rfl) A
        have u5 : ∀ A, (w6.alloc A).cell? ⟨ab, 5, none⟩ = some (.int .i64 0) := fun A => cell_alloc ((cell_of_row w6 _ 5 _ _ _ hA6).trans rfl) A
        have HRW : Hid (∀ V, Below W3.heap.size W3 V → Calls Try.prog 20 #[.slice a1 a2 a3, .slice (some ma) ml mcp] V fun e w' => e = .returned (.bool true) ∧ Below V.heap.size V w') := fun V hV => row_same M _ _ (by rw [HML.out]; omega) V (HG3.out.below hV) (HGM.out.below (HB3.out.trans (hV.mono HB3.out.size)))
        have hee : (er == er) = true := by simp
        have HSN : Hid (∀ V, Calls Try.prog 19 #[.agg efZ, .agg efZ, .bool true] V fun e w' => e = .returned (.bool true) ∧ Below V.heap.size V w') := fun V => same_nil V
        unfold efZ at HSN
        unfold efZ
        clear hb hr hne2 hA6
        go_wp2_with (first | (go_at_call 19; refine (HSN.out _).mono ?_; rintro e w7 ⟨rfl, hb7⟩; have HB7 : Hid (Below W3.heap.size W3 w7) := ((HW6.out _).trans (hb7.mono (HW6.out _).size)); obtain ⟨⟨s0, _, _, _⟩, s4⟩ := HXI.out w7 HB7.out; clear hb7) | (go_at_call 20; refine (HRW.out w7 HB7.out).mono ?_; rintro e w8 ⟨rfl, hb8⟩; have HB8 : Hid (Below W3.heap.size W3 w8) := (HB7.out.trans (hb8.mono HB7.out.size)); clear hb8) | (go_at_call 9; refine (alive_any _).mono ?_; rintro e w9 ⟨rfl, hb9⟩))
        go_ret
        have hw8 := HB3.out.trans (HB8.out.mono HB3.out.size)
        exact ⟨rfl, hw8.trans (hb9.mono hw8.size)⟩
      · exact absurd (HNE.out.1.symm.trans hr) HNE.out.2
    have HB4 : Hid (Below W3.heap.size W3 w4) := hb
    obtain ⟨⟨t0, t1, t2, t3⟩, _⟩ := HXI.out w4 hb
    have c0 := fun A => cell_alloc t0 A
    have c1 := fun A => cell_alloc t1 A
    have c2 := fun A => cell_alloc t2 A
    have c3 := fun A => cell_alloc t3 A
    have HNE : Hid (newE C cells M.length fuel = 0) := hr
    have HW4 : Hid (∀ A, Below W3.heap.size W3 (w4.alloc A)) := fun A => HB4.out.alloc HB4.out.size _
    have hFok := HL.out fuel hr
    obtain ⟨F, hF⟩ : ∃ F, lastS C M.length fuel n i k M = F := ⟨_, rfl⟩
    have HFE : Hid (lastS C M.length fuel n i k M = F) := hF
    rw [hF] at her hFok ⊢
    have HLN : Hid (F.2.mem.length ≤ 4000 ∧ F.2.outs.length ≤ 4000 ∧ F.2.intos.length ≤ 4000) := ⟨hFok.2.2.1, hFok.2.2.2.1, hFok.2.2.2.2⟩
    have HER : Hid (ER w4 mv1 ov1 nv1 F.2) := her
    obtain ⟨p1, p2, _, _, rfl, hh⟩ := her.m
    clear hh
    obtain ⟨p3, p4, _, _, rfl, hh⟩ := her.o
    clear hh
    obtain ⟨p5, p6, _, _, rfl, hh⟩ := her.n
    clear hh
    obtain ⟨l1, hl1⟩ : ∃ l1, F.2.mem.length = l1 := ⟨_, rfl⟩
    obtain ⟨l2, hl2⟩ : ∃ l2, F.2.outs.length = l2 := ⟨_, rfl⟩
    obtain ⟨l3, hl3⟩ : ∃ l3, F.2.intos.length = l3 := ⟨_, rfl⟩
    have HLS : Hid (F.2.mem.length = l1 ∧ F.2.outs.length = l2 ∧ F.2.intos.length = l3) := ⟨hl1, hl2, hl3⟩
    rw [hl1, hl2, hl3] at HER ⊢
    unfold efV
    clear hb hr t0 t1 t2 t3 her hF hl1 hl2 hl3 hFok
    go_wp2_with fail
    refine (HRR.out (by omega) _ (HB3.out.trans ((HW4.out _).mono HB3.out.size))).mono ?_
    obtain ⟨W5, hW5⟩ : ∃ W5, w4.alloc (Obj.cells #[Value.slice p1 l1 p2, Value.slice p3 l2 p4, Value.slice p5 l3 p6, Value.int IntKind.i64 F.1.over, Value.int IntKind.i64 F.1.value, Value.int IntKind.i64 F.1.steps] 54) = W5 := ⟨_, rfl⟩
    obtain ⟨ab, hab⟩ : ∃ ab, w4.heap.size = ab := ⟨_, rfl⟩
    have HB5 : Hid (Below W3.heap.size W3 W5) := by rw [← hW5]; exact HW4.out _
    have HER5 : Hid (ER W5 (.slice p1 l1 p2) (.slice p3 l2 p4) (.slice p5 l3 p6) F.2) := by rw [← hW5]; exact HER.out.below ((Below.refl _ _).alloc (Nat.le_refl _) _)
    have HAB : Hid (W5.heap[ab]? = some (.cells #[Value.slice p1 l1 p2, Value.slice p3 l2 p4, Value.slice p5 l3 p6, Value.int IntKind.i64 F.1.over, Value.int IntKind.i64 F.1.value, Value.int IntKind.i64 F.1.steps] 54)) := by rw [← hW5, ← hab]; exact heap_alloc_new w4 _
    rw [hW5, hab]
    clear hW5 hab HW4 c0 c1 c2 c3 HER
    rintro e w6 (⟨er2, rfl, hr, hne2, hb⟩ | ⟨mv2, ov2, nv2, rfl, hr, her2, hb⟩)
    · exact absurd (hr.symm.trans HNE.out) hne2
    rw [HFE.out] at her2 ⊢
    have HER6 : Hid (ER w6 mv2 ov2 nv2 F.2) := her2
    have HERA : Hid (ER w6 (.slice p1 l1 p2) (.slice p3 l2 p4) (.slice p5 l3 p6) F.2) := HER5.out.below hb
    obtain ⟨q1, q2, _, _, rfl, hh⟩ := her2.m
    clear hh
    obtain ⟨q3, q4, _, _, rfl, hh⟩ := her2.o
    clear hh
    obtain ⟨q5, q6, _, _, rfl, hh⟩ := her2.n
    clear hh
    rw [HLS.out.1, HLS.out.2.1, HLS.out.2.2] at HER6 ⊢
    have HB6 : Hid (Below W3.heap.size W3 w6) := HB5.out.trans (hb.mono HB5.out.size)
    have hA6 : w6.heap[ab]? = _ := (hb.block _ (Array.getElem?_eq_some_iff.1 HAB.out).1).trans HAB.out
    have HW6 : Hid (∀ A, Below W3.heap.size W3 (w6.alloc A)) := fun A => HB6.out.alloc HB6.out.size _
    have u0 : ∀ A, (w6.alloc A).cell? ⟨ab, 0, none⟩ = some (.slice p1 l1 p2) := fun A => cell_alloc ((cell_of_row w6 _ 0 _ _ _ hA6).trans rfl) A
    have u1 : ∀ A, (w6.alloc A).cell? ⟨ab, 1, none⟩ = some (.slice p3 l2 p4) := fun A => cell_alloc ((cell_of_row w6 _ 1 _ _ _ hA6).trans rfl) A
    have u2 : ∀ A, (w6.alloc A).cell? ⟨ab, 2, none⟩ = some (.slice p5 l3 p6) := fun A => cell_alloc ((cell_of_row w6 _ 2 _ _ _ hA6).trans rfl) A
    have u3 : ∀ A, (w6.alloc A).cell? ⟨ab, 3, none⟩ = some (.int .i64 F.1.over) := fun A => cell_alloc ((cell_of_row w6 _ 3 _ _ _ hA6).trans rfl) A
    have u4 : ∀ A, (w6.alloc A).cell? ⟨ab, 4, none⟩ = some (.int .i64 F.1.value) := fun A => cell_alloc ((cell_of_row w6 _ 4 _ _ _ hA6).trans rfl) A
    have u5 : ∀ A, (w6.alloc A).cell? ⟨ab, 5, none⟩ = some (.int .i64 F.1.steps) := fun A => cell_alloc ((cell_of_row w6 _ 5 _ _ _ hA6).trans rfl) A
    have HRW : Hid (∀ V, Below W3.heap.size W3 V → Calls Try.prog 20 #[.slice a1 a2 a3, .slice (some ma) ml mcp] V fun e w' => e = .returned (.bool true) ∧ Below V.heap.size V w') := fun V hV => row_same M _ _ (by rw [HML.out]; omega) V (HG3.out.below hV) (HGM.out.below (HB3.out.trans (hV.mono HB3.out.size)))
    have HSN : Hid (∀ A, Calls Try.prog 19 #[.agg (efV (.slice p1 l1 p2) (.slice p3 l2 p4) (.slice p5 l3 p6) F.1), .agg (efV (.slice q1 l1 q2) (.slice q3 l2 q4) (.slice q5 l3 q6) F.1), .bool true] (w6.alloc A) fun e w' => e = .returned (.bool true) ∧ Below (w6.alloc A).heap.size (w6.alloc A) w') := fun A => same_true _ _ _ _ _ _ F.1 F.2 HLN.out _ (HERA.out.below ((Below.refl _ _).alloc (Nat.le_refl _) _)) (HER6.out.below ((Below.refl _ _).alloc (Nat.le_refl _) _))
    unfold efV at HSN
    unfold efV
    clear hb hr her2 hA6
    go_wp2_with (first | (go_at_call 19; refine (HSN.out _).mono ?_; rintro e w7 ⟨rfl, hb7⟩; have HB7 : Hid (Below W3.heap.size W3 w7) := ((HW6.out _).trans (hb7.mono (HW6.out _).size)); obtain ⟨⟨s0, _, _, _⟩, s4⟩ := HXI.out w7 HB7.out; clear hb7) | (go_at_call 20; refine (HRW.out w7 HB7.out).mono ?_; rintro e w8 ⟨rfl, hb8⟩; have HB8 : Hid (Below W3.heap.size W3 w8) := (HB7.out.trans (hb8.mono HB7.out.size)); clear hb8) | (go_at_call 9; refine (alive_any _).mono ?_; rintro e w9 ⟨rfl, hb9⟩))
    go_ret
    have hw8 := HB3.out.trans (HB8.out.mono HB3.out.size)
    exact ⟨rfl, hw8.trans (hb9.mono hw8.size)⟩
end Go.Proofs.Ytkcncngcmhldpaa
