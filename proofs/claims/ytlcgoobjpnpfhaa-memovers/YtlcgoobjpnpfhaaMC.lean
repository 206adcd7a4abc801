/- Whatever is set, asked and cleared: the walk of the law on overlays. -/
import Derived.Test.YtlcgoobjpnpfhaaMB
namespace Go.Proofs.Ytlcgoobjpnpfhaa
open Go.RowKit Go.Maps
set_option linter.unusedVariables false

/-- a call of an overlay -/
structure OpX where
  kind : Int
  pos : Int
  val : Int
def opC (x : OpX) : List Value := [.int .i64 x.kind, .int .i64 x.pos, .int .i64 x.val]
def TSl (w : World) (v : Value) (G : List OpX) : Prop :=
  ∃ a c b o, v = .slice a G.length c ∧ G.length ≤ c ∧ c ≤ maxLen ∧ (0 < G.length → a = some ⟨b, o, none⟩) ∧ ∀ i (h : i < G.length), w.cell? ⟨b, o + i * 3, none⟩ = some (.int .i64 G[i].kind) ∧ w.cell? ⟨b, o + (i * 3 + 1), none⟩ = some (.int .i64 G[i].pos) ∧ w.cell? ⟨b, o + (i * 3 + 2), none⟩ = some (.int .i64 G[i].val)
/-- which call it is -/
theorem kind_facts (k : Int) : ∃ (r : Int) (t : Nat), Int.tmod k 3 = r ∧ -3 < r ∧ r < 3 ∧ Int.tmod (r + 3) 3 = (t : Int) ∧ t < 3 := by
  have hp : (0 : Int) < 3 := by omega
  have h1 := Int.tmod_lt_of_pos k hp
  have h2 : -3 < Int.tmod k 3 := by
    rcases Int.le_total 0 k with h | h
    · have := Int.tmod_nonneg 3 h; omega
    · have e : Int.tmod k 3 = -(Int.tmod (-k) 3) := by rw [Int.neg_tmod]; omega
      have := Int.tmod_lt_of_pos (-k) hp
      omega
  refine ⟨_, (Int.tmod (Int.tmod k 3 + 3) 3).toNat, rfl, h2, h1, ?_, ?_⟩
  · have := Int.tmod_nonneg 3 (show 0 ≤ Int.tmod k 3 + 3 by omega)
    omega
  · have := Int.tmod_lt_of_pos (Int.tmod k 3 + 3) hp
    omega
theorem allL_len (S : List (Int × Int)) : (allL S).length ≤ 64 := allQ_len S 64

set_option maxRecDepth 100000 in
set_option maxHeartbeats 8000000 in
theorem overs_walk (G : List OpX) (v : Value) (w : World) (hv : TSl w v G) : Calls Try.prog 6 #[v] w fun e w' => e = .returned (.bool true) ∧ Below w.heap.size w w' := by
  obtain ⟨a1, c1, b1, o1, rfl, l2, l3, l4, l5⟩ := hv
  obtain ⟨N, hN⟩ : ∃ N, G.length = N := ⟨_, rfl⟩
  have HN : Hid (G.length = N) := hN
  have L5 : Hid (∀ i (h : i < G.length), w.cell? ⟨b1, o1 + i * 3, none⟩ = some (.int .i64 G[i].kind) ∧ w.cell? ⟨b1, o1 + (i * 3 + 1), none⟩ = some (.int .i64 G[i].pos) ∧ w.cell? ⟨b1, o1 + (i * 3 + 2), none⟩ = some (.int .i64 G[i].val)) := l5
  have L4 : Hid (0 < G.length → a1 = some ⟨b1, o1, none⟩) := l4
  rw [hN] at l2 ⊢
  unfold maxLen at l3
  clear hN l4 l5
  by_cases h1 : 500 < N
  · have e1 : decide (500 < (N : Int)) = true := by simp; omega
    go_enter Try.func6, Try.ntmps6
    go_wp2
    go_ret
    exact ⟨rfl, Below.refl _ _⟩
  have e1 : decide (500 < (N : Int)) = false := by simp; omega
  have HO0 : Hid (OV (w.alloc (Obj.cells ovZ 42)) w.heap.size []) := OV.new w
  have HB0 : Hid (Below w.heap.size w (w.alloc (Obj.cells ovZ 42))) := (Below.refl _ _).alloc (Nat.le_refl _) _
  have hz42 : ∀ W, (zeroValue 42).run Try.prog W = .ok (.agg ovZ) W := zero42
  go_enter Try.func6, Try.ntmps6
  go_wp2_with fail
  go_loopw [4, 5] (fun av i wr => ∃ (q m : Nat) (oa : Option Addr) (oc : Nat) (S : List (Int × Int)), i = .int .i64 (q : Int) ∧ av = .slice oa m oc ∧ q ≤ N ∧ Hid (m = S.length ∧ m ≤ q) ∧ Hid (PZ wr (w.heap.size + 1) (.slice oa m oc) S) ∧ Hid (OV wr w.heap.size S) ∧ Hid (Below w.heap.size w wr)) (fun _ i _ => N - (intOf i).toNat)
  case atStart => exact ⟨0, 0, none, 0, [], rfl, rfl, Nat.zero_le _, ⟨rfl, Nat.le_refl _⟩, PZ.nil _ _, HO0, HB0⟩
  case round =>
    clear HO0 HB0 hz42
    obtain ⟨q, m, oa, oc, S, rfl, rfl, hq, HML, HI, HO, HB⟩ := hrel
    by_cases hlt : q < N
    · have q1 : q < G.length := by rw [HN.out]; exact hlt
      obtain rfl := L4.out (by omega)
      obtain ⟨z, hz⟩ : ∃ z, G[q] = z := ⟨_, rfl⟩
      obtain ⟨kd, x, y⟩ := z
      have hc := L5.out q q1
      rw [hz] at hc
      have d1 : wr.cell? ⟨b1, o1 + q * 3, none⟩ = some (.int .i64 kd) := (HB.out.cell (p := ⟨b1, o1 + q * 3, none⟩) (World.block_lt_of_cell? w _ hc.1)).trans hc.1
      have d2 : wr.cell? ⟨b1, o1 + q * 3 + 1, none⟩ = some (.int .i64 x) := (HB.out.cell (p := ⟨b1, o1 + (q * 3 + 1), none⟩) (World.block_lt_of_cell? w _ hc.2.1)).trans hc.2.1
      have d3 : wr.cell? ⟨b1, o1 + q * 3 + 2, none⟩ = some (.int .i64 y) := (HB.out.cell (p := ⟨b1, o1 + (q * 3 + 2), none⟩) (World.block_lt_of_cell? w _ hc.2.2)).trans hc.2.2
      have e3 : decide ((q : Int) < (N : Int)) = true := by simp; omega
      obtain ⟨r, t, t1, t2, t3, t4, t5⟩ := kind_facts kd
      obtain ⟨V, hV⟩ : ∃ V, wr.alloc (Obj.cells #[Value.int IntKind.i64 kd, Value.int IntKind.i64 x, Value.int IntKind.i64 y] 44) = V := ⟨_, rfl⟩
      have HBV : Hid (Below w.heap.size w V) := by rw [← hV]; exact HB.out.alloc HB.out.size _
      have HOV : Hid (OV V w.heap.size S) := by rw [← hV]; exact HO.out.below ((Below.refl _ _).alloc (Nat.le_refl _) _)
      have HIV : Hid (PZ V (w.heap.size + 1) (.slice oa m oc) S) := by rw [← hV]; exact HI.out.below ((Below.refl _ _).alloc (Nat.le_refl _) _)
      have hgt : w.heap.size < wr.heap.size := HO.out.lt
      have HCV : Hid (∀ W, Ch (fun k => k < wr.heap.size) V W → W.cell? ⟨wr.heap.size, 1, none⟩ = some (.int .i64 x) ∧ W.cell? ⟨wr.heap.size, 2, none⟩ = some (.int .i64 y)) := fun W hW => by
        have hs : wr.heap.size < V.heap.size := by rw [← hV]; simp
        have hb := hW.block wr.heap.size hs (Nat.lt_irrefl _)
        refine ⟨(World.cell?_of_block (a := ⟨wr.heap.size, 1, none⟩) hb).trans ?_, (World.cell?_of_block (a := ⟨wr.heap.size, 2, none⟩) hb).trans ?_⟩ <;> (rw [← hV]; simp)
      have v0 : V.cell? ⟨wr.heap.size, 0, none⟩ = some (.int .i64 kd) := by rw [← hV]; simp
      have HV : Hid (wr.alloc (Obj.cells #[Value.int IntKind.i64 kd, Value.int IntKind.i64 x, Value.int IntKind.i64 y] 44) = V) := hV
      have HGT : Hid (w.heap.size < wr.heap.size) := hgt
      have HSL : Hid (S.length ≤ 1000) := by show _ ≤ _; have := HML.out; omega
      clear hV hz hc hgt
      obtain ⟨v1, v2⟩ := HCV.out V (Ch.refl _ _)
      match t, t5, t4 with
      | 0, _, t4 =>
        have t6 : Int.tmod (r + 3) 3 = 0 := t4
        clear t4 t5
        by_cases hx0 : 0 ≤ x
        · have e4 : decide (0 ≤ x) = true := by simp [hx0]
          by_cases hx64 : x < 64
          · have e5 : decide (x < 64) = true := by simp [hx64]
            have HSET : Hid (Calls Try.prog 20 #[.pointer (some ⟨w.heap.size, 0, none⟩), .int .i64 x, .int .i64 y] V fun e w' => e = .returned (.bool true) ∧ OV w' w.heap.size (S ++ [(x, y)]) ∧ Ch (fun k => k = w.heap.size) V w') := by
              refine (oset_any w.heap.size S x y V HOV.out).mono ?_
              rintro e w' ⟨rfl, h5, h6⟩
              have hwt : withinB x 64 = true := by unfold withinB; simp; omega
              rw [hwt, if_pos rfl] at h5
              rw [hwt]
              exact ⟨rfl, h5, h6⟩
            go_wp2_with fail
            rw [HV.out]
            refine HSET.out.mono ?_
            rintro e W5 ⟨rfl, h5, h6⟩
            obtain ⟨u1, u2⟩ := HCV.out W5 (h6.mono (fun k hk => by have := HGT.out; omega))
            have HI5 : Hid (PZ (W5.alloc (Obj.cells #[Value.int .i64 x, Value.int .i64 y] 47)) (w.heap.size + 1) (.slice oa m oc) S) := (HIV.out.keep (fun k hk hlt => h6.block k hlt (fun e => by omega))).below ((Below.refl _ _).alloc (Nat.le_refl _) _)
            have HB5 : Hid (Below w.heap.size w (W5.alloc (Obj.cells #[Value.int .i64 x, Value.int .i64 y] 47))) := (HBV.out.trans (h6.below HBV.out.size (fun k hk => by omega))).alloc (Nat.le_trans HBV.out.size h6.size) _
            have HO5 : Hid (OV (W5.alloc (Obj.cells #[Value.int .i64 x, Value.int .i64 y] 47)) w.heap.size (S ++ [(x, y)])) := h5.keep (Below.heap_alloc _ _ _ h5.lt)
            have HCL : Hid ((W5.alloc (Obj.cells #[Value.int .i64 x, Value.int .i64 y] 47)).cell? ⟨W5.heap.size, 0, none⟩ = some (.int .i64 x) ∧ (W5.alloc (Obj.cells #[Value.int .i64 x, Value.int .i64 y] 47)).cell? ⟨W5.heap.size, 1, none⟩ = some (.int .i64 y)) := by show _ ∧ _; constructor <;> simp
            have HBS : Hid (w.heap.size + 1 ≤ (W5.alloc (Obj.cells #[Value.int .i64 x, Value.int .i64 y] 47)).heap.size) := by have := h5.lt; show _ ≤ _; simp; omega
            have HLS : Hid (S.length ≤ 100000) := by show _ ≤ _; have := HSL.out; omega
            clear h5 h6 v0 v1 v2
            go_wp2_with (at_builtin; refine push_pair _ rfl _ _ rfl (w.heap.size + 1) _ S x y rfl HI5.out W5.heap.size rfl HCL.out HLS.out HBS.out ?_)
            intro v' W6 hi6 hb6
            have HO6 : Hid (OV W6 w.heap.size (S ++ [(x, y)])) := HO5.out.keep (hb6.block w.heap.size (by omega))
            have HB6 : Hid (Below w.heap.size w W6) := HB5.out.trans (hb6.mono (by omega))
            obtain ⟨oa', oc', hv'⟩ := hi6.sl
            rw [hv'] at hi6
            rw [hv']
            obtain ⟨m', hm'⟩ : ∃ m', (S ++ [(x, y)]).length = m' := ⟨_, rfl⟩
            rw [hm'] at hi6 ⊢
            have HL6 : Hid (m' = (S ++ [(x, y)]).length ∧ m' ≤ q + 1) := ⟨hm'.symm, by rw [← hm', List.length_append]; have := HML.out; simp; omega⟩
            have HI6 : Hid (PZ W6 (w.heap.size + 1) (.slice oa' m' oc') (S ++ [(x, y)])) := hi6
            clear hi6 hb6 hv' hm'
            have HSLa : Hid ((S ++ [(x, y)]).length ≤ 100000) := by show _ ≤ _; have := HL6.out; omega
            have HRAa : Hid (Calls Try.prog 24 #[.slice oa' m' oc'] W6 (DiffP (allL (S ++ [(x, y)])) W6)) := rall_any (S ++ [(x, y)]) _ HSLa.out W6 HI6.out.psl
            obtain ⟨na, hna⟩ : ∃ n, (allL (S ++ [(x, y)])).length = n := ⟨_, rfl⟩
            have HNNa : Hid ((allL (S ++ [(x, y)])).length = na) := hna
            clear hna
            go_wp2_with fail
            refine HRAa.out.mono ?_
            rintro e x6 ⟨ca, cc, rfl, hp6, hb6⟩
            rw [HNNa.out] at hp6 ⊢
            have HO6a : Hid (OV x6 w.heap.size (S ++ [(x, y)])) := HO6.out.below hb6
            have HI6a : Hid (PZ x6 (w.heap.size + 1) (.slice oa' m' oc') (S ++ [(x, y)])) := HI6.out.below hb6
            have HB6a : Hid (Below w.heap.size w x6) := HB6.out.trans (hb6.mono HB6.out.size)
            have HP6a : Hid (PSl x6 (.slice ca na cc) (allL (S ++ [(x, y)]))) := hp6.psl
            have HLEa : Hid (Calls Try.prog 25 #[.pointer (some ⟨w.heap.size, 0, none⟩)] x6 fun e w' => e = .returned (.int .i64 (na : Int)) ∧ w' = x6) := by rw [← HNNa.out]; exact olen_any w.heap.size (S ++ [(x, y)]) x6 HO6a.out
            have HCEa : Hid (Calls Try.prog 26 #[.pointer (some ⟨w.heap.size, 0, none⟩)] x6 (DiffP (allL (S ++ [(x, y)])) x6)) := ocells_any w.heap.size (S ++ [(x, y)]) x6 HO6a.out
            have hnea : ((na : Int) != (na : Int)) = false := by simp
            clear hp6 hb6
            go_wp2_with fail
            refine HLEa.out.mono ?_
            rintro e x7 ⟨rfl, hx7⟩
            rw [hx7]
            clear hx7 x7
            go_wp2_with fail
            refine HCEa.out.mono ?_
            rintro e x8 ⟨da, dc, rfl, hp8, hb8⟩
            rw [HNNa.out] at hp8 ⊢
            have HSAa : Hid (Calls Try.prog 15 #[.slice da na dc, .slice ca na cc] x8 fun e w' => e = .returned (.bool true) ∧ Below x8.heap.size x8 w') := same_any (allL (S ++ [(x, y)])) _ _ (by have := allL_len (S ++ [(x, y)]); omega) x8 hp8.psl (HP6a.out.below hb8)
            have HO8a : Hid (OV x8 w.heap.size (S ++ [(x, y)])) := HO6a.out.below hb8
            have HI8a : Hid (PZ x8 (w.heap.size + 1) (.slice oa' m' oc') (S ++ [(x, y)])) := HI6a.out.below hb8
            have HB8a : Hid (Below w.heap.size w x8) := HB6a.out.trans (hb8.mono HB6a.out.size)
            clear hp8 hb8
            go_wp2_with fail
            refine HSAa.out.mono ?_
            rintro e x9 ⟨rfl, hb9⟩
            have HO9a : Hid (OV x9 w.heap.size (S ++ [(x, y)])) := HO8a.out.below hb9
            have HI9a : Hid (PZ x9 (w.heap.size + 1) (.slice oa' m' oc') (S ++ [(x, y)])) := HI8a.out.below hb9
            have HB9a : Hid (Below w.heap.size w x9) := HB8a.out.trans (hb9.mono HB8a.out.size)
            clear hb9
            go_wp2_with fail
            go_roundw
            case rel => exact ⟨q + 1, m', oa', oc', S ++ [(x, y)], by go_num, rfl, by omega, HL6, HI9a, HO9a, HB9a⟩
            case measure => simp [intOf]; omega
          · have e5 : decide (x < 64) = false := by simp; omega
            have HSET : Hid (Calls Try.prog 20 #[.pointer (some ⟨w.heap.size, 0, none⟩), .int .i64 x, .int .i64 y] V fun e w' => e = .returned (.bool false) ∧ OV w' w.heap.size S ∧ Ch (fun k => k = w.heap.size) V w') := by
              refine (oset_any w.heap.size S x y V HOV.out).mono ?_
              rintro e w' ⟨rfl, h5, h6⟩
              have hwf : withinB x 64 = false := by unfold withinB; simp; omega
              rw [hwf, if_neg (by decide)] at h5
              rw [hwf]
              exact ⟨rfl, h5, h6⟩
            go_wp2_with fail
            rw [HV.out]
            refine HSET.out.mono ?_
            rintro e W5 ⟨rfl, h5, h6⟩
            have HO5 : Hid (OV W5 w.heap.size S) := h5
            have HI5 : Hid (PZ W5 (w.heap.size + 1) (.slice oa m oc) S) := HIV.out.keep (fun k hk hlt => h6.block k hlt (fun e => by omega))
            have HB5 : Hid (Below w.heap.size w W5) := HBV.out.trans (h6.below HBV.out.size (fun k hk => by omega))
            have HL5 : Hid (m = S.length ∧ m ≤ q + 1) := ⟨HML.out.1, by have := HML.out.2; omega⟩
            clear h5 h6 v0 v1 v2
            have HSLb : Hid ((S).length ≤ 100000) := by show _ ≤ _; have := HL5.out; omega
            have HRAb : Hid (Calls Try.prog 24 #[.slice oa m oc] W5 (DiffP (allL (S)) W5)) := rall_any (S) _ HSLb.out W5 HI5.out.psl
            obtain ⟨nb, hnb⟩ : ∃ n, (allL (S)).length = n := ⟨_, rfl⟩
            have HNNb : Hid ((allL (S)).length = nb) := hnb
            clear hnb
            go_wp2_with fail
            refine HRAb.out.mono ?_
            rintro e x6 ⟨ca, cc, rfl, hp6, hb6⟩
            rw [HNNb.out] at hp6 ⊢
            have HO6b : Hid (OV x6 w.heap.size (S)) := HO5.out.below hb6
            have HI6b : Hid (PZ x6 (w.heap.size + 1) (.slice oa m oc) (S)) := HI5.out.below hb6
            have HB6b : Hid (Below w.heap.size w x6) := HB5.out.trans (hb6.mono HB5.out.size)
            have HP6b : Hid (PSl x6 (.slice ca nb cc) (allL (S))) := hp6.psl
            have HLEb : Hid (Calls Try.prog 25 #[.pointer (some ⟨w.heap.size, 0, none⟩)] x6 fun e w' => e = .returned (.int .i64 (nb : Int)) ∧ w' = x6) := by rw [← HNNb.out]; exact olen_any w.heap.size (S) x6 HO6b.out
            have HCEb : Hid (Calls Try.prog 26 #[.pointer (some ⟨w.heap.size, 0, none⟩)] x6 (DiffP (allL (S)) x6)) := ocells_any w.heap.size (S) x6 HO6b.out
            have hneb : ((nb : Int) != (nb : Int)) = false := by simp
            clear hp6 hb6
            go_wp2_with fail
            refine HLEb.out.mono ?_
            rintro e x7 ⟨rfl, hx7⟩
            rw [hx7]
            clear hx7 x7
            go_wp2_with fail
            refine HCEb.out.mono ?_
            rintro e x8 ⟨da, dc, rfl, hp8, hb8⟩
            rw [HNNb.out] at hp8 ⊢
            have HSAb : Hid (Calls Try.prog 15 #[.slice da nb dc, .slice ca nb cc] x8 fun e w' => e = .returned (.bool true) ∧ Below x8.heap.size x8 w') := same_any (allL (S)) _ _ (by have := allL_len (S); omega) x8 hp8.psl (HP6b.out.below hb8)
            have HO8b : Hid (OV x8 w.heap.size (S)) := HO6b.out.below hb8
            have HI8b : Hid (PZ x8 (w.heap.size + 1) (.slice oa m oc) (S)) := HI6b.out.below hb8
            have HB8b : Hid (Below w.heap.size w x8) := HB6b.out.trans (hb8.mono HB6b.out.size)
            clear hp8 hb8
            go_wp2_with fail
            refine HSAb.out.mono ?_
            rintro e x9 ⟨rfl, hb9⟩
            have HO9b : Hid (OV x9 w.heap.size (S)) := HO8b.out.below hb9
            have HI9b : Hid (PZ x9 (w.heap.size + 1) (.slice oa m oc) (S)) := HI8b.out.below hb9
            have HB9b : Hid (Below w.heap.size w x9) := HB8b.out.trans (hb9.mono HB8b.out.size)
            clear hb9
            go_wp2_with fail
            go_roundw
            case rel => exact ⟨q + 1, m, oa, oc, S, by go_num, rfl, by omega, HL5, HI9b, HO9b, HB9b⟩
            case measure => simp [intOf]; omega
        · have e4 : decide (0 ≤ x) = false := by simp; omega
          have HSET : Hid (Calls Try.prog 20 #[.pointer (some ⟨w.heap.size, 0, none⟩), .int .i64 x, .int .i64 y] V fun e w' => e = .returned (.bool false) ∧ OV w' w.heap.size S ∧ Ch (fun k => k = w.heap.size) V w') := by
            refine (oset_any w.heap.size S x y V HOV.out).mono ?_
            rintro e w' ⟨rfl, h5, h6⟩
            have hwf : withinB x 64 = false := by unfold withinB; simp; omega
            rw [hwf, if_neg (by decide)] at h5
            rw [hwf]
            exact ⟨rfl, h5, h6⟩
          go_wp2_with fail
          rw [HV.out]
          refine HSET.out.mono ?_
          rintro e W5 ⟨rfl, h5, h6⟩
          have HO5 : Hid (OV W5 w.heap.size S) := h5
          have HI5 : Hid (PZ W5 (w.heap.size + 1) (.slice oa m oc) S) := HIV.out.keep (fun k hk hlt => h6.block k hlt (fun e => by omega))
          have HB5 : Hid (Below w.heap.size w W5) := HBV.out.trans (h6.below HBV.out.size (fun k hk => by omega))
          have HL5 : Hid (m = S.length ∧ m ≤ q + 1) := ⟨HML.out.1, by have := HML.out.2; omega⟩
          clear h5 h6 v0 v1 v2
          have HSLc : Hid ((S).length ≤ 100000) := by show _ ≤ _; have := HL5.out; omega
          have HRAc : Hid (Calls Try.prog 24 #[.slice oa m oc] W5 (DiffP (allL (S)) W5)) := rall_any (S) _ HSLc.out W5 HI5.out.psl
          obtain ⟨nc, hnc⟩ : ∃ n, (allL (S)).length = n := ⟨_, rfl⟩
          have HNNc : Hid ((allL (S)).length = nc) := hnc
          clear hnc
          go_wp2_with fail
          refine HRAc.out.mono ?_
          rintro e x6 ⟨ca, cc, rfl, hp6, hb6⟩
          rw [HNNc.out] at hp6 ⊢
          have HO6c : Hid (OV x6 w.heap.size (S)) := HO5.out.below hb6
          have HI6c : Hid (PZ x6 (w.heap.size + 1) (.slice oa m oc) (S)) := HI5.out.below hb6
          have HB6c : Hid (Below w.heap.size w x6) := HB5.out.trans (hb6.mono HB5.out.size)
          have HP6c : Hid (PSl x6 (.slice ca nc cc) (allL (S))) := hp6.psl
          have HLEc : Hid (Calls Try.prog 25 #[.pointer (some ⟨w.heap.size, 0, none⟩)] x6 fun e w' => e = .returned (.int .i64 (nc : Int)) ∧ w' = x6) := by rw [← HNNc.out]; exact olen_any w.heap.size (S) x6 HO6c.out
          have HCEc : Hid (Calls Try.prog 26 #[.pointer (some ⟨w.heap.size, 0, none⟩)] x6 (DiffP (allL (S)) x6)) := ocells_any w.heap.size (S) x6 HO6c.out
          have hnec : ((nc : Int) != (nc : Int)) = false := by simp
          clear hp6 hb6
          go_wp2_with fail
          refine HLEc.out.mono ?_
          rintro e x7 ⟨rfl, hx7⟩
          rw [hx7]
          clear hx7 x7
          go_wp2_with fail
          refine HCEc.out.mono ?_
          rintro e x8 ⟨da, dc, rfl, hp8, hb8⟩
          rw [HNNc.out] at hp8 ⊢
          have HSAc : Hid (Calls Try.prog 15 #[.slice da nc dc, .slice ca nc cc] x8 fun e w' => e = .returned (.bool true) ∧ Below x8.heap.size x8 w') := same_any (allL (S)) _ _ (by have := allL_len (S); omega) x8 hp8.psl (HP6c.out.below hb8)
          have HO8c : Hid (OV x8 w.heap.size (S)) := HO6c.out.below hb8
          have HI8c : Hid (PZ x8 (w.heap.size + 1) (.slice oa m oc) (S)) := HI6c.out.below hb8
          have HB8c : Hid (Below w.heap.size w x8) := HB6c.out.trans (hb8.mono HB6c.out.size)
          clear hp8 hb8
          go_wp2_with fail
          refine HSAc.out.mono ?_
          rintro e x9 ⟨rfl, hb9⟩
          have HO9c : Hid (OV x9 w.heap.size (S)) := HO8c.out.below hb9
          have HI9c : Hid (PZ x9 (w.heap.size + 1) (.slice oa m oc) (S)) := HI8c.out.below hb9
          have HB9c : Hid (Below w.heap.size w x9) := HB8c.out.trans (hb9.mono HB8c.out.size)
          clear hb9
          go_wp2_with fail
          go_roundw
          case rel => exact ⟨q + 1, m, oa, oc, S, by go_num, rfl, by omega, HL5, HI9c, HO9c, HB9c⟩
          case measure => simp [intOf]; omega
      | 1, _, t4 =>
        have t6 : Int.tmod (r + 3) 3 = 1 := t4
        clear t4 t5
        obtain ⟨gv, hgv⟩ : ∃ gv, (overO S x).getD 0 = gv := ⟨_, rfl⟩
        obtain ⟨gb, hgb⟩ : ∃ gb, (overO S x).isSome = gb := ⟨_, rfl⟩
        have HGE : Hid (Calls Try.prog 21 #[.pointer (some ⟨w.heap.size, 0, none⟩), .int .i64 x] V fun e w' => e = .returned (.tuple #[.int .i64 gv, .bool gb]) ∧ Below V.heap.size V w') := by
          refine (oget_any w.heap.size S x V HOV.out).mono ?_
          rintro e w' ⟨rfl, h5⟩
          rw [hgv, hgb]
          exact ⟨rfl, h5⟩
        have HRG : Hid (∀ W, PSl W (.slice oa m oc) S → Calls Try.prog 22 #[.slice oa m oc, .int .i64 x] W fun e w' => e = .returned (.tuple #[.int .i64 gv, .bool gb]) ∧ Below W.heap.size W w') := fun W hW => by
          refine (rover_any S _ x (by have := HSL.out; omega) W hW).mono ?_
          rintro e w' ⟨rfl, h5⟩
          rw [hgv, hgb]
          exact ⟨rfl, h5⟩
        have g1 : (gv != gv) = false := by simp
        have g2 : (gb != gb) = false := by simp
        clear hgv hgb
        go_wp2_with fail
        rw [HV.out]
        refine HGE.out.mono ?_
        rintro e W4 ⟨rfl, h5⟩
        have u1 : W4.cell? ⟨wr.heap.size, 1, none⟩ = some (.int .i64 x) := (h5.cell (p := ⟨wr.heap.size, 1, none⟩) (World.block_lt_of_cell? V _ v1)).trans v1
        have HO4 : Hid (OV W4 w.heap.size S) := HOV.out.below h5
        have HI4 : Hid (PZ W4 (w.heap.size + 1) (.slice oa m oc) S) := HIV.out.below h5
        have HB4 : Hid (Below w.heap.size w W4) := HBV.out.trans (h5.mono HBV.out.size)
        have HRG4 : Hid (Calls Try.prog 22 #[.slice oa m oc, .int .i64 x] W4 fun e w' => e = .returned (.tuple #[.int .i64 gv, .bool gb]) ∧ Below W4.heap.size W4 w') := HRG.out W4 HI4.out.psl
        clear h5 v0 v1 v2
        go_wp2_with fail
        refine HRG4.out.mono ?_
        rintro e W5 ⟨rfl, h5⟩
        have HO5 : Hid (OV W5 w.heap.size S) := HO4.out.below h5
        have HI5 : Hid (PZ W5 (w.heap.size + 1) (.slice oa m oc) S) := HI4.out.below h5
        have HB5 : Hid (Below w.heap.size w W5) := HB4.out.trans (h5.mono HB4.out.size)
        have HL5 : Hid (m = S.length ∧ m ≤ q + 1) := ⟨HML.out.1, by have := HML.out.2; omega⟩
        clear h5
        have HSLd : Hid ((S).length ≤ 100000) := by show _ ≤ _; have := HL5.out; omega
        have HRAd : Hid (Calls Try.prog 24 #[.slice oa m oc] W5 (DiffP (allL (S)) W5)) := rall_any (S) _ HSLd.out W5 HI5.out.psl
        obtain ⟨nd, hnd⟩ : ∃ n, (allL (S)).length = n := ⟨_, rfl⟩
        have HNNd : Hid ((allL (S)).length = nd) := hnd
        clear hnd
        go_wp2_with fail
        refine HRAd.out.mono ?_
        rintro e x6 ⟨ca, cc, rfl, hp6, hb6⟩
        rw [HNNd.out] at hp6 ⊢
        have HO6d : Hid (OV x6 w.heap.size (S)) := HO5.out.below hb6
        have HI6d : Hid (PZ x6 (w.heap.size + 1) (.slice oa m oc) (S)) := HI5.out.below hb6
        have HB6d : Hid (Below w.heap.size w x6) := HB5.out.trans (hb6.mono HB5.out.size)
        have HP6d : Hid (PSl x6 (.slice ca nd cc) (allL (S))) := hp6.psl
        have HLEd : Hid (Calls Try.prog 25 #[.pointer (some ⟨w.heap.size, 0, none⟩)] x6 fun e w' => e = .returned (.int .i64 (nd : Int)) ∧ w' = x6) := by rw [← HNNd.out]; exact olen_any w.heap.size (S) x6 HO6d.out
        have HCEd : Hid (Calls Try.prog 26 #[.pointer (some ⟨w.heap.size, 0, none⟩)] x6 (DiffP (allL (S)) x6)) := ocells_any w.heap.size (S) x6 HO6d.out
        have hned : ((nd : Int) != (nd : Int)) = false := by simp
        clear hp6 hb6
        go_wp2_with fail
        refine HLEd.out.mono ?_
        rintro e x7 ⟨rfl, hx7⟩
        rw [hx7]
        clear hx7 x7
        go_wp2_with fail
        refine HCEd.out.mono ?_
        rintro e x8 ⟨da, dc, rfl, hp8, hb8⟩
        rw [HNNd.out] at hp8 ⊢
        have HSAd : Hid (Calls Try.prog 15 #[.slice da nd dc, .slice ca nd cc] x8 fun e w' => e = .returned (.bool true) ∧ Below x8.heap.size x8 w') := same_any (allL (S)) _ _ (by have := allL_len (S); omega) x8 hp8.psl (HP6d.out.below hb8)
        have HO8d : Hid (OV x8 w.heap.size (S)) := HO6d.out.below hb8
        have HI8d : Hid (PZ x8 (w.heap.size + 1) (.slice oa m oc) (S)) := HI6d.out.below hb8
        have HB8d : Hid (Below w.heap.size w x8) := HB6d.out.trans (hb8.mono HB6d.out.size)
        clear hp8 hb8
        go_wp2_with fail
        refine HSAd.out.mono ?_
        rintro e x9 ⟨rfl, hb9⟩
        have HO9d : Hid (OV x9 w.heap.size (S)) := HO8d.out.below hb9
        have HI9d : Hid (PZ x9 (w.heap.size + 1) (.slice oa m oc) (S)) := HI8d.out.below hb9
        have HB9d : Hid (Below w.heap.size w x9) := HB8d.out.trans (hb9.mono HB8d.out.size)
        clear hb9
        go_wp2_with fail
        go_roundw
        case rel => exact ⟨q + 1, m, oa, oc, S, by go_num, rfl, by omega, HL5, HI9d, HO9d, HB9d⟩
        case measure => simp [intOf]; omega
      | 2, _, t4 =>
        have t6 : Int.tmod (r + 3) 3 = 2 := t4
        clear t4 t5
        have HCLR : Hid (Calls Try.prog 23 #[.pointer (some ⟨w.heap.size, 0, none⟩)] V fun e w' => e = .returned (.tuple #[]) ∧ OV w' w.heap.size [] ∧ Ch (fun k => k = w.heap.size) V w') := oclear_any w.heap.size S V HOV.out
        go_wp2_with fail
        rw [HV.out]
        refine HCLR.out.mono ?_
        rintro e W5 ⟨rfl, h5, h6⟩
        have HO5 : Hid (OV W5 w.heap.size []) := h5
        have HI5 : Hid (PZ W5 (w.heap.size + 1) (.slice none 0 0) []) := PZ.nil _ _
        have HB5 : Hid (Below w.heap.size w W5) := HBV.out.trans (h6.below HBV.out.size (fun k hk => by omega))
        have HL5 : Hid (0 = ([] : List (Int × Int)).length ∧ 0 ≤ q + 1) := ⟨rfl, Nat.zero_le _⟩
        clear h5 h6 v0 v1 v2
        have HSLe : Hid ((([] : List (Int × Int))).length ≤ 100000) := by show _ ≤ _; have := HL5.out; omega
        have HRAe : Hid (Calls Try.prog 24 #[.slice none 0 0] W5 (DiffP (allL (([] : List (Int × Int)))) W5)) := rall_any (([] : List (Int × Int))) _ HSLe.out W5 HI5.out.psl
        obtain ⟨ne, hne⟩ : ∃ n, (allL (([] : List (Int × Int)))).length = n := ⟨_, rfl⟩
        have HNNe : Hid ((allL (([] : List (Int × Int)))).length = ne) := hne
        clear hne
        go_wp2_with fail
        refine HRAe.out.mono ?_
        rintro e x6 ⟨ca, cc, rfl, hp6, hb6⟩
        rw [HNNe.out] at hp6 ⊢
        have HO6e : Hid (OV x6 w.heap.size (([] : List (Int × Int)))) := HO5.out.below hb6
        have HI6e : Hid (PZ x6 (w.heap.size + 1) (.slice none 0 0) (([] : List (Int × Int)))) := HI5.out.below hb6
        have HB6e : Hid (Below w.heap.size w x6) := HB5.out.trans (hb6.mono HB5.out.size)
        have HP6e : Hid (PSl x6 (.slice ca ne cc) (allL (([] : List (Int × Int))))) := hp6.psl
        have HLEe : Hid (Calls Try.prog 25 #[.pointer (some ⟨w.heap.size, 0, none⟩)] x6 fun e w' => e = .returned (.int .i64 (ne : Int)) ∧ w' = x6) := by rw [← HNNe.out]; exact olen_any w.heap.size (([] : List (Int × Int))) x6 HO6e.out
        have HCEe : Hid (Calls Try.prog 26 #[.pointer (some ⟨w.heap.size, 0, none⟩)] x6 (DiffP (allL (([] : List (Int × Int)))) x6)) := ocells_any w.heap.size (([] : List (Int × Int))) x6 HO6e.out
        have hnee : ((ne : Int) != (ne : Int)) = false := by simp
        clear hp6 hb6
        go_wp2_with fail
        refine HLEe.out.mono ?_
        rintro e x7 ⟨rfl, hx7⟩
        rw [hx7]
        clear hx7 x7
        go_wp2_with fail
        refine HCEe.out.mono ?_
        rintro e x8 ⟨da, dc, rfl, hp8, hb8⟩
        rw [HNNe.out] at hp8 ⊢
        have HSAe : Hid (Calls Try.prog 15 #[.slice da ne dc, .slice ca ne cc] x8 fun e w' => e = .returned (.bool true) ∧ Below x8.heap.size x8 w') := same_any (allL (([] : List (Int × Int)))) _ _ (by have := allL_len (([] : List (Int × Int))); omega) x8 hp8.psl (HP6e.out.below hb8)
        have HO8e : Hid (OV x8 w.heap.size (([] : List (Int × Int)))) := HO6e.out.below hb8
        have HI8e : Hid (PZ x8 (w.heap.size + 1) (.slice none 0 0) (([] : List (Int × Int)))) := HI6e.out.below hb8
        have HB8e : Hid (Below w.heap.size w x8) := HB6e.out.trans (hb8.mono HB6e.out.size)
        clear hp8 hb8
        go_wp2_with fail
        refine HSAe.out.mono ?_
        rintro e x9 ⟨rfl, hb9⟩
        have HO9e : Hid (OV x9 w.heap.size (([] : List (Int × Int)))) := HO8e.out.below hb9
        have HI9e : Hid (PZ x9 (w.heap.size + 1) (.slice none 0 0) (([] : List (Int × Int)))) := HI8e.out.below hb9
        have HB9e : Hid (Below w.heap.size w x9) := HB8e.out.trans (hb9.mono HB8e.out.size)
        clear hb9
        go_wp2_with fail
        go_roundw
        case rel => exact ⟨q + 1, 0, none, 0, ([] : List (Int × Int)), by go_num, rfl, by omega, HL5, HI9e, HO9e, HB9e⟩
        case measure => simp [intOf]; omega
    · have hqN : q = N := by omega
      subst hqN
      have e3 : decide ((q : Int) < (q : Int)) = false := by simp
      go_wp2_with fail
      refine (malive_any wr).mono ?_
      rintro e wz ⟨rfl, bz⟩
      have BZ : Hid (Below w.heap.size w wz) := HB.out.trans (bz.mono HB.out.size)
      clear bz
      go_wp2
      go_ret
      exact ⟨rfl, BZ.out⟩
end Go.Proofs.Ytlcgoobjpnpfhaa
