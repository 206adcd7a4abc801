/- The document's Edges. -/
import Derived.Test.YtongeppdaeekeaaGpC
namespace Go.Proofs.Ytongeppdaeekeaa
open Go.RowKit Go.Maps
set_option linter.unusedVariables false

def EdgesF (w : World) (E : Ed) (e : Ending) (W : World) : Prop := ∃ v, e = .returned v ∧ RS kF W v E ∧ Below w.heap.size w W
/-- the edges of a writer, as far as k -/
def edK (E : Ed) (u : Int) (k : Nat) : Ed := ((readersOf E u).take k).map (fun r => (r, u))
theorem edK_next (E : Ed) (u : Int) (k : Nat) (hk : k < (readersOf E u).length) : edK E u (k + 1) = edK E u k ++ [((readersOf E u)[k], u)] := by
  unfold edK
  rw [List.take_succ_eq_append_getElem hk, List.map_append]; rfl
theorem edK_all (E : Ed) (u : Int) (k : Nat) (hk : (readersOf E u).length ≤ k) : edK E u k = edR E u := by
  unfold edK edR
  rw [List.take_of_length_le hk]
theorem edK_le (E : Ed) (u : Int) (k : Nat) : (edK E u k).length ≤ (readersOf E u).length := by
  unfold edK
  rw [List.length_map, List.length_take]
  omega
theorem edS_many (E : Ed) : ∀ (R : List Int), (∀ u ∈ R, ∃ r, r ∈ readersOf E u) → R.length ≤ (edS E R).length
  | [], _ => Nat.zero_le _
  | u :: R, h => by
    have h1 := edS_many E R fun x hx => h x (by simp [hx])
    obtain ⟨r, hr⟩ := h u (by simp)
    have h2 : 0 < (readersOf E u).length := List.length_pos_of_mem hr
    unfold edS at h1 ⊢
    rw [List.flatMap_cons, List.length_append, List.length_cons]
    have h3 : (edR E u).length = (readersOf E u).length := by unfold edR; rw [List.length_map]
    omega
set_option maxRecDepth 100000 in
set_option maxHeartbeats 8000000 in
theorem redges_any {w : World} {v : Value} {E L : Ed} (h : RS kF w v L) (hE : PE E L) (hl : L.length ≤ 512) (dr : Int) : Calls Try.prog 37 #[.agg #[.int .i64 dr, v]] w (EdgesF w E) := by
  obtain ⟨a, c, e⟩ := h.form
  obtain ⟨n, hn⟩ : ∃ n, L.length = n := ⟨_, rfl⟩
  have HN : Hid (L.length = n) := hn
  have HSO : Hid (∀ R, SrtOf (wrS L) R → edS E R = E ∧ R.length ≤ 512) := fun R hs => by
    refine ⟨hE.eds hs, ?_⟩
    have h1 := edS_many E R fun u hu => by
      have h2 := (hs.mem u).1 hu
      unfold wrS at h2
      obtain ⟨x, hx, rfl⟩ := List.mem_map.1 h2
      exact ⟨x.1, mem_readersOf.2 ((hE.mem x).2 hx)⟩
    rw [hE.eds hs, hE.len] at h1
    omega
  have HEL : Hid (E.length ≤ 512 ∧ ∀ u, (readersOf E u).length ≤ 512) := by
    have h1 : E.length ≤ 512 := by rw [hE.len]; exact hl
    exact ⟨h1, fun u => Nat.le_trans (readersOf_le E u) h1⟩
  rw [hn] at e hl
  subst e
  obtain ⟨V, hV⟩ : ∃ V, w.alloc (.cells #[.int .i64 dr, .slice a n c] 72) = V := ⟨_, rfl⟩
  obtain ⟨g, hg⟩ : ∃ g, w.heap.size = g := ⟨_, rfl⟩
  have HVV : Hid _ := hV
  have HGG : Hid (w.heap.size = g) := hg
  have hb : V.heap[g]? = some (.cells #[.int .i64 dr, .slice a n c] 72) := by rw [← hV, ← hg]; exact heap_alloc_new _ _
  obtain ⟨c0', c0⟩ := two_cell hb
  have hbw : Below w.heap.size w V := by rw [← hV]; exact bl1 w _
  have HBW : Hid (Below w.heap.size w V) := hbw
  have HR : Hid (RS kF V (.slice a n c) L) := h.below hbw
  have HC0 : Hid (∀ W, Below V.heap.size V W → W.cell? ⟨g, 0, none⟩ = some (.int .i64 dr) ∧ W.cell? ⟨g, 1, none⟩ = some (.slice a n c)) := fun W hW => two_cell ((hW.block g (Array.getElem?_eq_some_iff.1 hb).1).trans hb)
  have HF : Hid (∀ v W, RS kF W v E → Below w.heap.size w W → EdgesF w E (.returned v) W) := fun v W h1 h2 => ⟨v, rfl, h1, h2⟩
  have HRD : Hid (∀ u W, Below w.heap.size w W → Calls Try.prog 33 #[.agg #[.int .i64 dr, .slice a n c], .int .i64 u] W (RowQ W (readersOf E u))) := fun u W hW => rreaders_any (h.below hW) hE (by rw [hn]; exact hl) dr u
  clear h hn hV hg hb hbw hE
  generalize EdgesF w E = P at *
  go_enter Try.func37, Try.ntmps37
  go_upto_region 1 with fail
  rw [HVV.out, HGG.out]
  clear HVV HGG
  go_wp2_with fail
  go_loopw [3, 4] (fun ov iv wr => ∃ q : Nat, iv = .int .i64 (q : Int) ∧ q ≤ n ∧ (∃ a c, ov = .slice a q c) ∧ Hid ((wrS (L.take q)).length = q) ∧ Hid (Below V.heap.size V wr) ∧ Hid (RZ kZ wr ov (wrS (L.take q))) ∧ Hid (∀ g, ov.ownBlock = some g → V.heap.size ≤ g)) (fun _ iv _ => n - (intOf iv).toNat)
  case atStart => exact ⟨0, rfl, Nat.zero_le _, ⟨_, _, rfl⟩, rfl, Below.refl _ _, RZ.nil _ _, fun g hg => by simp [Value.ownBlock] at hg⟩
  case round =>
    clear c0 c0'
    obtain ⟨q, rfl, hq, ⟨al, cl, rfl⟩, HLM, HB, HZ, HW⟩ := hrel
    obtain ⟨c0', c0⟩ := HC0.out wr HB.out
    by_cases hlt : q < n
    · have d1 : decide (q < n) = true := decide_eq_true hlt
      have hq' : q < L.length := by rw [HN.out]; exact hlt
      obtain ⟨b, bo, n', c', hg, hcl⟩ := (HR.out.below HB.out).cell hq'
      simp only [Value.slice.injEq] at hg
      obtain ⟨rfl, rfl, rfl⟩ := hg
      obtain ⟨⟨z0, z1⟩, hz⟩ : ∃ x, L[q]'hq' = x := ⟨_, rfl⟩
      have hnx := wrS_next L q hq'
      rw [hz] at hcl hnx
      obtain ⟨y0, y1⟩ := duo_cells rfl rfl hcl
      have i1 : (0 : Int) ≤ (q : Int) := by omega
      have i2 : (q : Int) < (n : Int) := by omega
      have HNX : Hid (wrS (L.take (q + 1)) = wrS (L.take q) ++ [z1]) := hnx
      have HE : Hid (∀ A, RZ kZ (wr.alloc A) (.slice al q cl) (wrS (L.take q))) := fun A => HZ.out.below (bl1 wr A)
      have HP2 : Hid (RS kZ (wr.alloc (.cells #[.int .i64 z1] 3)) (.slice (some ⟨wr.heap.size, 0, none⟩) 1 1) [z1]) := num_rz wr z1
      have HL : Hid ((wrS (L.take q)).length + [z1].length ≤ 100000) := by show _ ≤ _; rw [HLM.out]; show _ + 1 ≤ _; omega
      clear hz hcl hq' hnx HZ
      go_wp2_with (at_builtin; refine push_row kZ _ rfl _ _ rfl _ _ (wrS (L.take q)) [z1] rfl rfl (HE.out _) HP2.out HL.out ?_)
      intro v5 w5 hz5 g5 ho5
      obtain ⟨B5, n5⟩ := pushZ_more (V := V) (HB.out.alloc HB.out.size _) HW.out g5 ho5 (by have := HB.out.size; first | omega | (simp; omega))
      obtain ⟨a8, k8, rfl⟩ := hz5.sl
      have hl8 : (wrS (L.take q) ++ [z1]).length = q + 1 := by rw [List.length_append, HLM.out]; rfl
      rw [hl8] at hz5 n5 ⊢
      have HZ5 : Hid (RZ kZ w5 (.slice a8 (q + 1) k8) (wrS (L.take (q + 1)))) := by rw [HNX.out]; exact hz5
      have HLM5 : Hid ((wrS (L.take (q + 1))).length = q + 1) := by rw [HNX.out]; exact hl8
      have HN5 : Hid (∀ g, (Value.slice a8 (q + 1) k8).ownBlock = some g → V.heap.size ≤ g) := n5
      have HB5 : Hid (Below V.heap.size V w5) := B5
      clear hz5 g5 ho5 B5 n5 HE HP2 HL HB HNX hl8 HW HLM y0 y1
      go_wp2_with fail
      go_roundw
      case rel => exact ⟨q + 1, by go_num, by omega, ⟨_, _, rfl⟩, HLM5, HB5, HZ5, HN5⟩
      case measure => simp [intOf]; omega
    · have d1 : decide (q < n) = false := decide_eq_false hlt
      have hqn : q = n := by omega
      subst hqn
      have HT : L.take q = L := List.take_of_length_le (by rw [HN.out]; exact Nat.le_refl _)
      rw [HT] at HZ HLM
      have HS : Hid (Calls Try.prog 74 #[.slice al q cl] wr (SrtQ wr (wrS L))) := sort74_any HZ.out.rs (by rw [HLM.out]; omega)
      have HB2 : Hid (Below V.heap.size V wr) := HB.out
      clear HT HZ HB HW HLM
      go_wp2_with fail
      refine HS.out.mono ?_
      rintro e w3 ⟨R, hR, v3, rfl, z3, b3, n3⟩
      obtain ⟨hed, hrl⟩ := HSO.out R hR
      have HED : Hid (edS E R = E) := hed
      obtain ⟨m, hm⟩ : ∃ m, R.length = m := ⟨_, rfl⟩
      obtain ⟨a3, c3, rfl⟩ := z3.sl
      rw [hm] at z3 hrl ⊢
      have HM : Hid (R.length = m) := hm
      have HR3 : Hid (RS kZ w3 (.slice a3 m c3) R) := z3.rs
      have HB3 : Hid (Below V.heap.size V w3) := HB2.out.trans (b3.mono HB2.out.size)
      clear hR hed hm z3 b3 n3 HB2 HS HSO hlt d1
      go_wp2_with fail
      go_loopw [5, 6] (fun ov iv wr => ∃ (i t : Nat), iv = .int .i64 (i : Int) ∧ i ≤ m ∧ (∃ a c, ov = .slice a t c) ∧ Hid ((edS E (R.take i)).length = t) ∧ Hid (Below w3.heap.size w3 wr) ∧ Hid (RZ kF wr ov (edS E (R.take i))) ∧ Hid (∀ g, ov.ownBlock = some g → w3.heap.size ≤ g)) (fun _ iv _ => m - (intOf iv).toNat)
      case atStart => exact ⟨0, 0, rfl, Nat.zero_le _, ⟨_, _, rfl⟩, rfl, Below.refl _ _, RZ.nil _ _, fun g hg => by simp [Value.ownBlock] at hg⟩
      case round =>
        obtain ⟨i, t, rfl, hi, ⟨ao, co, rfl⟩, HLT, HB, HZ, HW⟩ := hrel
        have HBV : Hid (Below V.heap.size V wr) := HB3.out.trans (HB.out.mono HB3.out.size)
        by_cases hlt : i < m
        · have d1 : decide (i < m) = true := decide_eq_true hlt
          have hi' : i < R.length := by rw [HM.out]; exact hlt
          obtain ⟨b, bo, n', c', hg, hcl⟩ := (HR3.out.below HB.out).cell hi'
          simp only [Value.slice.injEq] at hg
          obtain ⟨rfl, rfl, rfl⟩ := hg
          obtain ⟨u, hu⟩ : ∃ x, R[i]'hi' = x := ⟨_, rfl⟩
          have hnx := edS_next E R i hi'
          rw [hu] at hcl hnx
          have HNX : Hid (edS E (R.take (i + 1)) = edS E (R.take i) ++ edR E u) := hnx
          have HTL : Hid ((edS E (R.take (i + 1))).length ≤ 512) := by
            have h1 := edS_le E R (i + 1)
            rw [HED.out] at h1
            exact Nat.le_trans h1 HEL.out.1
          have y0 := uno_cell rfl rfl hcl
          obtain ⟨c0', c0⟩ := HC0.out wr HBV.out
          have i1 : (0 : Int) ≤ (i : Int) := by omega
          have i2 : (i : Int) < (m : Int) := by omega
          have HRU : Hid (Calls Try.prog 33 #[.agg #[.int .i64 dr, .slice a q c], .int .i64 u] wr.drew (RowQ wr.drew (readersOf E u))) := HRD.out u wr.drew ((HBW.out.trans (HBV.out.mono HBW.out.size)).drew)
          have HRB : Hid (∀ W, Below w3.heap.size w3 W → W.cell? ⟨b, bo + i, none⟩ = some (.int .i64 u)) := fun W hW => by
            obtain ⟨b', bo', n2, c2, hg, hcl⟩ := (HR3.out.below hW).cell hi'
            simp only [Value.slice.injEq, Option.some.injEq, Addr.mk.injEq] at hg
            obtain ⟨⟨rfl, rfl, -⟩, -, -⟩ := hg
            rw [hu] at hcl
            exact uno_cell rfl rfl hcl
          have hV0 : wr.drew.cell? ⟨g, 0, none⟩ = some (.int .i64 dr) ∧ wr.drew.cell? ⟨g, 1, none⟩ = some (.slice a q c) ∧ wr.drew.cell? ⟨b, bo + i, none⟩ = some (.int .i64 u) := ⟨c0', c0, y0⟩
          clear hu hcl hnx hi' y0 c0 c0'
          go_wp2_with fail
          go_region_held3 (fun w' => w'.cell? ⟨g, 0, none⟩ = some (.int .i64 dr) ∧ w'.cell? ⟨g, 1, none⟩ = some (.slice a q c) ∧ w'.cell? ⟨b, bo + i, none⟩ = some (.int .i64 u)) (first | with_reducible exact hV0 | with_reducible exact hV6)
            (first | (go_at_call 33; refine HRU.out.mono ?_; rintro e w6 ⟨v6, rfl, z6, b6, n6⟩; have hB6 := HB.out.drew.trans (b6.mono HB.out.size); have hC6 := HC0.out w6 (HB3.out.trans (hB6.mono HB3.out.size)); have hV6 : w6.cell? ⟨g, 0, none⟩ = some (.int .i64 dr) ∧ w6.cell? ⟨g, 1, none⟩ = some (.slice a q c) ∧ w6.cell? ⟨b, bo + i, none⟩ = some (.int .i64 u) := ⟨hC6.1, hC6.2, HRB.out w6 hB6⟩))
          obtain ⟨ru, hru⟩ : ∃ x, (readersOf E u).length = x := ⟨_, rfl⟩
          obtain ⟨a6, c6, rfl⟩ := z6.sl
          rw [hru] at z6 n6 ⊢
          have HRUL : Hid ((readersOf E u).length = ru) := hru
          have hru5 : ru ≤ 512 := by rw [← hru]; exact HEL.out.2 u
          have HR6 : Hid (RZ kZ w6 (.slice a6 ru c6) (readersOf E u)) := z6
          have HS6 : Hid (∀ g, (Value.slice ao t co).ownBlock = some g → (Value.slice a6 ru c6).ownBlock ≠ some g) := fun g h1 h2 => by
            have k1 := HZ.out.own h1
            have k2 := n6 g h2
            have k3 : wr.heap.size ≤ g := k2
            omega
          have HB6 : Hid (Below w3.heap.size w3 w6) := hB6
          have HZ6 : Hid (RZ kF w6 (.slice ao t co) (edS E (R.take i) ++ edK E u 0)) := by
            have := (HZ.out.below (Below.refl _ _).drew).below b6
            show RZ _ _ _ (_ ++ edK E u 0)
            rw [show edK E u 0 = [] from rfl, List.append_nil]
            exact this
          have HLT6 : Hid ((edS E (R.take i) ++ edK E u 0).length = t) := by
            show List.length (_ ++ edK E u 0) = t
            rw [show edK E u 0 = [] from rfl, List.append_nil]
            exact HLT.out
          clear hru z6 b6 n6 hB6 hC6 hV6 hV0 HRU HZ HB HLT HBV
          go_wp2_with fail
          go_loopw [5, 8] (fun ov kv wr => ∃ (k t : Nat), kv = .int .i64 (k : Int) ∧ k ≤ ru ∧ (∃ a c, ov = .slice a t c) ∧ Hid ((edS E (R.take i) ++ edK E u k).length = t) ∧ Hid (RZ kZ wr (.slice a6 ru c6) (readersOf E u)) ∧ Hid (∀ g, ov.ownBlock = some g → (Value.slice a6 ru c6).ownBlock ≠ some g) ∧ Hid (Below w3.heap.size w3 wr) ∧ Hid (RZ kF wr ov (edS E (R.take i) ++ edK E u k)) ∧ Hid (∀ g, ov.ownBlock = some g → w3.heap.size ≤ g)) (fun _ kv _ => ru - (intOf kv).toNat)
          case atStart => exact ⟨0, t, rfl, Nat.zero_le _, ⟨_, _, rfl⟩, HLT6, HR6, HS6, HB6, HZ6, HW⟩
          case round =>
            clear HLT6 HB6 HZ6 HW HR6 HS6
            obtain ⟨k, t, rfl, hk, ⟨ao, co, rfl⟩, HLT, HR7, HS7, HB, HZ, HW⟩ := hrel
            by_cases hlt2 : k < ru
            · have d2 : decide (k < ru) = true := decide_eq_true hlt2
              have hk' : k < (readersOf E u).length := by rw [HRUL.out]; exact hlt2
              obtain ⟨b7, c', hg, hcl, -⟩ := HR7.out.cell hk'
              have hnx := edK_next E u k hk'
              obtain ⟨r, hr⟩ : ∃ x, (readersOf E u)[k]'hk' = x := ⟨_, rfl⟩
              rw [hr] at hcl hnx
              simp only [Value.slice.injEq] at hg
              obtain ⟨rfl, -, -⟩ := hg
              have x0 := uno_own rfl rfl hcl
              have y0 := HRB.out wr HB.out
              have k1 : (0 : Int) ≤ (k : Int) := by omega
              have k2 : (k : Int) < (ru : Int) := by omega
              have HNK : Hid (edS E (R.take i) ++ edK E u (k + 1) = (edS E (R.take i) ++ edK E u k) ++ [(r, u)]) := by
                show _ = _
                rw [hnx, List.append_assoc]
              have HX0 : Hid (∀ W, RZ kZ W (.slice (some ⟨b7, 0, none⟩) ru c6) (readersOf E u) → W.cell? ⟨b7, k, none⟩ = some (.int .i64 r)) := fun W hW => by
                obtain ⟨b', c2, hg, hcl, -⟩ := hW.cell hk'
                simp only [Value.slice.injEq, Option.some.injEq, Addr.mk.injEq] at hg
                obtain ⟨⟨rfl, -, -⟩, -, -⟩ := hg
                rw [hr] at hcl
                exact uno_own rfl rfl hcl
              clear hcl hnx hr hk'
              have hV7 : wr.drew.cell? ⟨b, bo + i, none⟩ = some (.int .i64 u) ∧ wr.drew.cell? ⟨b7, k, none⟩ = some (.int .i64 r) := ⟨y0, x0⟩
              have HBA : Hid (∀ A, Below w3.heap.size w3 (wr.alloc A).drew) := fun A => (HB.out.alloc HB.out.size A).drew
              have HRA : Hid (∀ A, RZ kZ (wr.alloc A).drew (.slice (some ⟨b7, 0, none⟩) ru c6) (readersOf E u)) := fun A => HR7.out.below (bl1 wr A).drew
              have hV8 : ∀ A, (wr.alloc A).drew.cell? ⟨b, bo + i, none⟩ = some (.int .i64 u) ∧ (wr.alloc A).drew.cell? ⟨b7, k, none⟩ = some (.int .i64 r) := fun A => ⟨HRB.out _ (HBA.out A), HX0.out _ (HRA.out A)⟩
              have HE : Hid (∀ A, RZ kF (wr.alloc A).drew (.slice ao t co) (edS E (R.take i) ++ edK E u k)) := fun A => HZ.out.below (bl1 wr A).drew
              have HP2 : Hid (RS kF (wr.alloc (.cells #[.int .i64 r, .int .i64 u] 91)).drew (.slice (some ⟨wr.heap.size, 0, none⟩) 1 1) [(r, u)]) := (edge_rf wr r u).below (Below.refl _ _).drew
              have HL : Hid ((edS E (R.take i) ++ edK E u k).length + [(r, u)].length ≤ 100000) := by
                have h1 := edK_le E u k
                have h2 := HEL.out.2 u
                have h3 := edS_le E R i
                rw [HED.out] at h3
                have h4 := HEL.out.1
                show _ ≤ _
                rw [List.length_append]
                show _ + 1 ≤ _
                omega
              have HST : Hid (∀ v9 w9 A, RZ kF w9 v9 ((edS E (R.take i) ++ edK E u k) ++ [(r, u)]) → (wr.alloc A).drew.grownBy w9 (Value.slice ao t co).ownBlock → (v9.ownBlock = (Value.slice ao t co).ownBlock ∨ v9.ownBlock = some (wr.alloc A).drew.heap.size) →
                  Below w3.heap.size w3 w9 ∧ (∀ g, v9.ownBlock = some g → w3.heap.size ≤ g) ∧ RZ kZ w9 (.slice (some ⟨b7, 0, none⟩) ru c6) (readersOf E u) ∧ (∀ g, v9.ownBlock = some g → (Value.slice (some ⟨b7, 0, none⟩) ru c6).ownBlock ≠ some g)) := fun v9 w9 A z9 g9 o9 => by
                obtain ⟨B9, n9⟩ := pushZ_more (V := w3) (HBA.out A) HW.out g9 o9 (HBA.out A).size
                refine ⟨B9, n9, (HRA.out A).keep fun g hg => g9.block g ((HRA.out A).own hg) (fun e => HS7.out g e.symm hg), fun g hg e => ?_⟩
                rcases o9 with o | o
                · exact HS7.out g (o ▸ hg) e
                · rw [o] at hg
                  injection hg with hg
                  have := (HRA.out A).own e
                  omega
              clear y0 x0
              go_wp2_with fail
              go_region_held3 (fun w' => w'.cell? ⟨b, bo + i, none⟩ = some (.int .i64 u) ∧ w'.cell? ⟨b7, k, none⟩ = some (.int .i64 r)) (first | with_reducible exact hV7 | with_reducible exact hV8 _ | with_reducible exact hV9)
                (first
                  | (refine step_push_g kF rfl _ _ rfl (.slice ao t co) (.slice (some ⟨wr.heap.size, 0, none⟩) 1 1) (edS E (R.take i) ++ edK E u k) [(r, u)] rfl rfl (HE.out _) HP2.out HL.out ?_
                     intro v9 w9 z9 g9 o9
                     obtain ⟨B9, n9, r9, s9⟩ := HST.out v9 w9 _ z9 g9 o9
                     have hV9 : w9.cell? ⟨b, bo + i, none⟩ = some (.int .i64 u) ∧ w9.cell? ⟨b7, k, none⟩ = some (.int .i64 r) := ⟨HRB.out _ B9, HX0.out _ r9⟩)
                  | (trace_state; fail))
              obtain ⟨a8, k8, rfl⟩ := z9.sl
              have hl8 : ((edS E (R.take i) ++ edK E u k) ++ [(r, u)]).length = t + 1 := by rw [List.length_append, HLT.out]; rfl
              rw [hl8] at z9 n9 s9 ⊢
              have HZ9 : Hid (RZ kF w9 (.slice a8 (t + 1) k8) (edS E (R.take i) ++ edK E u (k + 1))) := by rw [HNK.out]; exact z9
              have HLT9 : Hid ((edS E (R.take i) ++ edK E u (k + 1)).length = t + 1) := by rw [HNK.out]; exact hl8
              have HN9 : Hid (∀ g, (Value.slice a8 (t + 1) k8).ownBlock = some g → w3.heap.size ≤ g) := n9
              have HS9 : Hid (∀ g, (Value.slice a8 (t + 1) k8).ownBlock = some g → (Value.slice (some ⟨b7, 0, none⟩) ru c6).ownBlock ≠ some g) := s9
              have HR9 : Hid (RZ kZ w9 (.slice (some ⟨b7, 0, none⟩) ru c6) (readersOf E u)) := r9
              have HB9 : Hid (Below w3.heap.size w3 w9) := B9
              clear z9 n9 s9 r9 B9 g9 o9 hV9 hV8 hV7 HST HL HP2 HE HRA HBA HNK hl8 HZ HLT HW HS7 HR7 HB
              go_wp2_with fail
              go_roundw
              case rel => exact ⟨k + 1, t + 1, by go_num, by omega, ⟨_, _, rfl⟩, HLT9, HR9, HS9, HB9, HZ9, HN9⟩
              case measure => simp [intOf]; omega
            · have d2 : decide (k < ru) = false := decide_eq_false hlt2
              have hke : edS E (R.take i) ++ edK E u k = edS E (R.take (i + 1)) := by
                rw [HNX.out, edK_all E u k (by rw [HRUL.out]; omega)]
              rw [hke] at HZ HLT
              clear hke
              go_wp2_with fail
              go_roundw
              case rel => exact ⟨i + 1, t, by go_num, by omega, ⟨_, _, rfl⟩, HLT, HB, HZ, HW⟩
              case measure => simp [intOf]; omega
        · have d1 : decide (i < m) = false := decide_eq_false hlt
          have HT : R.take i = R := List.take_of_length_le (by rw [HM.out]; omega)
          rw [HT, HED.out] at HZ
          have HQ : Hid (P (.returned (.slice ao t co)) wr) := HF.out _ wr HZ.out.rs (HBW.out.trans (HBV.out.mono HBW.out.size))
          clear HT HZ HB HW HLT HBV
          go_wp2
          first | exact HQ.out | (go_ret; exact HQ.out)
end Go.Proofs.Ytongeppdaeekeaa
