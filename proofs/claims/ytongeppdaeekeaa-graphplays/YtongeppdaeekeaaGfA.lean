/- The document's graph: made, asked, added to. -/
import Derived.Test.YtongeppdaeekeaaGrV
namespace Go.Proofs.Ytongeppdaeekeaa
open Go.RowKit Go.Maps
set_option linter.unusedVariables false

def kF : RK (Int × Int) := { st := 70, et := 91, k := 2, bytes := 16, cl := duo, len := fun _ => rfl, one := duo_one, pos := by decide, zero := .agg #[.int .i64 0, .int .i64 0], und := Try.underlying70, inf := by kernel_rfl, zs := rfl, bd := by decide }
theorem size72 : (Try.prog.info? 72).map (·.size) = some 2 := by kernel_rfl
theorem ret_G2 {fn : Func} {q u : Nat} (h : fn.results = #[.cell q 72, .tmp u]) (tmps : Array Value) (g : Nat) (hb : tmps.getD q undef = .pointer (some ⟨g, 0, none⟩)) (W : World) (a0 a1 : Value) (hg : W.heap[g]? = some (.cells #[a0, a1] 72)) :
    (results fn tmps).run Try.prog W = .ok (.tuple #[.agg #[a0, a1], tmps.getD u undef]) W := by
  rw [results_cell_tmp h, hb]
  simp [asAddr, run_loadVar_row W g 72 72 #[a0, a1] _ _ hg Try.underlying72 rfl size72]
def put2W (W : World) (g : Nat) (a0 a1 : Value) : World := (W.setCell ⟨g, 0, none⟩ a0).setCell ⟨g, 1, none⟩ a1
theorem put2V {W : World} {g : Nat} {ty : TypeId} {x0 x1 a0 a1 : Value} (h : W.heap[g]? = some (.cells #[x0, x1] ty)) : (put2W W g a0 a1).heap[g]? = some (.cells #[a0, a1] ty) := by
  have e0 : (W.setCell ⟨g, 0, none⟩ a0).heap[g]? = some (.cells #[a0, x1] ty) := (heap_setCell_same _ g 0 _ ty a0 h).trans (by simp)
  exact (heap_setCell_same _ g 1 _ ty a1 e0).trans (by simp)
theorem below2 {B : Nat} {w W : World} {g : Nat} (h : Below B w W) (hg : B ≤ g) (a0 a1 : Value) : Below B w (put2W W g a0 a1) := by
  unfold put2W
  exact (h.setCell (p := ⟨g, 0, none⟩) hg _).setCell (p := ⟨g, 1, none⟩) hg _
theorem put2_else (V : World) (g1 k : Nat) (a0 a1 : Value) (hk : k ≠ g1) : (put2W V g1 a0 a1).heap[k]? = V.heap[k]? := by
  unfold put2W
  have h : ∀ (W : World) j u, (W.setCell ⟨g1, j, none⟩ u).heap[k]? = W.heap[k]? := fun W j u => Below.heap_setCell _ _ _ _ (by exact hk)
  rw [h, h]
/-- a row is the one that was, or a new one -/
def FG (B : Nat) (v v' : Value) : Prop := v' = v ∨ ∀ g o n c, v' = .slice (some ⟨g, o, none⟩) n c → B ≤ g
theorem FG.new {B : Nat} {v v' : Value} (h : ∀ g, v'.ownBlock = some g → B ≤ g) : FG B v v' := .inr fun g o n c e => h g (by rw [e]; rfl)
/-- the document's call answers a graph and something else -/
def GDQ (w : World) (dr : Int) (v : Value) (L : Ed) (x : Value) (e : Ending) (w' : World) : Prop := Below w.heap.size w w' ∧ ∃ v', e = .returned (.tuple #[.agg #[.int .i64 dr, v'], x]) ∧ RS kF w' v' L ∧ FG w.heap.size v v'
/-- a box with a graph, and one that the answer is to come into -/
structure BG (w V : World) (g g1 : Nat) (dr : Int) (v : Value) : Prop where
  b0 : V.heap[g]? = some (.cells #[.int .i64 dr, v] 72)
  b1 : V.heap[g1]? = some (.cells #[.int .i64 0, .slice none 0 0] 72)
  ne : g ≠ g1
  sz : g < V.heap.size ∧ g1 < V.heap.size
  lo : w.heap.size ≤ g ∧ w.heap.size ≤ g1
  bl : Below w.heap.size w V
theorem gboxes (w : World) (dr : Int) (v : Value) : ∃ V g, w.heap.size = g ∧ (w.alloc (.cells #[.int .i64 dr, v] 72)).alloc (.cells #[.int .i64 0, .slice none 0 0] 72) = V ∧ BG w V g (g + 1) dr v :=
  ⟨_, _, rfl, rfl, by rw [heap_alloc_old _ _ (by simp), heap_alloc_new], heap_alloc2_new _ _ _, by omega, by simp; omega, by omega, (bl1 w _).trans ((bl1 _ _).mono (bl1 w _).size)⟩
section
variable {w V W : World} {g g1 : Nat} {dr : Int} {v v' : Value}
theorem BG.below (h : BG w V g g1 dr v) (b : Below V.heap.size V W) : BG w W g g1 dr v :=
  ⟨(b.block g h.sz.1).trans h.b0, (b.block g1 h.sz.2).trans h.b1, h.ne, by have := h.sz; have := b.size; omega, h.lo, h.bl.trans (b.mono h.bl.size)⟩
theorem BG.c0 (h : BG w V g g1 dr v) : V.cell? ⟨g, 0, none⟩ = some (.int .i64 dr) ∧ V.cell? ⟨g, 1, none⟩ = some v := ⟨by rw [cell_of_row V g _ _ _ _ h.b0]; rfl, by rw [cell_of_row V g _ _ _ _ h.b0]; rfl⟩
theorem BG.c1 (h : BG w V g g1 dr v) : V.cell? ⟨g1, 0, none⟩ = some (.int .i64 0) ∧ V.cell? ⟨g1, 1, none⟩ = some (.slice none 0 0) := ⟨by rw [cell_of_row V g1 _ _ _ _ h.b1]; rfl, by rw [cell_of_row V g1 _ _ _ _ h.b1]; rfl⟩
theorem BG.f (h : BG w V g g1 dr v) (j : Nat) : V.frozen? ⟨g, j, none⟩ = false ∧ V.frozen? ⟨g1, j, none⟩ = false := ⟨frozen_of_row V g j _ _ h.b0, frozen_of_row V g1 j _ _ h.b1⟩
theorem BG.set (h : BG w V g g1 dr v) (u : Value) : BG w (V.setCell ⟨g, 1, none⟩ u) g g1 dr u :=
  ⟨heap_setCell_same V g 1 _ 72 u h.b0, (Below.heap_setCell _ _ _ _ (by exact h.ne.symm)).trans h.b1, h.ne, by simpa [World.setCell] using h.sz, h.lo, h.bl.setCell (p := ⟨g, 1, none⟩) h.lo.1 _⟩
theorem BG.fin {u : Value} {L : Ed} (h : BG w V g g1 dr v) (hx : ∀ W, Below w.heap.size w W → (∀ k, k ≠ g1 → W.heap[k]? = V.heap[k]?) → RS kF W v L) (hf : FG w.heap.size u v) (x a0 a1 : Value) : GDQ w dr u L x (.returned (.tuple #[.agg #[.int .i64 dr, v], x])) (put2W V g1 a0 a1) := by
  have b := below2 h.bl h.lo.2 a0 a1
  exact ⟨b, v, rfl, hx _ b (fun k hk => put2_else _ _ _ _ _ hk), hf⟩
end
theorem pushZ_new {V w4 : World} {E : Obj} {v4 : Value} {n : Nat} (g4 : (V.alloc E).grownBy w4 (Value.slice (some ⟨V.heap.size, 0, none⟩) 0 0).ownBlock) (ho : v4.ownBlock = (Value.slice (some ⟨V.heap.size, 0, none⟩) 0 0).ownBlock ∨ v4.ownBlock = some n) (hn : V.heap.size ≤ n) :
    Below V.heap.size V w4 ∧ ∀ g, v4.ownBlock = some g → V.heap.size ≤ g :=
  pushZ_more (v := .slice (some ⟨V.heap.size, 0, none⟩) 0 0) (bl1 V E) (fun g hg => Nat.le_of_eq (by simpa [Value.ownBlock] using hg)) g4 ho hn
set_option maxRecDepth 100000 in
set_option maxHeartbeats 4000000 in
theorem rhas_any {w : World} {v : Value} {L : Ed} (h : RS kF w v L) (hl : L.length ≤ 600) (dr r wt : Int) : Calls Try.prog 30 #[.agg #[.int .i64 dr, v], .int .i64 r, .int .i64 wt] w (AN w (.bool (hasE L (r, wt)))) := by
  obtain ⟨a, c, e⟩ := h.form
  obtain ⟨n, hn⟩ : ∃ n, L.length = n := ⟨_, rfl⟩
  have HN : Hid (L.length = n) := hn
  rw [hn] at e hl
  subst e
  obtain ⟨V, hV⟩ : ∃ V, w.alloc (.cells #[.int .i64 dr, .slice a n c] 72) = V := ⟨_, rfl⟩
  obtain ⟨g, hg⟩ : ∃ g, w.heap.size = g := ⟨_, rfl⟩
  have HVV : Hid _ := hV
  have HGG : Hid (w.heap.size = g) := hg
  have hb : V.heap[g]? = some (.cells #[.int .i64 dr, .slice a n c] 72) := by rw [← hV, ← hg]; exact heap_alloc_new _ _
  have c0 : V.cell? ⟨g, 1, none⟩ = some (.slice a n c) := by rw [cell_of_row V g _ _ _ _ hb]; rfl
  have hbw : Below w.heap.size w V := by rw [← hV]; exact bl1 w _
  have HR : Hid (RS kF V (.slice a n c) L) := h.below hbw
  have HT : Hid (∀ q (hq : q < L.length), L[q] = (r, wt) → AN w (.bool (hasE L (r, wt))) (.returned (.bool true)) V) := fun q hq e => ⟨by unfold hasE; rw [decide_eq_true (by rw [← e]; exact List.getElem_mem _)], hbw⟩
  have HF : Hid ((∀ q (hq : q < L.length), L[q] ≠ (r, wt)) → AN w (.bool (hasE L (r, wt))) (.returned (.bool false)) V) := fun e => ⟨by
    unfold hasE
    rw [decide_eq_false]
    intro hm
    obtain ⟨i, hi, hx⟩ := List.getElem_of_mem hm
    exact e i hi hx, hbw⟩
  clear h hn hV hg hb hbw
  generalize AN w (.bool (hasE L (r, wt))) = P at *
  go_enter Try.func30, Try.ntmps30
  go_upto_region 1 with fail
  rw [HVV.out, HGG.out]
  go_wp2_with fail
  go_loopw [7] (fun iv wr => wr = V ∧ ∃ q : Nat, iv = .int .i64 (q : Int) ∧ q ≤ n ∧ Hid (∀ i (hi : i < L.length), i < q → L[i] ≠ (r, wt))) (fun iv _ => n - (intOf iv).toNat)
  case atStart => exact ⟨rfl, 0, rfl, Nat.zero_le _, fun i hi h0 => absurd h0 (by omega)⟩
  case round =>
    obtain ⟨rfl, q, rfl, hq, HI⟩ := hrel
    by_cases hlt : q < n
    · have d1 : decide (q < n) = true := decide_eq_true hlt
      have hq' : q < L.length := by rw [HN.out]; exact hlt
      obtain ⟨b, bo, n', c', hg, hcl⟩ := HR.out.cell hq'
      simp only [Value.slice.injEq] at hg
      obtain ⟨rfl, rfl, rfl⟩ := hg
      obtain ⟨⟨z0, z1⟩, hz⟩ : ∃ x, L[q]'hq' = x := ⟨_, rfl⟩
      rw [hz] at hcl
      obtain ⟨y0, y1⟩ := duo_cells rfl rfl hcl
      have i1 : (0 : Int) ≤ (q : Int) := by omega
      have i2 : (q : Int) < (n : Int) := by omega
      by_cases h0 : z0 = r
      · have t0 : (z0 == r) = true := by simp [h0]
        by_cases h1 : z1 = wt
        · have t1 : (z1 == wt) = true := by simp [h1]
          have HQ : Hid (P (.returned (.bool true)) wr) := HT.out q hq' (by rw [hz, h0, h1])
          clear h0 h1 hz hcl HI hq'
          go_wp2
          first | exact HQ.out | (go_ret; exact HQ.out)
        · have t1 : (z1 == wt) = false := by simp [h1]
          have HI2 : Hid (∀ i (hi : i < L.length), i < q + 1 → L[i] ≠ (r, wt)) := fun i hi k => by
            rcases Nat.lt_or_ge i q with k2 | k2
            · exact HI.out i hi k2
            · have : i = q := by omega
              subst this
              rw [hz]; intro e; injection e with e1 e2; exact h1 e2
          clear h0 h1 hz hcl HI hq'
          go_wp2_with fail
          go_roundw
          case rel => exact ⟨trivial, q + 1, by go_num, by omega, HI2⟩
          case measure => simp [intOf]; omega
      · have t0 : (z0 == r) = false := by simp [h0]
        have HI2 : Hid (∀ i (hi : i < L.length), i < q + 1 → L[i] ≠ (r, wt)) := fun i hi k => by
          rcases Nat.lt_or_ge i q with k2 | k2
          · exact HI.out i hi k2
          · have : i = q := by omega
            subst this
            rw [hz]; intro e; injection e with e1 e2; exact h0 e1
        clear h0 hz hcl HI hq'
        go_wp2_with fail
        go_roundw
        case rel => exact ⟨trivial, q + 1, by go_num, by omega, HI2⟩
        case measure => simp [intOf]; omega
    · have d1 : decide (q < n) = false := decide_eq_false hlt
      have HQ : Hid (P (.returned (.bool false)) wr) := HF.out (fun i hi => HI.out i hi (by have := HN.out; omega))
      clear HI
      go_wp2
      first | exact HQ.out | (go_ret; exact HQ.out)
def raddE (dr : Int) (L : Ed) (r wt : Int) : Int := if badE r wt then 230 else if hasE L (r, wt) then 0 else if (L.length : Int) = dr then 200 else 0
def raddS (dr : Int) (L : Ed) (r wt : Int) : Ed := if badE r wt then L else if hasE L (r, wt) then L else if (L.length : Int) = dr then L else L ++ [(r, wt)]
theorem edge_rf (w : World) (r wt : Int) : RS kF (w.alloc (.cells #[.int .i64 r, .int .i64 wt] 91)) (.slice (some ⟨w.heap.size, 0, none⟩) 1 1) [(r, wt)] := by
  refine ⟨some ⟨w.heap.size, 0, none⟩, 1, w.heap.size, 0, rfl, Nat.le_refl _, by unfold maxLen; omega, fun _ => rfl, fun i hi j hj => ?_⟩
  have e := heap_alloc_new w (.cells #[.int .i64 r, .int .i64 wt] 91)
  match i, hi with
  | 0, _ =>
    have hj' : j < 2 := hj
    rw [cell_of_row _ w.heap.size _ _ _ _ e]
    match j, hj' with
    | 0, _ => rfl
    | 1, _ => rfl
set_option maxRecDepth 100000 in
set_option maxHeartbeats 8000000 in
theorem radd_any {w : World} {v : Value} {L : Ed} (h : RS kF w v L) (hl : L.length ≤ 600) (dr r wt : Int) : Calls Try.prog 71 #[.agg #[.int .i64 dr, v], .int .i64 r, .int .i64 wt] w (GDQ w dr v (raddS dr L r wt) (.int .i64 (raddE dr L r wt))) := by
  obtain ⟨a, c, e⟩ := h.form
  obtain ⟨n, hn⟩ : ∃ n, L.length = n := ⟨_, rfl⟩
  have HN : Hid (L.length = n) := hn
  rw [hn] at e hl
  subst e
  obtain ⟨V, g, hg, hV, hb⟩ := gboxes w dr (.slice a n c)
  have HV : Hid _ := hV
  have HGG : Hid (w.heap.size = g) := hg
  have HB : Hid (BG w V g (g + 1) dr (.slice a n c)) := hb
  have HX : Hid (∀ W, Below w.heap.size w W → RS kF W (.slice a n c) L) := fun W hW => h.below hW
  obtain ⟨b0, b1⟩ := hb.c0
  obtain ⟨y0, y1⟩ := hb.c1
  have f0 := (hb.f 0).2
  have f1 := (hb.f 1).2
  have ne := hb.ne
  have ne' := hb.ne.symm
  have HF : Hid (∀ W x, Below V.heap.size V W → raddS dr L r wt = L → raddE dr L r wt = x → GDQ w dr (.slice a n c) (raddS dr L r wt) (.int .i64 (raddE dr L r wt)) (.returned (.tuple #[.agg #[.int .i64 dr, .slice a n c], .int .i64 x])) (put2W W (g + 1) (.int .i64 dr) (.slice a n c))) := fun W x hW h1 h2 => by
    rw [h1, h2]
    exact (HB.out.below hW).fin (fun W hW _ => h.below hW) (.inl rfl) _ _ _
  have HG1 : Hid (∀ W, Below V.heap.size V W → W.heap[g + 1]? = some (.cells #[.int .i64 0, .slice none 0 0] 72)) := fun W hW => (HB.out.below hW).b1
  clear hV hg hn hb
  by_cases k1 : wt < 0
  · have t1 : decide (wt < 0) = true := decide_eq_true k1
    have hbd : badE r wt = true := by unfold badE; rw [t1]; rfl
    have HS : Hid (raddS dr L r wt = L ∧ raddE dr L r wt = 230) := ⟨by unfold raddS; rw [hbd, if_pos rfl], by unfold raddE; rw [hbd, if_pos rfl]⟩
    clear h hbd k1
    generalize GDQ w dr (.slice a n c) (raddS dr L r wt) (.int .i64 (raddE dr L r wt)) = P at *
    have HR2 : Hid (P (.returned (.tuple #[.agg #[.int .i64 dr, .slice a n c], .int .i64 230])) (put2W V (g + 1) (.int .i64 dr) (.slice a n c))) := HF.out V 230 (Below.refl _ _) HS.out.1 HS.out.2
    go_enter Try.func71, Try.ntmps71
    go_upto_region 1 with fail
    rw [HV.out, HGG.out]
    go_wp2_with fail
    refine bodyPost_ret (ret_G2 Try.results71 _ (g + 1) rfl _ _ _ (put2V HB.out.b1)) rfl ?_
    exact HR2.out
  have t1 : decide (wt < 0) = false := decide_eq_false k1
  by_cases k2 : r ≤ wt
  · have t2 : decide (r ≤ wt) = true := decide_eq_true k2
    have hbd : badE r wt = true := by unfold badE; rw [t1, t2]; rfl
    have HS : Hid (raddS dr L r wt = L ∧ raddE dr L r wt = 230) := ⟨by unfold raddS; rw [hbd, if_pos rfl], by unfold raddE; rw [hbd, if_pos rfl]⟩
    clear h hbd k1 k2
    generalize GDQ w dr (.slice a n c) (raddS dr L r wt) (.int .i64 (raddE dr L r wt)) = P at *
    have HR2 : Hid (P (.returned (.tuple #[.agg #[.int .i64 dr, .slice a n c], .int .i64 230])) (put2W V (g + 1) (.int .i64 dr) (.slice a n c))) := HF.out V 230 (Below.refl _ _) HS.out.1 HS.out.2
    go_enter Try.func71, Try.ntmps71
    go_upto_region 1 with fail
    rw [HV.out, HGG.out]
    go_wp2_with fail
    refine bodyPost_ret (ret_G2 Try.results71 _ (g + 1) rfl _ _ _ (put2V HB.out.b1)) rfl ?_
    exact HR2.out
  have t2 : decide (r ≤ wt) = false := decide_eq_false k2
  have hbd : badE r wt = false := by unfold badE; rw [t1, t2]; rfl
  have HHA : Hid (Calls Try.prog 30 #[.agg #[.int .i64 dr, .slice a n c], .int .i64 r, .int .i64 wt] V (AN V (.bool (hasE L (r, wt))))) := rhas_any (HX.out V HB.out.bl) (by rw [HN.out]; exact hl) dr r wt
  cases hh : hasE L (r, wt) with
  | true =>
    have HS : Hid (raddS dr L r wt = L ∧ raddE dr L r wt = 0) := ⟨by unfold raddS; rw [hbd, hh]; rfl, by unfold raddE; rw [hbd, hh]; rfl⟩
    rw [hh] at HHA
    clear h hbd k1 k2 hh
    generalize GDQ w dr (.slice a n c) (raddS dr L r wt) (.int .i64 (raddE dr L r wt)) = P at *
    go_enter Try.func71, Try.ntmps71
    go_upto_region 1 with fail
    rw [HV.out, HGG.out]
    go_wp2_with fail
    refine HHA.out.mono ?_
    rintro e w3 ⟨rfl, b3⟩
    have HB3 : Hid (BG w w3 g (g + 1) dr (.slice a n c)) := HB.out.below b3
    have HR : Hid (P (.returned (.tuple #[.agg #[.int .i64 dr, .slice a n c], .int .i64 0])) (put2W w3 (g + 1) (.int .i64 dr) (.slice a n c))) := HF.out w3 0 b3 HS.out.1 HS.out.2
    clear b0 b1 y0 y1 f0 f1
    obtain ⟨b0, b1⟩ := HB3.out.c0
    obtain ⟨y0, y1⟩ := HB3.out.c1
    have f0 := (HB3.out.f 0).2
    have f1 := (HB3.out.f 1).2
    clear b3
    go_wp2_with fail
    refine bodyPost_ret (ret_G2 Try.results71 _ (g + 1) rfl _ _ _ (put2V HB3.out.b1)) rfl ?_
    exact HR.out
  | false =>
    rw [hh] at HHA
    by_cases hf : (n : Int) = dr
    · have e1 : ((n : Int) == dr) = true := by simp [hf]
      have HS : Hid (raddS dr L r wt = L ∧ raddE dr L r wt = 200) := ⟨by unfold raddS; rw [hbd, hh, HN.out, if_pos hf]; rfl, by unfold raddE; rw [hbd, hh, HN.out, if_pos hf]; rfl⟩
      clear h hbd k1 k2 hh hf
      generalize GDQ w dr (.slice a n c) (raddS dr L r wt) (.int .i64 (raddE dr L r wt)) = P at *
      go_enter Try.func71, Try.ntmps71
      go_upto_region 1 with fail
      rw [HV.out, HGG.out]
      go_wp2_with fail
      refine HHA.out.mono ?_
      rintro e w3 ⟨rfl, b3⟩
      have HB3 : Hid (BG w w3 g (g + 1) dr (.slice a n c)) := HB.out.below b3
      have HR : Hid (P (.returned (.tuple #[.agg #[.int .i64 dr, .slice a n c], .int .i64 200])) (put2W w3 (g + 1) (.int .i64 dr) (.slice a n c))) := HF.out w3 200 b3 HS.out.1 HS.out.2
      clear b0 b1 y0 y1 f0 f1
      obtain ⟨b0, b1⟩ := HB3.out.c0
      obtain ⟨y0, y1⟩ := HB3.out.c1
      have f0 := (HB3.out.f 0).2
      have f1 := (HB3.out.f 1).2
      clear b3
      go_wp2_with fail
      refine bodyPost_ret (ret_G2 Try.results71 _ (g + 1) rfl _ _ _ (put2V HB3.out.b1)) rfl ?_
      exact HR.out
    · have e1 : ((n : Int) == dr) = false := by simp [hf]
      have HS : Hid (raddS dr L r wt = L ++ [(r, wt)] ∧ raddE dr L r wt = 0) := ⟨by unfold raddS; rw [hbd, hh, HN.out, if_neg hf]; rfl, by unfold raddE; rw [hbd, hh, HN.out, if_neg hf]; rfl⟩
      rw [HS.out.1, HS.out.2]
      clear h hbd k1 k2 hh hf HS HF
      obtain ⟨P, hP⟩ : ∃ P, GDQ w dr (.slice a n c) (L ++ [(r, wt)]) (.int .i64 0) = P := ⟨_, rfl⟩
      have HPP : Hid (GDQ w dr (.slice a n c) (L ++ [(r, wt)]) (.int .i64 0) = P) := hP
      rw [hP]
      clear hP
      go_enter Try.func71, Try.ntmps71
      go_upto_region 1 with fail
      rw [HV.out, HGG.out]
      go_wp2_with fail
      refine HHA.out.mono ?_
      rintro e w3 ⟨rfl, b3⟩
      have HB3 : Hid (BG w w3 g (g + 1) dr (.slice a n c)) := HB.out.below b3
      clear b0 b1 y0 y1 f0 f1 b3 HHA
      obtain ⟨b0, b1⟩ := HB3.out.c0
      have HE : Hid (RZ kF (w3.alloc (.cells #[] 91)) (.slice (some ⟨w3.heap.size, 0, none⟩) 0 0) []) := RZ.empty kF w3
      have HO : Hid (RS kF (w3.alloc (.cells #[] 91)) (.slice a n c) L) := (HX.out w3 HB3.out.bl).below (bl1 w3 _)
      have hl5 : ([] : Ed).length + L.length ≤ 100000 := by have := HN.out; simp; omega
      have q1 : (w3.alloc (.cells #[] 91)).cell? ⟨g, 1, none⟩ = some (.slice a n c) := (HB3.out.below (bl1 w3 _)).c0.2
      go_wp2_with (at_builtin; refine push_row kF _ rfl _ _ rfl _ _ [] L rfl rfl HE.out HO.out hl5 ?_)
      intro v4 w4 hz g4 ho
      try rw [List.nil_append] at hz
      obtain ⟨B4, n4⟩ := pushZ_new g4 ho (by first | omega | (simp; omega) | simp)
      have HZ4 : Hid (RZ kF w4 v4 L) := hz
      have HB4 : Hid (Below w3.heap.size w3 w4) := B4
      have HN4 : Hid (∀ g, v4.ownBlock = some g → w3.heap.size ≤ g) := n4
      clear hz g4 ho B4 n4 q1 HE HO
      have HE : Hid (∀ A, RZ kF (w4.alloc A) v4 L) := fun A => HZ4.out.below (bl1 w4 A)
      have HP2 : Hid (RS kF (w4.alloc (.cells #[.int .i64 r, .int .i64 wt] 91)) (.slice (some ⟨w4.heap.size, 0, none⟩) 1 1) [(r, wt)]) := edge_rf w4 r wt
      have hl6 : L.length + [(r, wt)].length ≤ 100000 := by have := HN.out; simp; omega
      go_wp2_with (at_builtin; refine push_row kF _ rfl _ _ rfl _ _ L [(r, wt)] rfl rfl (HE.out _) HP2.out hl6 ?_)
      intro v5 w5 hz g5 ho
      obtain ⟨B5, n5⟩ := pushZ_more (HB4.out.alloc HB4.out.size _) HN4.out g5 ho (by have := HB4.out.size; first | omega | (simp; omega))
      obtain ⟨a8, k8, rfl⟩ := hz.sl
      have hl7 : (L ++ [(r, wt)]).length = n + 1 := by rw [List.length_append, HN.out]; rfl
      rw [hl7] at hz n5 ⊢
      have HZ5 : Hid (RZ kF w5 (.slice a8 (n + 1) k8) (L ++ [(r, wt)])) := hz
      have HN5 : Hid (∀ g, (Value.slice a8 (n + 1) k8).ownBlock = some g → w3.heap.size ≤ g) := n5
      have hb5 := HB3.out.below B5
      have x1 := hb5.c0.2
      have xf := (hb5.f 1).1
      have hb6 := hb5.set (.slice a8 (n + 1) k8)
      have HB6 : Hid (BG w (w5.setCell ⟨g, 1, none⟩ (.slice a8 (n + 1) k8)) g (g + 1) dr (.slice a8 (n + 1) k8)) := hb6
      clear b0 b1
      obtain ⟨b0, b1⟩ := hb6.c0
      obtain ⟨y0, y1⟩ := hb6.c1
      have f0 := (hb6.f 0).2
      have f1 := (hb6.f 1).2
      clear hz g5 ho B5 n5 hb5 hb6 HE HP2
      have HF : Hid (∀ W, w5.setCell ⟨g, 1, none⟩ (.slice a8 (n + 1) k8) = W → GDQ w dr (.slice a n c) (L ++ [(r, wt)]) (.int .i64 0) (.returned (.tuple #[.agg #[.int .i64 dr, .slice a8 (n + 1) k8], .int .i64 0])) (put2W W (g + 1) (.int .i64 dr) (.slice a8 (n + 1) k8))) := by
        rintro W rfl
        refine HB6.out.fin (fun W hW hk => ?_) (FG.new fun g h => Nat.le_trans HB3.out.bl.size (HN5.out g h)) _ _ _
        refine (HZ5.out.keep fun g' hg' => ?_).rs
        have h1 := HN5.out g' hg'
        have h2 := HB3.out.sz
        rw [hk g' (by omega)]
        exact Below.heap_setCell _ _ _ _ (by show g' ≠ g; omega)
      have hg1 := HB6.out.b1
      have HB1 : Hid (∀ W, w5.setCell ⟨g, 1, none⟩ (.slice a8 (n + 1) k8) = W → W.heap[g + 1]? = some (.cells #[.int .i64 0, .slice none 0 0] 72)) := by rintro W rfl; exact hg1
      clear hg1
      go_upto_region 8 with fail
      generalize hW : w5.setCell ⟨g, 1, none⟩ (.slice a8 (n + 1) k8) = W at *
      have HF2 := HF.out W rfl
      have HB2 := HB1.out W rfl
      go_wp2_with fail
      refine bodyPost_ret (ret_G2 Try.results71 _ (g + 1) rfl _ _ _ (put2V HB2)) rfl ?_
      rw [← HPP.out]
      exact HF2
end Go.Proofs.Ytongeppdaeekeaa
