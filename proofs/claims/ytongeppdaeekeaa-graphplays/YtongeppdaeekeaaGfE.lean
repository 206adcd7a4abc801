/- The walk of GraphFalls. -/
import Derived.Test.YtongeppdaeekeaaGfD
import Derived.BigQuiet
namespace Go.Proofs.Ytongeppdaeekeaa
open Go.RowKit Go.Maps
set_option linter.unusedVariables false

def kW : RK O3 := { st := 66, et := 78, k := 3, bytes := 24, cl := tri, len := fun _ => rfl, one := tri_one, pos := by decide, zero := .agg #[.int .i64 0, .int .i64 0, .int .i64 0], und := Try.underlying66, inf := by kernel_rfl, zs := rfl, bd := by decide }
/-- who leans, as far as it was looked at -/
def leanP (E : Ed) (F : List Int) (age u : Int) (k : Nat) : Prop := u = age ∨ ∃ j, ∃ hj : j < E.length, j < k ∧ (E[j]'hj).1 = u ∧ (E[j]'hj).2 ∈ F
theorem leanP.next {E : Ed} {F : List Int} {age u : Int} {k : Nat} (hk : k < E.length) {z0 z1 : Int} (hz : E[k]'hk = (z0, z1)) : leanP E F age u (k + 1) ↔ leanP E F age u k ∨ (z0 = u ∧ z1 ∈ F) := by
  unfold leanP
  constructor
  · rintro (r | ⟨j, hj, h1, h2, h3⟩)
    · exact .inl (.inl r)
    · rcases Nat.lt_or_ge j k with q | q
      · exact .inl (.inr ⟨j, hj, q, h2, h3⟩)
      · have : j = k := by omega
        subst this
        rw [hz] at h2 h3
        exact .inr ⟨h2, h3⟩
  · rintro ((r | ⟨j, hj, h1, h2, h3⟩) | ⟨h1, h2⟩)
    · exact .inl r
    · exact .inr ⟨j, hj, by omega, h2, h3⟩
    · exact .inr ⟨k, hk, by omega, by rw [hz]; exact h1, by rw [hz]; exact h2⟩
theorem leanP.all {E : Ed} {F : List Int} {age u : Int} (h : FallsOf E age F) (hu : u ∈ F) : leanP E F age u E.length := by
  rcases h.from' u hu with r | ⟨v, hv, hm⟩
  · exact .inl r
  · obtain ⟨j, hj, hx⟩ := List.getElem_of_mem hm
    exact .inr ⟨j, hj, hj, by rw [hx], by rw [hx]; exact hv⟩
theorem nodup_len : ∀ (F G : List Int), F.Nodup → (∀ x ∈ F, x ∈ G) → F.length ≤ G.length
  | [], _, _, _ => by simp
  | x :: F, G, h, hs => by
    rw [List.nodup_cons] at h
    have hx := hs x (by simp)
    have h1 := nodup_len F (G.erase x) h.2 (fun y hy => (List.mem_erase_of_ne (show y ≠ x from fun e => h.1 (by rw [← e]; exact hy))).2 (hs y (by simp [hy])))
    rw [List.length_erase_of_mem hx] at h1
    have := List.length_pos_of_mem hx
    rw [List.length_cons]
    omega
theorem falls_len {E : Ed} {age : Int} {F : List Int} (hu : Up E) (h : FallsOf E age F) : F.length ≤ E.length + 1 := by
  have hnd : F.Nodup := h.srt.imp fun q => by omega
  have hsub : ∀ x ∈ F, x ∈ age :: E.map (·.1) := fun x hx => by
    rcases h.from' x hx with r | ⟨v, hv, hm⟩
    · rw [r]; exact List.mem_cons_self
    · exact List.mem_cons_of_mem _ (List.mem_map.2 ⟨_, hm, rfl⟩)
  have := nodup_len F _ hnd hsub
  simpa using this
set_option maxRecDepth 100000 in
set_option maxHeartbeats 32000000 in
theorem gfalls_walk (lv : Value) (l : List O3) (age : Int) (w : World) (hv : RS kW w lv l) : Calls Try.prog 7 #[lv, .int .i64 age] w (AN w (.bool true)) := by
  obtain ⟨a, c, e⟩ := hv.form
  obtain ⟨n, hn⟩ : ∃ n, l.length = n := ⟨_, rfl⟩
  have HN : Hid (l.length = n) := hn
  rw [hn] at e
  subst e
  have HOP : Hid (RS kW w (.slice a n c) l) := hv
  have HF : Hid (∀ W, Below w.heap.size w W → AN w (.bool true) (.returned (.bool true)) W) := fun W hW => ⟨rfl, hW⟩
  clear hv hn
  generalize AN w (.bool true) = P at *
  by_cases h80 : 80 < n
  · have t80 : decide (80 < n) = true := decide_eq_true h80
    have HR : Hid (P (.returned (.bool true)) w) := HF.out w (Below.refl _ _)
    go_enter Try.func7, Try.ntmps7
    go_wp2
    first | exact HR.out | (go_ret; exact HR.out)
  have t80 : decide (80 < n) = false := decide_eq_false h80
  have HNQ := gnew_any 512 w
  go_enter Try.func7, Try.ntmps7
  go_wp2_with fail
  refine HNQ.mono ?_
  rintro e w1 ⟨b1, ⟨hb, _⟩ | ⟨_, gb, hgb, rfl, g1⟩⟩
  · omega
  have HM1 : Hid (GM w w1 gb 512 (.slice none 0 0) []) := ⟨g1, b1, hgb, fun g hg => by simp [Value.ownBlock] at hg⟩
  clear b1 hgb g1 HNQ
  have HRN := rnew_any 512 w1
  go_wp2_with fail
  refine HRN.mono ?_
  rintro e w2 ⟨b2, ⟨hb, _⟩ | ⟨_, rfl⟩⟩
  · omega
  have HM2 : Hid (GM w w2 gb 512 (.slice none 0 0) []) := HM1.out.below b2
  have HGB : Hid (gb < w2.heap.size) := HM2.out.gv.lt
  clear b2 HRN HM1
  go_upto_region 5 with fail
  have HM3 : Hid (GM w (w2.alloc (.cells #[.int .i64 512, .slice none 0 0] 72)) gb 512 (.slice none 0 0) []) := HM2.out.below (bl1 _ _)
  have HX3 : Hid ((w2.alloc (.cells #[.int .i64 512, .slice none 0 0] 72)).heap[w2.heap.size]? = some (.cells #[.int .i64 512, .slice none 0 0] 72) ∧ w2.heap.size ≠ gb ∧ (Value.slice none 0 0).ownBlock ≠ some w2.heap.size) := ⟨heap_alloc_new _ _, by have := HGB.out; omega, by simp [Value.ownBlock]⟩
  clear HM2 HGB
  generalize w2.alloc (.cells #[.int .i64 512, .slice none 0 0] 72) = w3 at *
  generalize w2.heap.size = g7 at *
  go_wp2_with fail
  go_loopw [9] (fun iv wr => ∃ (q : Nat) (ev : Value) (E : Ed), iv = .int .i64 (q : Int) ∧ q ≤ n ∧ Hid (GM w wr gb 512 ev E) ∧ Hid (wr.heap[g7]? = some (.cells #[.int .i64 512, .slice none 0 0] 72) ∧ g7 ≠ gb ∧ ev.ownBlock ≠ some g7)) (fun iv _ => n - (intOf iv).toNat)
  case atStart => exact ⟨0, _, _, rfl, Nat.zero_le _, HM3, HX3⟩
  case round =>
    clear HM3 HX3
    obtain ⟨q, ev, E, rfl, hq, HM, HX⟩ := hrel
    by_cases hlt : q < n
    · have d1 : decide (q < n) = true := decide_eq_true hlt
      have hq' : q < l.length := by rw [HN.out]; exact hlt
      obtain ⟨b, bo, n', c', hg, hcl⟩ := (HOP.out.below HM.out.bl).cell hq'
      simp only [Value.slice.injEq] at hg
      obtain ⟨rfl, rfl, rfl⟩ := hg
      obtain ⟨⟨z0, z1, z2⟩, hz⟩ : ∃ x, l[q]'hq' = x := ⟨_, rfl⟩
      rw [hz] at hcl
      obtain ⟨o0, o1, o2⟩ := tri_cells rfl rfl hcl
      obtain ⟨x0, x1⟩ := two_cell HX.out.1
      have i1 : (0 : Int) ≤ (q : Int) := by omega
      have i2 : (q : Int) < (n : Int) := by omega
      have HD : Hid (GD kF w wr.drew gb 512 ev E (.slice none 0 0) []) := ⟨HM.out.below (Below.refl _ _).drew, RS.nil _ _, fun h => absurd h (by simp)⟩
      have HC : Hid (Calls Try.prog 27 #[.pointer (some ⟨gb, 0, none⟩), .agg #[.int .i64 512, .slice none 0 0], .agg #[.int .i64 z0, .int .i64 z1, .int .i64 z2]] wr.drew (OneGQ w wr.drew gb 512 ev 512 (oneGE 512 E (z0, z1, z2)) (oneGL 512 [] (z0, z1, z2)) (oneGB 512 512 E [] (z0, z1, z2)))) := one27_any HD.out (by simp) 512 (z0, z1, z2)
      have HXN : Hid (∀ w6 ev6, GFr wr.drew w6 gb ev ev6 → w6.heap[g7]? = some (.cells #[.int .i64 512, .slice none 0 0] 72) ∧ g7 ≠ gb ∧ ev6.ownBlock ≠ some g7) := fun w6 ev6 fr => by
        have hlt7 : g7 < wr.heap.size := (Array.getElem?_eq_some_iff.1 HX.out.1).1
        refine ⟨(fr.fr g7 hlt7 HX.out.2.1 HX.out.2.2).trans HX.out.1, HX.out.2.1, ?_⟩
        rcases fr.ow with r | ⟨k, k1, k2⟩
        · rw [r]; exact HX.out.2.2
        · rw [k2]; intro e; injection e with e
          have k1 : wr.heap.size ≤ k := k1
          omega
      have HON : Hid (∀ W, Below w.heap.size w W → W.cell? ⟨b, bo + q * 3, none⟩ = some (.int .i64 z0) ∧ W.cell? ⟨b, bo + q * 3 + 1, none⟩ = some (.int .i64 z1) ∧ W.cell? ⟨b, bo + q * 3 + 2, none⟩ = some (.int .i64 z2)) := fun W hW => by
        obtain ⟨b', bo', n2, c2, hg, hcl⟩ := (HOP.out.below hW).cell hq'
        simp only [Value.slice.injEq, Option.some.injEq, Addr.mk.injEq] at hg
        obtain ⟨⟨rfl, rfl, -⟩, -, -⟩ := hg
        rw [hz] at hcl
        exact tri_cells rfl rfl hcl
      have hV0 : wr.drew.cell? ⟨g7, 0, none⟩ = some (.int .i64 512) ∧ wr.drew.cell? ⟨g7, 1, none⟩ = some (.slice none 0 0) ∧ wr.drew.cell? ⟨b, bo + q * 3, none⟩ = some (.int .i64 z0) ∧ wr.drew.cell? ⟨b, bo + q * 3 + 1, none⟩ = some (.int .i64 z1) ∧ wr.drew.cell? ⟨b, bo + q * 3 + 2, none⟩ = some (.int .i64 z2) := ⟨x0, x1, o0, o1, o2⟩
      clear hz hcl hq' x0 x1 o0 o1 o2
      go_wp2_with fail
      go_region_held3 (fun w' => w'.cell? ⟨g7, 0, none⟩ = some (.int .i64 512) ∧ w'.cell? ⟨g7, 1, none⟩ = some (.slice none 0 0) ∧ w'.cell? ⟨b, bo + q * 3, none⟩ = some (.int .i64 z0) ∧ w'.cell? ⟨b, bo + q * 3 + 1, none⟩ = some (.int .i64 z1) ∧ w'.cell? ⟨b, bo + q * 3 + 2, none⟩ = some (.int .i64 z2)) (first | with_reducible exact hV0 | with_reducible exact ⟨x0, x1, o0, o1, o2⟩)
        (first | (go_at_call 27; refine HC.out.mono ?_; rintro e w6 ⟨ev6, v6, rfl, D6, F6⟩; have hX6 := HXN.out w6 ev6 F6; obtain ⟨x0, x1⟩ := two_cell hX6.1; obtain ⟨o0, o1, o2⟩ := HON.out w6 D6.gm.bl))
      have HM6 : Hid (GM w w6 gb 512 ev6 (oneGE 512 E (z0, z1, z2))) := D6.gm
      have HX6 : Hid (w6.heap[g7]? = some (.cells #[.int .i64 512, .slice none 0 0] 72) ∧ g7 ≠ gb ∧ ev6.ownBlock ≠ some g7) := hX6
      clear hV0 x0 x1 o0 o1 o2 D6 F6 hX6 HC HD HXN HON HM HX
      go_wp2_with fail
      go_roundw
      case rel => exact ⟨q + 1, ev6, _, by go_num, by omega, HM6, HX6⟩
      case measure => simp [intOf]; omega
    · have d1 : decide (q < n) = false := decide_eq_false hlt
      have HFA := fall_any HM.out.gv age
      have HRZ0 : Hid (GD kZ w wr gb 512 ev E (.slice none 0 0) []) := ⟨HM.out, RS.nil _ _, fun h => absurd h (by simp)⟩
      have HUE : Hid (Up E ∧ E.length ≤ 512) := ⟨HM.out.gv.ok.Up, HM.out.gv.l512⟩
      clear HX hlt hq HOP HN HM
      go_wp2_with fail
      refine HFA.mono ?_
      rintro e w5 ⟨F, hF, fv, rfl, hz5, b5, n5⟩
      have hD5 := HRZ0.out.dstep b5 hz5.rs (FG.new n5)
      obtain ⟨fa, fc, e5⟩ := hz5.sl
      obtain ⟨f, hf⟩ : ∃ f, F.length = f := ⟨_, rfl⟩
      rw [hf] at e5
      subst e5
      have HFL : Hid (F.length = f) := hf
      have HFO : Hid (FallsOf E age F) := hF
      have hf513 : f ≤ 513 := by have := falls_len HUE.out.1 hF; have := HUE.out.2; omega
      have HD5 : Hid (GD kZ w w5 gb 512 ev E (.slice fa f fc) F) := hD5
      have hf0 : 0 < f := by
        have := hF.mem
        rw [← hf]
        exact List.length_pos_of_mem this
      have hhd : F[0]'(by rw [hf]; exact hf0) = age := by
        have := hF.head
        rw [List.head?_eq_getElem?, List.getElem?_eq_getElem (by rw [hf]; exact hf0)] at this
        injection this
      obtain ⟨b, bo, n', c', hg, hcl⟩ := HD5.out.rs.cell (i := 0) (by rw [hf]; exact hf0)
      have e1 : fa = some ⟨b, bo, none⟩ := by injection hg
      subst e1
      rw [hhd] at hcl
      have y0 : w5.cell? ⟨b, bo, none⟩ = some (.int .i64 age) := uno_cell rfl rfl hcl
      have t0 : decide (f = 0) = false := decide_eq_false (by omega)
      have t0' : (f == 0) = false := by simp; omega
      have i0 : (0 : Int) < (f : Int) := by omega
      have tfz : ((f : Int) == 0) = false := by simp; omega
      have HED := edges_any HD5.out.gm.gv
      clear hF hz5 b5 n5 hD5 hf hhd hg hcl HFA HRZ0
      go_wp2_with fail
      refine HED.mono ?_
      rintro e w6 ⟨ev6, rfl, r6, b6⟩
      obtain ⟨ea, ec, e6⟩ := r6.form
      obtain ⟨m, hm⟩ : ∃ m, E.length = m := ⟨_, rfl⟩
      have HML : Hid (E.length = m) := hm
      have hm512 : m ≤ 512 := by have := HUE.out.2; omega
      rw [hm] at e6
      subst e6
      have HD6 : Hid (GD kZ w w6 gb 512 ev E (.slice (some ⟨b, bo, none⟩) f fc) F) := HD5.out.below b6
      have HE6 : Hid (RS kE w6 (.slice ea m ec) E) := r6
      clear r6 b6 hm HD5 HED y0 t0 t0' i0 tfz
      go_wp2_with fail
      go_loopw [12] (fun iv wr => ∃ q : Nat, iv = .int .i64 (q : Int) ∧ q ≤ f ∧ Hid (Below w6.heap.size w6 wr)) (fun iv _ => f - (intOf iv).toNat)
      case atStart => exact ⟨0, rfl, Nat.zero_le _, Below.refl _ _⟩
      case round =>
        obtain ⟨q, rfl, hq, HB⟩ := hrel
        by_cases hlt : q < f
        · have d1 : decide (q < f) = true := decide_eq_true hlt
          have hq' : q < F.length := by rw [HFL.out]; exact hlt
          obtain ⟨b2, bo2, n', c', hg, hcl⟩ := (HD6.out.rs.below HB.out).cell hq'
          simp only [Value.slice.injEq, Option.some.injEq, Addr.mk.injEq] at hg
          obtain ⟨⟨rfl, rfl, -⟩, -, -⟩ := hg
          obtain ⟨u, hu⟩ : ∃ x, F[q]'hq' = x := ⟨_, rfl⟩
          have HU : Hid (u ∈ F) := by show _ ∈ _; rw [← hu]; exact List.getElem_mem _
          have HYF : Hid (∀ W, Below w6.heap.size w6 W → W.cell? ⟨b, bo + q, none⟩ = some (.int .i64 u)) := fun W hW => by
            obtain ⟨b2, bo2, n', c', hg, hcl⟩ := (HD6.out.rs.below hW).cell hq'
            simp only [Value.slice.injEq, Option.some.injEq, Addr.mk.injEq] at hg
            obtain ⟨⟨rfl, rfl, -⟩, -, -⟩ := hg
            rw [hu] at hcl
            exact uno_cell rfl rfl hcl
          have y0 := HYF.out wr HB.out
          have i1 : (0 : Int) ≤ (q : Int) := by omega
          have i2 : (q : Int) < (f : Int) := by omega
          by_cases hq0 : q = 0
          · have g0' : ¬ (0 : Int) < (q : Int) := by omega
            have g0 : decide ((0 : Int) < (q : Int)) = false := by rw [decide_eq_false_iff_not]; exact g0'
            have g0n : decide (0 < q) = false := by rw [decide_eq_false_iff_not]; omega
            clear hcl hu hq' hq0
            go_wp2_with fail
            go_quiet (fail)
            have HB2 : Hid (Below w6.heap.size w6 (wr.drewN nq)) := Below.dN HB.out _
            generalize wr.drewN nq = w7 at *
            have y2 := HYF.out w7 HB2.out
            go_wp2_with fail
            obtain ⟨lb, hlb⟩ : ∃ lb : Bool, (u == age) = lb := ⟨_, rfl⟩
            have HLB : Hid (lb = true ↔ leanP E F age u 0) := by
              rw [← hlb]
              show _ ↔ _
              unfold leanP
              constructor
              · intro h; exact .inl (by simpa using h)
              · rintro (r | ⟨j, hj, h1, _⟩)
                · simp [r]
                · omega
            go_loopw [13, 14] (fun bv kv wr => ∃ (lb : Bool) (k : Nat), bv = .bool lb ∧ kv = .int .i64 (k : Int) ∧ k ≤ m ∧ Hid (Below w6.heap.size w6 wr) ∧ Hid (lb = true ↔ leanP E F age u k)) (fun _ kv _ => m - (intOf kv).toNat)
            case atStart => exact ⟨lb, 0, by rw [hlb], rfl, Nat.zero_le _, HB2, HLB⟩
            case round =>
              clear HLB hlb y2 HB2
              obtain ⟨lb, k, rfl, rfl, hk, HB3, HLB⟩ := hrel
              by_cases hlt2 : k < m
              · have d2 : decide (k < m) = true := decide_eq_true hlt2
                have hk' : k < E.length := by rw [HML.out]; exact hlt2
                obtain ⟨eb, eo, n', c', hg, hcl⟩ := (HE6.out.below HB3.out).cell hk'
                simp only [Value.slice.injEq] at hg
                obtain ⟨rfl, rfl, rfl⟩ := hg
                obtain ⟨⟨z0, z1⟩, hz⟩ : ∃ x, E[k]'hk' = x := ⟨_, rfl⟩
                have HNX : Hid (leanP E F age u (k + 1) ↔ leanP E F age u k ∨ (z0 = u ∧ z1 ∈ F)) := leanP.next hk' hz
                rw [hz] at hcl
                obtain ⟨x0, x1⟩ := duo_cells rfl rfl hcl
                have y2 := HYF.out wr HB3.out
                have j1 : (0 : Int) ≤ (k : Int) := by omega
                have j2 : (k : Int) < (m : Int) := by omega
                have HH : Hid (∀ W, Below w6.heap.size w6 W → Calls Try.prog 39 #[.slice (some ⟨b, bo, none⟩) f fc, .int .i64 z1] W (SameW W (.bool (decide (z1 ∈ F))))) := fun W hW => has39_any (HD6.out.rs.below hW) (by have := HFL.out; omega) z1
                have HB4 : Hid (∀ N, Below w6.heap.size w6 (wr.drewN N)) := fun N => Below.dN HB3.out N
                clear hz hcl hk' y0
                cases lb with
                | true =>
                  have HL2 : Hid (leanP E F age u (k + 1)) := HNX.out.2 (.inl (HLB.out.1 rfl))
                  clear HNX HLB HH
                  go_wp2_with fail
                  go_quiet (fail)
                  go_wp2_with fail
                  go_roundw
                  case rel => exact ⟨true, k + 1, rfl, by go_num, by omega, HB4.out _, fun _ => HL2.out, fun _ => rfl⟩
                  case measure => simp [intOf]; omega
                | false =>
                  by_cases hzu : z0 = u
                  · have t3 : (z0 == u) = true := by simp [hzu]
                    obtain ⟨lb2, hlb2⟩ : ∃ lb2 : Bool, decide (z1 ∈ F) = lb2 := ⟨_, rfl⟩
                    have HL2 : Hid (lb2 = true ↔ leanP E F age u (k + 1)) := by
                      show _ ↔ _
                      rw [HNX.out, ← hlb2]
                      constructor
                      · intro h; exact .inr ⟨hzu, of_decide_eq_true h⟩
                      · rintro (r | ⟨_, r⟩)
                        · have := HLB.out.2 r; cases this
                        · exact decide_eq_true r
                    rw [hlb2] at HH
                    clear HNX HLB hzu hlb2
                    go_wp2_with fail
                    go_quiet (first | (go_at_call 39; refine Calls.quiet_of_same (HH.out _ (HB4.out _))))
                    go_wp2_with fail
                    go_roundw
                    case rel => exact ⟨lb2, k + 1, rfl, by go_num, by omega, HB4.out _, HL2⟩
                    case measure => simp [intOf]; omega
                  · have t3 : (z0 == u) = false := by simp [hzu]
                    have HL2 : Hid (false = true ↔ leanP E F age u (k + 1)) := by
                      show _ ↔ _
                      rw [HNX.out]
                      constructor
                      · intro h; cases h
                      · rintro (r | ⟨r, _⟩)
                        · exact HLB.out.2 r
                        · exact absurd r hzu
                    clear HNX HLB HH hzu
                    go_wp2_with fail
                    go_quiet (fail)
                    go_wp2_with fail
                    go_roundw
                    case rel => exact ⟨false, k + 1, rfl, by go_num, by omega, HB4.out _, HL2⟩
                    case measure => simp [intOf]; omega
              · have d2 : decide (k < m) = false := decide_eq_false hlt2
                have hkm : k = m := by omega
                have hlbt : lb = true := HLB.out.2 (by rw [hkm, ← HML.out]; exact leanP.all HFO.out HU.out)
                subst hlbt
                clear HLB hlt2 hkm
                go_wp2_with fail
                go_roundw
                case rel => exact ⟨q + 1, by go_num, by omega, HB3⟩
                case measure => simp [intOf]; omega
          · obtain ⟨p, hp⟩ : ∃ p, q = p + 1 := ⟨q - 1, by omega⟩
            have hp' : p < F.length := by have := HFL.out; omega
            obtain ⟨b2, bo2, n', c', hg, hcl2⟩ := (HD6.out.rs.below HB.out).cell hp'
            simp only [Value.slice.injEq, Option.some.injEq, Addr.mk.injEq] at hg
            obtain ⟨⟨rfl, rfl, -⟩, -, -⟩ := hg
            obtain ⟨u', hu'⟩ : ∃ x, F[p]'hp' = x := ⟨_, rfl⟩
            rw [hu'] at hcl2
            have y1 := uno_cell rfl rfl hcl2
            have hlt3 : u' < u := by
              rw [← hu, ← hu']
              exact (List.pairwise_iff_getElem.1 HFO.out.srt) p q hp' hq' (by omega)
            have r0 : decide (u ≤ u') = false := decide_eq_false (by omega)
            have qp : (q : Int) - 1 = (p : Int) := by omega
            have g0' : (0 : Int) < (q : Int) := by omega
            have g0 : decide ((0 : Int) < (q : Int)) = true := by rw [decide_eq_true_iff]; exact g0'
            have g0'' : 0 < q := by omega
            have j1 : (0 : Int) ≤ (p : Int) := by omega
            have j2 : (p : Int) < (f : Int) := by omega
            have w1 : IntKind.i64.wrap (p : Int) = (p : Int) := by rw [IntKind.wrap_i64]; omega
            have w1' : wrap64 (p : Int) = (p : Int) := w64in _ (by clear w1; omega)
            clear hcl hcl2 hu hu' hq' hp' hlt3 hp hq0
            go_wp2_with fail
            go_quiet (fail)
            clear y1 w1 w1'
            have HB2 : Hid (Below w6.heap.size w6 (wr.drewN nq)) := Below.dN HB.out _
            generalize wr.drewN nq = w7 at *
            have y2 := HYF.out w7 HB2.out
            go_wp2_with fail
            obtain ⟨lb, hlb⟩ : ∃ lb : Bool, (u == age) = lb := ⟨_, rfl⟩
            have HLB : Hid (lb = true ↔ leanP E F age u 0) := by
              rw [← hlb]
              show _ ↔ _
              unfold leanP
              constructor
              · intro h; exact .inl (by simpa using h)
              · rintro (r | ⟨j, hj, h1, _⟩)
                · simp [r]
                · omega
            go_loopw [13, 14] (fun bv kv wr => ∃ (lb : Bool) (k : Nat), bv = .bool lb ∧ kv = .int .i64 (k : Int) ∧ k ≤ m ∧ Hid (Below w6.heap.size w6 wr) ∧ Hid (lb = true ↔ leanP E F age u k)) (fun _ kv _ => m - (intOf kv).toNat)
            case atStart => exact ⟨lb, 0, by rw [hlb], rfl, Nat.zero_le _, HB2, HLB⟩
            case round =>
              clear HLB hlb y2 HB2
              obtain ⟨lb, k, rfl, rfl, hk, HB3, HLB⟩ := hrel
              by_cases hlt2 : k < m
              · have d2 : decide (k < m) = true := decide_eq_true hlt2
                have hk' : k < E.length := by rw [HML.out]; exact hlt2
                obtain ⟨eb, eo, n', c', hg, hcl⟩ := (HE6.out.below HB3.out).cell hk'
                simp only [Value.slice.injEq] at hg
                obtain ⟨rfl, rfl, rfl⟩ := hg
                obtain ⟨⟨z0, z1⟩, hz⟩ : ∃ x, E[k]'hk' = x := ⟨_, rfl⟩
                have HNX : Hid (leanP E F age u (k + 1) ↔ leanP E F age u k ∨ (z0 = u ∧ z1 ∈ F)) := leanP.next hk' hz
                rw [hz] at hcl
                obtain ⟨x0, x1⟩ := duo_cells rfl rfl hcl
                have y2 := HYF.out wr HB3.out
                have j1 : (0 : Int) ≤ (k : Int) := by omega
                have j2 : (k : Int) < (m : Int) := by omega
                have HH : Hid (∀ W, Below w6.heap.size w6 W → Calls Try.prog 39 #[.slice (some ⟨b, bo, none⟩) f fc, .int .i64 z1] W (SameW W (.bool (decide (z1 ∈ F))))) := fun W hW => has39_any (HD6.out.rs.below hW) (by have := HFL.out; omega) z1
                have HB4 : Hid (∀ N, Below w6.heap.size w6 (wr.drewN N)) := fun N => Below.dN HB3.out N
                clear hz hcl hk' y0
                cases lb with
                | true =>
                  have HL2 : Hid (leanP E F age u (k + 1)) := HNX.out.2 (.inl (HLB.out.1 rfl))
                  clear HNX HLB HH
                  go_wp2_with fail
                  go_quiet (fail)
                  go_wp2_with fail
                  go_roundw
                  case rel => exact ⟨true, k + 1, rfl, by go_num, by omega, HB4.out _, fun _ => HL2.out, fun _ => rfl⟩
                  case measure => simp [intOf]; omega
                | false =>
                  by_cases hzu : z0 = u
                  · have t3 : (z0 == u) = true := by simp [hzu]
                    obtain ⟨lb2, hlb2⟩ : ∃ lb2 : Bool, decide (z1 ∈ F) = lb2 := ⟨_, rfl⟩
                    have HL2 : Hid (lb2 = true ↔ leanP E F age u (k + 1)) := by
                      show _ ↔ _
                      rw [HNX.out, ← hlb2]
                      constructor
                      · intro h; exact .inr ⟨hzu, of_decide_eq_true h⟩
                      · rintro (r | ⟨_, r⟩)
                        · have := HLB.out.2 r; cases this
                        · exact decide_eq_true r
                    rw [hlb2] at HH
                    clear HNX HLB hzu hlb2
                    go_wp2_with fail
                    go_quiet (first | (go_at_call 39; refine Calls.quiet_of_same (HH.out _ (HB4.out _))))
                    go_wp2_with fail
                    go_roundw
                    case rel => exact ⟨lb2, k + 1, rfl, by go_num, by omega, HB4.out _, HL2⟩
                    case measure => simp [intOf]; omega
                  · have t3 : (z0 == u) = false := by simp [hzu]
                    have HL2 : Hid (false = true ↔ leanP E F age u (k + 1)) := by
                      show _ ↔ _
                      rw [HNX.out]
                      constructor
                      · intro h; cases h
                      · rintro (r | ⟨r, _⟩)
                        · exact HLB.out.2 r
                        · exact absurd r hzu
                    clear HNX HLB HH hzu
                    go_wp2_with fail
                    go_quiet (fail)
                    go_wp2_with fail
                    go_roundw
                    case rel => exact ⟨false, k + 1, rfl, by go_num, by omega, HB4.out _, HL2⟩
                    case measure => simp [intOf]; omega
              · have d2 : decide (k < m) = false := decide_eq_false hlt2
                have hkm : k = m := by omega
                have hlbt : lb = true := HLB.out.2 (by rw [hkm, ← HML.out]; exact leanP.all HFO.out HU.out)
                subst hlbt
                clear HLB hlt2 hkm
                go_wp2_with fail
                go_roundw
                case rel => exact ⟨q + 1, by go_num, by omega, HB3⟩
                case measure => simp [intOf]; omega
        · have d1 : decide (q < f) = false := decide_eq_false hlt
          clear hlt hq
          generalize wr = w7 at *
          have HD7 : Hid (GD kZ w w7 gb 512 ev E (.slice (some ⟨b, bo, none⟩) f fc) F) := HD6.out.below HB.out
          have HE7 : Hid (RS kE w7 (.slice ea m ec) E) := HE6.out.below HB.out
          clear HD6 HE6 HB
          have HH : Hid (∀ W z, Below w7.heap.size w7 W → Calls Try.prog 39 #[.slice (some ⟨b, bo, none⟩) f fc, .int .i64 z] W (SameW W (.bool (decide (z ∈ F))))) := fun W z hW => has39_any (HD7.out.rs.below hW) (by have := HFL.out; omega) z
          go_wp2_with fail
          go_loopw [15] (fun iv wr => wr = w7 ∧ ∃ k : Nat, iv = .int .i64 (k : Int) ∧ k ≤ m) (fun iv _ => m - (intOf iv).toNat)
          case atStart => exact ⟨rfl, 0, rfl, Nat.zero_le _⟩
          case round =>
            obtain ⟨rfl, k, rfl, hk⟩ := hrel
            by_cases hlt : k < m
            · have d2 : decide (k < m) = true := decide_eq_true hlt
              have hk' : k < E.length := by rw [HML.out]; exact hlt
              obtain ⟨eb, eo, n', c', hg, hcl⟩ := HE7.out.cell hk'
              simp only [Value.slice.injEq] at hg
              obtain ⟨rfl, rfl, rfl⟩ := hg
              obtain ⟨⟨z0, z1⟩, hz⟩ : ∃ x, E[k]'hk' = x := ⟨_, rfl⟩
              have HCLO : Hid (z1 ∈ F → z0 ∈ F) := fun h => by
                have := HFO.out.clo _ (List.getElem_mem hk')
                rw [hz] at this
                exact this h
              rw [hz] at hcl
              obtain ⟨y0, y1⟩ := duo_cells rfl rfl hcl
              have i1 : (0 : Int) ≤ (k : Int) := by omega
              have i2 : (k : Int) < (m : Int) := by omega
              have HA1 := HH.out wr z1 (Below.refl _ _)
              have HA0 := HH.out wr z0 (Below.refl _ _)
              clear hz hcl hk'
              by_cases hin : z1 ∈ F
              · rw [decide_eq_true hin] at HA1
                rw [decide_eq_true (HCLO.out hin)] at HA0
                clear hin HCLO
                go_wp2_with fail
                refine HA1.mono ?_
                rintro e w8 ⟨rfl, rfl⟩
                go_wp2_with fail
                refine HA0.mono ?_
                rintro e w8 ⟨rfl, rfl⟩
                go_wp2_with fail
                go_roundw
                case rel => exact ⟨trivial, k + 1, by go_num, by omega⟩
                case measure => simp [intOf]; omega
              · rw [decide_eq_false hin] at HA1
                clear hin HCLO HA0
                go_wp2_with fail
                refine HA1.mono ?_
                rintro e w8 ⟨rfl, rfl⟩
                go_wp2_with fail
                go_roundw
                case rel => exact ⟨trivial, k + 1, by go_num, by omega⟩
                case measure => simp [intOf]; omega
            · have d2 : decide (k < m) = false := decide_eq_false hlt
              clear hlt hk HH
              go_wp2_with fail
              go_loopw [16] (fun iv wr => ∃ (q : Nat) (ev : Value) (E : Ed), iv = .int .i64 (q : Int) ∧ q ≤ f ∧ Hid (GD kZ w wr gb 512 ev E (.slice (some ⟨b, bo, none⟩) f fc) F) ∧ Hid (∀ e ∈ E, ∀ j (hj : j < F.length), j < q → e.2 ≠ F[j])) (fun iv _ => f - (intOf iv).toNat)
              case atStart => exact ⟨0, ev, E, rfl, Nat.zero_le _, HD7, fun e _ j hj h0 => absurd h0 (by omega)⟩
              case round =>
                clear HD7 HE7 HFO HUE
                obtain ⟨q, ev9, E9, rfl, hq, HD9, HI9⟩ := hrel
                by_cases hlt : q < f
                · have d3 : decide (q < f) = true := decide_eq_true hlt
                  have hq' : q < F.length := by rw [HFL.out]; exact hlt
                  obtain ⟨b2, bo2, n', c', hg, hcl⟩ := HD9.out.rs.cell hq'
                  simp only [Value.slice.injEq, Option.some.injEq, Addr.mk.injEq] at hg
                  obtain ⟨⟨rfl, rfl, -⟩, -, -⟩ := hg
                  obtain ⟨u, hu⟩ : ∃ x, F[q]'hq' = x := ⟨_, rfl⟩
                  rw [hu] at hcl
                  have y0 := uno_cell rfl rfl hcl
                  have i1 : (0 : Int) ≤ (q : Int) := by omega
                  have i2 : (q : Int) < (f : Int) := by omega
                  have HRM := rem_any HD9.out.gm.gv u
                  have HI10 : Hid (∀ e ∈ remS E9 u, ∀ j (hj : j < F.length), j < q + 1 → e.2 ≠ F[j]) := fun e he j hj hjq => by
                    unfold remS at he
                    rw [List.mem_filter] at he
                    rcases Nat.lt_or_ge j q with r | r
                    · exact HI9.out e he.1 j hj r
                    · have : j = q := by omega
                      subst this
                      rw [hu]
                      have := he.2
                      simp [isA] at this
                      exact this.2
                  clear hcl hu hq' HI9
                  go_wp2_with fail
                  refine HRM.mono ?_
                  intro e w10 q10
                  obtain ⟨ev10, rfl, D10, _⟩ := HD9.out.gstep q10
                  have HD10 : Hid (GD kZ w w10 gb 512 ev10 (remS E9 u) (.slice (some ⟨b, bo, none⟩) f fc) F) := D10
                  clear q10 D10 HD9 y0
                  go_wp2_with fail
                  go_roundw
                  case rel => exact ⟨q + 1, ev10, _, by go_num, by omega, HD10, HI10⟩
                  case measure => simp [intOf]; omega
                · have d3 : decide (q < f) = false := decide_eq_false hlt
                  have hqf : q = f := by omega
                  have HI11 : Hid (∀ j (hj : j < F.length), readersOf E9 F[j] = []) := fun j hj => by
                    unfold readersOf
                    rw [List.map_eq_nil_iff, List.filter_eq_nil_iff]
                    intro e he
                    have := HI9.out e he j hj (by have := HFL.out; omega)
                    simpa using this
                  subst hqf
                  clear HI9 hlt hq
                  go_wp2_with fail
                  go_loopw [17] (fun iv wr => ∃ p : Nat, iv = .int .i64 (p : Int) ∧ p ≤ q ∧ Hid (GD kZ w wr gb 512 ev9 E9 (.slice (some ⟨b, bo, none⟩) q fc) F)) (fun iv _ => q - (intOf iv).toNat)
                  case atStart => exact ⟨0, rfl, Nat.zero_le _, HD9⟩
                  case round =>
                    clear HD9
                    obtain ⟨p, rfl, hp, HD9⟩ := hrel
                    by_cases hlt : p < q
                    · have d4 : decide (p < q) = true := decide_eq_true hlt
                      have hq' : p < F.length := by rw [HFL.out]; exact hlt
                      obtain ⟨b2, bo2, n', c', hg, hcl⟩ := HD9.out.rs.cell hq'
                      simp only [Value.slice.injEq, Option.some.injEq, Addr.mk.injEq] at hg
                      obtain ⟨⟨rfl, rfl, -⟩, -, -⟩ := hg
                      have hrd := readers_any HD9.out.gm.gv (F[p]'hq')
                      rw [HI11.out p hq'] at hrd
                      obtain ⟨u, hu⟩ : ∃ x, F[p]'hq' = x := ⟨_, rfl⟩
                      rw [hu] at hcl hrd
                      have y0 := uno_cell rfl rfl hcl
                      have i1 : (0 : Int) ≤ (p : Int) := by omega
                      have i2 : (p : Int) < (q : Int) := by omega
                      have HRD : Hid (Calls Try.prog 32 #[.pointer (some ⟨gb, 0, none⟩), .int .i64 u] wr (RowQ wr [])) := hrd
                      clear hcl hu hq' hrd
                      go_wp2_with fail
                      refine HRD.out.mono ?_
                      rintro e w12 ⟨v12, rfl, z12, b12, _⟩
                      obtain ⟨a12, c12, e12⟩ := z12.sl
                      have e12' : v12 = .slice a12 0 c12 := e12
                      subst e12'
                      have HD12 : Hid (GD kZ w w12 gb 512 ev9 E9 (.slice (some ⟨b, bo, none⟩) q fc) F) := HD9.out.below b12
                      clear e12 z12 b12 HD9 y0
                      go_wp2_with fail
                      go_roundw
                      case rel => exact ⟨p + 1, by go_num, by omega, HD12⟩
                      case measure => simp [intOf]; omega
                    · have d4 : decide (p < q) = false := decide_eq_false hlt
                      have HAL := alive38_any wr
                      have HR : Hid (∀ W, Below wr.heap.size wr W → P (.returned (.bool true)) W) := fun W hW => HF.out W (HD9.out.gm.bl.trans (hW.mono HD9.out.gm.bl.size))
                      clear HD9 HI11
                      go_wp2_with fail
                      refine HAL.mono ?_
                      rintro e w13 ⟨rfl, b13⟩
                      have HR13 : Hid (P (.returned (.bool true)) w13) := HR.out w13 b13
                      clear b13
                      go_wp2
                      first | exact HR13.out | (go_ret; exact HR13.out)
end Go.Proofs.Ytongeppdaeekeaa
