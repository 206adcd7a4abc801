/- Who falls with an age. -/
import Derived.Test.YtongeppdaeekeaaGrS
import Derived.Test.YtongeppdaeekeaaGrT
namespace Go.Proofs.Ytongeppdaeekeaa
open Go.RowKit Go.Maps
set_option linter.unusedVariables false

set_option maxRecDepth 100000 in
set_option maxHeartbeats 4000000 in
theorem rowZ_true {w : World} {v1 v2 : Value} {l : List Int} (h1 : RS kZ w v1 l) (h2 : RS kZ w v2 l) (hl : l.length ≤ 1000) : Calls Try.prog 31 #[v1, v2] w (AN w (.bool true)) := by
  obtain ⟨m, hm⟩ : ∃ m, l.length = m := ⟨_, rfl⟩
  have HM : Hid (l.length = m) := hm
  have H1 : Hid (RS kZ w v1 l) := h1
  have H2 : Hid (RS kZ w v2 l) := h2
  obtain ⟨a1, c1, e1⟩ := h1.form
  obtain ⟨a2, c2, e2⟩ := h2.form
  rw [hm] at hl e1 e2
  subst e1 e2
  clear hm h1 h2
  have HF : Hid (∀ W, Below w.heap.size w W → AN w (.bool true) (.returned (.bool true)) W) := fun W hW => ⟨rfl, hW⟩
  generalize AN w _ = P at *
  go_enter Try.func31, Try.ntmps31
  go_wp2_with fail
  go_loopw [5] (fun i wr => ∃ q : Nat, i = .int .i64 (q : Int) ∧ q ≤ m ∧ Hid (Below w.heap.size w wr)) (fun i _ => m - (intOf i).toNat)
  case atStart => exact ⟨0, rfl, Nat.zero_le _, Below.refl _ _⟩
  case round =>
    obtain ⟨q, rfl, hq, HB⟩ := hrel
    by_cases hlt : q < m
    · have d1 : decide (q < m) = true := by first | exact decide_eq_true hlt | exact decide_eq_false hlt
      have hq' : q < l.length := by rw [HM.out]; exact hlt
      obtain ⟨b, o, n, c', hg, hcl⟩ := (H1.out.below HB.out).cell hq'
      simp only [Value.slice.injEq] at hg
      obtain ⟨rfl, rfl, rfl⟩ := hg
      obtain ⟨b', o', n', c2', hg, hcl2⟩ := (H2.out.below HB.out).cell hq'
      simp only [Value.slice.injEq] at hg
      obtain ⟨rfl, rfl, rfl⟩ := hg
      obtain ⟨z0, hz⟩ : ∃ x, l[q]'hq' = x := ⟨_, rfl⟩
      rw [hz] at hcl hcl2
      have y0 := uno_cell rfl rfl hcl
      have x0 := uno_cell rfl rfl hcl2
      have i1 : (0 : Int) ≤ (q : Int) := by omega
      have i2 : (q : Int) < (m : Int) := by omega
      clear hcl hcl2 hz hq'
      go_wp2_with fail
      go_quiet (fail)
      go_wp2_with fail
      go_roundw
      case rel => exact ⟨q + 1, by go_num, by omega, Below.dN HB.out _⟩
      case measure => simp [intOf]; omega
    · have d1 : decide (q < m) = false := by first | exact decide_eq_true hlt | exact decide_eq_false hlt
      have hqm : q = m := by omega
      subst hqm
      have HQ : Hid (P (.returned (.bool true)) wr) := HF.out _ HB.out
      go_wp2
      first | exact HQ.out | (go_ret; exact HQ.out)

/-- what is told, and the ages, in memory -/
structure FM (w W : World) (ab : Nat) (fv hv : Value) (F H : List Int) : Prop where
  av : AV W ab hv H
  rz : RZ kZ W fv F
  ne1 : fv.ownBlock ≠ some ab
  ne2 : ∀ g, fv.ownBlock = some g → hv.ownBlock ≠ some g
  bl : Below w.heap.size w W
  nh : ∀ g, hv.ownBlock = some g → w.heap.size ≤ g
  nf : ∀ g, fv.ownBlock = some g → w.heap.size ≤ g
  nab : w.heap.size ≤ ab
section
variable {w W W' : World} {ab : Nat} {fv fv' hv : Value} {F F' H H' : List Int}
theorem FM.below (h : FM w W ab fv hv F H) (b : Below W.heap.size W W') : FM w W' ab fv hv F H := ⟨h.av.below b, h.rz.below b, h.ne1, h.ne2, h.bl.trans (b.mono h.bl.size), h.nh, h.nf, h.nab⟩
theorem FM.step {x : Value} {e : Ending} (h : FM w W ab fv hv F H) (q : AQ W ab hv H' x e W') : ∃ hv', e = .returned x ∧ FM w W' ab fv hv' F H' := by
  obtain ⟨hv2, e1, a, c, o⟩ := q
  have hs := c.size
  refine ⟨hv2, e1, a, h.rz.keep (fun g hg => c.block g (h.rz.own hg) (fun r => ?_)), h.ne1, fun g hg => ?_, ?_, fun g hg => ?_, h.nf, h.nab⟩
  · rcases r with r | r
    · exact h.ne1 (r ▸ hg)
    · exact h.ne2 g hg r
  · rcases o with r | ⟨n, h1, h2⟩
    · rw [r]; exact h.ne2 g hg
    · rw [h2]; intro e; injection e with e; have := h.rz.own hg; omega
  · refine ⟨c.os.trans h.bl.os, c.tape.trans h.bl.tape, c.output.trans h.bl.output, Nat.le_trans h.bl.size c.size, fun k hk => (c.block k (by have := h.bl.size; omega) (fun r => ?_)).trans (h.bl.block k hk)⟩
    rcases r with r | r
    · have := h.nab; omega
    · have := h.nh k r; omega
  · rcases o with r | ⟨n, h1, h2⟩
    · exact h.nh g (r ▸ hg)
    · rw [h2] at hg; injection hg with hg; have := h.bl.size; omega
theorem FM.push (h : FM w W ab fv hv F H) (hz : RZ kZ W' fv' F') (hg : W.grownBy W' fv.ownBlock) (ho : fv'.ownBlock = fv.ownBlock ∨ fv'.ownBlock = some W.heap.size) : FM w W' ab fv' hv F' H := by
  have hlt := h.av.lt
  refine ⟨⟨(hg.block ab hlt (fun e => h.ne1 e.symm)).trans h.av.bl, h.av.rz.keep (fun g hgg => hg.block g (h.av.rz.own hgg) (fun e => h.ne2 g e.symm hgg)), h.av.ne, h.av.ll⟩, hz, ?_, fun g hgg => ?_, ?_, h.nh, fun g hgg => ?_, h.nab⟩
  · rcases ho with r | r
    · rw [r]; exact h.ne1
    · rw [r]; intro e; injection e with e; omega
  · rcases ho with r | r
    · exact h.ne2 g (r ▸ hgg)
    · rw [r] at hgg; injection hgg with hgg
      intro e
      have := h.av.rz.own e
      omega
  · exact h.bl.trans (grown_below hg h.bl.size h.nf)
  · rcases ho with r | r
    · exact h.nf g (r ▸ hgg)
    · rw [r] at hgg; injection hgg with hgg; have := h.bl.size; omega
end
/-- the plain part of the way -/
structure FP (E : Ed) (age : Int) (F H : List Int) : Prop where
  fs : FS E age F H
  hp : HpO H H.length
  ln : F.length + H.length + aboveE E F ≤ 1 + E.length
theorem FP.first (E : Ed) (age : Int) : FP E age [] [age] := ⟨FS.first E age, fun k h0 hk => by simp at hk; omega, by have := above_le E []; simp; omega⟩
theorem FP.again {E : Ed} {age z : Int} {F H H1 : List Int} (h : FP E age F H) (p : (z :: H1).Perm H) (o : HpO H1 H1.length) (hz : F.getLast? = some z) : FP E age F H1 ∧ H1.length + aboveE E F < H.length + aboveE E F := by
  have hl := p.length_eq
  rw [List.length_cons] at hl
  exact ⟨⟨(h.fs.perm p.symm).again hz, o, by have := h.ln; omega⟩, by omega⟩
theorem FP.next {E : Ed} {age z : Int} {F H H1 H2 : List Int} (hu : Up E) (h : FP E age F H) (p : (z :: H1).Perm H) (hmin : ∀ x ∈ H1, z ≤ x) (hz : F.getLast? ≠ some z) (p2 : H2.Perm (H1 ++ readersOf E z)) (o2 : HpO H2 H2.length) : FP E age (F ++ [z]) H2 ∧ H2.length + aboveE E (F ++ [z]) < H.length + aboveE E F := by
  have hl := p.length_eq
  rw [List.length_cons] at hl
  have h1 := h.fs.perm p.symm
  have h2 := above_next E F z (last_lt h1.srt (h1.le z (by simp)) hz)
  have hl2 := p2.length_eq
  rw [List.length_append] at hl2
  have := h.ln
  exact ⟨⟨(FS.next hu h1 hmin hz).perm p2.symm, o2, by rw [List.length_append, List.length_singleton]; omega⟩, by omega⟩
theorem FP.heapLen {E : Ed} {age z : Int} {F H H1 : List Int} (h : FP E age F H) (hE : E.length ≤ 512) (p : (z :: H1).Perm H) : H1.length ≤ 600 ∧ F.length ≤ 600 := by
  have hl := p.length_eq
  rw [List.length_cons] at hl
  have := h.ln
  omega
def rowOf (w : World) (v : Value) : List Int := match v with
  | .slice (some a) n _ => (List.range n).map fun i => intOf ((w.cell? ⟨a.block, i, none⟩).getD undef)
  | _ => []
theorem rowOf_is {w : World} {v : Value} {F : List Int} (h : RZ kZ w v F) : rowOf w v = F := by
  by_cases h0 : F.length = 0
  · have : F = [] := List.length_eq_zero_iff.1 h0
    subst this
    obtain ⟨a, c, rfl⟩ := h.sl
    cases a <;> rfl
  · obtain ⟨g, c, e, hc, _⟩ := h.cell (i := 0) (by omega)
    subst e
    refine List.ext_getElem (by simp [rowOf]) (fun i h1 h2 => ?_)
    obtain ⟨g', c', e, hc, _⟩ := h.cell (i := i) h2
    injection e with e1 e2 e3
    injection e1 with e1
    injection e1 with e1
    subst e1
    have := uno_own rfl rfl hc
    simp only [rowOf, List.getElem_map, List.getElem_range]
    rw [this]
    rfl
def hlenOf (w : World) (ab : Nat) : Nat := match w.cell? ⟨ab, 0, none⟩ with
  | some (.slice _ n _) => n
  | _ => 0
theorem hlenOf_is {w : World} {ab : Nat} {hv : Value} {H : List Int} (h : AV w ab hv H) : hlenOf w ab = H.length := by
  obtain ⟨a, c, e⟩ := h.rz.sl
  unfold hlenOf
  rw [h.cell, e]
theorem FM.ms {w W : World} {ab : Nat} {fv hv : Value} {F H : List Int} (h : FM w W ab fv hv F H) (E : Ed) : hlenOf W ab + aboveE E (rowOf W fv) = H.length + aboveE E F := by rw [hlenOf_is h.av, rowOf_is h.rz]
/-- the edges of a writer stay where they are -/
theorem of_stay {w W W' : World} {ev v : Value} {L : Ed} (hr : RS kE W v L) (h1 : Below w.heap.size w W) (h2 : Below w.heap.size w W') (hv : ∀ g, v.ownBlock = some g → ev.ownBlock = some g) (he : ∀ g, ev.ownBlock = some g → g < w.heap.size) : RS kE W' v L :=
  hr.keep fun g _ hf _ => by
    obtain ⟨o, n, c, rfl⟩ := hf
    have := he g (hv g rfl)
    exact (h2.block g this).trans (h1.block g this).symm
theorem last_at {F : List Int} {f : Nat} (h : F.length = f + 1) : F.getLast? = some (at0 F f) := by
  rw [List.getLast?_eq_getElem?, h, at0_get F f (by omega), List.getElem?_eq_getElem (by omega)]
  rfl
def FallQ (w : World) (E : Ed) (age : Int) (e : Ending) (W : World) : Prop := ∃ F, FallsOf E age F ∧ RowQ w F e W
set_option maxRecDepth 100000 in
set_option maxHeartbeats 16000000 in
theorem fall_any {w : World} {gb room : Nat} {ev : Value} {E : Ed} (h : GV w gb room ev E) (age : Int) : Calls Try.prog 34 #[.pointer (some ⟨gb, 0, none⟩), .int .i64 age] w (FallQ w E age) := by
  have HG : Hid (∀ W, Below w.heap.size w W → GV W gb room ev E) := fun W hW => h.below hW
  have HEV : Hid (∀ g, ev.ownBlock = some g → g < w.heap.size) := fun g hg => h.rz.own hg
  have HUE : Hid (Up E) := h.ok.Up
  have HEL : Hid (E.length ≤ 512) := h.l512
  have HOL : Hid (∀ z, (ofS E z).length ≤ 512) := fun z => ofS_len h.ok z
  have HAN := anew_any age w
  have HF : Hid (∀ W F fv, FallsOf E age F → RZ kZ W fv F → Below w.heap.size w W → (∀ g, fv.ownBlock = some g → w.heap.size ≤ g) → FallQ w E age (.returned fv) W) := fun W F fv h1 h2 h3 h4 => ⟨F, h1, fv, rfl, h2, h3, h4⟩
  clear h
  generalize FallQ w E age = P at *
  go_enter Try.func34, Try.ntmps34
  go_wp2_with fail
  refine HAN.mono ?_
  rintro e w1 ⟨ab, hv, rfl, a1, b1, n1, m1⟩
  have HM1 : Hid (FM w w1 ab (.slice none 0 0) hv [] [age]) := ⟨a1, RZ.nil _ _, by simp [Value.ownBlock], fun g hg => by simp [Value.ownBlock] at hg, b1, m1, fun g hg => by simp [Value.ownBlock] at hg, n1⟩
  have HP1 : Hid (FP E age [] [age]) := FP.first E age
  clear a1 b1 n1 m1
  go_wp2_with fail
  go_loopw [5] (fun fv wr => ∃ (F H : List Int) (hv' : Value), (∃ a f c, fv = .slice a f c ∧ Hid (F.length = f)) ∧ Hid (FM w wr ab fv hv' F H) ∧ Hid (FP E age F H)) (fun fv wr => hlenOf wr ab + aboveE E (rowOf wr fv))
  case atStart => exact ⟨[], [age], hv, ⟨_, _, _, rfl, rfl⟩, HM1, HP1⟩
  case round =>
    clear HM1 HP1
    obtain ⟨F, H, hv1, ⟨fa, f, fc, rfl, HFL⟩, HM, HP⟩ := hrel
    have HMS0 : Hid (hlenOf wr ab + aboveE E (rowOf wr (.slice fa f fc)) = H.length + aboveE E F) := HM.out.ms E
    have HL := alen_any HM.out.av
    by_cases h0 : H.length = 0
    · rw [h0] at HL
      have hH : H = [] := List.length_eq_zero_iff.1 h0
      have HR : Hid (P (.returned (.slice fa f fc)) wr) := HF.out wr F _ (by have := HP.out.fs; rw [hH] at this; exact this.done) HM.out.rz HM.out.bl HM.out.nf
      clear hH h0 HP HM HMS0
      go_wp2_with fail
      refine HL.mono ?_
      rintro e w2 ⟨rfl, rfl⟩
      go_wp2
      first | exact HR.out | (go_ret; exact HR.out)
    · obtain ⟨m, hm⟩ : ∃ m, H.length = m + 1 := ⟨H.length - 1, by omega⟩
      obtain ⟨k, hk⟩ : ∃ k, H.length = k := ⟨_, rfl⟩
      have HT : Hid (Calls Try.prog 77 #[.pointer (some ⟨ab, 0, none⟩)] wr (PopQ (fun z => .int .i64 z) wr ab hv1 H)) := take_any HM.out.av HP.out.hp m hm
      have e0 : decide (0 < k) = true := decide_eq_true (by omega)
      have e0' : (0 : Int) < (k : Int) := by omega
      rw [hk] at HL
      clear h0 hm hk
      go_wp2_with fail
      refine HL.mono ?_
      rintro e w2 ⟨rfl, rfl⟩
      clear HL
      go_wp2_with fail
      refine HT.out.mono ?_
      rintro e w3 ⟨z, H1, p1, n1, o1, q1⟩
      obtain ⟨hv3, rfl, m3⟩ := HM.out.step q1
      have HM3 : Hid (FM w w3 ab (.slice fa f fc) hv3 F H1) := m3
      have HH1 : Hid ((z :: H1).Perm H ∧ (∀ x ∈ H1, z ≤ x) ∧ HpO H1 H1.length) := ⟨p1, n1, o1⟩
      clear p1 n1 o1 q1 m3 HM HT
      by_cases hf0 : f = 0
      · have HNZ : Hid (F.getLast? ≠ some z) := by
          have : F = [] := List.length_eq_zero_iff.1 (by rw [HFL.out]; exact hf0)
          show _ ≠ _
          rw [this]; simp
        subst hf0
        have HFL2 : Hid (F.length ≤ 600 ∧ H1.length ≤ 600) := by have := HP.out.heapLen HEL.out HH1.out.1; show _ ∧ _; omega
        have HE : Hid (∀ A, RZ kZ (w3.alloc A) (.slice fa 0 fc) F) := fun A => HM3.out.rz.below (bl1 w3 A)
        have HP2 : Hid (RS kZ (w3.alloc (.cells #[.int .i64 z] 3)) (.slice (some ⟨w3.heap.size, 0, none⟩) 1 1) [z]) := num_rz w3 z
        have HL : Hid (F.length + [z].length ≤ 100000) := by show _ ≤ _; have := HFL2.out; show F.length + 1 ≤ _; omega
        go_wp2_with (at_builtin; refine push_row kZ _ rfl _ _ rfl _ _ F [z] rfl rfl (HE.out _) HP2.out HL.out ?_)
        intro v5 w5 hz5 g5 ho5
        have HM5 : Hid (FM w w5 ab v5 hv3 (F ++ [z]) H1) := (HM3.out.below (bl1 w3 _)).push hz5 g5 (by simpa using ho5)
        obtain ⟨a8, k8, e8⟩ := hz5.sl
        obtain ⟨f2, hf2⟩ : ∃ f2, (F ++ [z]).length = f2 := ⟨_, rfl⟩
        have HF2 : Hid ((F ++ [z]).length = f2) := hf2
        rw [hf2] at e8
        subst e8
        clear hz5 g5 ho5 hf2 HE HP2 HL HM3
        have HOF := of_any (HG.out w5 HM5.out.bl) z
        have HL9 : Hid ((ofS E z).length ≤ 512) := HOL.out z
        have HRE : Hid (readersOf E z = fstS (ofS E z)) := rfl
        generalize ofS E z = L at *
        go_wp2_with fail
        refine HOF.mono ?_
        rintro e w6 ⟨v6, rfl, r6, b6, o6⟩
        obtain ⟨a6, c6, e6⟩ := r6.form
        obtain ⟨n, hn⟩ : ∃ n, L.length = n := ⟨_, rfl⟩
        have HN : Hid (L.length = n) := hn
        have hn5 : n ≤ 512 := by have := HL9.out; omega
        rw [hn] at e6
        subst e6
        have HM6 : Hid (FM w w6 ab (.slice a8 f2 k8) hv3 (F ++ [z]) H1) := HM5.out.below b6
        have HR6 : Hid (∀ W, Below w.heap.size w W → RS kE W (.slice a6 n c6) L) := fun W hW => of_stay r6 HM6.out.bl hW o6 HEV.out
        clear r6 b6 o6 hn HM5 HOF HL9
        go_wp2_with fail
        go_loopw [39] (fun i wr => ∃ (q : Nat) (hv' : Value) (H' : List Int), i = .int .i64 (q : Int) ∧ q ≤ n ∧ Hid (FM w wr ab (.slice a8 f2 k8) hv' (F ++ [z]) H') ∧ Hid (H'.Perm (H1 ++ fstS (L.take q)) ∧ HpO H' H'.length)) (fun i _ => n - (intOf i).toNat)
        case atStart => exact ⟨0, hv3, H1, rfl, Nat.zero_le _, HM6, by show _ ∧ _; simp [fstS]; exact HH1.out.2.2⟩
        case round =>
          clear HM6
          obtain ⟨q, hv7, H7, rfl, hq, HM7, HP7⟩ := hrel
          by_cases hlt : q < n
          · have d1 : decide (q < n) = true := decide_eq_true hlt
            have hq' : q < L.length := by rw [HN.out]; exact hlt
            obtain ⟨b, bo, n', c', hg, hcl⟩ := (HR6.out wr HM7.out.bl).cell hq'
            simp only [Value.slice.injEq] at hg
            obtain ⟨rfl, rfl, rfl⟩ := hg
            obtain ⟨⟨z0, z1⟩, hz⟩ : ∃ x, L[q]'hq' = x := ⟨_, rfl⟩
            have HNX : Hid (fstS (L.take (q + 1)) = fstS (L.take q) ++ [z0]) := by show _ = _; rw [fstS_next L q hq', hz]
            rw [hz] at hcl
            obtain ⟨y0, y1⟩ := duo_cells rfl rfl hcl
            have i1 : (0 : Int) ≤ (q : Int) := by omega
            have i2 : (q : Int) < (n : Int) := by omega
            have HL7 : Hid (H7.length < 2000) := by
              show _ < _
              rw [HP7.out.1.length_eq, List.length_append, fstS_len, List.length_take]
              have := HFL2.out
              omega
            have HPT : Hid (∀ A, Calls Try.prog 78 #[.pointer (some ⟨ab, 0, none⟩), .int .i64 z0] (wr.alloc A) (UpQ (wr.alloc A) ab hv7 (H7 ++ [z0]))) := fun A => put_any (HM7.out.below (bl1 wr A)).av HP7.out.2 z0 HL7.out
            have HM8 : Hid (∀ A, FM w (wr.alloc A) ab (.slice a8 f2 k8) hv7 (F ++ [z]) H7) := fun A => HM7.out.below (bl1 wr A)
            clear hcl hz hq' HL7 HM7
            go_wp2_with fail
            refine (HPT.out _).mono ?_
            rintro e w9 ⟨H9, p9, o9, q9⟩
            obtain ⟨hv9, rfl, m9⟩ := (HM8.out _).step q9
            have HM9 : Hid (FM w w9 ab (.slice a8 f2 k8) hv9 (F ++ [z]) H9) := m9
            have HP9 : Hid (H9.Perm (H1 ++ fstS (L.take (q + 1))) ∧ HpO H9 H9.length) := by
              refine ⟨?_, o9⟩
              rw [HNX.out, ← List.append_assoc]
              exact p9.trans (HP7.out.1.append_right _)
            clear p9 o9 q9 m9 HM8 HPT HP7 HNX y0 y1
            go_wp2_with fail
            go_roundw
            case rel => exact ⟨q + 1, hv9, H9, by go_num, by omega, HM9, HP9⟩
            case measure => simp [intOf]; omega
          · have d1 : decide (q < n) = false := decide_eq_false hlt
            have hqn : q = n := by omega
            subst hqn
            have HT : L.take q = L := List.take_of_length_le (by rw [HN.out]; exact Nat.le_refl _)
            have hnx := HP.out.next HUE.out HH1.out.1 HH1.out.2.1 HNZ.out (H2 := H7) (by have := HP7.out.1; rw [HT] at this; rw [HRE.out]; exact this) HP7.out.2
            have HPN : Hid (FP E age (F ++ [z]) H7) := hnx.1
            have HMS : Hid (hlenOf wr ab + aboveE E (rowOf wr (.slice a8 f2 k8)) < hlenOf w2 ab + aboveE E (rowOf w2 (.slice fa 0 fc))) := by
              show _ < _
              rw [HMS0.out, HM7.out.ms E]
              exact hnx.2
            clear HT hnx HP7
            go_wp2_with fail
            go_roundw
            case rel => exact ⟨F ++ [z], H7, hv7, ⟨_, _, _, rfl, HF2⟩, HM7, HPN⟩
            case measure => exact HMS.out
      · obtain ⟨f1, hf1⟩ : ∃ f1, f = f1 + 1 := ⟨f - 1, by omega⟩
        obtain ⟨g, c', hg, hcl, _⟩ := HM3.out.rz.cell (i := f1) (by rw [HFL.out]; omega)
        rw [HFL.out] at hg
        have e1 : fa = some ⟨g, 0, none⟩ := by injection hg
        have e3 : fc = c' := by injection hg
        subst e1 e3
        have y0 := uno_own rfl rfl hcl
        rw [← at0_get] at y0
        have HLA : Hid (F.getLast? = some (at0 F f1)) := last_at (by rw [HFL.out]; exact hf1)
        have hb6 := (HP.out.heapLen HEL.out HH1.out.1).2
        rw [HFL.out] at hb6
        have q0 : (f : Int) - 1 = (f1 : Int) := by omega
        have i1 : (0 : Int) ≤ (f1 : Int) := by omega
        have i2 : (f1 : Int) < (f : Int) := by omega
        have w1' : IntKind.i64.wrap (f1 : Int) = (f1 : Int) := by rw [IntKind.wrap_i64]; omega
        have w2' : wrap64 (f1 : Int) = (f1 : Int) := w64in _ (by omega)
        clear hcl
        clear hg hf1 hf0 hb6
        by_cases hyz : at0 F f1 = z
        · have t : (at0 F f1 == z) = true := by simp [hyz]
          have ha := HP.out.again HH1.out.1 HH1.out.2.2 (by rw [HLA.out, hyz])
          have HPA : Hid (FP E age F H1) := ha.1
          have HMS : Hid (hlenOf w3 ab + aboveE E (rowOf w3 (.slice (some ⟨g, 0, none⟩) f fc)) < hlenOf w2 ab + aboveE E (rowOf w2 (.slice (some ⟨g, 0, none⟩) f fc))) := by
            show _ < _
            rw [HMS0.out, HM3.out.ms E]
            exact ha.2
          clear ha hyz HLA HP HH1
          go_wp2_with fail
          go_roundw
          case rel => exact ⟨F, H1, hv3, ⟨_, _, _, rfl, HFL⟩, HM3, HPA⟩
          case measure => exact HMS.out
        · have t : (at0 F f1 == z) = false := by simp [hyz]
          have HNZ : Hid (F.getLast? ≠ some z) := by
            show _ ≠ _
            rw [HLA.out]
            intro e
            injection e with e
            exact hyz e
          clear hyz HLA
          have HFL2 : Hid (F.length ≤ 600 ∧ H1.length ≤ 600) := by have := HP.out.heapLen HEL.out HH1.out.1; show _ ∧ _; omega
          have HE : Hid (∀ A, RZ kZ (w3.alloc A) (.slice (some ⟨g, 0, none⟩) f fc) F) := fun A => HM3.out.rz.below (bl1 w3 A)
          have HP2 : Hid (RS kZ (w3.alloc (.cells #[.int .i64 z] 3)) (.slice (some ⟨w3.heap.size, 0, none⟩) 1 1) [z]) := num_rz w3 z
          have HL : Hid (F.length + [z].length ≤ 100000) := by show _ ≤ _; have := HFL2.out; show F.length + 1 ≤ _; omega
          go_wp2_with (at_builtin; refine push_row kZ _ rfl _ _ rfl _ _ F [z] rfl rfl (HE.out _) HP2.out HL.out ?_)
          intro v5 w5 hz5 g5 ho5
          have HM5 : Hid (FM w w5 ab v5 hv3 (F ++ [z]) H1) := (HM3.out.below (bl1 w3 _)).push hz5 g5 (by simpa using ho5)
          obtain ⟨a8, k8, e8⟩ := hz5.sl
          obtain ⟨f2, hf2⟩ : ∃ f2, (F ++ [z]).length = f2 := ⟨_, rfl⟩
          have HF2 : Hid ((F ++ [z]).length = f2) := hf2
          rw [hf2] at e8
          subst e8
          clear hz5 g5 ho5 hf2 HE HP2 HL HM3
          have HOF := of_any (HG.out w5 HM5.out.bl) z
          have HL9 : Hid ((ofS E z).length ≤ 512) := HOL.out z
          have HRE : Hid (readersOf E z = fstS (ofS E z)) := rfl
          generalize ofS E z = L at *
          go_wp2_with fail
          refine HOF.mono ?_
          rintro e w6 ⟨v6, rfl, r6, b6, o6⟩
          obtain ⟨a6, c6, e6⟩ := r6.form
          obtain ⟨n, hn⟩ : ∃ n, L.length = n := ⟨_, rfl⟩
          have HN : Hid (L.length = n) := hn
          have hn5 : n ≤ 512 := by have := HL9.out; omega
          rw [hn] at e6
          subst e6
          have HM6 : Hid (FM w w6 ab (.slice a8 f2 k8) hv3 (F ++ [z]) H1) := HM5.out.below b6
          have HR6 : Hid (∀ W, Below w.heap.size w W → RS kE W (.slice a6 n c6) L) := fun W hW => of_stay r6 HM6.out.bl hW o6 HEV.out
          clear r6 b6 o6 hn HM5 HOF HL9
          go_wp2_with fail
          go_loopw [39] (fun i wr => ∃ (q : Nat) (hv' : Value) (H' : List Int), i = .int .i64 (q : Int) ∧ q ≤ n ∧ Hid (FM w wr ab (.slice a8 f2 k8) hv' (F ++ [z]) H') ∧ Hid (H'.Perm (H1 ++ fstS (L.take q)) ∧ HpO H' H'.length)) (fun i _ => n - (intOf i).toNat)
          case atStart => exact ⟨0, hv3, H1, rfl, Nat.zero_le _, HM6, by show _ ∧ _; simp [fstS]; exact HH1.out.2.2⟩
          case round =>
            clear HM6
            obtain ⟨q, hv7, H7, rfl, hq, HM7, HP7⟩ := hrel
            by_cases hlt : q < n
            · have d1 : decide (q < n) = true := decide_eq_true hlt
              have hq' : q < L.length := by rw [HN.out]; exact hlt
              obtain ⟨b, bo, n', c', hg, hcl⟩ := (HR6.out wr HM7.out.bl).cell hq'
              simp only [Value.slice.injEq] at hg
              obtain ⟨rfl, rfl, rfl⟩ := hg
              obtain ⟨⟨z0, z1⟩, hz⟩ : ∃ x, L[q]'hq' = x := ⟨_, rfl⟩
              have HNX : Hid (fstS (L.take (q + 1)) = fstS (L.take q) ++ [z0]) := by show _ = _; rw [fstS_next L q hq', hz]
              rw [hz] at hcl
              obtain ⟨y0, y1⟩ := duo_cells rfl rfl hcl
              have i1 : (0 : Int) ≤ (q : Int) := by omega
              have i2 : (q : Int) < (n : Int) := by omega
              have HL7 : Hid (H7.length < 2000) := by
                show _ < _
                rw [HP7.out.1.length_eq, List.length_append, fstS_len, List.length_take]
                have := HFL2.out
                omega
              have HPT : Hid (∀ A, Calls Try.prog 78 #[.pointer (some ⟨ab, 0, none⟩), .int .i64 z0] (wr.alloc A) (UpQ (wr.alloc A) ab hv7 (H7 ++ [z0]))) := fun A => put_any (HM7.out.below (bl1 wr A)).av HP7.out.2 z0 HL7.out
              have HM8 : Hid (∀ A, FM w (wr.alloc A) ab (.slice a8 f2 k8) hv7 (F ++ [z]) H7) := fun A => HM7.out.below (bl1 wr A)
              clear hcl hz hq' HL7 HM7
              go_wp2_with fail
              refine (HPT.out _).mono ?_
              rintro e w9 ⟨H9, p9, o9, q9⟩
              obtain ⟨hv9, rfl, m9⟩ := (HM8.out _).step q9
              have HM9 : Hid (FM w w9 ab (.slice a8 f2 k8) hv9 (F ++ [z]) H9) := m9
              have HP9 : Hid (H9.Perm (H1 ++ fstS (L.take (q + 1))) ∧ HpO H9 H9.length) := by
                refine ⟨?_, o9⟩
                rw [HNX.out, ← List.append_assoc]
                exact p9.trans (HP7.out.1.append_right _)
              clear p9 o9 q9 m9 HM8 HPT HP7 HNX y0 y1
              go_wp2_with fail
              go_roundw
              case rel => exact ⟨q + 1, hv9, H9, by go_num, by omega, HM9, HP9⟩
              case measure => simp [intOf]; omega
            · have d1 : decide (q < n) = false := decide_eq_false hlt
              have hqn : q = n := by omega
              subst hqn
              have HT : L.take q = L := List.take_of_length_le (by rw [HN.out]; exact Nat.le_refl _)
              have hnx := HP.out.next HUE.out HH1.out.1 HH1.out.2.1 HNZ.out (H2 := H7) (by have := HP7.out.1; rw [HT] at this; rw [HRE.out]; exact this) HP7.out.2
              have HPN : Hid (FP E age (F ++ [z]) H7) := hnx.1
              have HMS : Hid (hlenOf wr ab + aboveE E (rowOf wr (.slice a8 f2 k8)) < hlenOf w2 ab + aboveE E (rowOf w2 (.slice (some ⟨g, 0, none⟩) f fc))) := by
                show _ < _
                rw [HMS0.out, HM7.out.ms E]
                exact hnx.2
              clear HT hnx HP7
              go_wp2_with fail
              go_roundw
              case rel => exact ⟨F ++ [z], H7, hv7, ⟨_, _, _, rfl, HF2⟩, HM7, HPN⟩
              case measure => exact HMS.out
end Go.Proofs.Ytongeppdaeekeaa
