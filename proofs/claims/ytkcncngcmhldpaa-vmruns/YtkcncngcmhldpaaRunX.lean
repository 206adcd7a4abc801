/- A run. -/
import Derived.Test.YtkcncngcmhldpaaMeetX
import Derived.Test.YtkcncngcmhldpaaAgnW
namespace Go.Proofs.Ytkcncngcmhldpaa
open Go.RowKit Go.Maps
set_option linter.unusedVariables false
/-- of what lies below B only the machine is written -/
structure Dr (B vb : Nat) (w w' : World) : Prop where
  os : w'.os = w.os
  tape : w'.tape = w.tape
  output : w'.output = w.output
  size : w.heap.size ≤ w'.heap.size
  block : ∀ k, k < B → k ≠ vb → w'.heap[k]? = w.heap[k]?
theorem Dr.refl (B vb : Nat) (w : World) : Dr B vb w w := ⟨rfl, rfl, rfl, Nat.le_refl _, fun _ _ _ => rfl⟩
theorem Dr.below {B vb : Nat} {a b c : World} (h : Dr B vb a b) (k : Below B b c) : Dr B vb a c := ⟨k.os.trans h.os, k.tape.trans h.tape, k.output.trans h.output, Nat.le_trans h.size k.size, fun i hi hn => (k.block i hi).trans (h.block i hi hn)⟩
theorem Dr.ch {B vb : Nat} {a b c : World} (h : Dr B vb a b) (hB : B ≤ b.heap.size) (k : Ch vb b c) : Dr B vb a c := ⟨k.os.trans h.os, k.tape.trans h.tape, k.output.trans h.output, Nat.le_trans h.size k.size, fun i hi hn => (k.block i (by omega) hn).trans (h.block i hi hn)⟩
/-- a machine and its world -/
structure DI (B vb g cap wb : Nat) (m : Fx) (C : List In) (w W : World) (s : St) (E : Ef) : Prop where
  mc : MC W vb g cap m C s
  ok : Ok C m.fuel s
  ef : ∃ mv ov nv, EF W 93 B wb mv ov nv E
  fr : Dr B vb w W
  hB : B ≤ W.heap.size
  lt : vb < B ∧ g < B
  good : Good C
  rk : ∀ x ∈ C, R64 x.k
section
variable {B vb g cap wb : Nat} {m : Fx} {C : List In} {w W V : World} {s : St} {E : Ef}
theorem DI.below (h : DI B vb g cap wb m C w W s E) (hb : Below W.heap.size W V) : DI B vb g cap wb m C w V s E := by
  obtain ⟨mv, ov, nv, he⟩ := h.ef
  exact ⟨h.mc.below hb, h.ok, ⟨mv, ov, nv, he.below hb⟩, h.fr.below (hb.mono h.hB), Nat.le_trans h.hB hb.size, h.lt, h.good, h.rk⟩
theorem DI.drew (h : DI B vb g cap wb m C w W s E) : DI B vb g cap wb m C w W.drew s E := h.below (Below.refl _ _).drew
theorem DI.want (h : DI B vb g cap wb m C w W s E) : Calls Try.prog 11 #[.pointer (some ⟨vb, 0, none⟩)] W fun e V => e = .returned (wtV (wantS C m.words m.fuel s)) ∧ DI B vb g cap wb m C w V s E := by
  refine (want_any vb g cap m C s h.good.ok h.ok W h.mc).mono ?_
  rintro e V ⟨rfl, hb⟩
  exact ⟨rfl, h.below hb⟩
theorem DI.meet (h : DI B vb g cap wb m C w W s E) (hE : EI m.words s E) (hw : m.words ≤ 64) : Calls Try.prog 39 #[.pointer (some ⟨wb, 0, none⟩), wtV (wantS C m.words m.fuel s)] W fun e V => e = .returned (.int .i64 (gotE E (wantS C m.words m.fuel s))) ∧ DI B vb g cap wb m C w V s (doE E (wantS C m.words m.fuel s)) := by
  obtain ⟨mv, ov, nv, he⟩ := h.ef
  have h1 := hE.len
  have h2 := hE.outs
  have h3 := hE.intos
  have h4 := h.ok.steps
  have h5 := h.ok.fuel
  refine (meet_any B wb E (wantS C m.words m.fuel s) mv ov nv (by rw [h1]; exact (want_in h.good h.ok).1) (by omega) (by omega) (by omega) W he h.hB).mono ?_
  rintro e V ⟨rfl, hef, hb⟩
  have hv : V.heap[vb]? = W.heap[vb]? := hb.block vb h.lt.1
  have hg : V.heap[g]? = W.heap[g]? := hb.block g h.lt.2
  exact ⟨rfl, ⟨h.mc.vm.keep hv, h.mc.cv, h.mc.cap, h.mc.len, fun i hi => (h.mc.row i hi).block hg, h.mc.ne⟩, h.ok, hef, h.fr.below hb, Nat.le_trans h.hB hb.size, h.lt, h.good, h.rk⟩
theorem DI.step (h : DI B vb g cap wb m C w W s E) (got : Int) (hg : R64 got) : Calls Try.prog 12 #[.pointer (some ⟨vb, 0, none⟩), .int .i64 got] W fun e V => e = .returned (.bool (s.over == 0)) ∧ DI B vb g cap wb m C w V (stepS C m.words m.fuel s got) E := by
  obtain ⟨mv, ov, nv, he⟩ := h.ef
  refine (step_any vb g cap m C s got h.good.ok h.ok W h.mc).mono ?_
  rintro e V ⟨rfl, hv, hc⟩
  exact ⟨rfl, h.mc.ch hc hv, step_ok h.good h.rk h.mc.vm.len h.ok hg, ⟨mv, ov, nv, he.ch h.lt.1 hc⟩, h.fr.ch h.hB hc, Nat.le_trans h.hB hc.size, h.lt, h.good, h.rk⟩
end
/-- at each round's head -/
def DrW (B vb g cap wb : Nat) (m : Fx) (C : List In) (F : St × Ef) (w wr : World) : Prop :=
  ∃ (k : Nat) (s : St) (E : Ef), DI B vb g cap wb m C w wr s E ∧ EI m.words s E ∧ runS C m.words m.fuel k (s, E) = F ∧ farS m.fuel s ≤ k
/-- how far it is, read from memory -/
def farW (vb : Nat) (fuel : Int) (W : World) : Nat :=
  match W.cell? ⟨vb, 24, none⟩, W.cell? ⟨vb, 23, none⟩ with
  | some (.int _ o), some (.int _ q) => if o ≠ 0 then 0 else (fuel + 1 - q).toNat
  | _, _ => 0
theorem DI.far {B vb g cap wb : Nat} {m : Fx} {C : List In} {w W : World} {s : St} {E : Ef} (h : DI B vb g cap wb m C w W s E) : farW vb m.fuel W = farS m.fuel s := by
  unfold farW
  rw [h.mc.vm.c24, h.mc.vm.c23]
  rfl
def DriveP (B vb g cap wb : Nat) (m : Fx) (C : List In) (F : St × Ef) (w : World) (e : Ending) (V : World) : Prop := e = .returned (.tuple #[]) ∧ DI B vb g cap wb m C w V F.1 F.2 ∧ F.1.over ≠ 0

set_option maxRecDepth 100000 in
set_option maxHeartbeats 4000000 in
theorem drive_any (B vb g cap wb : Nat) (m : Fx) (C : List In) (F : St × Ef) (hw : m.words ≤ 64) (w : World) (h : DrW B vb g cap wb m C F w w) : Calls Try.prog 38 #[.pointer (some ⟨vb, 0, none⟩), .func (.func 39) #[.pointer (some ⟨wb, 0, none⟩)] #[]] w (DriveP B vb g cap wb m C F w) := by
  have HD : Hid (DrW B vb g cap wb m C F w w) := h
  clear h
  go_enter Try.func38, Try.ntmps38
  go_wp2
  go_loopw [] (fun wr => DrW B vb g cap wb m C F w wr) (fun wr => farW vb m.fuel wr)
  case atStart => exact HD.out
  case round =>
    obtain ⟨k, s, E, hd, hE, hF, hk⟩ := hrel
    have HDI : Hid (DI B vb g cap wb m C w wr s E) := hd
    obtain ⟨T, hT⟩ : ∃ T, wantS C m.words m.fuel s = T := ⟨_, rfl⟩
    have HTE : Hid (wantS C m.words m.fuel s = T) := hT
    obtain ⟨z, hz⟩ : ∃ z, gotE E T = z := ⟨_, rfl⟩
    have HZE : Hid (gotE E T = z) := hz
    have HZR : Hid (R64 z) := by rw [← hz]; exact got_R hE T
    have HRD : Hid (roundS C m.words m.fuel (s, E) = (stepS C m.words m.fuel s z, doE E T)) := by show roundS _ _ _ _ = _; unfold roundS; dsimp only; rw [hT, hz]
    have HEI : Hid (EI m.words s E) := hE
    have HKF : Hid (runS C m.words m.fuel k (s, E) = F ∧ farS m.fuel s ≤ k) := ⟨hF, hk⟩
    have HMT : Hid (∀ W, DI B vb g cap wb m C w W s E → Calls Try.prog 39 #[.pointer (some ⟨wb, 0, none⟩), wtV T] W fun e V => e = .returned (.int .i64 z) ∧ DI B vb g cap wb m C w V s (doE E T)) := fun W hW => by
      have := hW.meet hE hw
      rw [hT, hz] at this
      exact this
    have HFAR : Hid (farW vb m.fuel wr = farS m.fuel s) := hd.far
    have HOK : Hid (Ok C m.fuel s) := hd.ok
    have HLN : Hid (s.regs.length = 16) := hd.mc.vm.len
    have HGD : Hid (Good C ∧ ∀ x ∈ C, R64 x.k) := ⟨hd.good, hd.rk⟩
    clear hd hE hF hk hT hz
    by_cases h0 : s.over = 0
    · have HB0 : Hid ((s.over == 0) = true) := by show _ = _; simp [h0]
      go_wp2_with (first | (go_at_call 11; refine HDI.out.want.mono ?_; rintro e w1 ⟨rfl, hd1⟩; rw [HTE.out]; have HD1 : Hid (DI B vb g cap wb m C w w1 s E) := hd1; clear hd1) | (go_at_call 39; refine (HMT.out w1 HD1.out).mono ?_; rintro e w2 ⟨rfl, hd2⟩; have HD2 : Hid (DI B vb g cap wb m C w w2 s (doE E T)) := hd2; clear hd2) | (go_at_call 12; refine (HD2.out.step z HZR.out).mono ?_; rintro e w3 ⟨rfl, hd3⟩; rw [HB0.out]; have HD3 : Hid (DI B vb g cap wb m C w w3 (stepS C m.words m.fuel s z) (doE E T)) := hd3; clear hd3))
      go_roundw
      case rel =>
        obtain ⟨r1, r2, r3⟩ := round_ok (words := m.words) (fuel := m.fuel) (p := (s, E)) HGD.out.1 HGD.out.2 HLN.out HOK.out HEI.out
        have hf := round_far (words := m.words) (p := (s, E)) h0 HOK.out
        rw [HRD.out] at r3 hf
        have hk := HKF.out.2
        obtain ⟨k', rfl⟩ : ∃ k', k = k' + 1 := ⟨k - 1, by have : farS m.fuel (s, E).1 ≤ k := hk; omega⟩
        refine ⟨k', _, _, HD3.out, r3, ?_, ?_⟩
        · have := HKF.out.1
          unfold runS at this
          rw [HRD.out] at this
          exact this
        · have : farS m.fuel (s, E).1 ≤ k' + 1 := hk
          have h2 : farS m.fuel (stepS C m.words m.fuel s z) < farS m.fuel (s, E).1 := hf
          omega
      case measure =>
        have hf := round_far (words := m.words) (p := (s, E)) h0 HOK.out
        rw [HRD.out] at hf
        rw [HD3.out.far, HFAR.out]
        exact hf
    · have HB0 : Hid ((s.over == 0) = false) := by show _ = _; simp [h0]
      go_wp2_with (first | (go_at_call 11; refine HDI.out.want.mono ?_; rintro e w1 ⟨rfl, hd1⟩; rw [HTE.out]; have HD1 : Hid (DI B vb g cap wb m C w w1 s E) := hd1; clear hd1) | (go_at_call 39; refine (HMT.out w1 HD1.out).mono ?_; rintro e w2 ⟨rfl, hd2⟩; have HD2 : Hid (DI B vb g cap wb m C w w2 s (doE E T)) := hd2; clear hd2) | (go_at_call 12; refine (HD2.out.step z HZR.out).mono ?_; rintro e w3 ⟨rfl, hd3⟩; rw [HB0.out]; have HD3 : Hid (DI B vb g cap wb m C w w3 (stepS C m.words m.fuel s z) (doE E T)) := hd3; clear hd3))
      go_end0
      have h3 := HD3.out
      have hr := round_over (C := C) (words := m.words) (fuel := m.fuel) (p := (s, E)) h0
      rw [HRD.out] at hr
      injection hr with e1 e2
      rw [e1, e2] at h3
      have hF : (s, E) = F := by have := HKF.out.1; rw [run_over k h0] at this; exact this
      subst hF
      exact ⟨rfl, h3, h0⟩
end Go.Proofs.Ytkcncngcmhldpaa
namespace Go.Proofs.Ytkcncngcmhldpaa
open Go.RowKit Go.Maps
set_option linter.unusedVariables false
/-- a row of pairs as it lies -/
def PSl (w : World) (v : Value) (G : List (Int × Int)) : Prop :=
  ∃ ad cap b o, v = .slice ad G.length cap ∧ G.length ≤ cap ∧ cap ≤ maxLen ∧ (0 < G.length → ad = some ⟨b, o, none⟩) ∧ ∀ i (h : i < G.length), w.cell? ⟨b, o + i * 2, none⟩ = some (.int .i64 G[i].1) ∧ w.cell? ⟨b, o + (i * 2 + 1), none⟩ = some (.int .i64 G[i].2)
theorem PSl.below {w w' : World} {v : Value} {G : List (Int × Int)} (h : PSl w v G) (hb : Below w.heap.size w w') : PSl w' v G := by
  obtain ⟨ad, cap, b, o, h1, h2, h3, h4, h5⟩ := h
  exact ⟨ad, cap, b, o, h1, h2, h3, h4, fun i hi => ⟨(hb.cell (p := ⟨b, o + i * 2, none⟩) (World.block_lt_of_cell? w _ (h5 i hi).1)).trans (h5 i hi).1, (hb.cell (p := ⟨b, o + (i * 2 + 1), none⟩) (World.block_lt_of_cell? w _ (h5 i hi).2)).trans (h5 i hi).2⟩⟩
theorem gsl_own {w : World} {B : Nat} {v : Value} {G : List Int} (h : w.ownsRow B 2 1 v G.length (iE G)) : GSl w v G := by
  have hc := fun g => World.ownsRow.cells h (g := g)
  rcases h.2 with ⟨h1, h2⟩ | ⟨g, cap, cur, h1, hg, hh, r1, r2, r3, r4⟩
  · subst h1
    exact ⟨none, 0, 0, 0, by rw [h2], by omega, Nat.zero_le _, fun h => by omega, fun i hi => by omega⟩
  · subst h1
    refine ⟨_, cap, g, 0, rfl, r1, r2, fun _ => rfl, fun i hi => ?_⟩
    have := hc g rfl i _ (iE_at G i hi)
    rw [addn] at this
    exact this
theorem psl_own {w : World} {B : Nat} {v : Value} {G : List (Int × Int)} (h : w.ownsRow B 97 2 v G.length (pE G)) : PSl w v G := by
  have hc := fun g => World.ownsRow.cells h (g := g)
  rcases h.2 with ⟨h1, h2⟩ | ⟨g, cap, cur, h1, hg, hh, r1, r2, r3, r4⟩
  · subst h1
    exact ⟨none, 0, 0, 0, by rw [h2], by omega, Nat.zero_le _, fun h => by omega, fun i hi => by omega⟩
  · subst h1
    refine ⟨_, cap, g, 0, rfl, r1, r2, fun _ => rfl, fun i hi => ?_⟩
    have k1 := hc g rfl _ _ (pE_at G i hi).1
    have k2 := hc g rfl _ _ (pE_at G i hi).2
    rw [addn] at k1 k2
    exact ⟨k1, k2⟩
/-- what a run has done, as it lies behind it -/
structure ER (w : World) (mv ov nv : Value) (E : Ef) : Prop where
  m : GSl w mv E.mem
  o : GSl w ov E.outs
  n : PSl w nv E.intos
theorem ER.below {w w' : World} {mv ov nv : Value} {E : Ef} (h : ER w mv ov nv E) (hb : Below w.heap.size w w') : ER w' mv ov nv E := ⟨h.m.below hb, h.o.below hb, h.n.below hb⟩
def CloP (G : List Int) (w : World) (e : Ending) (w' : World) : Prop := ∃ v', e = .returned v' ∧ w'.ownsRow w.heap.size 2 1 v' G.length (iE G) ∧ Below w.heap.size w w'

set_option maxRecDepth 100000 in
set_option maxHeartbeats 2000000 in
theorem clo_any (l : List Int) (v : Value) (hl : 0 < l.length ∧ l.length ≤ 1000) (w : World) (hv : GSl w v l) : Calls Try.prog 37 #[v] w (CloP l w) := by
  obtain ⟨i0, hi, hz0, hz1, hz2⟩ := info_parts info2
  obtain ⟨ad, cap, b, o, rfl, h2, h3, h4, h5⟩ := hv
  obtain rfl := h4 hl.1
  obtain ⟨N, hN⟩ : ∃ N, l.length = N := ⟨_, rfl⟩
  have HN : Hid (l.length = N) := hN
  have H5 : Hid (∀ i (h : i < l.length), w.cell? ⟨b, o + i, none⟩ = some (.int .i64 l[i])) := h5
  unfold CloP
  rw [hN] at hl h2 ⊢
  clear hN h5 h4
  have hnil : (binOp .eql 25 (.slice (some ⟨b, o, none⟩) N cap) (.slice none 0 0)).run Try.prog w = .ok (.bool false) w := Lib.run_eql_slice_nil w 25 2 (some ⟨b, o, none⟩) N cap 0 0 Try.underlying25
  go_enter Try.func37, Try.ntmps37
  go_wp2_with (at_builtin; refine wpList_append_own_at _ rfl _ _ 25 rfl w.heap.size 2 i0 _ 1 8 Try.underlying25 hi hz0 hz1 hz2 rfl (by decide) _ 0 [] rfl ?d0 ⟨b, o, none⟩ N cap (iE l) rfl ?dl ?d1 ?d2 ?d3 ?d4 ?d5 ?_)
  case d0 => exact ⟨rfl, Or.inr ⟨w.heap.size, 0, #[], rfl, Nat.le_refl _, heap_alloc_new w _, Nat.le_refl _, by unfold maxLen; omega, rfl, rfl⟩⟩
  case dl => rw [iE_len, HN.out]; omega
  case d1 =>
    intro j u hu
    have hj : j < l.length := by
      rcases Nat.lt_or_ge j l.length with h | h
      · exact h
      · rw [List.getElem?_eq_none (by rw [iE_len]; exact h)] at hu; cases hu
    rw [iE_at l j hj] at hu
    injection hu with hu
    subst hu
    rw [addn]
    have hc := H5.out j hj
    exact (World.cell?_of_block (a := ⟨b, o + j, none⟩) (Below.heap_alloc _ _ _ (World.block_lt_of_cell? w _ hc))).trans hc
  case d2 => intro u hu; simp [iE] at hu; obtain ⟨x, _, rfl⟩ := hu; rfl
  case d3 => unfold maxLen; omega
  case d4 => omega
  case d5 => simp
  intro v' w' hown hg _ _
  have HB : Hid (Below w.heap.size w w') := ⟨hg.os, hg.tape, hg.output, Nat.le_trans (by simp) hg.size, fun k hk => (hg.block k (by simp; omega) (by intro e; injection e with e; simp at e; omega)).trans (Below.heap_alloc _ _ _ hk)⟩
  have HO : Hid (w'.ownsRow w.heap.size 2 1 v' N (iE l)) := hown
  clear hown hg
  go_wp2
  go_ret
  exact ⟨_, rfl, HO.out, HB.out⟩

def inV (mv : Value) (n i k : Int) : Value := .agg #[mv, .int .i64 n, .int .i64 i, .int .i64 k]
def efZ : Array Value := #[.slice none 0 0, .slice none 0 0, .slice none 0 0, .int .i64 0, .int .i64 0, .int .i64 0]
theorem efZ_one : efZ.all (·.oneCell') = true := all_oneCell_toArray (cs := [.slice none 0 0, .slice none 0 0, .slice none 0 0, .int .i64 0, .int .i64 0, .int .i64 0]) (by intro v hv; simp at hv; rcases hv with rfl | rfl <;> rfl)
def efV (mv ov nv : Value) (s : St) : Array Value := #[mv, ov, nv, .int .i64 s.over, .int .i64 s.value, .int .i64 s.steps]
theorem size54 : (Try.prog.info? 54).map (·.size) = some 6 := by kernel_rfl
/-- what a run leaves -/
def RunQ (C : List In) (cells fuel n i k : Int) (M : List Int) (w : World) (e : Ending) (w' : World) : Prop :=
  (∃ er, e = .returned (.tuple #[.agg efZ, .int .i64 er]) ∧ newE C cells M.length fuel = er ∧ er ≠ 0 ∧ Below w.heap.size w w') ∨
  (∃ mv ov nv, e = .returned (.tuple #[.agg (efV mv ov nv (lastS C M.length fuel n i k M).1), .int .i64 0]) ∧ newE C cells M.length fuel = 0 ∧ ER w' mv ov nv (lastS C M.length fuel n i k M).2 ∧ Below w.heap.size w w')
theorem ret_e {fn : Func} {q t : Nat} (h : fn.results = #[.cell q 54, .tmp t]) (tmps : Array Value) (g : Nat) (hb : tmps.getD q undef = .pointer (some ⟨g, 0, none⟩)) (v : Value) (ht : tmps.getD t undef = v) (W : World) (cs : Array Value) (hl : cs.size = 6) (hg : W.heap[g]? = some (.cells cs 54)) :
    (results fn tmps).run Try.prog W = .ok (.tuple #[.agg cs, v]) W := by
  have hp' : tmps[q]?.getD undef = .pointer (some ⟨g, 0, none⟩) := by simpa using hb
  have ht' : tmps[t]?.getD undef = v := by simpa using ht
  simp [results, h, hp', ht', asAddr, run_loadVar_row W g 54 54 cs _ _ hg Try.underlying54 rfl (by rw [hl]; exact size54)]

set_option maxRecDepth 100000 in
set_option maxHeartbeats 4000000 in
theorem run_any (C : List In) (v mv : Value) (cells fuel n i k : Int) (M : List Int) (hM : M.length ≤ 100) (hn : R64 n) (hi : R64 i) (hk : R64 k) (hR : ∀ x ∈ C, R64 x.k) (hMr : ∀ x ∈ M, R64 x) (w : World) (hv : ISl w v C) (hm : GSl w mv M) : Calls Try.prog 17 #[v, .int .i64 cells, .int .i64 fuel, inV mv n i k] w (RunQ C cells fuel n i k M w) := by
  have HNW : Hid (∀ W, Below w.heap.size w W → Calls Try.prog 21 #[v, .int .i64 cells, .int .i64 (M.length : Int), .int .i64 fuel, .int .i64 n, .int .i64 i, .int .i64 k] W (NewP C cells M.length fuel n i k W)) := fun W hb => new_any C v cells M.length fuel n i k W (hv.below hb)
  have HGM : Hid (GSl w mv M) := hm
  obtain ⟨ad, cp, vb0, vo0, rfl, _, _, _⟩ := hv
  obtain ⟨mad, mcp, mb0, mo0, rfl, hm2, hm3, hm4⟩ := hm
  obtain ⟨ml, hml⟩ : ∃ ml, M.length = ml := ⟨_, rfl⟩
  have HML : Hid (M.length = ml) := hml
  have HPO : Hid (RunQ C cells fuel n i k M w = RunQ C cells fuel n i k M w) := rfl
  obtain ⟨post, hpost⟩ : ∃ p, RunQ C cells fuel n i k M w = p := ⟨_, rfl⟩
  have HP : Hid (RunQ C cells fuel n i k M w = post) := hpost
  rw [hpost]
  unfold inV
  rw [hml] at HNW HGM hm2 hM ⊢
  unfold maxLen at hm3
  clear hml hpost hm4
  obtain ⟨cl, hcl⟩ : ∃ cl, C.length = cl := ⟨_, rfl⟩
  rw [hcl] at HNW ⊢
  clear hcl
  go_enter Try.func17, Try.ntmps17
  go_wp2_with fail
  obtain ⟨W1, hW1⟩ : ∃ W1, (w.alloc (Obj.cells #[Value.slice mad ml mcp, Value.int IntKind.i64 n, Value.int IntKind.i64 i, Value.int IntKind.i64 k] 49)).alloc (Obj.cells #[Value.slice none 0 0, Value.slice none 0 0, Value.slice none 0 0, Value.int IntKind.i64 0, Value.int IntKind.i64 0, Value.int IntKind.i64 0] 54) = W1 := ⟨_, rfl⟩
  have HBW : Hid (Below w.heap.size w W1) := by rw [← hW1]; exact ((Below.refl _ _).alloc (Nat.le_refl _) _).alloc (by simp) _
  have HX : Hid (W1.heap[w.heap.size]? = some (.cells #[Value.slice mad ml mcp, Value.int IntKind.i64 n, Value.int IntKind.i64 i, Value.int IntKind.i64 k] 49)) := by rw [← hW1]; exact (Below.heap_alloc _ _ _ (by simp)).trans (heap_alloc_new w _)
  have HY : Hid (W1.heap[w.heap.size + 1]? = some (.cells efZ 54)) := by rw [← hW1]; have := heap_alloc_new (w.alloc (Obj.cells #[Value.slice mad ml mcp, Value.int IntKind.i64 n, Value.int IntKind.i64 i, Value.int IntKind.i64 k] 49)) (Obj.cells efZ 54); rw [World.size_alloc] at this; exact this
  rw [hW1]
  clear hW1
  refine (HNW.out _ HBW.out).mono ?_
  clear HNW
  rintro e w2 (⟨er, rfl, hr, hne, hb⟩ | ⟨vb, g, cap, m, rfl, hr, hvb, hg, hmx, hc, hb⟩)
  · have HB2 : Hid (Below w.heap.size w w2) := HBW.out.trans (hb.mono HBW.out.size)
    have HY2 : Hid (w2.heap[w.heap.size + 1]? = some (.cells efZ 54)) := (hb.block _ (Array.getElem?_eq_some_iff.1 HY.out).1).trans HY.out
    have hner : (er != 0) = true := by simp [hne]
    have HR : Hid (newE C cells ml fuel = er ∧ er ≠ 0) := ⟨hr, hne⟩
    clear hb hr hne
    go_wp2_with (refine wpList_store_row rfl 54 _ _ rfl (w.heap.size + 1) efZ rfl rfl 54 _ HY2.out size54 rfl efZ_one ?_)
    rw [← HP.out]
    refine bodyPost_ret (ret_e Try.results17 _ (w.heap.size + 1) rfl _ rfl _ efZ rfl (setRow_heap _ _ _ _ _ _ HY2.out)) rfl ?_
    exact Or.inl ⟨er, rfl, by rw [HML.out]; exact HR.out.1, HR.out.2, below_setRow HB2.out (by omega) _⟩
  obtain ⟨hgood, hwd, hfu⟩ := newE_good hr
  have HNE : Hid (newE C cells ml fuel = 0) := hr
  have HB2 : Hid (Below w.heap.size w w2) := HBW.out.trans (hb.mono HBW.out.size)
  have HX2 : w2.heap[w.heap.size]? = some (.cells #[Value.slice mad ml mcp, Value.int IntKind.i64 n, Value.int IntKind.i64 i, Value.int IntKind.i64 k] 49) := (hb.block _ (Array.getElem?_eq_some_iff.1 HX.out).1).trans HX.out
  have HY2 : Hid (w2.heap[w.heap.size + 1]? = some (.cells efZ 54)) := (hb.block _ (Array.getElem?_eq_some_iff.1 HY.out).1).trans HY.out
  have hvW : w.heap.size + 1 < vb ∧ w.heap.size + 1 < g := by have := (Array.getElem?_eq_some_iff.1 HY.out).1; omega
  have x0 : w2.cell? ⟨w.heap.size, 0, none⟩ = some (.slice mad ml mcp) := by rw [cell_of_row w2 _ 0 _ _ _ HX2]; rfl
  have hmw : m.words = ml := by rw [hmx]
  have hmf : m.fuel = fuel := by rw [hmx]
  have HMC : Hid (MC w2 vb g cap m C (St0 n i k)) := hc
  have HLT : Hid (vb < w2.heap.size ∧ g < w2.heap.size) := ⟨hc.vm.lt, hc.glt hgood.len.1⟩
  have HGD : Hid (Good C ∧ ∀ x ∈ C, R64 x.k) := ⟨hgood, hR⟩
  have HOK : Hid (Ok C m.fuel (St0 n i k)) := by rw [hmf]; exact st0_ok (words := 0) hgood hfu hn hi hk
  have HEI : Hid (EI m.words (St0 n i k) ⟨M, [], []⟩) := ⟨by rw [hmw, ← HML.out], hMr, by show (0 : Int) ≤ 0; omega, by show (0 : Int) ≤ 0; omega⟩
  have HCL : Hid (Calls Try.prog 37 #[.slice mad ml mcp] w2 (CloP M w2)) := clo_any M _ (by rw [HML.out]; omega) w2 (HGM.out.below HB2.out)
  have HW64 : Hid (m.words ≤ 64) := by show _ ≤ _; rw [hmw]; omega
  have HMF : Hid (m.words = ml ∧ m.fuel = fuel) := ⟨hmw, hmf⟩
  have HFU : Hid (1 ≤ fuel ∧ fuel ≤ 4000) := hfu
  have hmk : ∀ (fn : Fn) (first cap : Array Value) (w : World), (Instr.makeFunc fn first cap).run Try.prog w = .ok (.func fn first cap) w := fun _ _ _ _ => rfl
  clear hb hr hc hmx hvb hg HX HY HX2 hgood hwd hmw hmf hR hMr hn hi hk
  go_wp2_with (go_at_call 37; refine HCL.out.mono ?_; rintro e w3 ⟨cv, rfl, hown, hb3⟩; have HOW : Hid (w3.ownsRow w2.heap.size 2 1 cv M.length (iE M)) := hown; have HB3 : Hid (Below w2.heap.size w2 w3) := hb3; obtain ⟨c1, c2, c3, rfl⟩ := owns_slice hown; clear hown hb3)
  obtain ⟨W4, hW4⟩ : ∃ W4, w3.alloc (Obj.cells #[Value.slice c1 c2 c3, Value.slice none 0 0, Value.slice none 0 0, Value.int IntKind.i64 0, Value.int IntKind.i64 0, Value.int IntKind.i64 0] 93) = W4 := ⟨_, rfl⟩
  obtain ⟨wb, hwb⟩ : ∃ wb, w3.heap.size = wb := ⟨_, rfl⟩
  obtain ⟨B, hB⟩ : ∃ B, w2.heap.size = B := ⟨_, rfl⟩
  obtain ⟨F, hF⟩ : ∃ F, runS C m.words m.fuel (fuel.toNat + 1) (St0 n i k, ⟨M, [], []⟩) = F := ⟨_, rfl⟩
  have HB4 : Hid (Below B w2 W4) := by
    have h := HB3.out
    rw [hB] at h
    rw [← hW4]
    exact h.alloc (by rw [← hB]; exact HB3.out.size) _
  have HDW : Hid (DrW B vb g cap wb m C F W4 W4) := by
    have hbw : Below w2.heap.size w2 W4 := by rw [hB]; exact HB4.out
    refine ⟨_, _, _, ⟨HMC.out.below hbw, HOK.out, ⟨_, _, _, ⟨by rw [← hW4, ← hwb]; exact heap_alloc_new w3 _, by rw [← hB, ← hwb]; exact HB3.out.size, ?_, World.ownsRow_nil _ _ _ _, World.ownsRow_nil _ _ _ _, Or.inr (Or.inl rfl), Or.inr (Or.inl rfl), Or.inl rfl, ?_, by simp [Value.ownBlock], by simp [Value.ownBlock]⟩⟩, Dr.refl _ _ _, by rw [← hB]; exact hbw.size, by rw [← hB]; exact HLT.out, HGD.out.1, HGD.out.2⟩, HEI.out, hF, ?_⟩
    · rw [← hW4, ← hB]; exact HOW.out.alloc _
    · rw [← hwb]; exact ownBlock_ne HOW.out (Nat.le_refl _)
    · show farS m.fuel (St0 n i k) ≤ _
      have h0 : (St0 n i k).steps = 0 := rfl
      unfold farS
      rw [if_neg (by simp [St0]), h0, HMF.out.2]
      have := HFU.out
      omega
  have HBB : Hid (Below w.heap.size w W4 ∧ w.heap.size + 1 < B) := ⟨HB2.out.trans ((hB ▸ HB4.out : Below w2.heap.size w2 W4).mono HB2.out.size), by rw [← hB]; have := HLT.out; omega⟩
  have HY4 : Hid (W4.heap[w.heap.size + 1]? = some (.cells efZ 54)) := (HB4.out.block _ HBB.out.2).trans HY2.out
  have HFE : Hid (F = lastS C ml fuel n i k M) := by show _ = _; rw [← hF, HMF.out.1, HMF.out.2]; rfl
  rw [hW4, hwb]
  clear hW4 hF HB4 HB3 HOW hwb hB HB2 HY2 HMC HOK HEI HCL
  refine (drive_any B vb g cap wb m C F HW64.out W4 HDW.out).mono ?_
  rintro e V ⟨rfl, hd, ho⟩
  have HDV : Hid (DI B vb g cap wb m C W4 V F.1 F.2) := hd
  obtain ⟨mv, ov, nv, hef⟩ := hd.ef
  obtain ⟨m1, m2, m3, rfl⟩ := owns_slice hef.m
  obtain ⟨o1, o2, o3, rfl⟩ := owns_slice hef.o
  obtain ⟨n1, n2, n3, rfl⟩ := owns_slice hef.n
  have HEF : Hid (EF V 93 B wb (.slice m1 m2 m3) (.slice o1 o2 o3) (.slice n1 n2 n3) F.2) := hef
  have HEN : Hid (Calls Try.prog 14 #[.pointer (some ⟨vb, 0, none⟩)] V fun e w' => e = .returned (.tuple #[.int .i64 F.1.over, .int .i64 F.1.value]) ∧ ∃ n, w' = V.drewN n) := endv_any vb m F.1 V hd.mc.vm
  clear hd hef ho HDW
  go_wp2_with fail
  refine HEN.out.mono ?_
  rintro e V5 ⟨rfl, nn, hV5⟩
  have HD5 : Hid (DI B vb g cap wb m C W4 V5 F.1 F.2) := by rw [hV5]; exact HDV.out.below (below_drewN (Below.refl _ _) nn)
  have HE5 : Hid (EF V5 93 B wb (.slice m1 m2 m3) (.slice o1 o2 o3) (.slice n1 n2 n3) F.2) := by rw [hV5]; exact HEF.out.below (below_drewN (Below.refl _ _) nn)
  have hne : wb ≠ vb := by have h1 := HD5.out.lt.1; have h2 := HE5.out.base; omega
  have hne2 : vb ≠ wb := Ne.symm hne
  have z3 : V5.cell? ⟨wb, 3, none⟩ = some (.int .i64 0) := by rw [cell_of_row V5 _ 3 _ _ _ HE5.out.blk]; rfl
  have z4 : V5.cell? ⟨wb, 4, none⟩ = some (.int .i64 0) := by rw [cell_of_row V5 _ 4 _ _ _ HE5.out.blk]; rfl
  have z5 : V5.cell? ⟨wb, 5, none⟩ = some (.int .i64 0) := by rw [cell_of_row V5 _ 5 _ _ _ HE5.out.blk]; rfl
  have y3 := HE5.out.fz 3
  have y4 := HE5.out.fz 4
  have y5 := HE5.out.fz 5
  have s23 := HD5.out.mc.vm.c23
  have z0 := HE5.out.c0
  have z1 := HE5.out.c1
  have z2 := HE5.out.c2
  obtain ⟨V6, hV6⟩ : ∃ V6, ((V5.setCell ⟨wb, 3, none⟩ (Value.int .i64 F.1.over)).setCell ⟨wb, 4, none⟩ (Value.int .i64 F.1.value)).setCell ⟨wb, 5, none⟩ (Value.int .i64 F.1.steps) = V6 := ⟨_, rfl⟩
  have hbk : ∀ j, j ≠ wb → V6.heap[j]? = V5.heap[j]? := fun j hj => by rw [← hV6, Below.heap_setCell _ _ _ _ hj, Below.heap_setCell _ _ _ _ hj, Below.heap_setCell _ _ _ _ hj]
  have hlw : w.heap.size + 1 < wb := by have h1 := HE5.out.base; have h2 := HBB.out.2; omega
  have HY6 : Hid (V6.heap[w.heap.size + 1]? = some (.cells efZ 54)) := by
    show _ = _
    rw [hbk _ (by omega), HD5.out.fr.block _ HBB.out.2 (by omega)]
    exact HY4.out
  have HE6 : Hid (∀ cs, ER (V6.setRow (w.heap.size + 1) cs) (.slice m1 m2 m3) (.slice o1 o2 o3) (.slice n1 n2 n3) F.2) := fun cs => by
    have h := HE5.out
    have hk : ∀ j, B ≤ j → j < V6.heap.size → (V6.setRow (w.heap.size + 1) cs).heap[j]? = V6.heap[j]? := fun j hj _ => setRow_other _ _ _ _ (by have := HBB.out.2; omega)
    refine ⟨gsl_own (B := B) (ownsRow_blocks ?_ hk), gsl_own (B := B) (ownsRow_blocks ?_ hk), psl_own (B := B) (ownsRow_blocks ?_ hk)⟩ <;> rw [← hV6]
    · exact ownsRow_setCell_other (ownsRow_setCell_other (ownsRow_setCell_other h.m h.mw _) h.mw _) h.mw _
    · exact ownsRow_setCell_other (ownsRow_setCell_other (ownsRow_setCell_other h.o h.ow _) h.ow _) h.ow _
    · exact ownsRow_setCell_other (ownsRow_setCell_other (ownsRow_setCell_other h.n h.nw _) h.nw _) h.nw _
  have HB6 : Hid (Below w.heap.size w V6) := by
    have h := HD5.out.fr
    have hb := HBB.out.1
    have h2 := HBB.out.2
    refine ⟨?_, ?_, ?_, ?_, fun j hj => ?_⟩
    · rw [← hV6]; exact h.os.trans hb.os
    · rw [← hV6]; exact h.tape.trans hb.tape
    · rw [← hV6]; exact h.output.trans hb.output
    · rw [← hV6]; simpa [World.setCell] using Nat.le_trans hb.size h.size
    · rw [hbk j (by omega), h.block j (by omega) (by omega)]; exact hb.block j hj
  have HONE : Hid ((efV (.slice m1 m2 m3) (.slice o1 o2 o3) (.slice n1 n2 n3) F.1).all (·.oneCell') = true) := all_oneCell_toArray (cs := [.slice m1 m2 m3, .slice o1 o2 o3, .slice n1 n2 n3, .int .i64 F.1.over, .int .i64 F.1.value, .int .i64 F.1.steps]) (by intro v hv; simp at hv; rcases hv with rfl | rfl | rfl | rfl | rfl | rfl <;> rfl)
  have HV6 : Hid (((V5.setCell ⟨wb, 3, none⟩ (Value.int .i64 F.1.over)).setCell ⟨wb, 4, none⟩ (Value.int .i64 F.1.value)).setCell ⟨wb, 5, none⟩ (Value.int .i64 F.1.steps) = V6) := hV6
  clear hV5 HEN HDV HEF hV6 hbk
  go_wp2_with (rw [HV6.out]; refine wpList_store_row rfl 54 _ _ rfl (w.heap.size + 1) (efV (.slice m1 m2 m3) (.slice o1 o2 o3) (.slice n1 n2 n3) F.1) rfl rfl 54 _ HY6.out size54 rfl HONE.out ?_)
  rw [← HP.out]
  refine bodyPost_ret (ret_e Try.results17 _ (w.heap.size + 1) rfl _ rfl _ _ rfl (setRow_heap _ _ _ _ _ _ HY6.out)) rfl ?_
  refine Or.inr ⟨.slice m1 m2 m3, .slice o1 o2 o3, .slice n1 n2 n3, ?_, by rw [HML.out]; exact HNE.out, ?_, below_setRow HB6.out (by omega) _⟩
  · rw [HML.out, ← HFE.out]; rfl
  · rw [HML.out, ← HFE.out]
    exact HE6.out _
end Go.Proofs.Ytkcncngcmhldpaa
