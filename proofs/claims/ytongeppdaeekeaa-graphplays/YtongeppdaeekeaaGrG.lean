/- An edge is added. -/
import Derived.Test.YtongeppdaeekeaaGrF
import Derived.Deep.RegionLaw
namespace Go.Proofs.Ytongeppdaeekeaa
open Go.RowKit Go.Maps
set_option linter.unusedVariables false

theorem ins_any (w : World) (sv : Value) (l : Ed) (i : Nat) (z : Int × Int) (gx : Nat) (h : RZ kE w sv l) (hi : i ≤ l.length) (hx : w.heap[gx]? = some (.cells #[.int .i64 z.1, .int .i64 z.2] 90)) (hne : sv.ownBlock ≠ some gx) (hl : l.length ≤ 600) :
    Calls Try.prog 83 #[sv, .int .i64 (i : Int), .slice (some ⟨gx, 0, none⟩) 1 1] w (InsQ w sv (l.take i ++ z :: l.drop i)) := by
  rcases Nat.eq_or_lt_of_le hi with r | r
  · subst r
    have := ins_end w sv l z gx h hx hl
    rw [List.take_length, List.drop_length]
    exact this
  · rcases h.2 with ⟨h1, h0⟩ | ⟨g, cap, cur, rfl, _⟩
    · omega
    · rcases Nat.lt_or_ge cap (l.length + 1) with q | q
      · exact ins_new w g cap #[] l i z gx h r hx hl q
      · exact ins_in w g cap l i z gx h r hx (fun e => hne (by rw [e]; rfl)) hl q
def badE (r wt : Int) : Bool := decide (wt < 0) || decide (r ≤ wt)
def addE (room : Nat) (E : Ed) (r wt : Int) : Int := if badE r wt then 230 else if hasE E (r, wt) then 0 else if E.length = room then 200 else 0
def addS (room : Nat) (E : Ed) (r wt : Int) : Ed := if badE r wt then E else if hasE E (r, wt) then E else if E.length = room then E else insE E (r, wt)
/-- what a call of a graph leaves -/
def GQ (w : World) (gb room : Nat) (ev : Value) (E' : Ed) (x : Value) (e : Ending) (w' : World) : Prop :=
  ∃ ev', e = .returned x ∧ GV w' gb room ev' E' ∧ Ch (fun k => k = gb ∨ ev.ownBlock = some k) w w' ∧ (ev'.ownBlock = ev.ownBlock ∨ ∃ n, w.heap.size ≤ n ∧ ev'.ownBlock = some n)
theorem GQ.of {w w' : World} {gb room : Nat} {ev x : Value} {E : Ed} (h : GV w gb room ev E) (b : Below w.heap.size w w') : GQ w gb room ev E x (.returned x) w' :=
  ⟨ev, rfl, h.below b, Ch.of b, .inl rfl⟩
theorem OkE.ins {room : Nat} {E : Ed} {x : Int × Int} (h : OkE room E) (hb : 0 ≤ x.2 ∧ x.2 < x.1) (hn : hasE E x = false) (hl : E.length ≠ room) : OkE room (insE E x) := by
  refine ⟨insE_srt h.srt x (by unfold hasE at hn; exact of_decide_eq_false hn), fun e he => ?_, ?_, h.r1⟩
  · rcases mem_insE.1 he with rfl | he
    · exact hb
    · exact h.up e he
  · rw [insE_len]; have := h.len; omega
/-- the new row is written into the graph -/
theorem GQ.put {w w2 w6 : World} {gb room : Nat} {ev v' x : Value} {E E' : Ed} (h : GV w gb room ev E) (b2 : Below w.heap.size w w2) (hz : RZ kE w6 v' E') (hg : w2.grownBy w6 ev.ownBlock) (ho : v'.ownBlock = ev.ownBlock ∨ ∃ n, w2.heap.size ≤ n ∧ v'.ownBlock = some n) (ok : OkE room E') :
    GQ w gb room ev E' x (.returned x) (w6.setCell ⟨gb, 1, none⟩ v') := by
  have hlt := h.lt
  have hs := b2.size
  have e6 : w6.heap[gb]? = some (.cells #[.int .i64 (room : Int), ev] 131) := (hg.block gb (by omega) (fun e => h.ne e.symm)).trans ((b2.block gb hlt).trans h.bl)
  have hne : v'.ownBlock ≠ some gb := by
    rcases ho with r | ⟨n, hn, r⟩
    · rw [r]; exact h.ne
    · rw [r]; intro e; injection e with e; omega
  refine ⟨v', rfl, ⟨heap_setCell_same w6 gb 1 _ 131 _ e6, hz.keep fun g hgg => Below.heap_setCell _ _ _ _ (by show g ≠ gb; intro e; rw [e] at hgg; exact hne hgg), hne, ok⟩, ⟨hg.os.trans b2.os, hg.tape.trans b2.tape, hg.output.trans b2.output, by have := hg.size; simp only [World.setCell, Array.size_modify]; omega, fun k hk hn => ?_⟩, ?_⟩
  · rw [Below.heap_setCell _ _ _ _ (by show k ≠ gb; exact fun e => hn (.inl e))]
    exact (hg.block k (by omega) (fun e => hn (.inr e.symm))).trans (b2.block k hk)
  · rcases ho with r | ⟨n, hn, r⟩
    · exact .inl r
    · exact .inr ⟨n, by omega, r⟩
set_option maxRecDepth 100000 in
set_option maxHeartbeats 8000000 in
theorem add_any {w : World} {gb room : Nat} {ev : Value} {E : Ed} (h : GV w gb room ev E) (r wt : Int) : Calls Try.prog 41 #[.pointer (some ⟨gb, 0, none⟩), .int .i64 r, .int .i64 wt] w (GQ w gb room ev (addS room E r wt) (.int .i64 (addE room E r wt))) := by
  have HV : Hid (∀ W, Below w.heap.size w W → GV W gb room ev E) := fun W hW => h.below hW
  have HFI : Hid (∀ W, Below w.heap.size w W → Calls Try.prog 72 #[.pointer (some ⟨gb, 0, none⟩), .agg #[.int .i64 r, .int .i64 wt]] W (AN W (.tuple #[.int .i64 (plE E (r, wt) : Int), .bool (hasE E (r, wt))]))) := fun W hW => find_any (h.below hW) (r, wt)
  have HF : Hid (∀ W x, Below w.heap.size w W → addS room E r wt = E → addE room E r wt = x → GQ w gb room ev (addS room E r wt) (.int .i64 (addE room E r wt)) (.returned (.int .i64 x)) W) := fun W x hW h1 h2 => by
    rw [h1, h2]
    exact GQ.of h hW
  by_cases b1 : wt < 0
  · have t1 : decide (wt < 0) = true := by simp [b1]
    have hb : badE r wt = true := by unfold badE; rw [t1]; rfl
    have HR : Hid (GQ w gb room ev (addS room E r wt) (.int .i64 (addE room E r wt)) (.returned (.int .i64 230)) w) := HF.out w 230 (Below.refl _ _) (by unfold addS; rw [hb, if_pos rfl]) (by unfold addE; rw [hb, if_pos rfl])
    clear h
    generalize GQ w gb room ev (addS room E r wt) (.int .i64 (addE room E r wt)) = P at *
    go_enter Try.func41, Try.ntmps41
    go_wp2
    first | exact HR.out | (go_ret; exact HR.out)
  have t1 : decide (wt < 0) = false := by simp; omega
  by_cases b2 : r ≤ wt
  · have t2 : decide (r ≤ wt) = true := by simp [b2]
    have hb : badE r wt = true := by unfold badE; rw [t1, t2]; rfl
    have HR : Hid (GQ w gb room ev (addS room E r wt) (.int .i64 (addE room E r wt)) (.returned (.int .i64 230)) w) := HF.out w 230 (Below.refl _ _) (by unfold addS; rw [hb, if_pos rfl]) (by unfold addE; rw [hb, if_pos rfl])
    clear h
    generalize GQ w gb room ev (addS room E r wt) (.int .i64 (addE room E r wt)) = P at *
    go_enter Try.func41, Try.ntmps41
    go_wp2
    first | exact HR.out | (go_ret; exact HR.out)
  have t2 : decide (r ≤ wt) = false := by simp; omega
  have hb : badE r wt = false := by unfold badE; rw [t1, t2]; rfl
  have HBX : Hid (∀ W, Below (w.heap.size + 1) (w.alloc (.cells #[.int .i64 r, .int .i64 wt] 90)) W → W.cell? ⟨w.heap.size, 0, none⟩ = some (.int .i64 r) ∧ W.cell? ⟨w.heap.size, 1, none⟩ = some (.int .i64 wt)) := fun W hW => by
    have e := (hW.block w.heap.size (by omega)).trans (heap_alloc_new _ _)
    exact ⟨by rw [cell_of_row W w.heap.size _ _ _ _ e]; rfl, by rw [cell_of_row W w.heap.size _ _ _ _ e]; rfl⟩
  have HFX : Hid (∀ W x, Below w.heap.size w W → addS room E r wt = E → addE room E r wt = x → GQ w gb room ev (addS room E r wt) (.int .i64 (addE room E r wt)) (.returned (.int .i64 x)) W) := HF.out
  cases hh : hasE E (r, wt) with
  | true =>
    have HS : Hid (addS room E r wt = E ∧ addE room E r wt = 0) := ⟨by unfold addS; rw [hb, hh]; rfl, by unfold addE; rw [hb, hh]; rfl⟩
    rw [hh] at HFI
    clear h hb hh
    generalize GQ w gb room ev (addS room E r wt) (.int .i64 (addE room E r wt)) = P at *
    generalize plE E (r, wt) = p at *
    have HV1 : Hid (∀ A, Below w.heap.size w (w.alloc A)) := fun A => bl1 w A
    obtain ⟨x0, x1⟩ := HBX.out _ (Below.refl _ _)
    go_enter Try.func41, Try.ntmps41
    go_wp2_with fail
    refine (HFI.out _ (HV1.out _)).mono ?_
    rintro e w3 ⟨rfl, b3⟩
    have HR : Hid (P (.returned (.int .i64 0)) w3) := HFX.out w3 0 ((HV1.out _).trans (b3.mono (HV1.out _).size)) HS.out.1 HS.out.2
    clear b3 x0 x1
    go_wp2
    first | exact HR.out | (go_ret; exact HR.out)
  | false =>
    rw [hh] at HFI
    have hlr := h.ok.len
    obtain ⟨a, c, hev⟩ := h.rz.sl
    obtain ⟨n, hn⟩ : ∃ n, E.length = n := ⟨_, rfl⟩
    have HCG : Hid (∀ W, Below w.heap.size w W → W.cell? ⟨gb, 0, none⟩ = some (.int .i64 (room : Int)) ∧ W.cell? ⟨gb, 1, none⟩ = some ev) := fun W hW => (h.below hW).cell
    by_cases hr : n = room
    · have HS : Hid (addS room E r wt = E ∧ addE room E r wt = 200) := ⟨by unfold addS; rw [hb, hh, hn, if_pos hr]; rfl, by unfold addE; rw [hb, hh, hn, if_pos hr]; rfl⟩
      rw [hn] at hev
      clear h hb hh hlr hn
      generalize GQ w gb room ev (addS room E r wt) (.int .i64 (addE room E r wt)) = P at *
      generalize plE E (r, wt) = p at *
      subst hev hr
      have t3 : ((n : Int) == (n : Int)) = true := by simp
      have HV1 : Hid (∀ A, Below w.heap.size w (w.alloc A)) := fun A => bl1 w A
      obtain ⟨x0, x1⟩ := HBX.out _ (Below.refl _ _)
      go_enter Try.func41, Try.ntmps41
      go_wp2_with fail
      refine (HFI.out _ (HV1.out _)).mono ?_
      rintro e w3 ⟨rfl, b3⟩
      have hb3 := (HV1.out (.cells #[.int .i64 r, .int .i64 wt] 90)).trans (b3.mono (HV1.out _).size)
      have HR : Hid (P (.returned (.int .i64 200)) w3.drew) := HFX.out w3.drew 200 hb3.drew HS.out.1 HS.out.2
      obtain ⟨y0, y1⟩ := HCG.out w3.drew hb3.drew
      clear b3 x0 x1 hb3
      go_upto_region 7 with fail
      go_region_with (fail)
      all_goals
        go_wp2
        first | exact HR.out | (go_ret; exact HR.out)
    · have HS : Hid (addS room E r wt = insE E (r, wt) ∧ addE room E r wt = 0) := ⟨by unfold addS; rw [hb, hh, hn, if_neg hr]; rfl, by unfold addE; rw [hb, hh, hn, if_neg hr]; rfl⟩
      have hok : OkE room (insE E (r, wt)) := h.ok.ins ⟨by show 0 ≤ wt; omega, by show wt < r; omega⟩ hh (by rw [hn]; exact hr)
      have HP : Hid (∀ W v' W', Below w.heap.size w W → RZ kE W' v' (insE E (r, wt)) → W.grownBy W' ev.ownBlock → (v'.ownBlock = ev.ownBlock ∨ ∃ n, W.heap.size ≤ n ∧ v'.ownBlock = some n) → GQ w gb room ev (addS room E r wt) (.int .i64 (addE room E r wt)) (.returned (.int .i64 0)) (W'.setCell ⟨gb, 1, none⟩ v')) := fun W v' W' b1 b2 b3 b4 => by
        rw [HS.out.1, HS.out.2]
        exact GQ.put h b1 b2 b3 b4 hok
      have HIN : Hid (∀ W, Below w.heap.size w W → Calls Try.prog 83 #[ev, .int .i64 (plE E (r, wt) : Int), .slice (some ⟨W.heap.size, 0, none⟩) 1 1] (W.alloc (.cells #[.int .i64 r, .int .i64 wt] 90)).drew (InsQ (W.alloc (.cells #[.int .i64 r, .int .i64 wt] 90)).drew ev (insE E (r, wt)))) := fun W hW => by
        have q := h.below hW
        refine ins_any _ ev E (plE E (r, wt)) (r, wt) W.heap.size ((q.rz.below (bl1 W _)).below (Below.refl _ _).drew) (plE_le _ _) (heap_alloc_new W _) ?_ (by have := h.l512; omega)
        intro e
        have := q.rz.own e
        omega
      have HGC : Hid (∀ W, Below w.heap.size w W → W.heap[gb]? = some (.cells #[.int .i64 (room : Int), ev] 131)) := fun W hW => (h.below hW).bl
      have HNE : Hid (ev.ownBlock ≠ some gb ∧ gb < w.heap.size) := ⟨h.ne, h.lt⟩
      rw [hn] at hev
      clear h hb hh hlr hn hok HS
      generalize GQ w gb room ev (addS room E r wt) (.int .i64 (addE room E r wt)) = P at *
      generalize plE E (r, wt) = p at *
      generalize insE E (r, wt) = E2 at *
      subst hev
      have t3 : ((n : Int) == (room : Int)) = false := by simp; omega
      have HV1 : Hid (∀ A, Below w.heap.size w (w.alloc A)) := fun A => bl1 w A
      obtain ⟨x0, x1⟩ := HBX.out _ (Below.refl _ _)
      go_enter Try.func41, Try.ntmps41
      go_wp2_with fail
      refine (HFI.out _ (HV1.out _)).mono ?_
      rintro e w3 ⟨rfl, b3⟩
      have hb3 := (HV1.out (.cells #[.int .i64 r, .int .i64 wt] 90)).trans (b3.mono (HV1.out _).size)
      have HB3 : Hid (Below w.heap.size w w3) := hb3
      have hb4 := HBX.out w3 (b3.mono (by simp))
      have HX3 : Hid (w3.cell? ⟨w.heap.size, 0, none⟩ = some (.int .i64 r) ∧ w3.cell? ⟨w.heap.size, 1, none⟩ = some (.int .i64 wt)) := hb4
      obtain ⟨y0, y1⟩ := HCG.out w3.drew hb3.drew
      clear b3 x0 x1 hb3 hb4
      go_upto_region 7 with fail
      go_cut [36] from 27 to 36 (fun u wx => u = .bool false ∧ Hid (Below w3.heap.size w3 wx))
      case first =>
        go_region_with (fail)
        all_goals
          go_wp2_with fail
          go_meet
          exact ⟨rfl, (Below.refl _ w3).drew⟩
      case rest =>
        obtain ⟨rfl, HC⟩ := hcut
        have HBc : Hid (Below w.heap.size w wc) := HB3.out.trans (HC.out.mono HB3.out.size)
        clear y0 y1
        obtain ⟨y0, y1⟩ := HCG.out wc.drew HBc.out.drew
        obtain ⟨x0, x1⟩ : wc.drew.cell? ⟨w.heap.size, 0, none⟩ = some (.int .i64 r) ∧ wc.drew.cell? ⟨w.heap.size, 1, none⟩ = some (.int .i64 wt) := by
          obtain ⟨q0, q1⟩ := HX3.out
          exact ⟨(HC.out.drew.cell (p := ⟨w.heap.size, 0, none⟩) (World.block_lt_of_cell? w3 _ q0)).trans q0, (HC.out.drew.cell (p := ⟨w.heap.size, 1, none⟩) (World.block_lt_of_cell? w3 _ q1)).trans q1⟩
        obtain ⟨z0, z1⟩ := HCG.out (wc.alloc (.cells #[.int .i64 r, .int .i64 wt] 90)).drew (HBc.out.trans ((bl1 wc _).drew.mono HBc.out.size))
        have HBA : Hid (Below w.heap.size w (wc.alloc (.cells #[.int .i64 r, .int .i64 wt] 90)).drew) := HBc.out.trans ((bl1 wc _).drew.mono HBc.out.size)
        clear HC HX3
        go_upto_region 9 with fail
        go_region_law
          (go_simp
           go_at_call 83
           refine (HIN.out wc HBc.out).mono ?_
           rintro e w6 ⟨v6, rfl, z6, g6, o6⟩
           have HE : Hid (P (.returned (.int .i64 0)) (w6.setCell ⟨gb, 1, none⟩ v6)) := HP.out _ v6 w6 HBA.out z6 g6 o6
           have e6 : w6.heap[gb]? = some (.cells #[.int .i64 (room : Int), .slice a n c] 131) := (g6.block gb (Nat.lt_of_lt_of_le HNE.out.2 HBA.out.size) (fun e => HNE.out.1 e.symm)).trans (HGC.out _ HBA.out)
           have f6 := frozen_of_row w6 gb 1 _ _ e6
           have c6 : w6.cell? ⟨gb, 1, none⟩ = some (.slice a n c) := by rw [cell_of_row w6 gb _ _ _ _ e6]; rfl
           obtain ⟨a6, k6, rfl⟩ := z6.sl
           clear z6 g6 o6 e6)
        all_goals
          go_wp2
          first | exact HE.out | (go_ret; exact HE.out)
end Go.Proofs.Ytongeppdaeekeaa
