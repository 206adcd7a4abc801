/- The loads and stores of instructions in a row. -/
import Derived.Test.YtcaefimnhoeimaaAh
import Derived.Test.YtcaefimnhoeimaaFmE
import Derived.Maps.AppendAt
import Derived.Laws.Rows
namespace Go.Proofs.Ytcaefimnhoeimaa
open Go.RowKit Go.Maps
set_option linter.unusedVariables false
set_option linter.unusedSimpArgs false

theorem info_parts {P : Program} {t : Nat} {z : Value} {s b : Nat} (h : (P.info? t).map (fun i => (i.zero, i.size, i.bytes)) = some (some z, s, b)) : ∃ i, P.info? t = some i ∧ i.zero = some z ∧ i.size = s ∧ i.bytes = b := by
  obtain ⟨i, h1, h2⟩ := Option.map_eq_some_iff.1 h
  simp only [Prod.mk.injEq] at h2
  exact ⟨i, h1, h2.1, h2.2.1, h2.2.2⟩
def acs (l : List (Bool × Fm)) : List Value := l.flatMap fun x => [.bool x.1, .bool x.2.k, .int .i64 x.2.a, .int .i64 x.2.c]
theorem acs_app (l m : List (Bool × Fm)) : acs (l ++ m) = acs l ++ acs m := by simp [acs]
theorem info32 : (Try.prog.info? 32).map (fun i => (i.zero, i.size, i.bytes)) = some (some (.agg #[.bool false, .bool false, .int .i64 0, .int .i64 0]), 4, 32) := by kernel_rfl
/-- accesses of the call's own -/
def AZ (w : World) (base : Nat) (v : Value) (l : List (Bool × Fm)) : Prop := w.ownsRow base 32 4 v l.length (acs l)
theorem AZ.nil (w : World) (base : Nat) : AZ w base (.slice none 0 0) [] := ⟨rfl, .inl ⟨rfl, rfl⟩⟩
theorem AZ.keep {w w' : World} {base : Nat} {v : Value} {l : List (Bool × Fm)} (h : AZ w base v l) (hk : ∀ k, base ≤ k → k < w.heap.size → w'.heap[k]? = w.heap[k]?) : AZ w' base v l := by
  refine ⟨h.1, ?_⟩
  rcases h.2 with h0 | ⟨g, cap, cur, h1, h2, h3, h4⟩
  · exact .inl h0
  · exact .inr ⟨g, cap, cur, h1, h2, (hk g h2 (Array.getElem?_eq_some_iff.1 h3).1).trans h3, h4⟩
theorem AZ.below {w w' : World} {base : Nat} {v : Value} {l : List (Bool × Fm)} (h : AZ w base v l) (hb : Below w.heap.size w w') : AZ w' base v l := h.keep fun k _ hk => hb.block k hk
theorem AZ.mono {w : World} {base base' : Nat} {v : Value} {l : List (Bool × Fm)} (h : AZ w base v l) (hb : base' ≤ base) : AZ w base' v l := by
  refine ⟨h.1, ?_⟩
  rcases h.2 with h0 | ⟨g, cap, cur, h1, h2, h3, h4⟩
  · exact .inl h0
  · exact .inr ⟨g, cap, cur, h1, by omega, h3, h4⟩
/-- what an append leaves: all but the row's own block -/
structure Gw (w w' : World) (base : Nat) (lim : Nat) : Prop where
  bl : Below base w w'
  keep : ∀ k, lim ≤ k → k < w.heap.size → w'.heap[k]? = w.heap[k]?
theorem push_acc {o : Oper} {a : Act} {K : Act → World → Prop} {Q : Exit → Act → World → Prop} (w : World) (s x : Operand)
    (ho : o.op = .call { callee := .builtin .append, args := #[s, x], argTypes := #[23, 23] }) (base : Nat) (v : Value) (l : List (Bool × Fm)) (b0 : Bool) (f : Fm) (hs : a.eval s = v) (hown : AZ w base v l)
    (g : Nat) (hx : a.eval x = .slice (some ⟨g, 0, none⟩) 1 1) (hg : w.heap[g]? = some (.cells #[.bool b0, .bool f.k, .int .i64 f.a, .int .i64 f.c] 32)) (hlen : l.length ≤ 100000) (hb : base ≤ w.heap.size)
    (lim : Nat) (hlim : ∀ k, v.ownBlock = some k → k < lim)
    (h : ∀ v' w', AZ w' base v' (l ++ [(b0, f)]) → Gw w w' base lim → K (a.put o.dst v') w') : o.wp Try.prog a w K Q := by
  obtain ⟨i0, hi, hz0, hz1, hz2⟩ := info_parts info32
  refine wp_append_own w s x 23 ho base 32 i0 (.agg #[.bool false, .bool false, .int .i64 0, .int .i64 0]) 4 32 Try.underlying23 hi hz0 hz1 hz2 rfl (by decide) v l.length (acs l) hs hown ⟨g, 0, none⟩ 1 1 [.bool b0, .bool f.k, .int .i64 f.a, .int .i64 f.c] hx rfl ?_ ?_ ?_ ?_ hb ?_
  · intro j u hj
    rw [addn, cell_of_row w g (0 + j) _ _ _ hg]
    simpa using hj
  · intro u hu; simp at hu; rcases hu with rfl | rfl | rfl | rfl <;> rfl
  · unfold maxLen; omega
  · omega
  · intro v' w' h1 h2 _
    refine h v' w' ?_ ⟨(Below.refl base w).grown h2 hb (fun k hk => (World.ownsRow.lt hown k hk).1), fun k hk hk2 => h2.block k hk2 (fun e => ?_)⟩
    · unfold AZ
      rw [List.length_append, acs_app]
      exact h1
    · have := hlim k e.symm; omega

def ToP (r : Option (List (Bool × Fm))) (w : World) (e : Ending) (w' : World) : Prop := Below w.heap.size w w' ∧ match r with
  | none => e = .returned (.tuple #[.slice none 0 0, .bool false])
  | some l => ∃ v, e = .returned (.tuple #[v, .bool true]) ∧ AZ w' w.heap.size v l
/-- the state ahead of a round -/
structure TI (w : World) (fb N : Nat) (L : List In) (res : Option (List (Bool × Fm))) (i : Nat) (R : List Fm) (l : List (Bool × Fm)) (v : Value) (wr : World) : Prop where
  fbk : FB wr fb R
  az : AZ wr (fb + 1) v l
  bl : Below w.heap.size w wr
  sz : fb < wr.heap.size
  len : l.length ≤ i
  eq : (match toldF R (L.drop i) with | some t => some (l ++ t) | none => none) = res
theorem toldF_drop (R : List Fm) (L : List In) (i : Nat) (h : i < L.length) : toldF R (L.drop i) = if goB R L[i] = true then (match toldF (passF R L[i]) (L.drop (i + 1)) with | some t => some (accF R L[i] ++ t) | none => none) else none := by
  rw [List.drop_eq_getElem_cons h]; rfl

theorem Ch.az {fb : Nat} {w w' : World} {v : Value} {l : List (Bool × Fm)} (hc : Ch fb w w') (h : AZ w (fb + 1) v l) : AZ w' (fb + 1) v l := h.keep fun k h1 h2 => hc.block k h2 (by omega)
theorem TI.next {w : World} {fb N : Nat} {L : List In} {res : Option (List (Bool × Fm))} {i : Nat} {R : List Fm} {l m : List (Bool × Fm)} {v v' : Value} {wr w7 w8 : World} {x : In} (h : TI w fb N L res i R l v wr) (hg : goB R x = true) (hx : ∃ hi : i < L.length, L[i] = x) (ha : m = l ++ accF R x) (h8 : FB w8 fb (passF R x)) (h7 : AZ w7 (fb + 1) v' m) (hb : Below w.heap.size w w7) (hc : Ch fb w7 w8) (hw : w.heap.size = fb) (hl7 : fb < w7.heap.size) :
    TI w fb N L res (i + 1) (passF R x) m v' w8 := by
  obtain ⟨hi, rfl⟩ := hx
  refine ⟨h8, hc.az h7, ?_, h8.lt, ?_, ?_⟩
  · exact ⟨hc.os.trans hb.os, hc.tape.trans hb.tape, hc.output.trans hb.output, Nat.le_trans hb.size hc.size, fun k hk => (hc.block k (by have := hb.size; omega) (by omega)).trans (hb.block k hk)⟩
  · rw [ha, List.length_append]
    have : (accF R L[i]).length ≤ 1 := by unfold accF; repeat' split
                                          all_goals simp
    have := h.len
    omega
  · rw [← h.eq, toldF_drop R L i hi, if_pos hg, ha]
    rcases toldF (passF R L[i]) (L.drop (i + 1)) with _ | t
    · rfl
    · simp

set_option maxRecDepth 100000 in
set_option maxHeartbeats 8000000 in
theorem told_any (L : List In) (hL : ∀ x ∈ L, OkI x) (hlen : L.length ≤ 1000) (vL : Value) (w : World) (hv : ISl w vL L) : Calls Try.prog 12 #[vL] w (ToP (toldF startF L) w) := by
  obtain ⟨ad, cap, b, o, rfl, h2, h3, h4, h5⟩ := hv
  obtain ⟨N, hN⟩ : ∃ N, L.length = N := ⟨_, rfl⟩
  have HN : Hid (L.length = N) := hN
  have H5 : Hid (∀ i (h : i < L.length), IAt w b (o + i * 6) L[i]) := h5
  have H4 : Hid (0 < L.length → ad = some ⟨b, o, none⟩) := h4
  have HO : Hid (∀ x ∈ L, OkI x) := hL
  obtain ⟨res, hres⟩ : ∃ r, toldF startF L = r := ⟨_, rfl⟩
  have HR : Hid (toldF startF L = res) := hres
  obtain ⟨P, hP⟩ : ∃ P, ToP res w = P := ⟨_, rfl⟩
  have HP : Hid (ToP res w = P) := hP
  rw [hres, hN, hP]
  rw [hN] at h2 hlen
  unfold maxLen at h3
  clear hN h5 h4 hL hres hP
  go_enter Try.func12, Try.ntmps12
  go_wp2_with fail
  refine (ahead_any w).mono ?_
  rintro e w1 ⟨fb, rfl, hfb, hFB, hbl⟩
  have HFW : Hid (w.heap.size = fb) := hfb.symm
  have HT0 : Hid (TI w fb N L res 0 startF [] (.slice none 0 0) w1) := ⟨hFB, AZ.nil _ _, hbl, hFB.lt, Nat.le_refl _, by
    rw [← HR.out, List.drop_zero]
    cases toldF startF L <;> rfl⟩
  clear hFB hbl hfb
  go_wp2_with fail
  go_loopw [5, 11] (fun vv ii wr => ∃ (i : Nat) (R : List Fm) (l : List (Bool × Fm)) (v : Value), ii = .int .i64 (i : Int) ∧ v = vv ∧ i ≤ N ∧ Hid (TI w fb N L res i R l v wr)) (fun _ ii _ => N - (intOf ii).toNat)
  case atStart => exact ⟨0, _, _, _, rfl, rfl, Nat.zero_le _, HT0⟩
  case round =>
    obtain ⟨i, R, l, v, rfl, rfl, hi, HT⟩ := hrel
    by_cases hlt : i < N
    · have hiL : i < L.length := by rw [HN.out]; exact hlt
      have hx : IAt wr b (o + i * 6) L[i] := (H5.out i hiL).block (HT.out.bl.block b (H5.out i hiL).lt)
      obtain rfl := H4.out (by omega)
      have hok : OkI L[i] := HO.out _ (List.getElem_mem hiL)
      obtain ⟨x, hxx⟩ : ∃ x, L[i] = x := ⟨_, rfl⟩
      rw [hxx] at hx hok
      have HXI : Hid (∃ hi : i < L.length, L[i] = x) := ⟨hiL, hxx⟩
      clear hxx
      have HGO : Hid (∀ W, FB W fb R → Calls Try.prog 25 #[.pointer (some ⟨fb, 0, none⟩), iv x] W fun e w' => e = .returned (.bool (goB R x)) ∧ Below W.heap.size W w') := fun W hW => goes_any fb R x hok W hW
      have HPS : Hid (∀ W, FB W fb R → Calls Try.prog 27 #[.pointer (some ⟨fb, 0, none⟩), iv x] W (PaP fb (passF R x) W)) := fun W hW => pass_any fb R x hok W hW
      have HRB : Hid (OkF (rgF R x.b)) := HT.out.fbk.ok.rg _
      have hkd := hok.kd
      have hxb := hok.b
      clear hok
      obtain ⟨kd, op, xa, xb, xc, xk⟩ := x
      obtain ⟨c0, c1, c2, c3, c4, c5⟩ := hx
      simp only at c0 c1 c2 c3 c4 c5 hkd hxb HRB
      unfold iv at HGO HPS
      simp only at HGO HPS
      obtain ⟨bx, hbx⟩ : ∃ bx, wr.heap.size = bx := ⟨_, rfl⟩
      have HBX : Hid (wr.heap.size = bx) := hbx
      have HLM : Hid (∀ k, v.ownBlock = some k → k < bx) := fun k hk => by rw [← hbx]; exact (World.ownsRow.lt HT.out.az k hk).2
      have HLL : Hid (l.length ≤ 100000) := by show _ ≤ _; have := HT.out.len; omega
      clear hbx
      go_wp2_with fail
      rw [HBX.out]
      generalize hW : wr.alloc _ = w0
      have HX0 : Hid (w0.heap[bx]? = some (.cells #[.int .i64 kd, .int .i64 op, .int .i64 xa, .int .i64 xb, .int .i64 xc, .int .i64 xk] 53)) := by show _ = _; rw [← hW, ← HBX.out]; exact heap_alloc_new _ _
      have HB0 : Hid (Below wr.heap.size wr w0) := by show Below _ _ _; rw [← hW]; exact bl1 _ _
      clear hW c0 c1 c2 c3 c4 c5
      have HF0 : Hid (FB w0 fb R) := HT.out.fbk.below HB0.out
      have HA0 : Hid (AZ w0 (fb + 1) v l) := HT.out.az.below HB0.out
      have HBW : Hid (Below w.heap.size w w0) := HT.out.bl.trans (HB0.out.mono HT.out.bl.size)
      by_cases hgo : goB R ⟨kd, op, xa, xb, xc, xk⟩ = true
      · rw [hgo] at HGO
        have HG : Hid (goB R ⟨kd, op, xa, xb, xc, xk⟩ = true) := hgo
        clear hgo
        refine (HGO.out _ HF0.out).mono ?_
        rintro e w2 ⟨rfl, hb2⟩
        have HF2 : Hid (FB w2 fb R) := HF0.out.below hb2
        have HA2 : Hid (AZ w2 (fb + 1) v l) := HA0.out.below hb2
        have HZ0 : Hid (bx < w0.heap.size) := (Array.getElem?_eq_some_iff.1 HX0.out).1
        have HX2 : Hid (w2.heap[bx]? = some (.cells #[.int .i64 kd, .int .i64 op, .int .i64 xa, .int .i64 xb, .int .i64 xc, .int .i64 xk] 53)) := (hb2.block bx HZ0.out).trans HX0.out
        have HB2 : Hid (Below w.heap.size w w2) := HBW.out.trans (hb2.mono HBW.out.size)
        have HSZ : Hid (fb < w2.heap.size ∧ bx < w2.heap.size) := ⟨HF2.out.lt, (Array.getElem?_eq_some_iff.1 HX2.out).1⟩
        have k0 : w2.cell? ⟨bx, 0, none⟩ = some (.int .i64 kd) := (cell_of_row _ _ 0 _ _ _ HX2.out).trans rfl
        have k1 : w2.cell? ⟨bx, 1, none⟩ = some (.int .i64 op) := (cell_of_row _ _ 1 _ _ _ HX2.out).trans rfl
        have k2 : w2.cell? ⟨bx, 2, none⟩ = some (.int .i64 xa) := (cell_of_row _ _ 2 _ _ _ HX2.out).trans rfl
        have k3 : w2.cell? ⟨bx, 3, none⟩ = some (.int .i64 xb) := (cell_of_row _ _ 3 _ _ _ HX2.out).trans rfl
        have k4 : w2.cell? ⟨bx, 4, none⟩ = some (.int .i64 xc) := (cell_of_row _ _ 4 _ _ _ HX2.out).trans rfl
        have k5 : w2.cell? ⟨bx, 5, none⟩ = some (.int .i64 xk) := (cell_of_row _ _ 5 _ _ _ HX2.out).trans rfl
        clear hb2
        by_cases h67 : kd = 6 ∨ kd = 7
        · obtain ⟨p, rfl⟩ : ∃ p : Nat, xb = p := ⟨xb.toNat, by omega⟩
          have hp : p < 16 := by omega
          obtain ⟨gf, hgf⟩ : ∃ g, rgF R (p : Int) = g := ⟨_, rfl⟩
          have HGE : Hid (rgF R (p : Int) = gf) := hgf
          have HMV : Hid (∀ W, Calls Try.prog 26 #[fv gf, .int .i64 xk] W (FP (movedF gf xk) W)) := fun W => moved_any gf (hgf ▸ HF2.out.ok.rg _) xk W
          obtain ⟨g0, g1, g2⟩ := HF2.out.c p hp
          rw [hgf] at g0 g1 g2
          have HAC : Hid (∀ z, kd = 6 ∧ z = false ∨ kd = 7 ∧ z = true → accF R ⟨kd, op, xa, (p : Int), xc, xk⟩ = [(z, movedF gf xk)]) := by
            intro z hz
            unfold accF
            simp only
            rcases hz with ⟨rfl, rfl⟩ | ⟨rfl, rfl⟩
            · rw [if_pos rfl, hgf]
            · rw [if_neg (by decide), if_pos rfl, hgf]
          clear hgf HRB hkd
          generalize movedF gf xk = mf at HMV HAC
          obtain ⟨bk, ba, bc⟩ := gf
          obtain ⟨mk, ma, mc⟩ := mf
          unfold fv at HMV
          simp only at g0 g1 g2 HMV
          rcases h67 with rfl | rfl
          · have HAC2 : Hid (accF R ⟨6, op, xa, (p : Int), xc, xk⟩ = [(false, ⟨mk, ma, mc⟩)]) := HAC.out false (.inl ⟨rfl, rfl⟩)
            go_wp2_with fail
            refine WE.start (fun w' => w'.cell? ⟨bx, 0, none⟩ = some (.int .i64 6) ∧ w'.cell? ⟨bx, 3, none⟩ = some (.int .i64 (p : Int)) ∧ w'.cell? ⟨bx, 5, none⟩ = some (.int .i64 xk) ∧ w'.cell? ⟨fb, p * 3, none⟩ = some (.bool bk) ∧ w'.cell? ⟨fb, p * 3 + 1, none⟩ = some (.int .i64 ba) ∧ w'.cell? ⟨fb, p * 3 + 2, none⟩ = some (.int .i64 bc)) 16 17 #[false, false, false, false, false, false, false, false, false, false, false, false, false, false, false, false, false] rfl rfl (by kernel_rfl) ⟨k0, k3, k5, g0, g1, g2⟩ (fun hS => ?_)
            refine WE.take (i := 0) (v := ?_) rfl (by kernel_rfl) (fun _ _ _ h => h) (Or.inl ⟨by rfl, ?_⟩) hS ?_
            rotate_left
            · intro w1 hSw; obtain ⟨s0, s1, s2, s3, s4, s5⟩ := hSw; go_simp; first | done | rfl
            try simp only [List.getElem_toArray, List.getElem_cons_zero, List.getElem_cons_succ, Act.put, List.setIfInBounds_toArray, List.set_cons_zero, List.set_cons_succ]
            refine WE.take (i := 1) (v := ?_) rfl (by kernel_rfl) (fun _ _ _ h => h) (Or.inl ⟨by rfl, ?_⟩) hS ?_
            rotate_left
            · intro w1 hSw; obtain ⟨s0, s1, s2, s3, s4, s5⟩ := hSw; go_simp; first | done | rfl
            try simp only [List.getElem_toArray, List.getElem_cons_zero, List.getElem_cons_succ, Act.put, List.setIfInBounds_toArray, List.set_cons_zero, List.set_cons_succ]
            refine WE.take (i := 2) (v := ?_) rfl (by kernel_rfl) (fun _ _ _ h => h) (Or.inl ⟨by rfl, ?_⟩) hS ?_
            rotate_left
            · intro w1 hSw; obtain ⟨s0, s1, s2, s3, s4, s5⟩ := hSw; go_simp; first | done | rfl
            try simp only [List.getElem_toArray, List.getElem_cons_zero, List.getElem_cons_succ, Act.put, List.setIfInBounds_toArray, List.set_cons_zero, List.set_cons_succ]
            refine WE.take (i := 3) (v := ?_) rfl (by kernel_rfl) (fun _ _ _ h => h) (Or.inl ⟨by rfl, ?_⟩) hS ?_
            rotate_left
            · intro w1 hSw; obtain ⟨s0, s1, s2, s3, s4, s5⟩ := hSw; go_simp; first | done | rfl
            try simp only [List.getElem_toArray, List.getElem_cons_zero, List.getElem_cons_succ, Act.put, List.setIfInBounds_toArray, List.set_cons_zero, List.set_cons_succ]
            refine WE.take (i := 4) (v := ?_) rfl (by kernel_rfl) (fun _ _ _ h => h) (Or.inl ⟨by rfl, ?_⟩) hS ?_
            rotate_left
            · intro w1 hSw; obtain ⟨s0, s1, s2, s3, s4, s5⟩ := hSw; go_simp; first | done | rfl
            try simp only [List.getElem_toArray, List.getElem_cons_zero, List.getElem_cons_succ, Act.put, List.setIfInBounds_toArray, List.set_cons_zero, List.set_cons_succ]
            refine WE.take (i := 5) (v := ?_) rfl (by kernel_rfl) (fun _ _ _ h => h) (Or.inl ⟨by rfl, ?_⟩) hS ?_
            rotate_left
            · intro w1 hSw; obtain ⟨s0, s1, s2, s3, s4, s5⟩ := hSw; go_simp; first | done | rfl
            try simp only [List.getElem_toArray, List.getElem_cons_zero, List.getElem_cons_succ, Act.put, List.setIfInBounds_toArray, List.set_cons_zero, List.set_cons_succ]
            refine WE.take (i := 6) (v := ?_) rfl (by kernel_rfl) (fun _ _ _ h => h) (Or.inl ⟨by rfl, ?_⟩) hS ?_
            rotate_left
            · intro w1 hSw; obtain ⟨s0, s1, s2, s3, s4, s5⟩ := hSw; go_simp; first | done | rfl
            try simp only [List.getElem_toArray, List.getElem_cons_zero, List.getElem_cons_succ, Act.put, List.setIfInBounds_toArray, List.set_cons_zero, List.set_cons_succ]
            refine WE.take (i := 7) (v := ?_) rfl (by kernel_rfl) (fun _ _ _ h => h) (Or.inl ⟨by rfl, ?_⟩) hS ?_
            rotate_left
            · intro w1 hSw; obtain ⟨s0, s1, s2, s3, s4, s5⟩ := hSw; go_simp; first | done | rfl
            try simp only [List.getElem_toArray, List.getElem_cons_zero, List.getElem_cons_succ, Act.put, List.setIfInBounds_toArray, List.set_cons_zero, List.set_cons_succ]
            refine WE.take (i := 8) (v := ?_) rfl (by kernel_rfl) (fun _ _ _ h => h) (Or.inl ⟨by rfl, ?_⟩) hS ?_
            rotate_left
            · intro w1 hSw; obtain ⟨s0, s1, s2, s3, s4, s5⟩ := hSw; go_simp; first | done | rfl
            try simp only [List.getElem_toArray, List.getElem_cons_zero, List.getElem_cons_succ, Act.put, List.setIfInBounds_toArray, List.set_cons_zero, List.set_cons_succ]
            refine WE.take (i := 9) (v := ?_) rfl (by kernel_rfl) (fun _ _ _ h => h) (Or.inl ⟨by rfl, ?_⟩) hS ?_
            rotate_left
            · intro w1 hSw; obtain ⟨s0, s1, s2, s3, s4, s5⟩ := hSw; go_simp; first | done | rfl
            try simp only [List.getElem_toArray, List.getElem_cons_zero, List.getElem_cons_succ, Act.put, List.setIfInBounds_toArray, List.set_cons_zero, List.set_cons_succ]
            refine WE.take (i := 10) (v := ?_) rfl (by kernel_rfl) (fun _ _ _ h => h) (Or.inl ⟨by rfl, ?_⟩) hS ?_
            rotate_left
            · intro w1 hSw; obtain ⟨s0, s1, s2, s3, s4, s5⟩ := hSw; go_simp; first | done | rfl
            try simp only [List.getElem_toArray, List.getElem_cons_zero, List.getElem_cons_succ, Act.put, List.setIfInBounds_toArray, List.set_cons_zero, List.set_cons_succ]
            refine WE.take (i := 11) (v := ?_) rfl (by kernel_rfl) (fun _ _ _ h => h) (Or.inl ⟨by rfl, ?_⟩) hS ?_
            rotate_left
            · intro w1 hSw; obtain ⟨s0, s1, s2, s3, s4, s5⟩ := hSw; go_simp; first | done | rfl
            try simp only [List.getElem_toArray, List.getElem_cons_zero, List.getElem_cons_succ, Act.put, List.setIfInBounds_toArray, List.set_cons_zero, List.set_cons_succ]
            refine WE.step (i := 12) rfl (by kernel_rfl) (fun K hK => ?_)
            rw [if_pos (by rfl)]
            go_simp
            refine (HMV.out _).mono ?_
            rintro e w5 ⟨rfl, hb5⟩
            have HF5 : Hid (FB w5 fb R) := HF2.out.drew.below hb5
            have HA5 : Hid (AZ w5 (fb + 1) v l) := (show AZ w2.drew (fb + 1) v l from HA2.out).below hb5
            have HX5 : Hid (w5.heap[bx]? = some (.cells #[.int .i64 6, .int .i64 op, .int .i64 xa, .int .i64 (p : Int), .int .i64 xc, .int .i64 xk] 53)) := (hb5.block bx (show bx < w2.heap.size from HSZ.out.2)).trans HX2.out
            have HB5 : Hid (Below w.heap.size w w5) := (below_drew HB2.out).trans (hb5.mono HB2.out.size)
            have hS5 : (fun w' => w'.cell? ⟨bx, 0, none⟩ = some (.int .i64 6) ∧ w'.cell? ⟨bx, 3, none⟩ = some (.int .i64 (p : Int)) ∧ w'.cell? ⟨bx, 5, none⟩ = some (.int .i64 xk) ∧ w'.cell? ⟨fb, p * 3, none⟩ = some (.bool bk) ∧ w'.cell? ⟨fb, p * 3 + 1, none⟩ = some (.int .i64 ba) ∧ w'.cell? ⟨fb, p * 3 + 2, none⟩ = some (.int .i64 bc)) w5 := by
              have bc : ∀ p v, w2.drew.cell? p = some v → w5.cell? p = some v := fun p v hp => (hb5.cell (p := p) (World.block_lt_of_cell? _ _ hp)).trans hp
              obtain ⟨s0, s1, s2, s3, s4, s5⟩ := hS
              exact ⟨bc _ _ s0, bc _ _ s1, bc _ _ s2, bc _ _ s3, bc _ _ s4, bc _ _ s5⟩
            have HZ5 : Hid (bx < w5.heap.size ∧ fb < w5.heap.size) := ⟨(Array.getElem?_eq_some_iff.1 HX5.out).1, HF5.out.lt⟩
            refine hK _ _ hS5 ?_
            clear hK K hS hb5
            have hS := hS5
            clear hS5
            unfold fv
            try simp only [List.getElem_toArray, List.getElem_cons_zero, List.getElem_cons_succ, Act.put, List.setIfInBounds_toArray, List.set_cons_zero, List.set_cons_succ]
            refine WE.take (i := 13) (v := ?_) rfl (by kernel_rfl) (fun _ _ _ h => h) (Or.inl ⟨by rfl, ?_⟩) hS ?_
            rotate_left
            · intro w1 hSw; obtain ⟨s0, s1, s2, s3, s4, s5⟩ := hSw; go_simp; first | done | rfl
            try simp only [List.getElem_toArray, List.getElem_cons_zero, List.getElem_cons_succ, Act.put, List.setIfInBounds_toArray, List.set_cons_zero, List.set_cons_succ]
            refine WE.step (i := 14) rfl (by kernel_rfl) (fun K hK => ?_)
            rw [if_pos (by rfl)]
            go_simp
            generalize hW : w5.alloc _ = w6
            have HN6 : Hid (w6.heap[w5.heap.size]? = some (.cells #[.bool false, .bool mk, .int .i64 ma, .int .i64 mc] 32)) := by show _ = _; rw [← hW]; exact heap_alloc_new _ _
            have HBB : Hid (Below w5.heap.size w5 w6) := by show Below _ _ _; rw [← hW]; exact bl1 _ _
            clear hW
            have HF6 : Hid (FB w6 fb R) := HF5.out.below HBB.out
            have HA6 : Hid (AZ w6 (fb + 1) v l) := HA5.out.below HBB.out
            have HX6 : Hid (w6.heap[bx]? = some (.cells #[.int .i64 6, .int .i64 op, .int .i64 xa, .int .i64 (p : Int), .int .i64 xc, .int .i64 xk] 53)) := (HBB.out.block bx HZ5.out.1).trans HX5.out
            have HB6 : Hid (Below w.heap.size w w6) := HB5.out.trans (HBB.out.mono HB5.out.size)
            have HL6 : Hid (∀ k, v.ownBlock = some k → k < bx) := HLM.out
            have HZ6 : Hid (bx < w6.heap.size ∧ fb < w6.heap.size) := ⟨(Array.getElem?_eq_some_iff.1 HX6.out).1, HF6.out.lt⟩
            have hS6 : (fun w' => w'.cell? ⟨bx, 0, none⟩ = some (.int .i64 6) ∧ w'.cell? ⟨bx, 3, none⟩ = some (.int .i64 (p : Int)) ∧ w'.cell? ⟨bx, 5, none⟩ = some (.int .i64 xk) ∧ w'.cell? ⟨fb, p * 3, none⟩ = some (.bool bk) ∧ w'.cell? ⟨fb, p * 3 + 1, none⟩ = some (.int .i64 ba) ∧ w'.cell? ⟨fb, p * 3 + 2, none⟩ = some (.int .i64 bc)) w6 := by
              have bc : ∀ p v, w5.cell? p = some v → w6.cell? p = some v := fun p v hp => (HBB.out.cell (p := p) (World.block_lt_of_cell? _ _ hp)).trans hp
              obtain ⟨s0, s1, s2, s3, s4, s5⟩ := hS
              exact ⟨bc _ _ s0, bc _ _ s1, bc _ _ s2, bc _ _ s3, bc _ _ s4, bc _ _ s5⟩
            refine hK _ _ hS6 ?_
            clear hK K hS
            have hS := hS6
            clear hS6
            try simp only [List.getElem_toArray, List.getElem_cons_zero, List.getElem_cons_succ, Act.put, List.setIfInBounds_toArray, List.set_cons_zero, List.set_cons_succ]
            refine WE.step (i := 15) rfl (by kernel_rfl) (fun K hK => ?_)
            rw [if_pos (by rfl)]
            refine push_acc w6 (.tmp 27) (.tmp 41) rfl (fb + 1) v l false ⟨mk, ma, mc⟩ rfl HA6.out w5.heap.size rfl HN6.out HLL.out (by have := HZ6.out.2; omega) bx HL6.out ?_
            intro v' w7 hA7 hG7
            have HA7 : Hid (AZ w7 (fb + 1) v' (l ++ [(false, ⟨mk, ma, mc⟩)])) := hA7
            have HF7 : Hid (FB w7 fb R) := ⟨HF6.out.ok, (hG7.bl.block fb (by omega)).trans HF6.out.blk⟩
            have HX7 : Hid (w7.heap[bx]? = some (.cells #[.int .i64 6, .int .i64 op, .int .i64 xa, .int .i64 (p : Int), .int .i64 xc, .int .i64 xk] 53)) := (hG7.keep bx (Nat.le_refl _) HZ6.out.1).trans HX6.out
            have HB7 : Hid (Below w.heap.size w w7) := HB6.out.trans (hG7.bl.mono (by have := HFW.out; omega))
            have hS7 : (fun w' => w'.cell? ⟨bx, 0, none⟩ = some (.int .i64 6) ∧ w'.cell? ⟨bx, 3, none⟩ = some (.int .i64 (p : Int)) ∧ w'.cell? ⟨bx, 5, none⟩ = some (.int .i64 xk) ∧ w'.cell? ⟨fb, p * 3, none⟩ = some (.bool bk) ∧ w'.cell? ⟨fb, p * 3 + 1, none⟩ = some (.int .i64 ba) ∧ w'.cell? ⟨fb, p * 3 + 2, none⟩ = some (.int .i64 bc)) w7 := by
              obtain ⟨q0, q1, q2⟩ := HF7.out.c p hp
              rw [HGE.out] at q0 q1 q2
              exact ⟨(cell_of_row _ _ 0 _ _ _ HX7.out).trans rfl, (cell_of_row _ _ 3 _ _ _ HX7.out).trans rfl, (cell_of_row _ _ 5 _ _ _ HX7.out).trans rfl, q0, q1, q2⟩
            refine hK _ _ hS7 ?_
            clear hK K hS hA7 hG7
            clear hS7
            try simp only [List.getElem_toArray, List.getElem_cons_zero, List.getElem_cons_succ, Act.put, List.setIfInBounds_toArray, List.set_cons_zero, List.set_cons_succ]
            refine WE.last rfl (by kernel_rfl) (fun K hK => ?_)
            rw [if_pos (by rfl)]
            go_simp
            refine hK _ _ ?_
            clear hK K
            have x0 : w7.cell? ⟨bx, 0, none⟩ = some (.int .i64 6) := (cell_of_row _ _ 0 _ _ _ HX7.out).trans rfl
            have x1 : w7.cell? ⟨bx, 1, none⟩ = some (.int .i64 op) := (cell_of_row _ _ 1 _ _ _ HX7.out).trans rfl
            have x2 : w7.cell? ⟨bx, 2, none⟩ = some (.int .i64 xa) := (cell_of_row _ _ 2 _ _ _ HX7.out).trans rfl
            have x3 : w7.cell? ⟨bx, 3, none⟩ = some (.int .i64 (p : Int)) := (cell_of_row _ _ 3 _ _ _ HX7.out).trans rfl
            have x4 : w7.cell? ⟨bx, 4, none⟩ = some (.int .i64 xc) := (cell_of_row _ _ 4 _ _ _ HX7.out).trans rfl
            have x5 : w7.cell? ⟨bx, 5, none⟩ = some (.int .i64 xk) := (cell_of_row _ _ 5 _ _ _ HX7.out).trans rfl
            have hS7 := trivial
            go_wp2_with fail
            refine (HPS.out _ HF7.out).mono ?_
            rintro e w8 ⟨rfl, hf8, hc8⟩
            have HT8 : Hid (TI w fb N L res (i + 1) (passF R ⟨6, op, xa, (p : Int), xc, xk⟩) (l ++ [(false, ⟨mk, ma, mc⟩)]) v' w8) :=
              TI.next HT.out HG.out HXI.out (by rw [HAC2.out]) hf8 HA7.out HB7.out hc8 HFW.out HF7.out.lt
            clear hf8 hc8
            go_wp2_with fail
            go_roundw
            case rel => exact ⟨i + 1, _, _, _, by go_num, rfl, by omega, HT8⟩
            case measure => simp [intOf]; omega
          · have HAC2 : Hid (accF R ⟨7, op, xa, (p : Int), xc, xk⟩ = [(true, ⟨mk, ma, mc⟩)]) := HAC.out true (.inr ⟨rfl, rfl⟩)
            go_wp2_with fail
            refine WE.start (fun w' => w'.cell? ⟨bx, 0, none⟩ = some (.int .i64 7) ∧ w'.cell? ⟨bx, 3, none⟩ = some (.int .i64 (p : Int)) ∧ w'.cell? ⟨bx, 5, none⟩ = some (.int .i64 xk) ∧ w'.cell? ⟨fb, p * 3, none⟩ = some (.bool bk) ∧ w'.cell? ⟨fb, p * 3 + 1, none⟩ = some (.int .i64 ba) ∧ w'.cell? ⟨fb, p * 3 + 2, none⟩ = some (.int .i64 bc)) 16 17 #[false, false, false, false, false, false, false, false, false, false, false, false, false, false, false, false, false] rfl rfl (by kernel_rfl) ⟨k0, k3, k5, g0, g1, g2⟩ (fun hS => ?_)
            refine WE.take (i := 0) (v := ?_) rfl (by kernel_rfl) (fun _ _ _ h => h) (Or.inl ⟨by rfl, ?_⟩) hS ?_
            rotate_left
            · intro w1 hSw; obtain ⟨s0, s1, s2, s3, s4, s5⟩ := hSw; go_simp; first | done | rfl
            try simp only [List.getElem_toArray, List.getElem_cons_zero, List.getElem_cons_succ, Act.put, List.setIfInBounds_toArray, List.set_cons_zero, List.set_cons_succ]
            refine WE.take (i := 1) (v := ?_) rfl (by kernel_rfl) (fun _ _ _ h => h) (Or.inl ⟨by rfl, ?_⟩) hS ?_
            rotate_left
            · intro w1 hSw; obtain ⟨s0, s1, s2, s3, s4, s5⟩ := hSw; go_simp; first | done | rfl
            try simp only [List.getElem_toArray, List.getElem_cons_zero, List.getElem_cons_succ, Act.put, List.setIfInBounds_toArray, List.set_cons_zero, List.set_cons_succ]
            refine WE.take (i := 2) (v := ?_) rfl (by kernel_rfl) (fun _ _ _ h => h) (Or.inl ⟨by rfl, ?_⟩) hS ?_
            rotate_left
            · intro w1 hSw; obtain ⟨s0, s1, s2, s3, s4, s5⟩ := hSw; go_simp; first | done | rfl
            try simp only [List.getElem_toArray, List.getElem_cons_zero, List.getElem_cons_succ, Act.put, List.setIfInBounds_toArray, List.set_cons_zero, List.set_cons_succ]
            refine WE.take (i := 3) (v := ?_) rfl (by kernel_rfl) (fun _ _ _ h => h) (Or.inl ⟨by rfl, ?_⟩) hS ?_
            rotate_left
            · intro w1 hSw; obtain ⟨s0, s1, s2, s3, s4, s5⟩ := hSw; go_simp; first | done | rfl
            try simp only [List.getElem_toArray, List.getElem_cons_zero, List.getElem_cons_succ, Act.put, List.setIfInBounds_toArray, List.set_cons_zero, List.set_cons_succ]
            refine WE.take (i := 4) (v := ?_) rfl (by kernel_rfl) (fun _ _ _ h => h) (Or.inl ⟨by rfl, ?_⟩) hS ?_
            rotate_left
            · intro w1 hSw; obtain ⟨s0, s1, s2, s3, s4, s5⟩ := hSw; go_simp; first | done | rfl
            try simp only [List.getElem_toArray, List.getElem_cons_zero, List.getElem_cons_succ, Act.put, List.setIfInBounds_toArray, List.set_cons_zero, List.set_cons_succ]
            refine WE.take (i := 5) (v := ?_) rfl (by kernel_rfl) (fun _ _ _ h => h) (Or.inl ⟨by rfl, ?_⟩) hS ?_
            rotate_left
            · intro w1 hSw; obtain ⟨s0, s1, s2, s3, s4, s5⟩ := hSw; go_simp; first | done | rfl
            try simp only [List.getElem_toArray, List.getElem_cons_zero, List.getElem_cons_succ, Act.put, List.setIfInBounds_toArray, List.set_cons_zero, List.set_cons_succ]
            refine WE.take (i := 6) (v := ?_) rfl (by kernel_rfl) (fun _ _ _ h => h) (Or.inl ⟨by rfl, ?_⟩) hS ?_
            rotate_left
            · intro w1 hSw; obtain ⟨s0, s1, s2, s3, s4, s5⟩ := hSw; go_simp; first | done | rfl
            try simp only [List.getElem_toArray, List.getElem_cons_zero, List.getElem_cons_succ, Act.put, List.setIfInBounds_toArray, List.set_cons_zero, List.set_cons_succ]
            refine WE.take (i := 7) (v := ?_) rfl (by kernel_rfl) (fun _ _ _ h => h) (Or.inl ⟨by rfl, ?_⟩) hS ?_
            rotate_left
            · intro w1 hSw; obtain ⟨s0, s1, s2, s3, s4, s5⟩ := hSw; go_simp; first | done | rfl
            try simp only [List.getElem_toArray, List.getElem_cons_zero, List.getElem_cons_succ, Act.put, List.setIfInBounds_toArray, List.set_cons_zero, List.set_cons_succ]
            refine WE.take (i := 8) (v := ?_) rfl (by kernel_rfl) (fun _ _ _ h => h) (Or.inl ⟨by rfl, ?_⟩) hS ?_
            rotate_left
            · intro w1 hSw; obtain ⟨s0, s1, s2, s3, s4, s5⟩ := hSw; go_simp; first | done | rfl
            try simp only [List.getElem_toArray, List.getElem_cons_zero, List.getElem_cons_succ, Act.put, List.setIfInBounds_toArray, List.set_cons_zero, List.set_cons_succ]
            refine WE.take (i := 9) (v := ?_) rfl (by kernel_rfl) (fun _ _ _ h => h) (Or.inl ⟨by rfl, ?_⟩) hS ?_
            rotate_left
            · intro w1 hSw; obtain ⟨s0, s1, s2, s3, s4, s5⟩ := hSw; go_simp; first | done | rfl
            try simp only [List.getElem_toArray, List.getElem_cons_zero, List.getElem_cons_succ, Act.put, List.setIfInBounds_toArray, List.set_cons_zero, List.set_cons_succ]
            refine WE.take (i := 10) (v := ?_) rfl (by kernel_rfl) (fun _ _ _ h => h) (Or.inl ⟨by rfl, ?_⟩) hS ?_
            rotate_left
            · intro w1 hSw; obtain ⟨s0, s1, s2, s3, s4, s5⟩ := hSw; go_simp; first | done | rfl
            try simp only [List.getElem_toArray, List.getElem_cons_zero, List.getElem_cons_succ, Act.put, List.setIfInBounds_toArray, List.set_cons_zero, List.set_cons_succ]
            refine WE.take (i := 11) (v := ?_) rfl (by kernel_rfl) (fun _ _ _ h => h) (Or.inl ⟨by rfl, ?_⟩) hS ?_
            rotate_left
            · intro w1 hSw; obtain ⟨s0, s1, s2, s3, s4, s5⟩ := hSw; go_simp; first | done | rfl
            try simp only [List.getElem_toArray, List.getElem_cons_zero, List.getElem_cons_succ, Act.put, List.setIfInBounds_toArray, List.set_cons_zero, List.set_cons_succ]
            refine WE.step (i := 12) rfl (by kernel_rfl) (fun K hK => ?_)
            rw [if_pos (by rfl)]
            go_simp
            refine (HMV.out _).mono ?_
            rintro e w5 ⟨rfl, hb5⟩
            have HF5 : Hid (FB w5 fb R) := HF2.out.drew.below hb5
            have HA5 : Hid (AZ w5 (fb + 1) v l) := (show AZ w2.drew (fb + 1) v l from HA2.out).below hb5
            have HX5 : Hid (w5.heap[bx]? = some (.cells #[.int .i64 7, .int .i64 op, .int .i64 xa, .int .i64 (p : Int), .int .i64 xc, .int .i64 xk] 53)) := (hb5.block bx (show bx < w2.heap.size from HSZ.out.2)).trans HX2.out
            have HB5 : Hid (Below w.heap.size w w5) := (below_drew HB2.out).trans (hb5.mono HB2.out.size)
            have hS5 : (fun w' => w'.cell? ⟨bx, 0, none⟩ = some (.int .i64 7) ∧ w'.cell? ⟨bx, 3, none⟩ = some (.int .i64 (p : Int)) ∧ w'.cell? ⟨bx, 5, none⟩ = some (.int .i64 xk) ∧ w'.cell? ⟨fb, p * 3, none⟩ = some (.bool bk) ∧ w'.cell? ⟨fb, p * 3 + 1, none⟩ = some (.int .i64 ba) ∧ w'.cell? ⟨fb, p * 3 + 2, none⟩ = some (.int .i64 bc)) w5 := by
              have bc : ∀ p v, w2.drew.cell? p = some v → w5.cell? p = some v := fun p v hp => (hb5.cell (p := p) (World.block_lt_of_cell? _ _ hp)).trans hp
              obtain ⟨s0, s1, s2, s3, s4, s5⟩ := hS
              exact ⟨bc _ _ s0, bc _ _ s1, bc _ _ s2, bc _ _ s3, bc _ _ s4, bc _ _ s5⟩
            have HZ5 : Hid (bx < w5.heap.size ∧ fb < w5.heap.size) := ⟨(Array.getElem?_eq_some_iff.1 HX5.out).1, HF5.out.lt⟩
            refine hK _ _ hS5 ?_
            clear hK K hS hb5
            have hS := hS5
            clear hS5
            unfold fv
            try simp only [List.getElem_toArray, List.getElem_cons_zero, List.getElem_cons_succ, Act.put, List.setIfInBounds_toArray, List.set_cons_zero, List.set_cons_succ]
            refine WE.take (i := 13) (v := ?_) rfl (by kernel_rfl) (fun _ _ _ h => h) (Or.inl ⟨by rfl, ?_⟩) hS ?_
            rotate_left
            · intro w1 hSw; obtain ⟨s0, s1, s2, s3, s4, s5⟩ := hSw; go_simp; first | done | rfl
            try simp only [List.getElem_toArray, List.getElem_cons_zero, List.getElem_cons_succ, Act.put, List.setIfInBounds_toArray, List.set_cons_zero, List.set_cons_succ]
            refine WE.step (i := 14) rfl (by kernel_rfl) (fun K hK => ?_)
            rw [if_pos (by rfl)]
            go_simp
            generalize hW : w5.alloc _ = w6
            have HN6 : Hid (w6.heap[w5.heap.size]? = some (.cells #[.bool true, .bool mk, .int .i64 ma, .int .i64 mc] 32)) := by show _ = _; rw [← hW]; exact heap_alloc_new _ _
            have HBB : Hid (Below w5.heap.size w5 w6) := by show Below _ _ _; rw [← hW]; exact bl1 _ _
            clear hW
            have HF6 : Hid (FB w6 fb R) := HF5.out.below HBB.out
            have HA6 : Hid (AZ w6 (fb + 1) v l) := HA5.out.below HBB.out
            have HX6 : Hid (w6.heap[bx]? = some (.cells #[.int .i64 7, .int .i64 op, .int .i64 xa, .int .i64 (p : Int), .int .i64 xc, .int .i64 xk] 53)) := (HBB.out.block bx HZ5.out.1).trans HX5.out
            have HB6 : Hid (Below w.heap.size w w6) := HB5.out.trans (HBB.out.mono HB5.out.size)
            have HL6 : Hid (∀ k, v.ownBlock = some k → k < bx) := HLM.out
            have HZ6 : Hid (bx < w6.heap.size ∧ fb < w6.heap.size) := ⟨(Array.getElem?_eq_some_iff.1 HX6.out).1, HF6.out.lt⟩
            have hS6 : (fun w' => w'.cell? ⟨bx, 0, none⟩ = some (.int .i64 7) ∧ w'.cell? ⟨bx, 3, none⟩ = some (.int .i64 (p : Int)) ∧ w'.cell? ⟨bx, 5, none⟩ = some (.int .i64 xk) ∧ w'.cell? ⟨fb, p * 3, none⟩ = some (.bool bk) ∧ w'.cell? ⟨fb, p * 3 + 1, none⟩ = some (.int .i64 ba) ∧ w'.cell? ⟨fb, p * 3 + 2, none⟩ = some (.int .i64 bc)) w6 := by
              have bc : ∀ p v, w5.cell? p = some v → w6.cell? p = some v := fun p v hp => (HBB.out.cell (p := p) (World.block_lt_of_cell? _ _ hp)).trans hp
              obtain ⟨s0, s1, s2, s3, s4, s5⟩ := hS
              exact ⟨bc _ _ s0, bc _ _ s1, bc _ _ s2, bc _ _ s3, bc _ _ s4, bc _ _ s5⟩
            refine hK _ _ hS6 ?_
            clear hK K hS
            have hS := hS6
            clear hS6
            try simp only [List.getElem_toArray, List.getElem_cons_zero, List.getElem_cons_succ, Act.put, List.setIfInBounds_toArray, List.set_cons_zero, List.set_cons_succ]
            refine WE.step (i := 15) rfl (by kernel_rfl) (fun K hK => ?_)
            rw [if_pos (by rfl)]
            refine push_acc w6 (.tmp 27) (.tmp 41) rfl (fb + 1) v l true ⟨mk, ma, mc⟩ rfl HA6.out w5.heap.size rfl HN6.out HLL.out (by have := HZ6.out.2; omega) bx HL6.out ?_
            intro v' w7 hA7 hG7
            have HA7 : Hid (AZ w7 (fb + 1) v' (l ++ [(true, ⟨mk, ma, mc⟩)])) := hA7
            have HF7 : Hid (FB w7 fb R) := ⟨HF6.out.ok, (hG7.bl.block fb (by omega)).trans HF6.out.blk⟩
            have HX7 : Hid (w7.heap[bx]? = some (.cells #[.int .i64 7, .int .i64 op, .int .i64 xa, .int .i64 (p : Int), .int .i64 xc, .int .i64 xk] 53)) := (hG7.keep bx (Nat.le_refl _) HZ6.out.1).trans HX6.out
            have HB7 : Hid (Below w.heap.size w w7) := HB6.out.trans (hG7.bl.mono (by have := HFW.out; omega))
            have hS7 : (fun w' => w'.cell? ⟨bx, 0, none⟩ = some (.int .i64 7) ∧ w'.cell? ⟨bx, 3, none⟩ = some (.int .i64 (p : Int)) ∧ w'.cell? ⟨bx, 5, none⟩ = some (.int .i64 xk) ∧ w'.cell? ⟨fb, p * 3, none⟩ = some (.bool bk) ∧ w'.cell? ⟨fb, p * 3 + 1, none⟩ = some (.int .i64 ba) ∧ w'.cell? ⟨fb, p * 3 + 2, none⟩ = some (.int .i64 bc)) w7 := by
              obtain ⟨q0, q1, q2⟩ := HF7.out.c p hp
              rw [HGE.out] at q0 q1 q2
              exact ⟨(cell_of_row _ _ 0 _ _ _ HX7.out).trans rfl, (cell_of_row _ _ 3 _ _ _ HX7.out).trans rfl, (cell_of_row _ _ 5 _ _ _ HX7.out).trans rfl, q0, q1, q2⟩
            refine hK _ _ hS7 ?_
            clear hK K hS hA7 hG7
            clear hS7
            try simp only [List.getElem_toArray, List.getElem_cons_zero, List.getElem_cons_succ, Act.put, List.setIfInBounds_toArray, List.set_cons_zero, List.set_cons_succ]
            refine WE.last rfl (by kernel_rfl) (fun K hK => ?_)
            rw [if_pos (by rfl)]
            go_simp
            refine hK _ _ ?_
            clear hK K
            have x0 : w7.cell? ⟨bx, 0, none⟩ = some (.int .i64 7) := (cell_of_row _ _ 0 _ _ _ HX7.out).trans rfl
            have x1 : w7.cell? ⟨bx, 1, none⟩ = some (.int .i64 op) := (cell_of_row _ _ 1 _ _ _ HX7.out).trans rfl
            have x2 : w7.cell? ⟨bx, 2, none⟩ = some (.int .i64 xa) := (cell_of_row _ _ 2 _ _ _ HX7.out).trans rfl
            have x3 : w7.cell? ⟨bx, 3, none⟩ = some (.int .i64 (p : Int)) := (cell_of_row _ _ 3 _ _ _ HX7.out).trans rfl
            have x4 : w7.cell? ⟨bx, 4, none⟩ = some (.int .i64 xc) := (cell_of_row _ _ 4 _ _ _ HX7.out).trans rfl
            have x5 : w7.cell? ⟨bx, 5, none⟩ = some (.int .i64 xk) := (cell_of_row _ _ 5 _ _ _ HX7.out).trans rfl
            have hS7 := trivial
            go_wp2_with fail
            refine (HPS.out _ HF7.out).mono ?_
            rintro e w8 ⟨rfl, hf8, hc8⟩
            have HT8 : Hid (TI w fb N L res (i + 1) (passF R ⟨7, op, xa, (p : Int), xc, xk⟩) (l ++ [(true, ⟨mk, ma, mc⟩)]) v' w8) :=
              TI.next HT.out HG.out HXI.out (by rw [HAC2.out]) hf8 HA7.out HB7.out hc8 HFW.out HF7.out.lt
            clear hf8 hc8
            go_wp2_with fail
            go_roundw
            case rel => exact ⟨i + 1, _, _, _, by go_num, rfl, by omega, HT8⟩
            case measure => simp [intOf]; omega
        · have e6 : (kd == 6) = false := by simp; omega
          have e7 : (kd == 7) = false := by simp; omega
          have HAC2 : Hid (accF R ⟨kd, op, xa, xb, xc, xk⟩ = []) := by
            show _ = _
            unfold accF
            simp only
            rw [if_neg (by omega), if_neg (by omega)]
          clear h67 hkd hxb HRB
          go_wp2_with fail
          refine (HPS.out _ HF2.out).mono ?_
          rintro e w8 ⟨rfl, hf8, hc8⟩
          have HT8 : Hid (TI w fb N L res (i + 1) (passF R ⟨kd, op, xa, xb, xc, xk⟩) l v w8) :=
            TI.next HT.out HG.out HXI.out (by rw [HAC2.out, List.append_nil]) hf8 HA2.out HB2.out hc8 HFW.out HF2.out.lt
          clear hf8 hc8
          go_wp2_with fail
          go_roundw
          case rel => exact ⟨i + 1, _, _, _, by go_num, rfl, by omega, HT8⟩
          case measure => simp [intOf]; omega
      · have hgo' : goB R ⟨kd, op, xa, xb, xc, xk⟩ = false := by simpa using hgo
        rw [hgo'] at HGO
        have HRS : Hid (res = none) := by
          show _ = _
          obtain ⟨hi2, hx2⟩ := HXI.out
          rw [← HT.out.eq, toldF_drop R L i hi2, hx2, if_neg hgo]
        clear hgo hgo'
        refine (HGO.out _ HF0.out).mono ?_
        rintro e w2 ⟨rfl, hb2⟩
        have HB2 : Hid (Below w.heap.size w w2) := HBW.out.trans (hb2.mono HBW.out.size)
        have HF : Hid (P (.returned (.tuple #[.slice none 0 0, .bool false])) w2) := by
          show P _ _
          rw [← HP.out, HRS.out]
          exact ⟨HB2.out, rfl⟩
        clear hb2
        go_wp2_with fail
        first | exact HF.out | (go_ret2; exact HF.out)
    · have HRS : Hid (res = some l) := by
        show _ = _
        rw [← HT.out.eq, List.drop_of_length_le (by rw [HN.out]; omega)]
        simp [toldF]
      have HAZ : Hid (AZ wr w.heap.size v l) := by
        have := HFW.out
        exact HT.out.az.mono (by omega)
      have HF : Hid (P (.returned (.tuple #[v, .bool true])) wr) := by
        show P _ _
        rw [← HP.out, HRS.out]
        exact ⟨HT.out.bl, _, rfl, HAZ.out⟩
      go_wp2_with fail
      first | exact HF.out | (go_ret2; exact HF.out)
end Go.Proofs.Ytcaefimnhoeimaa
