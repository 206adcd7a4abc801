/- What the document's Encode answers. -/
import Derived.Test.YthcidcfaodjbjaaEnc
import Derived.Test.YthcidcfaodjbjaaRefC
import Derived.Test.YthcidcfaodjbjaaPWant
namespace Go.Proofs.Ythcidcfaodjbjaa
open Go.RowKit
set_option linter.unusedVariables false
set_option linter.unusedSimpArgs false

def isR (c : UInt8) : Prop := c = 111 ∨ c = 112 ∨ c = 97 ∨ c = 98 ∨ c = 99 ∨ c = 114 ∨ c = 107 ∨ c = 116
def okR (s : ByteArray) : Prop := ∀ i (h : i < s.size), isR s[i]
theorem okR_of (s : ByteArray) (h : s.data.toList.all (fun c => c == 111 || (c == 112 || (c == 97 || (c == 98 || (c == 99 || (c == 114 || (c == 107 || c == 116))))))) = true) : okR s := by
  intro i hi
  have h2 : i < s.data.toList.length := by simpa using hi
  have := List.all_eq_true.1 h _ (List.getElem_mem h2)
  simp only [Bool.or_eq_true, beq_iff_eq] at this
  exact this
/-- a part's bytes, by the document's letters -/
def partR (x : In) (c : UInt8) : List UInt8 :=
  if c = 111 ∨ c = 112 then uintB x.op.toNat else if c = 97 then uintB x.a.toNat else if c = 98 then uintB x.b.toNat else if c = 99 ∨ c = 114 then uintB x.c.toNat else uintB (zig x.k)
def partsR (x : In) (L : List UInt8) : List UInt8 := L.flatMap (partR x)
theorem partsR_next (x : In) (s : ByteArray) (p : Nat) (h : p < s.size) : partsR x (s.data.toList.take (p + 1)) = partsR x (s.data.toList.take p) ++ partR x s[p] := by
  rw [take_next s p h]; unfold partsR; simp
theorem partR_len (x : In) (c : UInt8) : (partR x c).length ≤ 10 := by
  unfold partR
  (repeat' split) <;> exact uintF_len 9 _
theorem partsR_len (x : In) (L : List UInt8) : (partsR x L).length ≤ 10 * L.length := by
  unfold partsR
  induction L with
  | nil => simp
  | cons c L ih => have := partR_len x c; simp only [List.flatMap_cons, List.length_append, List.length_cons]; omega
set_option maxRecDepth 100000 in
/-- of each kind the document's letters say the same bytes -/
theorem refParts_pos (x : In) (h : 1 ≤ x.kind ∧ x.kind ≤ 13) : ∃ s : ByteArray, okR s ∧ s.size ≤ 4 ∧ partsR x s.data.toList = partsB x ((lets x.kind).getD ⟨#[]⟩).data.toList ∧ ∀ w, Calls Try.prog 30 #[.int .i64 x.kind] w fun e w' => e = .returned (.string s) ∧ Below w.heap.size w w' := by
  obtain ⟨n, op, a, b, c, k⟩ := x
  have : n = 1 ∨ n = 2 ∨ n = 3 ∨ n = 4 ∨ n = 5 ∨ n = 6 ∨ n = 7 ∨ n = 8 ∨ n = 9 ∨ n = 10 ∨ n = 11 ∨ n = 12 ∨ n = 13 := by simp at h; omega
  rcases this with rfl | rfl | rfl | rfl | rfl | rfl | rfl | rfl | rfl | rfl | rfl | rfl | rfl
  · exact ⟨⟨#[]⟩, okR_of _ (by decide), by decide, by simp [partsR, partsB, partR, partB, lets], fun w => refParts_1 w⟩
  · exact ⟨⟨#[97, 107]⟩, okR_of _ (by decide), by decide, by simp [partsR, partsB, partR, partB, lets], fun w => refParts_2 w⟩
  · exact ⟨⟨#[97, 98]⟩, okR_of _ (by decide), by decide, by simp [partsR, partsB, partR, partB, lets], fun w => refParts_3 w⟩
  · exact ⟨⟨#[112, 97, 98]⟩, okR_of _ (by decide), by decide, by simp [partsR, partsB, partR, partB, lets], fun w => refParts_4 w⟩
  · exact ⟨⟨#[111, 97, 98, 99]⟩, okR_of _ (by decide), by decide, by simp [partsR, partsB, partR, partB, lets], fun w => refParts_5 w⟩
  · exact ⟨⟨#[97, 98, 107]⟩, okR_of _ (by decide), by decide, by simp [partsR, partsB, partR, partB, lets], fun w => refParts_6 w⟩
  · exact ⟨⟨#[97, 98, 107]⟩, okR_of _ (by decide), by decide, by simp [partsR, partsB, partR, partB, lets], fun w => refParts_7 w⟩
  · exact ⟨⟨#[97, 114]⟩, okR_of _ (by decide), by decide, by simp [partsR, partsB, partR, partB, lets], fun w => refParts_8 w⟩
  · exact ⟨⟨#[97]⟩, okR_of _ (by decide), by decide, by simp [partsR, partsB, partR, partB, lets], fun w => refParts_9 w⟩
  · exact ⟨⟨#[116]⟩, okR_of _ (by decide), by decide, by simp [partsR, partsB, partR, partB, lets], fun w => refParts_10 w⟩
  · exact ⟨⟨#[97, 116]⟩, okR_of _ (by decide), by decide, by simp [partsR, partsB, partR, partB, lets], fun w => refParts_11 w⟩
  · exact ⟨⟨#[97, 116]⟩, okR_of _ (by decide), by decide, by simp [partsR, partsB, partR, partB, lets], fun w => refParts_12 w⟩
  · exact ⟨⟨#[97]⟩, okR_of _ (by decide), by decide, by simp [partsR, partsB, partR, partB, lets], fun w => refParts_13 w⟩
theorem ruintI (n : Int) (w : World) (h0 : 0 ≤ n) (h1 : n ≤ 1000) : Calls Try.prog 41 #[.int .u64 n] w fun e w' => NewPost w (uintB n.toNat) e w' := by
  have := ruint n.toNat w (by omega)
  rw [show ((n.toNat : Nat) : Int) = n by omega] at this
  exact this
/-- an instruction's block, that holds nothing but it -/
structure XB (w : World) (xb : Nat) (x : In) : Prop where
  hx : Six w xb x
  ho : ∃ c fz, w.heap[xb]? = some (.cells c 25 fz)
theorem XB.new (w : World) (x : In) : XB (w.alloc (.cells #[.int .i64 x.kind, .int .i64 x.op, .int .i64 x.a, .int .i64 x.b, .int .i64 x.c, .int .i64 x.k] 25)) w.heap.size x := ⟨Six.new w x, _, _, heap_new w _⟩
theorem XB.kept {w w' : World} {xb : Nat} {x : In} (h : XB w xb x) (k : Lib.OthersKept 5 none w w') (hs : w.heap.size ≤ w'.heap.size) : XB w' xb x := by
  obtain ⟨c, fz, ho⟩ := h.ho
  have hx' := k xb _ ho (fun e => by cases e) (fun c' fz' e => by injection e with _ e; cases e)
  exact ⟨h.hx.block (hx'.trans ho.symm) hs, c, fz, hx'⟩
theorem own_kind' {w : World} {base : Nat} {v : Value} {n : Nat} {xs : List Value} (h : w.ownsRow base 5 1 v n xs) : ∀ g, v.ownBlock = some g → ∃ c fz, w.heap[g]? = some (.cells c 5 fz) := by
  intro g hg
  rcases h.2 with ⟨rfl, _⟩ | ⟨g', cap, cur, rfl, _, hgg, _⟩
  · simp [Value.ownBlock] at hg
  · simp [Value.ownBlock] at hg
    subst hg
    exact ⟨cur, _, hgg⟩
theorem kind_of_one (x : In) (cells long : Int) (h : oneC x cells long = 0) : 1 ≤ x.kind ∧ x.kind ≤ 13 := by
  by_cases hb : x.kind < 1 ∨ 13 < x.kind
  · rw [oneC_none x cells long hb] at h; omega
  · omega

set_option maxRecDepth 100000 in
set_option maxHeartbeats 4000000 in
theorem refEncode_any (l : List In) (cells : Int) (v : Value) (w : World) (hv : ISl w v l) (hr : ∀ x ∈ l, r64 x.k) : Calls Try.prog 19 #[v, .int .i64 cells] w fun e w' => EncPost w l cells e w' := by
  have HV : Hid (ISl w v l) := hv
  have HR : Hid (∀ x ∈ l, r64 x.k) := hr
  obtain ⟨ad, cap, b, o, rfl, h2, h3, h4, h5⟩ := hv
  have H5 : Hid (∀ i (h : i < l.length), IAt w b (o + i * 6) l[i]) := h5
  obtain ⟨i0, hi, hz0, hz1, hz2⟩ := info_parts info5
  unfold maxLen at h3
  clear hr h5
  go_enter Try.func19, Try.ntmps19
  go_wp2_with fail
  refine (refCheck_any l cells _ w HV.out).mono ?_
  rintro e w1 ⟨rfl, b1⟩
  have B1 : Hid (Below w.heap.size w w1) := b1
  clear b1
  obtain ⟨c1, hc1⟩ : ∃ c, (checkL l cells).1 = c := ⟨_, rfl⟩
  obtain ⟨c2, hc2⟩ : ∃ c, (checkL l cells).2 = c := ⟨_, rfl⟩
  rw [hc1, hc2]
  have HC : Hid ((checkL l cells).2 = c2) := hc2
  clear hc1 hc2
  by_cases h0 : c2 = 0
  · subst h0
    obtain ⟨hl1, hl6, hone⟩ := checkL_ok l cells HC.out
    have HONE : Hid (∀ x ∈ l, oneC x cells (l.length : Int) = 0) := hone
    clear hone
    rw [h4 (by omega)]
    rw [h4 (by omega)] at HV
    clear h4
    go_wp2_with fail
    refine (ruint l.length w1 (by omega)).mono ?_
    rintro e w2 ⟨v2, rfl, o2, b2⟩
    have O2 : Hid (Own w2 w.heap.size v2 (uintB l.length)) := o2.mono B1.out.size
    have B2 : Hid (Below w.heap.size w w2) := B1.out.trans (b2.mono B1.out.size)
    clear b2 o2
    obtain ⟨a2, cp2, rfl⟩ : ∃ a c, v2 = .slice a (uintB l.length).length c := rd_sl O2.out.rd
    have hlu : (uintB l.length).length ≤ 10 := uintF_len 9 _
    go_wp2
    go_loopw [8, 9] (fun bv i wr => ∃ (k : Nat) (a : Option Addr) (c : Nat), k ≤ l.length ∧ i = .int .i64 k ∧ bv = .slice a (uintB l.length ++ rowB (l.take k)).length c ∧ Hid (Own wr w.heap.size (.slice a (uintB l.length ++ rowB (l.take k)).length c) (uintB l.length ++ rowB (l.take k))) ∧ Hid (Below w.heap.size w wr)) (fun _ i _ => l.length - (intOf i).toNat)
    case atStart =>
      refine ⟨0, a2, cp2, Nat.zero_le _, rfl, ?_, ?_, B2⟩
      · rw [List.take_zero]; show _ = Value.slice a2 (_ ++ []).length cp2; rw [List.append_nil]
      · show Own _ _ _ _; rw [List.take_zero]; show Own _ _ (Value.slice a2 (_ ++ []).length cp2) (_ ++ []); rw [List.append_nil]; exact O2.out
    case round =>
      obtain ⟨k, a, c, hk, rfl, rfl, HO, HB⟩ := hrel
      by_cases hlt : k < l.length
      · have hx : IAt wr b (o + k * 6) l[k] := (H5.out k hlt).block (HB.out.block b (H5.out k hlt).lt)
        have hm : l[k] ∈ l := List.getElem_mem hlt
        have HPOS : Hid (Pos l[k]) := pos_of_one _ cells (l.length : Int) (HONE.out _ hm) (HR.out _ hm)
        have hkd := kind_of_one _ cells (l.length : Int) (HONE.out _ hm)
        have HN : Hid (rowB (l.take (k + 1)) = rowB (l.take k) ++ insB l[k]) := rowB_next l k hlt
        obtain ⟨x, hxe⟩ : ∃ x, l[k] = x := ⟨_, rfl⟩
        rw [hxe] at hx HN HPOS hkd
        obtain ⟨x0, x1, x2, x3, x4, x5⟩ := hx
        have hlen : (uintB l.length ++ rowB (l.take k)).length ≤ 100000 := by
          have h1 := rowB_len (l.take k)
          rw [List.length_append]
          simp only [List.length_take] at h1
          omega
        obtain ⟨hpk, hpo, hpa, hpb, hpc, hkk1, hkk2⟩ := HPOS.out
        obtain ⟨s, hs1, hs2, hs3, hs4⟩ := refParts_pos x hkd
        obtain ⟨Q, hQ⟩ : ∃ Q, uintB l.length ++ rowB (l.take k) = Q := ⟨_, rfl⟩
        have HQ : Hid (uintB l.length ++ rowB (l.take k) = Q) := hQ
        rw [hQ] at HO hlen
        rw [hQ]
        obtain ⟨q, hq⟩ : ∃ q, Q.length = q := ⟨_, rfl⟩
        have HQL : Hid (Q.length = q) := hq
        rw [hq] at HO hlen
        rw [hq]
        have HS1 : Hid (okR s) := hs1
        have HS3 : Hid (partsR x s.data.toList = partsB x ((lets x.kind).getD ⟨#[]⟩).data.toList) := hs3
        have HS4 : Hid (∀ w, Calls Try.prog 30 #[.int .i64 x.kind] w fun e w' => e = .returned (.string s) ∧ Below w.heap.size w w') := hs4
        have hwr : w.heap.size ≤ wr.heap.size := HB.out.size
        clear hxe hm hQ hq hs1 hs3 hs4
        have HX0 : Hid (XB (wr.alloc (.cells #[.int .i64 x.kind, .int .i64 x.op, .int .i64 x.a, .int .i64 x.b, .int .i64 x.c, .int .i64 x.k] 25)) wr.heap.size x) := XB.new wr x
        have HB0 : Hid (Below w.heap.size w (wr.alloc (.cells #[.int .i64 x.kind, .int .i64 x.op, .int .i64 x.a, .int .i64 x.b, .int .i64 x.c, .int .i64 x.k] 25))) := HB.out.alloc hwr _
        have HO0 : Hid (Own (wr.alloc (.cells #[.int .i64 x.kind, .int .i64 x.op, .int .i64 x.a, .int .i64 x.b, .int .i64 x.c, .int .i64 x.k] 25)) w.heap.size (.slice a q c) Q) := HO.out.below ((Below.refl _ _).alloc (Nat.le_refl _) _)
        go_wp2_with fail
        obtain ⟨xb, hxb⟩ : ∃ n, wr.heap.size = n := ⟨_, rfl⟩
        rw [hxb] at HX0 hwr
        rw [hxb]
        obtain ⟨W0, hW0⟩ : ∃ W, wr.alloc (.cells #[.int .i64 x.kind, .int .i64 x.op, .int .i64 x.a, .int .i64 x.b, .int .i64 x.c, .int .i64 x.k] 25) = W := ⟨_, rfl⟩
        rw [hW0] at HX0 HB0 HO0
        rw [hW0]
        clear hxb hW0 x0 x1 x2 x3 x4 x5 HO HB
        refine (ruintI x.kind W0 hpk.1 hpk.2).mono ?_
        rintro e pw4 ⟨pv, rfl, po, pb⟩
        obtain ⟨pg, pc, pe, ps⟩ := po.src (uintB_pos _)
        subst pe
        have pOW : Hid (pw4.ownsRow w.heap.size 5 1 (.slice a q c) q (bc Q)) := by
          have h9 := (HO0.out).below pb
          unfold Own at h9
          rw [HQL.out] at h9
          exact h9
        have pBB : Hid (Below w.heap.size w pw4) := HB0.out.trans (pb.mono HB0.out.size)
        have pX : Hid (XB pw4 xb x) := HX0.out.kept (kept_below pb 5 none) pb.size
        have pSR : Hid (∀ j u, (bc (uintB x.kind.toNat))[j]? = some u → pw4.cell? ((⟨pg, 0, none⟩ : Addr).add j) = some u) := ps
        obtain ⟨pm, phm⟩ : ∃ m, (uintB x.kind.toNat).length = m := ⟨_, rfl⟩
        have pHM : Hid ((uintB x.kind.toNat).length = pm) := phm
        have pml : pm ≤ 10 := by rw [← phm]; exact uintF_len 9 _
        have psz : w.heap.size ≤ pw4.heap.size := pBB.out.size
        rw [phm]
        clear po pb ps phm
        go_wp2_with (at_builtin; refine wpList_append_own _ rfl _ _ 40 rfl w.heap.size 5 i0 (.int .u8 0) 1 1 Try.underlying40 hi hz0 hz1 hz2 rfl (by decide) _ _ _ rfl pOW.out ⟨pg, 0, none⟩ pm pc (bc (uintB x.kind.toNat)) rfl ?p0 pSR.out (bc_one _) ?p3 ?p4 psz ?_)
        case p0 => rw [bc_len, Nat.mul_one]; exact pHM.out
        case p3 => unfold maxLen; omega
        case p4 => omega
        intro pv' pw5 phown phgrow _
        have pO2 : Hid (Own pw5 w.heap.size pv' (Q ++ uintB x.kind.toNat)) := by
          show Own _ _ _ _
          unfold Own
          rw [bc_app, List.length_append, HQL.out, pHM.out]
          exact phown
        have pB2 : Hid (Below w.heap.size w pw5) := pBB.out.grown phgrow psz (fun k hk => (World.ownsRow.lt pOW.out k hk).1)
        have pX2 : Hid (XB pw5 xb x) := pX.out.kept ((Lib.OthersKept.refl _ _ _).grown phgrow (own_kind' pOW.out)) phgrow.size
        obtain ⟨pa2, pc2, pev⟩ : ∃ a c, pv' = .slice a (q + pm) c := by
          rcases phown.2 with ⟨h, h0⟩ | ⟨g, cap', _, h, _⟩
          · exact ⟨none, 0, by rw [h, h0]⟩
          · exact ⟨_, _, h⟩
        subst pev
        clear phown phgrow
        obtain ⟨_, y1, y2, y3, y4, y5, _⟩ := pX2.out.hx
        have y0 := pX2.out.hx.c0
        go_wp2_with (go_at_call 30; refine (HS4.out _).mono ?_)
        rintro e w6 ⟨rfl, b6⟩
        have X6 : Hid (XB w6 xb x) := pX2.out.kept (kept_below b6 5 none) b6.size
        have B6 : Hid (Below w.heap.size w w6) := pB2.out.trans (b6.mono pB2.out.size)
        have O6 : Hid (Own w6 w.heap.size (.slice pa2 (q + pm) pc2) (Q ++ uintB x.kind.toNat)) := pO2.out.below b6
        obtain ⟨Q1, hQ1⟩ : ∃ Q1, Q ++ uintB x.kind.toNat = Q1 := ⟨_, rfl⟩
        have HQ1 : Hid (Q ++ uintB x.kind.toNat = Q1) := hQ1
        have HQ1L : Hid (Q1.length = q + pm) := by show _ = _; rw [← hQ1, List.length_append, HQL.out, pHM.out]
        obtain ⟨q1, hq1⟩ : ∃ n, q + pm = n := ⟨_, rfl⟩
        have hq1l : q1 ≤ 100010 := by omega
        rw [hQ1, hq1] at O6
        rw [hq1] at HQ1L
        rw [hq1]
        clear b6 pO2 pB2 pX2 pX pOW pSR pBB HX0 HB0 HO0 y0 y1 y2 y3 y4 y5 hQ1 hq1
        go_wp2
        go_loopw [8, 12] (fun bv i wq => ∃ (j : Nat) (a : Option Addr) (c : Nat), j ≤ s.size ∧ i = .int .i64 j ∧ bv = .slice a (Q1 ++ partsR x (s.data.toList.take j)).length c ∧ Hid (Own wq w.heap.size (.slice a (Q1 ++ partsR x (s.data.toList.take j)).length c) (Q1 ++ partsR x (s.data.toList.take j))) ∧ Hid (Below w.heap.size w wq) ∧ Hid (XB wq xb x)) (fun _ i _ => s.size - (intOf i).toNat)
        case atStart =>
          refine ⟨0, pa2, pc2, Nat.zero_le _, rfl, ?_, ?_, B6, X6⟩
          · rw [List.take_zero]; show _ = Value.slice pa2 (_ ++ []).length pc2; rw [List.append_nil, HQ1L.out]
          · show Own _ _ _ _; rw [List.take_zero]; show Own _ _ (Value.slice pa2 (_ ++ []).length pc2) (_ ++ []); rw [List.append_nil, HQ1L.out]; exact O6.out
        case round =>
          obtain ⟨j, a', c', hj, rfl, rfl, HOj, HBj, HXj⟩ := hrel
          rename_i wq
          by_cases hjl : j < s.size
          · have hL := HS1.out j hjl
            have HNj : Hid (partsR x (s.data.toList.take (j + 1)) = partsR x (s.data.toList.take j) ++ partR x s[j]) := partsR_next x s j hjl
            have hplen : (Q1 ++ partsR x (s.data.toList.take j)).length ≤ 100100 := by
              have := partsR_len x (s.data.toList.take j)
              rw [List.length_append, HQ1L.out]
              simp only [List.length_take] at this
              omega
            obtain ⟨Q2, hQ2⟩ : ∃ Q, Q1 ++ partsR x (s.data.toList.take j) = Q := ⟨_, rfl⟩
            have HQ2 : Hid (Q1 ++ partsR x (s.data.toList.take j) = Q2) := hQ2
            rw [hQ2] at HOj hplen
            rw [hQ2]
            obtain ⟨q2, hq2⟩ : ∃ n, Q2.length = n := ⟨_, rfl⟩
            have HQ2L : Hid (Q2.length = q2) := hq2
            rw [hq2] at HOj hplen
            rw [hq2]
            obtain ⟨_, x1, x2, x3, x4, x5, _⟩ := HXj.out.hx
            clear hQ2 hq2
            rcases hL with ec | ec | ec | ec | ec | ec | ec | ec
            · have hn : ((s[j]).toNat : Int) = 111 := by rw [ec]; rfl
              rw [ec, show partR x 111 = uintB x.op.toNat from rfl] at HNj
              go_wp2_with fail
              refine (ruintI x.op _ hpo.1 hpo.2).mono ?_
              rintro e raw4 ⟨rav, rfl, rao, rab⟩
              obtain ⟨rag, rac, rae, ras⟩ := rao.src (uintB_pos _)
              subst rae
              have raOW : Hid (raw4.ownsRow w.heap.size 5 1 (.slice a' q2 c') q2 (bc Q2)) := by
                have h9 := (HOj.out).below rab
                unfold Own at h9
                rw [HQ2L.out] at h9
                exact h9
              have raBB : Hid (Below w.heap.size w raw4) := HBj.out.trans (rab.mono HBj.out.size)
              have raX : Hid (XB raw4 xb x) := HXj.out.kept (kept_below rab 5 none) rab.size
              have raSR : Hid (∀ j u, (bc (uintB x.op.toNat))[j]? = some u → raw4.cell? ((⟨rag, 0, none⟩ : Addr).add j) = some u) := ras
              obtain ⟨ram, rahm⟩ : ∃ m, (uintB x.op.toNat).length = m := ⟨_, rfl⟩
              have raHM : Hid ((uintB x.op.toNat).length = ram) := rahm
              have raml : ram ≤ 10 := by rw [← rahm]; exact uintF_len 9 _
              have rasz : w.heap.size ≤ raw4.heap.size := raBB.out.size
              rw [rahm]
              clear rao rab ras rahm
              go_wp2_with (at_builtin; refine wpList_append_own _ rfl _ _ 40 rfl w.heap.size 5 i0 (.int .u8 0) 1 1 Try.underlying40 hi hz0 hz1 hz2 rfl (by decide) _ _ _ rfl raOW.out ⟨rag, 0, none⟩ ram rac (bc (uintB x.op.toNat)) rfl ?ra0 raSR.out (bc_one _) ?ra3 ?ra4 rasz ?_)
              case ra0 => rw [bc_len, Nat.mul_one]; exact raHM.out
              case ra3 => unfold maxLen; omega
              case ra4 => omega
              intro rav' raw5 rahown rahgrow _
              have raO2 : Hid (Own raw5 w.heap.size rav' (Q2 ++ uintB x.op.toNat)) := by
                show Own _ _ _ _
                unfold Own
                rw [bc_app, List.length_append, HQ2L.out, raHM.out]
                exact rahown
              have raB2 : Hid (Below w.heap.size w raw5) := raBB.out.grown rahgrow rasz (fun k hk => (World.ownsRow.lt raOW.out k hk).1)
              have raX2 : Hid (XB raw5 xb x) := raX.out.kept ((Lib.OthersKept.refl _ _ _).grown rahgrow (own_kind' raOW.out)) rahgrow.size
              obtain ⟨raa2, rac2, raev⟩ : ∃ a c, rav' = .slice a (q2 + ram) c := by
                rcases rahown.2 with ⟨h, h0⟩ | ⟨g, cap', _, h, _⟩
                · exact ⟨none, 0, by rw [h, h0]⟩
                · exact ⟨_, _, h⟩
              subst raev
              clear rahown rahgrow
              have HL2 : Hid (Q1 ++ partsR x (s.data.toList.take (j + 1)) = Q2 ++ uintB x.op.toNat) := by show _ = _; rw [HNj.out, ← List.append_assoc, HQ2.out]
              go_wp2
              go_roundw
              case rel => exact ⟨j + 1, raa2, rac2, hjl, by go_num, by rw [HL2.out, List.length_append, HQ2L.out, raHM.out], by show Own _ _ _ _; rw [HL2.out, List.length_append, HQ2L.out, raHM.out]; exact raO2.out, raB2, raX2⟩
              case measure => simp [intOf]; omega
            · have hn : ((s[j]).toNat : Int) = 112 := by rw [ec]; rfl
              rw [ec, show partR x 112 = uintB x.op.toNat from rfl] at HNj
              go_wp2_with fail
              refine (ruintI x.op _ hpo.1 hpo.2).mono ?_
              rintro e rbw4 ⟨rbv, rfl, rbo, rbb⟩
              obtain ⟨rbg, rbc, rbe, rbs⟩ := rbo.src (uintB_pos _)
              subst rbe
              have rbOW : Hid (rbw4.ownsRow w.heap.size 5 1 (.slice a' q2 c') q2 (bc Q2)) := by
                have h9 := (HOj.out).below rbb
                unfold Own at h9
                rw [HQ2L.out] at h9
                exact h9
              have rbBB : Hid (Below w.heap.size w rbw4) := HBj.out.trans (rbb.mono HBj.out.size)
              have rbX : Hid (XB rbw4 xb x) := HXj.out.kept (kept_below rbb 5 none) rbb.size
              have rbSR : Hid (∀ j u, (bc (uintB x.op.toNat))[j]? = some u → rbw4.cell? ((⟨rbg, 0, none⟩ : Addr).add j) = some u) := rbs
              obtain ⟨rbm, rbhm⟩ : ∃ m, (uintB x.op.toNat).length = m := ⟨_, rfl⟩
              have rbHM : Hid ((uintB x.op.toNat).length = rbm) := rbhm
              have rbml : rbm ≤ 10 := by rw [← rbhm]; exact uintF_len 9 _
              have rbsz : w.heap.size ≤ rbw4.heap.size := rbBB.out.size
              rw [rbhm]
              clear rbo rbb rbs rbhm
              go_wp2_with (at_builtin; refine wpList_append_own _ rfl _ _ 40 rfl w.heap.size 5 i0 (.int .u8 0) 1 1 Try.underlying40 hi hz0 hz1 hz2 rfl (by decide) _ _ _ rfl rbOW.out ⟨rbg, 0, none⟩ rbm rbc (bc (uintB x.op.toNat)) rfl ?rb0 rbSR.out (bc_one _) ?rb3 ?rb4 rbsz ?_)
              case rb0 => rw [bc_len, Nat.mul_one]; exact rbHM.out
              case rb3 => unfold maxLen; omega
              case rb4 => omega
              intro rbv' rbw5 rbhown rbhgrow _
              have rbO2 : Hid (Own rbw5 w.heap.size rbv' (Q2 ++ uintB x.op.toNat)) := by
                show Own _ _ _ _
                unfold Own
                rw [bc_app, List.length_append, HQ2L.out, rbHM.out]
                exact rbhown
              have rbB2 : Hid (Below w.heap.size w rbw5) := rbBB.out.grown rbhgrow rbsz (fun k hk => (World.ownsRow.lt rbOW.out k hk).1)
              have rbX2 : Hid (XB rbw5 xb x) := rbX.out.kept ((Lib.OthersKept.refl _ _ _).grown rbhgrow (own_kind' rbOW.out)) rbhgrow.size
              obtain ⟨rba2, rbc2, rbev⟩ : ∃ a c, rbv' = .slice a (q2 + rbm) c := by
                rcases rbhown.2 with ⟨h, h0⟩ | ⟨g, cap', _, h, _⟩
                · exact ⟨none, 0, by rw [h, h0]⟩
                · exact ⟨_, _, h⟩
              subst rbev
              clear rbhown rbhgrow
              have HL2 : Hid (Q1 ++ partsR x (s.data.toList.take (j + 1)) = Q2 ++ uintB x.op.toNat) := by show _ = _; rw [HNj.out, ← List.append_assoc, HQ2.out]
              go_wp2
              go_roundw
              case rel => exact ⟨j + 1, rba2, rbc2, hjl, by go_num, by rw [HL2.out, List.length_append, HQ2L.out, rbHM.out], by show Own _ _ _ _; rw [HL2.out, List.length_append, HQ2L.out, rbHM.out]; exact rbO2.out, rbB2, rbX2⟩
              case measure => simp [intOf]; omega
            · have hn : ((s[j]).toNat : Int) = 97 := by rw [ec]; rfl
              rw [ec, show partR x 97 = uintB x.a.toNat from rfl] at HNj
              go_wp2_with fail
              refine (ruintI x.a _ hpa.1 hpa.2).mono ?_
              rintro e rcw4 ⟨rcv, rfl, rco, rcb⟩
              obtain ⟨rcg, rcc, rce, rcs⟩ := rco.src (uintB_pos _)
              subst rce
              have rcOW : Hid (rcw4.ownsRow w.heap.size 5 1 (.slice a' q2 c') q2 (bc Q2)) := by
                have h9 := (HOj.out).below rcb
                unfold Own at h9
                rw [HQ2L.out] at h9
                exact h9
              have rcBB : Hid (Below w.heap.size w rcw4) := HBj.out.trans (rcb.mono HBj.out.size)
              have rcX : Hid (XB rcw4 xb x) := HXj.out.kept (kept_below rcb 5 none) rcb.size
              have rcSR : Hid (∀ j u, (bc (uintB x.a.toNat))[j]? = some u → rcw4.cell? ((⟨rcg, 0, none⟩ : Addr).add j) = some u) := rcs
              obtain ⟨rcm, rchm⟩ : ∃ m, (uintB x.a.toNat).length = m := ⟨_, rfl⟩
              have rcHM : Hid ((uintB x.a.toNat).length = rcm) := rchm
              have rcml : rcm ≤ 10 := by rw [← rchm]; exact uintF_len 9 _
              have rcsz : w.heap.size ≤ rcw4.heap.size := rcBB.out.size
              rw [rchm]
              clear rco rcb rcs rchm
              go_wp2_with (at_builtin; refine wpList_append_own _ rfl _ _ 40 rfl w.heap.size 5 i0 (.int .u8 0) 1 1 Try.underlying40 hi hz0 hz1 hz2 rfl (by decide) _ _ _ rfl rcOW.out ⟨rcg, 0, none⟩ rcm rcc (bc (uintB x.a.toNat)) rfl ?rc0 rcSR.out (bc_one _) ?rc3 ?rc4 rcsz ?_)
              case rc0 => rw [bc_len, Nat.mul_one]; exact rcHM.out
              case rc3 => unfold maxLen; omega
              case rc4 => omega
              intro rcv' rcw5 rchown rchgrow _
              have rcO2 : Hid (Own rcw5 w.heap.size rcv' (Q2 ++ uintB x.a.toNat)) := by
                show Own _ _ _ _
                unfold Own
                rw [bc_app, List.length_append, HQ2L.out, rcHM.out]
                exact rchown
              have rcB2 : Hid (Below w.heap.size w rcw5) := rcBB.out.grown rchgrow rcsz (fun k hk => (World.ownsRow.lt rcOW.out k hk).1)
              have rcX2 : Hid (XB rcw5 xb x) := rcX.out.kept ((Lib.OthersKept.refl _ _ _).grown rchgrow (own_kind' rcOW.out)) rchgrow.size
              obtain ⟨rca2, rcc2, rcev⟩ : ∃ a c, rcv' = .slice a (q2 + rcm) c := by
                rcases rchown.2 with ⟨h, h0⟩ | ⟨g, cap', _, h, _⟩
                · exact ⟨none, 0, by rw [h, h0]⟩
                · exact ⟨_, _, h⟩
              subst rcev
              clear rchown rchgrow
              have HL2 : Hid (Q1 ++ partsR x (s.data.toList.take (j + 1)) = Q2 ++ uintB x.a.toNat) := by show _ = _; rw [HNj.out, ← List.append_assoc, HQ2.out]
              go_wp2
              go_roundw
              case rel => exact ⟨j + 1, rca2, rcc2, hjl, by go_num, by rw [HL2.out, List.length_append, HQ2L.out, rcHM.out], by show Own _ _ _ _; rw [HL2.out, List.length_append, HQ2L.out, rcHM.out]; exact rcO2.out, rcB2, rcX2⟩
              case measure => simp [intOf]; omega
            · have hn : ((s[j]).toNat : Int) = 98 := by rw [ec]; rfl
              rw [ec, show partR x 98 = uintB x.b.toNat from rfl] at HNj
              go_wp2_with fail
              refine (ruintI x.b _ hpb.1 hpb.2).mono ?_
              rintro e rdw4 ⟨rdv, rfl, rdo, rdb⟩
              obtain ⟨rdg, rdc, rde, rds⟩ := rdo.src (uintB_pos _)
              subst rde
              have rdOW : Hid (rdw4.ownsRow w.heap.size 5 1 (.slice a' q2 c') q2 (bc Q2)) := by
                have h9 := (HOj.out).below rdb
                unfold Own at h9
                rw [HQ2L.out] at h9
                exact h9
              have rdBB : Hid (Below w.heap.size w rdw4) := HBj.out.trans (rdb.mono HBj.out.size)
              have rdX : Hid (XB rdw4 xb x) := HXj.out.kept (kept_below rdb 5 none) rdb.size
              have rdSR : Hid (∀ j u, (bc (uintB x.b.toNat))[j]? = some u → rdw4.cell? ((⟨rdg, 0, none⟩ : Addr).add j) = some u) := rds
              obtain ⟨rdm, rdhm⟩ : ∃ m, (uintB x.b.toNat).length = m := ⟨_, rfl⟩
              have rdHM : Hid ((uintB x.b.toNat).length = rdm) := rdhm
              have rdml : rdm ≤ 10 := by rw [← rdhm]; exact uintF_len 9 _
              have rdsz : w.heap.size ≤ rdw4.heap.size := rdBB.out.size
              rw [rdhm]
              clear rdo rdb rds rdhm
              go_wp2_with (at_builtin; refine wpList_append_own _ rfl _ _ 40 rfl w.heap.size 5 i0 (.int .u8 0) 1 1 Try.underlying40 hi hz0 hz1 hz2 rfl (by decide) _ _ _ rfl rdOW.out ⟨rdg, 0, none⟩ rdm rdc (bc (uintB x.b.toNat)) rfl ?rd0 rdSR.out (bc_one _) ?rd3 ?rd4 rdsz ?_)
              case rd0 => rw [bc_len, Nat.mul_one]; exact rdHM.out
              case rd3 => unfold maxLen; omega
              case rd4 => omega
              intro rdv' rdw5 rdhown rdhgrow _
              have rdO2 : Hid (Own rdw5 w.heap.size rdv' (Q2 ++ uintB x.b.toNat)) := by
                show Own _ _ _ _
                unfold Own
                rw [bc_app, List.length_append, HQ2L.out, rdHM.out]
                exact rdhown
              have rdB2 : Hid (Below w.heap.size w rdw5) := rdBB.out.grown rdhgrow rdsz (fun k hk => (World.ownsRow.lt rdOW.out k hk).1)
              have rdX2 : Hid (XB rdw5 xb x) := rdX.out.kept ((Lib.OthersKept.refl _ _ _).grown rdhgrow (own_kind' rdOW.out)) rdhgrow.size
              obtain ⟨rda2, rdc2, rdev⟩ : ∃ a c, rdv' = .slice a (q2 + rdm) c := by
                rcases rdhown.2 with ⟨h, h0⟩ | ⟨g, cap', _, h, _⟩
                · exact ⟨none, 0, by rw [h, h0]⟩
                · exact ⟨_, _, h⟩
              subst rdev
              clear rdhown rdhgrow
              have HL2 : Hid (Q1 ++ partsR x (s.data.toList.take (j + 1)) = Q2 ++ uintB x.b.toNat) := by show _ = _; rw [HNj.out, ← List.append_assoc, HQ2.out]
              go_wp2
              go_roundw
              case rel => exact ⟨j + 1, rda2, rdc2, hjl, by go_num, by rw [HL2.out, List.length_append, HQ2L.out, rdHM.out], by show Own _ _ _ _; rw [HL2.out, List.length_append, HQ2L.out, rdHM.out]; exact rdO2.out, rdB2, rdX2⟩
              case measure => simp [intOf]; omega
            · have hn : ((s[j]).toNat : Int) = 99 := by rw [ec]; rfl
              rw [ec, show partR x 99 = uintB x.c.toNat from rfl] at HNj
              go_wp2_with fail
              refine (ruintI x.c _ hpc.1 hpc.2).mono ?_
              rintro e rew4 ⟨rev, rfl, reo, reb⟩
              obtain ⟨reg, rec, ree, res⟩ := reo.src (uintB_pos _)
              subst ree
              have reOW : Hid (rew4.ownsRow w.heap.size 5 1 (.slice a' q2 c') q2 (bc Q2)) := by
                have h9 := (HOj.out).below reb
                unfold Own at h9
                rw [HQ2L.out] at h9
                exact h9
              have reBB : Hid (Below w.heap.size w rew4) := HBj.out.trans (reb.mono HBj.out.size)
              have reX : Hid (XB rew4 xb x) := HXj.out.kept (kept_below reb 5 none) reb.size
              have reSR : Hid (∀ j u, (bc (uintB x.c.toNat))[j]? = some u → rew4.cell? ((⟨reg, 0, none⟩ : Addr).add j) = some u) := res
              obtain ⟨rem, rehm⟩ : ∃ m, (uintB x.c.toNat).length = m := ⟨_, rfl⟩
              have reHM : Hid ((uintB x.c.toNat).length = rem) := rehm
              have reml : rem ≤ 10 := by rw [← rehm]; exact uintF_len 9 _
              have resz : w.heap.size ≤ rew4.heap.size := reBB.out.size
              rw [rehm]
              clear reo reb res rehm
              go_wp2_with (at_builtin; refine wpList_append_own _ rfl _ _ 40 rfl w.heap.size 5 i0 (.int .u8 0) 1 1 Try.underlying40 hi hz0 hz1 hz2 rfl (by decide) _ _ _ rfl reOW.out ⟨reg, 0, none⟩ rem rec (bc (uintB x.c.toNat)) rfl ?re0 reSR.out (bc_one _) ?re3 ?re4 resz ?_)
              case re0 => rw [bc_len, Nat.mul_one]; exact reHM.out
              case re3 => unfold maxLen; omega
              case re4 => omega
              intro rev' rew5 rehown rehgrow _
              have reO2 : Hid (Own rew5 w.heap.size rev' (Q2 ++ uintB x.c.toNat)) := by
                show Own _ _ _ _
                unfold Own
                rw [bc_app, List.length_append, HQ2L.out, reHM.out]
                exact rehown
              have reB2 : Hid (Below w.heap.size w rew5) := reBB.out.grown rehgrow resz (fun k hk => (World.ownsRow.lt reOW.out k hk).1)
              have reX2 : Hid (XB rew5 xb x) := reX.out.kept ((Lib.OthersKept.refl _ _ _).grown rehgrow (own_kind' reOW.out)) rehgrow.size
              obtain ⟨rea2, rec2, reev⟩ : ∃ a c, rev' = .slice a (q2 + rem) c := by
                rcases rehown.2 with ⟨h, h0⟩ | ⟨g, cap', _, h, _⟩
                · exact ⟨none, 0, by rw [h, h0]⟩
                · exact ⟨_, _, h⟩
              subst reev
              clear rehown rehgrow
              have HL2 : Hid (Q1 ++ partsR x (s.data.toList.take (j + 1)) = Q2 ++ uintB x.c.toNat) := by show _ = _; rw [HNj.out, ← List.append_assoc, HQ2.out]
              go_wp2
              go_roundw
              case rel => exact ⟨j + 1, rea2, rec2, hjl, by go_num, by rw [HL2.out, List.length_append, HQ2L.out, reHM.out], by show Own _ _ _ _; rw [HL2.out, List.length_append, HQ2L.out, reHM.out]; exact reO2.out, reB2, reX2⟩
              case measure => simp [intOf]; omega
            · have hn : ((s[j]).toNat : Int) = 114 := by rw [ec]; rfl
              rw [ec, show partR x 114 = uintB x.c.toNat from rfl] at HNj
              go_wp2_with fail
              refine (ruintI x.c _ hpc.1 hpc.2).mono ?_
              rintro e rfw4 ⟨rfv, rfl, rfo, rfb⟩
              obtain ⟨rfg, rfc, rfe, rfs⟩ := rfo.src (uintB_pos _)
              subst rfe
              have rfOW : Hid (rfw4.ownsRow w.heap.size 5 1 (.slice a' q2 c') q2 (bc Q2)) := by
                have h9 := (HOj.out).below rfb
                unfold Own at h9
                rw [HQ2L.out] at h9
                exact h9
              have rfBB : Hid (Below w.heap.size w rfw4) := HBj.out.trans (rfb.mono HBj.out.size)
              have rfX : Hid (XB rfw4 xb x) := HXj.out.kept (kept_below rfb 5 none) rfb.size
              have rfSR : Hid (∀ j u, (bc (uintB x.c.toNat))[j]? = some u → rfw4.cell? ((⟨rfg, 0, none⟩ : Addr).add j) = some u) := rfs
              obtain ⟨rfm, rfhm⟩ : ∃ m, (uintB x.c.toNat).length = m := ⟨_, rfl⟩
              have rfHM : Hid ((uintB x.c.toNat).length = rfm) := rfhm
              have rfml : rfm ≤ 10 := by rw [← rfhm]; exact uintF_len 9 _
              have rfsz : w.heap.size ≤ rfw4.heap.size := rfBB.out.size
              rw [rfhm]
              clear rfo rfb rfs rfhm
              go_wp2_with (at_builtin; refine wpList_append_own _ rfl _ _ 40 rfl w.heap.size 5 i0 (.int .u8 0) 1 1 Try.underlying40 hi hz0 hz1 hz2 rfl (by decide) _ _ _ rfl rfOW.out ⟨rfg, 0, none⟩ rfm rfc (bc (uintB x.c.toNat)) rfl ?rf0 rfSR.out (bc_one _) ?rf3 ?rf4 rfsz ?_)
              case rf0 => rw [bc_len, Nat.mul_one]; exact rfHM.out
              case rf3 => unfold maxLen; omega
              case rf4 => omega
              intro rfv' rfw5 rfhown rfhgrow _
              have rfO2 : Hid (Own rfw5 w.heap.size rfv' (Q2 ++ uintB x.c.toNat)) := by
                show Own _ _ _ _
                unfold Own
                rw [bc_app, List.length_append, HQ2L.out, rfHM.out]
                exact rfhown
              have rfB2 : Hid (Below w.heap.size w rfw5) := rfBB.out.grown rfhgrow rfsz (fun k hk => (World.ownsRow.lt rfOW.out k hk).1)
              have rfX2 : Hid (XB rfw5 xb x) := rfX.out.kept ((Lib.OthersKept.refl _ _ _).grown rfhgrow (own_kind' rfOW.out)) rfhgrow.size
              obtain ⟨rfa2, rfc2, rfev⟩ : ∃ a c, rfv' = .slice a (q2 + rfm) c := by
                rcases rfhown.2 with ⟨h, h0⟩ | ⟨g, cap', _, h, _⟩
                · exact ⟨none, 0, by rw [h, h0]⟩
                · exact ⟨_, _, h⟩
              subst rfev
              clear rfhown rfhgrow
              have HL2 : Hid (Q1 ++ partsR x (s.data.toList.take (j + 1)) = Q2 ++ uintB x.c.toNat) := by show _ = _; rw [HNj.out, ← List.append_assoc, HQ2.out]
              go_wp2
              go_roundw
              case rel => exact ⟨j + 1, rfa2, rfc2, hjl, by go_num, by rw [HL2.out, List.length_append, HQ2L.out, rfHM.out], by show Own _ _ _ _; rw [HL2.out, List.length_append, HQ2L.out, rfHM.out]; exact rfO2.out, rfB2, rfX2⟩
              case measure => simp [intOf]; omega
            · have hn : ((s[j]).toNat : Int) = 107 := by rw [ec]; rfl
              rw [ec, show partR x 107 = uintB (zig x.k) from rfl] at HNj
              go_wp2_with fail
              refine (rint x.k _ hkk1 hkk2).mono ?_
              rintro e rgw4 ⟨rgv, rfl, rgo, rgb⟩
              obtain ⟨rgg, rgc, rge, rgs⟩ := rgo.src (uintB_pos _)
              subst rge
              have rgOW : Hid (rgw4.ownsRow w.heap.size 5 1 (.slice a' q2 c') q2 (bc Q2)) := by
                have h9 := (HOj.out).below rgb
                unfold Own at h9
                rw [HQ2L.out] at h9
                exact h9
              have rgBB : Hid (Below w.heap.size w rgw4) := HBj.out.trans (rgb.mono HBj.out.size)
              have rgX : Hid (XB rgw4 xb x) := HXj.out.kept (kept_below rgb 5 none) rgb.size
              have rgSR : Hid (∀ j u, (bc (uintB (zig x.k)))[j]? = some u → rgw4.cell? ((⟨rgg, 0, none⟩ : Addr).add j) = some u) := rgs
              obtain ⟨rgm, rghm⟩ : ∃ m, (uintB (zig x.k)).length = m := ⟨_, rfl⟩
              have rgHM : Hid ((uintB (zig x.k)).length = rgm) := rghm
              have rgml : rgm ≤ 10 := by rw [← rghm]; exact uintF_len 9 _
              have rgsz : w.heap.size ≤ rgw4.heap.size := rgBB.out.size
              rw [rghm]
              clear rgo rgb rgs rghm
              go_wp2_with (at_builtin; refine wpList_append_own _ rfl _ _ 40 rfl w.heap.size 5 i0 (.int .u8 0) 1 1 Try.underlying40 hi hz0 hz1 hz2 rfl (by decide) _ _ _ rfl rgOW.out ⟨rgg, 0, none⟩ rgm rgc (bc (uintB (zig x.k))) rfl ?rg0 rgSR.out (bc_one _) ?rg3 ?rg4 rgsz ?_)
              case rg0 => rw [bc_len, Nat.mul_one]; exact rgHM.out
              case rg3 => unfold maxLen; omega
              case rg4 => omega
              intro rgv' rgw5 rghown rghgrow _
              have rgO2 : Hid (Own rgw5 w.heap.size rgv' (Q2 ++ uintB (zig x.k))) := by
                show Own _ _ _ _
                unfold Own
                rw [bc_app, List.length_append, HQ2L.out, rgHM.out]
                exact rghown
              have rgB2 : Hid (Below w.heap.size w rgw5) := rgBB.out.grown rghgrow rgsz (fun k hk => (World.ownsRow.lt rgOW.out k hk).1)
              have rgX2 : Hid (XB rgw5 xb x) := rgX.out.kept ((Lib.OthersKept.refl _ _ _).grown rghgrow (own_kind' rgOW.out)) rghgrow.size
              obtain ⟨rga2, rgc2, rgev⟩ : ∃ a c, rgv' = .slice a (q2 + rgm) c := by
                rcases rghown.2 with ⟨h, h0⟩ | ⟨g, cap', _, h, _⟩
                · exact ⟨none, 0, by rw [h, h0]⟩
                · exact ⟨_, _, h⟩
              subst rgev
              clear rghown rghgrow
              have HL2 : Hid (Q1 ++ partsR x (s.data.toList.take (j + 1)) = Q2 ++ uintB (zig x.k)) := by show _ = _; rw [HNj.out, ← List.append_assoc, HQ2.out]
              go_wp2
              go_roundw
              case rel => exact ⟨j + 1, rga2, rgc2, hjl, by go_num, by rw [HL2.out, List.length_append, HQ2L.out, rgHM.out], by show Own _ _ _ _; rw [HL2.out, List.length_append, HQ2L.out, rgHM.out]; exact rgO2.out, rgB2, rgX2⟩
              case measure => simp [intOf]; omega
            · have hn : ((s[j]).toNat : Int) = 116 := by rw [ec]; rfl
              rw [ec, show partR x 116 = uintB (zig x.k) from rfl] at HNj
              go_wp2_with fail
              refine (rint x.k _ hkk1 hkk2).mono ?_
              rintro e rhw4 ⟨rhv, rfl, rho, rhb⟩
              obtain ⟨rhg, rhc, rhe, rhs⟩ := rho.src (uintB_pos _)
              subst rhe
              have rhOW : Hid (rhw4.ownsRow w.heap.size 5 1 (.slice a' q2 c') q2 (bc Q2)) := by
                have h9 := (HOj.out).below rhb
                unfold Own at h9
                rw [HQ2L.out] at h9
                exact h9
              have rhBB : Hid (Below w.heap.size w rhw4) := HBj.out.trans (rhb.mono HBj.out.size)
              have rhX : Hid (XB rhw4 xb x) := HXj.out.kept (kept_below rhb 5 none) rhb.size
              have rhSR : Hid (∀ j u, (bc (uintB (zig x.k)))[j]? = some u → rhw4.cell? ((⟨rhg, 0, none⟩ : Addr).add j) = some u) := rhs
              obtain ⟨rhm, rhhm⟩ : ∃ m, (uintB (zig x.k)).length = m := ⟨_, rfl⟩
              have rhHM : Hid ((uintB (zig x.k)).length = rhm) := rhhm
              have rhml : rhm ≤ 10 := by rw [← rhhm]; exact uintF_len 9 _
              have rhsz : w.heap.size ≤ rhw4.heap.size := rhBB.out.size
              rw [rhhm]
              clear rho rhb rhs rhhm
              go_wp2_with (at_builtin; refine wpList_append_own _ rfl _ _ 40 rfl w.heap.size 5 i0 (.int .u8 0) 1 1 Try.underlying40 hi hz0 hz1 hz2 rfl (by decide) _ _ _ rfl rhOW.out ⟨rhg, 0, none⟩ rhm rhc (bc (uintB (zig x.k))) rfl ?rh0 rhSR.out (bc_one _) ?rh3 ?rh4 rhsz ?_)
              case rh0 => rw [bc_len, Nat.mul_one]; exact rhHM.out
              case rh3 => unfold maxLen; omega
              case rh4 => omega
              intro rhv' rhw5 rhhown rhhgrow _
              have rhO2 : Hid (Own rhw5 w.heap.size rhv' (Q2 ++ uintB (zig x.k))) := by
                show Own _ _ _ _
                unfold Own
                rw [bc_app, List.length_append, HQ2L.out, rhHM.out]
                exact rhhown
              have rhB2 : Hid (Below w.heap.size w rhw5) := rhBB.out.grown rhhgrow rhsz (fun k hk => (World.ownsRow.lt rhOW.out k hk).1)
              have rhX2 : Hid (XB rhw5 xb x) := rhX.out.kept ((Lib.OthersKept.refl _ _ _).grown rhhgrow (own_kind' rhOW.out)) rhhgrow.size
              obtain ⟨rha2, rhc2, rhev⟩ : ∃ a c, rhv' = .slice a (q2 + rhm) c := by
                rcases rhhown.2 with ⟨h, h0⟩ | ⟨g, cap', _, h, _⟩
                · exact ⟨none, 0, by rw [h, h0]⟩
                · exact ⟨_, _, h⟩
              subst rhev
              clear rhhown rhhgrow
              have HL2 : Hid (Q1 ++ partsR x (s.data.toList.take (j + 1)) = Q2 ++ uintB (zig x.k)) := by show _ = _; rw [HNj.out, ← List.append_assoc, HQ2.out]
              go_wp2
              go_roundw
              case rel => exact ⟨j + 1, rha2, rhc2, hjl, by go_num, by rw [HL2.out, List.length_append, HQ2L.out, rhHM.out], by show Own _ _ _ _; rw [HL2.out, List.length_append, HQ2L.out, rhHM.out]; exact rhO2.out, rhB2, rhX2⟩
              case measure => simp [intOf]; omega
          · have HL2 : Hid (Q1 ++ partsR x (s.data.toList.take j) = uintB l.length ++ rowB (l.take (k + 1))) := by
              show _ = _
              rw [List.take_of_length_le (by simp; omega), HS3.out, ← HQ1.out, HN.out, ← HQ.out]
              unfold insB
              simp only [List.append_assoc]
            go_wp2
            go_roundw
            case rel => exact ⟨k + 1, a', c', hlt, by go_num, by rw [HL2.out], by show Own _ _ _ _; rw [← HL2.out]; exact HOj.out, HBj⟩
            case measure => simp [intOf]; omega
      · have HL2 : Hid (uintB l.length ++ rowB (l.take k) = encB l) := by
          show _ = _
          rw [List.take_of_length_le (by omega)]
          rfl
        rw [HL2.out] at HO
        rw [HL2.out]
        go_wp2
        go_ret2
        exact ⟨HB.out, Or.inr ⟨HC.out, _, rfl, HO.out.rd⟩⟩
  · go_wp2
    all_goals first | (exfalso; simp_all; done) | skip
    go_ret2
    exact ⟨B1.out, Or.inl ⟨by rw [HC.out]; exact h0, by rw [HC.out]; rfl⟩⟩
end Go.Proofs.Ythcidcfaodjbjaa
