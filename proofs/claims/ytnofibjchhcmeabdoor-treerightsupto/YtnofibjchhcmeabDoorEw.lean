/- The parser's steps over the plain tokens; an expression between two brackets. -/
import Derived.Test.YtnofibjchhcmeabDoorEm
namespace Go.Proofs.YtnofibjchhcmeabDoor
open Go.RowKit Go.Maps
set_option linter.unusedVariables false

section
variable {pb g c : Nat} {L : List Tok} {p o b n : Nat} {w : World}
theorem look_tk (h : PS w pb g c L p o b n) : Calls Tryd.prog 46 #[.pointer (some ⟨pb, 0, none⟩)] w fun e w' => e = .returned (tv (tk L p)) ∧ Below w.heap.size w w' := by
  have := look_any pb g c L p o b n w h; rwa [tk_eq h.pl] at this
theorem next_tk (h : PS w pb g c L p o b n) (h1 : p + 1 < L.length) : Calls Tryd.prog 75 #[.pointer (some ⟨pb, 0, none⟩)] w fun e w' => e = .returned (tv (tk L p)) ∧ PS w' pb g c L (p + 1) o b n ∧ Gr w w' pb := by
  have := next_any pb g c L p o b n w h h1; rwa [tk_eq h.pl] at this
theorem stand_tk (h : PS w pb g c L p o b n) : Calls Tryd.prog 63 #[.pointer (some ⟨pb, 0, none⟩)] w fun e w' => e = gaveUpT ((tk L p).pos : Int) 40 ∧ Below w.heap.size w w' := by
  have := cannotStand_any pb g c L p o b n w h; rwa [tk_eq h.pl] at this
theorem looksAt_tk (s : ByteArray) (h : PS w pb g c L p o b n) : Calls Tryd.prog 83 #[.pointer (some ⟨pb, 0, none⟩), .string s] w fun e w' => e = .returned (.bool ((tk L p).text == s.data.toList)) ∧ Below w.heap.size w w' := by
  have := looksAt_any pb g c L p o b n s w h; rwa [tk_eq h.pl] at this
theorem take_tk (s : ByteArray) (h : PS w pb g c L p o b n) (he : (tk L p).text = s.data.toList) (h1 : p + 1 < L.length) : Calls Tryd.prog 81 #[.pointer (some ⟨pb, 0, none⟩), .string s] w fun e w' => e = .returned (tv (tk L p)) ∧ PS w' pb g c L (p + 1) o b n ∧ Gr w w' pb := by
  have := take_ok pb g c L p o b n s w h (by rw [tk_eq h.pl]; exact he) h1; rwa [tk_eq h.pl] at this
theorem take_no (s : ByteArray) (h : PS w pb g c L p o b n) (he : ¬ (tk L p).text = s.data.toList) : Calls Tryd.prog 81 #[.pointer (some ⟨pb, 0, none⟩), .string s] w fun e w' => e = gaveUpT ((tk L p).pos : Int) 40 ∧ Gr w w' pb := by
  have := take_bad pb g c L p o b n s w h (by rw [tk_eq h.pl]; exact he); rwa [tk_eq h.pl] at this
theorem kind_tk (k : Int) (h : PS w pb g c L p o b n) (he : (tk L p).kind = k) (h1 : p + 1 < L.length) : Calls Tryd.prog 78 #[.pointer (some ⟨pb, 0, none⟩), .int .i64 k] w fun e w' => e = .returned (tv (tk L p)) ∧ PS w' pb g c L (p + 1) o b n ∧ Gr w w' pb := by
  have := takeKind_any pb g c L p o b n k w h (fun _ => h1)
  rw [tk_eq h.pl, decide_eq_true he] at this
  exact this
theorem kind_no (k : Int) (h : PS w pb g c L p o b n) (he : ¬ (tk L p).kind = k) : Calls Tryd.prog 78 #[.pointer (some ⟨pb, 0, none⟩), .int .i64 k] w fun e w' => e = gaveUpT ((tk L p).pos : Int) 40 ∧ Gr w w' pb := by
  have := takeKind_any pb g c L p o b n k w h (fun q => absurd (by rw [tk_eq h.pl] at q; exact q) he)
  rw [tk_eq h.pl, decide_eq_false he] at this
  exact this
theorem opens_tk (s : ByteArray) (h : PS w pb g c L p o b n) (he : (tk L p).text = s.data.toList) (h1 : p + 1 < L.length) (ho : o + 1 ≤ 48) : Calls Tryd.prog 92 #[.pointer (some ⟨pb, 0, none⟩), .string s] w fun e w' => e = .returned (tv (tk L p)) ∧ PS w' pb g c L (p + 1) (o + 1) b n ∧ Gr w w' pb := by
  have := opens_ok pb g c L p o b n s w h (by rw [tk_eq h.pl]; exact he) h1 ho; rwa [tk_eq h.pl] at this
theorem opens_tkN (s : ByteArray) (h : PS w pb g c L p o b n) (he : ¬ (tk L p).text = s.data.toList) : Calls Tryd.prog 92 #[.pointer (some ⟨pb, 0, none⟩), .string s] w fun e w' => e = gaveUpT ((tk L p).pos : Int) 40 ∧ Gr w w' pb := by
  have := opens_no pb g c L p o b n s w h (by rw [tk_eq h.pl]; exact he); rwa [tk_eq h.pl] at this
theorem opens_tkD (s : ByteArray) (h : PS w pb g c L p o b n) (he : (tk L p).text = s.data.toList) (h1 : p + 1 < L.length) (ho : 48 < o + 1) (ho2 : o ≤ 48) : Calls Tryd.prog 92 #[.pointer (some ⟨pb, 0, none⟩), .string s] w fun e w' => e = gaveUpT ((tk L p).pos : Int) 41 ∧ Gr w w' pb := by
  have := opens_deep pb g c L p o b n s w h (by rw [tk_eq h.pl]; exact he) h1 ho (by omega); rwa [tk_eq h.pl] at this
theorem shuts_tk (s : ByteArray) (h : PS w pb g c L p (o + 1) b n) (ho : o ≤ 48) (he : (tk L p).text = s.data.toList) (h1 : p + 1 < L.length) : Calls Tryd.prog 94 #[.pointer (some ⟨pb, 0, none⟩), .string s] w fun e w' => e = .returned (.tuple #[]) ∧ PS w' pb g c L (p + 1) o b n ∧ Gr w w' pb :=
  shuts_ok pb g c L p o b n s w h (by omega) (by rw [tk_eq h.pl]; exact he) h1
theorem shuts_tkN (s : ByteArray) (h : PS w pb g c L p o b n) (he : ¬ (tk L p).text = s.data.toList) : Calls Tryd.prog 94 #[.pointer (some ⟨pb, 0, none⟩), .string s] w fun e w' => e = gaveUpT ((tk L p).pos : Int) 40 ∧ Gr w w' pb := by
  have := shuts_bad pb g c L p o b n s w h (by rw [tk_eq h.pl]; exact he); rwa [tk_eq h.pl] at this
end
theorem Gr.blk {w w' : World} {pb k : Nat} (h : Gr w w' pb) (hk : k < w.heap.size) (hp : pb < k) : w'.heap[k]? = w.heap[k]? := h.block k hk (by intro e; cases e; omega)
/-- the signs lie in block 0 -/
def SG (w : World) (pb : Nat) : Prop := 0 < pb ∧ ∃ A t fr, SA A ∧ w.heap[0]? = some (.cells A t fr)
theorem SG.gr {w w' : World} {pb : Nat} (h : SG w pb) (g : Gr w w' pb) : SG w' pb := by
  obtain ⟨h0, A, t, fr, h1, h2⟩ := h
  have hl : 0 < w.heap.size := (Array.getElem?_eq_some_iff.1 h2).1
  exact ⟨h0, A, t, fr, h1, (g.block 0 hl (by intro e; cases e; omega)).trans h2⟩
/-- what is known of the expressions that are read within -/
def ExOk (pb g c : Nat) (L : List Tok) (b : Nat) (ex : Nat → Nat → Nat → PR) : Prop := ∀ p o n W, PS W pb g c L p o b n → SG W pb → n ≤ 600 → o ≤ 48 → Fed (ex p o n) → Calls Tryd.prog 93 #[.pointer (some ⟨pb, 0, none⟩), .int .i64 1] W (EPost W W.heap.size pb g c L o b (ex p o n))
def z98 : Obj := .cells #[.int .i64 0, .int .i64 0, .string ⟨#[]⟩, .int .i64 0, .slice none 0 0, .int .i64 0] 98
section
variable {W : World} {k : Nat}
theorem z98_c (h : W.heap[k]? = some z98) : W.cell? ⟨k, 0, none⟩ = some (.int .i64 0) ∧ W.cell? ⟨k, 1, none⟩ = some (.int .i64 0) ∧ W.cell? ⟨k, 2, none⟩ = some (.string ⟨#[]⟩) ∧ W.cell? ⟨k, 3, none⟩ = some (.int .i64 0) ∧ W.cell? ⟨k, 4, none⟩ = some (.slice none 0 0) ∧ W.cell? ⟨k, 5, none⟩ = some (.int .i64 0) ∧ W.frozen? ⟨k, 0, none⟩ = false ∧ W.frozen? ⟨k, 1, none⟩ = false ∧ W.frozen? ⟨k, 2, none⟩ = false ∧ W.frozen? ⟨k, 3, none⟩ = false ∧ W.frozen? ⟨k, 4, none⟩ = false ∧ W.frozen? ⟨k, 5, none⟩ = false := by
  unfold z98 at h
  refine ⟨?_, ?_, ?_, ?_, ?_, ?_, frozen_of_row W k 0 _ _ h, frozen_of_row W k 1 _ _ h, frozen_of_row W k 2 _ _ h, frozen_of_row W k 3 _ _ h, frozen_of_row W k 4 _ _ h, frozen_of_row W k 5 _ _ h⟩
  · rw [cell_of_row W k 0 _ _ _ h]; rfl
  · rw [cell_of_row W k 1 _ _ _ h]; rfl
  · rw [cell_of_row W k 2 _ _ _ h]; rfl
  · rw [cell_of_row W k 3 _ _ _ h]; rfl
  · rw [cell_of_row W k 4 _ _ _ h]; rfl
  · rw [cell_of_row W k 5 _ _ _ h]; rfl
theorem pc_c {x : RX} (h : W.heap[k]? = some (pc x)) : W.cell? ⟨k, 0, none⟩ = some (.int .i64 x.k) ∧ W.cell? ⟨k, 1, none⟩ = some (.int .i64 x.m) ∧ W.cell? ⟨k, 2, none⟩ = some (.string x.s) ∧ W.cell? ⟨k, 3, none⟩ = some (.int .i64 x.op) ∧ W.cell? ⟨k, 4, none⟩ = some x.v ∧ W.cell? ⟨k, 5, none⟩ = some (.int .i64 (x.d : Int)) ∧ W.frozen? ⟨k, 0, none⟩ = false ∧ W.frozen? ⟨k, 1, none⟩ = false ∧ W.frozen? ⟨k, 2, none⟩ = false ∧ W.frozen? ⟨k, 3, none⟩ = false ∧ W.frozen? ⟨k, 4, none⟩ = false ∧ W.frozen? ⟨k, 5, none⟩ = false := by
  unfold pc at h
  refine ⟨?_, ?_, ?_, ?_, ?_, ?_, frozen_of_row W k 0 _ _ h, frozen_of_row W k 1 _ _ h, frozen_of_row W k 2 _ _ h, frozen_of_row W k 3 _ _ h, frozen_of_row W k 4 _ _ h, frozen_of_row W k 5 _ _ h⟩
  · rw [cell_of_row W k 0 _ _ _ h]; rfl
  · rw [cell_of_row W k 1 _ _ _ h]; rfl
  · rw [cell_of_row W k 2 _ _ _ h]; rfl
  · rw [cell_of_row W k 3 _ _ _ h]; rfl
  · rw [cell_of_row W k 4 _ _ _ h]; rfl
  · rw [cell_of_row W k 5 _ _ _ h]; rfl
end
/-- six cells of block k are written -/
def set6 (W : World) (k : Nat) (a0 a1 a2 a3 a4 a5 : Value) : World := (((((W.setCell ⟨k, 0, none⟩ a0).setCell ⟨k, 1, none⟩ a1).setCell ⟨k, 2, none⟩ a2).setCell ⟨k, 3, none⟩ a3).setCell ⟨k, 4, none⟩ a4).setCell ⟨k, 5, none⟩ a5
theorem set6_blk {W : World} {k j : Nat} {a0 a1 a2 a3 a4 a5 : Value} (h : j ≠ k) : (set6 W k a0 a1 a2 a3 a4 a5).heap[j]? = W.heap[j]? := by
  unfold set6
  rw [Below.heap_setCell _ _ _ _ h, Below.heap_setCell _ _ _ _ h, Below.heap_setCell _ _ _ _ h, Below.heap_setCell _ _ _ _ h, Below.heap_setCell _ _ _ _ h, Below.heap_setCell _ _ _ _ h]
theorem set6_gr {w W : World} {pb k : Nat} {a0 a1 a2 a3 a4 a5 : Value} (h : Gr w W pb) (hk : w.heap.size ≤ k) : Gr w (set6 W k a0 a1 a2 a3 a4 a5) pb := (((((h.setNew hk _).setNew hk _).setNew hk _).setNew hk _).setNew hk _).setNew hk _
theorem set6_ps {W : World} {pb g c p o b n k : Nat} {L : List Tok} {a0 a1 a2 a3 a4 a5 : Value} (h : PS W pb g c L p o b n) (h1 : pb ≠ k) (h2 : g ≠ k) : PS (set6 W k a0 a1 a2 a3 a4 a5) pb g c L p o b n := (((((h.setNew h1 h2 _).setNew h1 h2 _).setNew h1 h2 _).setNew h1 h2 _).setNew h1 h2 _).setNew h1 h2 _
/-- a part is stored where the result lies, and handed back -/
theorem give_part {w W : World} {pb g c : Nat} {L : List Tok} {q o b m : Nat} {x : PE} {v : Value} {k lo : Nat} (hp : PS W pb g c L q o b m) (hg : Gr w W pb) (he : ESl W lo v x.args) (hw : w.heap.size ≤ k) (hl : k < lo) (hk : W.heap[k]? = some z98) (hpb : pb < w.heap.size) (hgl : g < w.heap.size) (hd : x.deep ≤ 48) (hm : m ≤ 600) :
    (set6 W k (.int .i64 x.kind) (.int .i64 x.num) (.string x.name) (.int .i64 x.op) v (.int .i64 (x.deep : Int))).heap[k]? = some (pc (rx x v)) ∧ EPost w w.heap.size pb g c L o b (.ok (x, q, m)) (.returned (rxv (rx x v))) (set6 W k (.int .i64 x.kind) (.int .i64 x.num) (.string x.name) (.int .i64 x.op) v (.int .i64 (x.deep : Int))) := by
  refine ⟨put6 hk, v, rfl, ?_, set6_ps hp (by omega) (by omega), set6_gr hg hw, hd, hm⟩
  exact (he.keep fun j h1 _ => set6_blk (by omega)).mono (by omega)

set_option maxRecDepth 100000 in
set_option maxHeartbeats 2000000 in
theorem within_any {pb g c : Nat} {L : List Tok} {b : Nat} {ex : Nat → Nat → Nat → PR} (hE : TEnd L) (hx : ExOk pb g c L b ex) (hf : Fwd 1 ex) (sa sb : ByteArray) (ha : sa.data.toList ≠ []) (hb : sb.data.toList ≠ []) (p o n : Nat) (w : World) (h : PS w pb g c L p o b n) (hs : SG w pb) (hn : n ≤ 600) (ho : o ≤ 48) (hfd : Fed (withinP L ex sa.data.toList sb.data.toList p o n)) :
    Calls Tryd.prog 79 #[.pointer (some ⟨pb, 0, none⟩), .string sa, .string sb] w (EPost w w.heap.size pb g c L o b (withinP L ex sa.data.toList sb.data.toList p o n)) := by
  have HS0 : Hid (PS (w.alloc z98) pb g c L p o b n) := h.below ((Below.refl _ _).alloc (Nat.le_refl _) _)
  have HG0 : Hid (Gr w (w.alloc z98) pb) := (Gr.refl w pb).alloc _
  have HB0 : Hid ((w.alloc z98).heap[w.heap.size]? = some z98) := heap_alloc_new _ _
  have HPL : Hid (pb < w.heap.size ∧ g < w.heap.size) := ⟨h.lt, h.gl⟩
  have HSG : Hid (SG w pb) := hs
  unfold withinP at hfd ⊢
  by_cases e1 : ¬ (tk L p).text = sa.data.toList
  · rw [if_pos e1]
    unfold z98 at HS0 HG0 HB0
    go_enter Tryd.func79, Tryd.ntmps79
    go_wp2_with fail
    refine (opens_tkN sa HS0.out e1).mono ?_
    rintro e w1 ⟨rfl, hg⟩
    exact ⟨rfl, rfl, HG0.out.trans hg⟩
  rw [if_neg e1] at hfd ⊢
  replace e1 := Decidable.of_not_not e1
  have hp1 : p + 1 < L.length := hE.text (by rw [e1]; exact ha)
  by_cases e2 : 48 < o + 1
  · rw [if_pos e2]
    unfold z98 at HS0 HG0 HB0
    go_enter Tryd.func79, Tryd.ntmps79
    go_wp2_with fail
    refine (opens_tkD sa HS0.out e1 hp1 e2 ho).mono ?_
    rintro e w1 ⟨rfl, hg⟩
    exact ⟨rfl, rfl, HG0.out.trans hg⟩
  rw [if_neg e2] at hfd ⊢
  have HOP : Hid (∀ W, PS W pb g c L p o b n → Calls Tryd.prog 92 #[.pointer (some ⟨pb, 0, none⟩), .string sa] W fun e w' => e = .returned (tv (tk L p)) ∧ PS w' pb g c L (p + 1) (o + 1) b n ∧ Gr W w' pb) := fun W hW => opens_tk sa hW e1 hp1 (by omega)
  unfold tv at HOP
  rcases er : ex (p + 1) (o + 1) n with ⟨k, ek⟩ | ⟨x, q, m⟩
  · have hfe : Fed (ex (p + 1) (o + 1) n) := by rw [er] at hfd ⊢; exact hfd
    have HEX : Hid (∀ W, PS W pb g c L (p + 1) (o + 1) b n → SG W pb → Calls Tryd.prog 93 #[.pointer (some ⟨pb, 0, none⟩), .int .i64 1] W (EPost W W.heap.size pb g c L (o + 1) b (.error (k, ek)))) := fun W hW hS => by have := hx (p + 1) (o + 1) n W hW hS hn (by omega) hfe; rwa [er] at this
    generalize tk L p = tp at HOP
    unfold z98 at HS0 HG0 HB0
    clear hfe hfd h hs e1 er
    go_enter Tryd.func79, Tryd.ntmps79
    go_wp2_with fail
    refine (HOP.out _ HS0.out).mono ?_
    rintro e w1 ⟨rfl, hp, hg⟩
    have HP1 : Hid (PS w1 pb g c L (p + 1) (o + 1) b n) := hp
    have HG1 : Hid (Gr w w1 pb) := HG0.out.trans hg
    clear hp hg
    go_wp2_with fail
    refine (HEX.out _ HP1.out (HSG.out.gr HG1.out)).mono ?_
    rintro e w2 ⟨rfl, hg⟩
    exact ⟨rfl, rfl, HG1.out.trans hg⟩
  · have hfe : Fed (ex (p + 1) (o + 1) n) := by rw [er]; intro k hk; cases hk
    have HEX : Hid (∀ W, PS W pb g c L (p + 1) (o + 1) b n → SG W pb → Calls Tryd.prog 93 #[.pointer (some ⟨pb, 0, none⟩), .int .i64 1] W (EPost W W.heap.size pb g c L (o + 1) b (.ok (x, q, m)))) := fun W hW hS => by have := hx (p + 1) (o + 1) n W hW hS hn (by omega) hfe; rwa [er] at this
    obtain ⟨P, hP⟩ : ∃ P, EPost w w.heap.size pb g c L o b (if ¬ (tk L q).text = sb.data.toList then .error ((tk L q).pos, 40) else .ok (x, q + 1, m)) = P := ⟨_, rfl⟩
    have HP : Hid (EPost w w.heap.size pb g c L o b (if ¬ (tk L q).text = sb.data.toList then .error ((tk L q).pos, 40) else .ok (x, q + 1, m)) = P) := hP
    simp only
    rw [hP]
    generalize tk L p = tp at HOP
    unfold z98 at HS0 HG0 HB0
    clear hfe hfd h hs e1 er hP
    go_enter Tryd.func79, Tryd.ntmps79
    go_wp2_with fail
    refine (HOP.out _ HS0.out).mono ?_
    rintro e w1 ⟨rfl, hp, hg⟩
    have HP1 : Hid (PS w1 pb g c L (p + 1) (o + 1) b n) := hp
    have HG1 : Hid (Gr w w1 pb) := HG0.out.trans hg
    have HB1 : Hid (w1.heap[w.heap.size]? = some z98) := (hg.blk (by simp) HPL.out.1).trans HB0.out
    have HL1 : Hid (w.heap.size < w1.heap.size) := by show _ < _; have := hg.size; simp at this; omega
    clear hp hg
    go_wp2_with fail
    refine (HEX.out _ HP1.out (HSG.out.gr HG1.out)).mono ?_
    rintro e w2 ⟨v, rfl, hes, hp, hg, hd, hm⟩
    have HP2 : Hid (PS w2 pb g c L q (o + 1) b m) := hp
    have HG2 : Hid (Gr w w2 pb) := HG1.out.trans hg
    have HB2 : Hid (w2.heap[w.heap.size]? = some z98) := (hg.blk HL1.out HPL.out.1).trans HB1.out
    have HL2 : Hid (w.heap.size < w2.heap.size) := Nat.lt_of_lt_of_le HL1.out hg.size
    have HE2 : Hid (ESl w2 w1.heap.size v x.args) := hes
    have HDM : Hid (x.deep ≤ 48 ∧ m ≤ 600) := ⟨hd, hm⟩
    obtain ⟨v1, v2, v3, rfl⟩ := hes.sl
    clear hp hg hes hd hm
    unfold rxv rx
    go_wp2_with fail
    have HP3 : Hid (PS (w2.alloc (pc (rx x (.slice v1 v2 v3)))) pb g c L q (o + 1) b m) := HP2.out.below ((Below.refl _ _).alloc (Nat.le_refl _) _)
    have HG3 : Hid (Gr w (w2.alloc (pc (rx x (.slice v1 v2 v3)))) pb) := HG2.out.alloc _
    have HB3 : Hid ((w2.alloc (pc (rx x (.slice v1 v2 v3)))).heap[w.heap.size]? = some z98) := (heap_alloc_old _ _ HL2.out).trans HB2.out
    have HC3 : Hid ((w2.alloc (pc (rx x (.slice v1 v2 v3)))).heap[w2.heap.size]? = some (pc (rx x (.slice v1 v2 v3)))) := heap_alloc_new _ _
    have HE3 : Hid (ESl (w2.alloc (pc (rx x (.slice v1 v2 v3)))) w1.heap.size (.slice v1 v2 v3) x.args) := HE2.out.below ((Below.refl _ _).alloc (Nat.le_refl _) _)
    have HL3 : Hid (w.heap.size < (w2.alloc (pc (rx x (.slice v1 v2 v3)))).heap.size ∧ w2.heap.size < (w2.alloc (pc (rx x (.slice v1 v2 v3)))).heap.size ∧ pb < w2.heap.size) := by have h1 := HL2.out; have h2 := HPL.out.1; exact ⟨by simp; omega, by simp, by omega⟩
    by_cases e3 : ¬ (tk L q).text = sb.data.toList
    · rw [if_pos e3] at HP
      refine (shuts_tkN sb HP3.out e3).mono ?_
      rintro e w4 ⟨rfl, hg⟩
      refine ⟨rfl, ?_⟩
      rw [← HP.out]
      exact ⟨rfl, HG3.out.trans hg⟩
    rw [if_neg e3] at HP
    replace e3 := Decidable.of_not_not e3
    refine (shuts_tk sb HP3.out ho e3 (hE.text (by rw [e3]; exact hb))).mono ?_
    rintro e w4 ⟨rfl, hp, hg⟩
    have HF := fun (he : ESl w4 w1.heap.size (.slice v1 v2 v3) x.args) (hb : w4.heap[w.heap.size]? = some z98) => give_part (k := w.heap.size) hp (HG3.out.trans hg) he (Nat.le_refl _) HL1.out hb HPL.out.1 HPL.out.2 HDM.out.1 HDM.out.2
    have B4 : w4.heap[w.heap.size]? = some z98 := (hg.blk HL3.out.1 HPL.out.1).trans HB3.out
    have C4 : w4.heap[w2.heap.size]? = some (pc (rx x (.slice v1 v2 v3))) := (hg.blk HL3.out.2.1 HL3.out.2.2).trans HC3.out
    have HF4 := HF (HE3.out.grr hg (Nat.lt_trans HPL.out.1 HL1.out)) B4
    rw [HP.out] at HF4
    obtain ⟨HF5, HF6⟩ := HF4
    have HF5' : Hid ((set6 w4 w.heap.size (.int .i64 x.kind) (.int .i64 x.num) (.string x.name) (.int .i64 x.op) (.slice v1 v2 v3) (.int .i64 (x.deep : Int))).heap[w.heap.size]? = some (pc (rx x (.slice v1 v2 v3)))) := HF5
    have HF6' : Hid (P (.returned (rxv (rx x (.slice v1 v2 v3)))) (set6 w4 w.heap.size (.int .i64 x.kind) (.int .i64 x.num) (.string x.name) (.int .i64 x.op) (.slice v1 v2 v3) (.int .i64 (x.deep : Int)))) := HF6
    obtain ⟨a0, a1, a2, a3, a4, a5, b0, b1, b2, b3, b4, b5⟩ := z98_c B4
    obtain ⟨d0, d1, d2, d3, d4, d5, _⟩ := pc_c C4
    unfold rx at d0 d1 d2 d3 d4 d5
    clear HF HF5 HF6 B4 C4 hp hg
    go_wp2
    exact bodyPost_ret (ret_part 6 Tryd.results79 _ w.heap.size rfl _ (rx x (.slice v1 v2 v3)) HF5'.out) rfl HF6'.out
end Go.Proofs.YtnofibjchhcmeabDoor
