/- The parser opens a bracket. -/
import Derived.Test.YtnofibjchhcmeabDoorLCut
namespace Go.Proofs.YtnofibjchhcmeabDoor
open Go.RowKit
set_option linter.unusedVariables false

/-- the row of tokens as it lies -/
def TAt (w : World) (g : Nat) (l : List Tok) : Prop := ∀ i (hi : i < l.length), w.cell? ⟨g, i * 4, none⟩ = some (.int .i64 l[i].kind) ∧ w.cell? ⟨g, i * 4 + 1, none⟩ = some (.string ⟨l[i].text.toArray⟩) ∧ w.cell? ⟨g, i * 4 + 2, none⟩ = some (.int .i64 l[i].num) ∧ w.cell? ⟨g, i * 4 + 3, none⟩ = some (.int .i64 (l[i].pos : Int))
/-- a parser's state: the struct lies in block pb, the tokens in block g; p of them are read -/
structure PS (w : World) (pb g c : Nat) (L : List Tok) (p o b n : Nat) : Prop where
  c0 : w.cell? ⟨pb, 0, none⟩ = some (.slice (some ⟨g, p * 4, none⟩) (L.length - p) (c - p))
  c1 : w.cell? ⟨pb, 1, none⟩ = some (.int .i64 (o : Int))
  c2 : w.cell? ⟨pb, 2, none⟩ = some (.int .i64 (b : Int))
  c3 : w.cell? ⟨pb, 3, none⟩ = some (.int .i64 (n : Int))
  f0 : w.frozen? ⟨pb, 0, none⟩ = false
  f1 : w.frozen? ⟨pb, 1, none⟩ = false
  f2 : w.frozen? ⟨pb, 2, none⟩ = false
  f3 : w.frozen? ⟨pb, 3, none⟩ = false
  lt : pb < w.heap.size
  gl : g < w.heap.size
  ne : g ≠ pb
  pl : p < L.length
  lc : L.length ≤ c
  cm : c ≤ 9223372036854775807
  tk : TAt w g L

theorem TAt.block {w w' : World} {g : Nat} {l : List Tok} (h : TAt w g l) (hb : w'.heap[g]? = w.heap[g]?) : TAt w' g l := fun i hi => by
  obtain ⟨c0, c1, c2, c3⟩ := h i hi
  exact ⟨(World.cell?_of_block (w := w) (a := ⟨g, i * 4, none⟩) hb).trans c0, (World.cell?_of_block (w := w) (a := ⟨g, i * 4 + 1, none⟩) hb).trans c1, (World.cell?_of_block (w := w) (a := ⟨g, i * 4 + 2, none⟩) hb).trans c2, (World.cell?_of_block (w := w) (a := ⟨g, i * 4 + 3, none⟩) hb).trans c3⟩
theorem PS.below {w w' : World} {pb g c p o b n : Nat} {L : List Tok} (h : PS w pb g c L p o b n) (hb : Below w.heap.size w w') : PS w' pb g c L p o b n :=
  ⟨(hb.cell (p := ⟨pb, 0, none⟩) h.lt).trans h.c0, (hb.cell (p := ⟨pb, 1, none⟩) h.lt).trans h.c1, (hb.cell (p := ⟨pb, 2, none⟩) h.lt).trans h.c2, (hb.cell (p := ⟨pb, 3, none⟩) h.lt).trans h.c3,
   (hb.frozen (p := ⟨pb, 0, none⟩) h.lt).trans h.f0, (hb.frozen (p := ⟨pb, 1, none⟩) h.lt).trans h.f1, (hb.frozen (p := ⟨pb, 2, none⟩) h.lt).trans h.f2, (hb.frozen (p := ⟨pb, 3, none⟩) h.lt).trans h.f3,
   Nat.lt_of_lt_of_le h.lt hb.size, Nat.lt_of_lt_of_le h.gl hb.size, h.ne, h.pl, h.lc, h.cm, h.tk.block (hb.block g h.gl)⟩
theorem PS.drew {w : World} {pb g c p o b n : Nat} {L : List Tok} (h : PS w pb g c L p o b n) : PS w.drew pb g c L p o b n :=
  ⟨h.c0, h.c1, h.c2, h.c3, h.f0, h.f1, h.f2, h.f3, h.lt, h.gl, h.ne, h.pl, h.lc, h.cm, h.tk⟩

theorem cell_set_ne (w : World) (b i j : Nat) (v : Value) (h : i ≠ j) : (w.setCell ⟨b, i, none⟩ v).cell? ⟨b, j, none⟩ = w.cell? ⟨b, j, none⟩ := World.cell?_setCell_other w _ _ _ (by intro e; cases e; exact h rfl)
theorem PS.set {w : World} {pb g c p o b n : Nat} {L : List Tok} (h : PS w pb g c L p o b n) (i : Nat) (v : Value) (p' o' b' n' : Nat)
    (h0 : (i = 0 ∧ v = .slice (some ⟨g, p' * 4, none⟩) (L.length - p') (c - p')) ∨ (i ≠ 0 ∧ p' = p)) (h1 : (i = 1 ∧ v = .int .i64 (o' : Int)) ∨ (i ≠ 1 ∧ o' = o)) (h2 : (i = 2 ∧ v = .int .i64 (b' : Int)) ∨ (i ≠ 2 ∧ b' = b)) (h3 : (i = 3 ∧ v = .int .i64 (n' : Int)) ∨ (i ≠ 3 ∧ n' = n)) (hp : p' < L.length) :
    PS (w.setCell ⟨pb, i, none⟩ v) pb g c L p' o' b' n' := by
  refine ⟨?_, ?_, ?_, ?_, by simpa using h.f0, by simpa using h.f1, by simpa using h.f2, by simpa using h.f3, by simpa [World.setCell] using h.lt, by simpa [World.setCell] using h.gl, h.ne, hp, h.lc, h.cm, h.tk.block (Below.heap_setCell _ _ _ _ h.ne)⟩
  · rcases h0 with ⟨rfl, rfl⟩ | ⟨hi, rfl⟩
    · exact World.cell?_setCell_same w _ _ h.c0
    · rw [cell_set_ne _ _ _ _ _ hi]; exact h.c0
  · rcases h1 with ⟨rfl, rfl⟩ | ⟨hi, rfl⟩
    · exact World.cell?_setCell_same w _ _ h.c1
    · rw [cell_set_ne _ _ _ _ _ hi]; exact h.c1
  · rcases h2 with ⟨rfl, rfl⟩ | ⟨hi, rfl⟩
    · exact World.cell?_setCell_same w _ _ h.c2
    · rw [cell_set_ne _ _ _ _ _ hi]; exact h.c2
  · rcases h3 with ⟨rfl, rfl⟩ | ⟨hi, rfl⟩
    · exact World.cell?_setCell_same w _ _ h.c3
    · rw [cell_set_ne _ _ _ _ _ hi]; exact h.c3
theorem PS.step {w : World} {pb g c p o b n : Nat} {L : List Tok} (h : PS w pb g c L p o b n) (h1 : p + 1 < L.length) : PS (w.setCell ⟨pb, 0, none⟩ (.slice (some ⟨g, (p + 1) * 4, none⟩) (L.length - (p + 1)) (c - (p + 1)))) pb g c L (p + 1) o b n :=
  h.set 0 _ (p + 1) o b n (Or.inl ⟨rfl, rfl⟩) (Or.inr ⟨by omega, rfl⟩) (Or.inr ⟨by omega, rfl⟩) (Or.inr ⟨by omega, rfl⟩) h1
theorem PS.set1 {w : World} {pb g c p o b n : Nat} {L : List Tok} (h : PS w pb g c L p o b n) (o' : Nat) : PS (w.setCell ⟨pb, 1, none⟩ (.int .i64 (o' : Int))) pb g c L p o' b n :=
  h.set 1 _ p o' b n (Or.inr ⟨by omega, rfl⟩) (Or.inl ⟨rfl, rfl⟩) (Or.inr ⟨by omega, rfl⟩) (Or.inr ⟨by omega, rfl⟩) h.pl
theorem PS.set2 {w : World} {pb g c p o b n : Nat} {L : List Tok} (h : PS w pb g c L p o b n) (b' : Nat) : PS (w.setCell ⟨pb, 2, none⟩ (.int .i64 (b' : Int))) pb g c L p o b' n :=
  h.set 2 _ p o b' n (Or.inr ⟨by omega, rfl⟩) (Or.inr ⟨by omega, rfl⟩) (Or.inl ⟨rfl, rfl⟩) (Or.inr ⟨by omega, rfl⟩) h.pl
theorem PS.set3 {w : World} {pb g c p o b n : Nat} {L : List Tok} (h : PS w pb g c L p o b n) (n' : Nat) : PS (w.setCell ⟨pb, 3, none⟩ (.int .i64 (n' : Int))) pb g c L p o b n' :=
  h.set 3 _ p o b n' (Or.inr ⟨by omega, rfl⟩) (Or.inr ⟨by omega, rfl⟩) (Or.inr ⟨by omega, rfl⟩) (Or.inl ⟨rfl, rfl⟩) h.pl
theorem PS.setNew {w : World} {pb g c p o b n bb i : Nat} {L : List Tok} (h : PS w pb g c L p o b n) (h1 : pb ≠ bb) (h2 : g ≠ bb) (v : Value) : PS (w.setCell ⟨bb, i, none⟩ v) pb g c L p o b n := by
  have e : (w.setCell ⟨bb, i, none⟩ v).heap[pb]? = w.heap[pb]? := Below.heap_setCell _ _ _ _ h1
  exact ⟨(World.cell?_of_block (w := w) (a := ⟨pb, 0, none⟩) e).trans h.c0, (World.cell?_of_block (w := w) (a := ⟨pb, 1, none⟩) e).trans h.c1, (World.cell?_of_block (w := w) (a := ⟨pb, 2, none⟩) e).trans h.c2, (World.cell?_of_block (w := w) (a := ⟨pb, 3, none⟩) e).trans h.c3,
    (World.frozen?_of_block (w := w) (a := ⟨pb, 0, none⟩) e).trans h.f0, (World.frozen?_of_block (w := w) (a := ⟨pb, 1, none⟩) e).trans h.f1, (World.frozen?_of_block (w := w) (a := ⟨pb, 2, none⟩) e).trans h.f2, (World.frozen?_of_block (w := w) (a := ⟨pb, 3, none⟩) e).trans h.f3,
    by simpa [World.setCell] using h.lt, by simpa [World.setCell] using h.gl, h.ne, h.pl, h.lc, h.cm, h.tk.block (Below.heap_setCell _ _ _ _ h2)⟩
theorem Four.new (w : World) (a0 a1 a2 a3 : Value) : Four (w.alloc (.cells #[a0, a1, a2, a3] 84)) w.heap.size a0 a1 a2 a3 :=
  ⟨by simp, by simp, by simp, by simp, by simp, by simp, by simp, by simp⟩

/-- a token as a value -/
def tv (t : Tok) : Value := .agg #[.int .i64 t.kind, .string ⟨t.text.toArray⟩, .int .i64 t.num, .int .i64 (t.pos : Int)]

set_option maxRecDepth 100000 in
set_option maxHeartbeats 1000000 in
theorem look_any (pb g c : Nat) (L : List Tok) (p o b n : Nat) (w : World) (h : PS w pb g c L p o b n) :
    Calls Tryd.prog 46 #[.pointer (some ⟨pb, 0, none⟩)] w fun e w' => e = .returned (tv (L[p]'h.pl)) ∧ Below w.heap.size w w' := by
  have HP : Hid (PS w pb g c L p o b n) := h
  obtain ⟨u0, u1, u2, u3⟩ := h.tk p h.pl
  have c0 := h.c0
  have hpl := h.pl
  have hlc := h.lc
  have hcm := h.cm
  have hgl := h.gl
  have hlt := h.lt
  unfold tv
  generalize L[p].kind = kd at u0 ⊢
  generalize (⟨L[p].text.toArray⟩ : ByteArray) = T at u1 ⊢
  generalize L[p].num = nm at u2 ⊢
  generalize L[p].pos = px at u3 ⊢
  clear h
  go_enter Tryd.func46, Tryd.ntmps46
  go_wp2
  refine bodyPost_ret (ret_tok Tryd.results46 _ w.heap.size rfl _ (Four.new w _ _ _ _)) rfl ?_
  exact ⟨rfl, (Below.refl _ _).alloc (Nat.le_refl _) _⟩

set_option maxRecDepth 100000 in
set_option maxHeartbeats 1000000 in
theorem next_any (pb g c : Nat) (L : List Tok) (p o b n : Nat) (w : World) (h : PS w pb g c L p o b n) (h1 : p + 1 < L.length) :
    Calls Tryd.prog 75 #[.pointer (some ⟨pb, 0, none⟩)] w fun e w' => e = .returned (tv (L[p]'h.pl)) ∧ PS w' pb g c L (p + 1) o b n ∧ Gr w w' pb := by
  have HP : Hid (PS w pb g c L p o b n) := h
  obtain ⟨u0, u1, u2, u3⟩ := h.tk p h.pl
  have c0 := h.c0
  have f0 := h.f0
  have hpl := h.pl
  have hlc := h.lc
  have hcm := h.cm
  have hgl := h.gl
  have hlt := h.lt
  unfold tv
  generalize L[p].kind = kd at u0 ⊢
  generalize (⟨L[p].text.toArray⟩ : ByteArray) = T at u1 ⊢
  generalize L[p].num = nm at u2 ⊢
  generalize L[p].pos = px at u3 ⊢
  obtain ⟨m, hm⟩ : ∃ m, L.length - p = m + 1 := ⟨L.length - p - 1, by omega⟩
  obtain ⟨d, hd⟩ : ∃ d, c - p = d + 1 := ⟨c - p - 1, by omega⟩
  have hmd : m ≤ d := by omega
  have hm1 : 1 ≤ m := by omega
  have hdm : d ≤ 9223372036854775807 := by omega
  have HM : Hid (L.length - (p + 1) = m) := by show _ = _; omega
  have HD : Hid (c - (p + 1) = d) := by show _ = _; omega
  have HL : Hid (p + 1 < L.length) := h1
  rw [hm, hd] at c0
  have hd0 : ¬ d = 0 := by omega
  have hd1 : ¬ d + 1 = 1 := by omega
  clear h hm hd hlc hcm hpl h1
  go_enter Tryd.func75, Tryd.ntmps75
  go_wp2
  have HN := HP.out.step HL.out
  rw [HM.out, HD.out, Nat.add_mul, Nat.one_mul] at HN
  have HS : (w.setCell ⟨pb, 0, none⟩ (.slice (some ⟨g, p * 4 + 4, none⟩) m d)).heap.size = w.heap.size := by simp [World.setCell]
  refine bodyPost_ret (ret_tok Tryd.results75 _ w.heap.size rfl _ (a0 := .int .i64 kd) (a1 := .string T) (a2 := .int .i64 nm) (a3 := .int .i64 (px : Int)) ?_) rfl ?_
  · have h2 := Four.new (w.setCell ⟨pb, 0, none⟩ (.slice (some ⟨g, p * 4 + 4, none⟩) m d)) (.int .i64 kd) (.string T) (.int .i64 nm) (.int .i64 (px : Int))
    rw [HS] at h2
    exact h2.keep (Below.heap_alloc _ _ _ (by simp [World.setCell]))
  · exact ⟨rfl, HN.below (((Below.refl _ _).alloc (Nat.le_refl _) _).alloc (by simp) _), (((Gr.refl w pb).set 0 _).alloc _).alloc _⟩

theorem ret_tokN {fn : Func} (k : Nat) (h : fn.results = #[.cell k 84]) (tmps : Array Value) (b : Nat) (hb : tmps[k]?.getD undef = .pointer (some ⟨b, 0, none⟩)) (W : World) {a0 a1 a2 a3 : Value} (F : Four W b a0 a1 a2 a3) :
    (results fn tmps).run Tryd.prog W = .ok (.agg #[a0, a1, a2, a3]) W := by
  obtain ⟨c0, c1, c2, c3, _, _, _, _⟩ := F
  simp [results, h, hb, go_sem, c0, c1, c2, c3]
theorem fld0 (W : World) (a0 a1 a2 a3 : Value) : (Instr.field 84 (.agg #[a0, a1, a2, a3]) 0).run Tryd.prog W = .ok a0 W := by kernel_rfl
theorem fld1 (W : World) (a0 a1 a2 a3 : Value) : (Instr.field 84 (.agg #[a0, a1, a2, a3]) 1).run Tryd.prog W = .ok a1 W := by kernel_rfl
theorem fld2 (W : World) (a0 a1 a2 a3 : Value) : (Instr.field 84 (.agg #[a0, a1, a2, a3]) 2).run Tryd.prog W = .ok a2 W := by kernel_rfl
theorem fld3 (W : World) (a0 a1 a2 a3 : Value) : (Instr.field 84 (.agg #[a0, a1, a2, a3]) 3).run Tryd.prog W = .ok a3 W := by kernel_rfl
/-- a parser gives up -/
def gaveUpT (k e : Int) : Ending := .panicked [{ v := .iface 60 (.agg #[.int .i64 k, .int .i64 e]), recovered := false }]
set_option maxRecDepth 100000 in
set_option maxHeartbeats 400000 in
theorem giveUpT_any (k n : Int) (w : World) : Calls Tryd.prog 85 #[.int .i64 k, .int .i64 n] w fun e w' => e = gaveUpT k n ∧ w' = w := by
  go_enter Tryd.func85, Tryd.ntmps85
  go_wp2
  exact ⟨rfl, rfl, rfl⟩

set_option maxRecDepth 100000 in
set_option maxHeartbeats 1000000 in
theorem cannotStand_any (pb g c : Nat) (L : List Tok) (p o b n : Nat) (w : World) (h : PS w pb g c L p o b n) :
    Calls Tryd.prog 63 #[.pointer (some ⟨pb, 0, none⟩)] w fun e w' => e = gaveUpT ((L[p]'h.pl).pos : Int) 40 ∧ Below w.heap.size w w' := by
  have HP : Hid (PS w pb g c L p o b n) := h
  have HLK := look_any pb g c L p o b n w h
  have HK : Hid (Calls Tryd.prog 46 #[.pointer (some ⟨pb, 0, none⟩)] w fun e w' => e = .returned (tv (L[p]'h.pl)) ∧ Below w.heap.size w w') := HLK
  unfold tv at HK
  generalize (L[p]'h.pl) = t at HK ⊢
  clear h HLK
  have k3 := fld3
  go_enter Tryd.func63, Tryd.ntmps63
  go_wp2_with fail
  refine HK.out.mono ?_
  rintro e w1 ⟨rfl, hb1⟩
  have HB1 : Hid (Below w.heap.size w w1) := hb1
  have hs1 := hb1.size
  clear hb1
  go_wp2_with fail
  refine (giveUpT_any _ _ _).mono ?_
  rintro e w2 ⟨rfl, hw2⟩
  rw [hw2]
  exact ⟨rfl, rfl, HB1.out⟩

theorem text_eq (t : Tok) (s : ByteArray) : ((⟨t.text.toArray⟩ : ByteArray).toList == s.toList) = (t.text == s.data.toList) := by
  rw [ByteArray.toList_eq, ByteArray.toList_eq]

set_option maxRecDepth 100000 in
set_option maxHeartbeats 1000000 in
theorem looksAt_any (pb g c : Nat) (L : List Tok) (p o b n : Nat) (s : ByteArray) (w : World) (h : PS w pb g c L p o b n) :
    Calls Tryd.prog 83 #[.pointer (some ⟨pb, 0, none⟩), .string s] w fun e w' => e = .returned (.bool ((L[p]'h.pl).text == s.data.toList)) ∧ Below w.heap.size w w' := by
  have HP : Hid (PS w pb g c L p o b n) := h
  have HLK := look_any pb g c L p o b n w h
  have HK : Hid (Calls Tryd.prog 46 #[.pointer (some ⟨pb, 0, none⟩)] w fun e w' => e = .returned (tv (L[p]'h.pl)) ∧ Below w.heap.size w w') := HLK
  unfold tv at HK
  generalize (L[p]'h.pl) = t at HK ⊢
  clear h HLK
  rw [← ByteArray.toList_eq]
  have k1 := fld1
  go_enter Tryd.func83, Tryd.ntmps83
  go_wp2_with fail
  refine HK.out.mono ?_
  rintro e w1 ⟨rfl, hb1⟩
  have HB1 : Hid (Below w.heap.size w w1) := hb1
  clear hb1
  go_wp2
  go_ret
  exact ⟨rfl, HB1.out⟩

/-- what comes of a token that must stand here -/
def TakePost (w : World) (pb g c : Nat) (L : List Tok) (p o b n : Nat) (t : Tok) (ok : Bool) (e : Ending) (w' : World) : Prop :=
  if ok = true then e = .returned (tv t) ∧ PS w' pb g c L (p + 1) o b n ∧ Gr w w' pb else e = gaveUpT (t.pos : Int) 40 ∧ Gr w w' pb
theorem Gr.below {w w' : World} {pb : Nat} (h : Below w.heap.size w w') : Gr w w' pb := ⟨h.os, h.tape, h.output, h.size, fun i hi _ => h.block i hi⟩

set_option maxRecDepth 100000 in
set_option maxHeartbeats 1000000 in
theorem take_any (pb g c : Nat) (L : List Tok) (p o b n : Nat) (s : ByteArray) (w : World) (h : PS w pb g c L p o b n) (h1 : (L[p]'h.pl).text = s.data.toList → p + 1 < L.length) :
    Calls Tryd.prog 81 #[.pointer (some ⟨pb, 0, none⟩), .string s] w fun e w' => TakePost w pb g c L p o b n (L[p]'h.pl) ((L[p]'h.pl).text == s.data.toList) e w' := by
  have HP : Hid (PS w pb g c L p o b n) := h
  have hws : w.heap.size ≤ (w.alloc (.cells #[.int .i64 0, .string ⟨#[]⟩, .int .i64 0, .int .i64 0] 84)).heap.size := by simp
  have HB0 : Hid (Below w.heap.size w (w.alloc (.cells #[.int .i64 0, .string ⟨#[]⟩, .int .i64 0, .int .i64 0] 84))) := (Below.refl _ _).alloc (Nat.le_refl _) _
  have HP0 : Hid (PS (w.alloc (.cells #[.int .i64 0, .string ⟨#[]⟩, .int .i64 0, .int .i64 0] 84)) pb g c L p o b n) := h.below HB0.out
  have HPL : Hid (p < L.length) := h.pl
  rcases e : ((L[p]'h.pl).text == s.data.toList) with _ | _
  · have HE : Hid (((L[p]'HPL.out).text == s.data.toList) = false) := e
    clear e h1
    go_enter Tryd.func81, Tryd.ntmps81
    go_wp2_with fail
    refine (looksAt_any pb g c L p o b n s _ HP0.out).mono ?_
    rintro e w1 ⟨rfl, hb1⟩
    rw [HE.out]
    have HB1 : Hid (Below w.heap.size w w1) := HB0.out.trans (hb1.mono hws)
    have HP1 : Hid (PS w1 pb g c L p o b n) := HP.out.below HB1.out
    clear hb1
    go_wp2_with fail
    refine (cannotStand_any pb g c L p o b n _ HP1.out).mono ?_
    rintro e w2 ⟨rfl, hb2⟩
    exact ⟨rfl, rfl, Gr.below (HB1.out.trans (hb2.mono HB1.out.size))⟩
  · have HE : Hid (((L[p]'HPL.out).text == s.data.toList) = true) := e
    have HLL : Hid (p + 1 < L.length) := h1 (by simpa using e)
    clear e h1
    go_enter Tryd.func81, Tryd.ntmps81
    go_wp2_with fail
    refine (looksAt_any pb g c L p o b n s _ HP0.out).mono ?_
    rintro e w1 ⟨rfl, hb1⟩
    rw [HE.out]
    have HB1 : Hid (Below w.heap.size w w1) := HB0.out.trans (hb1.mono hws)
    have HP1 : Hid (PS w1 pb g c L p o b n) := HP.out.below HB1.out
    have HF1 : Hid (Four w1 w.heap.size (.int .i64 0) (.string ⟨#[]⟩) (.int .i64 0) (.int .i64 0)) := (Four.new w _ _ _ _).keep (hb1.block _ (by simp))
    clear hb1
    go_wp2_with fail
    refine (next_any pb g c L p o b n _ HP1.out HLL.out).mono ?_
    rintro e w2 ⟨rfl, hp2, hg2⟩
    have HP2 : Hid (PS w2 pb g c L (p + 1) o b n) := hp2
    have HG2 : Hid (Gr w w2 pb) := (Gr.below HB1.out).trans hg2
    have hpbne : pb ≠ w.heap.size := by have := HP.out.lt; omega
    have F2 : Four w2 w.heap.size (.int .i64 0) (.string ⟨#[]⟩) (.int .i64 0) (.int .i64 0) := HF1.out.keep (hg2.block _ (by have := HB1.out.size; have := HF1.out.c0; exact World.block_lt_of_cell? w1 _ this) (by intro e; cases e; exact hpbne rfl))
    have HF2 : Hid (Four w2 w.heap.size (.int .i64 0) (.string ⟨#[]⟩) (.int .i64 0) (.int .i64 0)) := F2
    obtain ⟨a0, a1, a2, a3, b0, b1, b2, b3⟩ := F2
    clear hp2 hg2
    unfold tv
    go_wp2
    refine bodyPost_ret (ret_tokN 4 Tryd.results81 _ w.heap.size rfl _ (HF2.out.stored _ _ _ _)) rfl ?_
    refine ⟨rfl, ?_, ?_⟩
    · have hgn : g ≠ w.heap.size := by have := HP.out.gl; omega
      exact (((HP2.out.setNew hpbne hgn _).setNew hpbne hgn _).setNew hpbne hgn _).setNew hpbne hgn _
    · exact (((HG2.out.setNew (Nat.le_refl _) _).setNew (Nat.le_refl _) _).setNew (Nat.le_refl _) _).setNew (Nat.le_refl _) _
end Go.Proofs.YtnofibjchhcmeabDoor
namespace Go.Proofs.YtnofibjchhcmeabDoor
open Go.RowKit
set_option linter.unusedVariables false

set_option maxRecDepth 100000 in
set_option maxHeartbeats 1000000 in
theorem count_ok (pb g c : Nat) (L : List Tok) (p o b n : Nat) (t : Tok) (w : World) (h : PS w pb g c L p o b n) (hn : n + 1 ≤ 600) :
    Calls Tryd.prog 91 #[.pointer (some ⟨pb, 0, none⟩), tv t] w fun e w' => e = .returned (.tuple #[]) ∧ PS w' pb g c L p o b (n + 1) ∧ Gr w w' pb := by
  have HP : Hid (PS w pb g c L p o b n) := h
  have c3 := h.c3
  have f3 := h.f3
  have hlt := h.lt
  unfold tv
  have k3 := fld3
  clear h
  go_enter Tryd.func91, Tryd.ntmps91
  go_wp2
  go_end0
  exact ⟨rfl, (HP.out.set3 (n + 1)).below ((Below.refl _ _).alloc (Nat.le_refl _) _), ((Gr.refl w pb).set 3 _).alloc _⟩

set_option maxRecDepth 100000 in
set_option maxHeartbeats 1000000 in
theorem count_bad (pb g c : Nat) (L : List Tok) (p o b n : Nat) (t : Tok) (w : World) (h : PS w pb g c L p o b n) (hn : 600 < n + 1) (hn2 : n ≤ 100000) :
    Calls Tryd.prog 91 #[.pointer (some ⟨pb, 0, none⟩), tv t] w fun e w' => e = gaveUpT (t.pos : Int) 42 ∧ Gr w w' pb := by
  have HP : Hid (PS w pb g c L p o b n) := h
  have c3 := h.c3
  have f3 := h.f3
  have hlt := h.lt
  unfold tv
  have k3 := fld3
  clear h
  go_enter Tryd.func91, Tryd.ntmps91
  go_wp2_with fail
  refine (giveUpT_any _ _ _).mono ?_
  rintro e w2 ⟨rfl, hw2⟩
  rw [hw2]
  exact ⟨rfl, rfl, ((Gr.refl w pb).set 3 _).alloc _⟩

set_option maxRecDepth 100000 in
set_option maxHeartbeats 1000000 in
theorem enters_ok (pb g c : Nat) (L : List Tok) (p o b n : Nat) (t : Tok) (w : World) (h : PS w pb g c L p o b n) (hn : b < 12) :
    Calls Tryd.prog 95 #[.pointer (some ⟨pb, 0, none⟩), tv t] w fun e w' => e = .returned (.tuple #[]) ∧ PS w' pb g c L p o (b + 1) n ∧ Gr w w' pb := by
  have HP : Hid (PS w pb g c L p o b n) := h
  have c2 := h.c2
  have f2 := h.f2
  have hlt := h.lt
  unfold tv
  have k3 := fld3
  clear h
  go_enter Tryd.func95, Tryd.ntmps95
  go_wp2
  go_end0
  exact ⟨rfl, (HP.out.set2 (b + 1)).below ((Below.refl _ _).alloc (Nat.le_refl _) _), ((Gr.refl w pb).set 2 _).alloc _⟩

set_option maxRecDepth 100000 in
set_option maxHeartbeats 1000000 in
theorem enters_bad (pb g c : Nat) (L : List Tok) (p o b n : Nat) (t : Tok) (w : World) (h : PS w pb g c L p o b n) (hn : 12 ≤ b) (hn2 : b ≤ 100000) :
    Calls Tryd.prog 95 #[.pointer (some ⟨pb, 0, none⟩), tv t] w fun e w' => e = gaveUpT (t.pos : Int) 41 ∧ Gr w w' pb := by
  have HP : Hid (PS w pb g c L p o b n) := h
  have c2 := h.c2
  have f2 := h.f2
  have hlt := h.lt
  unfold tv
  have k3 := fld3
  clear h
  go_enter Tryd.func95, Tryd.ntmps95
  go_wp2_with fail
  refine (giveUpT_any _ _ _).mono ?_
  rintro e w2 ⟨rfl, hw2⟩
  rw [hw2]
  exact ⟨rfl, rfl, (Gr.refl w pb).alloc _⟩

set_option maxRecDepth 100000 in
set_option maxHeartbeats 1000000 in
theorem takeKind_any (pb g c : Nat) (L : List Tok) (p o b n : Nat) (k : Int) (w : World) (h : PS w pb g c L p o b n) (h1 : (L[p]'h.pl).kind = k → p + 1 < L.length) :
    Calls Tryd.prog 78 #[.pointer (some ⟨pb, 0, none⟩), .int .i64 k] w fun e w' => TakePost w pb g c L p o b n (L[p]'h.pl) (decide ((L[p]'h.pl).kind = k)) e w' := by
  have HP : Hid (PS w pb g c L p o b n) := h
  have hws : w.heap.size ≤ (w.alloc (.cells #[.int .i64 0, .string ⟨#[]⟩, .int .i64 0, .int .i64 0] 84)).heap.size := by simp
  have HB0 : Hid (Below w.heap.size w (w.alloc (.cells #[.int .i64 0, .string ⟨#[]⟩, .int .i64 0, .int .i64 0] 84))) := (Below.refl _ _).alloc (Nat.le_refl _) _
  have HP0 : Hid (PS (w.alloc (.cells #[.int .i64 0, .string ⟨#[]⟩, .int .i64 0, .int .i64 0] 84)) pb g c L p o b n) := h.below HB0.out
  have HPL : Hid (p < L.length) := h.pl
  have k0 := fld0
  by_cases e : (L[p]'h.pl).kind = k
  · rw [decide_eq_true e]
    have HLL : Hid (p + 1 < L.length) := h1 e
    have HK : Hid (∀ W, PS W pb g c L p o b n → Calls Tryd.prog 46 #[.pointer (some ⟨pb, 0, none⟩)] W fun e w' => (∃ s m q, e = .returned (.agg #[.int .i64 k, .string s, .int .i64 m, .int .i64 q])) ∧ Below W.heap.size W w') := fun W hW => (look_any pb g c L p o b n W hW).mono fun e' w' ⟨x1, x2⟩ => ⟨⟨⟨L[p].text.toArray⟩, L[p].num, (L[p].pos : Int), by rw [x1, ← e]; rfl⟩, x2⟩
    clear e h1
    go_enter Tryd.func78, Tryd.ntmps78
    go_wp2_with fail
    refine (HK.out _ HP0.out).mono ?_
    rintro e w1 ⟨⟨sx, mx, qx, rfl⟩, hb1⟩
    have HB1 : Hid (Below w.heap.size w w1) := HB0.out.trans (hb1.mono hws)
    have HP1 : Hid (PS w1 pb g c L p o b n) := HP.out.below HB1.out
    have HF1 : Hid (Four w1 w.heap.size (.int .i64 0) (.string ⟨#[]⟩) (.int .i64 0) (.int .i64 0)) := (Four.new w _ _ _ _).keep (hb1.block _ (by simp))
    clear hb1
    go_wp2_with fail
    refine (next_any pb g c L p o b n _ HP1.out HLL.out).mono ?_
    rintro e w2 ⟨rfl, hp2, hg2⟩
    have HP2 : Hid (PS w2 pb g c L (p + 1) o b n) := hp2
    have HG2 : Hid (Gr w w2 pb) := (Gr.below HB1.out).trans hg2
    have hpbne : pb ≠ w.heap.size := by have := HP.out.lt; omega
    have F2 : Four w2 w.heap.size (.int .i64 0) (.string ⟨#[]⟩) (.int .i64 0) (.int .i64 0) := HF1.out.keep (hg2.block _ (by have := HB1.out.size; have := HF1.out.c0; exact World.block_lt_of_cell? w1 _ this) (by intro e; cases e; exact hpbne rfl))
    have HF2 : Hid (Four w2 w.heap.size (.int .i64 0) (.string ⟨#[]⟩) (.int .i64 0) (.int .i64 0)) := F2
    obtain ⟨a0, a1, a2, a3, b0, b1, b2, b3⟩ := F2
    clear hp2 hg2
    unfold tv
    go_wp2
    refine bodyPost_ret (ret_tokN 4 Tryd.results78 _ w.heap.size rfl _ (HF2.out.stored _ _ _ _)) rfl ?_
    refine ⟨rfl, ?_, ?_⟩
    · have hgn : g ≠ w.heap.size := by have := HP.out.gl; omega
      exact (((HP2.out.setNew hpbne hgn _).setNew hpbne hgn _).setNew hpbne hgn _).setNew hpbne hgn _
    · exact (((HG2.out.setNew (Nat.le_refl _) _).setNew (Nat.le_refl _) _).setNew (Nat.le_refl _) _).setNew (Nat.le_refl _) _
  · rw [decide_eq_false e]
    have HK : Hid (∀ W, PS W pb g c L p o b n → Calls Tryd.prog 46 #[.pointer (some ⟨pb, 0, none⟩)] W fun e w' => (∃ kx s m q, ¬ kx = k ∧ e = .returned (.agg #[.int .i64 kx, .string s, .int .i64 m, .int .i64 q])) ∧ Below W.heap.size W w') := fun W hW => (look_any pb g c L p o b n W hW).mono fun e' w' ⟨x1, x2⟩ => ⟨⟨_, _, _, _, e, x1⟩, x2⟩
    clear e h1
    go_enter Tryd.func78, Tryd.ntmps78
    go_wp2_with fail
    refine (HK.out _ HP0.out).mono ?_
    rintro e w1 ⟨⟨kx, sx, mx, qx, hne, rfl⟩, hb1⟩
    have HB1 : Hid (Below w.heap.size w w1) := HB0.out.trans (hb1.mono hws)
    have HP1 : Hid (PS w1 pb g c L p o b n) := HP.out.below HB1.out
    clear hb1
    go_wp2_with fail
    refine (cannotStand_any pb g c L p o b n _ HP1.out).mono ?_
    rintro e w2 ⟨rfl, hb2⟩
    exact ⟨rfl, rfl, Gr.below (HB1.out.trans (hb2.mono HB1.out.size))⟩

theorem take_ok (pb g c : Nat) (L : List Tok) (p o b n : Nat) (s : ByteArray) (w : World) (h : PS w pb g c L p o b n) (he : (L[p]'h.pl).text = s.data.toList) (h1 : p + 1 < L.length) :
    Calls Tryd.prog 81 #[.pointer (some ⟨pb, 0, none⟩), .string s] w fun e w' => e = .returned (tv (L[p]'h.pl)) ∧ PS w' pb g c L (p + 1) o b n ∧ Gr w w' pb :=
  (take_any pb g c L p o b n s w h (fun _ => h1)).mono fun e w' hp => by
    unfold TakePost at hp
    rw [if_pos (by simpa using he)] at hp
    exact hp
theorem take_bad (pb g c : Nat) (L : List Tok) (p o b n : Nat) (s : ByteArray) (w : World) (h : PS w pb g c L p o b n) (he : ¬ (L[p]'h.pl).text = s.data.toList) :
    Calls Tryd.prog 81 #[.pointer (some ⟨pb, 0, none⟩), .string s] w fun e w' => e = gaveUpT ((L[p]'h.pl).pos : Int) 40 ∧ Gr w w' pb :=
  (take_any pb g c L p o b n s w h (fun e => absurd e he)).mono fun e w' hp => by
    unfold TakePost at hp
    rw [if_neg (by simpa using he)] at hp
    exact hp

set_option maxRecDepth 100000 in
set_option maxHeartbeats 1000000 in
theorem shuts_ok (pb g c : Nat) (L : List Tok) (p o b n : Nat) (s : ByteArray) (w : World) (h : PS w pb g c L p (o + 1) b n) (ho : o ≤ 100000) (he : (L[p]'h.pl).text = s.data.toList) (h1 : p + 1 < L.length) :
    Calls Tryd.prog 94 #[.pointer (some ⟨pb, 0, none⟩), .string s] w fun e w' => e = .returned (.tuple #[]) ∧ PS w' pb g c L (p + 1) o b n ∧ Gr w w' pb := by
  have HT := take_ok pb g c L p (o + 1) b n s w h he h1
  unfold tv at HT
  generalize L[p]'h.pl = t at HT
  have HT' : Hid (Calls Tryd.prog 81 #[.pointer (some ⟨pb, 0, none⟩), .string s] w fun e w' => e = .returned (.agg #[.int .i64 t.kind, .string ⟨t.text.toArray⟩, .int .i64 t.num, .int .i64 (t.pos : Int)]) ∧ PS w' pb g c L (p + 1) (o + 1) b n ∧ Gr w w' pb) := HT
  have hlt := h.lt
  clear h h1 HT he
  go_enter Tryd.func94, Tryd.ntmps94
  go_wp2_with fail
  refine HT'.out.mono ?_
  rintro e w1 ⟨rfl, hp, hg⟩
  have HP : Hid (PS w1 pb g c L (p + 1) (o + 1) b n) := hp
  have HG : Hid (Gr w w1 pb) := hg
  have c1 := hp.c1
  have f1 := hp.f1
  have hl1 := hp.lt
  have hco : ((o + 1 : Nat) : Int) = (o : Int) + 1 := by omega
  rw [hco] at c1
  clear hp hg hco
  go_wp2
  go_end0
  refine ⟨rfl, ?_, ?_⟩
  · have h2 := HP.out.set1 o
    simpa using h2
  · exact HG.out.set 1 _
set_option maxRecDepth 100000 in
set_option maxHeartbeats 1000000 in
theorem shuts_bad (pb g c : Nat) (L : List Tok) (p o b n : Nat) (s : ByteArray) (w : World) (h : PS w pb g c L p o b n) (he : ¬ (L[p]'h.pl).text = s.data.toList) :
    Calls Tryd.prog 94 #[.pointer (some ⟨pb, 0, none⟩), .string s] w fun e w' => e = gaveUpT ((L[p]'h.pl).pos : Int) 40 ∧ Gr w w' pb := by
  have HT := take_bad pb g c L p o b n s w h he
  generalize L[p]'h.pl = t at HT ⊢
  have HT' : Hid (Calls Tryd.prog 81 #[.pointer (some ⟨pb, 0, none⟩), .string s] w fun e w' => e = gaveUpT (t.pos : Int) 40 ∧ Gr w w' pb) := HT
  clear HT he
  go_enter Tryd.func94, Tryd.ntmps94
  go_wp2_with fail
  refine HT'.out.mono ?_
  rintro e w1 ⟨rfl, hg⟩
  exact ⟨rfl, rfl, hg⟩
end Go.Proofs.YtnofibjchhcmeabDoor
namespace Go.Proofs.YtnofibjchhcmeabDoor
open Go.RowKit
set_option linter.unusedVariables false

set_option maxRecDepth 100000 in
set_option maxHeartbeats 1000000 in
theorem opens_no (pb g c : Nat) (L : List Tok) (p o b n : Nat) (s : ByteArray) (w : World) (h : PS w pb g c L p o b n) (he : ¬ (L[p]'h.pl).text = s.data.toList) :
    Calls Tryd.prog 92 #[.pointer (some ⟨pb, 0, none⟩), .string s] w fun e w' => e = gaveUpT ((L[p]'h.pl).pos : Int) 40 ∧ Gr w w' pb := by
  have HB0 : Hid (Below w.heap.size w (w.alloc (.cells #[.int .i64 0, .string ⟨#[]⟩, .int .i64 0, .int .i64 0] 84))) := (Below.refl _ _).alloc (Nat.le_refl _) _
  have HT := take_bad pb g c L p o b n s _ (h.below HB0.out) he
  generalize L[p]'h.pl = t at HT ⊢
  have HT' : Hid (Calls Tryd.prog 81 #[.pointer (some ⟨pb, 0, none⟩), .string s] (w.alloc (.cells #[.int .i64 0, .string ⟨#[]⟩, .int .i64 0, .int .i64 0] 84)) fun e w' => e = gaveUpT (t.pos : Int) 40 ∧ Gr (w.alloc (.cells #[.int .i64 0, .string ⟨#[]⟩, .int .i64 0, .int .i64 0] 84)) w' pb) := HT
  clear HT he
  go_enter Tryd.func92, Tryd.ntmps92
  go_wp2_with fail
  refine HT'.out.mono ?_
  rintro e w1 ⟨rfl, hg⟩
  exact ⟨rfl, rfl, (Gr.below HB0.out).trans hg⟩

set_option maxRecDepth 100000 in
set_option maxHeartbeats 1000000 in
theorem opens_ok (pb g c : Nat) (L : List Tok) (p o b n : Nat) (s : ByteArray) (w : World) (h : PS w pb g c L p o b n) (he : (L[p]'h.pl).text = s.data.toList) (h1 : p + 1 < L.length) (ho : o + 1 ≤ 48) :
    Calls Tryd.prog 92 #[.pointer (some ⟨pb, 0, none⟩), .string s] w fun e w' => e = .returned (tv (L[p]'h.pl)) ∧ PS w' pb g c L (p + 1) (o + 1) b n ∧ Gr w w' pb := by
  have HB0 : Hid (Below w.heap.size w (w.alloc (.cells #[.int .i64 0, .string ⟨#[]⟩, .int .i64 0, .int .i64 0] 84))) := (Below.refl _ _).alloc (Nat.le_refl _) _
  have HT := take_ok pb g c L p o b n s _ (h.below HB0.out) he h1
  have HPW : Hid (PS w pb g c L p o b n) := h
  unfold tv at HT ⊢
  generalize L[p]'h.pl = t at HT ⊢
  have HT' : Hid (Calls Tryd.prog 81 #[.pointer (some ⟨pb, 0, none⟩), .string s] (w.alloc (.cells #[.int .i64 0, .string ⟨#[]⟩, .int .i64 0, .int .i64 0] 84)) fun e w' => e = .returned (.agg #[.int .i64 t.kind, .string ⟨t.text.toArray⟩, .int .i64 t.num, .int .i64 (t.pos : Int)]) ∧ PS w' pb g c L (p + 1) o b n ∧ Gr (w.alloc (.cells #[.int .i64 0, .string ⟨#[]⟩, .int .i64 0, .int .i64 0] 84)) w' pb) := HT
  have hpbne : pb ≠ w.heap.size := by have := h.lt; omega
  have hgn : g ≠ w.heap.size := by have := h.gl; omega
  clear HT he h h1
  go_enter Tryd.func92, Tryd.ntmps92
  go_wp2_with fail
  refine HT'.out.mono ?_
  rintro e w1 ⟨rfl, hp, hg⟩
  have HP : Hid (PS w1 pb g c L (p + 1) o b n) := hp
  have HG : Hid (Gr w w1 pb) := (Gr.below HB0.out).trans hg
  have F1 : Four w1 w.heap.size (.int .i64 0) (.string ⟨#[]⟩) (.int .i64 0) (.int .i64 0) := (Four.new w _ _ _ _).keep (hg.block _ (by simp) (by intro e; cases e; exact hpbne rfl))
  have HF1 : Hid (Four w1 w.heap.size (.int .i64 0) (.string ⟨#[]⟩) (.int .i64 0) (.int .i64 0)) := F1
  have hw1 : w.heap.size < w1.heap.size := World.block_lt_of_cell? w1 _ F1.c0
  obtain ⟨a0, a1, a2, a3, b0, b1, b2, b3⟩ := F1
  have c1 := hp.c1
  have f1 := hp.f1
  have hl1 := hp.lt
  clear hp hg
  go_wp2
  have F2 := ((HF1.out.keep (w' := w1.setCell ⟨pb, 1, none⟩ (.int .i64 ((o : Int) + 1))) (Below.heap_setCell _ _ _ _ (fun e => hpbne e.symm))).stored (.int .i64 t.kind) (.string ⟨t.text.toArray⟩) (.int .i64 t.num) (.int .i64 (t.pos : Int)))
  refine bodyPost_ret (ret_tokN 4 Tryd.results92 _ w.heap.size rfl _ (F2.keep (Below.heap_alloc _ _ _ (by simp [World.setCell]; omega)))) rfl ?_
  refine ⟨rfl, ?_, ?_⟩
  · exact (((((HP.out.set1 (o + 1)).setNew hpbne hgn _).setNew hpbne hgn _).setNew hpbne hgn _).setNew hpbne hgn _).below ((Below.refl _ _).alloc (Nat.le_refl _) _)
  · exact (((((HG.out.set 1 _).setNew (Nat.le_refl _) _).setNew (Nat.le_refl _) _).setNew (Nat.le_refl _) _).setNew (Nat.le_refl _) _).alloc _

set_option maxRecDepth 100000 in
set_option maxHeartbeats 1000000 in
theorem opens_deep (pb g c : Nat) (L : List Tok) (p o b n : Nat) (s : ByteArray) (w : World) (h : PS w pb g c L p o b n) (he : (L[p]'h.pl).text = s.data.toList) (h1 : p + 1 < L.length) (ho : 48 < o + 1) (ho2 : o ≤ 100000) :
    Calls Tryd.prog 92 #[.pointer (some ⟨pb, 0, none⟩), .string s] w fun e w' => e = gaveUpT ((L[p]'h.pl).pos : Int) 41 ∧ Gr w w' pb := by
  have HB0 : Hid (Below w.heap.size w (w.alloc (.cells #[.int .i64 0, .string ⟨#[]⟩, .int .i64 0, .int .i64 0] 84))) := (Below.refl _ _).alloc (Nat.le_refl _) _
  have HT := take_ok pb g c L p o b n s _ (h.below HB0.out) he h1
  have HPW : Hid (PS w pb g c L p o b n) := h
  unfold tv at HT
  generalize L[p]'h.pl = t at HT ⊢
  have HT' : Hid (Calls Tryd.prog 81 #[.pointer (some ⟨pb, 0, none⟩), .string s] (w.alloc (.cells #[.int .i64 0, .string ⟨#[]⟩, .int .i64 0, .int .i64 0] 84)) fun e w' => e = .returned (.agg #[.int .i64 t.kind, .string ⟨t.text.toArray⟩, .int .i64 t.num, .int .i64 (t.pos : Int)]) ∧ PS w' pb g c L (p + 1) o b n ∧ Gr (w.alloc (.cells #[.int .i64 0, .string ⟨#[]⟩, .int .i64 0, .int .i64 0] 84)) w' pb) := HT
  have hpbne : pb ≠ w.heap.size := by have := h.lt; omega
  have hgn : g ≠ w.heap.size := by have := h.gl; omega
  clear HT he h h1
  go_enter Tryd.func92, Tryd.ntmps92
  go_wp2_with fail
  refine HT'.out.mono ?_
  rintro e w1 ⟨rfl, hp, hg⟩
  have HP : Hid (PS w1 pb g c L (p + 1) o b n) := hp
  have HG : Hid (Gr w w1 pb) := (Gr.below HB0.out).trans hg
  have F1 : Four w1 w.heap.size (.int .i64 0) (.string ⟨#[]⟩) (.int .i64 0) (.int .i64 0) := (Four.new w _ _ _ _).keep (hg.block _ (by simp) (by intro e; cases e; exact hpbne rfl))
  have HF1 : Hid (Four w1 w.heap.size (.int .i64 0) (.string ⟨#[]⟩) (.int .i64 0) (.int .i64 0)) := F1
  have hw1 : w.heap.size < w1.heap.size := World.block_lt_of_cell? w1 _ F1.c0
  obtain ⟨a0, a1, a2, a3, b0, b1, b2, b3⟩ := F1
  have c1 := hp.c1
  have f1 := hp.f1
  have hl1 := hp.lt
  clear hp hg
  go_wp2_with fail
  refine (giveUpT_any _ _ _).mono ?_
  rintro e w2 ⟨rfl, hw2⟩
  rw [hw2]
  exact ⟨rfl, rfl, (HG.out.set 1 _).alloc _⟩

end Go.Proofs.YtnofibjchhcmeabDoor
