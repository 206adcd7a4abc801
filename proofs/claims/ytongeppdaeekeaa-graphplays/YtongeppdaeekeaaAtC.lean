/- A log as it lies in memory. -/
import Derived.Test.YtongeppdaeekeaaAtB
namespace Go.Proofs.Ytongeppdaeekeaa
open Go.RowKit Go.Maps
set_option linter.unusedVariables false

/-- a log: how much room each part has, what it holds -/
structure Lg where
  R : Nat
  W : Nat
  O : Nat
  Rs : List (Int × Int × Int)
  Ws : List (Int × Int)
  Os : List Int
  ops : List Int
  now : List Int
structure Lg.Ok (s : Lg) : Prop where
  r : 1 ≤ s.R ∧ s.R ≤ 64
  w : 1 ≤ s.W ∧ s.W ≤ 64
  o : 1 ≤ s.O ∧ s.O ≤ 64
  lr : s.Rs.length ≤ s.R
  lw : s.Ws.length ≤ s.W
  lo : s.Os.length ≤ s.O
structure LX (w : World) (lab : Nat → Nat) (c lb hb bo bn : Nat) (rv wv ov : Value) (many : Int) (s : Lg) : Prop where
  bl : w.heap[lb]? = some (.cells #[.int .i64 (s.R : Int), .int .i64 (s.W : Int), .int .i64 (s.O : Int), rv, wv, ov, .pointer (some ⟨hb, 0, none⟩)] 104)
  rr : RZ kR w rv s.Rs
  ww : RZ kC w wv s.Ws
  oo : RZ kN w ov s.Os
  hp : HP w hb bo bn s.ops s.now many
  l1 : lab lb = c + 1
  l2 : lab hb = c + 2
  l3 : lab bo = c + 3
  l4 : lab bn = c + 4
  l5 : ∀ g, rv.ownBlock = some g → lab g = c + 5
  l6 : ∀ g, wv.ownBlock = some g → lab g = c + 6
  l7 : ∀ g, ov.ownBlock = some g → lab g = c + 7
  lt : ∀ k, lab k ≠ 0 → k < w.heap.size
  ok : s.Ok
  mm : 0 ≤ many ∧ many ≤ 9223372036854775807
/-- a log whose struct lies in block lb, its blocks labelled from c on -/
def LV (w : World) (lab : Nat → Nat) (c lb : Nat) (s : Lg) : Prop := ∃ hb bo bn rv wv ov many, LX w lab c lb hb bo bn rv wv ov many s
/-- labels that were stay; only what is labelled so is written -/
def LabQ (c : Nat) (lab lab' : Nat → Nat) (w w' : World) : Prop := (∀ k, k < w.heap.size → lab' k = lab k) ∧ Ch (fun k => c < lab k ∧ lab k ≤ c + 7) w w'
theorem LabQ.refl (c : Nat) (lab : Nat → Nat) (w : World) : LabQ c lab lab w w := ⟨fun _ _ => rfl, Ch.refl _ _⟩
theorem LabQ.trans {c : Nat} {l1 l2 l3 : Nat → Nat} {a b d : World} (h : LabQ c l1 l2 a b) (k : LabQ c l2 l3 b d) : LabQ c l1 l3 a d := by
  refine ⟨fun i hi => (k.1 i (Nat.lt_of_lt_of_le hi h.2.size)).trans (h.1 i hi), ⟨k.2.os.trans h.2.os, k.2.tape.trans h.2.tape, k.2.output.trans h.2.output, Nat.le_trans h.2.size k.2.size, fun i hi hn => ?_⟩⟩
  exact (k.2.block i (Nat.lt_of_lt_of_le hi h.2.size) (by rw [h.1 i hi]; exact hn)).trans (h.2.block i hi hn)
theorem LabQ.of {c : Nat} {lab : Nat → Nat} {w w' : World} (h : Below w.heap.size w w') : LabQ c lab lab w w' := ⟨fun _ _ => rfl, Ch.of h⟩
section
variable {w w' V w4 : World} {lab lab' : Nat → Nat} {c lb hb bo bn : Nat} {rv wv ov : Value} {many : Int} {s : Lg}
theorem LX.lv (h : LX w lab c lb hb bo bn rv wv ov many s) : LV w lab c lb s := ⟨_, _, _, _, _, _, _, h⟩
/-- kept where all of its blocks are -/
theorem LX.keep (h : LX w lab c lb hb bo bn rv wv ov many s) (hk : ∀ k, k < w.heap.size → c < lab k → lab k ≤ c + 7 → w'.heap[k]? = w.heap[k]? ∧ lab' k = lab k) (lt' : ∀ k, lab' k ≠ 0 → k < w'.heap.size) : LX w' lab' c lb hb bo bn rv wv ov many s := by
  have a1 := hk lb (h.lt lb (by rw [h.l1]; omega)) (by rw [h.l1]; omega) (by rw [h.l1]; omega)
  have a2 := hk hb (h.lt hb (by rw [h.l2]; omega)) (by rw [h.l2]; omega) (by rw [h.l2]; omega)
  have a3 := hk bo (h.lt bo (by rw [h.l3]; omega)) (by rw [h.l3]; omega) (by rw [h.l3]; omega)
  have a4 := hk bn (h.lt bn (by rw [h.l4]; omega)) (by rw [h.l4]; omega) (by rw [h.l4]; omega)
  have a5 := fun g hg => hk g (h.lt g (by rw [h.l5 g hg]; omega)) (by rw [h.l5 g hg]; omega) (by rw [h.l5 g hg]; omega)
  have a6 := fun g hg => hk g (h.lt g (by rw [h.l6 g hg]; omega)) (by rw [h.l6 g hg]; omega) (by rw [h.l6 g hg]; omega)
  have a7 := fun g hg => hk g (h.lt g (by rw [h.l7 g hg]; omega)) (by rw [h.l7 g hg]; omega) (by rw [h.l7 g hg]; omega)
  exact ⟨a1.1.trans h.bl, h.rr.keep (fun g hg => (a5 g hg).1), h.ww.keep (fun g hg => (a6 g hg).1), h.oo.keep (fun g hg => (a7 g hg).1), h.hp.keep a2.1 a3.1 a4.1, a1.2.trans h.l1, a2.2.trans h.l2, a3.2.trans h.l3, a4.2.trans h.l4, fun g hg => (a5 g hg).2.trans (h.l5 g hg), fun g hg => (a6 g hg).2.trans (h.l6 g hg), fun g hg => (a7 g hg).2.trans (h.l7 g hg), lt', h.ok, h.mm⟩
theorem LX.below (h : LX w lab c lb hb bo bn rv wv ov many s) (b : Below w.heap.size w w') : LX w' lab c lb hb bo bn rv wv ov many s := h.keep (fun k hk _ _ => ⟨b.block k hk, rfl⟩) (fun k hk => Nat.lt_of_lt_of_le (h.lt k hk) b.size)
theorem LV.below (h : LV w lab c lb s) (b : Below w.heap.size w w') : LV w' lab c lb s := by
  obtain ⟨_, _, _, _, _, _, _, h⟩ := h
  exact (h.below b).lv
theorem LV.lt (h : LV w lab c lb s) : ∀ k, lab k ≠ 0 → k < w.heap.size := by
  obtain ⟨_, _, _, _, _, _, _, h⟩ := h
  exact h.lt
theorem LV.ok (h : LV w lab c lb s) : s.Ok := by
  obtain ⟨_, _, _, _, _, _, _, h⟩ := h
  exact h.ok
/-- another log was called -/
theorem LV.beside (h : LV w lab c lb s) {d : Nat} (q : LabQ d lab lab' w w') (lt' : ∀ k, lab' k ≠ 0 → k < w'.heap.size) (hd : c + 7 ≤ d ∨ d + 7 ≤ c) : LV w' lab' c lb s := by
  obtain ⟨_, _, _, _, _, _, _, h⟩ := h
  exact (h.keep (fun k hk h1 h2 => ⟨q.2.block k hk (by omega), q.1 k hk⟩) lt').lv
theorem LX.cell (h : LX w lab c lb hb bo bn rv wv ov many s) : w.cell? ⟨lb, 0, none⟩ = some (.int .i64 (s.R : Int)) ∧ w.cell? ⟨lb, 1, none⟩ = some (.int .i64 (s.W : Int)) ∧ w.cell? ⟨lb, 2, none⟩ = some (.int .i64 (s.O : Int)) ∧ w.cell? ⟨lb, 3, none⟩ = some rv ∧ w.cell? ⟨lb, 4, none⟩ = some wv ∧ w.cell? ⟨lb, 5, none⟩ = some ov ∧ w.cell? ⟨lb, 6, none⟩ = some (.pointer (some ⟨hb, 0, none⟩)) := by
  refine ⟨?_, ?_, ?_, ?_, ?_, ?_, ?_⟩ <;> (rw [cell_of_row w lb _ _ _ _ h.bl]; rfl)
theorem LX.f (h : LX w lab c lb hb bo bn rv wv ov many s) (j : Nat) : w.frozen? ⟨lb, j, none⟩ = false := frozen_of_row w lb j _ _ h.bl
/-- the heap was called -/
theorem LX.heap (h : LX w lab c lb hb bo bn rv wv ov many s) {now' : List Int} {many' : Int} (hp : HP w' hb bo bn s.ops now' many') (c' : Ch (hw hb bn) w w') (mm : 0 ≤ many' ∧ many' ≤ 9223372036854775807) :
    LX w' lab c lb hb bo bn rv wv ov many' { s with now := now' } ∧ LabQ c lab lab w w' := by
  have hk : ∀ k, k < w.heap.size → lab k ≠ c + 2 → lab k ≠ c + 4 → w'.heap[k]? = w.heap[k]? := fun k hk h1 h2 => c'.block k hk (by
    rintro (rfl | rfl)
    · exact h1 h.l2
    · exact h2 h.l4)
  have a1 := hk lb (h.lt lb (by rw [h.l1]; omega)) (by rw [h.l1]; omega) (by rw [h.l1]; omega)
  have a5 := fun g hg => hk g (h.lt g (by rw [h.l5 g hg]; omega)) (by rw [h.l5 g hg]; omega) (by rw [h.l5 g hg]; omega)
  have a6 := fun g hg => hk g (h.lt g (by rw [h.l6 g hg]; omega)) (by rw [h.l6 g hg]; omega) (by rw [h.l6 g hg]; omega)
  have a7 := fun g hg => hk g (h.lt g (by rw [h.l7 g hg]; omega)) (by rw [h.l7 g hg]; omega) (by rw [h.l7 g hg]; omega)
  refine ⟨⟨a1.trans h.bl, h.rr.keep a5, h.ww.keep a6, h.oo.keep a7, hp, h.l1, h.l2, h.l3, h.l4, h.l5, h.l6, h.l7, fun k hk => Nat.lt_of_lt_of_le (h.lt k hk) c'.size, ⟨h.ok.r, h.ok.w, h.ok.o, h.ok.lr, h.ok.lw, h.ok.lo⟩, mm⟩, fun _ _ => rfl, c'.mono ?_⟩
  rintro k (rfl | rfl)
  · rw [h.l2]; omega
  · rw [h.l4]; omega
/-- all rows are empty -/
theorem LX.bare (h : LX w lab c lb hb bo bn rv wv ov many s) :
    LX (((w.setCell ⟨lb, 3, none⟩ (.slice none 0 0)).setCell ⟨lb, 4, none⟩ (.slice none 0 0)).setCell ⟨lb, 5, none⟩ (.slice none 0 0)) lab c lb hb bo bn (.slice none 0 0) (.slice none 0 0) (.slice none 0 0) many { s with Rs := [], Ws := [], Os := [] } ∧
    LabQ c lab lab w (((w.setCell ⟨lb, 3, none⟩ (.slice none 0 0)).setCell ⟨lb, 4, none⟩ (.slice none 0 0)).setCell ⟨lb, 5, none⟩ (.slice none 0 0)) := by
  have n1 : hb ≠ lb := fun e => by have := h.l1; rw [← e, h.l2] at this; omega
  have n2 : bo ≠ lb := fun e => by have := h.l1; rw [← e, h.l3] at this; omega
  have n3 : bn ≠ lb := fun e => by have := h.l1; rw [← e, h.l4] at this; omega
  have hk : ∀ k, k ≠ lb → (((w.setCell ⟨lb, 3, none⟩ (.slice none 0 0)).setCell ⟨lb, 4, none⟩ (.slice none 0 0)).setCell ⟨lb, 5, none⟩ (.slice none 0 0)).heap[k]? = w.heap[k]? := fun k hk =>
    (Below.heap_setCell _ _ _ _ (by exact hk)).trans ((Below.heap_setCell _ _ _ _ (by exact hk)).trans (Below.heap_setCell _ _ _ _ (by exact hk)))
  have b3 := heap_setCell_same w lb 3 _ 104 (.slice none 0 0) h.bl
  have b4 := heap_setCell_same _ lb 4 _ 104 (.slice none 0 0) b3
  have b5 := heap_setCell_same _ lb 5 _ 104 (.slice none 0 0) b4
  refine ⟨⟨by rw [b5]; rfl, RZ.nil _ _, RZ.nil _ _, RZ.nil _ _, h.hp.keep (hk _ n1) (hk _ n2) (hk _ n3), h.l1, h.l2, h.l3, h.l4, fun g hg => by simp [Value.ownBlock] at hg, fun g hg => by simp [Value.ownBlock] at hg, fun g hg => by simp [Value.ownBlock] at hg, fun k hk => ?_, ⟨h.ok.r, h.ok.w, h.ok.o, Nat.zero_le _, Nat.zero_le _, Nat.zero_le _⟩, h.mm⟩, fun _ _ => rfl, ?_⟩
  · have := h.lt k hk; simpa [World.setCell] using this
  · have hl : c < lab lb ∧ lab lb ≤ c + 7 := by rw [h.l1]; omega
    exact (((Ch.refl (fun k => c < lab k ∧ lab k ≤ c + 7) w).set (.inl hl) _ _).set (.inl hl) _ _).set (.inl hl) _ _
/-- another row of Rs -/
theorem LX.row_r (h : LX w lab c lb hb bo bn rv wv ov many s) {v4 : Value} {l4 : List _} (hV : Below w.heap.size w V) (g4 : V.grownBy w4 rv.ownBlock) (hz : RZ kR w4 v4 l4) (ho : v4.ownBlock = rv.ownBlock ∨ v4.ownBlock = some V.heap.size) (hl : l4.length ≤ s.R) :
    ∃ lab', LX (w4.setCell ⟨lb, 3, none⟩ v4) lab' c lb hb bo bn v4 wv ov many { s with Rs := l4 } ∧ LabQ c lab lab' w (w4.setCell ⟨lb, 3, none⟩ v4) := by
  have hs := hV.size
  have hb4 : ∀ k, k < w.heap.size → lab k ≠ c + 5 → w4.heap[k]? = w.heap[k]? := fun k hk h1 => (g4.block k (by omega) (fun e => h1 (h.l5 k e.symm))).trans (hV.block k hk)
  have hk : ∀ k, k < w.heap.size → lab k ≠ c + 5 → lab k ≠ c + 1 → (w4.setCell ⟨lb, 3, none⟩ v4).heap[k]? = w.heap[k]? := fun k hk h1 h2 => (Below.heap_setCell _ _ _ _ (by show k ≠ lb; exact fun e => h2 (e ▸ h.l1))).trans (hb4 k hk h1)
  have hold : ∀ g, v4.ownBlock = some g → g < w.heap.size → lab g = c + 5 := fun g hg hl => by
    rcases ho with e | e
    · exact h.l5 g (e ▸ hg)
    · rw [e] at hg; injection hg with hg; omega
  have hlab : ∀ k, k < w.heap.size → (if v4.ownBlock = some k then c + 5 else lab k) = lab k := fun k hk => by
    split
    · rename_i q; exact (hold k q hk).symm
    · rfl
  have hlb : lb < w.heap.size := h.lt lb (by rw [h.l1]; omega)
  have n4 : v4.ownBlock ≠ some lb := fun e => by have := hold lb e hlb; rw [h.l1] at this; omega
  have a2 := hk hb (h.lt hb (by rw [h.l2]; omega)) (by rw [h.l2]; omega) (by rw [h.l2]; omega)
  have a3 := hk bo (h.lt bo (by rw [h.l3]; omega)) (by rw [h.l3]; omega) (by rw [h.l3]; omega)
  have a4 := hk bn (h.lt bn (by rw [h.l4]; omega)) (by rw [h.l4]; omega) (by rw [h.l4]; omega)
  have a6 : ∀ g, wv.ownBlock = some g → _ := fun g hg => hk g (h.lt g (by rw [h.l6 g hg]; omega)) (by rw [h.l6 g hg]; omega) (by rw [h.l6 g hg]; omega)
  have a7 : ∀ g, ov.ownBlock = some g → _ := fun g hg => hk g (h.lt g (by rw [h.l7 g hg]; omega)) (by rw [h.l7 g hg]; omega) (by rw [h.l7 g hg]; omega)
  have m1 := hlab lb hlb
  have m2 := hlab hb (h.lt hb (by rw [h.l2]; omega))
  have m3 := hlab bo (h.lt bo (by rw [h.l3]; omega))
  have m4 := hlab bn (h.lt bn (by rw [h.l4]; omega))
  have hbl := heap_setCell_same w4 lb 3 _ 104 v4 ((hb4 lb hlb (by rw [h.l1]; omega)).trans h.bl)
  have hsz : (w4.setCell ⟨lb, 3, none⟩ v4).heap.size = w4.heap.size := by simp [World.setCell]
  have hs4 := g4.size
  refine ⟨fun k => if v4.ownBlock = some k then c + 5 else lab k, ⟨by rw [hbl]; rfl, hz.keep (fun g hg => Below.heap_setCell _ _ _ _ (by show g ≠ lb; exact fun e => n4 (e ▸ hg))), h.ww.keep a6, h.oo.keep a7, h.hp.keep a2 a3 a4, m1.trans h.l1, m2.trans h.l2, m3.trans h.l3, m4.trans h.l4, fun g hg => by simp only [hg, if_true], fun g hg => (hlab g (h.lt g (by rw [h.l6 g hg]; omega))).trans (h.l6 g hg), fun g hg => (hlab g (h.lt g (by rw [h.l7 g hg]; omega))).trans (h.l7 g hg), fun k hk' => ?_, ⟨h.ok.r, h.ok.w, h.ok.o, hl, h.ok.lw, h.ok.lo⟩, h.mm⟩, hlab, ⟨g4.os.trans hV.os, g4.tape.trans hV.tape, g4.output.trans hV.output, by rw [hsz]; omega, fun k hk' hn => ?_⟩⟩
  · rw [hsz]
    split at hk'
    · rename_i q; exact hz.own q
    · have := h.lt k hk'; omega
  · exact hk k hk' (fun e => hn (by rw [e]; omega)) (fun e => hn (by rw [e]; omega))
/-- another row of Ws -/
theorem LX.row_w (h : LX w lab c lb hb bo bn rv wv ov many s) {v4 : Value} {l4 : List _} (hV : Below w.heap.size w V) (g4 : V.grownBy w4 wv.ownBlock) (hz : RZ kC w4 v4 l4) (ho : v4.ownBlock = wv.ownBlock ∨ v4.ownBlock = some V.heap.size) (hl : l4.length ≤ s.W) :
    ∃ lab', LX (w4.setCell ⟨lb, 4, none⟩ v4) lab' c lb hb bo bn rv v4 ov many { s with Ws := l4 } ∧ LabQ c lab lab' w (w4.setCell ⟨lb, 4, none⟩ v4) := by
  have hs := hV.size
  have hb4 : ∀ k, k < w.heap.size → lab k ≠ c + 6 → w4.heap[k]? = w.heap[k]? := fun k hk h1 => (g4.block k (by omega) (fun e => h1 (h.l6 k e.symm))).trans (hV.block k hk)
  have hk : ∀ k, k < w.heap.size → lab k ≠ c + 6 → lab k ≠ c + 1 → (w4.setCell ⟨lb, 4, none⟩ v4).heap[k]? = w.heap[k]? := fun k hk h1 h2 => (Below.heap_setCell _ _ _ _ (by show k ≠ lb; exact fun e => h2 (e ▸ h.l1))).trans (hb4 k hk h1)
  have hold : ∀ g, v4.ownBlock = some g → g < w.heap.size → lab g = c + 6 := fun g hg hl => by
    rcases ho with e | e
    · exact h.l6 g (e ▸ hg)
    · rw [e] at hg; injection hg with hg; omega
  have hlab : ∀ k, k < w.heap.size → (if v4.ownBlock = some k then c + 6 else lab k) = lab k := fun k hk => by
    split
    · rename_i q; exact (hold k q hk).symm
    · rfl
  have hlb : lb < w.heap.size := h.lt lb (by rw [h.l1]; omega)
  have n4 : v4.ownBlock ≠ some lb := fun e => by have := hold lb e hlb; rw [h.l1] at this; omega
  have a2 := hk hb (h.lt hb (by rw [h.l2]; omega)) (by rw [h.l2]; omega) (by rw [h.l2]; omega)
  have a3 := hk bo (h.lt bo (by rw [h.l3]; omega)) (by rw [h.l3]; omega) (by rw [h.l3]; omega)
  have a4 := hk bn (h.lt bn (by rw [h.l4]; omega)) (by rw [h.l4]; omega) (by rw [h.l4]; omega)
  have a5 : ∀ g, rv.ownBlock = some g → _ := fun g hg => hk g (h.lt g (by rw [h.l5 g hg]; omega)) (by rw [h.l5 g hg]; omega) (by rw [h.l5 g hg]; omega)
  have a7 : ∀ g, ov.ownBlock = some g → _ := fun g hg => hk g (h.lt g (by rw [h.l7 g hg]; omega)) (by rw [h.l7 g hg]; omega) (by rw [h.l7 g hg]; omega)
  have m1 := hlab lb hlb
  have m2 := hlab hb (h.lt hb (by rw [h.l2]; omega))
  have m3 := hlab bo (h.lt bo (by rw [h.l3]; omega))
  have m4 := hlab bn (h.lt bn (by rw [h.l4]; omega))
  have hbl := heap_setCell_same w4 lb 4 _ 104 v4 ((hb4 lb hlb (by rw [h.l1]; omega)).trans h.bl)
  have hsz : (w4.setCell ⟨lb, 4, none⟩ v4).heap.size = w4.heap.size := by simp [World.setCell]
  have hs4 := g4.size
  refine ⟨fun k => if v4.ownBlock = some k then c + 6 else lab k, ⟨by rw [hbl]; rfl, h.rr.keep a5, hz.keep (fun g hg => Below.heap_setCell _ _ _ _ (by show g ≠ lb; exact fun e => n4 (e ▸ hg))), h.oo.keep a7, h.hp.keep a2 a3 a4, m1.trans h.l1, m2.trans h.l2, m3.trans h.l3, m4.trans h.l4, fun g hg => (hlab g (h.lt g (by rw [h.l5 g hg]; omega))).trans (h.l5 g hg), fun g hg => by simp only [hg, if_true], fun g hg => (hlab g (h.lt g (by rw [h.l7 g hg]; omega))).trans (h.l7 g hg), fun k hk' => ?_, ⟨h.ok.r, h.ok.w, h.ok.o, h.ok.lr, hl, h.ok.lo⟩, h.mm⟩, hlab, ⟨g4.os.trans hV.os, g4.tape.trans hV.tape, g4.output.trans hV.output, by rw [hsz]; omega, fun k hk' hn => ?_⟩⟩
  · rw [hsz]
    split at hk'
    · rename_i q; exact hz.own q
    · have := h.lt k hk'; omega
  · exact hk k hk' (fun e => hn (by rw [e]; omega)) (fun e => hn (by rw [e]; omega))
/-- another row of Os -/
theorem LX.row_o (h : LX w lab c lb hb bo bn rv wv ov many s) {v4 : Value} {l4 : List _} (hV : Below w.heap.size w V) (g4 : V.grownBy w4 ov.ownBlock) (hz : RZ kN w4 v4 l4) (ho : v4.ownBlock = ov.ownBlock ∨ v4.ownBlock = some V.heap.size) (hl : l4.length ≤ s.O) :
    ∃ lab', LX (w4.setCell ⟨lb, 5, none⟩ v4) lab' c lb hb bo bn rv wv v4 many { s with Os := l4 } ∧ LabQ c lab lab' w (w4.setCell ⟨lb, 5, none⟩ v4) := by
  have hs := hV.size
  have hb4 : ∀ k, k < w.heap.size → lab k ≠ c + 7 → w4.heap[k]? = w.heap[k]? := fun k hk h1 => (g4.block k (by omega) (fun e => h1 (h.l7 k e.symm))).trans (hV.block k hk)
  have hk : ∀ k, k < w.heap.size → lab k ≠ c + 7 → lab k ≠ c + 1 → (w4.setCell ⟨lb, 5, none⟩ v4).heap[k]? = w.heap[k]? := fun k hk h1 h2 => (Below.heap_setCell _ _ _ _ (by show k ≠ lb; exact fun e => h2 (e ▸ h.l1))).trans (hb4 k hk h1)
  have hold : ∀ g, v4.ownBlock = some g → g < w.heap.size → lab g = c + 7 := fun g hg hl => by
    rcases ho with e | e
    · exact h.l7 g (e ▸ hg)
    · rw [e] at hg; injection hg with hg; omega
  have hlab : ∀ k, k < w.heap.size → (if v4.ownBlock = some k then c + 7 else lab k) = lab k := fun k hk => by
    split
    · rename_i q; exact (hold k q hk).symm
    · rfl
  have hlb : lb < w.heap.size := h.lt lb (by rw [h.l1]; omega)
  have n4 : v4.ownBlock ≠ some lb := fun e => by have := hold lb e hlb; rw [h.l1] at this; omega
  have a2 := hk hb (h.lt hb (by rw [h.l2]; omega)) (by rw [h.l2]; omega) (by rw [h.l2]; omega)
  have a3 := hk bo (h.lt bo (by rw [h.l3]; omega)) (by rw [h.l3]; omega) (by rw [h.l3]; omega)
  have a4 := hk bn (h.lt bn (by rw [h.l4]; omega)) (by rw [h.l4]; omega) (by rw [h.l4]; omega)
  have a5 : ∀ g, rv.ownBlock = some g → _ := fun g hg => hk g (h.lt g (by rw [h.l5 g hg]; omega)) (by rw [h.l5 g hg]; omega) (by rw [h.l5 g hg]; omega)
  have a6 : ∀ g, wv.ownBlock = some g → _ := fun g hg => hk g (h.lt g (by rw [h.l6 g hg]; omega)) (by rw [h.l6 g hg]; omega) (by rw [h.l6 g hg]; omega)
  have m1 := hlab lb hlb
  have m2 := hlab hb (h.lt hb (by rw [h.l2]; omega))
  have m3 := hlab bo (h.lt bo (by rw [h.l3]; omega))
  have m4 := hlab bn (h.lt bn (by rw [h.l4]; omega))
  have hbl := heap_setCell_same w4 lb 5 _ 104 v4 ((hb4 lb hlb (by rw [h.l1]; omega)).trans h.bl)
  have hsz : (w4.setCell ⟨lb, 5, none⟩ v4).heap.size = w4.heap.size := by simp [World.setCell]
  have hs4 := g4.size
  refine ⟨fun k => if v4.ownBlock = some k then c + 7 else lab k, ⟨by rw [hbl]; rfl, h.rr.keep a5, h.ww.keep a6, hz.keep (fun g hg => Below.heap_setCell _ _ _ _ (by show g ≠ lb; exact fun e => n4 (e ▸ hg))), h.hp.keep a2 a3 a4, m1.trans h.l1, m2.trans h.l2, m3.trans h.l3, m4.trans h.l4, fun g hg => (hlab g (h.lt g (by rw [h.l5 g hg]; omega))).trans (h.l5 g hg), fun g hg => (hlab g (h.lt g (by rw [h.l6 g hg]; omega))).trans (h.l6 g hg), fun g hg => by simp only [hg, if_true], fun k hk' => ?_, ⟨h.ok.r, h.ok.w, h.ok.o, h.ok.lr, h.ok.lw, hl⟩, h.mm⟩, hlab, ⟨g4.os.trans hV.os, g4.tape.trans hV.tape, g4.output.trans hV.output, by rw [hsz]; omega, fun k hk' hn => ?_⟩⟩
  · rw [hsz]
    split at hk'
    · rename_i q; exact hz.own q
    · have := h.lt k hk'; omega
  · exact hk k hk' (fun e => hn (by rw [e]; omega)) (fun e => hn (by rw [e]; omega))
/-- one of Rs is set in its place -/
theorem LX.set_r {g n cp : Nat} (h : LX w lab c lb hb bo bn (.slice (some ⟨g, 0, none⟩) n cp) wv ov many s) {i j : Nat} (hi : i < s.Rs.length) (hj : j < 3) (u : Value) (z : Int × Int × Int) (hz : kR.cl z = (kR.cl s.Rs[i]).set j u) :
    LX (w.setCell ⟨g, i * 3 + j, none⟩ u) lab c lb hb bo bn (.slice (some ⟨g, 0, none⟩) n cp) wv ov many { s with Rs := s.Rs.set i z } ∧ LabQ c lab lab w (w.setCell ⟨g, i * 3 + j, none⟩ u) := by
  have hlg : lab g = c + 5 := h.l5 g rfl
  have hk : ∀ k, k ≠ g → (w.setCell ⟨g, i * 3 + j, none⟩ u).heap[k]? = w.heap[k]? := fun k hk => Below.heap_setCell _ _ _ _ (by exact hk)
  have a1 := hk lb (fun e => by have := h.l1; rw [e, hlg] at this; omega)
  have a2 := hk hb (fun e => by have := h.l2; rw [e, hlg] at this; omega)
  have a3 := hk bo (fun e => by have := h.l3; rw [e, hlg] at this; omega)
  have a4 := hk bn (fun e => by have := h.l4; rw [e, hlg] at this; omega)
  have a6 : ∀ g', wv.ownBlock = some g' → _ := fun g' hg => hk g' (fun e => by have := h.l6 g' hg; rw [e, hlg] at this; omega)
  have a7 : ∀ g', ov.ownBlock = some g' → _ := fun g' hg => hk g' (fun e => by have := h.l7 g' hg; rw [e, hlg] at this; omega)
  refine ⟨⟨a1.trans h.bl, h.rr.set hi hj u z hz, h.ww.keep a6, h.oo.keep a7, h.hp.keep a2 a3 a4, h.l1, h.l2, h.l3, h.l4, h.l5, h.l6, h.l7, fun k hk => ?_, ⟨h.ok.r, h.ok.w, h.ok.o, (by rw [List.length_set]; exact h.ok.lr), h.ok.lw, h.ok.lo⟩, h.mm⟩, fun _ _ => rfl, ?_⟩
  · have := h.lt k hk; simpa [World.setCell] using this
  · exact (Ch.refl (fun k => c < lab k ∧ lab k ≤ c + 7) w).set (.inl (by show c < lab g ∧ lab g ≤ c + 7; rw [hlg]; omega)) _ _
/-- one of Ws is set in its place -/
theorem LX.set_w {g n cp : Nat} (h : LX w lab c lb hb bo bn rv (.slice (some ⟨g, 0, none⟩) n cp) ov many s) {i j : Nat} (hi : i < s.Ws.length) (hj : j < 2) (u : Value) (z : Int × Int) (hz : kC.cl z = (kC.cl s.Ws[i]).set j u) :
    LX (w.setCell ⟨g, i * 2 + j, none⟩ u) lab c lb hb bo bn rv (.slice (some ⟨g, 0, none⟩) n cp) ov many { s with Ws := s.Ws.set i z } ∧ LabQ c lab lab w (w.setCell ⟨g, i * 2 + j, none⟩ u) := by
  have hlg : lab g = c + 6 := h.l6 g rfl
  have hk : ∀ k, k ≠ g → (w.setCell ⟨g, i * 2 + j, none⟩ u).heap[k]? = w.heap[k]? := fun k hk => Below.heap_setCell _ _ _ _ (by exact hk)
  have a1 := hk lb (fun e => by have := h.l1; rw [e, hlg] at this; omega)
  have a2 := hk hb (fun e => by have := h.l2; rw [e, hlg] at this; omega)
  have a3 := hk bo (fun e => by have := h.l3; rw [e, hlg] at this; omega)
  have a4 := hk bn (fun e => by have := h.l4; rw [e, hlg] at this; omega)
  have a5 : ∀ g', rv.ownBlock = some g' → _ := fun g' hg => hk g' (fun e => by have := h.l5 g' hg; rw [e, hlg] at this; omega)
  have a7 : ∀ g', ov.ownBlock = some g' → _ := fun g' hg => hk g' (fun e => by have := h.l7 g' hg; rw [e, hlg] at this; omega)
  refine ⟨⟨a1.trans h.bl, h.rr.keep a5, h.ww.set hi hj u z hz, h.oo.keep a7, h.hp.keep a2 a3 a4, h.l1, h.l2, h.l3, h.l4, h.l5, h.l6, h.l7, fun k hk => ?_, ⟨h.ok.r, h.ok.w, h.ok.o, h.ok.lr, (by rw [List.length_set]; exact h.ok.lw), h.ok.lo⟩, h.mm⟩, fun _ _ => rfl, ?_⟩
  · have := h.lt k hk; simpa [World.setCell] using this
  · exact (Ch.refl (fun k => c < lab k ∧ lab k ≤ c + 7) w).set (.inl (by show c < lab g ∧ lab g ≤ c + 7; rw [hlg]; omega)) _ _
end
end Go.Proofs.Ytongeppdaeekeaa
