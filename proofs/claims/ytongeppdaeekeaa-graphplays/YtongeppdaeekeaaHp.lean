/- A heap of reductions as it lies in memory, and its small calls. -/
import Derived.Test.YtongeppdaeekeaaJn
import Derived.Deep.RegionHeld3
import Derived.Deep.QuietTactic
import Derived.BigQuiet
import Derived.Laws.MakeOwn
import Derived.Laws.StructEq
import Derived.Maps.AppendAt
namespace Go.Proofs.Ytongeppdaeekeaa
open Go.RowKit Go.Maps
set_option linter.unusedVariables false

/-- numbers as cells -/
def ints (l : List Int) : Array Value := (l.map (Value.int .i64)).toArray
theorem ints_at (l : List Int) (i : Nat) (h : i < l.length) : (ints l)[i]? = some (.int .i64 l[i]) := by simp [ints, h]
theorem ints_set (l : List Int) (i : Nat) (z : Int) : (ints l).setIfInBounds i (.int .i64 z) = ints (l.set i z) := by simp [ints, List.map_set]
theorem ints_size (l : List Int) : (ints l).size = l.length := by simp [ints]

/-- of the blocks that were, only those of p are written -/
structure Ch (p : Nat → Prop) (w w' : World) : Prop where
  os : w'.os = w.os
  tape : w'.tape = w.tape
  output : w'.output = w.output
  size : w.heap.size ≤ w'.heap.size
  block : ∀ k, k < w.heap.size → ¬ p k → w'.heap[k]? = w.heap[k]?
theorem Ch.refl (p : Nat → Prop) (w : World) : Ch p w w := ⟨rfl, rfl, rfl, Nat.le_refl _, fun _ _ _ => rfl⟩
theorem Ch.trans {p : Nat → Prop} {a b c : World} (h : Ch p a b) (k : Ch p b c) : Ch p a c :=
  ⟨k.os.trans h.os, k.tape.trans h.tape, k.output.trans h.output, Nat.le_trans h.size k.size, fun i hi hn => (k.block i (Nat.lt_of_lt_of_le hi h.size) hn).trans (h.block i hi hn)⟩
theorem Ch.of {p : Nat → Prop} {a b : World} (h : Below a.heap.size a b) : Ch p a b := ⟨h.os, h.tape, h.output, h.size, fun k hk _ => h.block k hk⟩
theorem Ch.set {p : Nat → Prop} {a b : World} (h : Ch p a b) {g : Nat} (hg : p g ∨ a.heap.size ≤ g) (i : Nat) (v : Value) : Ch p a (b.setCell ⟨g, i, none⟩ v) :=
  ⟨h.os, h.tape, h.output, by simpa [World.setCell] using h.size, fun k hk hn => (Below.heap_setCell _ _ _ _ (by show k ≠ g; rintro rfl; rcases hg with q | q; exact hn q; omega)).trans (h.block k hk hn)⟩
theorem Ch.alloc {p : Nat → Prop} {a b : World} (h : Ch p a b) (o : Obj) : Ch p a (b.alloc o) :=
  ⟨h.os, h.tape, h.output, by simp; have := h.size; omega, fun k hk hn => (Below.heap_alloc _ _ _ (Nat.lt_of_lt_of_le hk h.size)).trans (h.block k hk hn)⟩
theorem Ch.drew {p : Nat → Prop} {a b : World} (h : Ch p a b) : Ch p a b.drew := ⟨h.os, h.tape, h.output, h.size, h.block⟩
theorem Ch.drewN {p : Nat → Prop} {a b : World} (h : Ch p a b) (n : Nat) : Ch p a (b.drewN n) := ⟨h.os, h.tape, h.output, h.size, h.block⟩
/-- what is written is new: nothing that was has changed -/
theorem Ch.below {p : Nat → Prop} {a b : World} (h : Ch p a b) {B : Nat} (hB : B ≤ a.heap.size) (hp : ∀ k, p k → B ≤ k) : Below B a b :=
  ⟨h.os, h.tape, h.output, h.size, fun k hk => h.block k (by omega) (fun q => by have := hp k q; omega)⟩
theorem Ch.mono {p q : Nat → Prop} {a b : World} (h : Ch p a b) (hpq : ∀ k, p k → q k) : Ch q a b := ⟨h.os, h.tape, h.output, h.size, fun k hk hn => h.block k hk (fun x => hn (hpq k x))⟩

/-- a heap: its struct in block hb, its operations in bo, its numbers in bn -/
structure HP (w : World) (hb bo bn : Nat) (ops now : List Int) (many : Int) : Prop where
  len : now.length = ops.length
  bl : w.heap[hb]? = some (.cells #[.slice (some ⟨bo, 0, none⟩) ops.length ops.length, .slice (some ⟨bn, 0, none⟩) ops.length ops.length, .int .i64 many] 147)
  bO : w.heap[bo]? = some (.cells (ints ops) 38)
  bN : w.heap[bn]? = some (.cells (ints now) 2)
  n1 : hb ≠ bo
  n2 : hb ≠ bn
  n3 : bo ≠ bn
  short : ops.length ≤ 4
/-- the two blocks that a heap's calls write -/
def hw (hb bn : Nat) : Nat → Prop := fun k => k = hb ∨ k = bn
theorem HP.c0 {w : World} {hb bo bn : Nat} {ops now : List Int} {many : Int} (h : HP w hb bo bn ops now many) : w.cell? ⟨hb, 0, none⟩ = some (.slice (some ⟨bo, 0, none⟩) ops.length ops.length) := by rw [cell_of_row w hb 0 _ _ _ h.bl]; rfl
theorem HP.c1 {w : World} {hb bo bn : Nat} {ops now : List Int} {many : Int} (h : HP w hb bo bn ops now many) : w.cell? ⟨hb, 1, none⟩ = some (.slice (some ⟨bn, 0, none⟩) ops.length ops.length) := by rw [cell_of_row w hb 1 _ _ _ h.bl]; rfl
theorem HP.c2 {w : World} {hb bo bn : Nat} {ops now : List Int} {many : Int} (h : HP w hb bo bn ops now many) : w.cell? ⟨hb, 2, none⟩ = some (.int .i64 many) := by rw [cell_of_row w hb 2 _ _ _ h.bl]; rfl
theorem HP.f2 {w : World} {hb bo bn : Nat} {ops now : List Int} {many : Int} (h : HP w hb bo bn ops now many) (j : Nat) : w.frozen? ⟨hb, j, none⟩ = false := frozen_of_row w hb j _ _ h.bl
theorem HP.fN {w : World} {hb bo bn : Nat} {ops now : List Int} {many : Int} (h : HP w hb bo bn ops now many) (j : Nat) : w.frozen? ⟨bn, j, none⟩ = false := frozen_of_row w bn j _ _ h.bN
theorem HP.cO {w : World} {hb bo bn : Nat} {ops now : List Int} {many : Int} (h : HP w hb bo bn ops now many) (i : Nat) (hi : i < ops.length) : w.cell? ⟨bo, i, none⟩ = some (.int .i64 ops[i]) := by rw [cell_of_row w bo i _ _ _ h.bO, ints_at _ _ hi]
theorem HP.cN {w : World} {hb bo bn : Nat} {ops now : List Int} {many : Int} (h : HP w hb bo bn ops now many) (i : Nat) (hi : i < now.length) : w.cell? ⟨bn, i, none⟩ = some (.int .i64 now[i]) := by rw [cell_of_row w bn i _ _ _ h.bN, ints_at _ _ hi]
theorem HP.keep {w w' : World} {hb bo bn : Nat} {ops now : List Int} {many : Int} (h : HP w hb bo bn ops now many) (k1 : w'.heap[hb]? = w.heap[hb]?) (k2 : w'.heap[bo]? = w.heap[bo]?) (k3 : w'.heap[bn]? = w.heap[bn]?) : HP w' hb bo bn ops now many :=
  ⟨h.len, k1.trans h.bl, k2.trans h.bO, k3.trans h.bN, h.n1, h.n2, h.n3, h.short⟩
theorem HP.lt {w : World} {hb bo bn : Nat} {ops now : List Int} {many : Int} (h : HP w hb bo bn ops now many) : hb < w.heap.size ∧ bo < w.heap.size ∧ bn < w.heap.size :=
  ⟨(Array.getElem?_eq_some_iff.1 h.bl).1, (Array.getElem?_eq_some_iff.1 h.bO).1, (Array.getElem?_eq_some_iff.1 h.bN).1⟩
theorem HP.ch {w w' : World} {hb bo bn : Nat} {ops now : List Int} {many : Int} (h : HP w hb bo bn ops now many) {p : Nat → Prop} (c : Ch p w w') (k1 : ¬ p hb) (k2 : ¬ p bo) (k3 : ¬ p bn) : HP w' hb bo bn ops now many :=
  h.keep (c.block _ h.lt.1 k1) (c.block _ h.lt.2.1 k2) (c.block _ h.lt.2.2 k3)
theorem HP.below {w w' : World} {hb bo bn : Nat} {ops now : List Int} {many : Int} (h : HP w hb bo bn ops now many) (c : Below w.heap.size w w') : HP w' hb bo bn ops now many :=
  h.keep (c.block _ h.lt.1) (c.block _ h.lt.2.1) (c.block _ h.lt.2.2)
theorem HP.drew {w : World} {hb bo bn : Nat} {ops now : List Int} {many : Int} (h : HP w hb bo bn ops now many) : HP w.drew hb bo bn ops now many := h.keep rfl rfl rfl
theorem HP.setN {w : World} {hb bo bn : Nat} {ops now : List Int} {many : Int} (h : HP w hb bo bn ops now many) (i : Nat) (z : Int) : HP (w.setCell ⟨bn, i, none⟩ (.int .i64 z)) hb bo bn ops (now.set i z) many := by
  refine ⟨by simpa using h.len, (Below.heap_setCell _ _ _ _ h.n2).trans h.bl, (Below.heap_setCell _ _ _ _ h.n3).trans h.bO, ?_, h.n1, h.n2, h.n3, h.short⟩
  rw [heap_setCell_same w bn i _ 2 _ h.bN, ints_set]
theorem HP.setM {w : World} {hb bo bn : Nat} {ops now : List Int} {many : Int} (h : HP w hb bo bn ops now many) (z : Int) : HP (w.setCell ⟨hb, 2, none⟩ (.int .i64 z)) hb bo bn ops now z := by
  refine ⟨h.len, ?_, (Below.heap_setCell _ _ _ _ h.n1.symm).trans h.bO, (Below.heap_setCell _ _ _ _ h.n2.symm).trans h.bN, h.n1, h.n2, h.n3, h.short⟩
  rw [heap_setCell_same w hb 2 _ 147 _ h.bl]; simp

/-- the first q numbers are the operations' own zeros -/
def zq (ops now : List Int) (q : Nat) : List Int := (ops.map zeroI).take q ++ now.drop q
theorem zq_len (ops now : List Int) (q : Nat) (h : now.length = ops.length) (hq : q ≤ ops.length) : (zq ops now q).length = ops.length := by simp [zq]; omega
theorem zq_next (ops now : List Int) (q : Nat) (h : now.length = ops.length) (hq : q < ops.length) : (zq ops now q).set q (zeroI ops[q]) = zq ops now (q + 1) := by
  unfold zq
  have e : now.drop q = now[q] :: now.drop (q + 1) := List.drop_eq_getElem_cons _
  have e0 : q - ((ops.map zeroI).take q).length = 0 := by simp; omega
  rw [List.set_append_right _ _ (by simp; omega), List.take_succ_eq_append_getElem (by simpa using hq), e, e0, List.set_cons_zero, List.append_assoc]
  simp only [List.getElem_map, List.singleton_append]
theorem zq_all (ops now : List Int) (h : now.length = ops.length) : zq ops now ops.length = ops.map zeroI := by
  unfold zq
  rw [List.take_of_length_le (by simp), List.drop_of_length_le (by omega)]; simp

set_option maxRecDepth 100000 in
set_option maxHeartbeats 2000000 in
theorem clear_any {hb bo bn : Nat} {ops now : List Int} {many : Int} (w : World) (h : HP w hb bo bn ops now many) : Calls Try.prog 62 #[.pointer (some ⟨hb, 0, none⟩)] w fun e w' => e = .returned (.tuple #[]) ∧ HP w' hb bo bn ops (ops.map zeroI) 0 ∧ Ch (hw hb bn) w w' := by
  have H : Hid (HP w hb bo bn ops now many) := h
  obtain ⟨N, hN⟩ : ∃ N, ops.length = N := ⟨_, rfl⟩
  have HN : Hid (ops.length = N) := hN
  have HS : N ≤ 4 := by rw [← hN]; exact h.short
  have c0 := h.c0
  rw [hN] at c0
  clear h hN
  go_enter Try.func62, Try.ntmps62
  go_wp2_with fail
  go_loopw [9] (fun i wr => ∃ q : Nat, i = .int .i64 (q : Int) ∧ q ≤ N ∧ Hid (HP wr hb bo bn ops (zq ops now q) many) ∧ Hid (Ch (hw hb bn) w wr)) (fun i _ => N - (intOf i).toNat)
  case atStart => exact ⟨0, rfl, Nat.zero_le _, by simpa [zq] using H, Ch.refl _ _⟩
  case round =>
    obtain ⟨q, rfl, hq, HP', HC⟩ := hrel
    clear c0
    by_cases hlt : q < N
    · have hq' : q < ops.length := by rw [HN.out]; exact hlt
      obtain ⟨z, hz⟩ : ∃ z, ops[q] = z := ⟨_, rfl⟩
      have d1 : wr.cell? ⟨bo, q, none⟩ = some (.int .i64 z) := by rw [HP'.out.cO q hq', hz]
      have d2 := HP'.out.c1
      rw [HN.out] at d2
      have d3 : wr.cell? ⟨bn, q, none⟩ = some (.int .i64 ((zq ops now q)[q]'(by rw [zq_len _ _ _ H.out.len (by omega)]; exact hq'))) := HP'.out.cN q _
      obtain ⟨y, hy⟩ : ∃ y, (zq ops now q)[q]'(by rw [zq_len _ _ _ H.out.len (by omega)]; exact hq') = y := ⟨_, rfl⟩
      rw [hy] at d3
      have f3 := HP'.out.fN q
      have HX : Hid (HP (wr.drew.setCell ⟨bn, q, none⟩ (.int .i64 (zeroI z))) hb bo bn ops (zq ops now (q + 1)) many) := by
        have := HP'.out.drew.setN q (zeroI z)
        rw [← hz, zq_next _ _ _ H.out.len hq'] at this
        rw [← hz]; exact this
      have HY : Hid (Ch (hw hb bn) w (wr.drew.setCell ⟨bn, q, none⟩ (.int .i64 (zeroI z)))) := HC.out.drew.set (.inl (.inr rfl)) _ _
      have e1 : decide ((q : Int) < (N : Int)) = true := by simp; omega
      have HK : Hid ((wr.setCell ⟨bn, q, none⟩ (.int .i64 (zeroI z))).drew.cell? ⟨hb, 1, none⟩ = some (.slice (some ⟨bn, 0, none⟩) N N)) := by
        have := HX.out.c1
        rw [HN.out] at this
        exact this
      clear hz hy
      go_wp2_with fail
      go_region_held3 (fun w' => w'.cell? ⟨hb, 1, none⟩ = some (.slice (some ⟨bn, 0, none⟩) N N)) (first | exact HK.out | assumption | go_keep) (first | (go_at_call 90; refine (zero_any _ _).mono ?_; rintro e w4 ⟨rfl, rfl⟩))
      go_wp2_with fail
      go_roundw
      case rel => exact ⟨q + 1, by go_num, by omega, HX, HY⟩
      case measure => simp [intOf]; omega
    · have e1 : decide ((q : Int) < (N : Int)) = false := by simp; omega
      have hqN : q = N := by omega
      subst hqN
      have d4 := HP'.out.c2
      have f4 := HP'.out.f2 2
      have HX : Hid (HP (wr.setCell ⟨hb, 2, none⟩ (.int .i64 0)) hb bo bn ops (ops.map zeroI) 0) := by
        have := HP'.out.setM 0
        rw [← HN.out, zq_all _ _ H.out.len] at this
        exact this
      have HY : Hid (Ch (hw hb bn) w (wr.setCell ⟨hb, 2, none⟩ (.int .i64 0))) := HC.out.set (.inl (.inl rfl)) _ _
      go_wp2
      go_end0
      exact ⟨rfl, HX.out, HY.out⟩
end Go.Proofs.Ytongeppdaeekeaa
