/- What asm.read answers: one piece becomes one part. -/
import Derived.Test.YthcidcfaodjbjabGreatDoorPcs
namespace Go.Proofs.YthcidcfaodjbjabGreatDoor
open Go.RowKit
set_option linter.unusedVariables false

/-- a line's number and the label that it names, in memory -/
structure OAt (w : World) (b : Nat) (n : Int) (l : List UInt8) : Prop where
  c0 : w.cell? ⟨b, 0, none⟩ = some (.int .i64 n)
  c1 : w.cell? ⟨b, 1, none⟩ = some (.string ⟨l.toArray⟩)
  f1 : w.frozen? ⟨b, 1, none⟩ = false
  lt : b < w.heap.size
theorem OAt.block {w w' : World} {b : Nat} {n : Int} {l : List UInt8} (h : OAt w b n l) (hb : w'.heap[b]? = w.heap[b]?) (hs : w.heap.size ≤ w'.heap.size) : OAt w' b n l :=
  ⟨(World.cell?_of_block (w := w) (a := ⟨b, 0, none⟩) hb).trans h.c0, (World.cell?_of_block (w := w) (a := ⟨b, 1, none⟩) hb).trans h.c1, (World.frozen?_of_block (w := w) (a := ⟨b, 1, none⟩) hb).trans h.f1, Nat.lt_of_lt_of_le h.lt hs⟩
/-- only two blocks are written -/
structure Two (w w' : World) (xb ob : Nat) : Prop where
  os : w'.os = w.os
  tape : w'.tape = w.tape
  output : w'.output = w.output
  size : w'.heap.size = w.heap.size
  block : ∀ k, k ≠ xb → k ≠ ob → w'.heap[k]? = w.heap[k]?
theorem Two.refl (w : World) (xb ob : Nat) : Two w w xb ob := ⟨rfl, rfl, rfl, rfl, fun _ _ _ => rfl⟩
theorem Two.trans {a b c : World} {xb ob : Nat} (h : Two a b xb ob) (k : Two b c xb ob) : Two a c xb ob :=
  ⟨k.os.trans h.os, k.tape.trans h.tape, k.output.trans h.output, k.size.trans h.size, fun i h1 h2 => (k.block i h1 h2).trans (h.block i h1 h2)⟩
theorem Two.setX (w : World) (xb ob i : Nat) (v : Value) : Two w (w.setCell ⟨xb, i, none⟩ v) xb ob :=
  ⟨rfl, rfl, rfl, by simp [World.setCell], fun k h1 _ => Below.heap_setCell _ _ _ _ h1⟩
theorem Two.setO (w : World) (xb ob i : Nat) (v : Value) : Two w (w.setCell ⟨ob, i, none⟩ v) xb ob :=
  ⟨rfl, rfl, rfl, by simp [World.setCell], fun k _ h2 => Below.heap_setCell _ _ _ _ h2⟩
/-- what becomes of a call -/
def RdP (w : World) (xb ob : Nat) (n : Int) (e : Ending) (w' : World) : Option (In × List UInt8) → Prop
  | some y => e = .returned (.bool true) ∧ Six w' xb y.1 ∧ OAt w' ob n y.2 ∧ Two w w' xb ob
  | none => e = .returned (.bool false) ∧ Two w w' xb ob
theorem OAt.setX {w : World} {b xb i : Nat} {n : Int} {l : List UInt8} (h : OAt w b n l) (hne : xb ≠ b) (v : Value) : OAt (w.setCell ⟨xb, i, none⟩ v) b n l :=
  h.block (Below.heap_setCell _ _ _ _ (fun e => hne e.symm)) (by simp [World.setCell])
theorem Six.setO {w : World} {b xb i : Nat} {x : In} (h : Six w xb x) (hne : xb ≠ b) (v : Value) : Six (w.setCell ⟨b, i, none⟩ v) xb x :=
  h.block (Below.heap_setCell _ _ _ _ hne) (by simp [World.setCell])
theorem OAt.set {w : World} {b : Nat} {n : Int} {l : List UInt8} (h : OAt w b n l) (s : ByteArray) : OAt (w.setCell ⟨b, 1, none⟩ (.string s)) b n s.data.toList :=
  ⟨(cell_set_ne _ _ _ _ _ (by omega)).trans h.c0, (World.cell?_setCell_same w _ _ h.c1).trans (by simp), by simpa using h.f1, by simpa [World.setCell] using h.lt⟩
theorem ltr (p q : UInt8) (h : p ≠ q) : ((p.toNat : Int) == (q.toNat : Int)) = false := by
  rw [beq_eq_false_iff_ne]
  intro e
  exact h (UInt8.toNat_inj.1 (by omega))

set_option maxRecDepth 100000 in
set_option maxHeartbeats 1000000 in
theorem read_97 (x : In) (l : List UInt8) (n : Int) (s : ByteArray) (hs : s.size ≤ maxLen) (xb ob : Nat) (hne : xb ≠ ob) (w : World) (hx : Six w xb x) (ho : OAt w ob n l) :
    Calls Tryz.prog 74 #[.pointer (some ⟨xb, 0, none⟩), .pointer (some ⟨ob, 0, none⟩), .int .i32 97, .string s] w fun e w' => RdP w xb ob n e w' ((regL s.data.toList).map fun n => ({ x with a := n }, l)) := by
  obtain ⟨o, hoo⟩ : ∃ o, regL s.data.toList = o := ⟨_, rfl⟩
  have HC : Hid (∀ w, Calls Tryz.prog 87 #[.string s] w fun e w' => e = .returned (.tuple #[.int .i64 (o.getD 0), .bool o.isSome]) ∧ w' = w) := fun w => by rw [← hoo]; exact register_any s hs w
  rw [hoo]
  clear hoo
  obtain ⟨q, hq⟩ : ∃ q, o.getD 0 = q := ⟨_, rfl⟩
  obtain ⟨b, hb⟩ : ∃ b, o.isSome = b := ⟨_, rfl⟩
  rw [hq, hb] at HC
  have HX : Hid (Six (w.setCell ⟨xb, 2, none⟩ (.int .i64 q)) xb { x with a := q }) := hx.set 2 q (by simp) (by simp) (by simp) (by simp) (by simp) (by simp)
  have HO : Hid (OAt (w.setCell ⟨xb, 2, none⟩ (.int .i64 q)) ob n l) := ho.setX hne _
  have HT : Hid (Two w (w.setCell ⟨xb, 2, none⟩ (.int .i64 q)) xb ob) := Two.setX _ _ _ _ _
  have HR : Hid (∀ e w', e = .returned (.bool b) → w' = w.setCell ⟨xb, 2, none⟩ (.int .i64 q) → RdP w xb ob n e w' (o.map fun n => ({ x with a := n }, l))) := by
    rintro e w' rfl rfl
    cases o with
    | none => subst hb; exact ⟨rfl, HT.out⟩
    | some r => subst hb; obtain rfl : r = q := hq; exact ⟨rfl, HX.out, HO.out, HT.out⟩
  obtain ⟨x0, x1, x2, x3, x4, x5, f0, f1, f2, f3, f4, f5, _⟩ := hx
  obtain ⟨post, hpost⟩ : ∃ p : Ending → World → Prop, p = fun e w' => RdP w xb ob n e w' (o.map fun n => ({ x with a := n }, l)) := ⟨_, rfl⟩
  have HP : Hid (∀ e w', e = .returned (.bool b) → w' = w.setCell ⟨xb, 2, none⟩ (.int .i64 q) → post e w') := by rw [hpost]; exact HR.out
  rw [← hpost]
  clear hq hb ho hpost HR
  go_enter Tryz.func74, Tryz.ntmps74
  go_wp2_with (go_at_call 87; refine (HC.out _).mono ?_; rintro e w' ⟨rfl, rfl⟩)

  exact HP.out _ _ rfl rfl

set_option maxRecDepth 100000 in
set_option maxHeartbeats 1000000 in
theorem read_98 (x : In) (l : List UInt8) (n : Int) (s : ByteArray) (hs : s.size ≤ maxLen) (xb ob : Nat) (hne : xb ≠ ob) (w : World) (hx : Six w xb x) (ho : OAt w ob n l) :
    Calls Tryz.prog 74 #[.pointer (some ⟨xb, 0, none⟩), .pointer (some ⟨ob, 0, none⟩), .int .i32 98, .string s] w fun e w' => RdP w xb ob n e w' ((regL s.data.toList).map fun n => ({ x with b := n }, l)) := by
  obtain ⟨o, hoo⟩ : ∃ o, regL s.data.toList = o := ⟨_, rfl⟩
  have HC : Hid (∀ w, Calls Tryz.prog 87 #[.string s] w fun e w' => e = .returned (.tuple #[.int .i64 (o.getD 0), .bool o.isSome]) ∧ w' = w) := fun w => by rw [← hoo]; exact register_any s hs w
  rw [hoo]
  clear hoo
  obtain ⟨q, hq⟩ : ∃ q, o.getD 0 = q := ⟨_, rfl⟩
  obtain ⟨b, hb⟩ : ∃ b, o.isSome = b := ⟨_, rfl⟩
  rw [hq, hb] at HC
  have HX : Hid (Six (w.setCell ⟨xb, 3, none⟩ (.int .i64 q)) xb { x with b := q }) := hx.set 3 q (by simp) (by simp) (by simp) (by simp) (by simp) (by simp)
  have HO : Hid (OAt (w.setCell ⟨xb, 3, none⟩ (.int .i64 q)) ob n l) := ho.setX hne _
  have HT : Hid (Two w (w.setCell ⟨xb, 3, none⟩ (.int .i64 q)) xb ob) := Two.setX _ _ _ _ _
  have HR : Hid (∀ e w', e = .returned (.bool b) → w' = w.setCell ⟨xb, 3, none⟩ (.int .i64 q) → RdP w xb ob n e w' (o.map fun n => ({ x with b := n }, l))) := by
    rintro e w' rfl rfl
    cases o with
    | none => subst hb; exact ⟨rfl, HT.out⟩
    | some r => subst hb; obtain rfl : r = q := hq; exact ⟨rfl, HX.out, HO.out, HT.out⟩
  obtain ⟨x0, x1, x2, x3, x4, x5, f0, f1, f2, f3, f4, f5, _⟩ := hx
  obtain ⟨post, hpost⟩ : ∃ p : Ending → World → Prop, p = fun e w' => RdP w xb ob n e w' (o.map fun n => ({ x with b := n }, l)) := ⟨_, rfl⟩
  have HP : Hid (∀ e w', e = .returned (.bool b) → w' = w.setCell ⟨xb, 3, none⟩ (.int .i64 q) → post e w') := by rw [hpost]; exact HR.out
  rw [← hpost]
  clear hq hb ho hpost HR
  go_enter Tryz.func74, Tryz.ntmps74
  go_wp2_with (go_at_call 87; refine (HC.out _).mono ?_; rintro e w' ⟨rfl, rfl⟩)

  exact HP.out _ _ rfl rfl

set_option maxRecDepth 100000 in
set_option maxHeartbeats 1000000 in
theorem read_99 (x : In) (l : List UInt8) (n : Int) (s : ByteArray) (hs : s.size ≤ maxLen) (xb ob : Nat) (hne : xb ≠ ob) (w : World) (hx : Six w xb x) (ho : OAt w ob n l) :
    Calls Tryz.prog 74 #[.pointer (some ⟨xb, 0, none⟩), .pointer (some ⟨ob, 0, none⟩), .int .i32 99, .string s] w fun e w' => RdP w xb ob n e w' ((regL s.data.toList).map fun n => ({ x with c := n }, l)) := by
  obtain ⟨o, hoo⟩ : ∃ o, regL s.data.toList = o := ⟨_, rfl⟩
  have HC : Hid (∀ w, Calls Tryz.prog 87 #[.string s] w fun e w' => e = .returned (.tuple #[.int .i64 (o.getD 0), .bool o.isSome]) ∧ w' = w) := fun w => by rw [← hoo]; exact register_any s hs w
  rw [hoo]
  clear hoo
  obtain ⟨q, hq⟩ : ∃ q, o.getD 0 = q := ⟨_, rfl⟩
  obtain ⟨b, hb⟩ : ∃ b, o.isSome = b := ⟨_, rfl⟩
  rw [hq, hb] at HC
  have HX : Hid (Six (w.setCell ⟨xb, 4, none⟩ (.int .i64 q)) xb { x with c := q }) := hx.set 4 q (by simp) (by simp) (by simp) (by simp) (by simp) (by simp)
  have HO : Hid (OAt (w.setCell ⟨xb, 4, none⟩ (.int .i64 q)) ob n l) := ho.setX hne _
  have HT : Hid (Two w (w.setCell ⟨xb, 4, none⟩ (.int .i64 q)) xb ob) := Two.setX _ _ _ _ _
  have HR : Hid (∀ e w', e = .returned (.bool b) → w' = w.setCell ⟨xb, 4, none⟩ (.int .i64 q) → RdP w xb ob n e w' (o.map fun n => ({ x with c := n }, l))) := by
    rintro e w' rfl rfl
    cases o with
    | none => subst hb; exact ⟨rfl, HT.out⟩
    | some r => subst hb; obtain rfl : r = q := hq; exact ⟨rfl, HX.out, HO.out, HT.out⟩
  obtain ⟨x0, x1, x2, x3, x4, x5, f0, f1, f2, f3, f4, f5, _⟩ := hx
  obtain ⟨post, hpost⟩ : ∃ p : Ending → World → Prop, p = fun e w' => RdP w xb ob n e w' (o.map fun n => ({ x with c := n }, l)) := ⟨_, rfl⟩
  have HP : Hid (∀ e w', e = .returned (.bool b) → w' = w.setCell ⟨xb, 4, none⟩ (.int .i64 q) → post e w') := by rw [hpost]; exact HR.out
  rw [← hpost]
  clear hq hb ho hpost HR
  go_enter Tryz.func74, Tryz.ntmps74
  go_wp2_with (go_at_call 87; refine (HC.out _).mono ?_; rintro e w' ⟨rfl, rfl⟩)

  exact HP.out _ _ rfl rfl

set_option maxRecDepth 100000 in
set_option maxHeartbeats 1000000 in
theorem read_114 (x : In) (l : List UInt8) (n : Int) (s : ByteArray) (hs : s.size ≤ maxLen) (xb ob : Nat) (hne : xb ≠ ob) (w : World) (hx : Six w xb x) (ho : OAt w ob n l) :
    Calls Tryz.prog 74 #[.pointer (some ⟨xb, 0, none⟩), .pointer (some ⟨ob, 0, none⟩), .int .i32 114, .string s] w fun e w' => RdP w xb ob n e w' ((smallL s.data.toList).map fun n => ({ x with c := n }, l)) := by
  obtain ⟨o, hoo⟩ : ∃ o, smallL s.data.toList = o := ⟨_, rfl⟩
  have HC : Hid (∀ w, Calls Tryz.prog 88 #[.string s] w fun e w' => e = .returned (.tuple #[.int .i64 (o.getD 0), .bool o.isSome]) ∧ w' = w) := fun w => by rw [← hoo]; exact small_any s hs w
  rw [hoo]
  clear hoo
  obtain ⟨q, hq⟩ : ∃ q, o.getD 0 = q := ⟨_, rfl⟩
  obtain ⟨b, hb⟩ : ∃ b, o.isSome = b := ⟨_, rfl⟩
  rw [hq, hb] at HC
  have HX : Hid (Six (w.setCell ⟨xb, 4, none⟩ (.int .i64 q)) xb { x with c := q }) := hx.set 4 q (by simp) (by simp) (by simp) (by simp) (by simp) (by simp)
  have HO : Hid (OAt (w.setCell ⟨xb, 4, none⟩ (.int .i64 q)) ob n l) := ho.setX hne _
  have HT : Hid (Two w (w.setCell ⟨xb, 4, none⟩ (.int .i64 q)) xb ob) := Two.setX _ _ _ _ _
  have HR : Hid (∀ e w', e = .returned (.bool b) → w' = w.setCell ⟨xb, 4, none⟩ (.int .i64 q) → RdP w xb ob n e w' (o.map fun n => ({ x with c := n }, l))) := by
    rintro e w' rfl rfl
    cases o with
    | none => subst hb; exact ⟨rfl, HT.out⟩
    | some r => subst hb; obtain rfl : r = q := hq; exact ⟨rfl, HX.out, HO.out, HT.out⟩
  obtain ⟨x0, x1, x2, x3, x4, x5, f0, f1, f2, f3, f4, f5, _⟩ := hx
  obtain ⟨post, hpost⟩ : ∃ p : Ending → World → Prop, p = fun e w' => RdP w xb ob n e w' (o.map fun n => ({ x with c := n }, l)) := ⟨_, rfl⟩
  have HP : Hid (∀ e w', e = .returned (.bool b) → w' = w.setCell ⟨xb, 4, none⟩ (.int .i64 q) → post e w') := by rw [hpost]; exact HR.out
  rw [← hpost]
  clear hq hb ho hpost HR
  go_enter Tryz.func74, Tryz.ntmps74
  go_wp2_with (go_at_call 88; refine (HC.out _).mono ?_; rintro e w' ⟨rfl, rfl⟩)

  exact HP.out _ _ rfl rfl

theorem numL_some (s : List UInt8) (h : (parse s).2 = 0) : numL s = some (parse s).1 := by unfold numL; rw [if_pos h]
theorem numL_none (s : List UInt8) (h : (parse s).2 ≠ 0) : numL s = none := by unfold numL; rw [if_neg h]
set_option maxRecDepth 100000 in
set_option maxHeartbeats 1000000 in
theorem read_107 (x : In) (l : List UInt8) (n : Int) (s : ByteArray) (hs : s.size ≤ maxLen) (xb ob : Nat) (hne : xb ≠ ob) (w : World) (hx : Six w xb x) (ho : OAt w ob n l) :
    Calls Tryz.prog 74 #[.pointer (some ⟨xb, 0, none⟩), .pointer (some ⟨ob, 0, none⟩), .int .i32 107, .string s] w fun e w' => RdP w xb ob n e w' ((numL s.data.toList).map fun n => ({ x with k := n }, l)) := by
  obtain ⟨q, hq⟩ : ∃ q, (parse s.data.toList).1 = q := ⟨_, rfl⟩
  obtain ⟨b, hb⟩ : ∃ b, ((parse s.data.toList).2 == 0) = b := ⟨_, rfl⟩
  have HC : Hid (∀ w, Calls Tryz.prog 89 #[.string s] w fun e w' => e = .returned (.tuple #[.int .i64 q, .bool b]) ∧ w' = w) := fun w => by rw [← hq, ← hb]; exact number_any s hs w
  have HX : Hid (Six (w.setCell ⟨xb, 5, none⟩ (.int .i64 q)) xb { x with k := q }) := hx.set 5 q (by simp) (by simp) (by simp) (by simp) (by simp) (by simp)
  have HO : Hid (OAt (w.setCell ⟨xb, 5, none⟩ (.int .i64 q)) ob n l) := ho.setX hne _
  have HT : Hid (Two w (w.setCell ⟨xb, 5, none⟩ (.int .i64 q)) xb ob) := Two.setX _ _ _ _ _
  have HR : Hid (∀ e w', e = .returned (.bool b) → w' = w.setCell ⟨xb, 5, none⟩ (.int .i64 q) → RdP w xb ob n e w' ((numL s.data.toList).map fun n => ({ x with k := n }, l))) := by
    rintro e w' rfl rfl
    cases b with
    | false => rw [numL_none _ (by simpa using hb)]; exact ⟨rfl, HT.out⟩
    | true => rw [numL_some _ (by simpa using hb), hq]; exact ⟨rfl, HX.out, HO.out, HT.out⟩
  obtain ⟨x0, x1, x2, x3, x4, x5, f0, f1, f2, f3, f4, f5, _⟩ := hx
  obtain ⟨post, hpost⟩ : ∃ p : Ending → World → Prop, p = fun e w' => RdP w xb ob n e w' ((numL s.data.toList).map fun n => ({ x with k := n }, l)) := ⟨_, rfl⟩
  have HP : Hid (∀ e w', e = .returned (.bool b) → w' = w.setCell ⟨xb, 5, none⟩ (.int .i64 q) → post e w') := by rw [hpost]; exact HR.out
  rw [← hpost]
  clear hq hb ho hpost HR
  go_enter Tryz.func74, Tryz.ntmps74
  go_wp2_with (go_at_call 89; refine (HC.out _).mono ?_; rintro e w' ⟨rfl, rfl⟩)

  exact HP.out _ _ rfl rfl

set_option maxRecDepth 100000 in
set_option maxHeartbeats 1000000 in
theorem read_108 (x : In) (l : List UInt8) (n : Int) (s : ByteArray) (hs : s.size ≤ maxLen) (xb ob : Nat) (hne : xb ≠ ob) (w : World) (hx : Six w xb x) (ho : OAt w ob n l) :
    Calls Tryz.prog 74 #[.pointer (some ⟨xb, 0, none⟩), .pointer (some ⟨ob, 0, none⟩), .int .i32 108, .string s] w fun e w' => RdP w xb ob n e w' (if labB s.data.toList then some (x, s.data.toList) else none) := by
  obtain ⟨b, hb⟩ : ∃ b, labB s.data.toList = b := ⟨_, rfl⟩
  have HC : Hid (∀ w, Calls Tryz.prog 72 #[.string s] w fun e w' => e = .returned (.bool b) ∧ w' = w) := fun w => by rw [← hb]; exact label_any s hs w
  have HX : Hid (Six (w.setCell ⟨ob, 1, none⟩ (.string s)) xb x) := hx.setO hne _
  have HO : Hid (OAt (w.setCell ⟨ob, 1, none⟩ (.string s)) ob n s.data.toList) := ho.set s
  have HT : Hid (Two w (w.setCell ⟨ob, 1, none⟩ (.string s)) xb ob) := Two.setO _ _ _ _ _
  have HR : Hid (∀ e w', e = .returned (.bool b) → w' = w.setCell ⟨ob, 1, none⟩ (.string s) → RdP w xb ob n e w' (if labB s.data.toList then some (x, s.data.toList) else none)) := by
    rintro e w' rfl rfl
    rw [hb]
    cases b with
    | false => exact ⟨rfl, HT.out⟩
    | true => exact ⟨rfl, HX.out, HO.out, HT.out⟩
  obtain ⟨c0, c1, g1, _⟩ := ho
  obtain ⟨post, hpost⟩ : ∃ p : Ending → World → Prop, p = fun e w' => RdP w xb ob n e w' (if labB s.data.toList then some (x, s.data.toList) else none) := ⟨_, rfl⟩
  have HP : Hid (∀ e w', e = .returned (.bool b) → w' = w.setCell ⟨ob, 1, none⟩ (.string s) → post e w') := by rw [hpost]; exact HR.out
  rw [← hpost]
  clear hb hx hpost HR
  go_enter Tryz.func74, Tryz.ntmps74
  go_wp2_with (go_at_call 72; refine (HC.out _).mono ?_; rintro e w' ⟨rfl, rfl⟩)

  exact HP.out _ _ rfl rfl

/-- one piece becomes one part -/
theorem read_any (x : In) (l : List UInt8) (n : Int) (p : UInt8) (hp : p = 97 ∨ p = 98 ∨ p = 99 ∨ p = 114 ∨ p = 107 ∨ p = 108) (s : ByteArray) (hs : s.size ≤ maxLen) (xb ob : Nat) (hne : xb ≠ ob) (w : World) (hx : Six w xb x) (ho : OAt w ob n l) :
    Calls Tryz.prog 74 #[.pointer (some ⟨xb, 0, none⟩), .pointer (some ⟨ob, 0, none⟩), .int .i32 (p.toNat : Int), .string s] w fun e w' => RdP w xb ob n e w' (readL (x, l) p s.data.toList) := by
  rcases hp with rfl | rfl | rfl | rfl | rfl | rfl
  · exact read_97 x l n s hs xb ob hne w hx ho
  · exact read_98 x l n s hs xb ob hne w hx ho
  · exact read_99 x l n s hs xb ob hne w hx ho
  · exact read_114 x l n s hs xb ob hne w hx ho
  · exact read_107 x l n s hs xb ob hne w hx ho
  · exact read_108 x l n s hs xb ob hne w hx ho
end Go.Proofs.YthcidcfaodjbjabGreatDoor
