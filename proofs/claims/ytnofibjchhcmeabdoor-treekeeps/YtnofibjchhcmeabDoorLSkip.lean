/- The four ways in which a cutter gathers: digits, words, gaps, signs. -/
import Derived.Test.YtnofibjchhcmeabDoorLGather
import Derived.Test.YtnofibjchhcmeabDoorLMem
namespace Go.Proofs.YtnofibjchhcmeabDoor
open Go.RowKit
set_option linter.unusedVariables false

set_option maxRecDepth 100000 in
theorem enters_of {f : FuncId} {fn : Func} (hf : Tryd.prog.funcs[f]? = some fn) (h1 : (fn.name == "runtime.NumGoroutine") = false) (h2 : fn.body.isSome = true) (args : Array Value) (w : World) : Sem.run Tryd.prog (callFunc f args) w = .ok (.enter f args) w := by
  have h3 : ¬ fn.name = "runtime.NumGoroutine" := by simpa using h1
  have h4 : ¬ fn.body = none := by intro e; rw [e] at h2; cases h2
  simp [callFunc, hf, go_sem]
  rw [if_neg h3, if_neg h4]
set_option maxRecDepth 100000 in
theorem enters26 (args : Array Value) (w : World) : Sem.run Tryd.prog (callFunc 70 args) w = .ok (.enter 70 args) w := enters_of Tryd.func70 (by kernel_rfl) (by kernel_rfl) args w
set_option maxRecDepth 100000 in
theorem enters53 (args : Array Value) (w : World) : Sem.run Tryd.prog (callFunc 88 args) w = .ok (.enter 88 args) w := enters_of Tryd.func88 (by kernel_rfl) (by kernel_rfl) args w
set_option maxRecDepth 100000 in
theorem enters41 (args : Array Value) (w : World) : Sem.run Tryd.prog (callFunc 68 args) w = .ok (.enter 68 args) w := enters_of Tryd.func68 (by kernel_rfl) (by kernel_rfl) args w
set_option maxRecDepth 100000 in
theorem enters54 (args : Array Value) (w : World) : Sem.run Tryd.prog (callFunc 89 args) w = .ok (.enter 89 args) w := enters_of Tryd.func89 (by kernel_rfl) (by kernel_rfl) args w

set_option maxRecDepth 100000 in
theorem looksD (pb : Nat) : Looks 70 #[] pb (fun (_ : Unit) _ => True) dgStep (fun a w => Gr a w pb) where
  call := fun st b w _ => (isDigit_any b w).mono fun e w' ⟨h1, h2⟩ => by subst h2; exact ⟨h1, fun _ => trivial, Gr.refl _ _, rfl, Nat.le_refl _⟩
  enters := enters26
  drew := fun _ _ _ => trivial
  move := fun _ _ _ _ => trivial
  fdrew := fun _ _ h => h.drew
  fmove := fun _ _ q h => h.set 1 _
  ftrans := fun _ _ _ h k => h.trans k
  frefl := fun _ => Gr.refl _ _
set_option maxRecDepth 100000 in
theorem looksA (pb : Nat) : Looks 88 #[] pb (fun (_ : Unit) _ => True) alStep (fun a w => Gr a w pb) where
  call := fun st b w _ => (word1_any b w).mono fun e w' ⟨h1, h2⟩ => by subst h2; exact ⟨h1, fun _ => trivial, Gr.refl _ _, rfl, Nat.le_refl _⟩
  enters := enters53
  drew := fun _ _ _ => trivial
  move := fun _ _ _ _ => trivial
  fdrew := fun _ _ h => h.drew
  fmove := fun _ _ q h => h.set 1 _
  ftrans := fun _ _ _ h k => h.trans k
  frefl := fun _ => Gr.refl _ _

/-- of the blocks ahead of B only pb is written -/
structure FB (B pb : Nat) (a w : World) : Prop where
  os : w.os = a.os
  tape : w.tape = a.tape
  output : w.output = a.output
  size : a.heap.size ≤ w.heap.size
  block : ∀ k, k < B → k ≠ pb → w.heap[k]? = a.heap[k]?
set_option maxRecDepth 100000 in
theorem FB.refl (B pb : Nat) (a : World) : FB B pb a a := ⟨rfl, rfl, rfl, Nat.le_refl _, fun _ _ _ => rfl⟩
set_option maxRecDepth 100000 in
theorem FB.trans {B pb : Nat} {a b c : World} (h : FB B pb a b) (k : FB B pb b c) : FB B pb a c :=
  ⟨k.os.trans h.os, k.tape.trans h.tape, k.output.trans h.output, Nat.le_trans h.size k.size, fun i hi hne => (k.block i hi hne).trans (h.block i hi hne)⟩
set_option maxRecDepth 100000 in
theorem FB.set {B pb : Nat} {w w' : World} (h : FB B pb w w') (p : Nat) (v : Value) : FB B pb w (w'.setCell ⟨pb, p, none⟩ v) :=
  ⟨h.os, h.tape, h.output, by have := h.size; simpa [World.setCell] using this, fun i hi hne => (Below.heap_setCell w' ⟨pb, p, none⟩ v i (fun e => hne e)).trans (h.block i hi hne)⟩
set_option maxRecDepth 100000 in
theorem FB.drew {B pb : Nat} {a b : World} (h : FB B pb a b) : FB B pb a b.drew := ⟨h.os, h.tape, h.output, h.size, h.block⟩
set_option maxRecDepth 100000 in
theorem FB.below {B pb : Nat} {a b : World} (h : Below B a b) : FB B pb a b := ⟨h.os, h.tape, h.output, h.size, fun k hk _ => h.block k hk⟩
set_option maxRecDepth 100000 in
theorem FB.gr {B pb : Nat} {a b : World} (h : FB B pb a b) (hB : a.heap.size ≤ B) : Gr a b pb :=
  ⟨h.os, h.tape, h.output, h.size, fun k hk hne => h.block k (by omega) (fun e => hne (by rw [e]))⟩

/-- the cell of a remark -/
def RM (rb : Nat) (r : Bool) (w : World) : Prop := w.cell? ⟨rb, 0, none⟩ = some (.bool r) ∧ w.frozen? ⟨rb, 0, none⟩ = false ∧ rb < w.heap.size

set_option maxRecDepth 100000 in
set_option maxHeartbeats 1000000 in
theorem skip1_any (rb : Nat) (r : Bool) (b : UInt8) (w : World) (h : RM rb r w) :
    Calls Tryd.prog 68 #[.int .u8 (b.toNat : Int), .pointer (some ⟨rb, 0, none⟩)] w fun e w' => e = .returned (.bool (skStep r b).1) ∧ w' = w.setCell ⟨rb, 0, none⟩ (.bool (skStep r b).2) := by
  obtain ⟨h1, h2, h3⟩ := h
  have hc : ∀ v : Value, (w.setCell ⟨rb, 0, none⟩ v).cell? ⟨rb, 0, none⟩ = some v := fun v => World.cell?_setCell_same w _ _ h1
  have E35 : (b.toNat == 35) = ((b.toNat : Int) == 35) := by
    by_cases h : b.toNat = 35
    · rw [h]; rfl
    · rw [show (b.toNat == 35) = false by simpa using h]; symm; simp; omega
  have E10 : (b.toNat != 10) = !((b.toNat : Int) == 10) := by
    by_cases h : b.toNat = 10
    · rw [h]; rfl
    · rw [show (b.toNat != 10) = true by simpa using h]
      rw [show ((b.toNat : Int) == 10) = false by simp; omega]; rfl
  have key : ∀ r' : Bool, (skStep r b) = (r' || isB b, r') → (skStep r b).1 = (r' || isB b) ∧ (skStep r b).2 = r' := by intro r' e; rw [e]; exact ⟨rfl, rfl⟩
  have ev : skStep r b = ((((b.toNat : Int) == 35) || (r && !((b.toNat : Int) == 10))) || isB b, ((b.toNat : Int) == 35) || (r && !((b.toNat : Int) == 10))) := by
    unfold skStep; rw [E35, E10]
  clear E35 E10
  by_cases k1 : (b.toNat : Int) = 35
  · have q1 : ((b.toNat : Int) == 35) = true := by simpa using k1
    obtain ⟨e1, e2⟩ := key true (by rw [ev, q1]; rfl)
    rw [e1, e2, Bool.true_or]
    have hcf := hc (.bool true)
    clear key ev e1 e2 hc
    go_enter Tryd.func68, Tryd.ntmps68
    go_wp2
    go_ret
    exact ⟨rfl, rfl⟩
  · have q1 : ((b.toNat : Int) == 35) = false := by simpa using k1
    rcases r with _ | _
    · obtain ⟨e1, e2⟩ := key false (by rw [ev, q1]; rfl)
      rw [e1, e2, Bool.false_or]
      have hcf := hc (.bool false)
      clear key ev e1 e2 hc
      go_enter Tryd.func68, Tryd.ntmps68
      go_wp2_with fail
      refine (isBlank_any b _).mono ?_
      rintro e w' ⟨rfl, rfl⟩
      go_wp2
      go_ret
      exact ⟨rfl, rfl⟩
    · by_cases k2 : (b.toNat : Int) = 10
      · have q2 : ((b.toNat : Int) == 10) = true := by simpa using k2
        obtain ⟨e1, e2⟩ := key false (by rw [ev, q1, q2]; rfl)
        rw [e1, e2, Bool.false_or]
        have hbl : ∀ w : World, Calls Tryd.prog 69 #[.int .u8 10] w fun e w' => e = .returned (.bool (isB b)) ∧ w' = w := by
          intro w
          have := isBlank_any b w
          rw [k2] at this
          exact this
        have HBL : Hid (∀ w : World, Calls Tryd.prog 69 #[.int .u8 10] w fun e w' => e = .returned (.bool (isB b)) ∧ w' = w) := hbl
        have hcf := hc (.bool false)
        clear key ev e1 e2 hc hbl
        go_enter Tryd.func68, Tryd.ntmps68
        go_wp2_with fail
        refine (HBL.out _).mono ?_
        rintro e w' ⟨rfl, rfl⟩
        go_wp2
        go_ret
        exact ⟨rfl, rfl⟩
      · have q2 : ((b.toNat : Int) == 10) = false := by simpa using k2
        obtain ⟨e1, e2⟩ := key true (by rw [ev, q1, q2]; rfl)
        rw [e1, e2, Bool.true_or]
        have q3 : ((b.toNat : Int) != 10) = true := by simpa using k2
        have hcf := hc (.bool true)
        clear key ev e1 e2 hc
        go_enter Tryd.func68, Tryd.ntmps68
        go_wp2
        go_ret
        exact ⟨rfl, rfl⟩

set_option maxRecDepth 100000 in
theorem RM.set {rb : Nat} {r : Bool} {w : World} (h : RM rb r w) (u : Bool) : RM rb u (w.setCell ⟨rb, 0, none⟩ (.bool u)) :=
  ⟨World.cell?_setCell_same w _ _ h.1, by simpa using h.2.1, by simpa [World.setCell] using h.2.2⟩
set_option maxRecDepth 100000 in
theorem RM.other {rb pb : Nat} {r : Bool} {w : World} (h : RM rb r w) (hne : pb ≠ rb) (k : Nat) (v : Value) : RM rb r (w.setCell ⟨pb, k, none⟩ v) := by
  refine ⟨?_, by simpa using h.2.1, by simpa [World.setCell] using h.2.2⟩
  rw [World.cell?_setCell_other w _ _ _ (by intro e; cases e; exact hne rfl)]; exact h.1

set_option maxRecDepth 100000 in
theorem looksR (pb rb B : Nat) (hpb : pb < rb) (hB : B ≤ rb) : Looks 68 #[.pointer (some ⟨rb, 0, none⟩)] pb (RM rb) skStep (FB B pb) where
  call := fun st b w h => (skip1_any rb st b w h).mono fun e w' ⟨h1, h2⟩ => by
    subst h2
    exact ⟨h1, fun _ => h.set _, FB.below (Below.setCell (Below.refl _ _) (show B ≤ rb from hB) _), Below.heap_setCell _ _ _ _ (by show pb ≠ rb; omega), by simp [World.setCell]⟩
  enters := enters41
  drew := fun _ _ h => ⟨h.1, h.2.1, h.2.2⟩
  move := fun _ _ q h => h.other (by omega) 1 _
  fdrew := fun _ _ h => h.drew
  fmove := fun _ _ q h => h.set 1 _
  ftrans := fun _ _ _ h k => h.trans k
  frefl := fun _ => FB.refl _ _ _

set_option maxRecDepth 100000 in
set_option maxHeartbeats 1000000 in
theorem skip_any (pb p : Nat) (s : ByteArray) (w : World) (h : CS w pb s p) (hp : p ≤ s.size) (hs : s.size ≤ 1000000) :
    Calls Tryd.prog 52 #[.pointer (some ⟨pb, 0, none⟩)] w fun e w' => e = .returned (.tuple #[]) ∧ CS w' pb s (p + gapLen (s.data.toList.drop p)) ∧ Gr w w' pb := by
  have hmf : ∀ (fn : Fn) (first cap : Array Value) (w : World), (Instr.makeFunc fn first cap).run Tryd.prog w = .ok (.func fn first cap) w := fun _ _ _ _ => rfl
  have HC : Hid (CS w pb s p) := h
  have hlt := h.2.2.2
  clear h
  have L := looksR pb w.heap.size w.heap.size hlt (Nat.le_refl _)
  have HL : Hid (Looks 68 #[.pointer (some ⟨w.heap.size, 0, none⟩)] pb (RM w.heap.size) skStep (FB w.heap.size pb)) := L
  clear L
  go_enter Tryd.func52, Tryd.ntmps52
  go_wp2_with fail
  refine (gather_any HL.out p s false _ ?h1 hp hs ?h2).mono ?_
  case h1 => exact HC.out.block (Below.heap_alloc _ _ _ hlt) (by simp)
  case h2 => exact ⟨by simp, by simp, by simp⟩
  rintro e w' ⟨rfl, hcs, hfb⟩
  have H1 : Hid (CS w' pb s (p + gapLen (s.data.toList.drop p))) := hcs
  have H2 : Hid (Gr w w' pb) := ((FB.below ((Below.refl _ _).alloc (Nat.le_refl _) _)).trans hfb).gr (Nat.le_refl _)
  clear hcs hfb
  go_wp2
  go_end0
  exact ⟨rfl, H1.out, H2.out⟩
end Go.Proofs.YtnofibjchhcmeabDoor
