/- A cutter's state, and what it gathers. -/
import Derived.Test.YtnofibjchhcmeabDoorLChars
import Derived.Tactics
import Derived.Tactics2
import Derived.Defers
import Derived.Recover
import Derived.Laws.Pointers
import Derived.OwnWalk
import Derived.Below
import Derived.Deep.RegionHeld3
import Derived.Deep.QuietTactic
import Derived.BigQuiet
namespace Go.Proofs.YtnofibjchhcmeabDoor
open Go.RowKit
set_option linter.unusedVariables false

/-- a cutter's state: the text, and the place -/
def CS (w : World) (pb : Nat) (s : ByteArray) (p : Nat) : Prop :=
  w.cell? ⟨pb, 0, none⟩ = some (.string s) ∧ w.cell? ⟨pb, 1, none⟩ = some (.int .i64 (p : Int)) ∧ w.frozen? ⟨pb, 1, none⟩ = false ∧ pb < w.heap.size

/-- only block pb of those that were is written -/
def Gr (w w' : World) (pb : Nat) : Prop := w.grownBy w' (some pb)
set_option maxRecDepth 100000 in
theorem Gr.refl (w : World) (g : Nat) : Gr w w g := ⟨rfl, rfl, rfl, Nat.le_refl _, fun _ _ _ => rfl⟩
set_option maxRecDepth 100000 in
theorem Gr.trans {a b c : World} {g : Nat} (h : Gr a b g) (k : Gr b c g) : Gr a c g :=
  ⟨k.os.trans h.os, k.tape.trans h.tape, k.output.trans h.output, Nat.le_trans h.size k.size, fun i hi hne => (k.block i (Nat.lt_of_lt_of_le hi h.size) hne).trans (h.block i hi hne)⟩
set_option maxRecDepth 100000 in
theorem Gr.set {w w' : World} {g : Nat} (h : Gr w w' g) (p : Nat) (v : Value) : Gr w (w'.setCell ⟨g, p, none⟩ v) g :=
  ⟨h.os, h.tape, h.output, by have := h.size; simpa [World.setCell] using this, fun i hi hne => (Below.heap_setCell w' ⟨g, p, none⟩ v i (fun e => hne (by rw [e]))).trans (h.block i hi hne)⟩
set_option maxRecDepth 100000 in
theorem Gr.drew {a b : World} {g : Nat} (h : Gr a b g) : Gr a b.drew g := ⟨h.os, h.tape, h.output, h.size, h.block⟩
set_option maxRecDepth 100000 in
theorem Gr.alloc {w w' : World} {g : Nat} (h : Gr w w' g) (o : Obj) : Gr w (w'.alloc o) g :=
  ⟨h.os, h.tape, h.output, by have := h.size; simp; omega, fun i hi hne => (Below.heap_alloc w' o i (Nat.lt_of_lt_of_le hi h.size)).trans (h.block i hi hne)⟩
set_option maxRecDepth 100000 in
theorem Gr.cell {w w' : World} {g : Nat} (h : Gr w w' g) {p : Addr} (hp : p.block ≠ g) (hs : p.block < w.heap.size) : w'.cell? p = w.cell? p :=
  World.cell?_of_block (h.block p.block hs (fun e => hp (by cases e; rfl)))
set_option maxRecDepth 100000 in
theorem Gr.frozen {w w' : World} {g : Nat} (h : Gr w w' g) {p : Addr} (hp : p.block ≠ g) (hs : p.block < w.heap.size) : w'.frozen? p = w.frozen? p :=
  World.frozen?_of_block (h.block p.block hs (fun e => hp (by cases e; rfl)))

set_option maxRecDepth 100000 in
theorem CS.block {w w' : World} {pb p : Nat} {s : ByteArray} (h : CS w pb s p) (hb : w'.heap[pb]? = w.heap[pb]?) (hs : w.heap.size ≤ w'.heap.size) : CS w' pb s p :=
  ⟨(World.cell?_of_block (w := w) (a := ⟨pb, 0, none⟩) hb).trans h.1, (World.cell?_of_block (w := w) (a := ⟨pb, 1, none⟩) hb).trans h.2.1, (World.frozen?_of_block (w := w) (a := ⟨pb, 1, none⟩) hb).trans h.2.2.1, Nat.lt_of_lt_of_le h.2.2.2 hs⟩
set_option maxRecDepth 100000 in
theorem CS.move {w : World} {pb p : Nat} {s : ByteArray} (h : CS w pb s p) (q : Nat) : CS (w.setCell ⟨pb, 1, none⟩ (.int .i64 (q : Int))) pb s q := by
  obtain ⟨h1, h2, h3, h4⟩ := h
  refine ⟨?_, World.cell?_setCell_same w _ _ h2, by simpa using h3, by simpa [World.setCell] using h4⟩
  rw [World.cell?_setCell_other w _ _ _ (by intro e; cases e)]; exact h1

set_option maxRecDepth 100000 in
set_option maxHeartbeats 1000000 in
theorem ended_any (pb p : Nat) (s : ByteArray) (w : World) (h : CS w pb s p) (hs : s.size ≤ 1000000) :
    Calls Tryd.prog 53 #[.pointer (some ⟨pb, 0, none⟩)] w fun e w' => e = .returned (.bool ((p : Int) == (s.size : Int))) ∧ w' = w.drew := by
  obtain ⟨h1, h2, h3, h4⟩ := h
  go_enter Tryd.func53, Tryd.ntmps53
  go_wp2
  go_region
  all_goals
    go_wp2
    go_ret
    exact ⟨rfl, rfl⟩

set_option maxRecDepth 100000 in
theorem CS.drew {w : World} {pb p : Nat} {s : ByteArray} (h : CS w pb s p) : CS w.drew pb s p := ⟨h.1, h.2.1, h.2.2.1, h.2.2.2⟩
set_option maxRecDepth 100000 in
theorem ended_yes (pb : Nat) (s : ByteArray) (w : World) (h : CS w pb s s.size) (hs : s.size ≤ 1000000) :
    Calls Tryd.prog 53 #[.pointer (some ⟨pb, 0, none⟩)] w fun e w' => e = .returned (.bool true) ∧ w' = w.drew := by
  have := ended_any pb s.size s w h hs
  rw [show ((s.size : Int) == (s.size : Int)) = true by simp] at this
  exact this
set_option maxRecDepth 100000 in
theorem ended_yesN (pb : Nat) (s : ByteArray) (w : World) (n : Nat) (h : CS w pb s s.size) (hs : s.size ≤ 1000000) :
    Calls Tryd.prog 53 #[.pointer (some ⟨pb, 0, none⟩)] (w.drewN n) fun e w' => e = .returned (.bool true) ∧ ∃ m, w' = (w.drewN n).drewN m := by
  refine (ended_yes pb s (w.drewN n) ⟨h.1, h.2.1, h.2.2.1, h.2.2.2⟩ hs).mono ?_
  rintro e w' ⟨rfl, rfl⟩
  exact ⟨rfl, 1, rfl⟩
set_option maxRecDepth 100000 in
theorem ended_no (pb p : Nat) (s : ByteArray) (w : World) (h : CS w pb s p) (hs : s.size ≤ 1000000) (hne : p ≠ s.size) :
    Calls Tryd.prog 53 #[.pointer (some ⟨pb, 0, none⟩)] w fun e w' => e = .returned (.bool false) ∧ w' = w.drew := by
  have := ended_any pb p s w h hs
  rw [show ((p : Int) == (s.size : Int)) = false by simp; omega] at this
  exact this

/-- what a closure that looks at one byte owes: its answer, its state, and that it leaves the cutter and what was ahead of B -/
structure Looks (fn : Nat) (cap : Array Value) (pb : Nat) {σ : Type} (I : σ → World → Prop) (step : σ → UInt8 → Bool × σ) (F : World → World → Prop) : Prop where
  call : ∀ (st : σ) (b : UInt8) (w : World), I st w → Calls Tryd.prog fn (#[.int .u8 (b.toNat : Int)] ++ cap) w fun e w' => e = .returned (.bool (step st b).1) ∧ ((step st b).1 = true → I (step st b).2 w') ∧ F w w' ∧ w'.heap[pb]? = w.heap[pb]? ∧ w.heap.size ≤ w'.heap.size
  enters : ∀ (args : Array Value) (w : World), Sem.run Tryd.prog (callFunc fn args) w = .ok (.enter fn args) w
  drew : ∀ (st : σ) (w : World), I st w → I st w.drew
  move : ∀ (st : σ) (w : World) (q : Nat), I st w → I st (w.setCell ⟨pb, 1, none⟩ (.int .i64 (q : Int)))
  fdrew : ∀ (a w : World), F a w → F a w.drew
  fmove : ∀ (a w : World) (q : Nat), F a w → F a (w.setCell ⟨pb, 1, none⟩ (.int .i64 (q : Int)))
  ftrans : ∀ (a b c : World), F a b → F b c → F a c
  frefl : ∀ a : World, F a a

set_option maxRecDepth 100000 in
theorem Looks.fdrewN {fn : Nat} {cap : Array Value} {pb : Nat} {σ : Type} {I : σ → World → Prop} {step : σ → UInt8 → Bool × σ} {F : World → World → Prop} (K : Looks fn cap pb I step F) (a w : World) (h : F a w) (n : Nat) : F a (w.drewN n) := by
  induction n generalizing w with
  | zero => exact h
  | succ n ih => exact K.fdrew a _ (ih w h)
set_option maxRecDepth 100000 in
theorem CS.drewN {w : World} {pb p : Nat} {s : ByteArray} (h : CS w pb s p) (n : Nat) : CS (w.drewN n) pb s p := by
  induction n generalizing w with
  | zero => exact h
  | succ n ih => exact (ih h).drew

set_option maxRecDepth 100000 in
set_option maxHeartbeats 2000000 in
theorem gather_any {fn : Nat} {cap : Array Value} {pb : Nat} {σ : Type} {I : σ → World → Prop} {step : σ → UInt8 → Bool × σ} {F : World → World → Prop} (K : Looks fn cap pb I step F)
    (p : Nat) (s : ByteArray) (st : σ) (w : World) (h : CS w pb s p) (hp : p ≤ s.size) (hs : s.size ≤ 1000000) (hI : I st w) :
    Calls Tryd.prog 67 #[.pointer (some ⟨pb, 0, none⟩), .func (.func fn) #[] cap] w fun e w' => e = .returned (.string (s.extract p (p + ga step st (s.data.toList.drop p)))) ∧ CS w' pb s (p + ga step st (s.data.toList.drop p)) ∧ F w w' := by
  obtain ⟨n, hn⟩ : ∃ n, p + ga step st (s.data.toList.drop p) = n := ⟨_, rfl⟩
  rw [hn]
  have HN : Hid (p + ga step st (s.data.toList.drop p) = n) := hn
  have HI : Hid (I st w) := hI
  have HC : Hid (CS w pb s p) := h
  obtain ⟨h1, h2, h3, h4⟩ := h
  clear hn hI
  go_enter Tryd.func67, Tryd.ntmps67
  go_wp2
  go_loopw [] (fun wr => ∃ (q : Nat) (su : σ), p ≤ q ∧ q ≤ s.size ∧ Hid (q + ga step su (s.data.toList.drop q) = n) ∧ Hid (CS wr pb s q) ∧ Hid (I su wr) ∧ Hid (F w wr)) (fun wr => match wr.cell? ⟨pb, 1, none⟩ with | some (.int _ k) => s.size - k.toNat | _ => 0)
  case atStart => exact ⟨p, st, Nat.le_refl _, hp, HN, HC, HI, K.frefl w⟩
  case round =>
    obtain ⟨q, su, hq1, hq2, HQ, HCQ, HIQ, HFQ⟩ := hrel
    obtain ⟨c1, c2, c3, c4⟩ := HCQ.out
    by_cases he : q = s.size
    · subst he
      have en : s.size = n := by rw [← HQ.out, List.drop_of_length_le (by simp)]; rfl
      subst en
      go_wp2_with fail
      go_quiet (first | (go_at_call 53; refine Calls.quiet_of (ended_yesN pb s wr _ ?_ hs); exact HCQ.out))
      go_wp2
      go_quiet (fail)
      go_wp2
      go_ret
      exact ⟨rfl, (HCQ.out.drewN _).drewN _, K.fdrewN _ _ (K.fdrewN _ _ HFQ.out _) _⟩
    · have hlt : q < s.size := by omega
      have HD : Hid (CS wr.drew pb s q) := HCQ.out.drew
      have hen := K.enters
      have hdr : s.data.toList.drop q = s[q] :: s.data.toList.drop (q + 1) := List.drop_eq_getElem_cons (by simpa using hlt)
      have HQ' : Hid (q + (if (step su s[q]).1 then ga step (step su s[q]).2 (s.data.toList.drop (q + 1)) + 1 else 0) = n) := by
        have := HQ.out
        rw [hdr] at this
        exact this
      have hcall := K.call su s[q] wr.drew.drew (K.drew _ _ (K.drew _ _ HIQ.out))
      clear hdr
      rcases hb : (step su s[q]).1 with _ | _
      · have en : q = n := by have := HQ'.out; rw [hb] at this; simpa using this
        subst en
        rw [hb] at hcall
        have HCALL : Hid (Calls Tryd.prog fn (#[.int .u8 (s[q].toNat : Int)] ++ cap) wr.drew.drew fun e w' => e = .returned (.bool false) ∧ (false = true → I (step su s[q]).2 w') ∧ F wr.drew.drew w' ∧ w'.heap[pb]? = wr.drew.drew.heap[pb]? ∧ wr.drew.drew.heap.size ≤ w'.heap.size) := hcall
        clear hcall hb
        go_wp2_with fail
        go_region_held3 (fun w' => w'.cell? ⟨pb, 0, none⟩ = some (.string s) ∧ w'.cell? ⟨pb, 1, none⟩ = some (.int .i64 (q : Int))) (go_keep) (first | (go_at_call 53; refine (ended_no pb q s wr.drew HD.out hs he).mono ?_; rintro e w' ⟨rfl, rfl⟩) | (refine HCALL.out.mono ?_; rintro e w' ⟨rfl, hi', hf', hb', hz'⟩; have cs' := (HCQ.out.drew.drew).block hb' hz'; obtain ⟨d1, d2, d3, d4⟩ := cs'))
        have HIS : Hid (F wr.drew.drew w') := hf'
        have HCS : Hid (CS w' pb s q) := ⟨d1, d2, d3, d4⟩
        clear hf' hi' hb' hz' HCALL
        go_wp2
        go_quiet (fail)
        go_wp2
        go_ret
        exact ⟨rfl, HCS.out.drewN _, K.fdrewN _ _ (K.ftrans _ _ _ (K.fdrew _ _ (K.fdrew _ _ HFQ.out)) HIS.out) _⟩
      · have HQ2 : Hid (q + 1 + ga step (step su s[q]).2 (s.data.toList.drop (q + 1)) = n) := by
          have := HQ'.out; rw [hb] at this; show _ = _; simp at this; omega
        rw [hb] at hcall
        have HCALL : Hid (Calls Tryd.prog fn (#[.int .u8 (s[q].toNat : Int)] ++ cap) wr.drew.drew fun e w' => e = .returned (.bool true) ∧ (true = true → I (step su s[q]).2 w') ∧ F wr.drew.drew w' ∧ w'.heap[pb]? = wr.drew.drew.heap[pb]? ∧ wr.drew.drew.heap.size ≤ w'.heap.size) := hcall
        clear hcall hb HQ'
        go_wp2_with fail
        go_region_held3 (fun w' => w'.cell? ⟨pb, 0, none⟩ = some (.string s) ∧ w'.cell? ⟨pb, 1, none⟩ = some (.int .i64 (q : Int))) (go_keep) (first | (go_at_call 53; refine (ended_no pb q s wr.drew HD.out hs he).mono ?_; rintro e w' ⟨rfl, rfl⟩) | (refine HCALL.out.mono ?_; rintro e w' ⟨rfl, hi', hf', hb', hz'⟩; have cs' := (HCQ.out.drew.drew).block hb' hz'; obtain ⟨d1, d2, d3, d4⟩ := cs'))
        have HFS : Hid (F w w') := K.ftrans _ _ _ (K.fdrew _ _ (K.fdrew _ _ HFQ.out)) hf'
        have HCS : Hid (CS w' pb s q) := ⟨d1, d2, d3, d4⟩
        have HIS : Hid (I (step su s[q]).2 w') := hi' trivial
        clear hf' hi' hb' hz' HCALL
        go_wp2
        go_roundw
        case rel => exact ⟨q + 1, (step su s[q]).2, by omega, by omega, HQ2, HCS.out.move (q + 1), K.move _ _ (q + 1) HIS.out, K.fmove _ _ (q + 1) HFS.out⟩
        case measure =>
          rw [World.cell?_setCell_same w' _ _ d2, c2]
          simp
          omega
end Go.Proofs.YtnofibjchhcmeabDoor
