/- A sign, and a token of any kind. -/
import Derived.Test.YtnofibjchhcmeabDoorLChars
import Derived.Tactics
import Derived.Tactics2
import Derived.Defers
import Derived.Recover
import Derived.Laws.Pointers
import Derived.OwnWalk
import Derived.Below
import Derived.Deep.RegionHeld3
import Derived.Deep.QuietTactic
import Derived.BigQuiet
import Derived.Test.YtnofibjchhcmeabDoorRows
import Derived.WalkKit
import Derived.WalkSpells
import Derived.WalkLawsBesides
import Derived.Handy
import Derived.Laws.BytesArg
import Derived.Laws.BitsAllLaws
import Derived.Lib.AppendStr
namespace Go.Proofs.YtnofibjchhcmeabDoor
open Go.RowKit
set_option linter.unusedVariables false

/-- a cutter's state: the text, and the place -/
def CS (w : World) (pb : Nat) (s : ByteArray) (p : Nat) : Prop :=
  w.cell? ⟨pb, 0, none⟩ = some (.string s) ∧ w.cell? ⟨pb, 1, none⟩ = some (.int .i64 (p : Int)) ∧ w.frozen? ⟨pb, 1, none⟩ = false ∧ pb < w.heap.size

/-- only block pb of those that were is written -/
def Gr (w w' : World) (pb : Nat) : Prop := w.grownBy w' (some pb)
set_option maxRecDepth 100000 in
theorem Gr.refl (w : World) (g : Nat) : Gr w w g := ⟨rfl, rfl, rfl, Nat.le_refl _, fun _ _ _ => rfl⟩
set_option maxRecDepth 100000 in
theorem Gr.trans {a b c : World} {g : Nat} (h : Gr a b g) (k : Gr b c g) : Gr a c g :=
  ⟨k.os.trans h.os, k.tape.trans h.tape, k.output.trans h.output, Nat.le_trans h.size k.size, fun i hi hne => (k.block i (Nat.lt_of_lt_of_le hi h.size) hne).trans (h.block i hi hne)⟩
set_option maxRecDepth 100000 in
theorem Gr.set {w w' : World} {g : Nat} (h : Gr w w' g) (p : Nat) (v : Value) : Gr w (w'.setCell ⟨g, p, none⟩ v) g :=
  ⟨h.os, h.tape, h.output, by have := h.size; simpa [World.setCell] using this, fun i hi hne => (Below.heap_setCell w' ⟨g, p, none⟩ v i (fun e => hne (by rw [e]))).trans (h.block i hi hne)⟩
set_option maxRecDepth 100000 in
theorem Gr.drew {a b : World} {g : Nat} (h : Gr a b g) : Gr a b.drew g := ⟨h.os, h.tape, h.output, h.size, h.block⟩
set_option maxRecDepth 100000 in
theorem Gr.alloc {w w' : World} {g : Nat} (h : Gr w w' g) (o : Obj) : Gr w (w'.alloc o) g :=
  ⟨h.os, h.tape, h.output, by have := h.size; simp; omega, fun i hi hne => (Below.heap_alloc w' o i (Nat.lt_of_lt_of_le hi h.size)).trans (h.block i hi hne)⟩
set_option maxRecDepth 100000 in
theorem Gr.cell {w w' : World} {g : Nat} (h : Gr w w' g) {p : Addr} (hp : p.block ≠ g) (hs : p.block < w.heap.size) : w'.cell? p = w.cell? p :=
  World.cell?_of_block (h.block p.block hs (fun e => hp (by cases e; rfl)))
set_option maxRecDepth 100000 in
theorem Gr.frozen {w w' : World} {g : Nat} (h : Gr w w' g) {p : Addr} (hp : p.block ≠ g) (hs : p.block < w.heap.size) : w'.frozen? p = w.frozen? p :=
  World.frozen?_of_block (h.block p.block hs (fun e => hp (by cases e; rfl)))

set_option maxRecDepth 100000 in
theorem CS.block {w w' : World} {pb p : Nat} {s : ByteArray} (h : CS w pb s p) (hb : w'.heap[pb]? = w.heap[pb]?) (hs : w.heap.size ≤ w'.heap.size) : CS w' pb s p :=
  ⟨(World.cell?_of_block (w := w) (a := ⟨pb, 0, none⟩) hb).trans h.1, (World.cell?_of_block (w := w) (a := ⟨pb, 1, none⟩) hb).trans h.2.1, (World.frozen?_of_block (w := w) (a := ⟨pb, 1, none⟩) hb).trans h.2.2.1, Nat.lt_of_lt_of_le h.2.2.2 hs⟩
set_option maxRecDepth 100000 in
theorem CS.move {w : World} {pb p : Nat} {s : ByteArray} (h : CS w pb s p) (q : Nat) : CS (w.setCell ⟨pb, 1, none⟩ (.int .i64 (q : Int))) pb s q := by
  obtain ⟨h1, h2, h3, h4⟩ := h
  refine ⟨?_, World.cell?_setCell_same w _ _ h2, by simpa using h3, by simpa [World.setCell] using h4⟩
  rw [World.cell?_setCell_other w _ _ _ (by intro e; cases e)]; exact h1

set_option maxRecDepth 100000 in
set_option maxHeartbeats 1000000 in
theorem ended_any (pb p : Nat) (s : ByteArray) (w : World) (h : CS w pb s p) (hs : s.size ≤ 1000000) :
    Calls Tryd.prog 53 #[.pointer (some ⟨pb, 0, none⟩)] w fun e w' => e = .returned (.bool ((p : Int) == (s.size : Int))) ∧ w' = w.drew := by
  obtain ⟨h1, h2, h3, h4⟩ := h
  go_enter Tryd.func53, Tryd.ntmps53
  go_wp2
  go_region
  all_goals
    go_wp2
    go_ret
    exact ⟨rfl, rfl⟩

set_option maxRecDepth 100000 in
theorem CS.drew {w : World} {pb p : Nat} {s : ByteArray} (h : CS w pb s p) : CS w.drew pb s p := ⟨h.1, h.2.1, h.2.2.1, h.2.2.2⟩
set_option maxRecDepth 100000 in
theorem ended_yes (pb : Nat) (s : ByteArray) (w : World) (h : CS w pb s s.size) (hs : s.size ≤ 1000000) :
    Calls Tryd.prog 53 #[.pointer (some ⟨pb, 0, none⟩)] w fun e w' => e = .returned (.bool true) ∧ w' = w.drew := by
  have := ended_any pb s.size s w h hs
  rw [show ((s.size : Int) == (s.size : Int)) = true by simp] at this
  exact this
set_option maxRecDepth 100000 in
theorem ended_yesN (pb : Nat) (s : ByteArray) (w : World) (n : Nat) (h : CS w pb s s.size) (hs : s.size ≤ 1000000) :
    Calls Tryd.prog 53 #[.pointer (some ⟨pb, 0, none⟩)] (w.drewN n) fun e w' => e = .returned (.bool true) ∧ ∃ m, w' = (w.drewN n).drewN m := by
  refine (ended_yes pb s (w.drewN n) ⟨h.1, h.2.1, h.2.2.1, h.2.2.2⟩ hs).mono ?_
  rintro e w' ⟨rfl, rfl⟩
  exact ⟨rfl, 1, rfl⟩
set_option maxRecDepth 100000 in
theorem ended_no (pb p : Nat) (s : ByteArray) (w : World) (h : CS w pb s p) (hs : s.size ≤ 1000000) (hne : p ≠ s.size) :
    Calls Tryd.prog 53 #[.pointer (some ⟨pb, 0, none⟩)] w fun e w' => e = .returned (.bool false) ∧ w' = w.drew := by
  have := ended_any pb p s w h hs
  rw [show ((p : Int) == (s.size : Int)) = false by simp; omega] at this
  exact this

/-- what a closure that looks at one byte owes: its answer, its state, and that it leaves the cutter and what was ahead of B -/
structure Looks (fn : Nat) (cap : Array Value) (pb : Nat) {σ : Type} (I : σ → World → Prop) (step : σ → UInt8 → Bool × σ) (F : World → World → Prop) : Prop where
  call : ∀ (st : σ) (b : UInt8) (w : World), I st w → Calls Tryd.prog fn (#[.int .u8 (b.toNat : Int)] ++ cap) w fun e w' => e = .returned (.bool (step st b).1) ∧ ((step st b).1 = true → I (step st b).2 w') ∧ F w w' ∧ w'.heap[pb]? = w.heap[pb]? ∧ w.heap.size ≤ w'.heap.size
  enters : ∀ (args : Array Value) (w : World), Sem.run Tryd.prog (callFunc fn args) w = .ok (.enter fn args) w
  drew : ∀ (st : σ) (w : World), I st w → I st w.drew
  move : ∀ (st : σ) (w : World) (q : Nat), I st w → I st (w.setCell ⟨pb, 1, none⟩ (.int .i64 (q : Int)))
  fdrew : ∀ (a w : World), F a w → F a w.drew
  fmove : ∀ (a w : World) (q : Nat), F a w → F a (w.setCell ⟨pb, 1, none⟩ (.int .i64 (q : Int)))
  ftrans : ∀ (a b c : World), F a b → F b c → F a c
  frefl : ∀ a : World, F a a

set_option maxRecDepth 100000 in
theorem Looks.fdrewN {fn : Nat} {cap : Array Value} {pb : Nat} {σ : Type} {I : σ → World → Prop} {step : σ → UInt8 → Bool × σ} {F : World → World → Prop} (K : Looks fn cap pb I step F) (a w : World) (h : F a w) (n : Nat) : F a (w.drewN n) := by
  induction n generalizing w with
  | zero => exact h
  | succ n ih => exact K.fdrew a _ (ih w h)
set_option maxRecDepth 100000 in
theorem CS.drewN {w : World} {pb p : Nat} {s : ByteArray} (h : CS w pb s p) (n : Nat) : CS (w.drewN n) pb s p := by
  induction n generalizing w with
  | zero => exact h
  | succ n ih => exact (ih h).drew

set_option maxRecDepth 100000 in
set_option maxHeartbeats 2000000 in
theorem gather_any {fn : Nat} {cap : Array Value} {pb : Nat} {σ : Type} {I : σ → World → Prop} {step : σ → UInt8 → Bool × σ} {F : World → World → Prop} (K : Looks fn cap pb I step F)
    (p : Nat) (s : ByteArray) (st : σ) (w : World) (h : CS w pb s p) (hp : p ≤ s.size) (hs : s.size ≤ 1000000) (hI : I st w) :
    Calls Tryd.prog 67 #[.pointer (some ⟨pb, 0, none⟩), .func (.func fn) #[] cap] w fun e w' => e = .returned (.string (s.extract p (p + ga step st (s.data.toList.drop p)))) ∧ CS w' pb s (p + ga step st (s.data.toList.drop p)) ∧ F w w' := by
  obtain ⟨n, hn⟩ : ∃ n, p + ga step st (s.data.toList.drop p) = n := ⟨_, rfl⟩
  rw [hn]
  have HN : Hid (p + ga step st (s.data.toList.drop p) = n) := hn
  have HI : Hid (I st w) := hI
  have HC : Hid (CS w pb s p) := h
  obtain ⟨h1, h2, h3, h4⟩ := h
  clear hn hI
  go_enter Tryd.func67, Tryd.ntmps67
  go_wp2
  go_loopw [] (fun wr => ∃ (q : Nat) (su : σ), p ≤ q ∧ q ≤ s.size ∧ Hid (q + ga step su (s.data.toList.drop q) = n) ∧ Hid (CS wr pb s q) ∧ Hid (I su wr) ∧ Hid (F w wr)) (fun wr => match wr.cell? ⟨pb, 1, none⟩ with | some (.int _ k) => s.size - k.toNat | _ => 0)
  case atStart => exact ⟨p, st, Nat.le_refl _, hp, HN, HC, HI, K.frefl w⟩
  case round =>
    obtain ⟨q, su, hq1, hq2, HQ, HCQ, HIQ, HFQ⟩ := hrel
    obtain ⟨c1, c2, c3, c4⟩ := HCQ.out
    by_cases he : q = s.size
    · subst he
      have en : s.size = n := by rw [← HQ.out, List.drop_of_length_le (by simp)]; rfl
      subst en
      go_wp2_with fail
      go_quiet (first | (go_at_call 53; refine Calls.quiet_of (ended_yesN pb s wr _ ?_ hs); exact HCQ.out))
      go_wp2
      go_quiet (fail)
      go_wp2
      go_ret
      exact ⟨rfl, (HCQ.out.drewN _).drewN _, K.fdrewN _ _ (K.fdrewN _ _ HFQ.out _) _⟩
    · have hlt : q < s.size := by omega
      have HD : Hid (CS wr.drew pb s q) := HCQ.out.drew
      have hen := K.enters
      have hdr : s.data.toList.drop q = s[q] :: s.data.toList.drop (q + 1) := List.drop_eq_getElem_cons (by simpa using hlt)
      have HQ' : Hid (q + (if (step su s[q]).1 then ga step (step su s[q]).2 (s.data.toList.drop (q + 1)) + 1 else 0) = n) := by
        have := HQ.out
        rw [hdr] at this
        exact this
      have hcall := K.call su s[q] wr.drew.drew (K.drew _ _ (K.drew _ _ HIQ.out))
      clear hdr
      rcases hb : (step su s[q]).1 with _ | _
      · have en : q = n := by have := HQ'.out; rw [hb] at this; simpa using this
        subst en
        rw [hb] at hcall
        have HCALL : Hid (Calls Tryd.prog fn (#[.int .u8 (s[q].toNat : Int)] ++ cap) wr.drew.drew fun e w' => e = .returned (.bool false) ∧ (false = true → I (step su s[q]).2 w') ∧ F wr.drew.drew w' ∧ w'.heap[pb]? = wr.drew.drew.heap[pb]? ∧ wr.drew.drew.heap.size ≤ w'.heap.size) := hcall
        clear hcall hb
        go_wp2_with fail
        go_region_held3 (fun w' => w'.cell? ⟨pb, 0, none⟩ = some (.string s) ∧ w'.cell? ⟨pb, 1, none⟩ = some (.int .i64 (q : Int))) (go_keep) (first | (go_at_call 53; refine (ended_no pb q s wr.drew HD.out hs he).mono ?_; rintro e w' ⟨rfl, rfl⟩) | (refine HCALL.out.mono ?_; rintro e w' ⟨rfl, hi', hf', hb', hz'⟩; have cs' := (HCQ.out.drew.drew).block hb' hz'; obtain ⟨d1, d2, d3, d4⟩ := cs'))
        have HIS : Hid (F wr.drew.drew w') := hf'
        have HCS : Hid (CS w' pb s q) := ⟨d1, d2, d3, d4⟩
        clear hf' hi' hb' hz' HCALL
        go_wp2
        go_quiet (fail)
        go_wp2
        go_ret
        exact ⟨rfl, HCS.out.drewN _, K.fdrewN _ _ (K.ftrans _ _ _ (K.fdrew _ _ (K.fdrew _ _ HFQ.out)) HIS.out) _⟩
      · have HQ2 : Hid (q + 1 + ga step (step su s[q]).2 (s.data.toList.drop (q + 1)) = n) := by
          have := HQ'.out; rw [hb] at this; show _ = _; simp at this; omega
        rw [hb] at hcall
        have HCALL : Hid (Calls Tryd.prog fn (#[.int .u8 (s[q].toNat : Int)] ++ cap) wr.drew.drew fun e w' => e = .returned (.bool true) ∧ (true = true → I (step su s[q]).2 w') ∧ F wr.drew.drew w' ∧ w'.heap[pb]? = wr.drew.drew.heap[pb]? ∧ wr.drew.drew.heap.size ≤ w'.heap.size) := hcall
        clear hcall hb HQ'
        go_wp2_with fail
        go_region_held3 (fun w' => w'.cell? ⟨pb, 0, none⟩ = some (.string s) ∧ w'.cell? ⟨pb, 1, none⟩ = some (.int .i64 (q : Int))) (go_keep) (first | (go_at_call 53; refine (ended_no pb q s wr.drew HD.out hs he).mono ?_; rintro e w' ⟨rfl, rfl⟩) | (refine HCALL.out.mono ?_; rintro e w' ⟨rfl, hi', hf', hb', hz'⟩; have cs' := (HCQ.out.drew.drew).block hb' hz'; obtain ⟨d1, d2, d3, d4⟩ := cs'))
        have HFS : Hid (F w w') := K.ftrans _ _ _ (K.fdrew _ _ (K.fdrew _ _ HFQ.out)) hf'
        have HCS : Hid (CS w' pb s q) := ⟨d1, d2, d3, d4⟩
        have HIS : Hid (I (step su s[q]).2 w') := hi' trivial
        clear hf' hi' hb' hz' HCALL
        go_wp2
        go_roundw
        case rel => exact ⟨q + 1, (step su s[q]).2, by omega, by omega, HQ2, HCS.out.move (q + 1), K.move _ _ (q + 1) HIS.out, K.fmove _ _ (q + 1) HFS.out⟩
        case measure =>
          rw [World.cell?_setCell_same w' _ _ d2, c2]
          simp
          omega
end Go.Proofs.YtnofibjchhcmeabDoor
namespace Go.Proofs.YtnofibjchhcmeabDoor
open Go.RowKit
set_option linter.unusedVariables false

/-- bytes as cells -/
def bc (L : List UInt8) : List Value := L.map fun b => Value.int .u8 (b.toNat : Int)
set_option maxRecDepth 100000 in
theorem bc_len (L : List UInt8) : (bc L).length = L.length := by simp [bc]
set_option maxRecDepth 100000 in
theorem bc_app (A B : List UInt8) : bc (A ++ B) = bc A ++ bc B := by simp [bc]
set_option maxRecDepth 100000 in
theorem bc_one (L : List UInt8) : ∀ u ∈ bc L, u.oneCell' = true := by
  intro u hu
  obtain ⟨_, _, rfl⟩ := List.mem_map.1 hu
  rfl
set_option maxRecDepth 100000 in
theorem bc_get (L : List UInt8) (j : Nat) (u : Value) (h : (bc L)[j]? = some u) : ∃ hj : j < L.length, u = .int .u8 (L[j].toNat : Int) := by
  unfold bc at h
  rw [List.getElem?_map] at h
  rcases e : L[j]? with _ | c
  · rw [e] at h; simp at h
  · rw [e] at h
    obtain ⟨hj, rfl⟩ := List.getElem?_eq_some_iff.1 e
    exact ⟨hj, by simpa using h.symm⟩

/-- a slice of the call's own, from block 'base' on, that holds the bytes L -/
def Own (w : World) (base : Nat) (v : Value) (L : List UInt8) : Prop := w.ownsRow base 5 1 v L.length (bc L)

set_option maxRecDepth 100000 in
theorem Own.below {w w' : World} {base : Nat} {v : Value} {L : List UInt8} (h : Own w base v L) (hb : Below w.heap.size w w') : Own w' base v L := by
  obtain ⟨h1, h2⟩ := h
  refine ⟨h1, ?_⟩
  rcases h2 with h2 | ⟨g, cap, cur, e1, e2, e3, e4⟩
  · exact Or.inl h2
  · refine Or.inr ⟨g, cap, cur, e1, e2, ?_, e4⟩
    have hg : g < w.heap.size := by
      rcases Nat.lt_or_ge g w.heap.size with h | h
      · exact h
      · rw [Array.getElem?_eq_none h] at e3; cases e3
    rw [hb.block g hg]; exact e3

set_option maxRecDepth 100000 in
theorem Own.mono {w : World} {base base' : Nat} {v : Value} {L : List UInt8} (h : Own w base v L) (hb : base' ≤ base) : Own w base' v L := by
  obtain ⟨h1, h2⟩ := h
  refine ⟨h1, ?_⟩
  rcases h2 with h2 | ⟨g, cap, cur, e1, e2, e3⟩
  · exact Or.inl h2
  · exact Or.inr ⟨g, cap, cur, e1, by omega, e3⟩

/-- a writer's state: the struct lies in block pb, its bytes in a block behind it -/
def WS (w : World) (pb : Nat) (L : List UInt8) : Prop :=
  ∃ v, w.cell? ⟨pb, 0, none⟩ = some v ∧ w.frozen? ⟨pb, 0, none⟩ = false ∧ Own w (pb + 1) v L ∧ pb < w.heap.size

set_option maxRecDepth 100000 in
theorem WS.below {w w' : World} {pb : Nat} {L : List UInt8} (h : WS w pb L) (hb : Below w.heap.size w w') : WS w' pb L := by
  obtain ⟨v, h1, h2, h3, h4⟩ := h
  exact ⟨v, (hb.cell (p := ⟨pb, 0, none⟩) h4).trans h1, (hb.frozen (p := ⟨pb, 0, none⟩) h4).trans h2, h3.below hb, Nat.lt_of_lt_of_le h4 hb.size⟩

set_option maxRecDepth 100000 in
/-- what an append and a store into the field leave -/
theorem WS.after {w w1 w2 : World} {pb : Nat} {L M : List UInt8} {v v' : Value} (hc : w.cell? ⟨pb, 0, none⟩ = some v) (hf : w.frozen? ⟨pb, 0, none⟩ = false) (hown : Own w (pb + 1) v L) (hpb : pb < w.heap.size)
    (hw1 : Below w.heap.size w w1) (hown' : w2.ownsRow (pb + 1) 5 1 v' (L.length + M.length) (bc L ++ bc M)) (hg : w1.grownBy w2 v.ownBlock) :
    w2.cell? ⟨pb, 0, none⟩ = some v ∧ w2.frozen? ⟨pb, 0, none⟩ = false ∧ pb < w2.heap.size ∧ WS (w2.setCell ⟨pb, 0, none⟩ v') pb (L ++ M) ∧ Below pb w (w2.setCell ⟨pb, 0, none⟩ v') := by
  have hsz1 := hw1.size
  have hne : ∀ k, v.ownBlock = some k → pb + 1 ≤ k := fun k hk => (World.ownsRow.lt hown k hk).1
  have hne' : some pb ≠ v.ownBlock := by
    intro e
    have := hne pb e.symm
    omega
  have hblk : w2.heap[pb]? = w1.heap[pb]? := hg.block pb (by omega) hne'
  have c1 : w1.cell? ⟨pb, 0, none⟩ = some v := (hw1.cell (p := ⟨pb, 0, none⟩) hpb).trans hc
  have f1 : w1.frozen? ⟨pb, 0, none⟩ = false := (hw1.frozen (p := ⟨pb, 0, none⟩) hpb).trans hf
  have c2 : w2.cell? ⟨pb, 0, none⟩ = some v := (World.cell?_of_block (w := w1) (a := ⟨pb, 0, none⟩) hblk).trans c1
  have f2 : w2.frozen? ⟨pb, 0, none⟩ = false := (World.frozen?_of_block (w := w1) (a := ⟨pb, 0, none⟩) hblk).trans f1
  have hsz2 := hg.size
  have hp2 : pb < w2.heap.size := by omega
  refine ⟨c2, f2, hp2, ⟨v', ?_, ?_, ?_, ?_⟩, ?_⟩
  · exact World.cell?_setCell_same w2 _ _ c2
  · simpa using f2
  · have := ownsRow_setCell_below hown' (a := ⟨pb, 0, none⟩) (by show pb < pb + 1; omega) v'
    unfold Own
    rw [List.length_append, bc_app]
    exact this
  · simpa [World.setCell] using hp2
  · refine Below.setCell ?_ (show pb ≤ pb from Nat.le_refl _) _
    exact ((hw1.mono (by omega)).grown hg (by omega) (fun k hk => by have := hne k hk; omega))
/-- the slice v reads as the bytes L -/
def Rd (w : World) (v : Value) (L : List UInt8) : Prop :=
  (v = .slice none 0 0 ∧ L = []) ∨ ∃ b off cap, v = .slice (some ⟨b, off, none⟩) L.length cap ∧ L.length ≤ cap ∧ cap ≤ maxLen ∧ b < w.heap.size ∧ ∀ i (h : i < L.length), w.cell? ⟨b, off + i, none⟩ = some (.int .u8 (L[i].toNat : Int))

set_option maxRecDepth 100000 in
theorem Own.rd {w : World} {base : Nat} {v : Value} {L : List UInt8} (h : Own w base v L) : Rd w v L := by
  have hlt := World.ownsRow.lt h
  have hce := fun g => World.ownsRow.cells h (g := g)
  obtain ⟨h1, h2⟩ := h
  rcases h2 with ⟨h2, h3⟩ | ⟨g, cap, cur, e1, e2, e3, e4, e5, e6, e7⟩
  · exact Or.inl ⟨h2, List.eq_nil_of_length_eq_zero h3⟩
  · right
    refine ⟨g, 0, cap, e1, e4, e5, (hlt g (by rw [e1]; rfl)).2, fun i hi => ?_⟩
    have := hce g (by rw [e1]; rfl) i (.int .u8 (L[i].toNat : Int)) (by unfold bc; rw [List.getElem?_map, List.getElem?_eq_getElem hi]; rfl)
    rw [Nat.zero_add]
    rw [← this]
    congr 1
    unfold Addr.add
    split <;> simp_all

set_option maxRecDepth 100000 in
theorem Rd.below {w w' : World} {v : Value} {L : List UInt8} (h : Rd w v L) (hb : Below w.heap.size w w') : Rd w' v L := by
  rcases h with h | ⟨b, off, cap, e1, e2, e2', e3, e4⟩
  · exact Or.inl h
  · right
    refine ⟨b, off, cap, e1, e2, e2', Nat.lt_of_lt_of_le e3 hb.size, fun i hi => ?_⟩
    exact (hb.cell (p := ⟨b, off + i, none⟩) e3).trans (e4 i hi)

set_option maxRecDepth 100000 in
theorem str_of (L : List UInt8) : strOfNums (L.map fun c => (c.toNat : Int)) = ⟨L.toArray⟩ := by
  apply ByteArray.ext
  apply Array.toList_inj.1
  rw [strOfNums_data, List.map_map]
  show _ = L
  conv => rhs; rw [← List.map_id L]
  apply List.map_congr_left
  intro x _
  simp

set_option maxRecDepth 100000 in
theorem Rd.str {w : World} {v : Value} {L : List UInt8} (h : Rd w v L) : (convert 105 9 v).run Tryd.prog w = .ok (.string ⟨L.toArray⟩) w := by
  rcases h with ⟨rfl, rfl⟩ | ⟨b, off, cap, rfl, e2, e2', e3, e4⟩
  · rw [run_convert_bytes_nil w 105 5 (by kernel_rfl) (by kernel_rfl) 0 0 9 (by kernel_rfl)]; rfl
  · rw [run_convert_bytes_arg w 105 5 (by kernel_rfl) (by kernel_rfl) b off L.length cap (L.map fun c => (c.toNat : Int)) (by simp) ?_ 9 (by kernel_rfl), str_of]
    intro i hi
    rw [e4 i hi]
    simp [List.getD, List.getElem?_map, List.getElem?_eq_getElem hi]

set_option maxRecDepth 100000 in
/-- a writer stands while another block is written -/
theorem WS.other {w w' : World} {pb pr : Nat} {L : List UInt8} (h : WS w pb L) (hk : ∀ k, k < w.heap.size → k ≠ pr → w'.heap[k]? = w.heap[k]?) (hs : w.heap.size ≤ w'.heap.size) (hne : pr < pb) : WS w' pb L := by
  obtain ⟨v, h1, h2, h3, h4⟩ := h
  have hb := hk pb h4 (by omega)
  refine ⟨v, (World.cell?_of_block (w := w) (a := ⟨pb, 0, none⟩) hb).trans h1, (World.frozen?_of_block (w := w) (a := ⟨pb, 0, none⟩) hb).trans h2, ?_, Nat.lt_of_lt_of_le h4 hs⟩
  obtain ⟨o1, o2⟩ := h3
  refine ⟨o1, ?_⟩
  rcases o2 with o2 | ⟨g, cap, cur, e1, e2, e3, e4⟩
  · exact Or.inl o2
  · refine Or.inr ⟨g, cap, cur, e1, e2, ?_, e4⟩
    have hg : g < w.heap.size := by
      rcases Nat.lt_or_ge g w.heap.size with h | h
      · exact h
      · rw [Array.getElem?_eq_none h] at e3; cases e3
    rw [hk g hg (by omega)]; exact e3

set_option maxRecDepth 100000 in
theorem info5 : (Tryd.prog.info? 5).map (fun i => (i.zero, i.size, i.bytes)) = some (some (.int .u8 0), 1, 1) := by kernel_rfl
end Go.Proofs.YtnofibjchhcmeabDoor
namespace Go.Proofs.YtnofibjchhcmeabDoor
open Go.RowKit
set_option linter.unusedVariables false

set_option maxRecDepth 100000 in
theorem enters_of {f : FuncId} {fn : Func} (hf : Tryd.prog.funcs[f]? = some fn) (h1 : (fn.name == "runtime.NumGoroutine") = false) (h2 : fn.body.isSome = true) (args : Array Value) (w : World) : Sem.run Tryd.prog (callFunc f args) w = .ok (.enter f args) w := by
  have h3 : ¬ fn.name = "runtime.NumGoroutine" := by simpa using h1
  have h4 : ¬ fn.body = none := by intro e; rw [e] at h2; cases h2
  simp [callFunc, hf, go_sem]
  rw [if_neg h3, if_neg h4]
set_option maxRecDepth 100000 in
theorem enters26 (args : Array Value) (w : World) : Sem.run Tryd.prog (callFunc 70 args) w = .ok (.enter 70 args) w := enters_of Tryd.func70 (by kernel_rfl) (by kernel_rfl) args w
set_option maxRecDepth 100000 in
theorem enters53 (args : Array Value) (w : World) : Sem.run Tryd.prog (callFunc 88 args) w = .ok (.enter 88 args) w := enters_of Tryd.func88 (by kernel_rfl) (by kernel_rfl) args w
set_option maxRecDepth 100000 in
theorem enters41 (args : Array Value) (w : World) : Sem.run Tryd.prog (callFunc 68 args) w = .ok (.enter 68 args) w := enters_of Tryd.func68 (by kernel_rfl) (by kernel_rfl) args w
set_option maxRecDepth 100000 in
theorem enters54 (args : Array Value) (w : World) : Sem.run Tryd.prog (callFunc 89 args) w = .ok (.enter 89 args) w := enters_of Tryd.func89 (by kernel_rfl) (by kernel_rfl) args w

set_option maxRecDepth 100000 in
theorem looksD (pb : Nat) : Looks 70 #[] pb (fun (_ : Unit) _ => True) dgStep (fun a w => Gr a w pb) where
  call := fun st b w _ => (isDigit_any b w).mono fun e w' ⟨h1, h2⟩ => by subst h2; exact ⟨h1, fun _ => trivial, Gr.refl _ _, rfl, Nat.le_refl _⟩
  enters := enters26
  drew := fun _ _ _ => trivial
  move := fun _ _ _ _ => trivial
  fdrew := fun _ _ h => h.drew
  fmove := fun _ _ q h => h.set 1 _
  ftrans := fun _ _ _ h k => h.trans k
  frefl := fun _ => Gr.refl _ _
set_option maxRecDepth 100000 in
theorem looksA (pb : Nat) : Looks 88 #[] pb (fun (_ : Unit) _ => True) alStep (fun a w => Gr a w pb) where
  call := fun st b w _ => (word1_any b w).mono fun e w' ⟨h1, h2⟩ => by subst h2; exact ⟨h1, fun _ => trivial, Gr.refl _ _, rfl, Nat.le_refl _⟩
  enters := enters53
  drew := fun _ _ _ => trivial
  move := fun _ _ _ _ => trivial
  fdrew := fun _ _ h => h.drew
  fmove := fun _ _ q h => h.set 1 _
  ftrans := fun _ _ _ h k => h.trans k
  frefl := fun _ => Gr.refl _ _

/-- of the blocks ahead of B only pb is written -/
structure FB (B pb : Nat) (a w : World) : Prop where
  os : w.os = a.os
  tape : w.tape = a.tape
  output : w.output = a.output
  size : a.heap.size ≤ w.heap.size
  block : ∀ k, k < B → k ≠ pb → w.heap[k]? = a.heap[k]?
set_option maxRecDepth 100000 in
theorem FB.refl (B pb : Nat) (a : World) : FB B pb a a := ⟨rfl, rfl, rfl, Nat.le_refl _, fun _ _ _ => rfl⟩
set_option maxRecDepth 100000 in
theorem FB.trans {B pb : Nat} {a b c : World} (h : FB B pb a b) (k : FB B pb b c) : FB B pb a c :=
  ⟨k.os.trans h.os, k.tape.trans h.tape, k.output.trans h.output, Nat.le_trans h.size k.size, fun i hi hne => (k.block i hi hne).trans (h.block i hi hne)⟩
set_option maxRecDepth 100000 in
theorem FB.set {B pb : Nat} {w w' : World} (h : FB B pb w w') (p : Nat) (v : Value) : FB B pb w (w'.setCell ⟨pb, p, none⟩ v) :=
  ⟨h.os, h.tape, h.output, by have := h.size; simpa [World.setCell] using this, fun i hi hne => (Below.heap_setCell w' ⟨pb, p, none⟩ v i (fun e => hne e)).trans (h.block i hi hne)⟩
set_option maxRecDepth 100000 in
theorem FB.drew {B pb : Nat} {a b : World} (h : FB B pb a b) : FB B pb a b.drew := ⟨h.os, h.tape, h.output, h.size, h.block⟩
set_option maxRecDepth 100000 in
theorem FB.below {B pb : Nat} {a b : World} (h : Below B a b) : FB B pb a b := ⟨h.os, h.tape, h.output, h.size, fun k hk _ => h.block k hk⟩
set_option maxRecDepth 100000 in
theorem FB.gr {B pb : Nat} {a b : World} (h : FB B pb a b) (hB : a.heap.size ≤ B) : Gr a b pb :=
  ⟨h.os, h.tape, h.output, h.size, fun k hk hne => h.block k (by omega) (fun e => hne (by rw [e]))⟩

/-- the cell of a remark -/
def RM (rb : Nat) (r : Bool) (w : World) : Prop := w.cell? ⟨rb, 0, none⟩ = some (.bool r) ∧ w.frozen? ⟨rb, 0, none⟩ = false ∧ rb < w.heap.size

set_option maxRecDepth 100000 in
set_option maxHeartbeats 1000000 in
theorem skip1_any (rb : Nat) (r : Bool) (b : UInt8) (w : World) (h : RM rb r w) :
    Calls Tryd.prog 68 #[.int .u8 (b.toNat : Int), .pointer (some ⟨rb, 0, none⟩)] w fun e w' => e = .returned (.bool (skStep r b).1) ∧ w' = w.setCell ⟨rb, 0, none⟩ (.bool (skStep r b).2) := by
  obtain ⟨h1, h2, h3⟩ := h
  have hc : ∀ v : Value, (w.setCell ⟨rb, 0, none⟩ v).cell? ⟨rb, 0, none⟩ = some v := fun v => World.cell?_setCell_same w _ _ h1
  have E35 : (b.toNat == 35) = ((b.toNat : Int) == 35) := by
    by_cases h : b.toNat = 35
    · rw [h]; rfl
    · rw [show (b.toNat == 35) = false by simpa using h]; symm; simp; omega
  have E10 : (b.toNat != 10) = !((b.toNat : Int) == 10) := by
    by_cases h : b.toNat = 10
    · rw [h]; rfl
    · rw [show (b.toNat != 10) = true by simpa using h]
      rw [show ((b.toNat : Int) == 10) = false by simp; omega]; rfl
  have key : ∀ r' : Bool, (skStep r b) = (r' || isB b, r') → (skStep r b).1 = (r' || isB b) ∧ (skStep r b).2 = r' := by intro r' e; rw [e]; exact ⟨rfl, rfl⟩
  have ev : skStep r b = ((((b.toNat : Int) == 35) || (r && !((b.toNat : Int) == 10))) || isB b, ((b.toNat : Int) == 35) || (r && !((b.toNat : Int) == 10))) := by
    unfold skStep; rw [E35, E10]
  clear E35 E10
  by_cases k1 : (b.toNat : Int) = 35
  · have q1 : ((b.toNat : Int) == 35) = true := by simpa using k1
    obtain ⟨e1, e2⟩ := key true (by rw [ev, q1]; rfl)
    rw [e1, e2, Bool.true_or]
    have hcf := hc (.bool true)
    clear key ev e1 e2 hc
    go_enter Tryd.func68, Tryd.ntmps68
    go_wp2
    go_ret
    exact ⟨rfl, rfl⟩
  · have q1 : ((b.toNat : Int) == 35) = false := by simpa using k1
    rcases r with _ | _
    · obtain ⟨e1, e2⟩ := key false (by rw [ev, q1]; rfl)
      rw [e1, e2, Bool.false_or]
      have hcf := hc (.bool false)
      clear key ev e1 e2 hc
      go_enter Tryd.func68, Tryd.ntmps68
      go_wp2_with fail
      refine (isBlank_any b _).mono ?_
      rintro e w' ⟨rfl, rfl⟩
      go_wp2
      go_ret
      exact ⟨rfl, rfl⟩
    · by_cases k2 : (b.toNat : Int) = 10
      · have q2 : ((b.toNat : Int) == 10) = true := by simpa using k2
        obtain ⟨e1, e2⟩ := key false (by rw [ev, q1, q2]; rfl)
        rw [e1, e2, Bool.false_or]
        have hbl : ∀ w : World, Calls Tryd.prog 69 #[.int .u8 10] w fun e w' => e = .returned (.bool (isB b)) ∧ w' = w := by
          intro w
          have := isBlank_any b w
          rw [k2] at this
          exact this
        have HBL : Hid (∀ w : World, Calls Tryd.prog 69 #[.int .u8 10] w fun e w' => e = .returned (.bool (isB b)) ∧ w' = w) := hbl
        have hcf := hc (.bool false)
        clear key ev e1 e2 hc hbl
        go_enter Tryd.func68, Tryd.ntmps68
        go_wp2_with fail
        refine (HBL.out _).mono ?_
        rintro e w' ⟨rfl, rfl⟩
        go_wp2
        go_ret
        exact ⟨rfl, rfl⟩
      · have q2 : ((b.toNat : Int) == 10) = false := by simpa using k2
        obtain ⟨e1, e2⟩ := key true (by rw [ev, q1, q2]; rfl)
        rw [e1, e2, Bool.true_or]
        have q3 : ((b.toNat : Int) != 10) = true := by simpa using k2
        have hcf := hc (.bool true)
        clear key ev e1 e2 hc
        go_enter Tryd.func68, Tryd.ntmps68
        go_wp2
        go_ret
        exact ⟨rfl, rfl⟩

set_option maxRecDepth 100000 in
theorem RM.set {rb : Nat} {r : Bool} {w : World} (h : RM rb r w) (u : Bool) : RM rb u (w.setCell ⟨rb, 0, none⟩ (.bool u)) :=
  ⟨World.cell?_setCell_same w _ _ h.1, by simpa using h.2.1, by simpa [World.setCell] using h.2.2⟩
set_option maxRecDepth 100000 in
theorem RM.other {rb pb : Nat} {r : Bool} {w : World} (h : RM rb r w) (hne : pb ≠ rb) (k : Nat) (v : Value) : RM rb r (w.setCell ⟨pb, k, none⟩ v) := by
  refine ⟨?_, by simpa using h.2.1, by simpa [World.setCell] using h.2.2⟩
  rw [World.cell?_setCell_other w _ _ _ (by intro e; cases e; exact hne rfl)]; exact h.1

set_option maxRecDepth 100000 in
theorem looksR (pb rb B : Nat) (hpb : pb < rb) (hB : B ≤ rb) : Looks 68 #[.pointer (some ⟨rb, 0, none⟩)] pb (RM rb) skStep (FB B pb) where
  call := fun st b w h => (skip1_any rb st b w h).mono fun e w' ⟨h1, h2⟩ => by
    subst h2
    exact ⟨h1, fun _ => h.set _, FB.below (Below.setCell (Below.refl _ _) (show B ≤ rb from hB) _), Below.heap_setCell _ _ _ _ (by show pb ≠ rb; omega), by simp [World.setCell]⟩
  enters := enters41
  drew := fun _ _ h => ⟨h.1, h.2.1, h.2.2⟩
  move := fun _ _ q h => h.other (by omega) 1 _
  fdrew := fun _ _ h => h.drew
  fmove := fun _ _ q h => h.set 1 _
  ftrans := fun _ _ _ h k => h.trans k
  frefl := fun _ => FB.refl _ _ _

set_option maxRecDepth 100000 in
set_option maxHeartbeats 1000000 in
theorem skip_any (pb p : Nat) (s : ByteArray) (w : World) (h : CS w pb s p) (hp : p ≤ s.size) (hs : s.size ≤ 1000000) :
    Calls Tryd.prog 52 #[.pointer (some ⟨pb, 0, none⟩)] w fun e w' => e = .returned (.tuple #[]) ∧ CS w' pb s (p + gapLen (s.data.toList.drop p)) ∧ Gr w w' pb := by
  have hmf : ∀ (fn : Fn) (first cap : Array Value) (w : World), (Instr.makeFunc fn first cap).run Tryd.prog w = .ok (.func fn first cap) w := fun _ _ _ _ => rfl
  have HC : Hid (CS w pb s p) := h
  have hlt := h.2.2.2
  clear h
  have L := looksR pb w.heap.size w.heap.size hlt (Nat.le_refl _)
  have HL : Hid (Looks 68 #[.pointer (some ⟨w.heap.size, 0, none⟩)] pb (RM w.heap.size) skStep (FB w.heap.size pb)) := L
  clear L
  go_enter Tryd.func52, Tryd.ntmps52
  go_wp2_with fail
  refine (gather_any HL.out p s false _ ?h1 hp hs ?h2).mono ?_
  case h1 => exact HC.out.block (Below.heap_alloc _ _ _ hlt) (by simp)
  case h2 => exact ⟨by simp, by simp, by simp⟩
  rintro e w' ⟨rfl, hcs, hfb⟩
  have H1 : Hid (CS w' pb s (p + gapLen (s.data.toList.drop p))) := hcs
  have H2 : Hid (Gr w w' pb) := ((FB.below ((Below.refl _ _).alloc (Nat.le_refl _) _)).trans hfb).gr (Nat.le_refl _)
  clear hcs hfb
  go_wp2
  go_end0
  exact ⟨rfl, H1.out, H2.out⟩
end Go.Proofs.YtnofibjchhcmeabDoor
namespace Go.Proofs.YtnofibjchhcmeabDoor
open Go.RowKit
set_option linter.unusedVariables false

set_option maxRecDepth 100000 in
theorem toL (L : List UInt8) : (⟨L.toArray⟩ : ByteArray).toList = L := by rw [ByteArray.toList_eq]

set_option maxRecDepth 100000 in
theorem WS.drew {w : World} {pb : Nat} {L : List UInt8} (h : WS w pb L) : WS w.drew pb L := h.below (Below.refl _ _).drew

set_option maxRecDepth 100000 in
set_option maxHeartbeats 1000000 in
theorem sign1_any (rb : Nat) (row : List UInt8) (b : UInt8) (w : World) (hL : row.length ≤ 2) (hw : WS w rb row) :
    Calls Tryd.prog 89 #[.int .u8 (b.toNat : Int), .pointer (some ⟨rb, 0, none⟩)] w fun e w' => e = .returned (.bool (isS (row ++ [b]))) ∧ WS w' rb (row ++ [b]) ∧ Below rb w w' := by
  obtain ⟨v, c0, f0, o0, p0⟩ := hw
  have HO : Hid (Own w (rb + 1) v row) := o0
  clear o0
  obtain ⟨i0, hi, hz0, hz1, hz2⟩ := info_parts info5
  go_enter Tryd.func89, Tryd.ntmps89
  go_wp2_with (at_builtin; refine wpList_append_own _ rfl _ _ 105 rfl (rb + 1) 5 i0 (.int .u8 0) 1 1 Tryd.underlying105 hi hz0 hz1 hz2 rfl (by decide) _ _ _ rfl (HO.out.alloc _) ⟨w.heap.size, 0, none⟩ 1 1 (bc [b]) rfl rfl ?c1 ?c2 ?c3 ?c4 ?c5 ?_)
  case c1 =>
    intro j u hj
    match j, hj with
    | 0, hj => simp [bc] at hj; subst hj; simp [Addr.add]
  case c2 => exact bc_one _
  case c3 => unfold maxLen; omega
  case c4 => omega
  case c5 => simp; omega
  · intro v' w1 hown' hgrow _
    obtain ⟨k1, k2, k3, k4, k5⟩ := WS.after (M := [b]) c0 f0 HO.out p0 ((Below.refl _ _).alloc (Nat.le_refl _) _) hown' hgrow
    have K4 : Hid (WS (w1.setCell ⟨rb, 0, none⟩ v') rb (row ++ [b])) := k4
    have K5 : Hid (Below rb w (w1.setCell ⟨rb, 0, none⟩ v')) := k5
    have kc : (w1.setCell ⟨rb, 0, none⟩ v').cell? ⟨rb, 0, none⟩ = some v' := World.cell?_setCell_same w1 _ _ k1
    have hrd : Rd (w1.setCell ⟨rb, 0, none⟩ v') v' (row ++ [b]) := by
      obtain ⟨v2, d1, d2, d3, d4⟩ := k4
      rw [kc] at d1
      cases d1
      exact d3.rd
    have hcv : (convert 105 9 v').run Tryd.prog (w1.setCell ⟨rb, 0, none⟩ v') = .ok (.string ⟨(row ++ [b]).toArray⟩) (w1.setCell ⟨rb, 0, none⟩ v') := hrd.str
    obtain ⟨g, cap', rfl⟩ : ∃ g cap', v' = .slice (some ⟨g, 0, none⟩) (row.length + 1) cap' := by
      rcases hown'.2 with ⟨_, h⟩ | ⟨g, cap', _, h, _⟩
      · omega
      · exact ⟨g, cap', h⟩
    clear k4 k5 hown' hgrow c0 f0 p0 hrd
    go_wp2_with fail
    refine (isSign_any ⟨(row ++ [b]).toArray⟩ (by show (row ++ [b]).toArray.size ≤ 1000; simp; omega) _).mono ?_
    rintro e w' ⟨rfl, rfl⟩
    rw [toL]
    go_wp2
    go_ret
    exact ⟨rfl, K4.out, K5.out⟩

set_option maxRecDepth 100000 in
theorem isS_len (L : List UInt8) (h : isS L = true) : L.length ≤ 2 := by
  unfold isS at h
  rcases L with _ | ⟨a, _ | ⟨b, _ | ⟨c, r⟩⟩⟩
  · simp
  · simp
  · simp
  · exfalso
    have : signs2.contains (a :: b :: c :: r) = true := by simpa using h
    have := List.contains_iff_mem.1 this
    unfold signs2 at this
    simp at this

set_option maxRecDepth 100000 in
theorem looksS (pb rb B : Nat) (hpb : pb < rb) (hB : B ≤ rb) : Looks 89 #[.pointer (some ⟨rb, 0, none⟩)] pb (fun row w => WS w rb row ∧ row.length ≤ 2) sgStep (FB B pb) where
  call := fun st b w h => (sign1_any rb st b w h.2 h.1).mono fun e w' ⟨h1, h2, h3⟩ =>
    ⟨h1, fun hs => ⟨h2, isS_len _ hs⟩, FB.below (h3.mono hB), h3.block pb hpb, h3.size⟩
  enters := enters54
  drew := fun _ _ h => ⟨h.1.drew, h.2⟩
  move := fun _ w q h => ⟨h.1.other (fun k hk hne => Below.heap_setCell _ _ _ _ hne) (by simp [World.setCell]) hpb, h.2⟩
  fdrew := fun _ _ h => h.drew
  fmove := fun _ _ q h => h.set 1 _
  ftrans := fun _ _ _ h k => h.trans k
  frefl := fun _ => FB.refl _ _ _
end Go.Proofs.YtnofibjchhcmeabDoor
namespace Go.Proofs.YtnofibjchhcmeabDoor
open Go.RowKit

theorem ne_empty (s : ByteArray) (h : 0 < s.size) : s.toList.isEmpty = false := by
  have h2 : s.toList = s.data.toList := ByteArray.toList_eq s
  rw [h2]
  have h3 : s.data.toList.length = s.size := by simp
  rcases e : s.data.toList with _ | ⟨a, l⟩
  · rw [e] at h3; simp at h3; omega
  · rfl

set_option maxHeartbeats 400000 in
theorem digits_any (s : ByteArray) (hs : s.size ≤ maxLen) (w : World) :
    Calls Tryd.prog 96 #[.string s] w fun e w' => e = .returned (.bool (areD s.data.toList)) ∧ w' = w := by
  unfold maxLen at hs
  by_cases h0 : s.size = 0
  · obtain rfl : s = ByteArray.empty := by apply ByteArray.ext; exact Array.eq_empty_of_size_eq_zero h0
    go_enter Tryd.func96, Tryd.ntmps96
    go_wp2
    go_rounds 1
    go_ret
    exact ⟨rfl, rfl⟩
  have hne : s.toList.isEmpty = false := ne_empty s (by omega)
  go_enter Tryd.func96, Tryd.ntmps96
  go_wp2
  go_loop [6] (fun i => ∃ k : Nat, k ≤ s.size ∧ i = .int .i64 k ∧ (s.data.toList.take k).all isD = true) (fun i => s.size - (intOf i).toNat)
  case atStart => exact ⟨0, Nat.zero_le _, rfl, rfl⟩
  case round =>
    obtain ⟨k, hk, rfl, ha⟩ := hrel
    have HA : Hid (_ = true) := ha
    clear ha
    by_cases hlt : k < s.size
    · by_cases c1 : (s[k].toNat : Int) < 48
      · have HN : Hid (_ = false) := not_all s k hlt (Or.inl c1)
        go_wp2
        go_ret
        exact ⟨by rw [HN.out]; rfl, rfl⟩
      · by_cases c2 : (57 : Int) < s[k].toNat
        · have HN : Hid (_ = false) := not_all s k hlt (Or.inr c2)
          go_wp2
          go_ret
          exact ⟨by rw [HN.out]; rfl, rfl⟩
        · have HN : Hid (_ = true) := all_snoc s k hlt HA.out (by omega) (by omega)
          go_wp2
          go_round
          case rel => exact ⟨k + 1, by omega, by go_num, HN.out⟩
          case measure => simp [intOf]; omega
    · have hk' : k = s.size := by omega
      have HN : Hid (_ = true) := areD_of_all s (by omega) (by rw [← hk']; exact HA.out)
      clear hk'
      go_wp2
      go_ret
      exact ⟨by rw [HN.out]; exact congrArg (fun b => Ending.returned (Value.bool b)) rfl, rfl⟩

set_option maxHeartbeats 400000 in
theorem value_any (s : ByteArray) (hs : s.size ≤ 19) (ha : areD s.data.toList = true) (w : World) :
    Calls Tryd.prog 98 #[.string s] w fun e w' => e = .returned (.int .u64 (val s.data.toList)) ∧ w' = w := by
  have HA : Hid (_ = true) := ha
  clear ha
  go_enter Tryd.func98, Tryd.ntmps98
  go_wp2
  go_loop [3, 7] (fun n i => ∃ k : Nat, k ≤ s.size ∧ i = .int .i64 k ∧ n = .int .u64 (val (s.data.toList.take k))) (fun _ i => s.size - (intOf i).toNat)
  case atStart => exact ⟨0, Nat.zero_le _, rfl, rfl⟩
  case round =>
    obtain ⟨k, hk, rfl, rfl⟩ := hrel
    by_cases hlt : k < s.size
    · have hb := val_take_lt s k hlt hs HA.out
      have HV : Hid (_ = _) := val_take s k hlt HA.out
      obtain ⟨d1, d2⟩ := isD_at s k hlt HA.out
      go_wp2
      go_round
      case rel => exact ⟨k + 1, by omega, by go_num, by rw [HV.out]⟩
      case measure => simp [intOf]; omega
    · go_wp2
      go_ret
      exact ⟨by rw [List.take_of_length_le (by simp; omega)]; rfl, rfl⟩

set_option maxHeartbeats 400000 in
theorem sign_any (b : Bool) (n : Int) (h1 : 0 ≤ n) (h2 : n ≤ 18446744073709551615) (w : World) :
    Calls Tryd.prog 97 #[.bool b, .int .u64 n] w fun e w' => e = .returned (.tuple #[.int .i64 (withS b n).1, .int .i64 (withS b n).2]) ∧ w' = w := by
  rcases b with _ | _
  · by_cases h : n ≤ 9223372036854775807
    · go_enter Tryd.func97, Tryd.ntmps97
      go_wp2
      go_ret2
      exact ⟨by simp [withS, h], rfl⟩
    · go_enter Tryd.func97, Tryd.ntmps97
      go_wp2
      go_ret2
      exact ⟨by simp [withS, Int.not_le.2 h], rfl⟩
  · by_cases h : n ≤ 9223372036854775808
    · go_enter Tryd.func97, Tryd.ntmps97
      go_wp2
      go_ret2
      exact ⟨by simp [withS, h]; go_arith, rfl⟩
    · go_enter Tryd.func97, Tryd.ntmps97
      go_wp2
      go_ret2
      exact ⟨by simp [withS, Int.not_le.2 h], rfl⟩

theorem digits_is (b : Bool) (s : ByteArray) (hs : s.size ≤ maxLen) (hd : areD s.data.toList = b) (w : World) :
    Calls Tryd.prog 96 #[.string s] w fun e w' => e = .returned (.bool b) ∧ w' = w := by
  subst hd
  exact digits_any s hs w


/- the text without a sign ahead -/
set_option maxHeartbeats 1000000 in
theorem parse_plain (s : ByteArray) (hs : s.size ≤ maxLen) (h0 : 0 < s.size) (h45 : ((s[0].toNat : Int) == 45) = false) (w : World) :
    Calls Tryd.prog 87 #[.string s] w fun e w' => ∃ r, r = parseOf false (s.toList == [48]) s.data.toList ∧ e = .returned (.tuple #[.int .i64 r.1, .int .i64 r.2]) ∧ w' = w := by
  have hs' := hs
  unfold maxLen at hs
  have hne : s.toList.isEmpty = false := ne_empty s h0
  have hl : s.data.toList.length = s.size := by simp
  by_cases hd : areD s.data.toList = true
  · have hd : Hid (areD s.data.toList = true) := hd
    have h48 : Hid _ := head_48 s h0
    by_cases hz : (s[0].toNat : Int) = 48
    · by_cases ho : (s.toList == [48]) = true
      · by_cases h19 : 19 < s.size
        · go_enter Tryd.func87, Tryd.ntmps87
          go_wp2_with (go_at_call 96; refine (digits_is true s hs' hd.out _).mono ?_; rintro e w' ⟨rfl, rfl⟩)
          go_ret2
          exact ⟨_, rfl, by rw [parseOf_3 hd.out (Or.inr ho) (by omega)]; rfl, rfl⟩
        · have hv : Hid _ := val_bd s h19 hd.out
          go_enter Tryd.func87, Tryd.ntmps87
          go_wp2_with (first | (go_at_call 96; refine (digits_is true s hs' hd.out _).mono ?_; rintro e w' ⟨rfl, rfl⟩) | (go_at_call 98; refine (value_any s (by omega) hd.out _).mono ?_; rintro e w' ⟨rfl, rfl⟩) | (go_at_call 97; refine (sign_any false _ (by omega) hv.out _).mono ?_; rintro e w' ⟨rfl, rfl⟩))
          go_ret2
          exact ⟨_, rfl, by rw [parseOf_4 hd.out (Or.inr ho) (by omega)]; rfl, rfl⟩
      · have ho' : (s.toList == [48]) = false := by simpa using ho
        clear ho
        go_enter Tryd.func87, Tryd.ntmps87
        go_wp2_with (go_at_call 96; refine (digits_is true s hs' hd.out _).mono ?_; rintro e w' ⟨rfl, rfl⟩)
        go_ret2
        exact ⟨_, rfl, by rw [ho', parseOf_2 hd.out (h48.out.2 hz)]; rfl, rfl⟩
    · by_cases h19 : 19 < s.size
      · go_enter Tryd.func87, Tryd.ntmps87
        go_wp2_with (go_at_call 96; refine (digits_is true s hs' hd.out _).mono ?_; rintro e w' ⟨rfl, rfl⟩)
        go_ret2
        exact ⟨_, rfl, by rw [parseOf_3 hd.out (Or.inl (fun e => hz (h48.out.1 e))) (by omega)]; rfl, rfl⟩
      · have hv : Hid _ := val_bd s h19 hd.out
        go_enter Tryd.func87, Tryd.ntmps87
        go_wp2_with (first | (go_at_call 96; refine (digits_is true s hs' hd.out _).mono ?_; rintro e w' ⟨rfl, rfl⟩) | (go_at_call 98; refine (value_any s (by omega) hd.out _).mono ?_; rintro e w' ⟨rfl, rfl⟩) | (go_at_call 97; refine (sign_any false _ (by omega) hv.out _).mono ?_; rintro e w' ⟨rfl, rfl⟩))
        go_ret2
        exact ⟨_, rfl, by rw [parseOf_4 hd.out (Or.inl (fun e => hz (h48.out.1 e))) (by omega)]; rfl, rfl⟩
  · have hd : Hid (areD s.data.toList = false) := by show _ = false; simpa using hd
    go_enter Tryd.func87, Tryd.ntmps87
    go_wp2_with (go_at_call 96; refine (digits_is false s hs' hd.out _).mono ?_; rintro e w' ⟨rfl, rfl⟩)
    go_ret2
    exact ⟨_, rfl, by rw [parseOf_1 hd.out]; rfl, rfl⟩

/- the text with a sign ahead -/
set_option maxHeartbeats 1000000 in
theorem parse_minus (s t : ByteArray) (hs : s.size ≤ maxLen) (h0 : 0 < s.size) (h45 : ((s[0].toNat : Int) == 45) = true) (ht : s.extract 1 s.size = t) (hts : t.size + 1 = s.size) (ho' : (s.toList == [48]) = false) (w : World) :
    Calls Tryd.prog 87 #[.string s] w fun e w' => ∃ r, r = parseOf true false t.data.toList ∧ e = .returned (.tuple #[.int .i64 r.1, .int .i64 r.2]) ∧ w' = w := by
  have hs' : t.size ≤ maxLen := by omega
  unfold maxLen at hs
  have hne : s.toList.isEmpty = false := ne_empty s h0
  have hl : t.data.toList.length = t.size := by simp
  have HTS : Hid (t.size + 1 = s.size) := hts
  by_cases hd : areD t.data.toList = true
  · have ht0 : 0 < t.size := areD_size t hd
    have hd : Hid (areD t.data.toList = true) := hd
    have h48 : Hid _ := head_48 t ht0
    have hts1 : t.size < s.size := by omega
    clear hts
    by_cases hz : (t[0].toNat : Int) = 48
    · go_enter Tryd.func87, Tryd.ntmps87
      go_wp2_with (go_at_call 96; refine (digits_is true t hs' hd.out _).mono ?_; rintro e w' ⟨rfl, rfl⟩)
      go_ret2
      exact ⟨_, rfl, by rw [parseOf_2 hd.out (h48.out.2 hz)]; rfl, rfl⟩
    · by_cases h19 : 19 < t.size
      · go_enter Tryd.func87, Tryd.ntmps87
        go_wp2_with (go_at_call 96; refine (digits_is true t hs' hd.out _).mono ?_; rintro e w' ⟨rfl, rfl⟩)
        go_ret2
        exact ⟨_, rfl, by rw [parseOf_3 hd.out (Or.inl (fun e => hz (h48.out.1 e))) (by omega)]; rfl, rfl⟩
      · have hv : Hid _ := val_bd t h19 hd.out
        go_enter Tryd.func87, Tryd.ntmps87
        go_wp2_with (first | (go_at_call 96; refine (digits_is true t hs' hd.out _).mono ?_; rintro e w' ⟨rfl, rfl⟩) | (go_at_call 98; refine (value_any t (by omega) hd.out _).mono ?_; rintro e w' ⟨rfl, rfl⟩) | (go_at_call 97; refine (sign_any true _ (by omega) hv.out _).mono ?_; rintro e w' ⟨rfl, rfl⟩))
        go_ret2
        exact ⟨_, rfl, by rw [parseOf_4 hd.out (Or.inl (fun e => hz (h48.out.1 e))) (by omega)]; rfl, rfl⟩
  · have hd : Hid (areD t.data.toList = false) := by show _ = false; simpa using hd
    clear hts
    go_enter Tryd.func87, Tryd.ntmps87
    go_wp2_with (go_at_call 96; refine (digits_is false t hs' hd.out _).mono ?_; rintro e w' ⟨rfl, rfl⟩)
    go_ret2
    exact ⟨_, rfl, by rw [parseOf_1 hd.out]; rfl, rfl⟩

set_option maxHeartbeats 400000 in
theorem parse_empty (w : World) :
    Calls Tryd.prog 87 #[.string ByteArray.empty] w fun e w' => e = .returned (.tuple #[.int .i64 0, .int .i64 10]) ∧ w' = w := by
  have hd : areD ByteArray.empty.data.toList = false := by decide
  go_enter Tryd.func87, Tryd.ntmps87
  go_wp2_with (go_at_call 96; refine (digits_is false ByteArray.empty (by unfold maxLen; decide) hd _).mono ?_; rintro e w' ⟨rfl, rfl⟩)
  go_ret2
  exact ⟨rfl, rfl⟩


theorem parse_any (s : ByteArray) (hs : s.size ≤ maxLen) (w : World) :
    Calls Tryd.prog 87 #[.string s] w fun e w' => e = .returned (.tuple #[.int .i64 (parse s.data.toList).1, .int .i64 (parse s.data.toList).2]) ∧ w' = w := by
  by_cases h0 : s.size = 0
  · obtain rfl : s = ByteArray.empty := by apply ByteArray.ext; exact Array.eq_empty_of_size_eq_zero h0
    exact parse_empty w
  · have h0' : 0 < s.size := by omega
    have hh := head_is s h0'
    have hl : s.data.toList.length = s.size := by simp
    rcases e : s.data.toList with _ | ⟨c, r⟩
    · rw [e] at hl; simp at hl; omega
    · rw [e] at hh
      have hc : c = s[0] := by simpa using hh
      by_cases h45 : c = 45
      · have et : (s.extract 1 s.size).data.toList = r := by
          have : (s.extract 1 s.size).data.toList = s.data.toList.tail := by
            rw [ByteArray.data_extract, Array.toList_extract, List.extract_eq_take_drop, List.take_of_length_le (by simp), List.drop_one]
          rw [this, e]; rfl
        refine (parse_minus s (s.extract 1 s.size) hs h0' (by rw [← hc, h45]; rfl) rfl (by simp; omega) (by rw [ByteArray.toList_eq, e, h45]; rfl) w).mono ?_
        rintro e' w' ⟨r', hr, he, hw⟩
        subst hw
        refine ⟨?_, rfl⟩
        rw [he, hr, et]
        simp [parse, h45]
      · refine (parse_plain s hs h0' (by
          rw [← hc]
          have : c.toNat ≠ 45 := fun e => h45 (UInt8.toNat_inj.1 e)
          simp; omega) w).mono ?_
        rintro e' w' ⟨r', hr, he, hw⟩
        subst hw
        refine ⟨?_, rfl⟩
        rw [he, hr, ByteArray.toList_eq, e]
        simp [parse, h45]
end Go.Proofs.YtnofibjchhcmeabDoor
namespace Go.Proofs.YtnofibjchhcmeabDoor
open Go.RowKit
set_option linter.unusedVariables false

def gaveUp (k e : Int) : Ending := .panicked [{ v := .iface 76 (.agg #[.int .i64 k, .int .i64 e]), recovered := false }]

set_option maxRecDepth 100000 in
set_option maxHeartbeats 400000 in
theorem giveUp_any (k n : Int) (w : World) : Calls Tryd.prog 44 #[.int .i64 k, .int .i64 n] w fun e w' => e = gaveUp k n ∧ w' = w := by
  go_enter Tryd.func44, Tryd.ntmps44
  go_wp2
  exact ⟨rfl, rfl, rfl⟩

/-- a token as a value -/
def tokV (k : Int) (t : ByteArray) (m : Int) (p : Nat) : Value := .agg #[.int .i64 k, .string t, .int .i64 m, .int .i64 (p : Int)]
/-- what comes of a token's reading -/
def TokPost (w : World) (pb : Nat) (s : ByteArray) (p : Nat) : One → Ending → World → Prop
  | .inl (k, m, n), e, w' => e = .returned (tokV k (s.extract p (p + n)) m p) ∧ CS w' pb s (p + n) ∧ Gr w w' pb
  | .inr (o, er), e, w' => e = gaveUp ((p + o : Nat) : Int) er ∧ Gr w w' pb

set_option maxRecDepth 100000 in
theorem CS.setNew {w : World} {pb p b o : Nat} {s : ByteArray} (h : CS w pb s p) (hb : pb ≠ b) (v : Value) : CS (w.setCell ⟨b, o, none⟩ v) pb s p :=
  h.block (Below.heap_setCell _ _ _ _ hb) (by simp [World.setCell])
set_option maxRecDepth 100000 in
theorem Gr.setNew {w w' : World} {pb b o : Nat} (h : Gr w w' pb) (hb : w.heap.size ≤ b) (v : Value) : Gr w (w'.setCell ⟨b, o, none⟩ v) pb :=
  ⟨h.os, h.tape, h.output, by have := h.size; simpa [World.setCell] using this, fun i hi hne => (Below.heap_setCell w' _ v i (by show i ≠ b; omega)).trans (h.block i hi hne)⟩
set_option maxRecDepth 100000 in
theorem Gr.drewN {a b : World} {g : Nat} (h : Gr a b g) (n : Nat) : Gr a (b.drewN n) g := by
  induction n with
  | zero => exact h
  | succ n ih => exact ih.drew

/-- a block of four cells -/
structure Four (w : World) (b : Nat) (a0 a1 a2 a3 : Value) : Prop where
  c0 : w.cell? ⟨b, 0, none⟩ = some a0
  c1 : w.cell? ⟨b, 1, none⟩ = some a1
  c2 : w.cell? ⟨b, 2, none⟩ = some a2
  c3 : w.cell? ⟨b, 3, none⟩ = some a3
  f0 : w.frozen? ⟨b, 0, none⟩ = false
  f1 : w.frozen? ⟨b, 1, none⟩ = false
  f2 : w.frozen? ⟨b, 2, none⟩ = false
  f3 : w.frozen? ⟨b, 3, none⟩ = false
set_option maxRecDepth 100000 in
theorem Four.keep {w w' : World} {b : Nat} {a0 a1 a2 a3 : Value} (h : Four w b a0 a1 a2 a3) (hb : w'.heap[b]? = w.heap[b]?) : Four w' b a0 a1 a2 a3 :=
  ⟨(World.cell?_of_block (w := w) (a := ⟨b, 0, none⟩) hb).trans h.c0, (World.cell?_of_block (w := w) (a := ⟨b, 1, none⟩) hb).trans h.c1, (World.cell?_of_block (w := w) (a := ⟨b, 2, none⟩) hb).trans h.c2, (World.cell?_of_block (w := w) (a := ⟨b, 3, none⟩) hb).trans h.c3,
   (World.frozen?_of_block (w := w) (a := ⟨b, 0, none⟩) hb).trans h.f0, (World.frozen?_of_block (w := w) (a := ⟨b, 1, none⟩) hb).trans h.f1, (World.frozen?_of_block (w := w) (a := ⟨b, 2, none⟩) hb).trans h.f2, (World.frozen?_of_block (w := w) (a := ⟨b, 3, none⟩) hb).trans h.f3⟩

set_option maxRecDepth 100000 in
theorem Four.stored {w : World} {b : Nat} {a0 a1 a2 a3 : Value} (h : Four w b a0 a1 a2 a3) (x0 x1 x2 x3 : Value) :
    Four ((((w.setCell ⟨b, 0, none⟩ x0).setCell ⟨b, 1, none⟩ x1).setCell ⟨b, 2, none⟩ x2).setCell ⟨b, 3, none⟩ x3) b x0 x1 x2 x3 := by
  have s1 : ∀ (u : World) (i j : Nat) (v : Value), i ≠ j → (u.setCell ⟨b, i, none⟩ v).cell? ⟨b, j, none⟩ = u.cell? ⟨b, j, none⟩ := fun u i j v hij => World.cell?_setCell_other u _ _ _ (by intro e; cases e; exact hij rfl)
  refine ⟨?_, ?_, ?_, ?_, by simpa using h.f0, by simpa using h.f1, by simpa using h.f2, by simpa using h.f3⟩
  · rw [s1 _ 3 0 _ (by decide), s1 _ 2 0 _ (by decide), s1 _ 1 0 _ (by decide)]
    exact World.cell?_setCell_same _ _ _ h.c0
  · rw [s1 _ 3 1 _ (by decide), s1 _ 2 1 _ (by decide)]
    exact World.cell?_setCell_same _ _ _ ((s1 _ 0 1 _ (by decide)).trans h.c1)
  · rw [s1 _ 3 2 _ (by decide)]
    exact World.cell?_setCell_same _ _ _ ((s1 _ 1 2 _ (by decide)).trans ((s1 _ 0 2 _ (by decide)).trans h.c2))
  · exact World.cell?_setCell_same _ _ _ ((s1 _ 2 3 _ (by decide)).trans ((s1 _ 1 3 _ (by decide)).trans ((s1 _ 0 3 _ (by decide)).trans h.c3)))

set_option maxRecDepth 100000 in
theorem ret_tok {fn : Func} (h : fn.results = #[.cell 2 84]) (tmps : Array Value) (b : Nat) (hb : tmps[2]?.getD undef = .pointer (some ⟨b, 0, none⟩)) (W : World) {a0 a1 a2 a3 : Value} (F : Four W b a0 a1 a2 a3) :
    (results fn tmps).run Tryd.prog W = .ok (.agg #[a0, a1, a2, a3]) W := by
  obtain ⟨c0, c1, c2, c3, _, _, _, _⟩ := F
  simp [results, h, hb, go_sem, c0, c1, c2, c3]

set_option maxRecDepth 100000 in
theorem ended_noN (pb q : Nat) (s : ByteArray) (w : World) (n : Nat) (h : CS w pb s q) (hs : s.size ≤ 1000000) (hne : q ≠ s.size) :
    Calls Tryd.prog 53 #[.pointer (some ⟨pb, 0, none⟩)] (w.drewN n) fun e w' => e = .returned (.bool false) ∧ ∃ m, w' = (w.drewN n).drewN m := by
  refine (ended_no pb q s (w.drewN n) (h.drewN n) hs hne).mono ?_
  rintro e w' ⟨rfl, rfl⟩
  exact ⟨rfl, 1, rfl⟩

set_option maxRecDepth 100000 in
theorem extract_list (s : ByteArray) (p n : Nat) : (s.extract p (p + n)).data.toList = (s.data.toList.drop p).take n := by
  rw [ByteArray.data_extract, Array.toList_extract, List.extract_eq_take_drop, Nat.add_sub_cancel_left]

set_option maxRecDepth 100000 in
set_option maxHeartbeats 4000000 in
theorem number_any (pb p : Nat) (s : ByteArray) (w : World) (h : CS w pb s p) (hp : p ≤ s.size) (hs : s.size ≤ 1000000) :
    Calls Tryd.prog 71 #[.pointer (some ⟨pb, 0, none⟩)] w fun e w' => TokPost w pb s p (numTok (s.data.toList.drop p)) e w' := by
  obtain ⟨h1, h2, h3, h4⟩ := h
  have HC : Hid (CS w pb s p) := ⟨h1, h2, h3, h4⟩
  obtain ⟨n, hn⟩ : ∃ n, ga dgStep () (s.data.toList.drop p) = n := ⟨_, rfl⟩
  have hpn : p + n ≤ s.size := by
    have := ga_le dgStep () (s.data.toList.drop p)
    rw [hn] at this
    simp at this
    omega
  obtain ⟨q, hq⟩ : ∃ q, p + n = q := ⟨_, rfl⟩
  obtain ⟨T, hT⟩ : ∃ T, s.extract p (p + n) = T := ⟨_, rfl⟩
  have hTl : T.data.toList = (s.data.toList.drop p).take n := by rw [← hT, extract_list]
  have hTs : T.size ≤ maxLen := by
    have e1 : T.data.toList.length = T.size := by simp
    rw [← e1, hTl]
    unfold maxLen
    simp
    omega
  obtain ⟨res, hres⟩ : ∃ r, numTok (s.data.toList.drop p) = r := ⟨_, rfl⟩
  have HR : Hid (numTok (s.data.toList.drop p) = res) := hres
  rw [hres]
  have HN : Hid (ga dgStep () (s.data.toList.drop p) = n) := hn
  have HTL : Hid (T.data.toList = (s.data.toList.drop p).take n) := hTl
  have HT : Hid (s.extract p q = T) := hq ▸ hT
  have HQ : Hid (p + n = q) := hq
  rw [hq] at hpn
  obtain ⟨pv, hpv⟩ : ∃ r, parse T.data.toList = r := ⟨_, rfl⟩
  have HPV : Hid (parse T.data.toList = pv) := hpv
  clear hres hn hT hTl hpv hq
  go_enter Tryd.func71, Tryd.ntmps71
  go_wp2_with fail
  refine (gather_any (looksD pb) p s () _ ?h1 hp hs trivial).mono ?_
  case h1 => exact (HC.out.block (Below.heap_alloc _ _ _ h4) (by simp)).block (Below.heap_alloc _ _ _ (by simp; omega)) (by simp)
  rintro e w3 ⟨rfl, hcs, hgr⟩
  rw [HN.out, HQ.out] at hcs
  rw [HN.out, HQ.out, HT.out]
  have F2 : Four w3 w.heap.size (.int .i64 0) (.string ⟨#[]⟩) (.int .i64 0) (.int .i64 0) :=
    Four.keep (w := (w.alloc (.cells #[.int .i64 0, .string ⟨#[]⟩, .int .i64 0, .int .i64 0] 84)).alloc (.cells #[.int .i64 1, .string ⟨#[]⟩, .int .i64 0, .int .i64 (p : Int)] 84)) ⟨by simp, by simp, by simp, by simp, by simp, by simp, by simp, by simp⟩ (hgr.block _ (by simp; omega) (by intro e; cases e; omega))
  have F3 : Four w3 (w.heap.size + 1) (.int .i64 1) (.string ⟨#[]⟩) (.int .i64 0) (.int .i64 (p : Int)) :=
    Four.keep (w := (w.alloc (.cells #[.int .i64 0, .string ⟨#[]⟩, .int .i64 0, .int .i64 0] 84)).alloc (.cells #[.int .i64 1, .string ⟨#[]⟩, .int .i64 0, .int .i64 (p : Int)] 84)) ⟨by simp, by simp, by simp, by simp, by simp, by simp, by simp, by simp⟩ (hgr.block _ (by simp) (by intro e; cases e; omega))
  have HG : Hid (Gr w w3 pb) := (((Gr.refl w pb).alloc _).alloc _).trans hgr
  have HCS : Hid (CS w3 pb s q) := hcs
  obtain ⟨a0, a1, a2, a3, b0, b1, b2, b3⟩ := F2
  obtain ⟨d0, d1, d2, d3, e0, e1, e2, e3⟩ := F3
  clear hcs hgr
  obtain ⟨v, er⟩ := pv
  by_cases hz : er = 0
  · subst hz
    go_wp2_with (go_at_call 87; refine (parse_any T hTs _).mono ?_; rintro e w' ⟨rfl, rfl⟩; rw [HPV.out])
    have HCX : Hid (CS (w3.setCell ⟨w.heap.size + 1, 1, none⟩ (.string T)) pb s q) := HCS.out.setNew (by omega) _
    by_cases hend : q = s.size
    · have HRES : Hid (res = .tok 1 v n) := by
        show _ = _
        rw [← HR.out]
        unfold numTok
        dsimp only
        rw [HN.out, ← HTL.out, HPV.out, if_neg (by simp), List.drop_drop, HQ.out, hend, List.drop_of_length_le (by simp)]
        rfl
      have HCX' : Hid (CS (w3.setCell ⟨w.heap.size + 1, 1, none⟩ (.string T)) pb s s.size) := hend ▸ HCX.out
      go_quiet (first | (go_at_call 53; refine Calls.quiet_of (ended_yesN pb s _ _ ?_ hs); exact HCX'.out))
      go_wp2
      refine bodyPost_ret (ret_tok Tryd.results71 _ w.heap.size rfl _ (Four.stored (a0 := .int .i64 0) (a1 := .string ⟨#[]⟩) (a2 := .int .i64 0) (a3 := .int .i64 0) ?_ _ _ _ _)) rfl ?_
      · exact Four.keep (w := w3) ⟨a0, a1, a2, a3, b0, b1, b2, b3⟩ (by rw [Below.heap_setCell _ _ _ _ (by show w.heap.size ≠ w.heap.size + 1; omega)]; exact Below.heap_setCell _ _ _ _ (by show w.heap.size ≠ w.heap.size + 1; omega))
      show TokPost _ _ _ _ _ _ _
      rw [HRES.out]
      refine ⟨by rw [HQ.out, HT.out]; rfl, ?_, ?_⟩
      · rw [HQ.out, hend]
        exact ((((((HCX'.out).drewN _).setNew (by omega) _).setNew (by omega) _).setNew (by omega) _).setNew (by omega) _).setNew (by omega) _
      · exact ((((((HG.out.setNew (by omega) _).drewN _).setNew (by omega) _).setNew (by omega) _).setNew (by omega) _).setNew (by omega) _).setNew (by omega) _
    · have hlt : q < s.size := by omega
      have HCY : Hid (CS (w3.setCell ⟨w.heap.size + 1, 1, none⟩ (.string T)) pb s q) := HCX.out
      have x0 : (w3.setCell ⟨w.heap.size + 1, 1, none⟩ (.string T)).cell? ⟨pb, 0, none⟩ = some (.string s) := HCX.out.1
      have x1 : (w3.setCell ⟨w.heap.size + 1, 1, none⟩ (.string T)).cell? ⟨pb, 1, none⟩ = some (.int .i64 (q : Int)) := HCX.out.2.1
      have y0 : w3.cell? ⟨pb, 0, none⟩ = some (.string s) := HCS.out.1
      have y1 : w3.cell? ⟨pb, 1, none⟩ = some (.int .i64 (q : Int)) := HCS.out.2.1
      have hhd : headL ((s.data.toList.drop p).drop n) = isL s[q] := by
        rw [List.drop_drop, HQ.out, List.drop_eq_getElem_cons (by simpa using hlt)]; rfl
      have hr2 : res = if headL ((s.data.toList.drop p).drop n) = true then .bad n 31 else .tok 1 v n := by
        rw [← HR.out]
        unfold numTok
        dsimp only
        rw [HN.out, ← HTL.out, HPV.out, if_neg (by simp)]
      rw [hhd] at hr2
      rcases hl : isL s[q] with _ | _
      · have HRES : Hid (res = .tok 1 v n) := by show _ = _; rw [hr2, hl]; rfl
        have HLL : Hid (isL s[q] = false) := hl
        clear hr2 hhd hl
        go_quiet (first | (go_at_call 53; refine Calls.quiet_of (ended_noN pb q s _ _ ?_ hs hend); exact HCX.out) | (go_at_call 72; refine Calls.quiet_of_same (HLL.out ▸ isLetter_any s[q] _)))
        go_wp2
        refine bodyPost_ret (ret_tok Tryd.results71 _ w.heap.size rfl _ (Four.stored (a0 := .int .i64 0) (a1 := .string ⟨#[]⟩) (a2 := .int .i64 0) (a3 := .int .i64 0) ?_ _ _ _ _)) rfl ?_
        · exact Four.keep (w := w3) ⟨a0, a1, a2, a3, b0, b1, b2, b3⟩ (by rw [Below.heap_setCell _ _ _ _ (by show w.heap.size ≠ w.heap.size + 1; omega)]; exact Below.heap_setCell _ _ _ _ (by show w.heap.size ≠ w.heap.size + 1; omega))
        show TokPost _ _ _ _ _ _ _
        rw [HRES.out]
        refine ⟨by rw [HQ.out, HT.out]; rfl, ?_, ?_⟩
        · rw [HQ.out]
          exact ((((((HCX.out).drewN _).setNew (by omega) _).setNew (by omega) _).setNew (by omega) _).setNew (by omega) _).setNew (by omega) _
        · exact ((((((HG.out.setNew (by omega) _).drewN _).setNew (by omega) _).setNew (by omega) _).setNew (by omega) _).setNew (by omega) _).setNew (by omega) _
      · have HRES : Hid (res = .bad n 31) := by show _ = _; rw [hr2, hl]; rfl
        have HLL : Hid (isL s[q] = true) := hl
        clear hr2 hhd hl
        go_quiet (first | (go_at_call 53; refine Calls.quiet_of (ended_noN pb q s _ _ ?_ hs hend); exact HCX.out) | (go_at_call 72; refine Calls.quiet_of_same (HLL.out ▸ isLetter_any s[q] _)))
        go_wp2_with fail
        refine (giveUp_any _ _ _).mono ?_
        rintro e w' ⟨rfl, rfl⟩
        refine ⟨rfl, ?_⟩
        rw [HRES.out]
        refine ⟨by rw [HQ.out]; rfl, ?_⟩
        exact (HG.out.setNew (by omega) _).drewN _
  · have hz' : (er == 0) = false := by simpa using hz
    have HRES : Hid (res = .bad 0 33) := by
      show _ = _
      rw [← HR.out]
      unfold numTok
      dsimp only
      rw [HN.out, ← HTL.out, HPV.out, if_pos hz]
    go_wp2_with (first | (go_at_call 87; refine (parse_any T hTs _).mono ?_; rintro e w' ⟨rfl, rfl⟩; rw [HPV.out]))
    refine (giveUp_any _ _ _).mono ?_
    rintro e w' ⟨rfl, rfl⟩
    refine ⟨rfl, ?_⟩
    rw [HRES.out]
    exact ⟨rfl, HG.out.setNew (by omega) _⟩
end Go.Proofs.YtnofibjchhcmeabDoor
namespace Go.Proofs.YtnofibjchhcmeabDoor
open Go.RowKit
set_option linter.unusedVariables false

set_option maxRecDepth 100000 in
set_option maxHeartbeats 4000000 in
theorem word_any (pb p : Nat) (s : ByteArray) (w : World) (h : CS w pb s p) (hp : p ≤ s.size) (hs : s.size ≤ 1000000) :
    Calls Tryd.prog 73 #[.pointer (some ⟨pb, 0, none⟩)] w fun e w' => TokPost w pb s p (wordTok (s.data.toList.drop p)) e w' := by
  obtain ⟨h1, h2, h3, h4⟩ := h
  have HC : Hid (CS w pb s p) := ⟨h1, h2, h3, h4⟩
  obtain ⟨n, hn⟩ : ∃ n, ga alStep () (s.data.toList.drop p) = n := ⟨_, rfl⟩
  have hpn : p + n ≤ s.size := by
    have := ga_le alStep () (s.data.toList.drop p)
    rw [hn] at this
    simp at this
    omega
  obtain ⟨q, hq⟩ : ∃ q, p + n = q := ⟨_, rfl⟩
  obtain ⟨T, hT⟩ : ∃ T, s.extract p (p + n) = T := ⟨_, rfl⟩
  have hTl : T.data.toList = (s.data.toList.drop p).take n := by rw [← hT, extract_list]
  have hTs : T.size = n := by
    have e1 : T.data.toList.length = T.size := by simp
    rw [← e1, hTl]
    simp
    omega
  obtain ⟨res, hres⟩ : ∃ r, wordTok (s.data.toList.drop p) = r := ⟨_, rfl⟩
  have HR : Hid (wordTok (s.data.toList.drop p) = res) := hres
  rw [hres]
  have HN : Hid (ga alStep () (s.data.toList.drop p) = n) := hn
  have HTL : Hid (T.data.toList = (s.data.toList.drop p).take n) := hTl
  have HT : Hid (s.extract p q = T) := hq ▸ hT
  have HQ : Hid (p + n = q) := hq
  rw [hq] at hpn
  have hn12 : n ≤ 1000000 := by omega
  clear hres hn hT hTl hq
  go_enter Tryd.func73, Tryd.ntmps73
  go_wp2_with fail
  refine (gather_any (looksA pb) p s () _ ?h1 hp hs trivial).mono ?_
  case h1 => exact (HC.out.block (Below.heap_alloc _ _ _ h4) (by simp)).block (Below.heap_alloc _ _ _ (by simp; omega)) (by simp)
  rintro e w3 ⟨rfl, hcs, hgr⟩
  rw [HN.out, HQ.out] at hcs
  rw [HN.out, HQ.out, HT.out]
  have F2 : Four w3 w.heap.size (.int .i64 0) (.string ⟨#[]⟩) (.int .i64 0) (.int .i64 0) :=
    Four.keep (w := (w.alloc (.cells #[.int .i64 0, .string ⟨#[]⟩, .int .i64 0, .int .i64 0] 84)).alloc (.cells #[.int .i64 2, .string ⟨#[]⟩, .int .i64 0, .int .i64 (p : Int)] 84)) ⟨by simp, by simp, by simp, by simp, by simp, by simp, by simp, by simp⟩ (hgr.block _ (by simp; omega) (by intro e; cases e; omega))
  have F3 : Four w3 (w.heap.size + 1) (.int .i64 2) (.string ⟨#[]⟩) (.int .i64 0) (.int .i64 (p : Int)) :=
    Four.keep (w := (w.alloc (.cells #[.int .i64 0, .string ⟨#[]⟩, .int .i64 0, .int .i64 0] 84)).alloc (.cells #[.int .i64 2, .string ⟨#[]⟩, .int .i64 0, .int .i64 (p : Int)] 84)) ⟨by simp, by simp, by simp, by simp, by simp, by simp, by simp, by simp⟩ (hgr.block _ (by simp) (by intro e; cases e; omega))
  have HG : Hid (Gr w w3 pb) := (((Gr.refl w pb).alloc _).alloc _).trans hgr
  have HCS : Hid (CS w3 pb s q) := hcs
  obtain ⟨a0, a1, a2, a3, b0, b1, b2, b3⟩ := F2
  obtain ⟨d0, d1, d2, d3, e0, e1, e2, e3⟩ := F3
  clear hcs hgr
  have hr2 : res = if isW T.toList = true then .tok 3 0 n else if 12 < n then .bad 0 32 else .tok 2 0 n := by
    rw [← HR.out]
    unfold wordTok
    dsimp only
    rw [HN.out, ← HTL.out, ByteArray.toList_eq]
  rcases hl : isW T.toList with _ | _
  · have HLL : Hid (isW T.toList = false) := hl
    rw [hl] at hr2
    clear hl
    by_cases h12 : 12 < n
    · have HRES : Hid (res = .bad 0 32) := by show _ = _; rw [hr2, if_neg (by decide), if_pos h12]
      clear hr2
      go_wp2_with (go_at_call 86; refine (words_any T _).mono ?_; rintro e w' ⟨rfl, rfl⟩; rw [HLL.out])
      refine (giveUp_any _ _ _).mono ?_
      rintro e w' ⟨rfl, rfl⟩
      refine ⟨rfl, ?_⟩
      rw [HRES.out]
      exact ⟨rfl, HG.out.setNew (by omega) _⟩
    · have HRES : Hid (res = .tok 2 0 n) := by show _ = _; rw [hr2, if_neg (by decide), if_neg h12]
      clear hr2
      go_wp2_with (go_at_call 86; refine (words_any T _).mono ?_; rintro e w' ⟨rfl, rfl⟩; rw [HLL.out])
      refine bodyPost_ret (ret_tok Tryd.results73 _ w.heap.size rfl _ (Four.stored (a0 := .int .i64 0) (a1 := .string ⟨#[]⟩) (a2 := .int .i64 0) (a3 := .int .i64 0) ?_ _ _ _ _)) rfl ?_
      · exact Four.keep (w := w3) ⟨a0, a1, a2, a3, b0, b1, b2, b3⟩ (Below.heap_setCell _ _ _ _ (by show w.heap.size ≠ w.heap.size + 1; omega))
      show TokPost _ _ _ _ _ _ _
      rw [HRES.out]
      refine ⟨by rw [HQ.out, HT.out]; rfl, ?_, ?_⟩
      · rw [HQ.out]
        exact ((((HCS.out.setNew (by omega) _).setNew (by omega) _).setNew (by omega) _).setNew (by omega) _).setNew (by omega) _
      · exact ((((HG.out.setNew (by omega) _).setNew (by omega) _).setNew (by omega) _).setNew (by omega) _).setNew (by omega) _
  · have HLL : Hid (isW T.toList = true) := hl
    have HRES : Hid (res = .tok 3 0 n) := by show _ = _; rw [hr2, hl, if_pos rfl]
    clear hr2 hl
    go_wp2_with (go_at_call 86; refine (words_any T _).mono ?_; rintro e w' ⟨rfl, rfl⟩; rw [HLL.out])
    refine bodyPost_ret (ret_tok Tryd.results73 _ w.heap.size rfl _ (Four.stored (a0 := .int .i64 0) (a1 := .string ⟨#[]⟩) (a2 := .int .i64 0) (a3 := .int .i64 0) ?_ _ _ _ _)) rfl ?_
    · exact Four.keep (w := w3) ⟨a0, a1, a2, a3, b0, b1, b2, b3⟩ (by rw [Below.heap_setCell _ _ _ _ (by show w.heap.size ≠ w.heap.size + 1; omega)]; exact Below.heap_setCell _ _ _ _ (by show w.heap.size ≠ w.heap.size + 1; omega))
    show TokPost _ _ _ _ _ _ _
    rw [HRES.out]
    refine ⟨by rw [HQ.out, HT.out]; rfl, ?_, ?_⟩
    · rw [HQ.out]
      exact (((((HCS.out.setNew (by omega) _).setNew (by omega) _).setNew (by omega) _).setNew (by omega) _).setNew (by omega) _).setNew (by omega) _
    · exact (((((HG.out.setNew (by omega) _).setNew (by omega) _).setNew (by omega) _).setNew (by omega) _).setNew (by omega) _).setNew (by omega) _
end Go.Proofs.YtnofibjchhcmeabDoor
namespace Go.Proofs.YtnofibjchhcmeabDoor
open Go.RowKit
set_option linter.unusedVariables false

set_option maxRecDepth 100000 in
theorem FB.mono {B B' pb : Nat} {a b : World} (h : FB B pb a b) (hB : B' ≤ B) : FB B' pb a b := ⟨h.os, h.tape, h.output, h.size, fun k hk hne => h.block k (by omega) hne⟩
set_option maxRecDepth 100000 in
theorem ws_new (w : World) : WS (w.alloc (.cells #[.slice none 0 0] 105)) w.heap.size [] := ⟨.slice none 0 0, by simp, by simp, ⟨rfl, Or.inl ⟨rfl, rfl⟩⟩, by simp⟩
set_option maxRecDepth 100000 in
theorem own_nil (w : World) (base : Nat) : Own w base (.slice none 0 0) [] := ⟨rfl, Or.inl ⟨rfl, rfl⟩⟩

set_option maxRecDepth 100000 in
set_option maxHeartbeats 4000000 in
theorem lsign_any (pb p : Nat) (s : ByteArray) (w : World) (h : CS w pb s p) (hp : p ≤ s.size) (hs : s.size ≤ 1000000) :
    Calls Tryd.prog 74 #[.pointer (some ⟨pb, 0, none⟩)] w fun e w' => TokPost w pb s p (signTok (s.data.toList.drop p)) e w' := by
  obtain ⟨h1, h2, h3, h4⟩ := h
  have HC : Hid (CS w pb s p) := ⟨h1, h2, h3, h4⟩
  obtain ⟨n, hn⟩ : ∃ n, ga sgStep [] (s.data.toList.drop p) = n := ⟨_, rfl⟩
  have hpn : p + n ≤ s.size := by
    have := ga_le sgStep [] (s.data.toList.drop p)
    rw [hn] at this
    simp at this
    omega
  obtain ⟨q, hq⟩ : ∃ q, p + n = q := ⟨_, rfl⟩
  obtain ⟨T, hT⟩ : ∃ T, s.extract p (p + n) = T := ⟨_, rfl⟩
  have hTl : T.data.toList = (s.data.toList.drop p).take n := by rw [← hT, extract_list]
  have hTs : T.size = n := by
    have e1 : T.data.toList.length = T.size := by simp
    rw [← e1, hTl]
    simp
    omega
  obtain ⟨res, hres⟩ : ∃ r, signTok (s.data.toList.drop p) = r := ⟨_, rfl⟩
  have HR : Hid (signTok (s.data.toList.drop p) = res) := hres
  rw [hres]
  have HN : Hid (ga sgStep [] (s.data.toList.drop p) = n) := hn
  have HTL : Hid (T.data.toList = (s.data.toList.drop p).take n) := hTl
  have HT : Hid (s.extract p q = T) := hq ▸ hT
  have HQ : Hid (p + n = q) := hq
  rw [hq] at hpn
  have hn12 : n ≤ 1000000 := by omega
  clear hres hn hT hTl hq
  have hmf : ∀ (fn : Fn) (first cap : Array Value) (w : World), (Instr.makeFunc fn first cap).run Tryd.prog w = .ok (.func fn first cap) w := fun _ _ _ _ => rfl
  go_enter Tryd.func74, Tryd.ntmps74
  go_wp2_with fail
  refine (gather_any (looksS pb (w.heap.size + 2) (w.heap.size + 2) (by omega) (Nat.le_refl _)) p s [] (((w.alloc (.cells #[.int .i64 0, .string ⟨#[]⟩, .int .i64 0, .int .i64 0] 84)).alloc (.cells #[.int .i64 4, .string ⟨#[]⟩, .int .i64 0, .int .i64 (p : Int)] 84)).alloc (.cells #[.slice none 0 0] 105)) ?h1 hp hs ?h2).mono ?_
  case h1 => exact ((HC.out.block (Below.heap_alloc _ _ _ h4) (by simp)).block (Below.heap_alloc _ _ _ (by simp; omega)) (by simp)).block (Below.heap_alloc _ _ _ (by simp; omega)) (by simp)
  case h2 =>
    have hsz : w.heap.size + 2 = ((w.alloc (.cells #[.int .i64 0, .string ⟨#[]⟩, .int .i64 0, .int .i64 0] 84)).alloc (.cells #[.int .i64 4, .string ⟨#[]⟩, .int .i64 0, .int .i64 (p : Int)] 84)).heap.size := by simp
    rw [hsz]
    exact ⟨ws_new _, by simp⟩
  rintro e w3 ⟨rfl, hcs, hfb⟩
  rw [HN.out, HQ.out] at hcs
  rw [HN.out, HQ.out, HT.out]
  have F2 : Four w3 w.heap.size (.int .i64 0) (.string ⟨#[]⟩) (.int .i64 0) (.int .i64 0) :=
    Four.keep (w := (w.alloc (.cells #[.int .i64 0, .string ⟨#[]⟩, .int .i64 0, .int .i64 0] 84)).alloc (.cells #[.int .i64 4, .string ⟨#[]⟩, .int .i64 0, .int .i64 (p : Int)] 84)) ⟨by simp, by simp, by simp, by simp, by simp, by simp, by simp, by simp⟩ ((hfb.block _ (by omega) (by omega)).trans (Below.heap_alloc _ _ _ (by simp; omega)))
  have F3 : Four w3 (w.heap.size + 1) (.int .i64 4) (.string ⟨#[]⟩) (.int .i64 0) (.int .i64 (p : Int)) :=
    Four.keep (w := (w.alloc (.cells #[.int .i64 0, .string ⟨#[]⟩, .int .i64 0, .int .i64 0] 84)).alloc (.cells #[.int .i64 4, .string ⟨#[]⟩, .int .i64 0, .int .i64 (p : Int)] 84)) ⟨by simp, by simp, by simp, by simp, by simp, by simp, by simp, by simp⟩ ((hfb.block _ (by omega) (by omega)).trans (Below.heap_alloc _ _ _ (by simp)))
  have HG : Hid (Gr w w3 pb) := ((FB.below ((((Below.refl w.heap.size w).alloc (Nat.le_refl _) _).alloc (by simp) _).alloc (by simp; omega) _)).trans (hfb.mono (by omega))).gr (Nat.le_refl _)
  have HCS : Hid (CS w3 pb s q) := hcs
  obtain ⟨a0, a1, a2, a3, b0, b1, b2, b3⟩ := F2
  obtain ⟨d0, d1, d2, d3, e0, e1, e2, e3⟩ := F3
  clear hcs hfb
  have hr2 : res = if n = 0 then .bad 0 31 else .tok 4 0 n := by
    rw [← HR.out]
    unfold signTok
    dsimp only
    rw [HN.out]
  by_cases hz : n = 0
  · have HRES : Hid (res = .bad 0 31) := by show _ = _; rw [hr2, if_pos hz]
    have ht : T = ⟨#[]⟩ := by apply ByteArray.ext; exact Array.eq_empty_of_size_eq_zero (by rw [hz] at hTs; exact hTs)
    subst ht
    clear hr2
    go_wp2_with fail
    refine (giveUp_any _ _ _).mono ?_
    rintro e w' ⟨rfl, rfl⟩
    refine ⟨rfl, ?_⟩
    rw [HRES.out]
    exact ⟨rfl, HG.out.setNew (by omega) _⟩
  · have HRES : Hid (res = .tok 4 0 n) := by show _ = _; rw [hr2, if_neg hz]
    have hem : T.toList.isEmpty = false := ne_empty T (by omega)
    have hem2 : (T.toList == []) = false := by
      rcases e : T.toList with _ | ⟨a, r⟩
      · rw [e] at hem; cases hem
      · rfl
    clear hr2
    go_wp2
    refine bodyPost_ret (ret_tok Tryd.results74 _ w.heap.size rfl _ (Four.stored (a0 := .int .i64 0) (a1 := .string ⟨#[]⟩) (a2 := .int .i64 0) (a3 := .int .i64 0) ?_ _ _ _ _)) rfl ?_
    · exact Four.keep (w := w3) ⟨a0, a1, a2, a3, b0, b1, b2, b3⟩ (Below.heap_setCell _ _ _ _ (by show w.heap.size ≠ w.heap.size + 1; omega))
    show TokPost _ _ _ _ _ _ _
    rw [HRES.out]
    refine ⟨by rw [HQ.out, HT.out]; rfl, ?_, ?_⟩
    · rw [HQ.out]
      exact ((((HCS.out.setNew (by omega) _).setNew (by omega) _).setNew (by omega) _).setNew (by omega) _).setNew (by omega) _
    · exact ((((HG.out.setNew (by omega) _).setNew (by omega) _).setNew (by omega) _).setNew (by omega) _).setNew (by omega) _

set_option maxRecDepth 100000 in
theorem TokPost.from {w0 w : World} {pb p : Nat} {s : ByteArray} {r : One} {e : Ending} {w' : World} (h : TokPost w pb s p r e w') (g : Gr w0 w pb) : TokPost w0 pb s p r e w' := by
  cases r with
  | inl x => exact ⟨h.1, h.2.1, g.trans h.2.2⟩
  | inr x => exact ⟨h.1, g.trans h.2⟩

set_option maxRecDepth 100000 in
set_option maxHeartbeats 4000000 in
theorem token_any (pb p : Nat) (s : ByteArray) (w : World) (h : CS w pb s p) (hp : p < s.size) (hs : s.size ≤ 1000000) :
    Calls Tryd.prog 54 #[.pointer (some ⟨pb, 0, none⟩)] w fun e w' => TokPost w pb s p (tokOf (s.data.toList.drop p)) e w' := by
  obtain ⟨h1, h2, h3, h4⟩ := h
  have HC : Hid (CS w pb s p) := ⟨h1, h2, h3, h4⟩
  have hdr : s.data.toList.drop p = s[p] :: s.data.toList.drop (p + 1) := List.drop_eq_getElem_cons (by simpa using hp)
  obtain ⟨res, hres⟩ : ∃ r, tokOf (s.data.toList.drop p) = r := ⟨_, rfl⟩
  have hr2 : res = if isD s[p] = true then numTok (s.data.toList.drop p) else if isL s[p] = true then wordTok (s.data.toList.drop p) else signTok (s.data.toList.drop p) := by
    rw [← hres, hdr]; rfl
  rw [hres]
  clear hres hdr
  have g1 : ∀ (o : Obj) (n : Nat), CS ((w.alloc o).drewN n) pb s p := fun o n => (HC.out.block (Below.heap_alloc _ _ _ h4) (by simp)).drewN n
  have g2 : ∀ (o : Obj) (n : Nat), Gr w ((w.alloc o).drewN n) pb := fun o n => ((Gr.refl w pb).alloc o).drewN n
  have HG1 : Hid (∀ (o : Obj) (n : Nat), CS ((w.alloc o).drewN n) pb s p) := g1
  have HG2 : Hid (∀ (o : Obj) (n : Nat), Gr w ((w.alloc o).drewN n) pb) := g2
  clear g1 g2
  rcases hd : isD s[p] with _ | _
  · have HD : Hid (isD s[p] = false) := hd
    rcases hl : isL s[p] with _ | _
    · have HL : Hid (isL s[p] = false) := hl
      have HRES : Hid (res = signTok (s.data.toList.drop p)) := by show _ = _; rw [hr2, hd, hl]; rfl
      clear hr2 hd hl
      go_enter Tryd.func54, Tryd.ntmps54
      go_wp2
      go_quiet (fail)
      go_wp2_with (first | (go_at_call 70; refine (isDigit_any s[p] _).mono ?_; rintro e w' ⟨rfl, rfl⟩; rw [HD.out]) | (go_at_call 72; refine (isLetter_any s[p] _).mono ?_; rintro e w' ⟨rfl, rfl⟩; rw [HL.out]))
      refine (lsign_any pb p s _ (HG1.out _ _) (by omega) hs).mono ?_
      rcases e1 : signTok (s.data.toList.drop p) with ⟨k, m, n⟩ | ⟨o, er⟩
      · rintro e w3 ⟨rfl, hcs, hgr⟩
        have HRS : Hid (res = .tok k m n) := HRES.out.trans e1
        have HCS : Hid (CS w3 pb s (p + n)) := hcs
        have HG : Hid (Gr w w3 pb) := (HG2.out _ _).trans hgr
        have F2 : Four w3 w.heap.size (.int .i64 0) (.string ⟨#[]⟩) (.int .i64 0) (.int .i64 0) :=
          Four.keep (w := w.alloc (.cells #[.int .i64 0, .string ⟨#[]⟩, .int .i64 0, .int .i64 0] 84)) ⟨by simp, by simp, by simp, by simp, by simp, by simp, by simp, by simp⟩ (hgr.block _ (by show w.heap.size < (w.alloc _).heap.size; simp) (by intro e; cases e; omega))
        obtain ⟨a0, a1, a2, a3, b0, b1, b2, b3⟩ := F2
        clear hcs hgr e1
        unfold tokV
        go_wp2
        refine bodyPost_ret (ret_tok Tryd.results54 _ w.heap.size rfl _ (Four.stored (a0 := .int .i64 0) (a1 := .string ⟨#[]⟩) (a2 := .int .i64 0) (a3 := .int .i64 0) ⟨a0, a1, a2, a3, b0, b1, b2, b3⟩ _ _ _ _)) rfl ?_
        show TokPost _ _ _ _ _ _ _
        rw [HRS.out]
        exact ⟨rfl, (((HCS.out.setNew (by omega) _).setNew (by omega) _).setNew (by omega) _).setNew (by omega) _, (((HG.out.setNew (by omega) _).setNew (by omega) _).setNew (by omega) _).setNew (by omega) _⟩
      · rintro e w3 ⟨rfl, hgr⟩
        have HRS : Hid (res = .bad o er) := HRES.out.trans e1
        refine ⟨rfl, ?_⟩
        rw [HRS.out]
        exact ⟨rfl, (HG2.out _ _).trans hgr⟩
    · have HL : Hid (isL s[p] = true) := hl
      have HRES : Hid (res = wordTok (s.data.toList.drop p)) := by show _ = _; rw [hr2, hd, hl]; rfl
      clear hr2 hd hl
      go_enter Tryd.func54, Tryd.ntmps54
      go_wp2
      go_quiet (fail)
      go_wp2_with (first | (go_at_call 70; refine (isDigit_any s[p] _).mono ?_; rintro e w' ⟨rfl, rfl⟩; rw [HD.out]) | (go_at_call 72; refine (isLetter_any s[p] _).mono ?_; rintro e w' ⟨rfl, rfl⟩; rw [HL.out]))
      refine (word_any pb p s _ (HG1.out _ _) (by omega) hs).mono ?_
      rcases e1 : wordTok (s.data.toList.drop p) with ⟨k, m, n⟩ | ⟨o, er⟩
      · rintro e w3 ⟨rfl, hcs, hgr⟩
        have HRS : Hid (res = .tok k m n) := HRES.out.trans e1
        have HCS : Hid (CS w3 pb s (p + n)) := hcs
        have HG : Hid (Gr w w3 pb) := (HG2.out _ _).trans hgr
        have F2 : Four w3 w.heap.size (.int .i64 0) (.string ⟨#[]⟩) (.int .i64 0) (.int .i64 0) :=
          Four.keep (w := w.alloc (.cells #[.int .i64 0, .string ⟨#[]⟩, .int .i64 0, .int .i64 0] 84)) ⟨by simp, by simp, by simp, by simp, by simp, by simp, by simp, by simp⟩ (hgr.block _ (by show w.heap.size < (w.alloc _).heap.size; simp) (by intro e; cases e; omega))
        obtain ⟨a0, a1, a2, a3, b0, b1, b2, b3⟩ := F2
        clear hcs hgr e1
        unfold tokV
        go_wp2
        refine bodyPost_ret (ret_tok Tryd.results54 _ w.heap.size rfl _ (Four.stored (a0 := .int .i64 0) (a1 := .string ⟨#[]⟩) (a2 := .int .i64 0) (a3 := .int .i64 0) ⟨a0, a1, a2, a3, b0, b1, b2, b3⟩ _ _ _ _)) rfl ?_
        show TokPost _ _ _ _ _ _ _
        rw [HRS.out]
        exact ⟨rfl, (((HCS.out.setNew (by omega) _).setNew (by omega) _).setNew (by omega) _).setNew (by omega) _, (((HG.out.setNew (by omega) _).setNew (by omega) _).setNew (by omega) _).setNew (by omega) _⟩
      · rintro e w3 ⟨rfl, hgr⟩
        have HRS : Hid (res = .bad o er) := HRES.out.trans e1
        refine ⟨rfl, ?_⟩
        rw [HRS.out]
        exact ⟨rfl, (HG2.out _ _).trans hgr⟩
  · have HD : Hid (isD s[p] = true) := hd
    have HRES : Hid (res = numTok (s.data.toList.drop p)) := by show _ = _; rw [hr2, hd]; rfl
    clear hr2 hd
    go_enter Tryd.func54, Tryd.ntmps54
    go_wp2
    go_quiet (fail)
    go_wp2_with (go_at_call 70; refine (isDigit_any s[p] _).mono ?_; rintro e w' ⟨rfl, rfl⟩; rw [HD.out])
    refine (number_any pb p s _ (HG1.out _ _) (by omega) hs).mono ?_
    rcases e1 : numTok (s.data.toList.drop p) with ⟨k, m, n⟩ | ⟨o, er⟩
    · rintro e w3 ⟨rfl, hcs, hgr⟩
      have HRS : Hid (res = .tok k m n) := HRES.out.trans e1
      have HCS : Hid (CS w3 pb s (p + n)) := hcs
      have HG : Hid (Gr w w3 pb) := (HG2.out _ _).trans hgr
      have F2 : Four w3 w.heap.size (.int .i64 0) (.string ⟨#[]⟩) (.int .i64 0) (.int .i64 0) :=
        Four.keep (w := w.alloc (.cells #[.int .i64 0, .string ⟨#[]⟩, .int .i64 0, .int .i64 0] 84)) ⟨by simp, by simp, by simp, by simp, by simp, by simp, by simp, by simp⟩ (hgr.block _ (by show w.heap.size < (w.alloc _).heap.size; simp) (by intro e; cases e; omega))
      obtain ⟨a0, a1, a2, a3, b0, b1, b2, b3⟩ := F2
      clear hcs hgr e1
      unfold tokV
      go_wp2
      refine bodyPost_ret (ret_tok Tryd.results54 _ w.heap.size rfl _ (Four.stored (a0 := .int .i64 0) (a1 := .string ⟨#[]⟩) (a2 := .int .i64 0) (a3 := .int .i64 0) ⟨a0, a1, a2, a3, b0, b1, b2, b3⟩ _ _ _ _)) rfl ?_
      show TokPost _ _ _ _ _ _ _
      rw [HRS.out]
      exact ⟨rfl, (((HCS.out.setNew (by omega) _).setNew (by omega) _).setNew (by omega) _).setNew (by omega) _, (((HG.out.setNew (by omega) _).setNew (by omega) _).setNew (by omega) _).setNew (by omega) _⟩
    · rintro e w3 ⟨rfl, hgr⟩
      have HRS : Hid (res = .bad o er) := HRES.out.trans e1
      refine ⟨rfl, ?_⟩
      rw [HRS.out]
      exact ⟨rfl, (HG2.out _ _).trans hgr⟩
end Go.Proofs.YtnofibjchhcmeabDoor
