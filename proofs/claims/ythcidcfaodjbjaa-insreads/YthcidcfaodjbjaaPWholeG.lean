/- What 'whole' answers of each kind of thing: what is taken up, or, behind a panic that is recovered, nothing and the error. -/
import Derived.Test.YthcidcfaodjbjaaPWhole
namespace Go.Proofs.Ythcidcfaodjbjaa
open Go.RowKit
set_option linter.unusedVariables false

/-- what taking comes to: a value and what is left, or the error -/
inductive Out where
  | ok (P : Value → World → Prop) (R : List UInt8)
  | err (k : Int)
def TPost (w : World) (pb : Nat) (f : Int) : Out → Ending → World → Prop
  | .ok P R, e, w' => ∃ v, e = .returned v ∧ P v w' ∧ RS w' pb R f ∧ w.grownBy w' (some pb)
  | .err k, e, w' => e = gaveUp k ∧ (∃ R, RS w' pb R f) ∧ w.grownBy w' (some pb)
/-- what a reader's method comes to -/
def WPost (w : World) (pb : Nat) (z : Value) : Out → Ending → World → Prop
  | .ok P R, e, w' => ∃ v, e = .returned v ∧ P v w' ∧ RS w' pb R 0 ∧ w.grownBy w' (some pb)
  | .err k, e, w' => e = .returned z ∧ RS w' pb [] k ∧ w.grownBy w' (some pb)
set_option maxRecDepth 100000 in
theorem grow_alloc (w : World) (o : Obj) (r : Option Nat) : w.grownBy (w.alloc o) r := ⟨rfl, rfl, rfl, by simp, fun k hk _ => heap_alloc_old w o hk⟩
set_option maxRecDepth 100000 in
theorem grow_trans {a b c : World} {r : Option Nat} (h : a.grownBy b r) (k : b.grownBy c r) : a.grownBy c r :=
  ⟨k.os.trans h.os, k.tape.trans h.tape, k.output.trans h.output, Nat.le_trans h.size k.size, fun i hi hr => (k.block i (Nat.lt_of_lt_of_le hi h.size) hr).trans (h.block i hi hr)⟩
set_option maxRecDepth 100000 in
theorem grow_refl (w : World) (r : Option Nat) : w.grownBy w r := ⟨rfl, rfl, rfl, Nat.le_refl _, fun _ _ _ => rfl⟩
set_option maxRecDepth 100000 in
theorem grow_set {a b : World} {g : Nat} (h : a.grownBy b (some g)) (p : Nat) (u : Value) : a.grownBy (b.setCell ⟨g, p, none⟩ u) (some g) :=
  ⟨h.os, h.tape, h.output, by have := h.size; simpa [World.setCell] using this, fun i hi hr => (Below.heap_setCell _ _ _ _ (fun e => hr (by rw [e]))).trans (h.block i hi hr)⟩
set_option maxRecDepth 100000 in
theorem grow_below {a b : World} {g B : Nat} (h : a.grownBy b (some g)) (hB : B ≤ g) (hs : B ≤ a.heap.size) : Below B a b :=
  ⟨h.os, h.tape, h.output, h.size, fun k hk => h.block k (by omega) (fun e => by cases e; omega)⟩
set_option maxRecDepth 100000 in
theorem lost_grow (w : World) (pb : Nat) (k : Int) : w.grownBy (lost w pb k) (some pb) := grow_set (grow_set (grow_refl w (some pb)) 0 _) 1 _

set_option maxRecDepth 100000 in
set_option maxHeartbeats 1000000 in
theorem idle_uint (p : Addr) (w : World) :
    CallsD Try.prog 97 #[.pointer (some p)] .returning w fun e u' w' => e = .returned (.tuple #[]) ∧ u' = .returning ∧ w' = w := by
  refine callsD_of_wpS Try.func97 rfl fun c₀ cs hu => ?_
  apply wpS_seq
  apply wpS_region
  simp [wpOpsS, go_sem, recoverD, hu, Try.ntmps97, Exit.thenS, assert_nil]
  apply wpS_seq
  apply wpS_region
  simp [wpOpsS, go_sem, Exit.thenS]
  refine wpS_cond (t := false) (by simp [Act.eval, Array.replicate]) ?_
  simp only [Bool.false_eq_true, if_false]
  refine wpS_of_wp (wp_skip ?_)
  cases c₀
  simp_all [bodyPostS, results, Try.results97]

set_option maxRecDepth 100000 in
set_option maxHeartbeats 1000000 in
theorem panicking_uint (p : Addr) (pb : Nat) (v0 v1 : Value) (k : Int) (older : List PanicEntry) (w : World) (hp : w.cell? p = some (.pointer (some ⟨pb, 0, none⟩))) (h1 : w.cell? ⟨pb, 0, none⟩ = some v0) (h2 : w.cell? ⟨pb, 1, none⟩ = some v1) (h3 : w.frozen? ⟨pb, 0, none⟩ = false) (h4 : w.frozen? ⟨pb, 1, none⟩ = false) :
    CallsD Try.prog 97 #[.pointer (some p)] (.panicking ({ v := .iface 26 (.int .i64 k), recovered := false } :: older)) w fun e u' w' =>
      e = .returned (.tuple #[]) ∧ u' = .panicking ({ v := .iface 26 (.int .i64 k), recovered := true } :: older) ∧ w' = lost w pb k := by
  have c1 : (w.setCell ⟨pb, 0, none⟩ (.slice none 0 0)).cell? ⟨pb, 1, none⟩ = some v1 := by
    rw [World.cell?_setCell_other w _ _ _ (by intro e; cases e)]; exact h2
  have f1 : (w.setCell ⟨pb, 0, none⟩ (.slice none 0 0)).frozen? ⟨pb, 1, none⟩ = false := by simpa using h4
  refine callsD_of_wpS Try.func97 rfl fun c₀ cs hu => ?_
  apply wpS_seq
  apply wpS_region
  simp [wpOpsS, go_sem, recoverD, hu, Try.ntmps97, Exit.thenS, assert_is]
  apply wpS_seq
  apply wpS_region
  simp [wpOpsS, go_sem, Exit.thenS]
  refine wpS_cond (t := true) (by simp [Act.eval, Array.replicate]) ?_
  simp only [if_true]
  refine wpS_of_wp ?_
  go_wp2
  simp [bodyPostS, results, Try.results97, lost]

set_option maxRecDepth 100000 in
set_option maxHeartbeats 1000000 in
theorem failed_uint (pb : Nat) (f : Int) (w : World) (h : RS w pb [] f) (hf : (f == 0) = false) :
    Calls Try.prog 82 #[.pointer (some ⟨pb, 0, none⟩), .func (.func 80) #[.pointer (some ⟨pb, 0, none⟩)] #[]] w (WPost w pb (.int .u64 0) (.err f)) := by
  have hlt := h.lt
  have HB1 : Hid (∀ o : Obj, Below w.heap.size w (w.alloc o)) := fun o => (Below.refl w.heap.size w).alloc (Nat.le_refl _) o
  have HS : Hid (RS w pb [] f) := h
  have c1 : ∀ o : Obj, (w.alloc o).cell? ⟨pb, 1, none⟩ = some (.int .i64 f) := by
    intro o
    obtain ⟨v, h1, h2, h3, h4, h5, h6⟩ := h
    rw [World.cell?_alloc_lt]
    · exact h2
    · exact h5
  clear h
  go_enter_defers Try.func82, Try.ntmps82
  go_wp2
  exact ⟨_, results_tmp rfl _ _ _, rfl, HS.out.below (HB1.out _), grow_alloc _ _ _⟩

set_option maxRecDepth 100000 in
set_option maxHeartbeats 1000000 in
theorem took_uint (pb : Nat) (P : Value → World → Prop) (L R : List UInt8) (w : World) (h : RS w pb L 0) (hT : Hid (∀ w', RS w' pb L 0 → Calls Try.prog 80 #[.pointer (some ⟨pb, 0, none⟩)] w' (TPost w' pb 0 (.ok P R)))) :
    Calls Try.prog 82 #[.pointer (some ⟨pb, 0, none⟩), .func (.func 80) #[.pointer (some ⟨pb, 0, none⟩)] #[]] w (WPost w pb (.int .u64 0) (.ok P R)) := by
  have hmf : ∀ (fn : Fn) (first cap : Array Value) (w : World), (Instr.makeFunc fn first cap).run Try.prog w = .ok (.func fn first cap) w := fun _ _ _ _ => rfl
  have hlt := h.lt
  have HB1 : Hid (∀ o : Obj, Below w.heap.size w (w.alloc o)) := fun o => (Below.refl w.heap.size w).alloc (Nat.le_refl _) o
  have HS : Hid (RS w pb L 0) := h
  have c1 : ∀ o : Obj, (w.alloc o).cell? ⟨pb, 1, none⟩ = some (.int .i64 0) := by
    intro o
    obtain ⟨v, h1, h2, h3, h4, h5, h6⟩ := h
    rw [World.cell?_alloc_lt]
    · exact h2
    · exact h5
  clear h
  go_enter_defers Try.func82, Try.ntmps82
  go_wp2_with fail
  refine (hT.out _ (HS.out.below (HB1.out _))).mono ?_
  rintro e w2 ⟨v, rfl, hv, hrs, hon⟩
  have HV : Hid (P v w2) := hv
  have HRS : Hid (RS w2 pb R 0) := hrs
  have HK : Hid (w.grownBy w2 (some pb)) := grow_trans (grow_alloc _ _ _) hon
  clear hrs hon hv
  go_wp2
  refine leaves_cons (f := 97) (args := #[.pointer (some ⟨w.heap.size, 0, none⟩)]) (by simp) (by simp [go_sem]) ?_
  refine (idle_uint ⟨w.heap.size, 0, none⟩ _).mono ?_
  rintro e u' w'' ⟨rfl, rfl, rfl⟩
  exact ⟨_, results_tmp rfl _ _ _, v, rfl, HV.out, HRS.out, HK.out⟩

set_option maxRecDepth 100000 in
set_option maxHeartbeats 1000000 in
theorem gave_uint (pb : Nat) (L : List UInt8) (k : Int) (w : World) (h : RS w pb L 0) (hT : Hid (∀ w', RS w' pb L 0 → Calls Try.prog 80 #[.pointer (some ⟨pb, 0, none⟩)] w' (TPost w' pb 0 (.err k)))) :
    Calls Try.prog 82 #[.pointer (some ⟨pb, 0, none⟩), .func (.func 80) #[.pointer (some ⟨pb, 0, none⟩)] #[]] w (WPost w pb (.int .u64 0) (.err k)) := by
  have hmf : ∀ (fn : Fn) (first cap : Array Value) (w : World), (Instr.makeFunc fn first cap).run Try.prog w = .ok (.func fn first cap) w := fun _ _ _ _ => rfl
  have hlt := h.lt
  have HB1 : Hid (∀ o : Obj, Below w.heap.size w (w.alloc o)) := fun o => (Below.refl w.heap.size w).alloc (Nat.le_refl _) o
  have HS : Hid (RS w pb L 0) := h
  have c1 : ∀ o : Obj, (w.alloc o).cell? ⟨pb, 1, none⟩ = some (.int .i64 0) := by
    intro o
    obtain ⟨v, h1, h2, h3, h4, h5, h6⟩ := h
    rw [World.cell?_alloc_lt]
    · exact h2
    · exact h5
  clear h
  go_enter_defers Try.func82, Try.ntmps82
  go_wp2_with fail
  refine (hT.out _ (HS.out.below (HB1.out _))).mono ?_
  rintro e w2 ⟨rfl, ⟨R, hrs⟩, hon⟩
  have HK : Hid (w.grownBy (lost w2 pb k) (some pb)) := grow_trans (grow_trans (grow_alloc _ _ _) hon) (lost_grow _ _ _)
  have hp : w2.cell? ⟨w.heap.size, 0, none⟩ = some (.pointer (some ⟨pb, 0, none⟩)) := by
    rw [World.cell?_of_block (hon.block w.heap.size (by simp) (fun e => by injection e with e; omega))]
    simp
  have HLO : Hid (RS (lost w2 pb k) pb [] k) := (lost_rs hrs k).1
  obtain ⟨v0, h1, h2, h3, h4, h5, h6⟩ := hrs
  clear hon h6
  unfold gaveUp
  refine leaves_cons (f := 97) (args := #[.pointer (some ⟨w.heap.size, 0, none⟩)]) (by simp) (by simp [go_sem]) ?_
  refine (panicking_uint ⟨w.heap.size, 0, none⟩ pb v0 _ k [] _ hp h1 h2 h3 h4).mono ?_
  rintro e u' w'' ⟨rfl, rfl, rfl⟩
  have HF : Hid (WPost w pb (.int .u64 0) (.err k) (.returned (.int .u64 0)) (lost w2 pb k)) := ⟨rfl, HLO.out, HK.out⟩
  simp [Leaves, settle, results, Try.results82, go_sem]
  exact HF.out

set_option maxRecDepth 100000 in
/-- the method -/
theorem whole_uint (pb : Nat) (o : Out) (L : List UInt8) (w : World) (h : RS w pb L 0) (hT : Hid (∀ w', RS w' pb L 0 → Calls Try.prog 80 #[.pointer (some ⟨pb, 0, none⟩)] w' (TPost w' pb 0 o))) :
    Calls Try.prog 82 #[.pointer (some ⟨pb, 0, none⟩), .func (.func 80) #[.pointer (some ⟨pb, 0, none⟩)] #[]] w (WPost w pb (.int .u64 0) o) := by
  cases o with
  | ok P R => exact took_uint pb P L R w h hT
  | err k => exact gave_uint pb L k w h hT
set_option maxRecDepth 100000 in
theorem WPost.form_uint {w : World} {pb : Nat} {o : Out} {e : Ending} {w' : World} (h : WPost w pb (.int .u64 0) o e w') : ∃ v, e = .returned v := by
  cases o with
  | ok P R => obtain ⟨v, h, _⟩ := h; exact ⟨v, h⟩
  | err k => exact ⟨_, h.1⟩
set_option maxRecDepth 100000 in
set_option maxHeartbeats 400000 in
theorem ruint_ok (pb : Nat) (o : Out) (L : List UInt8) (w : World) (h : RS w pb L 0) (hT : Hid (∀ w', RS w' pb L 0 → Calls Try.prog 80 #[.pointer (some ⟨pb, 0, none⟩)] w' (TPost w' pb 0 o))) :
    Calls Try.prog 62 #[.pointer (some ⟨pb, 0, none⟩)] w (WPost w pb (.int .u64 0) o) := by
  have hmf : ∀ (fn : Fn) (first cap : Array Value) (w : World), (Instr.makeFunc fn first cap).run Try.prog w = .ok (.func fn first cap) w := fun _ _ _ _ => rfl
  have HS : Hid (RS w pb L 0) := h
  clear h
  go_enter Try.func62, Try.ntmps62
  go_wp2_with fail
  refine (whole_uint pb o L w HS.out hT).mono ?_
  intro e w2 hp
  obtain ⟨v, rfl⟩ := hp.form_uint
  have HP : Hid (WPost w pb (.int .u64 0) o (.returned v) w2) := hp
  clear hp hT
  go_wp2
  go_ret
  exact HP.out
set_option maxRecDepth 100000 in
set_option maxHeartbeats 400000 in
theorem ruint_failed (pb : Nat) (f : Int) (w : World) (h : RS w pb [] f) (hf : (f == 0) = false) :
    Calls Try.prog 62 #[.pointer (some ⟨pb, 0, none⟩)] w (WPost w pb (.int .u64 0) (.err f)) := by
  have hmf : ∀ (fn : Fn) (first cap : Array Value) (w : World), (Instr.makeFunc fn first cap).run Try.prog w = .ok (.func fn first cap) w := fun _ _ _ _ => rfl
  have HS : Hid (RS w pb [] f) := h
  clear h
  go_enter Try.func62, Try.ntmps62
  go_wp2_with fail
  refine (failed_uint pb f w HS.out hf).mono ?_
  intro e w2 hp
  obtain ⟨v, rfl⟩ := hp.form_uint
  have HP : Hid (WPost w pb (.int .u64 0) (.err f) (.returned v) w2) := hp
  clear hp
  go_wp2
  go_ret
  exact HP.out

set_option maxRecDepth 100000 in
set_option maxHeartbeats 1000000 in
theorem idle_int (p : Addr) (w : World) :
    CallsD Try.prog 98 #[.pointer (some p)] .returning w fun e u' w' => e = .returned (.tuple #[]) ∧ u' = .returning ∧ w' = w := by
  refine callsD_of_wpS Try.func98 rfl fun c₀ cs hu => ?_
  apply wpS_seq
  apply wpS_region
  simp [wpOpsS, go_sem, recoverD, hu, Try.ntmps98, Exit.thenS, assert_nil]
  apply wpS_seq
  apply wpS_region
  simp [wpOpsS, go_sem, Exit.thenS]
  refine wpS_cond (t := false) (by simp [Act.eval, Array.replicate]) ?_
  simp only [Bool.false_eq_true, if_false]
  refine wpS_of_wp (wp_skip ?_)
  cases c₀
  simp_all [bodyPostS, results, Try.results98]

set_option maxRecDepth 100000 in
set_option maxHeartbeats 1000000 in
theorem panicking_int (p : Addr) (pb : Nat) (v0 v1 : Value) (k : Int) (older : List PanicEntry) (w : World) (hp : w.cell? p = some (.pointer (some ⟨pb, 0, none⟩))) (h1 : w.cell? ⟨pb, 0, none⟩ = some v0) (h2 : w.cell? ⟨pb, 1, none⟩ = some v1) (h3 : w.frozen? ⟨pb, 0, none⟩ = false) (h4 : w.frozen? ⟨pb, 1, none⟩ = false) :
    CallsD Try.prog 98 #[.pointer (some p)] (.panicking ({ v := .iface 26 (.int .i64 k), recovered := false } :: older)) w fun e u' w' =>
      e = .returned (.tuple #[]) ∧ u' = .panicking ({ v := .iface 26 (.int .i64 k), recovered := true } :: older) ∧ w' = lost w pb k := by
  have c1 : (w.setCell ⟨pb, 0, none⟩ (.slice none 0 0)).cell? ⟨pb, 1, none⟩ = some v1 := by
    rw [World.cell?_setCell_other w _ _ _ (by intro e; cases e)]; exact h2
  have f1 : (w.setCell ⟨pb, 0, none⟩ (.slice none 0 0)).frozen? ⟨pb, 1, none⟩ = false := by simpa using h4
  refine callsD_of_wpS Try.func98 rfl fun c₀ cs hu => ?_
  apply wpS_seq
  apply wpS_region
  simp [wpOpsS, go_sem, recoverD, hu, Try.ntmps98, Exit.thenS, assert_is]
  apply wpS_seq
  apply wpS_region
  simp [wpOpsS, go_sem, Exit.thenS]
  refine wpS_cond (t := true) (by simp [Act.eval, Array.replicate]) ?_
  simp only [if_true]
  refine wpS_of_wp ?_
  go_wp2
  simp [bodyPostS, results, Try.results98, lost]

set_option maxRecDepth 100000 in
set_option maxHeartbeats 1000000 in
theorem failed_int (pb : Nat) (f : Int) (w : World) (h : RS w pb [] f) (hf : (f == 0) = false) :
    Calls Try.prog 83 #[.pointer (some ⟨pb, 0, none⟩), .func (.func 84) #[.pointer (some ⟨pb, 0, none⟩)] #[]] w (WPost w pb (.int .i64 0) (.err f)) := by
  have hlt := h.lt
  have HB1 : Hid (∀ o : Obj, Below w.heap.size w (w.alloc o)) := fun o => (Below.refl w.heap.size w).alloc (Nat.le_refl _) o
  have HS : Hid (RS w pb [] f) := h
  have c1 : ∀ o : Obj, (w.alloc o).cell? ⟨pb, 1, none⟩ = some (.int .i64 f) := by
    intro o
    obtain ⟨v, h1, h2, h3, h4, h5, h6⟩ := h
    rw [World.cell?_alloc_lt]
    · exact h2
    · exact h5
  clear h
  go_enter_defers Try.func83, Try.ntmps83
  go_wp2
  exact ⟨_, results_tmp rfl _ _ _, rfl, HS.out.below (HB1.out _), grow_alloc _ _ _⟩

set_option maxRecDepth 100000 in
set_option maxHeartbeats 1000000 in
theorem took_int (pb : Nat) (P : Value → World → Prop) (L R : List UInt8) (w : World) (h : RS w pb L 0) (hT : Hid (∀ w', RS w' pb L 0 → Calls Try.prog 84 #[.pointer (some ⟨pb, 0, none⟩)] w' (TPost w' pb 0 (.ok P R)))) :
    Calls Try.prog 83 #[.pointer (some ⟨pb, 0, none⟩), .func (.func 84) #[.pointer (some ⟨pb, 0, none⟩)] #[]] w (WPost w pb (.int .i64 0) (.ok P R)) := by
  have hmf : ∀ (fn : Fn) (first cap : Array Value) (w : World), (Instr.makeFunc fn first cap).run Try.prog w = .ok (.func fn first cap) w := fun _ _ _ _ => rfl
  have hlt := h.lt
  have HB1 : Hid (∀ o : Obj, Below w.heap.size w (w.alloc o)) := fun o => (Below.refl w.heap.size w).alloc (Nat.le_refl _) o
  have HS : Hid (RS w pb L 0) := h
  have c1 : ∀ o : Obj, (w.alloc o).cell? ⟨pb, 1, none⟩ = some (.int .i64 0) := by
    intro o
    obtain ⟨v, h1, h2, h3, h4, h5, h6⟩ := h
    rw [World.cell?_alloc_lt]
    · exact h2
    · exact h5
  clear h
  go_enter_defers Try.func83, Try.ntmps83
  go_wp2_with fail
  refine (hT.out _ (HS.out.below (HB1.out _))).mono ?_
  rintro e w2 ⟨v, rfl, hv, hrs, hon⟩
  have HV : Hid (P v w2) := hv
  have HRS : Hid (RS w2 pb R 0) := hrs
  have HK : Hid (w.grownBy w2 (some pb)) := grow_trans (grow_alloc _ _ _) hon
  clear hrs hon hv
  go_wp2
  refine leaves_cons (f := 98) (args := #[.pointer (some ⟨w.heap.size, 0, none⟩)]) (by simp) (by simp [go_sem]) ?_
  refine (idle_int ⟨w.heap.size, 0, none⟩ _).mono ?_
  rintro e u' w'' ⟨rfl, rfl, rfl⟩
  exact ⟨_, results_tmp rfl _ _ _, v, rfl, HV.out, HRS.out, HK.out⟩

set_option maxRecDepth 100000 in
set_option maxHeartbeats 1000000 in
theorem gave_int (pb : Nat) (L : List UInt8) (k : Int) (w : World) (h : RS w pb L 0) (hT : Hid (∀ w', RS w' pb L 0 → Calls Try.prog 84 #[.pointer (some ⟨pb, 0, none⟩)] w' (TPost w' pb 0 (.err k)))) :
    Calls Try.prog 83 #[.pointer (some ⟨pb, 0, none⟩), .func (.func 84) #[.pointer (some ⟨pb, 0, none⟩)] #[]] w (WPost w pb (.int .i64 0) (.err k)) := by
  have hmf : ∀ (fn : Fn) (first cap : Array Value) (w : World), (Instr.makeFunc fn first cap).run Try.prog w = .ok (.func fn first cap) w := fun _ _ _ _ => rfl
  have hlt := h.lt
  have HB1 : Hid (∀ o : Obj, Below w.heap.size w (w.alloc o)) := fun o => (Below.refl w.heap.size w).alloc (Nat.le_refl _) o
  have HS : Hid (RS w pb L 0) := h
  have c1 : ∀ o : Obj, (w.alloc o).cell? ⟨pb, 1, none⟩ = some (.int .i64 0) := by
    intro o
    obtain ⟨v, h1, h2, h3, h4, h5, h6⟩ := h
    rw [World.cell?_alloc_lt]
    · exact h2
    · exact h5
  clear h
  go_enter_defers Try.func83, Try.ntmps83
  go_wp2_with fail
  refine (hT.out _ (HS.out.below (HB1.out _))).mono ?_
  rintro e w2 ⟨rfl, ⟨R, hrs⟩, hon⟩
  have HK : Hid (w.grownBy (lost w2 pb k) (some pb)) := grow_trans (grow_trans (grow_alloc _ _ _) hon) (lost_grow _ _ _)
  have hp : w2.cell? ⟨w.heap.size, 0, none⟩ = some (.pointer (some ⟨pb, 0, none⟩)) := by
    rw [World.cell?_of_block (hon.block w.heap.size (by simp) (fun e => by injection e with e; omega))]
    simp
  have HLO : Hid (RS (lost w2 pb k) pb [] k) := (lost_rs hrs k).1
  obtain ⟨v0, h1, h2, h3, h4, h5, h6⟩ := hrs
  clear hon h6
  unfold gaveUp
  refine leaves_cons (f := 98) (args := #[.pointer (some ⟨w.heap.size, 0, none⟩)]) (by simp) (by simp [go_sem]) ?_
  refine (panicking_int ⟨w.heap.size, 0, none⟩ pb v0 _ k [] _ hp h1 h2 h3 h4).mono ?_
  rintro e u' w'' ⟨rfl, rfl, rfl⟩
  have HF : Hid (WPost w pb (.int .i64 0) (.err k) (.returned (.int .i64 0)) (lost w2 pb k)) := ⟨rfl, HLO.out, HK.out⟩
  simp [Leaves, settle, results, Try.results83, go_sem]
  exact HF.out

set_option maxRecDepth 100000 in
/-- the method -/
theorem whole_int (pb : Nat) (o : Out) (L : List UInt8) (w : World) (h : RS w pb L 0) (hT : Hid (∀ w', RS w' pb L 0 → Calls Try.prog 84 #[.pointer (some ⟨pb, 0, none⟩)] w' (TPost w' pb 0 o))) :
    Calls Try.prog 83 #[.pointer (some ⟨pb, 0, none⟩), .func (.func 84) #[.pointer (some ⟨pb, 0, none⟩)] #[]] w (WPost w pb (.int .i64 0) o) := by
  cases o with
  | ok P R => exact took_int pb P L R w h hT
  | err k => exact gave_int pb L k w h hT
set_option maxRecDepth 100000 in
theorem WPost.form_int {w : World} {pb : Nat} {o : Out} {e : Ending} {w' : World} (h : WPost w pb (.int .i64 0) o e w') : ∃ v, e = .returned v := by
  cases o with
  | ok P R => obtain ⟨v, h, _⟩ := h; exact ⟨v, h⟩
  | err k => exact ⟨_, h.1⟩
set_option maxRecDepth 100000 in
set_option maxHeartbeats 400000 in
theorem rint_ok (pb : Nat) (o : Out) (L : List UInt8) (w : World) (h : RS w pb L 0) (hT : Hid (∀ w', RS w' pb L 0 → Calls Try.prog 84 #[.pointer (some ⟨pb, 0, none⟩)] w' (TPost w' pb 0 o))) :
    Calls Try.prog 64 #[.pointer (some ⟨pb, 0, none⟩)] w (WPost w pb (.int .i64 0) o) := by
  have hmf : ∀ (fn : Fn) (first cap : Array Value) (w : World), (Instr.makeFunc fn first cap).run Try.prog w = .ok (.func fn first cap) w := fun _ _ _ _ => rfl
  have HS : Hid (RS w pb L 0) := h
  clear h
  go_enter Try.func64, Try.ntmps64
  go_wp2_with fail
  refine (whole_int pb o L w HS.out hT).mono ?_
  intro e w2 hp
  obtain ⟨v, rfl⟩ := hp.form_int
  have HP : Hid (WPost w pb (.int .i64 0) o (.returned v) w2) := hp
  clear hp hT
  go_wp2
  go_ret
  exact HP.out
set_option maxRecDepth 100000 in
set_option maxHeartbeats 400000 in
theorem rint_failed (pb : Nat) (f : Int) (w : World) (h : RS w pb [] f) (hf : (f == 0) = false) :
    Calls Try.prog 64 #[.pointer (some ⟨pb, 0, none⟩)] w (WPost w pb (.int .i64 0) (.err f)) := by
  have hmf : ∀ (fn : Fn) (first cap : Array Value) (w : World), (Instr.makeFunc fn first cap).run Try.prog w = .ok (.func fn first cap) w := fun _ _ _ _ => rfl
  have HS : Hid (RS w pb [] f) := h
  clear h
  go_enter Try.func64, Try.ntmps64
  go_wp2_with fail
  refine (failed_int pb f w HS.out hf).mono ?_
  intro e w2 hp
  obtain ⟨v, rfl⟩ := hp.form_int
  have HP : Hid (WPost w pb (.int .i64 0) (.err f) (.returned v) w2) := hp
  clear hp
  go_wp2
  go_ret
  exact HP.out

end Go.Proofs.Ythcidcfaodjbjaa
