/- A reader's Uint: what is taken up, or, behind a panic that is recovered, the error. -/
import Derived.Test.YthcidcfaodjbjaaPRdr
namespace Go.Proofs.Ythcidcfaodjbjaa
open Go.RowKit
set_option linter.unusedVariables false

def lost (w : World) (pb : Nat) (k : Int) : World := (w.setCell ⟨pb, 0, none⟩ (.slice none 0 0)).setCell ⟨pb, 1, none⟩ (.int .i64 k)

set_option maxRecDepth 100000 in
theorem lost_rs {w : World} {pb : Nat} {R : List UInt8} {f : Int} (h : RS w pb R f) (k : Int) : RS (lost w pb k) pb [] k ∧ Below pb w (lost w pb k) := by
  obtain ⟨v, h1, h2, h3, h4, h5, h6⟩ := h
  have c1 : (w.setCell ⟨pb, 0, none⟩ (.slice none 0 0)).cell? ⟨pb, 1, none⟩ = some (.int .i64 f) := by
    rw [World.cell?_setCell_other w _ _ _ (by intro e; cases e)]; exact h2
  refine ⟨⟨.slice none 0 0, ?_, ?_, by simpa [lost] using h3, by simpa [lost] using h4, by simpa [lost, World.setCell] using h5, Or.inl ⟨rfl, rfl⟩⟩, ?_⟩
  · unfold lost
    rw [World.cell?_setCell_other _ _ _ _ (by intro e; cases e)]
    exact World.cell?_setCell_same w _ _ h1
  · exact World.cell?_setCell_same _ _ _ c1
  · exact Below.setCell (Below.setCell (Below.refl pb w) (show pb ≤ pb from Nat.le_refl _) _) (show pb ≤ pb from Nat.le_refl _) _

set_option maxRecDepth 100000 in
theorem info39 : (Try.prog.info? 26).map (fun i => i.zero) = some (some (.int .i64 0)) := by kernel_rfl

set_option maxRecDepth 100000 in
theorem assert_is (k : Int) (w : World) : (Instr.typeAssert (.iface 26 (.int .i64 k)) 20 26 true).run Try.prog w = .ok (.tuple #[.int .i64 k, .bool true]) w := by
  simp [Instr.typeAssert, run_underlying Try.underlying26]
set_option maxRecDepth 100000 in
theorem assert_nil (w : World) : (Instr.typeAssert .nilIface 20 26 true).run Try.prog w = .ok (.tuple #[.int .i64 0, .bool false]) w := by
  have h := info39
  rcases e : Try.prog.info? 26 with _ | i
  · rw [e] at h; simp at h
  · rw [e] at h
    have hz : i.zero = some (.int .i64 0) := by simpa using h
    simp [Instr.typeAssert, run_underlying Try.underlying26, zeroValue, typeInfo, e, hz]

set_option maxRecDepth 100000 in
set_option maxHeartbeats 1000000 in
theorem catch_idle (p : Addr) (w : World) :
    CallsD Try.prog 97 #[.pointer (some p)] .returning w fun e u' w' => e = .returned (.tuple #[]) ∧ u' = .returning ∧ w' = w := by
  refine callsD_of_wpS Try.func97 rfl fun c₀ cs hu => ?_
  apply wpS_seq
  apply wpS_region
  simp [wpOpsS, go_sem, recoverD, hu, Try.ntmps97, Exit.thenS, assert_nil]
  apply wpS_seq
  apply wpS_region
  simp [wpOpsS, go_sem, Exit.thenS]
  refine wpS_cond (t := false) (by simp [Act.eval, Array.replicate]) ?_
  simp only [Bool.false_eq_true, if_false]
  refine wpS_of_wp (wp_skip ?_)
  cases c₀
  simp_all [bodyPostS, results, Try.results97]

set_option maxRecDepth 100000 in
set_option maxHeartbeats 1000000 in
theorem catch_panicking (p : Addr) (pb : Nat) (v0 v1 : Value) (k : Int) (older : List PanicEntry) (w : World) (hp : w.cell? p = some (.pointer (some ⟨pb, 0, none⟩))) (h1 : w.cell? ⟨pb, 0, none⟩ = some v0) (h2 : w.cell? ⟨pb, 1, none⟩ = some v1) (h3 : w.frozen? ⟨pb, 0, none⟩ = false) (h4 : w.frozen? ⟨pb, 1, none⟩ = false) :
    CallsD Try.prog 97 #[.pointer (some p)] (.panicking ({ v := .iface 26 (.int .i64 k), recovered := false } :: older)) w fun e u' w' =>
      e = .returned (.tuple #[]) ∧ u' = .panicking ({ v := .iface 26 (.int .i64 k), recovered := true } :: older) ∧ w' = lost w pb k := by
  have c1 : (w.setCell ⟨pb, 0, none⟩ (.slice none 0 0)).cell? ⟨pb, 1, none⟩ = some v1 := by
    rw [World.cell?_setCell_other w _ _ _ (by intro e; cases e)]; exact h2
  have f1 : (w.setCell ⟨pb, 0, none⟩ (.slice none 0 0)).frozen? ⟨pb, 1, none⟩ = false := by simpa using h4
  refine callsD_of_wpS Try.func97 rfl fun c₀ cs hu => ?_
  apply wpS_seq
  apply wpS_region
  simp [wpOpsS, go_sem, recoverD, hu, Try.ntmps97, Exit.thenS, assert_is]
  apply wpS_seq
  apply wpS_region
  simp [wpOpsS, go_sem, Exit.thenS]
  refine wpS_cond (t := true) (by simp [Act.eval, Array.replicate]) ?_
  simp only [if_true]
  refine wpS_of_wp ?_
  go_wp2
  simp [bodyPostS, results, Try.results97, lost]

/-- what Uint answers, what is left behind it, and the error -/
def uR (L : List UInt8) (f : Int) : Nat × List UInt8 × Int :=
  if f = 0 then (match tk 0 0 L with | .ok m R => (m, R, 0) | .err k => (0, [], k)) else (0, L, f)
def UPost (w : World) (pb : Nat) (r : Nat × List UInt8 × Int) (e : Ending) (w' : World) : Prop := e = .returned (.int .u64 (r.1 : Int)) ∧ RS w' pb r.2.1 r.2.2 ∧ Below pb w w' ∧ ∀ k, k < w.heap.size → k ≠ pb → w'.heap[k]? = w.heap[k]?

set_option maxRecDepth 100000 in
theorem RS.lt {w : World} {pb : Nat} {L : List UInt8} {f : Int} (h : RS w pb L f) : pb < w.heap.size := by obtain ⟨_, _, _, _, _, h, _⟩ := h; exact h

set_option maxRecDepth 100000 in
set_option maxHeartbeats 1000000 in
theorem whole_fail (pb : Nat) (f : Int) (L : List UInt8) (w : World) (h : RS w pb L f) (hf : (f == 0) = false) :
    Calls Try.prog 82 #[.pointer (some ⟨pb, 0, none⟩), .func (.func 80) #[.pointer (some ⟨pb, 0, none⟩)] #[]] w fun e w' => UPost w pb (0, L, f) e w' := by
  have hlt := h.lt
  have b1 := fun o : Obj => (Below.refl w.heap.size w).alloc (Nat.le_refl _) o
  have HB1 : Hid (∀ o : Obj, Below w.heap.size w (w.alloc o)) := b1
  have HS : Hid (RS w pb L f) := h
  have c1 : ∀ o : Obj, (w.alloc o).cell? ⟨pb, 1, none⟩ = some (.int .i64 f) := by
    intro o
    obtain ⟨v, h1, h2, h3, h4, h5, h6⟩ := h
    rw [World.cell?_alloc_lt]
    · exact h2
    · exact h5
  clear b1 h
  go_enter_defers Try.func82, Try.ntmps82
  go_wp2
  exact ⟨_, results_tmp rfl _ _ _, rfl, HS.out.below (HB1.out _), (HB1.out _).mono (by omega), fun k hk _ => heap_alloc_old w _ hk⟩

set_option maxRecDepth 100000 in
set_option maxHeartbeats 1000000 in
theorem whole_ok (pb : Nat) (L R : List UInt8) (m : Nat) (w : World) (h : RS w pb L 0) (hr : Hid (tk 0 0 L = .ok m R)) :
    Calls Try.prog 82 #[.pointer (some ⟨pb, 0, none⟩), .func (.func 80) #[.pointer (some ⟨pb, 0, none⟩)] #[]] w fun e w' => UPost w pb (m, R, 0) e w' := by
  have hmf : ∀ (fn : Fn) (first cap : Array Value) (w : World), (Instr.makeFunc fn first cap).run Try.prog w = .ok (.func fn first cap) w := fun _ _ _ _ => rfl
  have hlt := h.lt
  have HB1 : Hid (∀ o : Obj, Below w.heap.size w (w.alloc o)) := fun o => (Below.refl w.heap.size w).alloc (Nat.le_refl _) o
  have HS : Hid (RS w pb L 0) := h
  have c1 : ∀ o : Obj, (w.alloc o).cell? ⟨pb, 1, none⟩ = some (.int .i64 0) := by
    intro o
    obtain ⟨v, h1, h2, h3, h4, h5, h6⟩ := h
    rw [World.cell?_alloc_lt]
    · exact h2
    · exact h5
  clear h
  go_enter_defers Try.func82, Try.ntmps82
  go_wp2_with fail
  refine (take_any pb 0 L _ (HS.out.below (HB1.out _))).mono ?_
  intro e w2 hp
  rw [hr.out] at hp
  obtain ⟨rfl, hrs, hon⟩ := hp
  have HRS : Hid (RS w2 pb R 0) := hrs
  have HK : Hid (∀ k, k < w.heap.size → k ≠ pb → w2.heap[k]? = w.heap[k]?) := fun k hk hne => (hon.1.block k (by simp; omega) (fun e => hne (by cases e; rfl))).trans (heap_alloc_old w _ hk)
  have HBE : Hid (Below pb w w2) := ((HB1.out _).mono (by omega)).trans (hon.below (Nat.le_refl _) (by simp; omega))
  clear hrs hon
  go_wp2
  refine leaves_cons (f := 97) (args := #[.pointer (some ⟨w.heap.size, 0, none⟩)]) (by simp) (by simp [go_sem]) ?_
  refine (catch_idle ⟨w.heap.size, 0, none⟩ _).mono ?_
  rintro e u' w'' ⟨rfl, rfl, rfl⟩
  exact ⟨_, results_tmp rfl _ _ _, rfl, HRS.out, HBE.out, HK.out⟩

set_option maxRecDepth 100000 in
set_option maxHeartbeats 1000000 in
theorem whole_err (pb : Nat) (L : List UInt8) (k : Int) (w : World) (h : RS w pb L 0) (hr : Hid (tk 0 0 L = .err k)) :
    Calls Try.prog 82 #[.pointer (some ⟨pb, 0, none⟩), .func (.func 80) #[.pointer (some ⟨pb, 0, none⟩)] #[]] w fun e w' => UPost w pb (0, [], k) e w' := by
  have hmf : ∀ (fn : Fn) (first cap : Array Value) (w : World), (Instr.makeFunc fn first cap).run Try.prog w = .ok (.func fn first cap) w := fun _ _ _ _ => rfl
  have hlt := h.lt
  have HB1 : Hid (∀ o : Obj, Below w.heap.size w (w.alloc o)) := fun o => (Below.refl w.heap.size w).alloc (Nat.le_refl _) o
  have HS : Hid (RS w pb L 0) := h
  have c1 : ∀ o : Obj, (w.alloc o).cell? ⟨pb, 1, none⟩ = some (.int .i64 0) := by
    intro o
    obtain ⟨v, h1, h2, h3, h4, h5, h6⟩ := h
    rw [World.cell?_alloc_lt]
    · exact h2
    · exact h5
  clear h
  go_enter_defers Try.func82, Try.ntmps82
  go_wp2_with fail
  refine (take_any pb 0 L _ (HS.out.below (HB1.out _))).mono ?_
  intro e w2 hp
  rw [hr.out] at hp
  obtain ⟨rfl, ⟨R, hrs⟩, hon⟩ := hp
  have HBE : Hid (Below pb w w2) := ((HB1.out _).mono (by omega)).trans (hon.below (Nat.le_refl _) (by simp; omega))
  have HK : Hid (∀ q, q < w.heap.size → q ≠ pb → (lost w2 pb k).heap[q]? = w.heap[q]?) := by
    intro q hq hne
    unfold lost
    rw [Below.heap_setCell _ _ _ _ (by intro e; exact hne e), Below.heap_setCell _ _ _ _ (by intro e; exact hne e)]
    exact (hon.1.block q (by simp; omega) (fun e => hne (by cases e; rfl))).trans (heap_alloc_old w _ hq)
  have hp : w2.cell? ⟨w.heap.size, 0, none⟩ = some (.pointer (some ⟨pb, 0, none⟩)) := by
    rw [hon.cell (p := ⟨w.heap.size, 0, none⟩) (by show w.heap.size ≠ pb; omega) (by simp)]
    simp
  have HLO : Hid (RS (lost w2 pb k) pb [] k ∧ Below pb w2 (lost w2 pb k)) := lost_rs hrs k
  obtain ⟨v0, h1, h2, h3, h4, h5, h6⟩ := hrs
  clear hon h6
  unfold gaveUp
  refine leaves_cons (f := 97) (args := #[.pointer (some ⟨w.heap.size, 0, none⟩)]) (by simp) (by simp [go_sem]) ?_
  refine (catch_panicking ⟨w.heap.size, 0, none⟩ pb v0 _ k [] _ hp h1 h2 h3 h4).mono ?_
  rintro e u' w'' ⟨rfl, rfl, rfl⟩
  have HF : Hid (UPost w pb (0, [], k) (.returned (.int .u64 0)) (lost w2 pb k)) := ⟨rfl, HLO.out.1, HBE.out.trans HLO.out.2, HK.out⟩
  simp [Leaves, settle, results, Try.results82, go_sem]
  exact HF.out

set_option maxRecDepth 100000 in
theorem whole_any (pb : Nat) (f : Int) (L : List UInt8) (w : World) (h : RS w pb L f) :
    Calls Try.prog 82 #[.pointer (some ⟨pb, 0, none⟩), .func (.func 80) #[.pointer (some ⟨pb, 0, none⟩)] #[]] w fun e w' => UPost w pb (uR L f) e w' := by
  by_cases hf : f = 0
  · subst hf
    rcases e : tk 0 0 L with ⟨m, R⟩ | k
    · have : uR L 0 = (m, R, 0) := by unfold uR; rw [if_pos rfl, e]
      rw [this]; exact whole_ok pb L R m w h e
    · have : uR L 0 = (0, [], k) := by unfold uR; rw [if_pos rfl, e]
      rw [this]; exact whole_err pb L k w h e
  · have : uR L f = (0, L, f) := by unfold uR; rw [if_neg hf]
    rw [this]; exact whole_fail pb f L w h (by simp [hf])

set_option maxRecDepth 100000 in
set_option maxHeartbeats 400000 in
theorem ruint_any (pb : Nat) (f : Int) (L : List UInt8) (w : World) (h : RS w pb L f) :
    Calls Try.prog 62 #[.pointer (some ⟨pb, 0, none⟩)] w fun e w' => UPost w pb (uR L f) e w' := by
  have hmf : ∀ (fn : Fn) (first cap : Array Value) (w : World), (Instr.makeFunc fn first cap).run Try.prog w = .ok (.func fn first cap) w := fun _ _ _ _ => rfl
  have HS : Hid (RS w pb L f) := h
  clear h
  obtain ⟨r, hr⟩ : ∃ r, uR L f = r := ⟨_, rfl⟩
  have HR : Hid (uR L f = r) := hr
  rw [hr]
  clear hr
  go_enter Try.func62, Try.ntmps62
  go_wp2_with fail
  refine (whole_any pb f L w HS.out).mono ?_
  intro e w2 hp
  rw [HR.out] at hp
  obtain ⟨rfl, h2, h3, h4⟩ := hp
  have H4 : Hid (∀ k, k < w.heap.size → k ≠ pb → w2.heap[k]? = w.heap[k]?) := h4
  have H2 : Hid (RS w2 pb r.2.1 r.2.2) := h2
  have H3 : Hid (Below pb w w2) := h3
  clear h2 h3 h4
  go_wp2
  go_ret
  exact ⟨rfl, H2.out, H3.out, H4.out⟩

set_option maxRecDepth 100000 in
set_option maxHeartbeats 400000 in
theorem fail_any (pb : Nat) (f : Int) (L : List UInt8) (w : World) (h : RS w pb L f) :
    Calls Try.prog 63 #[.pointer (some ⟨pb, 0, none⟩)] w fun e w' => e = .returned (.int .i64 f) ∧ w' = w := by
  obtain ⟨v, h1, h2, h3, h4, h5, h6⟩ := h
  clear h6
  go_enter Try.func63, Try.ntmps63
  go_wp2
  go_ret
  exact ⟨rfl, rfl⟩

def ReadPost (w : World) (L : List UInt8) (e : Ending) (w' : World) : Prop := ∃ pb, e = .returned (.pointer (some ⟨pb, 0, none⟩)) ∧ w.heap.size ≤ pb ∧ RS w' pb L 0 ∧ Below w.heap.size w w'

set_option maxRecDepth 100000 in
set_option maxHeartbeats 1000000 in
theorem read_any (v : Value) (L : List UInt8) (w : World) (hL : L.length ≤ 1000000000) (h : Rd w v L) :
    Calls Try.prog 43 #[v] w fun e w' => ReadPost w L e w' := by
  have HR : Hid (Rd w v L) := h
  obtain ⟨a, c, rfl⟩ : ∃ a c, v = .slice a L.length c := by
    rcases h with ⟨rfl, rfl⟩ | ⟨b, off, cap, rfl, _⟩
    · exact ⟨_, _, rfl⟩
    · exact ⟨_, _, rfl⟩
  clear h
  go_enter Try.func43, Try.ntmps43
  go_wp2_with fail
  refine (clone_any _ L w hL HR.out).mono ?_
  rintro e w1 ⟨v1, rfl, o1, b1⟩
  have O1 : Hid (Rd w1 v1 L) := o1.rd
  have B1 : Hid (Below w.heap.size w w1) := b1
  obtain ⟨a1, n1, c1, rfl⟩ : ∃ a n c, v1 = .slice a n c := by
    rcases o1.2 with ⟨h, _⟩ | ⟨g, cap, cur, h, _⟩
    · exact ⟨_, _, _, h⟩
    · exact ⟨_, _, _, h⟩
  clear o1 b1
  go_wp2
  go_ret
  refine ⟨w1.heap.size, rfl, B1.out.size, ⟨_, by simp; rfl, by simp, by simp, by simp, by simp, ?_⟩, B1.out.alloc B1.out.size _⟩
  rcases O1.out with h9 | ⟨b, off, cap, e1, e2, e2', e3, e4⟩
  · exact Or.inl h9
  · refine Or.inr ⟨b, off, cap, e1, e2, e2', by simp; omega, by omega, fun i hi => ?_⟩
    rw [World.cell?_alloc_lt]
    · exact e4 i hi
    · exact e3
end Go.Proofs.Ythcidcfaodjbjaa
