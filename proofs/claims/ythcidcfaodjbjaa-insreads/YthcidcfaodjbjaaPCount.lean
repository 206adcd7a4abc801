/- A reader's Count. -/
import Derived.Test.YthcidcfaodjbjaaPTakes
namespace Go.Proofs.Ythcidcfaodjbjaa
open Go.RowKit
set_option linter.unusedVariables false
theorem cell_n1 (V : World) (n : Nat) (h : V.heap.size = n) (x : Value) (t : TypeId) : (V.alloc (.cells #[x] t)).cell? ⟨n, 0, none⟩ = some x := by
  subst h
  simp

set_option maxRecDepth 100000 in
set_option maxHeartbeats 1000000 in
theorem idle_count (p : Addr) (w : World) :
    CallsD Try.prog 79 #[.pointer (some p)] .returning w fun e u' w' => e = .returned (.tuple #[]) ∧ u' = .returning ∧ w' = w := by
  refine callsD_of_wpS Try.func79 rfl fun c₀ cs hu => ?_
  apply wpS_seq
  apply wpS_region
  simp [wpOpsS, go_sem, recoverD, hu, Try.ntmps79, Exit.thenS, assert_nil]
  apply wpS_seq
  apply wpS_region
  simp [wpOpsS, go_sem, Exit.thenS]
  refine wpS_cond (t := false) (by simp [Act.eval, Array.replicate]) ?_
  simp only [Bool.false_eq_true, if_false]
  refine wpS_of_wp (wp_skip ?_)
  cases c₀
  simp_all [bodyPostS, results, Try.results79]

set_option maxRecDepth 100000 in
set_option maxHeartbeats 1000000 in
theorem panicking_count (p : Addr) (pb : Nat) (v0 v1 : Value) (k : Int) (older : List PanicEntry) (w : World) (hp : w.cell? p = some (.pointer (some ⟨pb, 0, none⟩))) (h1 : w.cell? ⟨pb, 0, none⟩ = some v0) (h2 : w.cell? ⟨pb, 1, none⟩ = some v1) (h3 : w.frozen? ⟨pb, 0, none⟩ = false) (h4 : w.frozen? ⟨pb, 1, none⟩ = false) :
    CallsD Try.prog 79 #[.pointer (some p)] (.panicking ({ v := .iface 26 (.int .i64 k), recovered := false } :: older)) w fun e u' w' =>
      e = .returned (.tuple #[]) ∧ u' = .panicking ({ v := .iface 26 (.int .i64 k), recovered := true } :: older) ∧ w' = lost w pb k := by
  have c1 : (w.setCell ⟨pb, 0, none⟩ (.slice none 0 0)).cell? ⟨pb, 1, none⟩ = some v1 := by
    rw [World.cell?_setCell_other w _ _ _ (by intro e; cases e)]; exact h2
  have f1 : (w.setCell ⟨pb, 0, none⟩ (.slice none 0 0)).frozen? ⟨pb, 1, none⟩ = false := by simpa using h4
  refine callsD_of_wpS Try.func79 rfl fun c₀ cs hu => ?_
  apply wpS_seq
  apply wpS_region
  simp [wpOpsS, go_sem, recoverD, hu, Try.ntmps79, Exit.thenS, assert_is]
  apply wpS_seq
  apply wpS_region
  simp [wpOpsS, go_sem, Exit.thenS]
  refine wpS_cond (t := true) (by simp [Act.eval, Array.replicate]) ?_
  simp only [if_true]
  refine wpS_of_wp ?_
  go_wp2
  simp [bodyPostS, results, Try.results79, lost]

set_option maxRecDepth 100000 in
set_option maxHeartbeats 1000000 in
theorem failed_count (pb : Nat) (p1 p2 : Addr) (f : Int) (w : World) (h : RS w pb [] f) (hf : (f == 0) = false) :
    Calls Try.prog 58 #[.pointer (some ⟨pb, 0, none⟩), .func (.func 59) #[] #[.pointer (some p1), .pointer (some p2)]] w (WPost w pb (.int .i64 0) (.err f)) := by
  have hlt := h.lt
  have HB1 : Hid (∀ o : Obj, Below w.heap.size w (w.alloc o)) := fun o => (Below.refl w.heap.size w).alloc (Nat.le_refl _) o
  have HS : Hid (RS w pb [] f) := h
  have c1 : ∀ o : Obj, (w.alloc o).cell? ⟨pb, 1, none⟩ = some (.int .i64 f) := by
    intro o
    obtain ⟨v, h1, h2, h3, h4, h5, h6⟩ := h
    rw [World.cell?_alloc_lt]
    · exact h2
    · exact h5
  clear h
  go_enter_defers Try.func58, Try.ntmps58
  go_wp2
  exact ⟨_, results_tmp rfl _ _ _, rfl, HS.out.below (HB1.out _), grow_alloc _ _ _⟩

set_option maxRecDepth 100000 in
set_option maxHeartbeats 1000000 in
theorem took_count (pb : Nat) (P : Value → World → Prop) (L R : List UInt8) (w : World) (h : RS w pb L 0) (p1 p2 : Addr) (hT : Hid (∀ w', Below w.heap.size w w' → Calls Try.prog 59 #[.pointer (some p1), .pointer (some p2)] w' (TPost w' pb 0 (.ok P R)))) :
    Calls Try.prog 58 #[.pointer (some ⟨pb, 0, none⟩), .func (.func 59) #[] #[.pointer (some p1), .pointer (some p2)]] w (WPost w pb (.int .i64 0) (.ok P R)) := by
  have hmf : ∀ (fn : Fn) (first cap : Array Value) (w : World), (Instr.makeFunc fn first cap).run Try.prog w = .ok (.func fn first cap) w := fun _ _ _ _ => rfl
  have hlt := h.lt
  have HB1 : Hid (∀ o : Obj, Below w.heap.size w (w.alloc o)) := fun o => (Below.refl w.heap.size w).alloc (Nat.le_refl _) o
  have HS : Hid (RS w pb L 0) := h
  have c1 : ∀ o : Obj, (w.alloc o).cell? ⟨pb, 1, none⟩ = some (.int .i64 0) := by
    intro o
    obtain ⟨v, h1, h2, h3, h4, h5, h6⟩ := h
    rw [World.cell?_alloc_lt]
    · exact h2
    · exact h5
  clear h
  go_enter_defers Try.func58, Try.ntmps58
  go_wp2_with fail
  refine (hT.out _ (HB1.out _)).mono ?_
  rintro e w2 ⟨v, rfl, hv, hrs, hon⟩
  have HV : Hid (P v w2) := hv
  have HRS : Hid (RS w2 pb R 0) := hrs
  have HK : Hid (w.grownBy w2 (some pb)) := grow_trans (grow_alloc _ _ _) hon
  clear hrs hon hv
  go_wp2
  refine leaves_cons (f := 79) (args := #[.pointer (some ⟨w.heap.size, 0, none⟩)]) (by simp) (by simp [go_sem]) ?_
  refine (idle_count ⟨w.heap.size, 0, none⟩ _).mono ?_
  rintro e u' w'' ⟨rfl, rfl, rfl⟩
  exact ⟨_, results_tmp rfl _ _ _, v, rfl, HV.out, HRS.out, HK.out⟩

set_option maxRecDepth 100000 in
set_option maxHeartbeats 1000000 in
theorem gave_count (pb : Nat) (L : List UInt8) (k : Int) (w : World) (h : RS w pb L 0) (p1 p2 : Addr) (hT : Hid (∀ w', Below w.heap.size w w' → Calls Try.prog 59 #[.pointer (some p1), .pointer (some p2)] w' (TPost w' pb 0 (.err k)))) :
    Calls Try.prog 58 #[.pointer (some ⟨pb, 0, none⟩), .func (.func 59) #[] #[.pointer (some p1), .pointer (some p2)]] w (WPost w pb (.int .i64 0) (.err k)) := by
  have hmf : ∀ (fn : Fn) (first cap : Array Value) (w : World), (Instr.makeFunc fn first cap).run Try.prog w = .ok (.func fn first cap) w := fun _ _ _ _ => rfl
  have hlt := h.lt
  have HB1 : Hid (∀ o : Obj, Below w.heap.size w (w.alloc o)) := fun o => (Below.refl w.heap.size w).alloc (Nat.le_refl _) o
  have HS : Hid (RS w pb L 0) := h
  have c1 : ∀ o : Obj, (w.alloc o).cell? ⟨pb, 1, none⟩ = some (.int .i64 0) := by
    intro o
    obtain ⟨v, h1, h2, h3, h4, h5, h6⟩ := h
    rw [World.cell?_alloc_lt]
    · exact h2
    · exact h5
  clear h
  go_enter_defers Try.func58, Try.ntmps58
  go_wp2_with fail
  refine (hT.out _ (HB1.out _)).mono ?_
  rintro e w2 ⟨rfl, ⟨R, hrs⟩, hon⟩
  have HK : Hid (w.grownBy (lost w2 pb k) (some pb)) := grow_trans (grow_trans (grow_alloc _ _ _) hon) (lost_grow _ _ _)
  have hp : w2.cell? ⟨w.heap.size, 0, none⟩ = some (.pointer (some ⟨pb, 0, none⟩)) := by
    rw [World.cell?_of_block (hon.block w.heap.size (by simp) (fun e => by injection e with e; omega))]
    simp
  have HLO : Hid (RS (lost w2 pb k) pb [] k) := (lost_rs hrs k).1
  obtain ⟨v0, h1, h2, h3, h4, h5, h6⟩ := hrs
  clear hon h6
  unfold gaveUp
  refine leaves_cons (f := 79) (args := #[.pointer (some ⟨w.heap.size, 0, none⟩)]) (by simp) (by simp [go_sem]) ?_
  refine (panicking_count ⟨w.heap.size, 0, none⟩ pb v0 _ k [] _ hp h1 h2 h3 h4).mono ?_
  rintro e u' w'' ⟨rfl, rfl, rfl⟩
  have HF : Hid (WPost w pb (.int .i64 0) (.err k) (.returned (.int .i64 0)) (lost w2 pb k)) := ⟨rfl, HLO.out, HK.out⟩
  simp [Leaves, settle, results, Try.results58, go_sem]
  exact HF.out


set_option maxRecDepth 100000 in
set_option maxHeartbeats 1000000 in
theorem inner_count (pb : Nat) (ls : Int) (lsn : Nat) (L : List UInt8) (p1 p2 : Addr) (w : World) (hls : (ls < 1 ∧ lsn = 1) ∨ (1 ≤ ls ∧ ls = (lsn : Int))) (hl9 : 1 ≤ lsn ∧ lsn ≤ 9223372036854775807) (hL : L.length ≤ 1000000000) (h1 : w.cell? p1 = some (.pointer (some ⟨pb, 0, none⟩))) (h2 : w.cell? p2 = some (.int .i64 ls)) (h : RS w pb L 0) :
    Calls Try.prog 59 #[.pointer (some p1), .pointer (some p2)] w (TPost w pb 0 (outC lsn L)) := by
  have HC0 : Hid (Calls Try.prog 60 #[.pointer (some ⟨pb, 0, none⟩), .int .i64 (lsn : Int)] w (TPost w pb 0 (outC lsn L))) := takeC pb lsn 0 L w hl9.1 hl9.2 hL h
  obtain ⟨o, ho⟩ : ∃ o, outC lsn L = o := ⟨_, rfl⟩
  rw [ho] at HC0 ⊢
  clear ho h
  rcases hls with ⟨g1, g2⟩ | ⟨g1, g2⟩
  · subst g2
    have HC : Hid (Calls Try.prog 60 #[.pointer (some ⟨pb, 0, none⟩), .int .i64 1] w (TPost w pb 0 o)) := HC0.out
    go_enter Try.func59, Try.ntmps59
    go_wp2_with fail
    refine HC.out.mono ?_
    intro e w2 hp
    cases o with
    | ok P R =>
      obtain ⟨v, rfl, q1, q2, q3⟩ := hp
      have HP : Hid (TPost w pb 0 (.ok P R) (.returned v) w2) := ⟨v, rfl, q1, q2, q3⟩
      clear q1 q2 q3
      go_wp2
      go_ret
      exact HP.out
    | err k =>
      obtain ⟨rfl, q2, q3⟩ := hp
      exact ⟨rfl, rfl, q2, q3⟩
  · subst g2
    have HC := HC0
    go_enter Try.func59, Try.ntmps59
    go_wp2_with fail
    refine HC.out.mono ?_
    intro e w2 hp
    cases o with
    | ok P R =>
      obtain ⟨v, rfl, q1, q2, q3⟩ := hp
      have HP : Hid (TPost w pb 0 (.ok P R) (.returned v) w2) := ⟨v, rfl, q1, q2, q3⟩
      clear q1 q2 q3
      go_wp2
      go_ret
      exact HP.out
    | err k =>
      obtain ⟨rfl, q2, q3⟩ := hp
      exact ⟨rfl, rfl, q2, q3⟩

set_option maxRecDepth 100000 in
set_option maxHeartbeats 1000000 in
theorem rcount_ok (pb : Nat) (ls : Int) (lsn : Nat) (L : List UInt8) (w : World) (hls : (ls < 1 ∧ lsn = 1) ∨ (1 ≤ ls ∧ ls = (lsn : Int))) (hl9 : 1 ≤ lsn ∧ lsn ≤ 9223372036854775807) (hL : L.length ≤ 1000000000) (h : RS w pb L 0) :
    Calls Try.prog 44 #[.pointer (some ⟨pb, 0, none⟩), .int .i64 ls] w (WPost w pb (.int .i64 0) (outC lsn L)) := by
  have hmf : ∀ (fn : Fn) (first cap : Array Value) (w : World), (Instr.makeFunc fn first cap).run Try.prog w = .ok (.func fn first cap) w := fun _ _ _ _ => rfl
  have HB1 : Hid (Below w.heap.size w ((w.alloc (.cells #[.pointer (some ⟨pb, 0, none⟩)] 71)).alloc (.cells #[.int .i64 ls] 3))) := ((Below.refl _ _).alloc (Nat.le_refl _) _).alloc (by simp) _
  have HG1 : Hid (w.grownBy ((w.alloc (.cells #[.pointer (some ⟨pb, 0, none⟩)] 71)).alloc (.cells #[.int .i64 ls] 3)) (some pb)) := grow_trans (grow_alloc _ _ _) (grow_alloc _ _ _)
  have HS1 : Hid (RS ((w.alloc (.cells #[.pointer (some ⟨pb, 0, none⟩)] 71)).alloc (.cells #[.int .i64 ls] 3)) pb L 0) := h.below HB1.out
  have HI : Hid (∀ w', Below ((w.alloc (.cells #[.pointer (some ⟨pb, 0, none⟩)] 71)).alloc (.cells #[.int .i64 ls] 3)).heap.size ((w.alloc (.cells #[.pointer (some ⟨pb, 0, none⟩)] 71)).alloc (.cells #[.int .i64 ls] 3)) w' → Calls Try.prog 59 #[.pointer (some ⟨w.heap.size, 0, none⟩), .pointer (some ⟨w.heap.size + 1, 0, none⟩)] w' (TPost w' pb 0 (outC lsn L))) := by
    intro w' hb
    refine inner_count pb ls lsn L _ _ w' hls hl9 hL ?_ ?_ (HS1.out.below hb)
    · rw [hb.cell (p := ⟨w.heap.size, 0, none⟩) (by first | (simp; done) | (simp; omega))]
      rw [World.cell?_alloc_lt]
      · simp
      · simp
    · rw [hb.cell (p := ⟨w.heap.size + 1, 0, none⟩) (by first | (simp; done) | (simp; omega))]
      have := cell_n1 (w.alloc (.cells #[.pointer (some ⟨pb, 0, none⟩)] 71)) (w.heap.size + 1) (by simp) (.int .i64 ls) 3
      exact this
  obtain ⟨o, ho⟩ : ∃ o, outC lsn L = o := ⟨_, rfl⟩
  rw [ho] at HI ⊢
  clear ho h
  go_enter Try.func44, Try.ntmps44
  go_wp2_with fail
  cases o with
  | ok P R =>
    refine (took_count pb P L R _ HS1.out _ _ HI).mono ?_
    rintro e w2 ⟨v, rfl, q1, q2, q3⟩
    have HP : Hid (WPost w pb (.int .i64 0) (.ok P R) (.returned v) w2) := ⟨v, rfl, q1, q2, grow_trans HG1.out q3⟩
    clear q1 q2 q3
    go_wp2
    go_ret
    exact HP.out
  | err k =>
    refine (gave_count pb L k _ HS1.out _ _ HI).mono ?_
    rintro e w2 ⟨rfl, q2, q3⟩
    have HP : Hid (WPost w pb (.int .i64 0) (.err k) (.returned (.int .i64 0)) w2) := ⟨rfl, q2, grow_trans HG1.out q3⟩
    clear q2 q3
    go_wp2
    go_ret
    exact HP.out
set_option maxRecDepth 100000 in
set_option maxHeartbeats 1000000 in
theorem rcount_failed (pb : Nat) (ls : Int) (f : Int) (w : World) (h : RS w pb [] f) (hf : (f == 0) = false) :
    Calls Try.prog 44 #[.pointer (some ⟨pb, 0, none⟩), .int .i64 ls] w (WPost w pb (.int .i64 0) (.err f)) := by
  have hmf : ∀ (fn : Fn) (first cap : Array Value) (w : World), (Instr.makeFunc fn first cap).run Try.prog w = .ok (.func fn first cap) w := fun _ _ _ _ => rfl
  have HB1 : Hid (Below w.heap.size w ((w.alloc (.cells #[.pointer (some ⟨pb, 0, none⟩)] 71)).alloc (.cells #[.int .i64 ls] 3))) := ((Below.refl _ _).alloc (Nat.le_refl _) _).alloc (by simp) _
  have HG1 : Hid (w.grownBy ((w.alloc (.cells #[.pointer (some ⟨pb, 0, none⟩)] 71)).alloc (.cells #[.int .i64 ls] 3)) (some pb)) := grow_trans (grow_alloc _ _ _) (grow_alloc _ _ _)
  have HS1 : Hid (RS ((w.alloc (.cells #[.pointer (some ⟨pb, 0, none⟩)] 71)).alloc (.cells #[.int .i64 ls] 3)) pb [] f) := h.below HB1.out
  clear h
  go_enter Try.func44, Try.ntmps44
  go_wp2_with fail
  refine (failed_count pb _ _ f _ HS1.out hf).mono ?_
  rintro e w2 ⟨rfl, q2, q3⟩
  have HP : Hid (WPost w pb (.int .i64 0) (.err f) (.returned (.int .i64 0)) w2) := ⟨rfl, q2, grow_trans HG1.out q3⟩
  clear q2 q3
  go_wp2
  go_ret
  exact HP.out
end Go.Proofs.Ythcidcfaodjbjaa
