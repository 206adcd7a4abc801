/- What is read of a log. -/
import Derived.Test.YtongeppdaeekeaaAtC
namespace Go.Proofs.Ytongeppdaeekeaa
open Go.RowKit Go.Maps
set_option linter.unusedVariables false

def isR (at' : Int) : Int × Int × Int → Bool := fun z => z.1 == at'
def isC (at' : Int) : Int × Int → Bool := fun z => z.1 == at'
theorem FndQ.under {α : Type} {k : Nat} {v : Value} {l : List α} {p : α → Bool} {w V : World} {e : Ending} {w' : World} (hV : Below w.heap.size w V) (h : FndQ k v l p V e w') : FndQ k v l p w e w' := ⟨hV.trans (h.1.mono hV.size), h.2⟩
theorem FndQ.ret {α : Type} {k : Nat} {v : Value} {l : List α} {p : α → Bool} {w : World} {e : Ending} {w' : World} (h : FndQ k v l p w e w') : ∃ a, e = .returned (.pointer a) := by
  rcases h.2 with ⟨_, h⟩ | ⟨g, c, _, _, h⟩
  · exact ⟨_, h⟩
  · exact ⟨_, h⟩
section
variable {w w' V w4 : World} {lab lab' : Nat → Nat} {c lb hb bo bn : Nat} {rv wv ov : Value} {many : Int} {s : Lg}
theorem LX.lens (h : LX w lab c lb hb bo bn rv wv ov many s) : s.Rs.length ≤ 64 ∧ s.Ws.length ≤ 64 ∧ s.Os.length ≤ 64 := by
  have := h.ok.lr; have := h.ok.lw; have := h.ok.lo; have := h.ok.r; have := h.ok.w; have := h.ok.o
  omega
set_option maxRecDepth 100000 in
set_option maxHeartbeats 2000000 in
theorem read_any (h : LX w lab c lb hb bo bn rv wv ov many s) (at' : Int) : Calls Try.prog 67 #[.pointer (some ⟨lb, 0, none⟩), .int .i64 at'] w (FndQ 3 rv s.Rs (isR at') w) := by
  have hl := h.lens
  have HK : Hid (∀ A, A = Obj.cells #[.int .i64 at'] 3 → Calls Try.prog 68 #[rv, .func (.func 92) #[] #[.pointer (some ⟨w.heap.size, 0, none⟩)]] (w.alloc A) (FndQ 3 rv s.Rs (isR at') w)) := by
    rintro A rfl
    refine (findR_any w.heap.size (isR at') rv s.Rs _ (h.rr.below (bl1 w _)) (by omega) fun W hW z hz => ?_).mono fun e w' hq => hq.under (bl1 w _)
    exact cloR_any w.heap.size z.1 z.2.1 z.2.2 at' W ((hW.cell (p := ⟨w.heap.size, 0, none⟩) (by simp)).trans (by simp))
  have c3 := fun A : Obj => ((h.below (bl1 w A)).cell).2.2.2.1
  have hmk : ∀ (fn : Fn) (first cap : Array Value) (w : World), (Instr.makeFunc fn first cap).run Try.prog w = .ok (.func fn first cap) w := fun _ _ _ _ => rfl
  obtain ⟨a, k, e⟩ := h.rr.sl
  subst e
  have HR : Hid (∀ e w', FndQ 3 (.slice a s.Rs.length k) s.Rs (isR at') w e w' → ∃ a, e = .returned (.pointer a)) := fun e w' h => h.ret
  clear h
  generalize s.Rs.length = n at *
  generalize FndQ 3 _ s.Rs (isR at') w = P at *
  go_enter Try.func67, Try.ntmps67
  go_wp2_with fail
  refine (HK.out _ rfl).mono ?_
  rintro e w2 hq
  obtain ⟨v, rfl⟩ := HR.out _ _ hq
  have HQ : Hid (P (.returned (.pointer v)) w2) := hq
  go_wp2
  first | exact HQ.out | (go_ret; exact HQ.out)
set_option maxRecDepth 100000 in
set_option maxHeartbeats 2000000 in
theorem written_any (h : LX w lab c lb hb bo bn rv wv ov many s) (at' : Int) : Calls Try.prog 86 #[.pointer (some ⟨lb, 0, none⟩), .int .i64 at'] w (FndQ 2 wv s.Ws (isC at') w) := by
  have hl := h.lens
  have HK : Hid (∀ A, A = Obj.cells #[.int .i64 at'] 3 → Calls Try.prog 100 #[wv, .func (.func 101) #[] #[.pointer (some ⟨w.heap.size, 0, none⟩)]] (w.alloc A) (FndQ 2 wv s.Ws (isC at') w)) := by
    rintro A rfl
    refine (findC_any w.heap.size (isC at') wv s.Ws _ (h.ww.below (bl1 w _)) (by omega) fun W hW z hz => ?_).mono fun e w' hq => hq.under (bl1 w _)
    exact cloC_any w.heap.size z.1 z.2 at' W ((hW.cell (p := ⟨w.heap.size, 0, none⟩) (by simp)).trans (by simp))
  have c3 := fun A : Obj => ((h.below (bl1 w A)).cell).2.2.2.2.1
  have hmk : ∀ (fn : Fn) (first cap : Array Value) (w : World), (Instr.makeFunc fn first cap).run Try.prog w = .ok (.func fn first cap) w := fun _ _ _ _ => rfl
  obtain ⟨a, k, e⟩ := h.ww.sl
  subst e
  have HR : Hid (∀ e w', FndQ 2 (.slice a s.Ws.length k) s.Ws (isC at') w e w' → ∃ a, e = .returned (.pointer a)) := fun e w' h => h.ret
  clear h
  generalize s.Ws.length = n at *
  generalize FndQ 2 _ s.Ws (isC at') w = P at *
  go_enter Try.func86, Try.ntmps86
  go_wp2_with fail
  refine (HK.out _ rfl).mono ?_
  rintro e w2 hq
  obtain ⟨v, rfl⟩ := HR.out _ _ hq
  have HQ : Hid (P (.returned (.pointer v)) w2) := hq
  go_wp2
  first | exact HQ.out | (go_ret; exact HQ.out)
/-- does a log hold a memory? -/
def holdsL (l : List (Int × Int × Int)) (G : List Int) : Bool := l.all (hlds G)
theorem holds_idx (l : List (Int × Int × Int)) (G : List Int) : (l.findIdx (fun z => !hlds G z) = l.length → holdsL l G = true) ∧ (l.findIdx (fun z => !hlds G z) < l.length → holdsL l G = false) := by
  constructor
  · intro h
    rw [List.findIdx_eq_length] at h
    unfold holdsL
    rw [List.all_eq_true]
    intro z hz
    simpa using h z hz
  · intro h
    have := List.findIdx_getElem (w := h)
    unfold holdsL
    rw [List.all_eq_false]
    exact ⟨_, List.getElem_mem h, by simpa using this⟩
set_option maxRecDepth 100000 in
set_option maxHeartbeats 2000000 in
theorem holds_any (h : LX w lab c lb hb bo bn rv wv ov many s) (v : Value) (G : List Int) (hv : GSl w v G) : Calls Try.prog 23 #[.pointer (some ⟨lb, 0, none⟩), v] w (AN w (.bool (holdsL s.Rs G))) := by
  have hl := h.lens
  have HK : Hid (∀ A, A = Obj.cells #[v] 26 → Calls Try.prog 68 #[rv, .func (.func 69) #[] #[.pointer (some ⟨w.heap.size, 0, none⟩)]] (w.alloc A) (FndQ 3 rv s.Rs (fun z => !hlds G z) w)) := by
    rintro A rfl
    refine (findH_any w.heap.size (fun z => !hlds G z) rv s.Rs _ (h.rr.below (bl1 w _)) (by omega) fun W hW z hz => ?_).mono fun e w' hq => hq.under (bl1 w _)
    exact cloH_any w.heap.size z.1 z.2.1 z.2.2 G v W ((hW.cell (p := ⟨w.heap.size, 0, none⟩) (by simp)).trans (by obtain ⟨a, k, b, o, rfl, _⟩ := hv; simp)) (hv.below ((bl1 w _).trans (hW.mono (by simp))))
  have c3 := fun A : Obj => ((h.below (bl1 w A)).cell).2.2.2.1
  have hmk : ∀ (fn : Fn) (first cap : Array Value) (w : World), (Instr.makeFunc fn first cap).run Try.prog w = .ok (.func fn first cap) w := fun _ _ _ _ => rfl
  obtain ⟨a, k, e⟩ := h.rr.sl
  subst e
  obtain ⟨ga, gc, gb, go', rfl, hv2⟩ := hv
  clear hv2
  have H1 : Hid (∀ e w', FndQ 3 (.slice a s.Rs.length k) s.Rs (fun z => !hlds G z) w e w' → (∃ p, e = .returned (.pointer p) ∧ AN w (.bool (holdsL s.Rs G)) (.returned (.bool p.isNone)) w')) := fun e w' h => by
    rcases h.2 with ⟨h1, h2⟩ | ⟨g, c, _, h1, h2⟩
    · exact ⟨_, h2, by rw [(holds_idx _ _).1 h1]; rfl, h.1⟩
    · exact ⟨_, h2, by rw [(holds_idx _ _).2 h1]; rfl, h.1⟩
  clear h hl
  generalize s.Rs.length = n at *
  generalize G.length = gn at *
  generalize FndQ 3 _ s.Rs (fun z => !hlds G z) w = P at *
  generalize AN w (.bool (holdsL s.Rs G)) = Q at *
  go_enter Try.func23, Try.ntmps23
  go_wp2_with fail
  refine (HK.out _ rfl).mono ?_
  rintro e w2 hq
  obtain ⟨p, rfl, hp⟩ := H1.out _ _ hq
  have HQ : Hid (Q (.returned (.bool p.isNone)) w2) := hp
  clear hq hp
  cases p with
  | none =>
    go_wp2
    first | exact HQ.out | (go_ret; exact HQ.out)
  | some p =>
    go_wp2
    first | exact HQ.out | (go_ret; exact HQ.out)
end
end Go.Proofs.Ytongeppdaeekeaa
