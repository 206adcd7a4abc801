/- What the document's calls over a statement and over a block promise each other. -/
import Derived.Test.YtiafdlebggegfabNames
import Derived.Test.YtiafdlebggegfabNew
import Derived.Deep.RegionHeldLaw
import Derived.Deep.AppendLies
namespace Go.Proofs.Ytiafdlebggegfab
open Go.RowKit Go.Maps Go.WideMaps
set_option linter.unusedVariables false

theorem results_tmp4 {fn : Func} {t u v x : Tmp} (h : fn.results = #[.tmp t, .tmp u, .tmp v, .tmp x]) (tmps : Array Value) (P : Program) (w : World) :
    (results fn tmps).run P w = .ok (.tuple #[tmps.getD t undef, tmps.getD u undef, tmps.getD v undef, tmps.getD x undef]) w := by
  simp [results, h]
theorem GO.pushed {w w1 : World} {v v' : Value} {o : Obj} (hg : (w.alloc o).grownBy w1 v.ownBlock) (hloc : v'.ownBlock = v.ownBlock ∨ v'.ownBlock = some (w.heap.size + 1)) : GO w w1 v v' := by
  have hs : (w.alloc o).heap.size = w.heap.size + 1 := by simp
  have := hg.size
  refine ⟨hg.os, hg.tape, hg.output, by omega, fun k hk hne => (hg.block k (by omega) hne).trans (Below.heap_alloc _ _ _ hk), fun k hk => ?_⟩
  rcases hloc with e | e
  · exact Or.inl (e ▸ hk)
  · rw [e] at hk
    cases hk
    right; omega
/-- a block beside the registers stands -/
def Beside (w0 : World) (g : Nat) (w : World) (ov : Value) : Prop := w.heap[g]? = w0.heap[g]? ∧ g < w.heap.size ∧ ov.ownBlock ≠ some g
theorem Beside.go {w0 w w' : World} {g : Nat} {ov ov' : Value} (h : Beside w0 g w ov) (f : GO w w' ov ov') : Beside w0 g w' ov' := by
  obtain ⟨h1, h2, h3⟩ := h
  refine ⟨(f.block g h2 (fun e => h3 e.symm)).trans h1, Nat.lt_of_lt_of_le h2 f.size, fun e => ?_⟩
  rcases f.loc g e with h | h
  · exact h3 h
  · omega

/-- the names that are there: none are nil -/
def THd (w : World) (v ov : Value) (l : List ByteArray) : Prop := TRd w v ov l ∧ (l.length = 0 → v = .slice none 0 0)
theorem THd.go {w w' : World} {v ov ov' : Value} {l : List ByteArray} (h : THd w v ov l) (g : GO w w' ov ov') : THd w' v ov' l := ⟨h.1.go g, h.2⟩
theorem step_append_none {P : Program} {w : World} {ops : Array Oper} {o : Oper} {a : Act} {K : Act → World → Prop} {Q : Exit → Act → World → Prop} {E : Prop} (hgd : o.guard = none) (s x : Operand) (t : TypeId)
    (ho : o.op = .call { callee := .builtin .append, args := #[s, x], argTypes := #[t, t] })
    (base : Nat) (e : TypeId) (i : TypeInfo) (size : Nat) (ht : P.underlying t = some (.slice e)) (hi : P.info? e = some i)
    (v : Value) (n : Nat) (xs : List Value) (hs : a.eval s = v) (hown : w.ownsRow base e size v n xs) (hx : a.eval x = .slice none 0 0)
    (h : K (a.put o.dst v) w) : if Region.wanted o (yielded ops a.tmps) = true then Oper.wp P o a w K Q else E := by
  have hw : Region.wanted o (yielded ops a.tmps) = true := by simp [Region.wanted, hgd]
  rw [if_pos hw]
  have hrun := run_append_owned_none (P := P) (w := w) base t o.type e i size ht hi v n xs hown
  unfold Oper.wp
  simp [execOp, ho, resolve, invoke, builtin, hs, hx, hrun, Result.andThen]
  exact h
theorem owns_empty (w : World) : (w.alloc (.cells #[] 9)).ownsRow w.heap.size 9 1 (.slice (some ⟨w.heap.size, 0, none⟩) 0 0) 0 [] :=
  ⟨rfl, Or.inr ⟨w.heap.size, 0, #[], rfl, Nat.le_refl _, heap_alloc_new w _, Nat.le_refl _, Nat.zero_le _, rfl, rfl⟩⟩
theorem ownsRow_mono {w : World} {base base' : Nat} {e : TypeId} {size : Nat} {v : Value} {n : Nat} {xs : List Value} (h : w.ownsRow base e size v n xs) (hb : base' ≤ base) : w.ownsRow base' e size v n xs := by
  obtain ⟨h1, h2⟩ := h
  refine ⟨h1, ?_⟩
  rcases h2 with h2 | ⟨g, cap, cur, e1, e2, e3⟩
  · exact Or.inl h2
  · exact Or.inr ⟨g, cap, cur, e1, by omega, e3⟩

def OPost (base : Nat) (w : World) (v : Value) : Res → Ending → World → Prop
  | .err x, e, w' => (∃ ta tn tc m, e = .returned (.tuple #[.slice none 0 0, .slice ta tn tc, .int .i64 m, .int .i64 x])) ∧ (x == 0) = false ∧ ∃ v', GO w w' v v'
  | .ok st, e, w' => ∃ th ta tc oa oc, e = .returned (.tuple #[.slice oa st.out.length oc, .slice ta th.length tc, .int .i64 st.most, .int .i64 0]) ∧ st.T = tabOf th ∧ Ints w' base (.slice oa st.out.length oc) st.out ∧ THd w' (.slice ta th.length tc) (.slice oa st.out.length oc) th ∧ GO w w' v (.slice oa st.out.length oc)
theorem OPost.pre {base : Nat} {w w1 : World} {v v1 : Value} {r : Res} {e : Ending} {w' : World} (h : OPost base w1 v1 r e w') (k : GO w w1 v v1) : OPost base w v r e w' := by
  cases r with
  | err x => obtain ⟨h1, h2, v', h3⟩ := h; exact ⟨h1, h2, v', k.trans h3⟩
  | ok st => obtain ⟨th, ta, tc, oa, oc, h1, h2, h3, h4, h5⟩ := h; exact ⟨th, ta, tc, oa, oc, h1, h2, h3, h4, k.trans h5⟩

def RBlockC (W : World) (base : Nat) (cc : Int) (l : SL) : Prop := ∀ (va : Value) (w : World) (th : List ByteArray) (ta : Option Addr) (tc : Nat) (oa : Option Addr) (oc : Nat) (out : List Int) (most : Int), SSl W va l → THd w (.slice ta th.length tc) (.slice oa out.length oc) th → Ints w base (.slice oa out.length oc) out → base ≤ w.heap.size → Good ⟨tabOf th, out, most⟩ → Below W.heap.size W w → out.length + l.cnt ≤ 1000000000 →
  Calls Try.prog 18 #[va, .slice ta th.length tc, .int .i64 cc, .slice oa out.length oc, .int .i64 most] w (OPost base w (.slice oa out.length oc) (runL (min cc 4) l ⟨tabOf th, out, most⟩))

theorem Ints.belowW {W w w' : World} {base : Nat} {v v' : Value} {l : List Int} (hW : W.heap.size ≤ base) (h : Ints w base v l) (g : GO w w' v v') (hb : Below W.heap.size W w) : Below W.heap.size W w' :=
  hb.trans (g.below hb.size (fun k hk => Nat.le_trans hW (h.own k hk).1))
theorem runS_names (cells k : Int) (s : ByteArray) (c : Int) (a : EL) (b e : SL) (st : Sta) : runS cells k s c a b e st = ((((namesR st (namesS k s a)).andThen (ownR cells k s c)).andThen (fun s1 => (runL cells b s1).shut s1.T)).andThen (fun s2 => (runL cells e s2).shut s2.T)) := by
  unfold runS
  rw [own_names]
theorem find_pos {th : List ByteArray} {s : ByteArray} {r : Int} (h : findI th s = r) (h0 : ¬ r < 0) : find (tabOf th) s.data.toList = some r := by
  rw [(findI_find th s).1, h, if_neg h0]
theorem find_neg {th : List ByteArray} {s : ByteArray} (h : findI th s = -1) : find (tabOf th) s.data.toList = none := by
  rw [(findI_find th s).1, h, if_pos (by decide)]
theorem find_mem {T : Tab} {s : List UInt8} {r : Int} (h : find T s = some r) : ∃ x ∈ T, x.2 = r := by
  unfold find at h
  rw [Option.map_eq_some_iff] at h
  obtain ⟨x, h1, h2⟩ := h
  exact ⟨x, List.mem_of_find?_eq_some h1, h2⟩
theorem tabFrom_le : ∀ (th : List ByteArray) (i : Int), ∀ x ∈ tabFrom i th, x.2 < i + th.length := by
  intro th
  induction th with
  | nil => intro i x hx; cases hx
  | cons t r ih =>
    intro i x hx
    simp only [tabFrom, List.mem_cons] at hx
    rcases hx with rfl | hx
    · simp only [List.length_cons]; omega
    · have := ih (i + 1) x hx
      simp only [List.length_cons]; omega
theorem findI_le (th : List ByteArray) (s : ByteArray) : findI th s < 3 + th.length := by
  by_cases h : findI th s < 0
  · omega
  · obtain ⟨x, hx, e⟩ := find_mem (find_pos rfl h)
    rw [← e]
    unfold tabOf at hx
    simp only [List.mem_cons] at hx
    rcases hx with rfl | rfl | rfl | hx
    · show (0 : Int) < _; omega
    · show (1 : Int) < _; omega
    · show (2 : Int) < _; omega
    · exact tabFrom_le th 3 x hx
end Go.Proofs.Ytiafdlebggegfab
