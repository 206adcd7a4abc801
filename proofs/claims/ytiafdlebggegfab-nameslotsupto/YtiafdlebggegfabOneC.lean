/- What a list of names with one more is made of. -/
import Derived.Test.YtiafdlebggegfabOneB
namespace Go.Proofs.Ytiafdlebggegfab
open Go.RowKit Go.Maps Go.WideMaps
set_option linter.unusedVariables false

theorem add_block (g j : Nat) : ((⟨g, 0, none⟩ : Addr).add j).block = g := by
  simp [Addr.add]
  split <;> rfl
theorem add_off (g j : Nat) : (⟨g, 0, none⟩ : Addr).add j = ⟨g, j, none⟩ := by
  cases j with
  | zero => rfl
  | succ n => simp [Addr.add]
theorem one_es (w : World) (s : ByteArray) : ∀ j u, [Value.string s][j]? = some u → ((w.alloc (.cells #[] 9)).alloc (.cells #[.string s] 9)).drew.cell? ((⟨w.heap.size + 1, 0, none⟩ : Addr).add j) = some u := by
  have := cell_one_new (w.alloc (.cells #[] 9)) (.string s) 9
  simpa using this
theorem one_se (w : World) (s : ByteArray) : ∀ j u, [Value.string s][j]? = some u → ((w.alloc (.cells #[.string s] 9)).alloc (.cells #[] 9)).drew.cell? ((⟨w.heap.size, 0, none⟩ : Addr).add j) = some u := by
  intro j u h
  have h1 := cell_one_new w (.string s) 9 j u h
  refine (World.cell?_of_block (w := w.alloc (.cells #[.string s] 9)) (a := (⟨w.heap.size, 0, none⟩ : Addr).add j) ?_).trans h1
  rw [add_block]
  exact Below.heap_alloc _ _ _ (by simp)
theorem owns_drew {w : World} {base : Nat} {e : TypeId} {size : Nat} {v : Value} {n : Nat} {xs : List Value} (h : w.ownsRow base e size v n xs) : w.drew.ownsRow base e size v n xs := h
theorem one_kept {w w' : World} {g g0 n c : Nat} {s : ByteArray} (hg : w.grownBy w' (Value.slice (some ⟨g0, 0, none⟩) n c).ownBlock) (hlt : g < w.heap.size) (hne : g ≠ g0) (h : ∀ j u, [Value.string s][j]? = some u → w.cell? ((⟨g, 0, none⟩ : Addr).add j) = some u) : ∀ j u, [Value.string s][j]? = some u → w'.cell? ((⟨g, 0, none⟩ : Addr).add j) = some u := by
  intro j u hu
  refine (World.cell?_of_block (w := w) (a := (⟨g, 0, none⟩ : Addr).add j) ?_).trans (h j u hu)
  rw [add_block]
  exact hg.block g hlt (fun e => hne (by injection e))
theorem good_var {th : List ByteArray} {out : List Int} {most : Int} {s : ByteArray} (hg : Good ⟨tabOf th, out, most⟩) (hf : find (tabOf th) s.data.toList = none) (hl : th.length < 8) (o : List Int) (m : Int) (h0 : 0 ≤ m) (h1 : m ≤ 8) : Good ⟨tabOf (th ++ [s]), o, m⟩ := by
  have hlen : (tabOf (th ++ [s])).length = th.length + 1 + 3 := by rw [tabOf_len]; simp
  have e : ownS 0 1 s 0 ⟨tabOf th, out, most⟩ = .ok ⟨tabOf th ++ [(s.data.toList, ((tabOf th).length : Int))], out ++ [((tabOf th).length : Int)], max most (((tabOf th).length : Int) - 3 + 1)⟩ := by
    unfold ownS
    rw [if_pos rfl]
    show (match find (tabOf th) s.data.toList with | some _ => _ | none => _) = _
    rw [hf]
    show (if 11 ≤ (tabOf th).length then _ else _) = _
    rw [if_neg (by rw [tabOf_len]; omega)]
  have g := (ownS_good hg e).1
  refine ⟨?_, by show 3 ≤ (tabOf (th ++ [s])).length; omega, by show (tabOf (th ++ [s])).length ≤ 11; omega, h0, h1⟩
  show ((tabOf (th ++ [s])).map fun x => x.1).Nodup
  rw [tabOf_snoc]
  exact g.nd
end Go.Proofs.Ytiafdlebggegfab
