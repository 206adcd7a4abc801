/- What the document's Lines answers: a text's lines. -/
import Derived.Test.YthcidcfaodjbjabDoorPush
import Derived.Test.YthcidcfaodjbjabDoorParP
import Derived.Maps.AppendAt
namespace Go.Proofs.YthcidcfaodjbjabDoor
open Go.RowKit Go.Maps
set_option linter.unusedVariables false

/-- texts of the call's own -/
def Strs (w : World) (base : Nat) (v : Value) (l : List ByteArray) : Prop := w.ownsRow base 9 1 v l.length (l.map fun x => Value.string x)
theorem Strs.own {w : World} {base : Nat} {v : Value} {l : List ByteArray} (h : Strs w base v l) : ∀ k, v.ownBlock = some k → base ≤ k ∧ k < w.heap.size := World.ownsRow.lt h
theorem Strs.keep {w w' : World} {base : Nat} {v : Value} {l : List ByteArray} (h : Strs w base v l) (hb : ∀ k, v.ownBlock = some k → w'.heap[k]? = w.heap[k]?) : Strs w' base v l := by
  obtain ⟨h1, h2⟩ := h
  refine ⟨h1, ?_⟩
  rcases h2 with h2 | ⟨g, cap, cur, e1, e2, e3, e4⟩
  · exact Or.inl h2
  · refine Or.inr ⟨g, cap, cur, e1, e2, ?_, e4⟩
    rw [hb g (by rw [e1]; rfl)]; exact e3
theorem Strs.form {w : World} {base : Nat} {v : Value} {l : List ByteArray} (h : Strs w base v l) : ∃ a c, v = .slice a l.length c := by
  rcases h.2 with ⟨h, h0⟩ | ⟨g, cap, _, h, _⟩
  · exact ⟨none, 0, by rw [h0]; exact h⟩
  · exact ⟨_, _, h⟩
theorem Strs.nil (w : World) (base : Nat) : Strs w base (.slice none 0 0) [] := ⟨rfl, Or.inl ⟨rfl, rfl⟩⟩
theorem Strs.below {w w' : World} {base : Nat} {v : Value} {l : List ByteArray} (h : Strs w base v l) (hb : Below w.heap.size w w') : Strs w' base v l := h.keep (fun k hk => hb.block k (h.own k hk).2)
theorem strs_one (l : List ByteArray) : ∀ u ∈ (l.map fun x => Value.string x), u.oneCell' = true := by
  intro u hu
  obtain ⟨_, _, rfl⟩ := List.mem_map.1 hu
  rfl
theorem info9 : (Tryd.prog.info? 9).map (fun i => (i.zero, i.size, i.bytes)) = some (some (.string ⟨#[]⟩), 1, 16) := by kernel_rfl
theorem one_new (w : World) (v : Value) (t : TypeId) : ∀ j u, [v][j]? = some u → (w.alloc (.cells #[v] t)).cell? ((⟨w.heap.size, 0, none⟩ : Addr).add j) = some u := by
  have hg : (w.alloc (.cells #[v] t)).heap[w.heap.size]? = some (.cells ([v] : List Value).toArray t (0, 0)) := heap_alloc_new _ _
  exact row_at (l := [v]) hg

theorem seg_next (l : List UInt8) (f k : Nat) (hf : f ≤ k) (hk : k < l.length) : (l.drop f).take (k + 1 - f) = (l.drop f).take (k - f) ++ [l[k]] := by
  have h1 : k + 1 - f = k - f + 1 := by omega
  have h2 : k - f < (l.drop f).length := by simp; omega
  rw [h1, List.take_succ_eq_append_getElem h2]
  congr 2
  rw [List.getElem_drop]
  congr 1; omega
theorem drop_seg (l : List UInt8) (f k : Nat) (hf : f ≤ k) (hk : k < l.length) : l.drop f = (l.drop f).take (k - f) ++ l[k] :: l.drop (k + 1) := by
  have h2 : k - f < (l.drop f).length := by simp; omega
  conv => lhs; rw [← List.take_append_drop (k - f) (l.drop f)]
  rw [List.drop_drop, show f + (k - f) = k by omega, List.drop_eq_getElem_cons hk]
/-- what Lines answers -/
def LnP (w : World) (L : List (List UInt8)) (e : Ending) (w' : World) : Prop :=
  ∃ (v : Value) (P : List ByteArray), P.map (·.data.toList) = L ∧ e = .returned v ∧ Strs w' w.heap.size v P ∧ Below w.heap.size w w'
inductive LI (w : World) (s : ByteArray) (t fr i : Value) (wr : World) : Prop
  | mk (k f : Nat) (names : List ByteArray) (da : Option Addr) (dc : Nat) (hk : k ≤ s.size) (hf : f ≤ k) (hi : i = .int .i64 k) (hfr : fr = .int .i64 f) (ht : t = .slice da names.length dc) (hn : names.length ≤ k)
      (hl : linesL s.data.toList = names.map (·.data.toList) ++ linesL (s.data.toList.drop f)) (hc : ((s.data.toList.drop f).take (k - f)).count 10 = 0) (hs : Strs wr w.heap.size (.slice da names.length dc) names) (hb : Below w.heap.size w wr) : LI w s t fr i wr

set_option maxRecDepth 100000 in
set_option maxHeartbeats 2000000 in
theorem rlines_any (s : ByteArray) (hs : s.size ≤ 8192) (w : World) : Calls Tryd.prog 26 #[.string s] w (LnP w (linesL s.data.toList)) := by
  obtain ⟨i0, hi, hz0, hz1, hz2⟩ := info_parts info9
  obtain ⟨post, hpost⟩ : ∃ q : Ending → World → Prop, q = LnP w (linesL s.data.toList) := ⟨_, rfl⟩
  have HPO : Hid (∀ v w' P, P.map (·.data.toList) = linesL s.data.toList → Strs w' w.heap.size v P → Below w.heap.size w w' → post (.returned v) w') := by
    rw [hpost]
    intro v w' P h1 h2 h3
    exact ⟨v, P, h1, rfl, h2, h3⟩
  rw [← hpost]
  clear hpost
  have hsl : s.data.toList.length = s.size := by simp
  have HSL : Hid (s.data.toList.length = s.size) := hsl
  clear hsl
  go_enter Tryd.func26, Tryd.ntmps26
  go_wp2
  go_loopw [3, 4, 5] (fun t f i wr => LI w s t f i wr) (fun _ _ i _ => s.size - (intOf i).toNat)
  case atStart => exact LI.mk 0 0 [] none 0 (Nat.zero_le _) (Nat.le_refl _) rfl rfl rfl (Nat.le_refl _) rfl (by simp) (Strs.nil _ _) (Below.refl _ _)
  case round =>
    obtain ⟨k, f, names, da, dc, hk, hf, rfl, rfl, rfl, hn, hl, hc, hst, hb⟩ := hrel
    have HL : Hid (linesL s.data.toList = names.map (·.data.toList) ++ linesL (s.data.toList.drop f)) := hl
    have HC : Hid (((s.data.toList.drop f).take (k - f)).count 10 = 0) := hc
    have HS : Hid (Strs wr w.heap.size (.slice da names.length dc) names) := hst
    have HB : Hid (Below w.heap.size w wr) := hb
    have hws := hb.size
    clear hl hc hst hb
    by_cases hlt : k < s.size
    · have hkl : k < s.data.toList.length := by rw [HSL.out]; exact hlt
      have hkb : s.data.toList[k] = s[k] := rfl
      by_cases h10 : s[k] = 10
      · have h10' : ((s[k].toNat : Int)) = 10 := by rw [h10]; rfl
        obtain ⟨T, hT⟩ : ∃ T, s.extract f k = T := ⟨_, rfl⟩
        have HT : Hid (T.data.toList = (s.data.toList.drop f).take (k - f)) := by
          show _ = _
          rw [← hT, ByteArray.data_extract, Array.toList_extract, List.extract_eq_take_drop]
        have HL2 : Hid (linesL s.data.toList = (names ++ [T]).map (·.data.toList) ++ linesL (s.data.toList.drop (k + 1))) := by
          show _ = _
          rw [HL.out, drop_seg _ f k hf hkl, hkb, h10, linesL_at _ _ HC.out, List.map_append, List.append_assoc, ← HT.out]
          rfl
        have HSA : Hid (∀ o, (wr.alloc o).ownsRow w.heap.size 9 1 (.slice da names.length dc) names.length (names.map fun x => Value.string x)) := fun o => World.ownsRow.alloc HS.out o
        have HBA : Hid (∀ o, Below w.heap.size w (wr.alloc o)) := fun o => HB.out.alloc hws o
        clear h10 hkb
        go_wp2_with (at_builtin; refine wpList_append_own_at _ rfl _ _ 47 rfl w.heap.size 9 i0 (.string ⟨#[]⟩) 1 16 Tryd.underlying47 hi hz0 hz1 hz2 rfl (by decide) _ _ _ rfl (HSA.out _) ⟨wr.heap.size, 0, none⟩ 1 1 [.string T] rfl rfl ?c1 (strs_one [T]) ?c3 ?c4 ?c5 ?_)
        case c1 => exact one_new _ _ _
        case c3 => unfold maxLen; omega
        case c4 => omega
        case c5 => simp; omega
        intro v' w3 hown' hgrow hnil hloc
        have HB3 : Hid (Below w.heap.size w w3) := (HBA.out _).grown hgrow (by simp; omega) (fun k hk => (HS.out.own k hk).1)
        have HS3 : Hid (Strs w3 w.heap.size v' (names ++ [T])) := by show w3.ownsRow _ _ _ _ _ _; simpa using hown'
        obtain ⟨da', dc', hv'⟩ := HS3.out.form
        subst hv'
        clear hown' hgrow hnil hloc HSA HBA hT
        go_wp2
        go_roundw
        case rel => exact LI.mk (k + 1) (k + 1) (names ++ [T]) da' dc' (by omega) (Nat.le_refl _) (by go_num) (by go_num) rfl (by simp; omega) HL2.out (by simp) HS3.out HB3.out
        case measure => simp [intOf]; omega
      · have h10' : ((s[k].toNat : Int) == 10) = false := by
          have : s[k].toNat ≠ 10 := fun e => h10 (UInt8.toNat_inj.1 e)
          simp; omega
        have HC2 : Hid (((s.data.toList.drop f).take (k + 1 - f)).count 10 = 0) := by
          show _ = _
          rw [seg_next _ f k hf hkl, List.count_append, HC.out, hkb]
          simp [h10]
        clear h10 hkb
        go_wp2
        go_roundw
        case rel => exact LI.mk (k + 1) f names da dc (by omega) (by omega) (by go_num) rfl rfl (by omega) HL.out HC2.out HS.out HB.out
        case measure => simp [intOf]; omega
    · have hke : k = s.size := by omega
      subst hke
      obtain ⟨T, hT⟩ : ∃ T, s.extract f s.size = T := ⟨_, rfl⟩
      have HT : Hid (T.data.toList = s.data.toList.drop f) := by
        show _ = _
        rw [← hT, ByteArray.data_extract, Array.toList_extract, List.extract_eq_take_drop, List.take_of_length_le (by simp)]
      have HL2 : Hid ((names ++ [T]).map (·.data.toList) = linesL s.data.toList) := by
        show _ = _
        have hc := HC.out
        rw [List.take_of_length_le (by simp)] at hc
        rw [HL.out, linesL_none _ hc, List.map_append, ← HT.out]
        rfl
      have HSA : Hid (∀ o, (wr.alloc o).ownsRow w.heap.size 9 1 (.slice da names.length dc) names.length (names.map fun x => Value.string x)) := fun o => World.ownsRow.alloc HS.out o
      have HBA : Hid (∀ o, Below w.heap.size w (wr.alloc o)) := fun o => HB.out.alloc hws o
      go_wp2_with (at_builtin; refine wpList_append_own_at _ rfl _ _ 47 rfl w.heap.size 9 i0 (.string ⟨#[]⟩) 1 16 Tryd.underlying47 hi hz0 hz1 hz2 rfl (by decide) _ _ _ rfl (HSA.out _) ⟨wr.heap.size, 0, none⟩ 1 1 [.string T] rfl rfl ?c1 (strs_one [T]) ?c3 ?c4 ?c5 ?_)
      case c1 => exact one_new _ _ _
      case c3 => unfold maxLen; omega
      case c4 => omega
      case c5 => simp; omega
      intro v' w3 hown' hgrow hnil hloc
      have HB3 : Hid (Below w.heap.size w w3) := (HBA.out _).grown hgrow (by simp; omega) (fun k hk => (HS.out.own k hk).1)
      have HS3 : Hid (Strs w3 w.heap.size v' (names ++ [T])) := by show w3.ownsRow _ _ _ _ _ _; simpa using hown'
      clear hown' hgrow hnil hloc HSA HBA hT
      go_wp2
      first | exact HPO.out _ _ _ HL2.out HS3.out HB3.out | (go_ret; exact HPO.out _ _ _ HL2.out HS3.out HB3.out)
end Go.Proofs.YthcidcfaodjbjabDoor
