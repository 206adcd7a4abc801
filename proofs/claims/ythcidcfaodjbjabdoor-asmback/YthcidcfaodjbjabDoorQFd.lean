/- What the document's find answers: the place of a text in a list. -/
import Derived.Test.YthcidcfaodjbjabDoorQLn
namespace Go.Proofs.YthcidcfaodjbjabDoor
open Go.RowKit Go.Maps
set_option linter.unusedVariables false

/-- the place of a text from a place on; below 0: nowhere -/
def findI (t : ByteArray) : List ByteArray → Nat → Int
  | [], _ => -1
  | x :: r, k => if x.toList = t.toList then (k : Int) else findI t r (k + 1)
theorem Strs.cases {w : World} {base : Nat} {v : Value} {l : List ByteArray} (h : Strs w base v l) : (v = .slice none 0 0 ∧ l = []) ∨ ∃ g cap, v = .slice (some ⟨g, 0, none⟩) l.length cap ∧ l.length ≤ cap ∧ g < w.heap.size ∧ (∀ j u, (l.map fun x => Value.string x)[j]? = some u → w.cell? ((⟨g, 0, none⟩ : Addr).add j) = some u) := by
  have hce := fun g => World.ownsRow.cells h (g := g)
  have hlt := World.ownsRow.lt h
  rcases h.2 with ⟨h1, h0⟩ | ⟨g, cap, cur, e1, e2, e3, e4, e5, _⟩
  · exact Or.inl ⟨h1, List.eq_nil_of_length_eq_zero h0⟩
  · exact Or.inr ⟨g, cap, e1, e4, (hlt g (by rw [e1]; rfl)).2, hce g (by rw [e1]; rfl)⟩
inductive FI (w : World) (t : ByteArray) (l : List ByteArray) (out : Int) (i : Value) (wr : World) : Prop
  | mk (k m : Nat) (hk : k ≤ l.length) (hi : i = .int .i64 k) (ho : findI t (l.drop k) k = out) (hw : wr = w.drewN m) : FI w t l out i wr

set_option maxRecDepth 100000 in
set_option maxHeartbeats 2000000 in
theorem rfind_any (base : Nat) (v : Value) (l : List ByteArray) (t : ByteArray) (hl : l.length ≤ 100000) (w : World) (h : Strs w base v l) : Calls Tryd.prog 28 #[v, .string t] w fun e w' => e = .returned (.int .i64 (findI t l 0)) ∧ ∃ m, w' = w.drewN m := by
  obtain ⟨out, hout⟩ : ∃ o, findI t l 0 = o := ⟨_, rfl⟩
  rw [hout]
  rcases h.cases with ⟨rfl, rfl⟩ | ⟨g, cap, rfl, hcap, hg, hc⟩
  · obtain rfl : (-1 : Int) = out := hout
    go_enter Tryd.func28, Tryd.ntmps28
    go_wp2
    go_loopw [5] (fun i wr => i = .int .i64 0 ∧ wr = w) (fun _ _ => 0)
    case atStart => exact ⟨rfl, rfl⟩
    case round =>
      obtain ⟨rfl, rfl⟩ := hrel
      go_wp2
      go_ret
      exact ⟨rfl, 0, rfl⟩
  · have HOUT : Hid (findI t (l.drop 0) 0 = out) := hout
    obtain ⟨N, hN⟩ : ∃ N, l.length = N := ⟨_, rfl⟩
    have HN : Hid (l.length = N) := hN
    rw [hN] at hl ⊢
    clear hout h
    go_enter Tryd.func28, Tryd.ntmps28
    go_wp2
    go_loopw [5] (fun i wr => FI w t l out i wr) (fun i _ => N - (intOf i).toNat)
    case atStart => exact FI.mk 0 0 (Nat.zero_le _) rfl HOUT.out rfl
    case round =>
      obtain ⟨k, m, hk, rfl, ho, rfl⟩ := hrel
      have HO : Hid (findI t (l.drop k) k = out) := ho
      have hkN : k ≤ N := by rw [← HN.out]; exact hk
      clear ho hk
      by_cases hlt : k < N
      · have hkl : k < l.length := by rw [HN.out]; exact hlt
        obtain ⟨x, hx⟩ : ∃ x, l[k] = x := ⟨_, rfl⟩
        have hcx : w.cell? ⟨g, k, none⟩ = some (.string x) := by
          have := hc k (.string x) (by rw [List.getElem?_map, List.getElem?_eq_getElem hkl, hx]; rfl)
          rw [addn, Nat.zero_add] at this
          exact this
        have HO2 : Hid ((if x.toList = t.toList then (k : Int) else findI t (l.drop (k + 1)) (k + 1)) = out) := by
          show _ = _
          rw [← HO.out, List.drop_eq_getElem_cons hkl, hx]; rfl
        clear HO hx
        by_cases he : x.toList = t.toList
        · have HO3 : Hid ((k : Int) = out) := by show _ = _; rw [← HO2.out, if_pos he]
          clear HO2
          go_wp2
          go_ret
          exact ⟨by rw [HO3.out]; rfl, m, rfl⟩
        · have he' : (x.toList == t.toList) = false := by simpa using he
          have HO3 : Hid (findI t (l.drop (k + 1)) (k + 1) = out) := by show _ = _; rw [← HO2.out, if_neg he]
          clear HO2
          go_wp2
          go_roundw
          case rel => exact FI.mk (k + 1) m (by omega) (by go_num) HO3.out rfl
          case measure => simp [intOf]; omega
      · have hke : k = N := by omega
        have HO3 : Hid ((-1 : Int) = out) := by
          show _ = _
          rw [← HO.out, List.drop_eq_nil_of_le (by rw [HN.out]; omega)]; rfl
        subst hke
        clear HO
        go_wp2
        go_ret
        exact ⟨by rw [HO3.out]; rfl, m, rfl⟩
end Go.Proofs.YthcidcfaodjbjabDoor
