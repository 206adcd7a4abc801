/- The document's names of an expression, from the left to the right. -/
import Derived.Test.YtiafdlebggegfabFind
import Derived.Test.YtiafdlebggegfabCount
import Derived.Laws.AppendOwnNone
namespace Go.Proofs.Ytiafdlebggegfab
open Go.RowKit Go.Maps Go.WideMaps
set_option linter.unusedVariables false

theorem Strs.mono {w : World} {base base' : Nat} {v : Value} {l : List ByteArray} (h : Strs w base v l) (hb : base' ≤ base) : Strs w base' v l := by
  obtain ⟨h1, h2⟩ := h
  refine ⟨h1, ?_⟩
  rcases h2 with h2 | ⟨g, cap, cur, e1, e2, e3⟩
  · exact Or.inl h2
  · exact Or.inr ⟨g, cap, cur, e1, by omega, e3⟩
theorem Strs.nil (w : World) (base : Nat) : Strs w base (.slice none 0 0) [] := ⟨rfl, Or.inl ⟨rfl, rfl⟩⟩
theorem Strs.below {w w' : World} {base : Nat} {v : Value} {l : List ByteArray} (h : Strs w base v l) (hb : Below w.heap.size w w') : Strs w' base v l := h.keep (fun k hk => hb.block k (h.own k hk).2)
/-- a row of strings that is nothing, or lies somewhere -/
theorem Strs.cases {w : World} {base : Nat} {v : Value} {l : List ByteArray} (h : Strs w base v l) : (v = .slice none 0 0 ∧ l = []) ∨ ∃ g cap, v = .slice (some ⟨g, 0, none⟩) l.length cap ∧ (∀ j u, (l.map fun x => Value.string x)[j]? = some u → w.cell? ((⟨g, 0, none⟩ : Addr).add j) = some u) := by
  have hce := fun g => World.ownsRow.cells h (g := g)
  rcases h.2 with ⟨h1, h0⟩ | ⟨g, cap, cur, e1, e2, e3, e4, e5, _⟩
  · exact Or.inl ⟨h1, List.eq_nil_of_length_eq_zero h0⟩
  · exact Or.inr ⟨g, cap, e1, hce g (by rw [e1]; rfl)⟩

def NPost (L : List ByteArray) (w : World) (e : Ending) (w' : World) : Prop := ∃ v, e = .returned v ∧ Strs w' w.heap.size v L ∧ Below w.heap.size w w'

set_option maxRecDepth 100000 in
set_option maxHeartbeats 1000000 in
theorem names_two (n : Int) (s : ByteArray) (p : Int) (ad : Option Addr) (m cap : Nat) (w : World) : Calls Try.prog 29 #[eV 2 n s p (.slice ad m cap)] w (NPost [s] w) := by
  have HBX : Hid (∀ o o', Below w.heap.size w ((w.alloc o).alloc o')) := fun o o' => ((Below.refl _ _).alloc (Nat.le_refl _) o).alloc (by simp) o'
  unfold eV
  go_enter Try.func29, Try.ntmps29
  go_wp2
  go_ret
  refine ⟨_, rfl, ⟨rfl, Or.inr ⟨w.heap.size + 1, 1, #[.string s], rfl, by omega, ?_, Nat.le_refl _, by decide, rfl, rfl⟩⟩, HBX.out _ _⟩
  have := heap_alloc_new (w.alloc (.cells #[.int .i64 2, .int .i64 n, .string s, .int .i64 p, .slice ad m cap] 41)) (.cells #[.string s] 9)
  simpa using this

def NamesC (l : EL) : Prop := ∀ (k n : Int) (s : ByteArray) (p : Int) (ad : Option Addr) (cap : Nat) (w : World), ¬ k = 2 → ESl w (.slice ad l.len cap) l → Calls Try.prog 29 #[eV k n s p (.slice ad l.len cap)] w (NPost (namesL l) w)
theorem names_of {l : EL} (h : NamesC l) (k n : Int) (s : ByteArray) (p : Int) (ad : Option Addr) (cap : Nat) (w : World) (hE : ESl w (.slice ad l.len cap) l) : Calls Try.prog 29 #[eV k n s p (.slice ad l.len cap)] w (NPost (namesE k s l) w) := by
  unfold namesE
  by_cases h2 : k = 2
  · subst h2
    rw [if_pos rfl]
    exact names_two n s p ad l.len cap w
  · rw [if_neg h2]
    exact h k n s p ad cap w h2 hE

set_option maxRecDepth 100000 in
set_option maxHeartbeats 2000000 in
theorem names_any : ∀ (N : Nat) (l : EL), l.cnt ≤ N → l.cnt ≤ 1000000000 → NamesC l := by
  intro N
  induction N with
  | zero =>
    intro l hN h9 k n s p ad cap w hk2 hE
    have hkb : (k == 2) = false := by simp [hk2]
    have : l = .nil := by cases l with
      | nil => rfl
      | cons k n s p a r => simp only [EL.cnt] at hN; omega
    subst this
    unfold eV
    go_enter Try.func29, Try.ntmps29
    go_wp2
    go_rounds 1
    go_ret
    exact ⟨_, rfl, Strs.nil _ _, (Below.refl _ _).alloc (Nat.le_refl _) _⟩
  | succ N ih =>
    intro l hN h9 k n s p ad cap w hk2 hE
    have hkb : (k == 2) = false := by simp [hk2]
    obtain ⟨ad', cap', b, o, e0, h1, h2, h3, h4⟩ := hE
    cases e0
    have HI : Hid (∀ l : EL, l.cnt ≤ N → l.cnt ≤ 1000000000 → NamesC l) := ih
    have HE0 : Hid (EAt w l b o) := h4
    obtain ⟨m, hm⟩ : ∃ m, l.len = m := ⟨_, rfl⟩
    have HLM : Hid (l.len = m) := hm
    rw [hm] at h1 h3 ⊢
    have hm9 : m ≤ 1000000000 := by have := l.len_le; omega
    have HN : Hid (l.cnt ≤ N + 1) := hN
    obtain ⟨i0, hi, hz0, hz1, hz2⟩ := info_parts info9
    clear ih h4 hm hN
    unfold maxLen at h2
    unfold eV
    have HBX : Hid (∀ o, Below w.heap.size w (w.alloc o)) := fun o => (Below.refl _ _).alloc (Nat.le_refl _) o
    go_enter Try.func29, Try.ntmps29
    go_wp2
    go_loopw [3, 4] (fun t i wr => ∃ (j : Nat) (r : EL) (names : List ByteArray) (da : Option Addr) (dc : Nat), j ≤ m ∧ i = .int .i64 (j : Int) ∧ t = .slice da names.length dc ∧ Hid (j + r.len = m) ∧ Hid (EAt w r b (o + 5 * j)) ∧ Hid (names ++ namesL r = namesL l) ∧ Hid (r.cnt ≤ N + 1 ∧ names.length + r.cnt ≤ 1000000000) ∧ Hid (Strs wr (w.heap.size + 1) (.slice da names.length dc) names) ∧ Hid (Below (w.heap.size + 1) (w.alloc (.cells #[.int .i64 k, .int .i64 n, .string s, .int .i64 p, .slice ad m cap] 41)) wr)) (fun _ i _ => m - (intOf i).toNat)
    case atStart => exact ⟨0, l, [], none, 0, Nat.zero_le _, rfl, rfl, by show _ = _; rw [Nat.zero_add]; exact HLM.out, HE0, rfl, ⟨HN.out, by simpa using h9⟩, Strs.nil _ _, Below.refl _ _⟩
    case round =>
      obtain ⟨j, r, names, da, dc, hj, rfl, rfl, HJ, HE, HX, HR, HS, HB⟩ := hrel
      have HBw : Hid (Below w.heap.size w wr) := (HBX.out _).trans (HB.out.mono (Nat.le_succ _))
      have F0 := (Five.new w (.int .i64 k) (.int .i64 n) (.string s) (.int .i64 p) (.slice ad m cap) 41).keep (HB.out.block w.heap.size (Nat.lt_succ_self _))
      have y4 := F0.c4
      have hsw : w.heap.size < wr.heap.size := by have := HB.out.size; simp at this; omega
      clear F0
      by_cases hlt : j < m
      · have e0 := h3 (by omega)
        subst e0
        cases r with
        | nil => have := HJ.out; simp only [EL.len] at this; omega
        | cons kd nm s' p' a r =>
          obtain ⟨ad2, cap2, hrd, hsl, _, hrest⟩ := HE.out.read HBw.out
          rw [Nat.mul_comm 5 j] at hrd
          obtain ⟨z0, z1, z2, z3, z4, z5⟩ := hrd
          have HSl : Hid (ESl wr (.slice ad2 a.len cap2) a) := hsl
          have HRest : Hid (EAt w r b (o + 5 * (j + 1))) := by rw [show o + 5 * (j + 1) = o + 5 * j + 5 by omega]; exact hrest
          have HC : Hid (NamesC a) := HI.out a (by have := HR.out.1; simp only [EL.cnt] at this; omega) (by have := HR.out.2; simp only [EL.cnt] at this; omega)
          obtain ⟨L2, hL2⟩ : ∃ L2, namesE kd s' a = L2 := ⟨_, rfl⟩
          have HL2 : Hid (namesE kd s' a = L2) := hL2
          have hcn : names.length + L2.length + r.cnt ≤ 1000000000 := by have := HR.out.2; have h7 := namesE_len kd s' a; rw [hL2] at h7; simp only [EL.cnt] at this; omega
          have HX2 : Hid ((names ++ L2) ++ namesL r = namesL l) := by show _ = _; rw [← HX.out, namesL_cons, hL2, List.append_assoc]
          have HR2 : Hid (r.cnt ≤ N + 1 ∧ (names ++ L2).length + r.cnt ≤ 1000000000) := by have := HR.out.1; simp only [EL.cnt] at this; exact ⟨by omega, by rw [List.length_append]; omega⟩
          clear hsl hrest hL2
          go_wp2_with fail
          refine (names_of HC.out kd nm s' p' ad2 cap2 wr HSl.out).mono ?_
          rintro e w2 ⟨v2, rfl, hs2, hb2⟩
          rw [HL2.out] at hs2
          have HB2 : Hid _ := HB.out.trans (hb2.mono hsw)
          have HSN : Hid (Strs w2 (w.heap.size + 1) (.slice da names.length dc) names) := HS.out.below hb2
          have hsz2 : w.heap.size + 1 ≤ w2.heap.size := Nat.le_trans hsw hb2.size
          rcases hs2.cases with ⟨rfl, e2⟩ | ⟨g, cg, rfl, hce⟩
          · subst e2
            rw [List.append_nil] at HX2 HR2
            clear hs2 hb2
            go_wp2_with (at_builtin; refine wpList_append_own_none rfl _ _ 54 rfl (w.heap.size + 1) 9 i0 1 Try.underlying54 hi _ _ _ rfl HSN.out rfl ?_)
            go_roundw
            case rel => exact ⟨j + 1, r, names, da, dc, by omega, by go_num, rfl, by have := HJ.out; simp only [EL.len] at this; show _ = _; omega, HRest, HX2, HR2, HSN, HB2⟩
            case measure => simp [intOf]; omega
          · have HCE : Hid _ := hce
            clear hs2 hb2 hce
            go_wp2_with (at_builtin; refine wpList_append_own_at _ rfl _ _ 54 rfl (w.heap.size + 1) 9 i0 (.string ⟨#[]⟩) 1 16 Try.underlying54 hi hz0 hz1 hz2 rfl (by decide) _ _ _ rfl HSN.out ⟨g, 0, none⟩ L2.length cg (L2.map fun x => Value.string x) rfl (by simp) HCE.out (strs_one L2) (by unfold maxLen; omega) (by omega) hsz2 ?_)
            intro v' w3 hown' hgrow hnil hloc
            have HS3 : Hid (Strs w3 (w.heap.size + 1) v' (names ++ L2)) := by show w3.ownsRow _ _ _ _ _ _; simpa using hown'
            have HB3 : Hid _ := HB2.out.grown hgrow hsz2 (fun k hk => (HSN.out.own k hk).1)
            obtain ⟨da', dc', hv'⟩ := HS3.out.form
            subst hv'
            clear hown' hgrow hnil hloc
            go_wp2
            go_roundw
            case rel => exact ⟨j + 1, r, names ++ L2, da', dc', by omega, by go_num, rfl, by have := HJ.out; simp only [EL.len] at this; show _ = _; omega, HRest, HX2, HR2, HS3, HB3⟩
            case measure => simp [intOf]; omega
      · have hr : r = .nil := by cases r with
          | nil => rfl
          | cons kd nm s p a r => have := HJ.out; simp only [EL.len] at this; omega
        subst hr
        have HXX : Hid (names = namesL l) := by show _ = _; have := HX.out; simpa [namesL] using this
        go_wp2
        go_ret
        exact ⟨_, rfl, HXX.out ▸ HS.out.mono (by omega), HBw.out⟩
end Go.Proofs.Ytiafdlebggegfab
