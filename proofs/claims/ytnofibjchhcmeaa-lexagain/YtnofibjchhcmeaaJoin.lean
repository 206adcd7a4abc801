/- What lex.Join answers: the texts of the tokens ahead of the end, with one blank between. -/
import Derived.Test.YtnofibjchhcmeaaShelf
import Derived.Test.YtnofibjchhcmeaaSame
import Derived.Maps.AppendAt
namespace Go.Proofs.Ytnofibjchhcmeaa
open Go.RowKit Go.Maps
set_option linter.unusedVariables false

/-- texts of the call's own -/
def Strs (w : World) (base : Nat) (v : Value) (l : List ByteArray) : Prop := w.ownsRow base 9 1 v l.length (l.map fun x => Value.string x)
theorem Strs.own {w : World} {base : Nat} {v : Value} {l : List ByteArray} (h : Strs w base v l) : ∀ k, v.ownBlock = some k → base ≤ k ∧ k < w.heap.size := World.ownsRow.lt h
theorem Strs.keep {w w' : World} {base : Nat} {v : Value} {l : List ByteArray} (h : Strs w base v l) (hb : ∀ k, v.ownBlock = some k → w'.heap[k]? = w.heap[k]?) : Strs w' base v l := by
  obtain ⟨h1, h2⟩ := h
  refine ⟨h1, ?_⟩
  rcases h2 with h2 | ⟨g, cap, cur, e1, e2, e3, e4⟩
  · exact Or.inl h2
  · refine Or.inr ⟨g, cap, cur, e1, e2, ?_, e4⟩
    rw [hb g (by rw [e1]; rfl)]; exact e3
theorem Strs.form {w : World} {base : Nat} {v : Value} {l : List ByteArray} (h : Strs w base v l) : ∃ a c, v = .slice a l.length c := by
  rcases h.2 with ⟨h, h0⟩ | ⟨g, cap, _, h, _⟩
  · exact ⟨none, 0, by rw [h0]; exact h⟩
  · exact ⟨_, _, h⟩
theorem Strs.nil (w : World) (base : Nat) : Strs w base (.slice none 0 0) [] := ⟨rfl, Or.inl ⟨rfl, rfl⟩⟩
theorem Strs.below {w w' : World} {base : Nat} {v : Value} {l : List ByteArray} (h : Strs w base v l) (hb : Below w.heap.size w w') : Strs w' base v l := h.keep (fun k hk => hb.block k (h.own k hk).2)
theorem strs_one (l : List ByteArray) : ∀ u ∈ (l.map fun x => Value.string x), u.oneCell' = true := by
  intro u hu
  obtain ⟨_, _, rfl⟩ := List.mem_map.1 hu
  rfl
theorem Strs.cases {w : World} {base : Nat} {v : Value} {l : List ByteArray} (h : Strs w base v l) : (v = .slice none 0 0 ∧ l = []) ∨ ∃ g cap, v = .slice (some ⟨g, 0, none⟩) l.length cap ∧ l.length ≤ cap ∧ g < w.heap.size ∧ (∀ j u, (l.map fun x => Value.string x)[j]? = some u → w.cell? ((⟨g, 0, none⟩ : Addr).add j) = some u) := by
  have hce := fun g => World.ownsRow.cells h (g := g)
  have hlt := World.ownsRow.lt h
  rcases h.2 with ⟨h1, h0⟩ | ⟨g, cap, cur, e1, e2, e3, e4, e5, _⟩
  · exact Or.inl ⟨h1, List.eq_nil_of_length_eq_zero h0⟩
  · exact Or.inr ⟨g, cap, e1, e4, (hlt g (by rw [e1]; rfl)).2, hce g (by rw [e1]; rfl)⟩

/-- the texts of the tokens ahead of the end -/
def textsOf (l : List Tok) : List (List UInt8) := (l.filter (fun t => !decide (t.kind = 0))).map (fun t => t.text)
theorem textsOf_take {l : List Tok} {k : Nat} (h : k < l.length) : textsOf (l.take (k + 1)) = textsOf (l.take k) ++ (if l[k].kind = 0 then [] else [l[k].text]) := by
  unfold textsOf
  rw [List.take_succ_eq_append_getElem h, List.filter_append, List.map_append]
  congr 1
  by_cases e : l[k].kind = 0
  · rw [if_pos e, List.filter_cons_of_neg (by simp [e])]; rfl
  · rw [if_neg e, List.filter_cons_of_pos (by simp [e])]; rfl

theorem info9 : (Try.prog.info? 9).map (fun i => (i.zero, i.size, i.bytes)) = some (some (.string ⟨#[]⟩), 1, 16) := by kernel_rfl

set_option maxRecDepth 100000 in
set_option maxHeartbeats 2000000 in
theorem join_any (g c : Nat) (l : List Tok) (w : World) (hn : l.length ≤ c) (hm : c ≤ maxLen) (hl : l.length ≤ 100000) (hg : g < w.heap.size)
    (hc : Hid (∀ i (hi : i < l.length), w.cell? ⟨g, i * 4, none⟩ = some (.int .i64 l[i].kind) ∧ w.cell? ⟨g, i * 4 + 1, none⟩ = some (.string ⟨l[i].text.toArray⟩) ∧ w.cell? ⟨g, i * 4 + 2, none⟩ = some (.int .i64 l[i].num) ∧ w.cell? ⟨g, i * 4 + 3, none⟩ = some (.int .i64 (l[i].pos : Int))))
    (hlen : (Lib.join (textsOf l) [32]).length ≤ 1000000000) :
    Calls Try.prog 16 #[.slice (some ⟨g, 0, none⟩) l.length c] w fun e w' => e = .returned (.string ⟨(Lib.join (textsOf l) [32]).toArray⟩) ∧ Below w.heap.size w w' := by
  unfold maxLen at hm
  obtain ⟨i0, hi, hz0, hz1, hz2⟩ := info_parts info9
  obtain ⟨n, hnn⟩ : ∃ n, l.length = n := ⟨_, rfl⟩
  rw [hnn] at hn hl ⊢
  have HL : Hid (l.length = n) := hnn
  have HLEN : Hid ((Lib.join (textsOf l) [32]).length ≤ 1000000000) := hlen
  obtain ⟨res, hres⟩ : ∃ r, Lib.join (textsOf l) [32] = r := ⟨_, rfl⟩
  have HR : Hid (Lib.join (textsOf l) [32] = res) := hres
  rw [hres]
  clear hnn hres hlen
  go_enter Try.func16, Try.ntmps16
  go_wp2
  go_loopw [3, 8] (fun t i wr => ∃ (k : Nat) (names : List ByteArray) (da : Option Addr) (dc : Nat), k ≤ n ∧ i = .int .i64 (k : Int) ∧ t = .slice da names.length dc ∧ names.length ≤ k ∧ Hid (names.map (fun x => x.data.toList) = textsOf (l.take k)) ∧ Hid (Strs wr w.heap.size (.slice da names.length dc) names) ∧ Hid (Below w.heap.size w wr)) (fun _ i _ => n - (intOf i).toNat)
  case atStart => exact ⟨0, [], none, 0, Nat.zero_le _, rfl, rfl, Nat.le_refl _, rfl, Strs.nil _ _, Below.refl _ _⟩
  case round =>
    obtain ⟨k, names, da, dc, hk, rfl, rfl, hnk, HN, HS, HB⟩ := hrel
    by_cases hlt : k < n
    · have ka : k < l.length := by have := HL.out; omega
      obtain ⟨x0, x1, x2, x3⟩ := hc.out k ka
      have HT := textsOf_take ka
      have HTT : Hid (textsOf (l.take (k + 1)) = textsOf (l.take k) ++ (if l[k].kind = 0 then [] else [l[k].text])) := HT
      clear HT
      generalize l[k].kind = kd at x0 HTT
      obtain ⟨T, hT⟩ : ∃ T : ByteArray, (⟨l[k].text.toArray⟩ : ByteArray) = T := ⟨_, rfl⟩
      have HTX : Hid (l[k].text = T.data.toList) := by show _ = _; rw [← hT]
      rw [hT] at x1
      generalize l[k].num = nm at x2
      generalize l[k].pos = px at x3
      have u0 : wr.cell? ⟨g, k * 4, none⟩ = some (.int .i64 kd) := (HB.out.cell (p := ⟨g, k * 4, none⟩) hg).trans x0
      have u1 : wr.cell? ⟨g, k * 4 + 1, none⟩ = some (.string T) := (HB.out.cell (p := ⟨g, k * 4 + 1, none⟩) hg).trans x1
      have u2 : wr.cell? ⟨g, k * 4 + 2, none⟩ = some (.int .i64 nm) := (HB.out.cell (p := ⟨g, k * 4 + 2, none⟩) hg).trans x2
      have u3 : wr.cell? ⟨g, k * 4 + 3, none⟩ = some (.int .i64 (px : Int)) := (HB.out.cell (p := ⟨g, k * 4 + 3, none⟩) hg).trans x3
      have q1 : g < wr.heap.size := Nat.lt_of_lt_of_le hg HB.out.size
      have hws := HB.out.size
      clear x0 x1 x2 x3 hT
      by_cases hkd : kd = 0
      · subst hkd
        have HN1 : Hid (names.map (fun x => x.data.toList) = textsOf (l.take (k + 1))) := by show _ = _; rw [HTT.out, if_pos rfl, List.append_nil]; exact HN.out
        go_wp2
        go_roundw
        case rel => exact ⟨k + 1, names, da, dc, by omega, by go_num, rfl, by omega, HN1, HS.out.below ((Below.refl _ _).alloc (Nat.le_refl _) _), HB.out.alloc hws _⟩
        case measure => simp [intOf]; omega
      · have HN1 : Hid ((names ++ [T]).map (fun x => x.data.toList) = textsOf (l.take (k + 1))) := by show _ = _; rw [HTT.out, if_neg hkd, List.map_append, HN.out, HTX.out]; rfl
        have HSA : Hid (∀ o o', ((wr.alloc o).alloc o').ownsRow w.heap.size 9 1 (.slice da names.length dc) names.length (names.map fun x => Value.string x)) := fun o o' => World.ownsRow.alloc (World.ownsRow.alloc HS.out o) o'
        have HBA : Hid (∀ o o', Below w.heap.size w ((wr.alloc o).alloc o')) := fun o o' => (HB.out.alloc hws o).alloc (by simp; omega) o'
        go_wp2_with (at_builtin; refine wpList_append_own_at _ rfl _ _ 36 rfl w.heap.size 9 i0 (.string ⟨#[]⟩) 1 16 Try.underlying36 hi hz0 hz1 hz2 rfl (by decide) _ _ _ rfl (HSA.out _ _) ⟨wr.heap.size + 1, 0, none⟩ 1 1 [.string T] rfl rfl ?c1 (strs_one [T]) ?c3 ?c4 ?c5 ?_)
        case c1 =>
          have := cell_one_new (wr.alloc (.cells #[.int .i64 kd, .string T, .int .i64 nm, .int .i64 (px : Int)] 33)) (.string T) 9
          simpa using this
        case c3 => unfold maxLen; omega
        case c4 => omega
        case c5 => simp; omega
        intro v' w3 hown' hgrow hnil hloc
        have HB3 : Hid (Below w.heap.size w w3) := (HBA.out _ _).grown hgrow (by simp; omega) (fun k hk => (HS.out.own k hk).1)
        have HS3 : Hid (Strs w3 w.heap.size v' (names ++ [T])) := by show w3.ownsRow _ _ _ _ _ _; simpa using hown'
        obtain ⟨da', dc', hv'⟩ := HS3.out.form
        subst hv'
        clear hown' hgrow hnil hloc HSA HBA
        go_wp2
        go_roundw
        case rel => exact ⟨k + 1, names ++ [T], da', dc', by omega, by go_num, rfl, by simp; omega, HN1, HS3, HB3⟩
        case measure => simp [intOf]; omega
    · have HNE : Hid (names.map (fun x => x.data.toList) = textsOf l) := by
        show _ = _
        rw [HN.out, List.take_of_length_le (by have := HL.out; omega)]
      rcases HS.out.cases with ⟨hv, hnil⟩ | ⟨gg, cap, hv, hcap, hgg, hcells⟩
      · subst hnil
        injection hv with z1 z2 z3
        subst z1 z3
        have HRE : Hid (res = []) := by show _ = _; rw [← HR.out, ← HNE.out]; rfl
        clear z2
        go_wp2_with fail
        refine (Try.strings_Join_none none 0 _ _).mono ?_
        rintro e w4 ⟨rfl, hw4⟩
        rw [hw4]
        go_wp2
        go_ret
        exact ⟨by rw [HRE.out]; rfl, HB.out⟩
      · injection hv with z1 z2 z3
        subst z1 z3
        clear z2
        have HJ : Hid (Calls Try.prog 28 #[.slice (some ⟨gg, 0, none⟩) names.length dc, .string ⟨#[32]⟩] wr fun e w' => e = .returned (.string ⟨res.toArray⟩) ∧ Below w.heap.size w w') := by
          have h := Try.strings_Join gg 0 dc names ⟨#[32]⟩ wr (fun j x hj => by
            have := hcells j (.string x) (by rw [List.getElem?_map, hj]; rfl)
            cases j <;> simpa [Addr.add] using this) hgg (by omega) hcap (by rw [HNE.out]; have := HLEN.out; show (Lib.join (textsOf l) [32]).length ≤ _; omega)
          rw [HNE.out] at h
          refine h.mono ?_
          rintro e w4 ⟨rfl, hb⟩
          exact ⟨by rw [← HR.out], HB.out.trans (hb.mono HB.out.size)⟩
        clear hcells
        go_wp2_with fail
        refine HJ.out.mono ?_
        rintro e w4 ⟨rfl, hb4⟩
        have HB4 : Hid (Below w.heap.size w w4) := hb4
        clear hb4
        go_wp2
        go_ret
        exact ⟨rfl, HB4.out⟩
end Go.Proofs.Ytnofibjchhcmeaa
