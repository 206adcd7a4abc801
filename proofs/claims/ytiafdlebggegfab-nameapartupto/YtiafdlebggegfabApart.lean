/- NameApart, walked. -/
import Derived.Test.YtiafdlebggegfabMay
import Derived.Test.YtiafdlebggegfabAlive
import Derived.Test.YtiafdlebggegfabOpen
import Derived.Test.YtiafdlebggegfabApartP
import Derived.Deep.RegionHeld3
namespace Go.Proofs.Ytiafdlebggegfab
open Go.RowKit Go.Maps Go.WideMaps
set_option linter.unusedVariables false

theorem info43 : (Try.prog.info? 43).map (fun i => (i.zero, i.size, i.bytes)) = some (some (.agg #[.int .i64 0, .string ⟨#[]⟩, .int .i64 0, .slice none 0 0, .slice none 0 0, .slice none 0 0]), 6, 104) := by kernel_rfl

theorem two_cells (X : World) (n : Nat) (hn : n = X.heap.size) (L : List Value) (t : TypeId) : ∀ j u, L[j]? = some u → (X.alloc (.cells L.toArray t)).cell? ((⟨n, 0, none⟩ : Addr).add j) = some u := by
  intro j u hj
  rw [addn, Nat.zero_add, World.cell?_alloc_at _ _ _ _ hn]
  simpa using hj
theorem twelve_one (s : ByteArray) (n : Nat) : ∀ u ∈ ([.int .i64 1, .string s, .int .i64 0, .slice (some ⟨n, 0, none⟩) 1 1, .slice none 0 0, .slice none 0 0, .int .i64 4, .string ⟨#[]⟩, .int .i64 0, .slice (some ⟨n + 1, 0, none⟩) 1 1, .slice none 0 0, .slice none 0 0] : List Value), u.oneCell' = true := by
  intro u hu
  simp only [List.mem_cons, List.not_mem_nil, or_false] at hu
  rcases hu with rfl | rfl | rfl | rfl | rfl | rfl | rfl | rfl | rfl | rfl | rfl | rfl <;> rfl
theorem SL.app_len (l z : SL) : (l.app z).len = l.len + z.len := by
  induction l with
  | nil => simp [SL.app, SL.len]
  | cons k s c a b e r _ _ ih => simp only [SL.app, SL.len, ih]; omega
theorem SL.app_cnt (l z : SL) : (l.app z).cnt = l.cnt + z.cnt := by
  induction l with
  | nil => simp [SL.app, SL.cnt]
  | cons k s c a b e r _ _ ih => simp only [SL.app, SL.cnt, ih]; omega

set_option maxRecDepth 100000 in
set_option maxHeartbeats 4000000 in
theorem apart_walk (l : SL) (ad : Option Addr) (cap : Nat) (c : Int) (s : ByteArray) (w : World) (hE : SSl w (.slice ad l.len cap) l) (h9 : l.cnt ≤ 1048576) (hs : s.size ≤ maxLen) (hnil : ad = none → cap = 0) :
    Calls Try.prog 6 #[.slice ad l.len cap, .int .i64 c, .string s] w fun e w' => e = .returned (.bool true) ∧ Below w.heap.size w w' := by
  have HE : Hid (SSl w (.slice ad l.len cap) l) := hE
  have HG : Hid _ := great_any l _ w hE (by omega)
  have hcap : l.len ≤ cap ∧ cap ≤ maxLen := by obtain ⟨_, _, _, _, e, h1, h2, _⟩ := id hE; cases e; exact ⟨h1, h2⟩
  obtain ⟨hc1, hc2⟩ := hcap
  unfold maxLen at hc2
  have hm9 : l.len ≤ 1048576 := by have := l.len_le; omega
  obtain ⟨gb, hgb⟩ : ∃ b, decide (5000 < (l.cnt : Int)) = b := ⟨_, rfl⟩
  have HGB : Hid (decide (5000 < (l.cnt : Int)) = gb) := hgb
  have H9 : Hid (l.cnt ≤ 1048576) := h9
  obtain ⟨m, hm⟩ : ∃ m, l.len = m := ⟨_, rfl⟩
  have HM : Hid (l.len = m) := hm
  rw [hm] at HE HG hc1 hm9 ⊢
  clear hgb h9 hE hm
  obtain ⟨i0, hi, hz0, hz1, hz2⟩ := info_parts info43
  go_enter Try.func6, Try.ntmps6
  go_wp2_with fail
  refine Calls.mono HG.out ?_
  rw [HGB.out]
  rintro e w1 ⟨rfl, hb1⟩
  have HB1 : Hid (Below w.heap.size w w1) := hb1
  have HE1 : Hid (SSl w1 (.slice ad m cap) l) := HE.out.below hb1
  clear hb1
  rcases gb with _ | _
  case true =>
    go_wp2_with fail
    refine (alive_any _).mono ?_
    rintro e w9 ⟨rfl, hb9⟩
    have HB9 : Hid (Below w.heap.size w w9) := HB1.out.trans (hb9.mono HB1.out.size)
    clear hb9
    go_wp2
    go_ret
    exact ⟨rfl, HB9.out⟩
  go_wp2_with fail
  refine Calls.mono (right_any l _ w1 HE1.out (by have := H9.out; omega)) ?_
  rintro e w2 ⟨rb, rfl, hb2⟩
  have HB2 : Hid (Below w.heap.size w w2) := HB1.out.trans (hb2.mono HB1.out.size)
  have HE2 : Hid (SSl w2 (.slice ad m cap) l) := HE1.out.below hb2
  clear hb2
  rcases rb with _ | _
  case false =>
    go_wp2_with fail
    refine (alive_any _).mono ?_
    rintro e w9 ⟨rfl, hb9⟩
    have HB9 : Hid (Below w.heap.size w w9) := HB2.out.trans (hb9.mono HB2.out.size)
    clear hb9
    go_wp2
    go_ret
    exact ⟨rfl, HB9.out⟩
  obtain ⟨r2, hr2⟩ : ∃ r, slots l (min c 4) = r := ⟨_, rfl⟩
  have HR2 : Hid (slots l (min c 4) = r2) := hr2
  go_wp2_with fail
  refine (slots_any l c _ w2 HE2.out (by have := H9.out; omega)).mono ?_
  rw [HR2.out]
  rcases r2 with x | st
  · rintro e w3 ⟨rfl, hx, hb3⟩
    have HB3 : Hid (Below w.heap.size w w3) := HB2.out.trans (hb3.mono HB2.out.size)
    clear hb3 hr2
    go_wp2_with fail
    refine (alive_any _).mono ?_
    rintro e w9 ⟨rfl, hb9⟩
    have HB9 : Hid (Below w.heap.size w w9) := HB3.out.trans (hb9.mono HB3.out.size)
    clear hb9
    go_wp2
    go_ret
    exact ⟨rfl, HB9.out⟩
  · have HIN : Hid (InO st.out) := slots_in hr2
    have HOL : Hid (st.out.length ≤ 1000000) := by
      show _ ≤ _
      obtain ⟨s1, e1, rfl⟩ := shut_ok hr2
      obtain ⟨x, y, e2, l2, _⟩ := runL_pre _ l _ _ e1
      show s1.out.length ≤ _
      rw [e2]
      have := H9.out
      have : l.cnt ≤ 5000 := by have := HGB.out; simp at this; omega
      simp [st0]
      omega
    have HTWO : Hid (slots (l.app (twoS s)) (min c 4) = .err 61 ∨ slots (l.app (twoS s)) (min c 4) = .err 62 ∨ ∃ (r m : Int), 3 ≤ r ∧ slots (l.app (twoS s)) (min c 4) = .ok ⟨st0.T, st.out ++ [r, r], m⟩) := slots_two hr2
    rintro e w3 ⟨v3, rfl, hi3, hb3⟩
    have HI3 : Hid (IRd w3 v3 st.out) := hi3.rd
    obtain ⟨a3, c3, b3, o3, rfl, g1, g2, g3, g4⟩ := hi3.rd
    have HB3 : Hid (Below w.heap.size w w3) := HB2.out.trans (hb3.mono HB2.out.size)
    have HE3 : Hid (SSl w3 (.slice ad m cap) l) := HE2.out.below hb3
    have HCL : Hid (∀ i (h : i < st.out.length), w3.cell? ⟨b3, o3 + i, none⟩ = some (.int .i64 st.out[i])) := g4
    obtain ⟨n3, hn3⟩ : ∃ n3, st.out.length = n3 := ⟨_, rfl⟩
    have HN3 : Hid (st.out.length = n3) := hn3
    have hn9 : n3 ≤ 1000000 := by have := HOL.out; omega
    rw [hn3] at g1 g3 HI3 ⊢
    unfold maxLen at g2
    clear hb3 hi3 hr2 g4 hn3
    go_wp2
    go_loop [9] (fun i => ∃ k : Nat, k ≤ n3 ∧ i = .int .i64 (k : Int)) (fun i => n3 - (intOf i).toNat)
    case atStart => exact ⟨0, Nat.zero_le _, rfl⟩
    case round =>
      obtain ⟨k, hk, rfl⟩ := hrel
      by_cases hlt : k < n3
      · obtain ⟨e3, q3⟩ := g3 (by omega)
        subst e3
        have hkl : k < st.out.length := by have := HN3.out; omega
        obtain ⟨x, hx⟩ : ∃ x, st.out[k] = x := ⟨_, rfl⟩
        have x1 : w3.cell? ⟨b3, o3 + k, none⟩ = some (.int .i64 x) := by rw [← hx]; exact HCL.out k hkl
        have hx2 : 0 ≤ x ∧ x < 11 := hx ▸ HIN.out _ (List.getElem_mem hkl)
        obtain ⟨hx3, hx4⟩ := hx2
        clear hx
        go_wp2
        go_round
        case rel => exact ⟨k + 1, by omega, by go_num⟩
        case measure => simp [intOf]; omega
      · by_cases hm0 : m = 0
        · have hl0 : l = .nil := by
            have := HM.out
            cases l with
            | nil => rfl
            | cons k s c a b e r => simp only [SL.len] at this; omega
          have HV1 : Hid (([] : List Value).length = 0 * 6) := rfl
          have HV4 : Hid (∀ (w' : World) (b' o' : Nat) (z : SL), Below w3.heap.size w3 w' → (∀ j u, ([] : List Value)[j]? = some u → w'.cell? ⟨b', o' + j, none⟩ = some u) → SAt w' z b' (o' + l.len * 6) → SAt w' (l.app z) b' o') := by
            intro w' b' o' z _ _ hz
            rw [hl0] at hz ⊢
            exact hz
          clear hl0
          subst hm0
          cases ad with
          | none =>
            obtain rfl := hnil rfl
            have hsz4 : w3.heap.size ≤ w3.heap.size := Nat.le_refl _
            have HB34 : Hid (Below w3.heap.size w3 w3) := Below.refl _ _
            have HO4 : Hid (w3.ownsRow w3.heap.size 43 6 (.slice none 0 0) 0 []) := ⟨rfl, Or.inl ⟨rfl, rfl⟩⟩
            have HO4A : Hid (∀ o1 o2 o3, (((w3.alloc o1).alloc o2).alloc o3).ownsRow w3.heap.size 43 6 (.slice none 0 0) 0 []) := fun o1 o2 o3 => ((HO4.out.alloc o1).alloc o2).alloc o3
            go_wp2_with (at_builtin; refine wpList_append_own_at _ rfl _ _ 22 rfl w3.heap.size 43 i0 (.agg #[.int .i64 0, .string ⟨#[]⟩, .int .i64 0, .slice none 0 0, .slice none 0 0, .slice none 0 0]) 6 104 Try.underlying22 hi hz0 hz1 hz2 rfl (by decide) _ _ _ rfl (HO4A.out _ _ _) ⟨w3.heap.size + 1 + 1, 0, none⟩ 2 2 [.int .i64 1, .string s, .int .i64 0, .slice (some ⟨w3.heap.size, 0, none⟩) 1 1, .slice none 0 0, .slice none 0 0, .int .i64 4, .string ⟨#[]⟩, .int .i64 0, .slice (some ⟨w3.heap.size + 1, 0, none⟩) 1 1, .slice none 0 0, .slice none 0 0] rfl rfl (two_cells _ _ (by simp) _ _) (twelve_one s w3.heap.size) (by unfold maxLen; omega) (by omega) (by simp; omega) ?_)
            intro v5 w5 hown5 hgrow5 _ hloc5
            have hlt4 := World.ownsRow.lt HO4.out
            have hcl5 := fun g => World.ownsRow.cells hown5 (g := g)
            have hlt5 := World.ownsRow.lt hown5
            have hsX : (((w3.alloc (.cells #[.int .i64 1, .int .i64 0, .string ⟨#[]⟩, .int .i64 0, .slice none 0 0] 41)).alloc (.cells #[.int .i64 2, .int .i64 0, .string s, .int .i64 0, .slice none 0 0] 41)).alloc (.cells #[.int .i64 1, .string s, .int .i64 0, .slice (some ⟨w3.heap.size, 0, none⟩) 1 1, .slice none 0 0, .slice none 0 0, .int .i64 4, .string ⟨#[]⟩, .int .i64 0, .slice (some ⟨w3.heap.size + 1, 0, none⟩) 1 1, .slice none 0 0, .slice none 0 0] 43)).heap.size = w3.heap.size + 1 + 1 + 1 := by simp
            have hBX : Below w3.heap.size w3 (((w3.alloc (.cells #[.int .i64 1, .int .i64 0, .string ⟨#[]⟩, .int .i64 0, .slice none 0 0] 41)).alloc (.cells #[.int .i64 2, .int .i64 0, .string s, .int .i64 0, .slice none 0 0] 41)).alloc (.cells #[.int .i64 1, .string s, .int .i64 0, .slice (some ⟨w3.heap.size, 0, none⟩) 1 1, .slice none 0 0, .slice none 0 0, .int .i64 4, .string ⟨#[]⟩, .int .i64 0, .slice (some ⟨w3.heap.size + 1, 0, none⟩) 1 1, .slice none 0 0, .slice none 0 0] 43)) := ((HB34.out.alloc hsz4 _).alloc (by simp <;> omega) _).alloc (by simp <;> omega) _
            have HB35 : Hid (Below w3.heap.size w3 w5) := hBX.grown hgrow5 hBX.size (fun k hk => (hlt4 k hk).1)
            have HB5 : Hid (Below w.heap.size w w5) := HB3.out.trans (HB35.out.mono HB3.out.size)
            have k1 : w5.heap[w3.heap.size]? = (w3.alloc (.cells #[.int .i64 1, .int .i64 0, .string ⟨#[]⟩, .int .i64 0, .slice none 0 0] 41)).heap[w3.heap.size]? := (hgrow5.block _ (by omega) (fun e => by have := (hlt4 _ e.symm).2; omega)).trans ((Below.heap_alloc _ _ _ (by simp <;> omega)).trans (Below.heap_alloc _ _ _ (by simp)))
            have k2 : w5.heap[w3.heap.size + 1]? = ((w3.alloc (.cells #[.int .i64 1, .int .i64 0, .string ⟨#[]⟩, .int .i64 0, .slice none 0 0] 41)).alloc (.cells #[.int .i64 2, .int .i64 0, .string s, .int .i64 0, .slice none 0 0] 41)).heap[w3.heap.size + 1]? := (hgrow5.block _ (by omega) (fun e => by have := (hlt4 _ e.symm).2; omega)).trans (Below.heap_alloc _ _ _ (by simp))
            have F1 : Five w5 w3.heap.size (.int .i64 1) (.int .i64 0) (.string ⟨#[]⟩) (.int .i64 0) (.slice none 0 0) := (Five.new w3 _ _ _ _ _ 41).keep k1
            have F2 : Five w5 (w3.heap.size + 1) (.int .i64 2) (.int .i64 0) (.string s) (.int .i64 0) (.slice none 0 0) := by
              have := Five.new (w3.alloc (.cells #[.int .i64 1, .int .i64 0, .string ⟨#[]⟩, .int .i64 0, .slice none 0 0] 41)) (.int .i64 2) (.int .i64 0) (.string s) (.int .i64 0) (.slice none 0 0) 41
              rw [show (w3.alloc (.cells #[.int .i64 1, .int .i64 0, .string ⟨#[]⟩, .int .i64 0, .slice none 0 0] 41)).heap.size = w3.heap.size + 1 by simp] at this
              exact this.keep k2
            have E1 : ESl w5 (.slice (some ⟨w3.heap.size, 0, none⟩) 1 1) (.cons 1 0 ⟨#[]⟩ 0 .nil .nil) := ⟨_, 1, w3.heap.size, 0, rfl, Nat.le_refl _, by unfold maxLen; decide, fun _ => rfl, F1.c0, F1.c1, F1.c2, F1.c3, by unfold maxLen; decide, ⟨none, 0, 0, 0, F1.c4, Nat.le_refl _, Nat.zero_le _, fun h => absurd h (by simp [EL.len]), trivial⟩, trivial⟩
            have E2 : ESl w5 (.slice (some ⟨w3.heap.size + 1, 0, none⟩) 1 1) (.cons 2 0 s 0 .nil .nil) := ⟨_, 1, w3.heap.size + 1, 0, rfl, Nat.le_refl _, by unfold maxLen; decide, fun _ => rfl, F2.c0, F2.c1, F2.c2, F2.c3, hs, ⟨none, 0, 0, 0, F2.c4, Nat.le_refl _, Nat.zero_le _, fun h => absurd h (by simp [EL.len]), trivial⟩, trivial⟩
            obtain ⟨g5, cap5, rfl, hg1, hg2⟩ : ∃ g5 cap5, v5 = .slice (some ⟨g5, 0, none⟩) 2 cap5 ∧ 2 ≤ cap5 ∧ cap5 ≤ maxLen := by
              rcases hown5.2 with ⟨_, h⟩ | ⟨g, cap', cur, e1, _, _, e4, e5, _⟩
              · omega
              · exact ⟨g, cap', e1, e4, e5⟩
            have hcc : ∀ j u, (([] : List Value) ++ [.int .i64 1, .string s, .int .i64 0, .slice (some ⟨w3.heap.size, 0, none⟩) 1 1, .slice none 0 0, .slice none 0 0, .int .i64 4, .string ⟨#[]⟩, .int .i64 0, .slice (some ⟨w3.heap.size + 1, 0, none⟩) 1 1, .slice none 0 0, .slice none 0 0])[j]? = some u → w5.cell? ⟨g5, j, none⟩ = some u := fun j u h => by
              have := hcl5 g5 rfl j u h
              rw [addn, Nat.zero_add] at this
              exact this
            have hcn : ∀ (j : Nat) (u : Value), ([.int .i64 1, .string s, .int .i64 0, .slice (some ⟨w3.heap.size, 0, none⟩) 1 1, .slice none 0 0, .slice none 0 0, .int .i64 4, .string ⟨#[]⟩, .int .i64 0, .slice (some ⟨w3.heap.size + 1, 0, none⟩) 1 1, .slice none 0 0, .slice none 0 0] : List Value)[j]? = some u → w5.cell? ⟨g5, l.len * 6 + j, none⟩ = some u := fun j u h => by
              refine hcc (l.len * 6 + j) u ?_
              have hv := HV1.out
              have hm' := HM.out
              rw [List.getElem?_append_right (by rw [hv, hm']; omega), hv, hm', Nat.add_sub_cancel_left]
              exact h
            have hS2 : SAt w5 (twoS s) g5 (0 + l.len * 6) := by
              rw [Nat.zero_add]
              refine ⟨hcn 0 _ rfl, hcn 1 _ rfl, hcn 2 _ rfl, hs, ⟨_, hcn 3 _ rfl, E1⟩, ⟨none, 0, 0, 0, hcn 4 _ rfl, Nat.le_refl _, Nat.zero_le _, fun h => absurd h (by simp [SL.len]), trivial⟩, ⟨none, 0, 0, 0, hcn 5 _ rfl, Nat.le_refl _, Nat.zero_le _, fun h => absurd h (by simp [SL.len]), trivial⟩, ?_⟩
              exact ⟨hcn 6 _ rfl, hcn 7 _ rfl, hcn 8 _ rfl, by unfold maxLen; decide, ⟨_, hcn 9 _ rfl, E2⟩, ⟨none, 0, 0, 0, hcn 10 _ rfl, Nat.le_refl _, Nat.zero_le _, fun h => absurd h (by simp [SL.len]), trivial⟩, ⟨none, 0, 0, 0, hcn 11 _ rfl, Nat.le_refl _, Nat.zero_le _, fun h => absurd h (by simp [SL.len]), trivial⟩, trivial⟩
            have hapl : (l.app (twoS s)).len = 2 := by rw [SL.app_len]; have := HM.out; show l.len + 2 = _; omega
            have HS5 : Hid (SSl w5 (.slice (some ⟨g5, 0, none⟩) 2 cap5) (l.app (twoS s))) := ⟨_, cap5, g5, 0, by rw [hapl], by omega, hg2, fun _ => rfl, HV4.out w5 g5 0 (twoS s) HB35.out (fun j u h => by rw [Nat.zero_add]; exact hcc j u (by rw [List.getElem?_append_left (by have := (List.getElem?_eq_some_iff.1 h).1; exact this)]; exact h)) hS2⟩
            have HCN : Hid ((l.app (twoS s)).cnt ≤ 1000000000) := by show _ ≤ _; rw [SL.app_cnt]; have := H9.out; show l.cnt + 4 ≤ _; omega
            have HI5 : Hid (IRd w5 (.slice a3 n3 c3) st.out) := HI3.out.below HB35.out
            clear hown5 hgrow5 hloc5 hlt4 hcl5 hlt5 hsX hBX k1 k2 F1 F2 E1 E2 hcc hcn hS2 hapl
            unfold maxLen at hg2
            go_wp2_with fail
            refine Calls.mono (right_any (l.app (twoS s)) _ w5 HS5.out HCN.out) ?_
            rintro e w6 ⟨rb, rfl, hb6⟩
            have HB6 : Hid (Below w.heap.size w w6) := HB5.out.trans (hb6.mono HB5.out.size)
            have HS6 : Hid (SSl w6 (.slice (some ⟨g5, 0, none⟩) 2 cap5) (l.app (twoS s))) := HS5.out.below hb6
            clear hb6
            rcases rb with _ | _
            case false =>
              go_wp2_with fail
              refine (alive_any _).mono ?_
              rintro e w9 ⟨rfl, hb9⟩
              have HB9 : Hid (Below w.heap.size w w9) := HB6.out.trans (hb9.mono HB6.out.size)
              clear hb9
              go_wp2
              go_ret
              exact ⟨rfl, HB9.out⟩
            rcases HTWO.out with h2 | h2 | ⟨r, mm, hr3, h2⟩
            · have HT2 : Hid _ := h2
              clear h2
              go_wp2_with fail
              refine (slots_any (l.app (twoS s)) c _ w6 HS6.out HCN.out).mono ?_
              rw [HT2.out]
              rintro e w7 ⟨rfl, _, hb7⟩
              have HB7 : Hid (Below w.heap.size w w7) := HB6.out.trans (hb7.mono HB6.out.size)
              clear hb7
              go_wp2_with fail
              refine (alive_any _).mono ?_
              rintro e w9 ⟨rfl, hb9⟩
              have HB9 : Hid (Below w.heap.size w w9) := HB7.out.trans (hb9.mono HB7.out.size)
              clear hb9
              go_wp2
              go_ret
              exact ⟨rfl, HB9.out⟩
            · have HT2 : Hid _ := h2
              clear h2
              go_wp2_with fail
              refine (slots_any (l.app (twoS s)) c _ w6 HS6.out HCN.out).mono ?_
              rw [HT2.out]
              rintro e w7 ⟨rfl, _, hb7⟩
              have HB7 : Hid (Below w.heap.size w w7) := HB6.out.trans (hb7.mono HB6.out.size)
              clear hb7
              go_wp2_with fail
              refine (alive_any _).mono ?_
              rintro e w9 ⟨rfl, hb9⟩
              have HB9 : Hid (Below w.heap.size w w9) := HB7.out.trans (hb9.mono HB7.out.size)
              clear hb9
              go_wp2
              go_ret
              exact ⟨rfl, HB9.out⟩
            · have HT2 : Hid _ := h2
              clear h2
              go_wp2_with fail
              refine (slots_any (l.app (twoS s)) c _ w6 HS6.out HCN.out).mono ?_
              rw [HT2.out]
              rintro e w7 ⟨v7, rfl, hi7, hb7⟩
              obtain ⟨a7, c7, b7, o7, hv7, i1, i2, i3, i4⟩ := hi7.rd
              subst hv7
              have hl7 : (st.out ++ [r, r]).length = n3 + 2 := by have := HN3.out; simp; omega
              have HB7 : Hid (Below w.heap.size w w7) := HB6.out.trans (hb7.mono HB6.out.size)
              have HSL : Hid ((Sta.mk st0.T (st.out ++ [r, r]) mm).out.length = n3 + 2) := hl7
              have x7 : w7.cell? ⟨b7, o7 + n3, none⟩ = some (.int .i64 r) := by
                have := i4 n3 (by show n3 < (st.out ++ [r, r]).length; omega)
                rw [this]
                have hn := HN3.out
                congr 2
                show (st.out ++ [r, r])[n3]'_ = r
                rw [List.getElem_append_right (by omega)]
                simp [hn]
              have x8 : w7.cell? ⟨b7, o7 + (n3 + 1), none⟩ = some (.int .i64 r) := by
                have := i4 (n3 + 1) (by show n3 + 1 < (st.out ++ [r, r]).length; omega)
                rw [this]
                have hn := HN3.out
                congr 2
                show (st.out ++ [r, r])[n3 + 1]'_ = r
                rw [List.getElem_append_right (by omega)]
                simp [hn]
              rw [HSL.out] at i1 i3 ⊢
              obtain ⟨i3, q7⟩ := i3 (by omega)
              subst i3
              unfold maxLen at i2
              clear hb7 hi7 i4 hl7
              have x8' : w7.cell? ⟨b7, o7 + n3 + 1, none⟩ = some (.int .i64 r) := by rw [Nat.add_assoc]; exact x8
              have HC9 : Hid (∀ w9 : World, Below w7.heap.size w7 w9 → w9.cell? ⟨b7, o7 + n3, none⟩ = some (.int .i64 r) ∧ w9.cell? ⟨b7, o7 + (n3 + 1), none⟩ = some (.int .i64 r)) := fun w9 hb => ⟨(hb.cell (p := ⟨b7, o7 + n3, none⟩) q7).trans x7, (hb.cell (p := ⟨b7, o7 + (n3 + 1), none⟩) q7).trans x8⟩
              have ew1 : IntKind.i64.wrap ((n3 : Int) + 2) = (n3 : Int) + 2 := by rw [IntKind.wrap_i64]; omega
              have ew2 : IntKind.i64.wrap ((n3 : Int) + 1) = (n3 : Int) + 1 := by rw [IntKind.wrap_i64]; omega
              have el1 : (((n3 + 2 : Nat) : Int) == (n3 : Int) + 2) = true := by simp
              have HBD : Hid (Below w7.heap.size w7 w7.drew) := (Below.refl _ _).drew
              have bi0 : (0 : Int) ≤ (n3 : Int) := by omega
              have bi1 : (n3 : Int) < (n3 : Int) + 2 := by omega
              have bi2 : (0 : Int) ≤ (n3 : Int) + 1 := by omega
              have bi3 : (n3 : Int) + 1 < (n3 : Int) + 2 := by omega
              have bi4 : (n3 : Int) ≤ (n3 : Int) + 2 := by omega
              have bi5 : (n3 : Int) + 1 ≤ (n3 : Int) + 2 := by omega
              go_wp2_with fail
              go_region_held3 (fun w' => w'.cell? ⟨b7, o7 + n3, none⟩ = some (.int .i64 r) ∧ w'.cell? ⟨b7, o7 + (n3 + 1), none⟩ = some (.int .i64 r)) (go_keep) (first | (go_at_call 9; refine (alive_any _).mono ?_; rintro e w9 ⟨rfl, hb9⟩; have HB79 : Hid (Below w7.heap.size w7 w9) := HBD.out.trans hb9; obtain ⟨y7, y8⟩ := HC9.out w9 HB79.out; clear hb9))
              all_goals
                have HBF : Hid (Below w.heap.size w w9) := HB7.out.trans (HB79.out.mono HB7.out.size)
                go_wp2
                go_ret
                exact ⟨rfl, HBF.out⟩
          | some ad0 =>
            have HO0 : Hid (w3.ownsRow w3.heap.size 43 6 (.slice none 0 0) 0 []) := ⟨rfl, Or.inl ⟨rfl, rfl⟩⟩
            go_wp2_with (at_builtin; refine wpList_append_own_at _ rfl _ _ 22 rfl w3.heap.size 43 i0 (.agg #[.int .i64 0, .string ⟨#[]⟩, .int .i64 0, .slice none 0 0, .slice none 0 0, .slice none 0 0]) 6 104 Try.underlying22 hi hz0 hz1 hz2 rfl (by decide) _ _ _ rfl HO0.out ad0 0 cap [] rfl rfl (fun j u h => by simp at h) (fun u h => by simp at h) (by unfold maxLen; omega) (by omega) (Nat.le_refl _) ?_)
            intro v4 w4 hown4 hgrow4 hnil4 hloc4
            obtain rfl : v4 = .slice none 0 0 := by first | exact hnil4 | exact hnil4.2 ⟨rfl, rfl⟩ | simpa using hnil4
            have hsz4 : w3.heap.size ≤ w4.heap.size := hgrow4.size
            have HB34 : Hid (Below w3.heap.size w3 w4) := ⟨hgrow4.os, hgrow4.tape, hgrow4.output, hgrow4.size, fun k hk => hgrow4.block k hk (by intro e; cases e)⟩
            have HO4 : Hid (w4.ownsRow w3.heap.size 43 6 (.slice none 0 0) 0 []) := ⟨rfl, Or.inl ⟨rfl, rfl⟩⟩
            have HO4A : Hid (∀ o1 o2 o3, (((w4.alloc o1).alloc o2).alloc o3).ownsRow w3.heap.size 43 6 (.slice none 0 0) 0 []) := fun o1 o2 o3 => ((HO4.out.alloc o1).alloc o2).alloc o3
            clear hown4 hgrow4 hloc4
            go_wp2_with (at_builtin; refine wpList_append_own_at _ rfl _ _ 22 rfl w3.heap.size 43 i0 (.agg #[.int .i64 0, .string ⟨#[]⟩, .int .i64 0, .slice none 0 0, .slice none 0 0, .slice none 0 0]) 6 104 Try.underlying22 hi hz0 hz1 hz2 rfl (by decide) _ _ _ rfl (HO4A.out _ _ _) ⟨w4.heap.size + 1 + 1, 0, none⟩ 2 2 [.int .i64 1, .string s, .int .i64 0, .slice (some ⟨w4.heap.size, 0, none⟩) 1 1, .slice none 0 0, .slice none 0 0, .int .i64 4, .string ⟨#[]⟩, .int .i64 0, .slice (some ⟨w4.heap.size + 1, 0, none⟩) 1 1, .slice none 0 0, .slice none 0 0] rfl rfl ?q1b ?q2b (by unfold maxLen; omega) (by omega) (by simp; omega) ?_)
            case q1b =>
              intro j u hj
              rw [addn, Nat.zero_add, World.cell?_alloc_at _ _ _ _ (by simp)]
              simpa using hj
            case q2b =>
              intro u hu
              simp only [List.mem_cons, List.not_mem_nil, or_false] at hu
              rcases hu with rfl | rfl | rfl | rfl | rfl | rfl | rfl | rfl | rfl | rfl | rfl | rfl <;> rfl
            intro v5 w5 hown5 hgrow5 _ hloc5
            have hlt4 := World.ownsRow.lt HO4.out
            have hcl5 := fun g => World.ownsRow.cells hown5 (g := g)
            have hlt5 := World.ownsRow.lt hown5
            have hsX : (((w4.alloc (.cells #[.int .i64 1, .int .i64 0, .string ⟨#[]⟩, .int .i64 0, .slice none 0 0] 41)).alloc (.cells #[.int .i64 2, .int .i64 0, .string s, .int .i64 0, .slice none 0 0] 41)).alloc (.cells #[.int .i64 1, .string s, .int .i64 0, .slice (some ⟨w4.heap.size, 0, none⟩) 1 1, .slice none 0 0, .slice none 0 0, .int .i64 4, .string ⟨#[]⟩, .int .i64 0, .slice (some ⟨w4.heap.size + 1, 0, none⟩) 1 1, .slice none 0 0, .slice none 0 0] 43)).heap.size = w4.heap.size + 1 + 1 + 1 := by simp
            have hBX : Below w3.heap.size w3 (((w4.alloc (.cells #[.int .i64 1, .int .i64 0, .string ⟨#[]⟩, .int .i64 0, .slice none 0 0] 41)).alloc (.cells #[.int .i64 2, .int .i64 0, .string s, .int .i64 0, .slice none 0 0] 41)).alloc (.cells #[.int .i64 1, .string s, .int .i64 0, .slice (some ⟨w4.heap.size, 0, none⟩) 1 1, .slice none 0 0, .slice none 0 0, .int .i64 4, .string ⟨#[]⟩, .int .i64 0, .slice (some ⟨w4.heap.size + 1, 0, none⟩) 1 1, .slice none 0 0, .slice none 0 0] 43)) := ((HB34.out.alloc hsz4 _).alloc (by simp <;> omega) _).alloc (by simp <;> omega) _
            have HB35 : Hid (Below w3.heap.size w3 w5) := hBX.grown hgrow5 hBX.size (fun k hk => (hlt4 k hk).1)
            have HB5 : Hid (Below w.heap.size w w5) := HB3.out.trans (HB35.out.mono HB3.out.size)
            have k1 : w5.heap[w4.heap.size]? = (w4.alloc (.cells #[.int .i64 1, .int .i64 0, .string ⟨#[]⟩, .int .i64 0, .slice none 0 0] 41)).heap[w4.heap.size]? := (hgrow5.block _ (by omega) (fun e => by have := (hlt4 _ e.symm).2; omega)).trans ((Below.heap_alloc _ _ _ (by simp <;> omega)).trans (Below.heap_alloc _ _ _ (by simp)))
            have k2 : w5.heap[w4.heap.size + 1]? = ((w4.alloc (.cells #[.int .i64 1, .int .i64 0, .string ⟨#[]⟩, .int .i64 0, .slice none 0 0] 41)).alloc (.cells #[.int .i64 2, .int .i64 0, .string s, .int .i64 0, .slice none 0 0] 41)).heap[w4.heap.size + 1]? := (hgrow5.block _ (by omega) (fun e => by have := (hlt4 _ e.symm).2; omega)).trans (Below.heap_alloc _ _ _ (by simp))
            have F1 : Five w5 w4.heap.size (.int .i64 1) (.int .i64 0) (.string ⟨#[]⟩) (.int .i64 0) (.slice none 0 0) := (Five.new w4 _ _ _ _ _ 41).keep k1
            have F2 : Five w5 (w4.heap.size + 1) (.int .i64 2) (.int .i64 0) (.string s) (.int .i64 0) (.slice none 0 0) := by
              have := Five.new (w4.alloc (.cells #[.int .i64 1, .int .i64 0, .string ⟨#[]⟩, .int .i64 0, .slice none 0 0] 41)) (.int .i64 2) (.int .i64 0) (.string s) (.int .i64 0) (.slice none 0 0) 41
              rw [show (w4.alloc (.cells #[.int .i64 1, .int .i64 0, .string ⟨#[]⟩, .int .i64 0, .slice none 0 0] 41)).heap.size = w4.heap.size + 1 by simp] at this
              exact this.keep k2
            have E1 : ESl w5 (.slice (some ⟨w4.heap.size, 0, none⟩) 1 1) (.cons 1 0 ⟨#[]⟩ 0 .nil .nil) := ⟨_, 1, w4.heap.size, 0, rfl, Nat.le_refl _, by unfold maxLen; decide, fun _ => rfl, F1.c0, F1.c1, F1.c2, F1.c3, by unfold maxLen; decide, ⟨none, 0, 0, 0, F1.c4, Nat.le_refl _, Nat.zero_le _, fun h => absurd h (by simp [EL.len]), trivial⟩, trivial⟩
            have E2 : ESl w5 (.slice (some ⟨w4.heap.size + 1, 0, none⟩) 1 1) (.cons 2 0 s 0 .nil .nil) := ⟨_, 1, w4.heap.size + 1, 0, rfl, Nat.le_refl _, by unfold maxLen; decide, fun _ => rfl, F2.c0, F2.c1, F2.c2, F2.c3, hs, ⟨none, 0, 0, 0, F2.c4, Nat.le_refl _, Nat.zero_le _, fun h => absurd h (by simp [EL.len]), trivial⟩, trivial⟩
            obtain ⟨g5, cap5, rfl, hg1, hg2⟩ : ∃ g5 cap5, v5 = .slice (some ⟨g5, 0, none⟩) 2 cap5 ∧ 2 ≤ cap5 ∧ cap5 ≤ maxLen := by
              rcases hown5.2 with ⟨_, h⟩ | ⟨g, cap', cur, e1, _, _, e4, e5, _⟩
              · omega
              · exact ⟨g, cap', e1, e4, e5⟩
            have hcc : ∀ j u, (([] : List Value) ++ [.int .i64 1, .string s, .int .i64 0, .slice (some ⟨w4.heap.size, 0, none⟩) 1 1, .slice none 0 0, .slice none 0 0, .int .i64 4, .string ⟨#[]⟩, .int .i64 0, .slice (some ⟨w4.heap.size + 1, 0, none⟩) 1 1, .slice none 0 0, .slice none 0 0])[j]? = some u → w5.cell? ⟨g5, j, none⟩ = some u := fun j u h => by
              have := hcl5 g5 rfl j u h
              rw [addn, Nat.zero_add] at this
              exact this
            have hcn : ∀ (j : Nat) (u : Value), ([.int .i64 1, .string s, .int .i64 0, .slice (some ⟨w4.heap.size, 0, none⟩) 1 1, .slice none 0 0, .slice none 0 0, .int .i64 4, .string ⟨#[]⟩, .int .i64 0, .slice (some ⟨w4.heap.size + 1, 0, none⟩) 1 1, .slice none 0 0, .slice none 0 0] : List Value)[j]? = some u → w5.cell? ⟨g5, l.len * 6 + j, none⟩ = some u := fun j u h => by
              refine hcc (l.len * 6 + j) u ?_
              have hv := HV1.out
              have hm' := HM.out
              rw [List.getElem?_append_right (by rw [hv, hm']; omega), hv, hm', Nat.add_sub_cancel_left]
              exact h
            have hS2 : SAt w5 (twoS s) g5 (0 + l.len * 6) := by
              rw [Nat.zero_add]
              refine ⟨hcn 0 _ rfl, hcn 1 _ rfl, hcn 2 _ rfl, hs, ⟨_, hcn 3 _ rfl, E1⟩, ⟨none, 0, 0, 0, hcn 4 _ rfl, Nat.le_refl _, Nat.zero_le _, fun h => absurd h (by simp [SL.len]), trivial⟩, ⟨none, 0, 0, 0, hcn 5 _ rfl, Nat.le_refl _, Nat.zero_le _, fun h => absurd h (by simp [SL.len]), trivial⟩, ?_⟩
              exact ⟨hcn 6 _ rfl, hcn 7 _ rfl, hcn 8 _ rfl, by unfold maxLen; decide, ⟨_, hcn 9 _ rfl, E2⟩, ⟨none, 0, 0, 0, hcn 10 _ rfl, Nat.le_refl _, Nat.zero_le _, fun h => absurd h (by simp [SL.len]), trivial⟩, ⟨none, 0, 0, 0, hcn 11 _ rfl, Nat.le_refl _, Nat.zero_le _, fun h => absurd h (by simp [SL.len]), trivial⟩, trivial⟩
            have hapl : (l.app (twoS s)).len = 2 := by rw [SL.app_len]; have := HM.out; show l.len + 2 = _; omega
            have HS5 : Hid (SSl w5 (.slice (some ⟨g5, 0, none⟩) 2 cap5) (l.app (twoS s))) := ⟨_, cap5, g5, 0, by rw [hapl], by omega, hg2, fun _ => rfl, HV4.out w5 g5 0 (twoS s) HB35.out (fun j u h => by rw [Nat.zero_add]; exact hcc j u (by rw [List.getElem?_append_left (by have := (List.getElem?_eq_some_iff.1 h).1; exact this)]; exact h)) hS2⟩
            have HCN : Hid ((l.app (twoS s)).cnt ≤ 1000000000) := by show _ ≤ _; rw [SL.app_cnt]; have := H9.out; show l.cnt + 4 ≤ _; omega
            have HI5 : Hid (IRd w5 (.slice a3 n3 c3) st.out) := HI3.out.below HB35.out
            clear hown5 hgrow5 hloc5 hlt4 hcl5 hlt5 hsX hBX k1 k2 F1 F2 E1 E2 hcc hcn hS2 hapl
            unfold maxLen at hg2
            go_wp2_with fail
            refine Calls.mono (right_any (l.app (twoS s)) _ w5 HS5.out HCN.out) ?_
            rintro e w6 ⟨rb, rfl, hb6⟩
            have HB6 : Hid (Below w.heap.size w w6) := HB5.out.trans (hb6.mono HB5.out.size)
            have HS6 : Hid (SSl w6 (.slice (some ⟨g5, 0, none⟩) 2 cap5) (l.app (twoS s))) := HS5.out.below hb6
            clear hb6
            rcases rb with _ | _
            case false =>
              go_wp2_with fail
              refine (alive_any _).mono ?_
              rintro e w9 ⟨rfl, hb9⟩
              have HB9 : Hid (Below w.heap.size w w9) := HB6.out.trans (hb9.mono HB6.out.size)
              clear hb9
              go_wp2
              go_ret
              exact ⟨rfl, HB9.out⟩
            rcases HTWO.out with h2 | h2 | ⟨r, mm, hr3, h2⟩
            · have HT2 : Hid _ := h2
              clear h2
              go_wp2_with fail
              refine (slots_any (l.app (twoS s)) c _ w6 HS6.out HCN.out).mono ?_
              rw [HT2.out]
              rintro e w7 ⟨rfl, _, hb7⟩
              have HB7 : Hid (Below w.heap.size w w7) := HB6.out.trans (hb7.mono HB6.out.size)
              clear hb7
              go_wp2_with fail
              refine (alive_any _).mono ?_
              rintro e w9 ⟨rfl, hb9⟩
              have HB9 : Hid (Below w.heap.size w w9) := HB7.out.trans (hb9.mono HB7.out.size)
              clear hb9
              go_wp2
              go_ret
              exact ⟨rfl, HB9.out⟩
            · have HT2 : Hid _ := h2
              clear h2
              go_wp2_with fail
              refine (slots_any (l.app (twoS s)) c _ w6 HS6.out HCN.out).mono ?_
              rw [HT2.out]
              rintro e w7 ⟨rfl, _, hb7⟩
              have HB7 : Hid (Below w.heap.size w w7) := HB6.out.trans (hb7.mono HB6.out.size)
              clear hb7
              go_wp2_with fail
              refine (alive_any _).mono ?_
              rintro e w9 ⟨rfl, hb9⟩
              have HB9 : Hid (Below w.heap.size w w9) := HB7.out.trans (hb9.mono HB7.out.size)
              clear hb9
              go_wp2
              go_ret
              exact ⟨rfl, HB9.out⟩
            · have HT2 : Hid _ := h2
              clear h2
              go_wp2_with fail
              refine (slots_any (l.app (twoS s)) c _ w6 HS6.out HCN.out).mono ?_
              rw [HT2.out]
              rintro e w7 ⟨v7, rfl, hi7, hb7⟩
              obtain ⟨a7, c7, b7, o7, hv7, i1, i2, i3, i4⟩ := hi7.rd
              subst hv7
              have hl7 : (st.out ++ [r, r]).length = n3 + 2 := by have := HN3.out; simp; omega
              have HB7 : Hid (Below w.heap.size w w7) := HB6.out.trans (hb7.mono HB6.out.size)
              have HSL : Hid ((Sta.mk st0.T (st.out ++ [r, r]) mm).out.length = n3 + 2) := hl7
              have x7 : w7.cell? ⟨b7, o7 + n3, none⟩ = some (.int .i64 r) := by
                have := i4 n3 (by show n3 < (st.out ++ [r, r]).length; omega)
                rw [this]
                have hn := HN3.out
                congr 2
                show (st.out ++ [r, r])[n3]'_ = r
                rw [List.getElem_append_right (by omega)]
                simp [hn]
              have x8 : w7.cell? ⟨b7, o7 + (n3 + 1), none⟩ = some (.int .i64 r) := by
                have := i4 (n3 + 1) (by show n3 + 1 < (st.out ++ [r, r]).length; omega)
                rw [this]
                have hn := HN3.out
                congr 2
                show (st.out ++ [r, r])[n3 + 1]'_ = r
                rw [List.getElem_append_right (by omega)]
                simp [hn]
              rw [HSL.out] at i1 i3 ⊢
              obtain ⟨i3, q7⟩ := i3 (by omega)
              subst i3
              unfold maxLen at i2
              clear hb7 hi7 i4 hl7
              have x8' : w7.cell? ⟨b7, o7 + n3 + 1, none⟩ = some (.int .i64 r) := by rw [Nat.add_assoc]; exact x8
              have HC9 : Hid (∀ w9 : World, Below w7.heap.size w7 w9 → w9.cell? ⟨b7, o7 + n3, none⟩ = some (.int .i64 r) ∧ w9.cell? ⟨b7, o7 + (n3 + 1), none⟩ = some (.int .i64 r)) := fun w9 hb => ⟨(hb.cell (p := ⟨b7, o7 + n3, none⟩) q7).trans x7, (hb.cell (p := ⟨b7, o7 + (n3 + 1), none⟩) q7).trans x8⟩
              have ew1 : IntKind.i64.wrap ((n3 : Int) + 2) = (n3 : Int) + 2 := by rw [IntKind.wrap_i64]; omega
              have ew2 : IntKind.i64.wrap ((n3 : Int) + 1) = (n3 : Int) + 1 := by rw [IntKind.wrap_i64]; omega
              have el1 : (((n3 + 2 : Nat) : Int) == (n3 : Int) + 2) = true := by simp
              have HBD : Hid (Below w7.heap.size w7 w7.drew) := (Below.refl _ _).drew
              have bi0 : (0 : Int) ≤ (n3 : Int) := by omega
              have bi1 : (n3 : Int) < (n3 : Int) + 2 := by omega
              have bi2 : (0 : Int) ≤ (n3 : Int) + 1 := by omega
              have bi3 : (n3 : Int) + 1 < (n3 : Int) + 2 := by omega
              have bi4 : (n3 : Int) ≤ (n3 : Int) + 2 := by omega
              have bi5 : (n3 : Int) + 1 ≤ (n3 : Int) + 2 := by omega
              go_wp2_with fail
              go_region_held3 (fun w' => w'.cell? ⟨b7, o7 + n3, none⟩ = some (.int .i64 r) ∧ w'.cell? ⟨b7, o7 + (n3 + 1), none⟩ = some (.int .i64 r)) (go_keep) (first | (go_at_call 9; refine (alive_any _).mono ?_; rintro e w9 ⟨rfl, hb9⟩; have HB79 : Hid (Below w7.heap.size w7 w9) := HBD.out.trans hb9; obtain ⟨y7, y8⟩ := HC9.out w9 HB79.out; clear hb9))
              all_goals
                have HBF : Hid (Below w.heap.size w w9) := HB7.out.trans (HB79.out.mono HB7.out.size)
                go_wp2
                go_ret
                exact ⟨rfl, HBF.out⟩
        · obtain ⟨ad', cap', b, o, e0, h1, h2, h3, h4⟩ := HE3.out
          have hlm : l.len = m := HM.out
          rw [hlm] at e0 h1 h3
          injection e0 with ea eb ec
          subst ea ec
          obtain rfl := h3 (by omega)
          obtain ⟨vs, v1, v2, v3, v4⟩ := h4.cells
          have HV1 : Hid (vs.length = m * 6) := by show _ = _; rw [v1, hlm]
          have HV2 : Hid (∀ j u, vs[j]? = some u → w3.cell? ((⟨b, o, none⟩ : Addr).add j) = some u) := fun j u h => by rw [addn]; exact v2 j u h
          have HV3 : Hid (∀ u ∈ vs, u.oneCell' = true) := v3
          have HV4 : Hid (∀ (w' : World) (b' o' : Nat) (z : SL), Below w3.heap.size w3 w' → (∀ j u, vs[j]? = some u → w'.cell? ⟨b', o' + j, none⟩ = some u) → SAt w' z b' (o' + l.len * 6) → SAt w' (l.app z) b' o') := v4
          have HO0 : Hid (w3.ownsRow w3.heap.size 43 6 (.slice none 0 0) 0 []) := ⟨rfl, Or.inl ⟨rfl, rfl⟩⟩
          clear v1 v2 v3 v4 h4 h3 hlm eb
          go_wp2_with (at_builtin; refine wpList_append_own_at _ rfl _ _ 22 rfl w3.heap.size 43 i0 (.agg #[.int .i64 0, .string ⟨#[]⟩, .int .i64 0, .slice none 0 0, .slice none 0 0, .slice none 0 0]) 6 104 Try.underlying22 hi hz0 hz1 hz2 rfl (by decide) _ _ _ rfl HO0.out ⟨b, o, none⟩ m cap vs rfl HV1.out HV2.out HV3.out (by unfold maxLen; omega) (by omega) (Nat.le_refl _) ?_)
          intro v4 w4 hown4 hgrow4 _ hloc4
          have hsz4 : w3.heap.size ≤ w4.heap.size := hgrow4.size
          have HB34 : Hid (Below w3.heap.size w3 w4) := ⟨hgrow4.os, hgrow4.tape, hgrow4.output, hgrow4.size, fun k hk => hgrow4.block k hk (by intro e; cases e)⟩
          have HO4 : Hid (w4.ownsRow w3.heap.size 43 6 v4 m vs) := hown4
          have HO4A : Hid (∀ o1 o2 o3, (((w4.alloc o1).alloc o2).alloc o3).ownsRow w3.heap.size 43 6 v4 m vs) := fun o1 o2 o3 => ((HO4.out.alloc o1).alloc o2).alloc o3
          clear hown4 hgrow4 hloc4
          go_wp2_with (at_builtin; refine wpList_append_own_at _ rfl _ _ 22 rfl w3.heap.size 43 i0 (.agg #[.int .i64 0, .string ⟨#[]⟩, .int .i64 0, .slice none 0 0, .slice none 0 0, .slice none 0 0]) 6 104 Try.underlying22 hi hz0 hz1 hz2 rfl (by decide) _ _ _ rfl (HO4A.out _ _ _) ⟨w4.heap.size + 1 + 1, 0, none⟩ 2 2 [.int .i64 1, .string s, .int .i64 0, .slice (some ⟨w4.heap.size, 0, none⟩) 1 1, .slice none 0 0, .slice none 0 0, .int .i64 4, .string ⟨#[]⟩, .int .i64 0, .slice (some ⟨w4.heap.size + 1, 0, none⟩) 1 1, .slice none 0 0, .slice none 0 0] rfl rfl ?q1c ?q2c (by unfold maxLen; omega) (by omega) (by simp; omega) ?_)
          case q1c =>
            intro j u hj
            rw [addn, Nat.zero_add, World.cell?_alloc_at _ _ _ _ (by simp)]
            simpa using hj
          case q2c =>
            intro u hu
            simp only [List.mem_cons, List.not_mem_nil, or_false] at hu
            rcases hu with rfl | rfl | rfl | rfl | rfl | rfl | rfl | rfl | rfl | rfl | rfl | rfl <;> rfl
          intro v5 w5 hown5 hgrow5 _ hloc5
          have hlt4 := World.ownsRow.lt HO4.out
          have hcl5 := fun g => World.ownsRow.cells hown5 (g := g)
          have hlt5 := World.ownsRow.lt hown5
          have hsX : (((w4.alloc (.cells #[.int .i64 1, .int .i64 0, .string ⟨#[]⟩, .int .i64 0, .slice none 0 0] 41)).alloc (.cells #[.int .i64 2, .int .i64 0, .string s, .int .i64 0, .slice none 0 0] 41)).alloc (.cells #[.int .i64 1, .string s, .int .i64 0, .slice (some ⟨w4.heap.size, 0, none⟩) 1 1, .slice none 0 0, .slice none 0 0, .int .i64 4, .string ⟨#[]⟩, .int .i64 0, .slice (some ⟨w4.heap.size + 1, 0, none⟩) 1 1, .slice none 0 0, .slice none 0 0] 43)).heap.size = w4.heap.size + 1 + 1 + 1 := by simp
          have hBX : Below w3.heap.size w3 (((w4.alloc (.cells #[.int .i64 1, .int .i64 0, .string ⟨#[]⟩, .int .i64 0, .slice none 0 0] 41)).alloc (.cells #[.int .i64 2, .int .i64 0, .string s, .int .i64 0, .slice none 0 0] 41)).alloc (.cells #[.int .i64 1, .string s, .int .i64 0, .slice (some ⟨w4.heap.size, 0, none⟩) 1 1, .slice none 0 0, .slice none 0 0, .int .i64 4, .string ⟨#[]⟩, .int .i64 0, .slice (some ⟨w4.heap.size + 1, 0, none⟩) 1 1, .slice none 0 0, .slice none 0 0] 43)) := ((HB34.out.alloc hsz4 _).alloc (by simp <;> omega) _).alloc (by simp <;> omega) _
          have HB35 : Hid (Below w3.heap.size w3 w5) := hBX.grown hgrow5 hBX.size (fun k hk => (hlt4 k hk).1)
          have HB5 : Hid (Below w.heap.size w w5) := HB3.out.trans (HB35.out.mono HB3.out.size)
          have k1 : w5.heap[w4.heap.size]? = (w4.alloc (.cells #[.int .i64 1, .int .i64 0, .string ⟨#[]⟩, .int .i64 0, .slice none 0 0] 41)).heap[w4.heap.size]? := (hgrow5.block _ (by omega) (fun e => by have := (hlt4 _ e.symm).2; omega)).trans ((Below.heap_alloc _ _ _ (by simp <;> omega)).trans (Below.heap_alloc _ _ _ (by simp)))
          have k2 : w5.heap[w4.heap.size + 1]? = ((w4.alloc (.cells #[.int .i64 1, .int .i64 0, .string ⟨#[]⟩, .int .i64 0, .slice none 0 0] 41)).alloc (.cells #[.int .i64 2, .int .i64 0, .string s, .int .i64 0, .slice none 0 0] 41)).heap[w4.heap.size + 1]? := (hgrow5.block _ (by omega) (fun e => by have := (hlt4 _ e.symm).2; omega)).trans (Below.heap_alloc _ _ _ (by simp))
          have F1 : Five w5 w4.heap.size (.int .i64 1) (.int .i64 0) (.string ⟨#[]⟩) (.int .i64 0) (.slice none 0 0) := (Five.new w4 _ _ _ _ _ 41).keep k1
          have F2 : Five w5 (w4.heap.size + 1) (.int .i64 2) (.int .i64 0) (.string s) (.int .i64 0) (.slice none 0 0) := by
            have := Five.new (w4.alloc (.cells #[.int .i64 1, .int .i64 0, .string ⟨#[]⟩, .int .i64 0, .slice none 0 0] 41)) (.int .i64 2) (.int .i64 0) (.string s) (.int .i64 0) (.slice none 0 0) 41
            rw [show (w4.alloc (.cells #[.int .i64 1, .int .i64 0, .string ⟨#[]⟩, .int .i64 0, .slice none 0 0] 41)).heap.size = w4.heap.size + 1 by simp] at this
            exact this.keep k2
          have E1 : ESl w5 (.slice (some ⟨w4.heap.size, 0, none⟩) 1 1) (.cons 1 0 ⟨#[]⟩ 0 .nil .nil) := ⟨_, 1, w4.heap.size, 0, rfl, Nat.le_refl _, by unfold maxLen; decide, fun _ => rfl, F1.c0, F1.c1, F1.c2, F1.c3, by unfold maxLen; decide, ⟨none, 0, 0, 0, F1.c4, Nat.le_refl _, Nat.zero_le _, fun h => absurd h (by simp [EL.len]), trivial⟩, trivial⟩
          have E2 : ESl w5 (.slice (some ⟨w4.heap.size + 1, 0, none⟩) 1 1) (.cons 2 0 s 0 .nil .nil) := ⟨_, 1, w4.heap.size + 1, 0, rfl, Nat.le_refl _, by unfold maxLen; decide, fun _ => rfl, F2.c0, F2.c1, F2.c2, F2.c3, hs, ⟨none, 0, 0, 0, F2.c4, Nat.le_refl _, Nat.zero_le _, fun h => absurd h (by simp [EL.len]), trivial⟩, trivial⟩
          obtain ⟨g5, cap5, rfl, hg1, hg2⟩ : ∃ g5 cap5, v5 = .slice (some ⟨g5, 0, none⟩) (m + 2) cap5 ∧ m + 2 ≤ cap5 ∧ cap5 ≤ maxLen := by
            rcases hown5.2 with ⟨_, h⟩ | ⟨g, cap', cur, e1, _, _, e4, e5, _⟩
            · omega
            · exact ⟨g, cap', e1, e4, e5⟩
          have hcc : ∀ j u, (vs ++ [.int .i64 1, .string s, .int .i64 0, .slice (some ⟨w4.heap.size, 0, none⟩) 1 1, .slice none 0 0, .slice none 0 0, .int .i64 4, .string ⟨#[]⟩, .int .i64 0, .slice (some ⟨w4.heap.size + 1, 0, none⟩) 1 1, .slice none 0 0, .slice none 0 0])[j]? = some u → w5.cell? ⟨g5, j, none⟩ = some u := fun j u h => by
            have := hcl5 g5 rfl j u h
            rw [addn, Nat.zero_add] at this
            exact this
          have hcn : ∀ (j : Nat) (u : Value), ([.int .i64 1, .string s, .int .i64 0, .slice (some ⟨w4.heap.size, 0, none⟩) 1 1, .slice none 0 0, .slice none 0 0, .int .i64 4, .string ⟨#[]⟩, .int .i64 0, .slice (some ⟨w4.heap.size + 1, 0, none⟩) 1 1, .slice none 0 0, .slice none 0 0] : List Value)[j]? = some u → w5.cell? ⟨g5, l.len * 6 + j, none⟩ = some u := fun j u h => by
            refine hcc (l.len * 6 + j) u ?_
            have hv := HV1.out
            have hm' := HM.out
            rw [List.getElem?_append_right (by rw [hv, hm']; omega), hv, hm', Nat.add_sub_cancel_left]
            exact h
          have hS2 : SAt w5 (twoS s) g5 (0 + l.len * 6) := by
            rw [Nat.zero_add]
            refine ⟨hcn 0 _ rfl, hcn 1 _ rfl, hcn 2 _ rfl, hs, ⟨_, hcn 3 _ rfl, E1⟩, ⟨none, 0, 0, 0, hcn 4 _ rfl, Nat.le_refl _, Nat.zero_le _, fun h => absurd h (by simp [SL.len]), trivial⟩, ⟨none, 0, 0, 0, hcn 5 _ rfl, Nat.le_refl _, Nat.zero_le _, fun h => absurd h (by simp [SL.len]), trivial⟩, ?_⟩
            exact ⟨hcn 6 _ rfl, hcn 7 _ rfl, hcn 8 _ rfl, by unfold maxLen; decide, ⟨_, hcn 9 _ rfl, E2⟩, ⟨none, 0, 0, 0, hcn 10 _ rfl, Nat.le_refl _, Nat.zero_le _, fun h => absurd h (by simp [SL.len]), trivial⟩, ⟨none, 0, 0, 0, hcn 11 _ rfl, Nat.le_refl _, Nat.zero_le _, fun h => absurd h (by simp [SL.len]), trivial⟩, trivial⟩
          have hapl : (l.app (twoS s)).len = m + 2 := by rw [SL.app_len]; have := HM.out; show l.len + 2 = _; omega
          have HS5 : Hid (SSl w5 (.slice (some ⟨g5, 0, none⟩) (m + 2) cap5) (l.app (twoS s))) := ⟨_, cap5, g5, 0, by rw [hapl], by omega, hg2, fun _ => rfl, HV4.out w5 g5 0 (twoS s) HB35.out (fun j u h => by rw [Nat.zero_add]; exact hcc j u (by rw [List.getElem?_append_left (by have := (List.getElem?_eq_some_iff.1 h).1; exact this)]; exact h)) hS2⟩
          have HCN : Hid ((l.app (twoS s)).cnt ≤ 1000000000) := by show _ ≤ _; rw [SL.app_cnt]; have := H9.out; show l.cnt + 4 ≤ _; omega
          have HI5 : Hid (IRd w5 (.slice a3 n3 c3) st.out) := HI3.out.below HB35.out
          clear hown5 hgrow5 hloc5 hlt4 hcl5 hlt5 hsX hBX k1 k2 F1 F2 E1 E2 hcc hcn hS2 hapl
          unfold maxLen at hg2
          go_wp2_with fail
          refine Calls.mono (right_any (l.app (twoS s)) _ w5 HS5.out HCN.out) ?_
          rintro e w6 ⟨rb, rfl, hb6⟩
          have HB6 : Hid (Below w.heap.size w w6) := HB5.out.trans (hb6.mono HB5.out.size)
          have HS6 : Hid (SSl w6 (.slice (some ⟨g5, 0, none⟩) (m + 2) cap5) (l.app (twoS s))) := HS5.out.below hb6
          clear hb6
          rcases rb with _ | _
          case false =>
            go_wp2_with fail
            refine (alive_any _).mono ?_
            rintro e w9 ⟨rfl, hb9⟩
            have HB9 : Hid (Below w.heap.size w w9) := HB6.out.trans (hb9.mono HB6.out.size)
            clear hb9
            go_wp2
            go_ret
            exact ⟨rfl, HB9.out⟩
          rcases HTWO.out with h2 | h2 | ⟨r, mm, hr3, h2⟩
          · have HT2 : Hid _ := h2
            clear h2
            go_wp2_with fail
            refine (slots_any (l.app (twoS s)) c _ w6 HS6.out HCN.out).mono ?_
            rw [HT2.out]
            rintro e w7 ⟨rfl, _, hb7⟩
            have HB7 : Hid (Below w.heap.size w w7) := HB6.out.trans (hb7.mono HB6.out.size)
            clear hb7
            go_wp2_with fail
            refine (alive_any _).mono ?_
            rintro e w9 ⟨rfl, hb9⟩
            have HB9 : Hid (Below w.heap.size w w9) := HB7.out.trans (hb9.mono HB7.out.size)
            clear hb9
            go_wp2
            go_ret
            exact ⟨rfl, HB9.out⟩
          · have HT2 : Hid _ := h2
            clear h2
            go_wp2_with fail
            refine (slots_any (l.app (twoS s)) c _ w6 HS6.out HCN.out).mono ?_
            rw [HT2.out]
            rintro e w7 ⟨rfl, _, hb7⟩
            have HB7 : Hid (Below w.heap.size w w7) := HB6.out.trans (hb7.mono HB6.out.size)
            clear hb7
            go_wp2_with fail
            refine (alive_any _).mono ?_
            rintro e w9 ⟨rfl, hb9⟩
            have HB9 : Hid (Below w.heap.size w w9) := HB7.out.trans (hb9.mono HB7.out.size)
            clear hb9
            go_wp2
            go_ret
            exact ⟨rfl, HB9.out⟩
          · have HT2 : Hid _ := h2
            clear h2
            go_wp2_with fail
            refine (slots_any (l.app (twoS s)) c _ w6 HS6.out HCN.out).mono ?_
            rw [HT2.out]
            rintro e w7 ⟨v7, rfl, hi7, hb7⟩
            obtain ⟨a7, c7, b7, o7, hv7, i1, i2, i3, i4⟩ := hi7.rd
            subst hv7
            have hl7 : (st.out ++ [r, r]).length = n3 + 2 := by have := HN3.out; simp; omega
            have HB7 : Hid (Below w.heap.size w w7) := HB6.out.trans (hb7.mono HB6.out.size)
            have HSL : Hid ((Sta.mk st0.T (st.out ++ [r, r]) mm).out.length = n3 + 2) := hl7
            have x7 : w7.cell? ⟨b7, o7 + n3, none⟩ = some (.int .i64 r) := by
              have := i4 n3 (by show n3 < (st.out ++ [r, r]).length; omega)
              rw [this]
              have hn := HN3.out
              congr 2
              show (st.out ++ [r, r])[n3]'_ = r
              rw [List.getElem_append_right (by omega)]
              simp [hn]
            have x8 : w7.cell? ⟨b7, o7 + (n3 + 1), none⟩ = some (.int .i64 r) := by
              have := i4 (n3 + 1) (by show n3 + 1 < (st.out ++ [r, r]).length; omega)
              rw [this]
              have hn := HN3.out
              congr 2
              show (st.out ++ [r, r])[n3 + 1]'_ = r
              rw [List.getElem_append_right (by omega)]
              simp [hn]
            rw [HSL.out] at i1 i3 ⊢
            obtain ⟨i3, q7⟩ := i3 (by omega)
            subst i3
            unfold maxLen at i2
            clear hb7 hi7 i4 hl7
            have x8' : w7.cell? ⟨b7, o7 + n3 + 1, none⟩ = some (.int .i64 r) := by rw [Nat.add_assoc]; exact x8
            have HC9 : Hid (∀ w9 : World, Below w7.heap.size w7 w9 → w9.cell? ⟨b7, o7 + n3, none⟩ = some (.int .i64 r) ∧ w9.cell? ⟨b7, o7 + (n3 + 1), none⟩ = some (.int .i64 r)) := fun w9 hb => ⟨(hb.cell (p := ⟨b7, o7 + n3, none⟩) q7).trans x7, (hb.cell (p := ⟨b7, o7 + (n3 + 1), none⟩) q7).trans x8⟩
            have ew1 : IntKind.i64.wrap ((n3 : Int) + 2) = (n3 : Int) + 2 := by rw [IntKind.wrap_i64]; omega
            have ew2 : IntKind.i64.wrap ((n3 : Int) + 1) = (n3 : Int) + 1 := by rw [IntKind.wrap_i64]; omega
            have el1 : (((n3 + 2 : Nat) : Int) == (n3 : Int) + 2) = true := by simp
            have HBD : Hid (Below w7.heap.size w7 w7.drew) := (Below.refl _ _).drew
            have bi0 : (0 : Int) ≤ (n3 : Int) := by omega
            have bi1 : (n3 : Int) < (n3 : Int) + 2 := by omega
            have bi2 : (0 : Int) ≤ (n3 : Int) + 1 := by omega
            have bi3 : (n3 : Int) + 1 < (n3 : Int) + 2 := by omega
            have bi4 : (n3 : Int) ≤ (n3 : Int) + 2 := by omega
            have bi5 : (n3 : Int) + 1 ≤ (n3 : Int) + 2 := by omega
            go_wp2_with fail
            go_region_held3 (fun w' => w'.cell? ⟨b7, o7 + n3, none⟩ = some (.int .i64 r) ∧ w'.cell? ⟨b7, o7 + (n3 + 1), none⟩ = some (.int .i64 r)) (go_keep) (first | (go_at_call 9; refine (alive_any _).mono ?_; rintro e w9 ⟨rfl, hb9⟩; have HB79 : Hid (Below w7.heap.size w7 w9) := HBD.out.trans hb9; obtain ⟨y7, y8⟩ := HC9.out w9 HB79.out; clear hb9))
            all_goals
              have HBF : Hid (Below w.heap.size w w9) := HB7.out.trans (HB79.out.mono HB7.out.size)
              go_wp2
              go_ret
              exact ⟨rfl, HBF.out⟩
end Go.Proofs.Ytiafdlebggegfab
