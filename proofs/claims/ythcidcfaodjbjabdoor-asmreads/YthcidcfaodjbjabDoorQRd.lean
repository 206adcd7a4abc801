/- What the document's read answers: all words are tried. -/
import Derived.Test.YthcidcfaodjbjabDoorQPt
import Derived.Test.YthcidcfaodjbjabDoorRefW
namespace Go.Proofs.YthcidcfaodjbjabDoor
open Go.RowKit
set_option linter.unusedVariables false

/-- the words of all kinds and operators -/
def wd (k o : Nat) : List UInt8 × List UInt8 := wordOf ⟨(k : Int), (o : Int), 0, 0, 0, 0⟩
def okW (k o : Nat) : Bool := decide (k = 4 ∨ k = 5) || decide (o = 0)
def wdGood (k o : Nat) : Bool := (wd k o).1 == [] || !okW k o || (match meanL (wd k o).1 with
  | some s => decide (s.kind = (k : Int)) && decide (s.op = (o : Int)) && s.parts == (wd k o).2
  | none => false)
theorem wdGood_all : ((List.range 14).all fun k => (List.range 22).all fun o => wdGood k o) = true := by decide +kernel
theorem says_all : (saysL.all fun s => decide (1 ≤ s.kind) && decide (s.kind ≤ 13) && decide (0 ≤ s.op) && decide (s.op ≤ 21) && okW s.kind.toNat s.op.toNat && (wd s.kind.toNat s.op.toNat).1 == s.word && !(s.word == [])) = true := by decide +kernel
theorem parts_all : (saysL.all fun s => decide (s.parts.length ≤ 3) && s.parts.all fun c => c == 97 || c == 98 || c == 99 || c == 114 || c == 107 || c == 108) = true := by decide +kernel
theorem meanGo_mem {w : List UInt8} {s : Say} : ∀ {L : List Say}, meanGo w L = some s → s ∈ L ∧ s.word = w
  | [], h => by cases h
  | a :: r, h => by
    unfold meanGo at h
    split at h
    · cases h; exact ⟨List.mem_cons_self, by assumption⟩
    · have := meanGo_mem h; exact ⟨List.mem_cons_of_mem _ this.1, this.2⟩
/-- a word that is found is the word -/
theorem wd_found {k o : Nat} (hk : k ≤ 13) (ho : o ≤ 21) {t : List UInt8} (h0 : (wd k o).1 ≠ []) (hw : (wd k o).1 = t) (hv : okW k o = true) : ∃ s, meanL t = some s ∧ s.kind = (k : Int) ∧ s.op = (o : Int) ∧ s.parts = (wd k o).2 := by
  have h := List.all_eq_true.1 (List.all_eq_true.1 wdGood_all k (List.mem_range.2 (by omega))) o (List.mem_range.2 (by omega))
  unfold wdGood at h
  rw [hv] at h
  have e0 : ((wd k o).1 == []) = false := by simpa using h0
  rw [e0, hw] at h
  simp only [Bool.not_true, Bool.or_false, Bool.false_or] at h
  cases e : meanL t with
  | none => rw [e] at h; cases h
  | some s =>
    rw [e] at h
    simp only [Bool.and_eq_true, decide_eq_true_eq, beq_iff_eq] at h
    exact ⟨s, rfl, h.1.1, h.1.2, h.2⟩
/-- a word that is not found says nothing -/
theorem wd_none {t : List UInt8} (h : ∀ k o : Nat, 1 ≤ k → k ≤ 13 → o ≤ 21 → okW k o = true → (wd k o).1 ≠ [] → (wd k o).1 ≠ t) : meanL t = none := by
  cases e : meanL t with
  | none => rfl
  | some s =>
    obtain ⟨hm, hs⟩ := meanGo_mem e
    have := List.all_eq_true.1 says_all s hm
    simp only [Bool.and_eq_true, decide_eq_true_eq, beq_iff_eq, Bool.not_eq_true', beq_eq_false_iff_ne] at this
    obtain ⟨⟨⟨⟨⟨⟨a1, a2⟩, a3⟩, a4⟩, a5⟩, a6⟩, a7⟩ := this
    exact absurd (a6.trans hs) (h s.kind.toNat s.op.toNat (by omega) (by omega) (by omega) a5 (by rw [a6]; exact a7))
theorem mean_len {t : List UInt8} {s : Say} (h : meanL t = some s) : s.parts.length ≤ 3 := by
  have := List.all_eq_true.1 parts_all s (meanGo_mem h).1
  simp only [Bool.and_eq_true, decide_eq_true_eq] at this
  exact this.1
theorem mean_parts6 {t : List UInt8} {s : Say} (h : meanL t = some s) : ∀ c ∈ s.parts, c = 97 ∨ c = 98 ∨ c = 99 ∨ c = 114 ∨ c = 107 ∨ c = 108 := by
  have := List.all_eq_true.1 parts_all s (meanGo_mem h).1
  simp only [Bool.and_eq_true, decide_eq_true_eq, List.all_eq_true, Bool.or_eq_true, beq_iff_eq] at this
  intro c hc
  have := this.2 c hc
  rcases this with ((((h | h) | h) | h) | h) | h <;> simp [h]
/-- nothing found ahead of a kind and an operator -/
def Miss (t : List UInt8) (k o : Nat) : Prop := ∀ k' o' : Nat, 1 ≤ k' → k' ≤ 13 → o' ≤ 21 → (k' < k ∨ k' = k ∧ o' < o) → okW k' o' = true → (wd k' o').1 ≠ [] → (wd k' o').1 ≠ t
theorem Miss.next {t : List UInt8} {k : Nat} (h : Miss t k 22) : Miss t (k + 1) 0 := fun k' o' a b c d e f => h k' o' a b c (by omega) e f
theorem Miss.one {t : List UInt8} {k o : Nat} (h : Miss t k o) (hn : okW k o = true → (wd k o).1 ≠ [] → (wd k o).1 ≠ t) : Miss t k (o + 1) := by
  intro k' o' a b c d e f
  by_cases hh : k' = k ∧ o' = o
  · obtain ⟨rfl, rfl⟩ := hh; exact hn e f
  · exact h k' o' a b c (by omega) e f
inductive RO (w : World) (t : List UInt8) (i : Value) (wr : World) : Prop
  | mk (k : Nat) (h1 : 1 ≤ k) (hk : k ≤ 14) (hi : i = .int .i64 k) (hm : Miss t k 0) (hs : ∃ z, Six wr w.heap.size z) (hb : Below w.heap.size w wr) : RO w t i wr
inductive RN (w : World) (t : List UInt8) (k : Nat) (i : Value) (wr : World) : Prop
  | mk (o : Nat) (hk : o ≤ 22) (hi : i = .int .i64 o) (hm : Miss t k o) (hs : ∃ z, Six wr w.heap.size z) (hb : Below w.heap.size w wr) : RN w t k i wr
set_option maxRecDepth 100000 in
set_option maxHeartbeats 4000000 in
theorem rread_any (A N C : Nat) (l : List ByteArray) (hl : l.length = N) (h0 : 0 < N) (hN : N ≤ 8193) (w : World) (hw : PAt w A l) (hA : A < w.heap.size) (t : ByteArray) (ht : l[0]? = some t) :
    Calls Tryd.prog 29 #[.slice (some ⟨A, 0, none⟩) N C] w fun e w' => RpP w e w' (insL t.data.toList ((l.map (·.data.toList)).drop 1)) := by
  obtain ⟨out, hout⟩ : ∃ o, insL t.data.toList ((l.map (·.data.toList)).drop 1) = o := ⟨_, rfl⟩
  rw [hout]
  obtain ⟨post, hpost⟩ : ∃ q : Ending → World → Prop, q = fun e w' => RpP w e w' out := ⟨_, rfl⟩
  have HPO : Hid (∀ y b w', Below w.heap.size w w' → (b = out.isSome ∧ ∀ z, out = some z → y = z) → post (.returned (yv y b)) w') := by
    rw [hpost]
    rintro y b w' hb ⟨rfl, h⟩
    exact ⟨⟨y, rfl, h⟩, hb⟩
  rw [← hpost]
  have HOUT : Hid (insL t.data.toList ((l.map (·.data.toList)).drop 1) = out) := hout
  have ht0 : l[0]'(by omega) = t := by rw [List.getElem?_eq_getElem (by omega)] at ht; exact Option.some.inj ht
  have hct : w.cell? ⟨A, 0, none⟩ = some (.string t) := by rw [← ht0]; exact (hw.c 0 (by omega)).1
  have HL : Hid (l.length = N) := hl
  have HT : Hid (t.data.toList ≠ []) := by
    have h1 := (hw.c 0 (by omega)).2.2
    rw [ht0] at h1
    intro e
    have h2 : t.data.toList.length = t.size := by simp
    rw [e] at h2; simp at h2; omega
  clear hpost hout ht ht0 hl
  go_enter Tryd.func29, Tryd.ntmps29
  go_wp2
  go_loopw [5] (fun i wr => RO w t.data.toList i wr) (fun i _ => 14 - (intOf i).toNat)
  case atStart => exact RO.mk 1 (by omega) (by omega) rfl (fun k' o' a b c d e f => by omega) ⟨⟨0, 0, 0, 0, 0, 0⟩, Six.new w ⟨0, 0, 0, 0, 0, 0⟩⟩ ((Below.refl _ _).alloc (Nat.le_refl _) _)
  case round =>
    obtain ⟨k, h1, hk, rfl, hm, hs, hb⟩ := hrel
    have HM : Hid (Miss t.data.toList k 0) := hm
    have HS : Hid (∃ z, Six wr w.heap.size z) := hs
    have HB : Hid (Below w.heap.size w wr) := hb
    clear hm hs hb
    by_cases hlt : k ≤ 13
    · obtain ⟨wo, rfl⟩ : ∃ wo : World, wo = wr := ⟨_, rfl⟩
      go_wp2
      go_loopw [6] (fun i wr => RN w t.data.toList k i wr) (fun i _ => 22 - (intOf i).toNat)
      case atStart => exact RN.mk 0 (by omega) rfl HM.out HS.out HB.out
      case round =>
        clear HM HS HB
        obtain ⟨o, ho, rfl, hm, hs, hb⟩ := hrel
        have HM : Hid (Miss t.data.toList k o) := hm
        have HS : Hid (∃ z, Six wr w.heap.size z) := hs
        have HB : Hid (Below w.heap.size w wr) := hb
        clear hm hs hb
        by_cases hlo : o ≤ 21
        · obtain ⟨S1, hS1⟩ : ∃ S : ByteArray, ⟨(wd k o).1.toArray⟩ = S := ⟨_, rfl⟩
          obtain ⟨S2, hS2⟩ : ∃ S : ByteArray, ⟨(wd k o).2.toArray⟩ = S := ⟨_, rfl⟩
          have C7 : Hid (∀ W, Calls Tryd.prog 7 #[.agg #[.int .i64 (k : Int), .int .i64 (o : Int), .int .i64 0, .int .i64 0, .int .i64 0, .int .i64 0]] W fun e w' => e = .returned (.tuple #[.string S1, .string S2]) ∧ Below W.heap.size W w') := fun W => by rw [← hS1, ← hS2]; exact refWord_any ⟨(k : Int), (o : Int), 0, 0, 0, 0⟩ W
          go_upto_region 9 with (go_at_call 7; refine (C7.out _).mono ?_; rintro e w1 ⟨rfl, b1⟩; have HB1 : Hid (Below w.heap.size w w1) := (HB.out.alloc HB.out.size _).trans (b1.mono (by have := HB.out.size; simp; omega)); have HS1 : Hid (∃ z, Six w1 w.heap.size z) := (by obtain ⟨z, hz⟩ := HS.out; exact ⟨z, (hz.alloc _).block (b1.block _ (hz.alloc _).lt) b1.size⟩); have HX1 : Hid (Six w1 wr.heap.size ⟨(k : Int), (o : Int), 0, 0, 0, 0⟩) := (Six.new wr ⟨(k : Int), (o : Int), 0, 0, 0, 0⟩).block (b1.block _ (Six.new wr ⟨(k : Int), (o : Int), 0, 0, 0, 0⟩).lt) b1.size; clear b1)
          have hc1 : w1.cell? ⟨A, 0, none⟩ = some (.string t) := (HB1.out.cell (p := ⟨A, 0, none⟩) hA).trans hct
          obtain ⟨x0, x1, x2, x3, x4, x5, f0, f1, f2, f3, f4, f5, hlx⟩ := HX1.out
          have HC : Hid (okW k o = true → (wd k o).1 ≠ [] → (wd k o).1 = t.data.toList → Calls Tryd.prog 46 #[.agg #[.int .i64 (k : Int), .int .i64 (o : Int), .int .i64 0, .int .i64 0, .int .i64 0, .int .i64 0], .string S2, .slice (some ⟨A, 0, none⟩) N C] w1 fun e w' => RpP w1 e w' out) := by
            intro g1 g2 g3
            obtain ⟨sy, hsy, e1, e2, e3⟩ := wd_found hlt hlo g2 g3 g1
            have hpl : S2.data.toList = sy.parts := by rw [e3, ← hS2]
            have hps : S2.size = sy.parts.length := by rw [← hpl]; simp
            have := rparts_any ⟨(k : Int), (o : Int), 0, 0, 0, 0⟩ ⟨Int.le_refl _, Int.le_refl _, Int.le_refl _⟩ S2 (by rw [hps]; exact mean_len hsy) (fun i hi => by
              have hm : S2[i] ∈ sy.parts := by
                rw [← hpl]
                exact List.mem_of_getElem (h := by simpa using hi) rfl
              exact mean_parts6 hsy _ hm) A N C l HL.out hN w1 ⟨fun i hi => ⟨(HB1.out.cell (p := ⟨A, i, none⟩) hA).trans (hw.c i hi).1, (hw.c i hi).2⟩⟩ (Nat.lt_of_lt_of_le hA HB1.out.size)
            refine this.mono fun e w' h => ?_
            have ho : out = (if N = S2.size + 1 then readAll (⟨(k : Int), (o : Int), 0, 0, 0, 0⟩, []) S2.data.toList ((l.map (·.data.toList)).drop 1) else none) := by
              rw [← HOUT.out]
              unfold insL
              rw [hsy]
              show (if ((l.map (·.data.toList)).drop 1).length = sy.parts.length then _ else _) = _
              rw [hps, hpl, e1, e2, List.length_drop, List.length_map, HL.out]
              by_cases hq : N - 1 = sy.parts.length
              · rw [if_pos hq, if_pos (by omega)]
              · rw [if_neg hq, if_neg (by omega)]
            rw [ho]
            exact h
          have ht1 : ¬ t.toList = [] := by rw [ByteArray.toList_eq]; exact HT.out
          have hS1l : S1.toList = (wd k o).1 := by rw [ByteArray.toList_eq, ← hS1]
          by_cases hE : S1.toList = []
          · have HMN : Hid (Miss t.data.toList k (o + 1)) := HM.out.one (fun _ h _ => h (hS1l.symm.trans hE))
            clear HC hS1 hS2 hS1l
            go_wp2
            all_goals
              refine ⟨⟨_, _, _, RN.mk (o + 1) (by omega) (by go_num) HMN.out HS1.out HB1.out, rfl, rfl, rfl⟩, by simp [intOf]; omega⟩
          · by_cases hT : S1.toList = t.toList
            · have hST : S1 = t := by
                apply ByteArray.ext
                apply Array.toList_inj.1
                rw [← ByteArray.toList_eq, ← ByteArray.toList_eq]; exact hT
              have g2 : (wd k o).1 ≠ [] := by rw [← hS1l]; exact hE
              have g3 : (wd k o).1 = t.data.toList := by rw [← hS1l, hT, ByteArray.toList_eq]
              have hti : t.toList.isEmpty = false := by simpa using ht1
              clear hE hT hS1 hS1l hS2
              subst hST
              by_cases h4 : k = 4
              · subst h4
                have HCP : Hid (Calls Tryd.prog 46 #[.agg #[.int .i64 4, .int .i64 (o : Int), .int .i64 0, .int .i64 0, .int .i64 0, .int .i64 0], .string S2, .slice (some ⟨A, 0, none⟩) N C] w1 fun e w' => RpP w1 e w' out) := HC.out rfl g2 g3
                clear HC g2 g3
                go_wp2_with (go_at_call 46; refine HCP.out.mono ?_; rintro e w2 ⟨⟨y, rfl, hy⟩, b2⟩; have HY : Hid (∀ z, out = some z → y = z) := hy; have HB2 : Hid (Below w.heap.size w w2) := HB1.out.trans (b2.mono HB1.out.size); obtain ⟨z, hz⟩ := HS1.out; have hz2 := hz.block (b2.block _ hz.lt) b2.size; have HZ2 : Hid (Six w2 w.heap.size z) := hz2; obtain ⟨z0, z1, z2, z3, z4, z5, k0, k1, k2, k3, k4, k5, _⟩ := hz2; unfold yv iv; clear hy b2 hz)
                refine bodyPost_ret (ret_six3 2 3 4 Tryd.results29 _ w.heap.size rfl _ _ rfl rfl _ (put6_six HZ2.out y.1)) rfl ?_
                exact HPO.out y _ _ (put6_below (b := w.heap.size) HB2.out (Nat.le_refl _) y.1) ⟨rfl, HY.out⟩
              · by_cases h5 : k = 5
                · subst h5
                  have HCP : Hid (Calls Tryd.prog 46 #[.agg #[.int .i64 5, .int .i64 (o : Int), .int .i64 0, .int .i64 0, .int .i64 0, .int .i64 0], .string S2, .slice (some ⟨A, 0, none⟩) N C] w1 fun e w' => RpP w1 e w' out) := HC.out rfl g2 g3
                  clear HC g2 g3
                  go_wp2_with (go_at_call 46; refine HCP.out.mono ?_; rintro e w2 ⟨⟨y, rfl, hy⟩, b2⟩; have HY : Hid (∀ z, out = some z → y = z) := hy; have HB2 : Hid (Below w.heap.size w w2) := HB1.out.trans (b2.mono HB1.out.size); obtain ⟨z, hz⟩ := HS1.out; have hz2 := hz.block (b2.block _ hz.lt) b2.size; have HZ2 : Hid (Six w2 w.heap.size z) := hz2; obtain ⟨z0, z1, z2, z3, z4, z5, k0, k1, k2, k3, k4, k5, _⟩ := hz2; unfold yv iv; clear hy b2 hz)
                  refine bodyPost_ret (ret_six3 2 3 4 Tryd.results29 _ w.heap.size rfl _ _ rfl rfl _ (put6_six HZ2.out y.1)) rfl ?_
                  exact HPO.out y _ _ (put6_below (b := w.heap.size) HB2.out (Nat.le_refl _) y.1) ⟨rfl, HY.out⟩
                · have h4' : ((k : Int) == 4) = false := by simp; omega
                  have h5' : ((k : Int) == 5) = false := by simp; omega
                  by_cases h00 : o = 0
                  · subst h00
                    have HCP : Hid (Calls Tryd.prog 46 #[.agg #[.int .i64 (k : Int), .int .i64 0, .int .i64 0, .int .i64 0, .int .i64 0, .int .i64 0], .string S2, .slice (some ⟨A, 0, none⟩) N C] w1 fun e w' => RpP w1 e w' out) := HC.out (by simp [okW]) g2 g3
                    clear HC g2 g3
                    go_wp2_with (go_at_call 46; refine HCP.out.mono ?_; rintro e w2 ⟨⟨y, rfl, hy⟩, b2⟩; have HY : Hid (∀ z, out = some z → y = z) := hy; have HB2 : Hid (Below w.heap.size w w2) := HB1.out.trans (b2.mono HB1.out.size); obtain ⟨z, hz⟩ := HS1.out; have hz2 := hz.block (b2.block _ hz.lt) b2.size; have HZ2 : Hid (Six w2 w.heap.size z) := hz2; obtain ⟨z0, z1, z2, z3, z4, z5, k0, k1, k2, k3, k4, k5, _⟩ := hz2; unfold yv iv; clear hy b2 hz)
                    refine bodyPost_ret (ret_six3 2 3 4 Tryd.results29 _ w.heap.size rfl _ _ rfl rfl _ (put6_six HZ2.out y.1)) rfl ?_
                    exact HPO.out y _ _ (put6_below (b := w.heap.size) HB2.out (Nat.le_refl _) y.1) ⟨rfl, HY.out⟩
                  · have h0' : ((o : Int) == 0) = false := by simp; omega
                    have h0'' : ((o : Int) != 0) = true := by simp; omega
                    have HMN : Hid (Miss S1.data.toList k (o + 1)) := HM.out.one (fun h _ _ => by simp [okW, h4, h5, h00] at h)
                    clear HC g2 g3
                    go_wp2
                    all_goals
                      refine ⟨⟨_, _, _, RN.mk (o + 1) (by omega) (by go_num) HMN.out HS1.out HB1.out, rfl, rfl, rfl⟩, by simp [intOf]; omega⟩
            · have HMN : Hid (Miss t.data.toList k (o + 1)) := HM.out.one (fun _ _ h => hT (by rw [hS1l, h, ByteArray.toList_eq]))
              clear HC hS1 hS2 hS1l
              go_wp2
              all_goals
                refine ⟨⟨_, _, _, RN.mk (o + 1) (by omega) (by go_num) HMN.out HS1.out HB1.out, rfl, rfl, rfl⟩, by simp [intOf]; omega⟩
        · have ho : o = 22 := by omega
          subst ho
          go_wp2
          go_roundw
          case rel => exact RO.mk (k + 1) (by omega) (by omega) (by go_num) HM.out.next HS.out HB.out
          case measure => simp [intOf]; omega
    · have hk : k = 14 := by omega
      subst hk
      have HN : Hid (out = none) := by
        show _ = _
        rw [← HOUT.out]
        unfold insL
        rw [wd_none (fun k o a b c d e => HM.out k o a b c (by omega) d e)]
        rfl
      obtain ⟨z, hz⟩ := HS.out
      have HZ : Hid (Six wr w.heap.size z) := hz
      obtain ⟨z0, z1, z2, z3, z4, z5, k0, k1, k2, k3, k4, k5, _⟩ := hz
      go_wp2
      refine bodyPost_ret (ret_six3 2 3 4 Tryd.results29 _ w.heap.size rfl _ _ rfl rfl _ (put6_six HZ.out ⟨0, 0, 0, 0, 0, 0⟩)) rfl ?_
      exact HPO.out (⟨0, 0, 0, 0, 0, 0⟩, []) false _ (put6_below (b := w.heap.size) HB.out (Nat.le_refl _) ⟨0, 0, 0, 0, 0, 0⟩) (by rw [HN.out]; exact ⟨rfl, fun z h => by cases h⟩)
end Go.Proofs.YthcidcfaodjbjabDoor
