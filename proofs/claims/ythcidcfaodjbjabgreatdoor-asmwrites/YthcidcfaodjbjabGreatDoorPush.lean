/- An instruction and its line are put behind all others: the two appends. -/
import Derived.Test.YthcidcfaodjbjabGreatDoorRd
import Derived.Test.YthcidcfaodjbjabGreatDoorIChk
import Derived.OwnWalk
import Derived.Below
import Derived.Maps.Own
import Derived.Maps.OwnOps
import Derived.Maps.OwnSet
import Derived.Maps.Views
import Derived.Maps.AppendAt
import Derived.Deep.RegionHeld3
namespace Go.Proofs.YthcidcfaodjbjabGreatDoor
open Go.RowKit Go.Maps Go.WideMaps
set_option linter.unusedVariables false

/-- instructions' cells -/
def ic (x : In) : List Value := [.int .i64 x.kind, .int .i64 x.op, .int .i64 x.a, .int .i64 x.b, .int .i64 x.c, .int .i64 x.k]
def ics : List In → List Value
  | [] => []
  | x :: l => ic x ++ ics l
theorem ics_len (l : List In) : (ics l).length = l.length * 6 := by
  induction l with
  | nil => rfl
  | cons x l ih => simp [ics, ic, ih]; omega
theorem ics_app (a b : List In) : ics (a ++ b) = ics a ++ ics b := by
  induction a with
  | nil => rfl
  | cons x a ih => simp [ics, ih]
theorem ic_one (x : In) : ∀ u ∈ ics [x], u.oneCell' = true := by
  intro u hu
  simp [ics, ic] at hu
  rcases hu with rfl | rfl | rfl | rfl | rfl | rfl <;> rfl
theorem ics_at : ∀ (l : List In) (i j : Nat) (hi : i < l.length), j < 6 → (ics l)[i * 6 + j]? = (ic l[i])[j]?
  | x :: l, 0, j, hi, hj => by
    simp only [Nat.zero_mul, Nat.zero_add, List.getElem_cons_zero, ics]
    rw [List.getElem?_append_left (by simp [ic]; omega)]
  | x :: l, i + 1, j, hi, hj => by
    simp only [ics, List.getElem_cons_succ]
    rw [List.getElem?_append_right (by simp [ic]; omega)]
    have : (i + 1) * 6 + j - (ic x).length = i * 6 + j := by simp [ic]; omega
    rw [this]
    exact ics_at l i j (by simpa using hi) hj
/-- a slice of instructions of the call's own -/
def IOwn (w : World) (base : Nat) (v : Value) (l : List In) : Prop := w.ownsRow base 41 6 v l.length (ics l)
theorem own_keep {w w' : World} {base e size n : Nat} {v : Value} {xs : List Value} (h : w.ownsRow base e size v n xs) (hb : ∀ k, v.ownBlock = some k → w'.heap[k]? = w.heap[k]?) : w'.ownsRow base e size v n xs := by
  obtain ⟨h1, h2⟩ := h
  refine ⟨h1, ?_⟩
  rcases h2 with h2 | ⟨g, cap, cur, e1, e2, e3, e4⟩
  · exact Or.inl h2
  · refine Or.inr ⟨g, cap, cur, e1, e2, ?_, e4⟩
    rw [hb g (by rw [e1]; rfl)]; exact e3
theorem IOwn.nil (w : World) (base : Nat) : IOwn w base (.slice none 0 0) [] := ⟨rfl, Or.inl ⟨rfl, rfl⟩⟩
theorem IOwn.isl {w : World} {base : Nat} {v : Value} {l : List In} (h : IOwn w base v l) : ISl w v l := by
  have hce := fun g => World.ownsRow.cells h (g := g)
  obtain ⟨h1, h2⟩ := h
  rcases h2 with ⟨h2, h3⟩ | ⟨g, cap, cur, e1, e2, e3, e4, e5, e6, e7⟩
  · obtain rfl := List.eq_nil_of_length_eq_zero h3
    subst h2
    exact ISl.nil w
  · refine ⟨_, cap, g, 0, e1, e4, e5, fun _ => rfl, fun i hi => ?_⟩
    have hc : ∀ j (hj : j < 6) (u : Value), (ic l[i])[j]? = some u → w.cell? ⟨g, 0 + i * 6 + j, none⟩ = some u := by
      intro j hj u hu
      have := hce g (by rw [e1]; rfl) (i * 6 + j) u ((ics_at l i j hi hj).trans hu)
      rw [addn, Nat.zero_add] at this
      rw [Nat.zero_add]; exact this
    exact ⟨hc 0 (by omega) _ rfl, hc 1 (by omega) _ rfl, hc 2 (by omega) _ rfl, hc 3 (by omega) _ rfl, hc 4 (by omega) _ rfl, hc 5 (by omega) _ rfl⟩
theorem own_sl {w : World} {base e size n : Nat} {v : Value} {xs : List Value} (h : w.ownsRow base e size v n xs) : ∃ a c, v = .slice a n c := by
  rcases h.2 with ⟨h2, h3⟩ | ⟨g, cap, cur, e1, _⟩
  · exact ⟨none, 0, by rw [h3]; exact h2⟩
  · exact ⟨_, _, e1⟩
/-- lines and labels' cells -/
def oc (o : Int × List UInt8) : List Value := [.int .i64 o.1, .string ⟨o.2.toArray⟩]
def ocs : List (Int × List UInt8) → List Value
  | [] => []
  | x :: l => oc x ++ ocs l
theorem ocs_len (l : List (Int × List UInt8)) : (ocs l).length = l.length * 2 := by
  induction l with
  | nil => rfl
  | cons x l ih => simp [ocs, oc, ih]; omega
theorem ocs_app (a b : List (Int × List UInt8)) : ocs (a ++ b) = ocs a ++ ocs b := by
  induction a with
  | nil => rfl
  | cons x a ih => simp [ocs, ih]
theorem oc_one (x : Int × List UInt8) : ∀ u ∈ ocs [x], u.oneCell' = true := by
  intro u hu
  simp [ocs, oc] at hu
  rcases hu with rfl | rfl <;> rfl
theorem ocs_at : ∀ (l : List (Int × List UInt8)) (i j : Nat) (hi : i < l.length), j < 2 → (ocs l)[i * 2 + j]? = (oc l[i])[j]?
  | x :: l, 0, j, hi, hj => by
    simp only [Nat.zero_mul, Nat.zero_add, List.getElem_cons_zero, ocs]
    rw [List.getElem?_append_left (by simp [oc]; omega)]
  | x :: l, i + 1, j, hi, hj => by
    simp only [ocs, List.getElem_cons_succ]
    rw [List.getElem?_append_right (by simp [oc]; omega)]
    have : (i + 1) * 2 + j - (oc x).length = i * 2 + j := by simp [oc]; omega
    rw [this]
    exact ocs_at l i j (by simpa using hi) hj
def OOwn (w : World) (base : Nat) (v : Value) (l : List (Int × List UInt8)) : Prop := w.ownsRow base 78 2 v l.length (ocs l)

/-- the map of labels -/
def kl (s : List UInt8) : Lit := .string s
def rl (r : Int) : DataW Unit := .lit (.int .i64 r)
structure Rep (T : List (List UInt8 × Int)) (D : DataW Unit) : Prop where
  has : ∀ s, Maps.has D (kl s) = (findT T s).isSome
  at_ : ∀ s r, findT T s = some r → D.atKey (kl s) (rl 0) = rl r
  size : Maps.size D = T.length
  tidy : Tidy D
theorem findT_snoc (T : List (List UInt8 × Int)) (s : List UInt8) (r : Int) (t : List UInt8) : findT (T ++ [(s, r)]) t = match findT T t with
    | some q => some q
    | none => if s = t then some r else none := by
  unfold findT
  rw [List.find?_append]
  generalize List.find? (fun x => x.1 == t) T = q
  cases q with
  | some q => rfl
  | none =>
    by_cases h : s = t
    · subst h; simp
    · have : (s == t) = false := by simpa using h
      simp [h]
theorem Rep.put {T : List (List UInt8 × Int)} {D : DataW Unit} (h : Rep T D) (s : List UInt8) (hf : findT T s = none) (r : Int) : Rep (T ++ [(s, r)]) (D.put (kl s) (rl r)) := by
  have hk : WideAt.IsKeyLit (kl s) := trivial
  refine ⟨fun t => ?_, fun t q hq => ?_, ?_, h.tidy.put hk _⟩
  · by_cases ht : s = t
    · subst ht
      rw [has_put_same h.tidy.isMap hk, findT_snoc, hf]; simp
    · rw [has_put_other (fun e => ht (by injection e with e; exact e.symm)), h.has, findT_snoc]
      cases findT T t with
      | some q => rfl
      | none => simp [ht]
  · by_cases ht : s = t
    · subst ht
      rw [findT_snoc, hf] at hq
      simp at hq
      subst hq
      rw [atKey_put_same h.tidy.isMap hk]
    · rw [atKey_put_other (fun e => ht (by injection e with e; exact e.symm))]
      refine h.at_ t q ?_
      rw [findT_snoc] at hq
      cases h2 : findT T t with
      | some p => rw [h2] at hq; exact hq
      | none => rw [h2] at hq; simp [ht] at hq
  · rw [size_put h.tidy, h.has, hf, h.size]; simp
theorem rep0 : Rep [] (.map [] : DataW Unit) := ⟨fun s => rfl, fun s r h => (by cases h), rfl, tidy_empty⟩
theorem law9 : Keyed Tryz.prog 9 := string_keyed Tryz.underlying9
theorem zero3 (w : World) : (zeroValue 3).run Tryz.prog w = .ok (.int .i64 0) w := by kernel_rfl
theorem ownsMap_keep {w w' : World} {b n : Nat} {D : DataW Unit} (h : w.ownsMap Tryz.prog 9 (plainElem Tryz.prog 3) b n D) (hb : w'.heap[b]? = w.heap[b]?) : w'.ownsMap Tryz.prog 9 (plainElem Tryz.prog 3) b n D := by
  obtain ⟨es, clock, h1, h2⟩ := h
  exact ⟨es, clock, hb.trans h1, h2⟩

/-- a reader's state -/
structure RSt (w : World) (rb mb base : Nat) (vc vf : Value) (st : Rs) : Prop where
  c0 : w.cell? ⟨rb, 0, none⟩ = some vc
  c1 : w.cell? ⟨rb, 1, none⟩ = some vf
  c2 : w.cell? ⟨rb, 2, none⟩ = some (.map (some mb))
  f0 : w.frozen? ⟨rb, 0, none⟩ = false
  f1 : w.frozen? ⟨rb, 1, none⟩ = false
  code : IOwn w base vc st.code
  frm : OOwn w base vf st.frm
  map : ∃ D, w.ownsMap Tryz.prog 9 (plainElem Tryz.prog 3) mb st.tab.length D ∧ Rep st.tab D
  apart : ∀ k, vc.ownBlock = some k → vf.ownBlock ≠ some k
  rlt : rb < base
  mlt : mb < base
  ne : mb ≠ rb
  bs : base ≤ w.heap.size
/-- what a reader's call leaves alone -/
structure FR (rb mb base : Nat) (w w' : World) : Prop where
  os : w'.os = w.os
  tape : w'.tape = w.tape
  output : w'.output = w.output
  size : w.heap.size ≤ w'.heap.size
  block : ∀ k, k < base → k ≠ rb → k ≠ mb → w'.heap[k]? = w.heap[k]?
theorem FR.refl (rb mb base : Nat) (w : World) : FR rb mb base w w := ⟨rfl, rfl, rfl, Nat.le_refl _, fun _ _ _ _ => rfl⟩
theorem FR.trans {rb mb base : Nat} {a b c : World} (h : FR rb mb base a b) (k : FR rb mb base b c) : FR rb mb base a c :=
  ⟨k.os.trans h.os, k.tape.trans h.tape, k.output.trans h.output, Nat.le_trans h.size k.size, fun i h1 h2 h3 => (k.block i h1 h2 h3).trans (h.block i h1 h2 h3)⟩
theorem FR.of {rb mb base : Nat} {a b : World} (h : Below a.heap.size a b) (hb : base ≤ a.heap.size) : FR rb mb base a b :=
  ⟨h.os, h.tape, h.output, h.size, fun i h1 _ _ => h.block i (by omega)⟩
theorem own_lt {w : World} {base e size n : Nat} {v : Value} {xs : List Value} (h : w.ownsRow base e size v n xs) : ∀ k, v.ownBlock = some k → base ≤ k ∧ k < w.heap.size := World.ownsRow.lt h
theorem RSt.keep {w w' : World} {rb mb base : Nat} {vc vf : Value} {st : Rs} (h : RSt w rb mb base vc vf st) (h1 : w'.heap[rb]? = w.heap[rb]?) (h2 : w'.heap[mb]? = w.heap[mb]?) (h3 : ∀ k, vc.ownBlock = some k → w'.heap[k]? = w.heap[k]?) (h4 : ∀ k, vf.ownBlock = some k → w'.heap[k]? = w.heap[k]?) (hs : w.heap.size ≤ w'.heap.size) : RSt w' rb mb base vc vf st := by
  obtain ⟨D, m1, m2⟩ := h.map
  exact ⟨(World.cell?_of_block (w := w) (a := ⟨rb, 0, none⟩) h1).trans h.c0, (World.cell?_of_block (w := w) (a := ⟨rb, 1, none⟩) h1).trans h.c1, (World.cell?_of_block (w := w) (a := ⟨rb, 2, none⟩) h1).trans h.c2, (World.frozen?_of_block (w := w) (a := ⟨rb, 0, none⟩) h1).trans h.f0, (World.frozen?_of_block (w := w) (a := ⟨rb, 1, none⟩) h1).trans h.f1, own_keep h.code h3, own_keep h.frm h4, ⟨D, ownsMap_keep m1 h2, m2⟩, h.apart, h.rlt, h.mlt, h.ne, Nat.le_trans h.bs hs⟩
theorem RSt.below {w w' : World} {rb mb base : Nat} {vc vf : Value} {st : Rs} (h : RSt w rb mb base vc vf st) (hb : Below w.heap.size w w') : RSt w' rb mb base vc vf st :=
  h.keep (hb.block _ (Nat.lt_of_lt_of_le h.rlt h.bs)) (hb.block _ (Nat.lt_of_lt_of_le h.mlt h.bs)) (fun k hk => hb.block _ (own_lt h.code k hk).2) (fun k hk => hb.block _ (own_lt h.frm k hk).2) hb.size
theorem RSt.drew {w : World} {rb mb base : Nat} {vc vf : Value} {st : Rs} (h : RSt w rb mb base vc vf st) : RSt w.drew rb mb base vc vf st :=
  h.below ((Below.refl _ _).drew)
/-- what becomes of a line -/
def LrP (rb mb base : Nat) (w : World) (e : Ending) (w' : World) : Lr → Prop
  | .err x => e = .returned (.int .i64 x) ∧ (x == 0) = false ∧ FR rb mb base w w'
  | .ok st => e = .returned (.int .i64 0) ∧ ∃ vc vf, RSt w' rb mb base vc vf st ∧ FR rb mb base w w'

/-- a label is noted -/
theorem RSt.noted {w w1 : World} {rb mb base : Nat} {vc vf : Value} {st : Rs} {s : List UInt8} {D : DataW Unit} {r : Int} (h : RSt w rb mb base vc vf st) (hf : findT st.tab s = none) (hr : Rep st.tab D)
    (hown : w1.ownsMap Tryz.prog 9 (plainElem Tryz.prog 3) mb (st.tab.length + 1) (D.put (kl s) (rl r))) (hg : w.grownBy w1 (some mb)) :
    RSt w1 rb mb base vc vf ⟨st.code, st.frm, st.tab ++ [(s, r)]⟩ ∧ FR rb mb base w w1 := by
  have hrl := h.rlt
  have hml := h.mlt
  have hbs := h.bs
  have hne := h.ne
  have hpb : w1.heap[rb]? = w.heap[rb]? := hg.block rb (by omega) (by intro e; cases e; exact hne rfl)
  have oc := own_lt h.code
  have of := own_lt h.frm
  refine ⟨⟨(World.cell?_of_block (w := w) (a := ⟨rb, 0, none⟩) hpb).trans h.c0, (World.cell?_of_block (w := w) (a := ⟨rb, 1, none⟩) hpb).trans h.c1, (World.cell?_of_block (w := w) (a := ⟨rb, 2, none⟩) hpb).trans h.c2, (World.frozen?_of_block (w := w) (a := ⟨rb, 0, none⟩) hpb).trans h.f0, (World.frozen?_of_block (w := w) (a := ⟨rb, 1, none⟩) hpb).trans h.f1,
    own_keep h.code (fun k hk => hg.block k (oc k hk).2 (by intro e; cases e; have := (oc mb hk).1; omega)), own_keep h.frm (fun k hk => hg.block k (of k hk).2 (by intro e; cases e; have := (of mb hk).1; omega)),
    ⟨_, ?_, hr.put s hf r⟩, h.apart, h.rlt, h.mlt, h.ne, Nat.le_trans hbs hg.size⟩, ⟨hg.os, hg.tape, hg.output, hg.size, fun k hk h1 h2 => hg.block k (by omega) (by intro e; cases e; exact h2 rfl)⟩⟩
  simpa using hown

set_option maxRecDepth 100000 in
set_option maxHeartbeats 2000000 in
theorem label_line (rb mb base : Nat) (vc vf : Value) (st : Rs) (s : ByteArray) (hs : s.size ≤ maxLen) (w : World) (h : RSt w rb mb base vc vf st) (hl : st.tab.length ≤ 100000) (hc : st.code.length ≤ 100000) :
    Calls Tryz.prog 54 #[.pointer (some ⟨rb, 0, none⟩), .string s] w fun e w' => LrP rb mb base w e w' (labelL st s.data.toList) := by
  obtain ⟨D, m1, m2⟩ := h.map
  have HM : Hid (w.ownsMap Tryz.prog 9 (plainElem Tryz.prog 3) mb st.tab.length D) := m1
  have HK : Hid (keyOf Tryz.prog 9 (.string s) = some (kl s.data.toList)) := keyOf_string_mk Tryz.underlying9 hs
  have HW : Hid (RSt w rb mb base vc vf st) := h
  have c2 := h.c2
  unfold labelL
  obtain ⟨b, hb⟩ : ∃ b, labB s.data.toList = b := ⟨_, rfl⟩
  have HC : Hid (∀ w, Calls Tryz.prog 72 #[.string s] w fun e w' => e = .returned (.bool b) ∧ w' = w) := fun w => by rw [← hb]; exact label_any s hs w
  rw [hb]
  clear hb
  cases b with
  | false =>
    show Calls Tryz.prog 54 #[.pointer (some ⟨rb, 0, none⟩), .string s] w fun e w' => e = .returned (.int .i64 90) ∧ (90 == (0 : Int)) = false ∧ FR rb mb base w w'
    clear h m1 m2 c2
    go_enter Tryz.func54, Tryz.ntmps54
    go_wp2_with (go_at_call 72; refine (HC.out _).mono ?_; rintro e w' ⟨rfl, rfl⟩)
    go_ret
    exact ⟨rfl, rfl, FR.refl _ _ _ _⟩
  | true =>
    rw [if_pos rfl]
    rcases hf : findT st.tab s.data.toList with _ | r
    · have HH : Hid (Maps.has D (kl s.data.toList) = false) := by show _ = _; rw [m2.has, hf]; rfl
      have HF : Hid (findT st.tab s.data.toList = none) := hf
      have HR : Hid (Rep st.tab D) := m2
      have c0 := h.c0
      obtain ⟨ca, cc, rfl⟩ := own_sl h.code
      have HMD : Hid (w.drew.ownsMap Tryz.prog 9 (plainElem Tryz.prog 3) mb st.tab.length D) := m1
      obtain ⟨cl, hcl⟩ : ∃ n, st.code.length = n := ⟨_, rfl⟩
      rw [hcl] at c0 hc HW
      have HCL : Hid (st.code.length = cl) := hcl
      obtain ⟨w1, e1, o1, g1⟩ := HMD.out.update law9 Tryz.underlying74 (by unfold maxLen; omega) HK.out (plainElem_int Tryz.underlying3 (WalkArith.wf_i64 (n := (cl : Int)) (by omega)))
      have HN : Hid (RSt w1 rb mb base (.slice ca cl cc) vf ⟨st.code, st.frm, st.tab ++ [(s.data.toList, (cl : Int))]⟩ ∧ FR rb mb base w.drew w1) := HW.out.drew.noted HF.out HR.out o1 g1
      have HFR : Hid (FR rb mb base w w1) := ⟨HN.out.2.os, HN.out.2.tape, HN.out.2.output, HN.out.2.size, HN.out.2.block⟩
      rw [hcl]
      show Calls Tryz.prog 54 #[.pointer (some ⟨rb, 0, none⟩), .string s] w fun e w' => e = .returned (.int .i64 0) ∧ ∃ vc vf, RSt w' rb mb base vc vf ⟨st.code, st.frm, st.tab ++ [(s.data.toList, (cl : Int))]⟩ ∧ FR rb mb base w w'
      clear h m1 m2 hf hcl o1 g1
      go_enter Tryz.func54, Tryz.ntmps54
      go_wp2_with (first | (go_at_call 72; refine (HC.out _).mono ?_; rintro e w' ⟨rfl, rfl⟩) | (at_lookup; refine wpList_lookup_own_ok_int _ rfl _ _ 74 rfl 9 3 .i64 law9 Tryz.underlying74 Tryz.underlying3 (zero3 _) mb _ D rfl HM.out _ _ rfl HK.out ?_; intro c hat hwc; rw [HH.out]; clear hat))
      have d0 := HN.out.1.c0
      have d2 := HN.out.1.c2
      go_region_held3 (fun w'' => w''.cell? ⟨rb, 0, none⟩ = some (.slice ca cl cc) ∧ w''.cell? ⟨rb, 2, none⟩ = some (.map (some mb))) (go_keep) (fail)
      go_wp2
      go_ret
      exact ⟨rfl, _, _, HN.out.1, HFR.out⟩
    · have HH : Hid (Maps.has D (kl s.data.toList) = true) := by show _ = _; rw [m2.has, hf]; rfl
      show Calls Tryz.prog 54 #[.pointer (some ⟨rb, 0, none⟩), .string s] w fun e w' => e = .returned (.int .i64 91) ∧ (91 == (0 : Int)) = false ∧ FR rb mb base w w'
      clear h m1 m2 hf
      go_enter Tryz.func54, Tryz.ntmps54
      go_wp2_with (first | (go_at_call 72; refine (HC.out _).mono ?_; rintro e w' ⟨rfl, rfl⟩) | (at_lookup; refine wpList_lookup_own_ok_int _ rfl _ _ 74 rfl 9 3 .i64 law9 Tryz.underlying74 Tryz.underlying3 (zero3 _) mb _ D rfl HM.out _ _ rfl HK.out ?_; intro c hat hwc; rw [HH.out]; clear hat))
      go_ret
      exact ⟨rfl, rfl, FR.refl _ _ _ _⟩
end Go.Proofs.YthcidcfaodjbjabGreatDoor
namespace Go.Proofs.YthcidcfaodjbjabGreatDoor
open Go.RowKit Go.Maps Go.WideMaps
set_option linter.unusedVariables false

/-- between the two appends -/
structure Mid (w : World) (rb mb base : Nat) (vc vf v : Value) (st : Rs) (x : In) : Prop where
  c0 : w.cell? ⟨rb, 0, none⟩ = some vc
  c1 : w.cell? ⟨rb, 1, none⟩ = some vf
  c2 : w.cell? ⟨rb, 2, none⟩ = some (.map (some mb))
  f0 : w.frozen? ⟨rb, 0, none⟩ = false
  f1 : w.frozen? ⟨rb, 1, none⟩ = false
  code : IOwn w base v (st.code ++ [x])
  frm : OOwn w base vf st.frm
  map : ∃ D, w.ownsMap Tryz.prog 9 (plainElem Tryz.prog 3) mb st.tab.length D ∧ Rep st.tab D
  apart : ∀ k, v.ownBlock = some k → vf.ownBlock ≠ some k
  rlt : rb < base
  mlt : mb < base
  ne : mb ≠ rb
  bs : base ≤ w.heap.size
theorem info25 : (Tryz.prog.info? 41).map (fun i => (i.zero, i.size, i.bytes)) = some (some (.agg #[.int .i64 0, .int .i64 0, .int .i64 0, .int .i64 0, .int .i64 0, .int .i64 0]), 6, 48) := by kernel_rfl
theorem info63 : (Tryz.prog.info? 78).map (fun i => (i.zero, i.size, i.bytes)) = some (some (.agg #[.int .i64 0, .string ⟨#[]⟩]), 2, 24) := by kernel_rfl
theorem row_at {w : World} {g t : Nat} {l : List Value} (hg : w.heap[g]? = some (.cells l.toArray t (0, 0))) : ∀ j u, l[j]? = some u → w.cell? ((⟨g, 0, none⟩ : Addr).add j) = some u := by
  intro j u hj
  rw [addn, Nat.zero_add, cell_of_row w g j _ _ _ hg]
  simpa using hj
theorem own_form {w : World} {base e size n : Nat} {v : Value} {xs : List Value} (h : w.ownsRow base e size v (n + 1) xs) : ∃ g cap, v = .slice (some ⟨g, 0, none⟩) (n + 1) cap := by
  rcases h.2 with ⟨_, h⟩ | ⟨g, cap, _, h, _⟩
  · omega
  · exact ⟨g, cap, h⟩

theorem mid_of {D Wa : World} {rb mb base g : Nat} {vc vf : Value} {st : Rs} {x : In} (h : RSt D rb mb base vc vf st) (hb : Below D.heap.size D Wa) (hg : Wa.heap[g]? = some (.cells (ic x).toArray 41 (0, 0))) (hl : st.code.length ≤ 100000) :
    ∃ v U, (Builtin.append_ #[22, 22] 22 #[vc, .slice (some ⟨g, 0, none⟩) 1 1]).run Tryz.prog Wa = .ok v U ∧ Mid U rb mb base vc vf v st x ∧ FR rb mb base D U ∧ (∀ k, k < Wa.heap.size → some k ≠ vc.ownBlock → U.heap[k]? = Wa.heap[k]?) ∧ Wa.heap.size ≤ U.heap.size ∧ (∃ g' cap, v = .slice (some ⟨g', 0, none⟩) (st.code.length + 1) cap) := by
  obtain ⟨i0, hi, hz0, hz1, hz2⟩ := info_parts info25
  have ha := h.below hb
  have hrl := h.rlt
  have hml := h.mlt
  have hbs := h.bs
  have oc := own_lt ha.code
  have of := own_lt ha.frm
  obtain ⟨v, U, hr, h2, h3, h4, h5⟩ := run_append_own_at (P := Tryz.prog) Wa base 22 22 41 i0 _ 6 48 Tryz.underlying22 hi hz0 hz1 hz2 rfl (by decide) vc st.code.length (ics st.code) ha.code ⟨g, 0, none⟩ 1 1 (ics [x]) rfl (row_at (l := ics [x]) (by simpa [ics] using hg)) (ic_one x) (by unfold maxLen; omega) (by omega) ha.bs
  have hrb : U.heap[rb]? = Wa.heap[rb]? := h3.block rb (by have := ha.bs; omega) (fun e => by have := (oc rb e.symm).1; omega)
  have hmb : U.heap[mb]? = Wa.heap[mb]? := h3.block mb (by have := ha.bs; omega) (fun e => by have := (oc mb e.symm).1; omega)
  obtain ⟨DD, m1, m2⟩ := ha.map
  refine ⟨v, U, hr, ⟨(World.cell?_of_block (w := Wa) (a := ⟨rb, 0, none⟩) hrb).trans ha.c0, (World.cell?_of_block (w := Wa) (a := ⟨rb, 1, none⟩) hrb).trans ha.c1, (World.cell?_of_block (w := Wa) (a := ⟨rb, 2, none⟩) hrb).trans ha.c2, (World.frozen?_of_block (w := Wa) (a := ⟨rb, 0, none⟩) hrb).trans ha.f0, (World.frozen?_of_block (w := Wa) (a := ⟨rb, 1, none⟩) hrb).trans ha.f1, ?_, own_keep ha.frm (fun k hk => h3.block k (of k hk).2 (fun e => ha.apart k e.symm hk)), ⟨DD, ownsMap_keep m1 hmb, m2⟩, ?_, h.rlt, h.mlt, h.ne, Nat.le_trans ha.bs h3.size⟩, ⟨h3.os.trans hb.os, h3.tape.trans hb.tape, h3.output.trans hb.output, Nat.le_trans hb.size h3.size, fun k hk h6 h7 => ?_⟩, fun k hk hne => h3.block k hk hne, h3.size, own_form h2⟩
  · show U.ownsRow _ _ _ _ _ _
    rw [ics_app]; simpa using h2
  · intro k hk hf
    rcases h5 with e | e
    · rw [e] at hk; exact ha.apart k hk hf
    · rw [e] at hk; cases hk; have := (of _ hf).2; omega
  · exact (h3.block k (by have := ha.bs; omega) (fun e => by have := (oc k e.symm).1; omega)).trans (hb.block k (by omega))

theorem cell_set_ne' (w : World) (b i j : Nat) (v : Value) (h : i ≠ j) : (w.setCell ⟨b, i, none⟩ v).cell? ⟨b, j, none⟩ = w.cell? ⟨b, j, none⟩ := World.cell?_setCell_other w _ _ _ (by intro e; cases e; exact h rfl)
theorem fin_of {U Wb : World} {rb mb base g : Nat} {vc vf v : Value} {st : Rs} {x : In} {o : Int × List UInt8} (h : Mid U rb mb base vc vf v st x) (hb : Below U.heap.size U Wb) (hg : Wb.heap[g]? = some (.cells (oc o).toArray 78 (0, 0))) (hl : st.frm.length ≤ 100000) :
    ∃ f Z, (Builtin.append_ #[73, 73] 73 #[vf, .slice (some ⟨g, 0, none⟩) 1 1]).run Tryz.prog Wb = .ok f Z ∧ (Z.cell? ⟨rb, 0, none⟩ = some vc ∧ Z.cell? ⟨rb, 1, none⟩ = some vf ∧ Z.frozen? ⟨rb, 0, none⟩ = false ∧ Z.frozen? ⟨rb, 1, none⟩ = false) ∧ RSt ((Z.setCell ⟨rb, 0, none⟩ v).setCell ⟨rb, 1, none⟩ f) rb mb base v f ⟨st.code ++ [x], st.frm ++ [o], st.tab⟩ ∧ FR rb mb base U ((Z.setCell ⟨rb, 0, none⟩ v).setCell ⟨rb, 1, none⟩ f) ∧ (∀ k, k < Wb.heap.size → some k ≠ vf.ownBlock → Z.heap[k]? = Wb.heap[k]?) ∧ Wb.heap.size ≤ Z.heap.size ∧ (∃ g' cap, f = .slice (some ⟨g', 0, none⟩) (st.frm.length + 1) cap) := by
  obtain ⟨i0, hi, hz0, hz1, hz2⟩ := info_parts info63
  have hrl := h.rlt
  have hml := h.mlt
  have hbs := h.bs
  have hne := h.ne
  have hsz := hb.size
  have oc1 := own_lt h.code
  have of1 := own_lt h.frm
  have frm' : OOwn Wb base vf st.frm := own_keep h.frm (fun k hk => hb.block k (of1 k hk).2)
  have code' : IOwn Wb base v (st.code ++ [x]) := own_keep h.code (fun k hk => hb.block k (oc1 k hk).2)
  have of := own_lt frm'
  have oc := own_lt code'
  obtain ⟨f, Z, hr, h2, h3, h4, h5⟩ := run_append_own_at (P := Tryz.prog) Wb base 73 73 78 i0 _ 2 24 Tryz.underlying73 hi hz0 hz1 hz2 rfl (by decide) vf st.frm.length (ocs st.frm) frm' ⟨g, 0, none⟩ 1 1 (ocs [o]) rfl (row_at (l := ocs [o]) (by simpa [ocs] using hg)) (oc_one o) (by unfold maxLen; omega) (by omega) (by omega)
  have hrb : Z.heap[rb]? = U.heap[rb]? := (h3.block rb (by omega) (fun e => by have := (of rb e.symm).1; omega)).trans (hb.block rb (by omega))
  have hmb : Z.heap[mb]? = U.heap[mb]? := (h3.block mb (by omega) (fun e => by have := (of mb e.symm).1; omega)).trans (hb.block mb (by omega))
  have k0 : Z.cell? ⟨rb, 0, none⟩ = some vc := (World.cell?_of_block (w := U) (a := ⟨rb, 0, none⟩) hrb).trans h.c0
  have k1 : Z.cell? ⟨rb, 1, none⟩ = some vf := (World.cell?_of_block (w := U) (a := ⟨rb, 1, none⟩) hrb).trans h.c1
  have k2 : Z.cell? ⟨rb, 2, none⟩ = some (.map (some mb)) := (World.cell?_of_block (w := U) (a := ⟨rb, 2, none⟩) hrb).trans h.c2
  have q0 : Z.frozen? ⟨rb, 0, none⟩ = false := (World.frozen?_of_block (w := U) (a := ⟨rb, 0, none⟩) hrb).trans h.f0
  have q1 : Z.frozen? ⟨rb, 1, none⟩ = false := (World.frozen?_of_block (w := U) (a := ⟨rb, 1, none⟩) hrb).trans h.f1
  obtain ⟨DD, m1, m2⟩ := h.map
  have hset : ∀ k, k ≠ rb → ((Z.setCell ⟨rb, 0, none⟩ v).setCell ⟨rb, 1, none⟩ f).heap[k]? = Z.heap[k]? := fun k hk => (Below.heap_setCell _ _ _ _ hk).trans (Below.heap_setCell _ _ _ _ hk)
  have hss : ((Z.setCell ⟨rb, 0, none⟩ v).setCell ⟨rb, 1, none⟩ f).heap.size = Z.heap.size := by simp [World.setCell]
  refine ⟨f, Z, hr, ⟨k0, k1, q0, q1⟩, ⟨?_, ?_, ?_, by simpa using q0, by simpa using q1, ?_, ?_, ⟨DD, ?_, m2⟩, ?_, h.rlt, h.mlt, h.ne, ?_⟩, ⟨h3.os.trans hb.os, h3.tape.trans hb.tape, h3.output.trans hb.output, ?_, fun k hk h6 h7 => ?_⟩, fun k hk hne => h3.block k hk hne, h3.size, own_form h2⟩
  · rw [cell_set_ne' _ _ _ _ _ (by omega)]; exact World.cell?_setCell_same Z _ _ k0
  · exact World.cell?_setCell_same _ _ _ ((cell_set_ne' _ _ _ _ _ (by omega)).trans k1)
  · rw [cell_set_ne' _ _ _ _ _ (by omega), cell_set_ne' _ _ _ _ _ (by omega)]; exact k2
  · refine own_keep (own_keep code' (w' := Z) (fun k hk => h3.block k (oc k hk).2 (fun e => h.apart k hk e.symm))) (fun k hk => hset k ?_)
    have := (oc k hk).1; omega
  · show World.ownsRow _ _ _ _ _ _ _
    rw [ocs_app]
    have h6 : Z.ownsRow base 78 2 f (st.frm ++ [o]).length (ocs st.frm ++ ocs [o]) := by simpa using h2
    exact own_keep h6 (fun k hk => hset k (by have := (own_lt h6 k hk).1; omega))
  · exact ownsMap_keep m1 ((hset mb hne).trans hmb)
  · intro k hk hf
    rcases h5 with e | e
    · rw [e] at hf; exact h.apart k hk hf
    · rw [e] at hf; cases hf; have := (oc1 _ hk).2; omega
  · rw [hss]; have := h3.size; omega
  · rw [hss]; have := h3.size; omega
  · exact (hset k h6).trans ((h3.block k (by omega) (fun e => by have := (of k e.symm).1; omega)).trans (hb.block k (by omega)))

theorem step_app {P : Program} {ops : Array Oper} {o : Oper} {a : Act} {w w' : World} {K : Act → World → Prop} {Q : Exit → Act → World → Prop} {E : Prop} (hgd : o.guard = none) (s x : Operand) (t : TypeId)
    (ho : o.op = .call { callee := .builtin .append, args := #[s, x], argTypes := #[t, t] }) (v y v' : Value) (hs : a.eval s = v) (hx : a.eval x = y)
    (hr : (Builtin.append_ #[t, t] o.type #[v, y]).run P w = .ok v' w') (h : K (a.put o.dst v') w') :
    if Region.wanted o (yielded ops a.tmps) = true then Oper.wp P o a w K Q else E := by
  have hw : Region.wanted o (yielded ops a.tmps) = true := by simp [Region.wanted, hgd]
  rw [if_pos hw]
  unfold Oper.wp execOp
  simp only [ho, resolve, invoke, builtin, Sem.run_bind, Sem.run_pure, Result.andThen_ok, List.map_toArray, List.map_cons, List.map_nil, hs, hx, hr]
  exact h
end Go.Proofs.YthcidcfaodjbjabGreatDoor
