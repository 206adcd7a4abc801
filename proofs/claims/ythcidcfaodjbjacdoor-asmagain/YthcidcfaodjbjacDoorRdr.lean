/- A reader of listings in memory; its labels. -/
import Derived.Test.YthcidcfaodjbjacDoorRd
import Derived.Test.YthcidcfaodjbjacDoorIChk
import Derived.OwnWalk
import Derived.Below
import Derived.Maps.Own
import Derived.Maps.OwnOps
import Derived.Maps.OwnSet
import Derived.Maps.Views
import Derived.Maps.AppendAt
import Derived.Deep.RegionHeld3
namespace Go.Proofs.YthcidcfaodjbjacDoor
open Go.RowKit Go.Maps Go.WideMaps
set_option linter.unusedVariables false

/-- instructions' cells -/
def ic (x : In) : List Value := [.int .i64 x.kind, .int .i64 x.op, .int .i64 x.a, .int .i64 x.b, .int .i64 x.c, .int .i64 x.k]
def ics : List In → List Value
  | [] => []
  | x :: l => ic x ++ ics l
theorem ics_len (l : List In) : (ics l).length = l.length * 6 := by
  induction l with
  | nil => rfl
  | cons x l ih => simp [ics, ic, ih]; omega
theorem ics_app (a b : List In) : ics (a ++ b) = ics a ++ ics b := by
  induction a with
  | nil => rfl
  | cons x a ih => simp [ics, ih]
theorem ic_one (x : In) : ∀ u ∈ ics [x], u.oneCell' = true := by
  intro u hu
  simp [ics, ic] at hu
  rcases hu with rfl | rfl | rfl | rfl | rfl | rfl <;> rfl
theorem ics_at : ∀ (l : List In) (i j : Nat) (hi : i < l.length), j < 6 → (ics l)[i * 6 + j]? = (ic l[i])[j]?
  | x :: l, 0, j, hi, hj => by
    simp only [Nat.zero_mul, Nat.zero_add, List.getElem_cons_zero, ics]
    rw [List.getElem?_append_left (by simp [ic]; omega)]
  | x :: l, i + 1, j, hi, hj => by
    simp only [ics, List.getElem_cons_succ]
    rw [List.getElem?_append_right (by simp [ic]; omega)]
    have : (i + 1) * 6 + j - (ic x).length = i * 6 + j := by simp [ic]; omega
    rw [this]
    exact ics_at l i j (by simpa using hi) hj
/-- a slice of instructions of the call's own -/
def IOwn (w : World) (base : Nat) (v : Value) (l : List In) : Prop := w.ownsRow base 50 6 v l.length (ics l)
theorem own_keep {w w' : World} {base e size n : Nat} {v : Value} {xs : List Value} (h : w.ownsRow base e size v n xs) (hb : ∀ k, v.ownBlock = some k → w'.heap[k]? = w.heap[k]?) : w'.ownsRow base e size v n xs := by
  obtain ⟨h1, h2⟩ := h
  refine ⟨h1, ?_⟩
  rcases h2 with h2 | ⟨g, cap, cur, e1, e2, e3, e4⟩
  · exact Or.inl h2
  · refine Or.inr ⟨g, cap, cur, e1, e2, ?_, e4⟩
    rw [hb g (by rw [e1]; rfl)]; exact e3
theorem IOwn.nil (w : World) (base : Nat) : IOwn w base (.slice none 0 0) [] := ⟨rfl, Or.inl ⟨rfl, rfl⟩⟩
theorem IOwn.isl {w : World} {base : Nat} {v : Value} {l : List In} (h : IOwn w base v l) : ISl w v l := by
  have hce := fun g => World.ownsRow.cells h (g := g)
  obtain ⟨h1, h2⟩ := h
  rcases h2 with ⟨h2, h3⟩ | ⟨g, cap, cur, e1, e2, e3, e4, e5, e6, e7⟩
  · obtain rfl := List.eq_nil_of_length_eq_zero h3
    subst h2
    exact ISl.nil w
  · refine ⟨_, cap, g, 0, e1, e4, e5, fun _ => rfl, fun i hi => ?_⟩
    have hc : ∀ j (hj : j < 6) (u : Value), (ic l[i])[j]? = some u → w.cell? ⟨g, 0 + i * 6 + j, none⟩ = some u := by
      intro j hj u hu
      have := hce g (by rw [e1]; rfl) (i * 6 + j) u ((ics_at l i j hi hj).trans hu)
      rw [addn, Nat.zero_add] at this
      rw [Nat.zero_add]; exact this
    exact ⟨hc 0 (by omega) _ rfl, hc 1 (by omega) _ rfl, hc 2 (by omega) _ rfl, hc 3 (by omega) _ rfl, hc 4 (by omega) _ rfl, hc 5 (by omega) _ rfl⟩
theorem own_sl {w : World} {base e size n : Nat} {v : Value} {xs : List Value} (h : w.ownsRow base e size v n xs) : ∃ a c, v = .slice a n c := by
  rcases h.2 with ⟨h2, h3⟩ | ⟨g, cap, cur, e1, _⟩
  · exact ⟨none, 0, by rw [h3]; exact h2⟩
  · exact ⟨_, _, e1⟩
/-- lines and labels' cells -/
def oc (o : Int × List UInt8) : List Value := [.int .i64 o.1, .string ⟨o.2.toArray⟩]
def ocs : List (Int × List UInt8) → List Value
  | [] => []
  | x :: l => oc x ++ ocs l
theorem ocs_len (l : List (Int × List UInt8)) : (ocs l).length = l.length * 2 := by
  induction l with
  | nil => rfl
  | cons x l ih => simp [ocs, oc, ih]; omega
theorem ocs_app (a b : List (Int × List UInt8)) : ocs (a ++ b) = ocs a ++ ocs b := by
  induction a with
  | nil => rfl
  | cons x a ih => simp [ocs, ih]
theorem oc_one (x : Int × List UInt8) : ∀ u ∈ ocs [x], u.oneCell' = true := by
  intro u hu
  simp [ocs, oc] at hu
  rcases hu with rfl | rfl <;> rfl
theorem ocs_at : ∀ (l : List (Int × List UInt8)) (i j : Nat) (hi : i < l.length), j < 2 → (ocs l)[i * 2 + j]? = (oc l[i])[j]?
  | x :: l, 0, j, hi, hj => by
    simp only [Nat.zero_mul, Nat.zero_add, List.getElem_cons_zero, ocs]
    rw [List.getElem?_append_left (by simp [oc]; omega)]
  | x :: l, i + 1, j, hi, hj => by
    simp only [ocs, List.getElem_cons_succ]
    rw [List.getElem?_append_right (by simp [oc]; omega)]
    have : (i + 1) * 2 + j - (oc x).length = i * 2 + j := by simp [oc]; omega
    rw [this]
    exact ocs_at l i j (by simpa using hi) hj
def OOwn (w : World) (base : Nat) (v : Value) (l : List (Int × List UInt8)) : Prop := w.ownsRow base 46 2 v l.length (ocs l)

/-- the map of labels -/
def kl (s : List UInt8) : Lit := .string s
def rl (r : Int) : DataW Unit := .lit (.int .i64 r)
structure Rep (T : List (List UInt8 × Int)) (D : DataW Unit) : Prop where
  has : ∀ s, Maps.has D (kl s) = (findT T s).isSome
  at_ : ∀ s r, findT T s = some r → D.atKey (kl s) (rl 0) = rl r
  size : Maps.size D = T.length
  tidy : Tidy D
theorem findT_snoc (T : List (List UInt8 × Int)) (s : List UInt8) (r : Int) (t : List UInt8) : findT (T ++ [(s, r)]) t = match findT T t with
    | some q => some q
    | none => if s = t then some r else none := by
  unfold findT
  rw [List.find?_append]
  generalize List.find? (fun x => x.1 == t) T = q
  cases q with
  | some q => rfl
  | none =>
    by_cases h : s = t
    · subst h; simp
    · have : (s == t) = false := by simpa using h
      simp [h]
theorem Rep.put {T : List (List UInt8 × Int)} {D : DataW Unit} (h : Rep T D) (s : List UInt8) (hf : findT T s = none) (r : Int) : Rep (T ++ [(s, r)]) (D.put (kl s) (rl r)) := by
  have hk : WideAt.IsKeyLit (kl s) := trivial
  refine ⟨fun t => ?_, fun t q hq => ?_, ?_, h.tidy.put hk _⟩
  · by_cases ht : s = t
    · subst ht
      rw [has_put_same h.tidy.isMap hk, findT_snoc, hf]; simp
    · rw [has_put_other (fun e => ht (by injection e with e; exact e.symm)), h.has, findT_snoc]
      cases findT T t with
      | some q => rfl
      | none => simp [ht]
  · by_cases ht : s = t
    · subst ht
      rw [findT_snoc, hf] at hq
      simp at hq
      subst hq
      rw [atKey_put_same h.tidy.isMap hk]
    · rw [atKey_put_other (fun e => ht (by injection e with e; exact e.symm))]
      refine h.at_ t q ?_
      rw [findT_snoc] at hq
      cases h2 : findT T t with
      | some p => rw [h2] at hq; exact hq
      | none => rw [h2] at hq; simp [ht] at hq
  · rw [size_put h.tidy, h.has, hf, h.size]; simp
theorem rep0 : Rep [] (.map [] : DataW Unit) := ⟨fun s => rfl, fun s r h => (by cases h), rfl, tidy_empty⟩
theorem law9 : Keyed Tryd.prog 9 := string_keyed Tryd.underlying9
theorem zero3 (w : World) : (zeroValue 3).run Tryd.prog w = .ok (.int .i64 0) w := by kernel_rfl
theorem ownsMap_keep {w w' : World} {b n : Nat} {D : DataW Unit} (h : w.ownsMap Tryd.prog 9 (plainElem Tryd.prog 3) b n D) (hb : w'.heap[b]? = w.heap[b]?) : w'.ownsMap Tryd.prog 9 (plainElem Tryd.prog 3) b n D := by
  obtain ⟨es, clock, h1, h2⟩ := h
  exact ⟨es, clock, hb.trans h1, h2⟩

/-- a reader's state -/
structure RSt (w : World) (rb mb base : Nat) (vc vf : Value) (st : Rs) : Prop where
  c0 : w.cell? ⟨rb, 0, none⟩ = some vc
  c1 : w.cell? ⟨rb, 1, none⟩ = some vf
  c2 : w.cell? ⟨rb, 2, none⟩ = some (.map (some mb))
  f0 : w.frozen? ⟨rb, 0, none⟩ = false
  f1 : w.frozen? ⟨rb, 1, none⟩ = false
  code : IOwn w base vc st.code
  frm : OOwn w base vf st.frm
  map : ∃ D, w.ownsMap Tryd.prog 9 (plainElem Tryd.prog 3) mb st.tab.length D ∧ Rep st.tab D
  apart : ∀ k, vc.ownBlock = some k → vf.ownBlock ≠ some k
  rlt : rb < base
  mlt : mb < base
  ne : mb ≠ rb
  bs : base ≤ w.heap.size
/-- what a reader's call leaves alone -/
structure FR (rb mb base : Nat) (w w' : World) : Prop where
  os : w'.os = w.os
  tape : w'.tape = w.tape
  output : w'.output = w.output
  size : w.heap.size ≤ w'.heap.size
  block : ∀ k, k < base → k ≠ rb → k ≠ mb → w'.heap[k]? = w.heap[k]?
theorem FR.refl (rb mb base : Nat) (w : World) : FR rb mb base w w := ⟨rfl, rfl, rfl, Nat.le_refl _, fun _ _ _ _ => rfl⟩
theorem FR.trans {rb mb base : Nat} {a b c : World} (h : FR rb mb base a b) (k : FR rb mb base b c) : FR rb mb base a c :=
  ⟨k.os.trans h.os, k.tape.trans h.tape, k.output.trans h.output, Nat.le_trans h.size k.size, fun i h1 h2 h3 => (k.block i h1 h2 h3).trans (h.block i h1 h2 h3)⟩
theorem FR.of {rb mb base : Nat} {a b : World} (h : Below a.heap.size a b) (hb : base ≤ a.heap.size) : FR rb mb base a b :=
  ⟨h.os, h.tape, h.output, h.size, fun i h1 _ _ => h.block i (by omega)⟩
theorem own_lt {w : World} {base e size n : Nat} {v : Value} {xs : List Value} (h : w.ownsRow base e size v n xs) : ∀ k, v.ownBlock = some k → base ≤ k ∧ k < w.heap.size := World.ownsRow.lt h
theorem RSt.keep {w w' : World} {rb mb base : Nat} {vc vf : Value} {st : Rs} (h : RSt w rb mb base vc vf st) (h1 : w'.heap[rb]? = w.heap[rb]?) (h2 : w'.heap[mb]? = w.heap[mb]?) (h3 : ∀ k, vc.ownBlock = some k → w'.heap[k]? = w.heap[k]?) (h4 : ∀ k, vf.ownBlock = some k → w'.heap[k]? = w.heap[k]?) (hs : w.heap.size ≤ w'.heap.size) : RSt w' rb mb base vc vf st := by
  obtain ⟨D, m1, m2⟩ := h.map
  exact ⟨(World.cell?_of_block (w := w) (a := ⟨rb, 0, none⟩) h1).trans h.c0, (World.cell?_of_block (w := w) (a := ⟨rb, 1, none⟩) h1).trans h.c1, (World.cell?_of_block (w := w) (a := ⟨rb, 2, none⟩) h1).trans h.c2, (World.frozen?_of_block (w := w) (a := ⟨rb, 0, none⟩) h1).trans h.f0, (World.frozen?_of_block (w := w) (a := ⟨rb, 1, none⟩) h1).trans h.f1, own_keep h.code h3, own_keep h.frm h4, ⟨D, ownsMap_keep m1 h2, m2⟩, h.apart, h.rlt, h.mlt, h.ne, Nat.le_trans h.bs hs⟩
theorem RSt.below {w w' : World} {rb mb base : Nat} {vc vf : Value} {st : Rs} (h : RSt w rb mb base vc vf st) (hb : Below w.heap.size w w') : RSt w' rb mb base vc vf st :=
  h.keep (hb.block _ (Nat.lt_of_lt_of_le h.rlt h.bs)) (hb.block _ (Nat.lt_of_lt_of_le h.mlt h.bs)) (fun k hk => hb.block _ (own_lt h.code k hk).2) (fun k hk => hb.block _ (own_lt h.frm k hk).2) hb.size
theorem RSt.drew {w : World} {rb mb base : Nat} {vc vf : Value} {st : Rs} (h : RSt w rb mb base vc vf st) : RSt w.drew rb mb base vc vf st :=
  h.below ((Below.refl _ _).drew)
/-- what becomes of a line -/
def LrP (rb mb base : Nat) (w : World) (e : Ending) (w' : World) : Lr → Prop
  | .err x => e = .returned (.int .i64 x) ∧ (x == 0) = false ∧ FR rb mb base w w'
  | .ok st => e = .returned (.int .i64 0) ∧ ∃ vc vf, RSt w' rb mb base vc vf st ∧ FR rb mb base w w'

/-- a label is noted -/
theorem RSt.noted {w w1 : World} {rb mb base : Nat} {vc vf : Value} {st : Rs} {s : List UInt8} {D : DataW Unit} {r : Int} (h : RSt w rb mb base vc vf st) (hf : findT st.tab s = none) (hr : Rep st.tab D)
    (hown : w1.ownsMap Tryd.prog 9 (plainElem Tryd.prog 3) mb (st.tab.length + 1) (D.put (kl s) (rl r))) (hg : w.grownBy w1 (some mb)) :
    RSt w1 rb mb base vc vf ⟨st.code, st.frm, st.tab ++ [(s, r)]⟩ ∧ FR rb mb base w w1 := by
  have hrl := h.rlt
  have hml := h.mlt
  have hbs := h.bs
  have hne := h.ne
  have hpb : w1.heap[rb]? = w.heap[rb]? := hg.block rb (by omega) (by intro e; cases e; exact hne rfl)
  have oc := own_lt h.code
  have of := own_lt h.frm
  refine ⟨⟨(World.cell?_of_block (w := w) (a := ⟨rb, 0, none⟩) hpb).trans h.c0, (World.cell?_of_block (w := w) (a := ⟨rb, 1, none⟩) hpb).trans h.c1, (World.cell?_of_block (w := w) (a := ⟨rb, 2, none⟩) hpb).trans h.c2, (World.frozen?_of_block (w := w) (a := ⟨rb, 0, none⟩) hpb).trans h.f0, (World.frozen?_of_block (w := w) (a := ⟨rb, 1, none⟩) hpb).trans h.f1,
    own_keep h.code (fun k hk => hg.block k (oc k hk).2 (by intro e; cases e; have := (oc mb hk).1; omega)), own_keep h.frm (fun k hk => hg.block k (of k hk).2 (by intro e; cases e; have := (of mb hk).1; omega)),
    ⟨_, ?_, hr.put s hf r⟩, h.apart, h.rlt, h.mlt, h.ne, Nat.le_trans hbs hg.size⟩, ⟨hg.os, hg.tape, hg.output, hg.size, fun k hk h1 h2 => hg.block k (by omega) (by intro e; cases e; exact h2 rfl)⟩⟩
  simpa using hown

set_option maxRecDepth 100000 in
set_option maxHeartbeats 2000000 in
theorem label_line (rb mb base : Nat) (vc vf : Value) (st : Rs) (s : ByteArray) (hs : s.size ≤ maxLen) (w : World) (h : RSt w rb mb base vc vf st) (hl : st.tab.length ≤ 100000) (hc : st.code.length ≤ 100000) :
    Calls Tryd.prog 23 #[.pointer (some ⟨rb, 0, none⟩), .string s] w fun e w' => LrP rb mb base w e w' (labelL st s.data.toList) := by
  obtain ⟨D, m1, m2⟩ := h.map
  have HM : Hid (w.ownsMap Tryd.prog 9 (plainElem Tryd.prog 3) mb st.tab.length D) := m1
  have HK : Hid (keyOf Tryd.prog 9 (.string s) = some (kl s.data.toList)) := keyOf_string_mk Tryd.underlying9 hs
  have HW : Hid (RSt w rb mb base vc vf st) := h
  have c2 := h.c2
  unfold labelL
  obtain ⟨b, hb⟩ : ∃ b, labB s.data.toList = b := ⟨_, rfl⟩
  have HC : Hid (∀ w, Calls Tryd.prog 40 #[.string s] w fun e w' => e = .returned (.bool b) ∧ w' = w) := fun w => by rw [← hb]; exact label_any s hs w
  rw [hb]
  clear hb
  cases b with
  | false =>
    show Calls Tryd.prog 23 #[.pointer (some ⟨rb, 0, none⟩), .string s] w fun e w' => e = .returned (.int .i64 90) ∧ (90 == (0 : Int)) = false ∧ FR rb mb base w w'
    clear h m1 m2 c2
    go_enter Tryd.func23, Tryd.ntmps23
    go_wp2_with (go_at_call 40; refine (HC.out _).mono ?_; rintro e w' ⟨rfl, rfl⟩)
    go_ret
    exact ⟨rfl, rfl, FR.refl _ _ _ _⟩
  | true =>
    rw [if_pos rfl]
    rcases hf : findT st.tab s.data.toList with _ | r
    · have HH : Hid (Maps.has D (kl s.data.toList) = false) := by show _ = _; rw [m2.has, hf]; rfl
      have HF : Hid (findT st.tab s.data.toList = none) := hf
      have HR : Hid (Rep st.tab D) := m2
      have c0 := h.c0
      obtain ⟨ca, cc, rfl⟩ := own_sl h.code
      have HMD : Hid (w.drew.ownsMap Tryd.prog 9 (plainElem Tryd.prog 3) mb st.tab.length D) := m1
      obtain ⟨cl, hcl⟩ : ∃ n, st.code.length = n := ⟨_, rfl⟩
      rw [hcl] at c0 hc HW
      have HCL : Hid (st.code.length = cl) := hcl
      obtain ⟨w1, e1, o1, g1⟩ := HMD.out.update law9 Tryd.underlying42 (by unfold maxLen; omega) HK.out (plainElem_int Tryd.underlying3 (WalkArith.wf_i64 (n := (cl : Int)) (by omega)))
      have HN : Hid (RSt w1 rb mb base (.slice ca cl cc) vf ⟨st.code, st.frm, st.tab ++ [(s.data.toList, (cl : Int))]⟩ ∧ FR rb mb base w.drew w1) := HW.out.drew.noted HF.out HR.out o1 g1
      have HFR : Hid (FR rb mb base w w1) := ⟨HN.out.2.os, HN.out.2.tape, HN.out.2.output, HN.out.2.size, HN.out.2.block⟩
      rw [hcl]
      show Calls Tryd.prog 23 #[.pointer (some ⟨rb, 0, none⟩), .string s] w fun e w' => e = .returned (.int .i64 0) ∧ ∃ vc vf, RSt w' rb mb base vc vf ⟨st.code, st.frm, st.tab ++ [(s.data.toList, (cl : Int))]⟩ ∧ FR rb mb base w w'
      clear h m1 m2 hf hcl o1 g1
      go_enter Tryd.func23, Tryd.ntmps23
      go_wp2_with (first | (go_at_call 40; refine (HC.out _).mono ?_; rintro e w' ⟨rfl, rfl⟩) | (at_lookup; refine wpList_lookup_own_ok_int _ rfl _ _ 42 rfl 9 3 .i64 law9 Tryd.underlying42 Tryd.underlying3 (zero3 _) mb _ D rfl HM.out _ _ rfl HK.out ?_; intro c hat hwc; rw [HH.out]; clear hat))
      have d0 := HN.out.1.c0
      have d2 := HN.out.1.c2
      go_region_held3 (fun w'' => w''.cell? ⟨rb, 0, none⟩ = some (.slice ca cl cc) ∧ w''.cell? ⟨rb, 2, none⟩ = some (.map (some mb))) (go_keep) (fail)
      go_wp2
      go_ret
      exact ⟨rfl, _, _, HN.out.1, HFR.out⟩
    · have HH : Hid (Maps.has D (kl s.data.toList) = true) := by show _ = _; rw [m2.has, hf]; rfl
      show Calls Tryd.prog 23 #[.pointer (some ⟨rb, 0, none⟩), .string s] w fun e w' => e = .returned (.int .i64 91) ∧ (91 == (0 : Int)) = false ∧ FR rb mb base w w'
      clear h m1 m2 hf
      go_enter Tryd.func23, Tryd.ntmps23
      go_wp2_with (first | (go_at_call 40; refine (HC.out _).mono ?_; rintro e w' ⟨rfl, rfl⟩) | (at_lookup; refine wpList_lookup_own_ok_int _ rfl _ _ 42 rfl 9 3 .i64 law9 Tryd.underlying42 Tryd.underlying3 (zero3 _) mb _ D rfl HM.out _ _ rfl HK.out ?_; intro c hat hwc; rw [HH.out]; clear hat))
      go_ret
      exact ⟨rfl, rfl, FR.refl _ _ _ _⟩
end Go.Proofs.YthcidcfaodjbjacDoor
