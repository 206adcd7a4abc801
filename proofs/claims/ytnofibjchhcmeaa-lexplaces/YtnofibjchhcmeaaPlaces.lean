/- The statement LexPlaces: whatever the text, each token's text stands at its place, and they rise. No condition. -/
import Derived.Test.YtnofibjchhcmeaaRows
import Derived.Test.YtnofibjchhcmeaaName
import Derived.WalkKit
import Derived.ProofKit
import Derived.OpenShut
import Derived.ShutString
import Derived.ChangeOld
import Derived.Below
namespace Go.Proofs.Ytnofibjchhcmeaa.lexPlaces
open Go.ChangeShapes Go.WideShapes Go.ChangeAt Go.RowKit
open Go.ChangeMaps (open_string shut_string)
set_option linter.unusedVariables false

theorem own : ownKnob Try.prog.godebug = none := by kernel_rfl
theorem laidOut : laidOutB Try.prog = true := by kernel_rfl

theorem one_ne {R : List UInt8} {o : Nat} {e : Int} (h : tokOf R = .bad o e) (hR : R ≠ []) : e ≠ 0 := by
  cases R with
  | nil => exact absurd rfl hR
  | cons b T =>
    replace h : (if isD b = true then numTok (b :: T) else if isL b = true then wordTok (b :: T) else signTok (b :: T)) = .bad o e := h
    unfold numTok wordTok signTok at h
    dsimp only at h
    repeat' split at h
    all_goals first | (cases h; done) | (injection h with h1 h2; subst h2; decide)
theorem cutG_err : ∀ (f p : Nat) (R : List UInt8) (k : Nat) (e : Int), R.length < f → cutG f p R = .err k e → e ≠ 0 := by
  intro f
  induction f with
  | zero => intro p R k e h; omega
  | succ f ih =>
    intro p R k e h he
    cases R with
    | nil => cases he
    | cons b T =>
      rw [cutG_cons] at he
      rcases e1 : tokOf (b :: T) with ⟨kd, m, n⟩ | ⟨o, e'⟩
      · rw [e1] at he
        dsimp only at he
        rcases e2 : cutS f (p + n) ((b :: T).drop n) with l | ⟨k', e'⟩
        · rw [e2] at he; cases he
        · rw [e2] at he
          cases he
          have ht := tokOf_tok e1
          exact ih _ _ _ _ (by simp at h ⊢; omega) e2
      · rw [e1] at he
        cases he
        exact one_ne e1 (by simp)
theorem cut_err (L : List UInt8) (k : Nat) (e : Int) (h : cut L = .err k e) : e ≠ 0 := by
  unfold cut at h
  split at h
  · cases h; decide
  · exact cutG_err _ _ _ _ _ (by simp; omega) h

theorem placed_drop {L : List UInt8} : ∀ {k a : Nat} {l : List Tok} (hk : k < l.length), placed L a (l.drop k) →
    a ≤ l[k].pos ∧ l[k].pos + l[k].text.length ≤ L.length ∧ (L.drop l[k].pos).take l[k].text.length = l[k].text ∧ (l[k].kind = 0 ↔ k + 1 = l.length) ∧ placed L (l[k].pos + l[k].text.length) (l.drop (k + 1)) := by
  intro k a l hk h
  rw [List.drop_eq_getElem_cons hk] at h
  obtain ⟨h1, h2, h3, h4, h5⟩ := h
  refine ⟨h1, h2, h3, h4.trans ⟨fun e => ?_, fun e => ?_⟩, h5⟩
  · have := congrArg List.length e
    simp at this
    omega
  · exact List.drop_of_length_le (by omega)

set_option maxHeartbeats 1000000 in
theorem walk_err (s : ByteArray) (hm : s.size ≤ maxLen) (w : World) (k : Nat) (er : Int) (hc : cut s.data.toList = .err k er) :
    Calls Try.prog 5 #[.string s] w fun e w' => e = .returned (.bool true) ∧ Below w.heap.size w w' := by
  have hne := cut_err _ _ _ hc
  have hne' : (er == 0) = false := by simpa using hne
  have HC : Hid (cut s.data.toList = .err k er) := hc
  clear hc
  go_enter Try.func5, Try.ntmps5
  go_wp2_with fail
  refine (cut_any s w hm).mono ?_
  rw [HC.out]
  rintro e w1 ⟨rfl, hb1⟩
  have HB1 : Hid (Below w.heap.size w w1) := hb1
  clear hb1
  go_wp2_with fail
  refine (alive_any _).mono ?_
  rintro e w2 ⟨rfl, hb2⟩
  have HB2 : Hid (Below w.heap.size w w2) := HB1.out.trans (hb2.mono HB1.out.size)
  clear hb2
  go_wp2
  go_ret
  exact ⟨rfl, HB2.out⟩

set_option maxRecDepth 100000 in
set_option maxHeartbeats 2000000 in
theorem walk_ok (s : ByteArray) (hm : s.size ≤ 8192) (w : World) (l : List Tok) (hc : cut s.data.toList = .ok l) :
    Calls Try.prog 5 #[.string s] w fun e w' => e = .returned (.bool true) ∧ Below w.heap.size w w' := by
  have hpl := cut_placed _ _ hc
  have HP : Hid (placed s.data.toList 0 l) := hpl.1
  have HNE : Hid (l ≠ []) := hpl.2
  have HC : Hid (cut s.data.toList = .ok l) := hc
  clear hc hpl
  have hL : s.data.toList.length = s.size := by simp
  go_enter Try.func5, Try.ntmps5
  go_wp2_with fail
  refine (cut_any s w (by unfold maxLen; omega)).mono ?_
  rw [HC.out]
  rintro e w1 ⟨v, rfl, hto, hb1⟩
  obtain ⟨g, cap, rfl, hc1, hc2, hg1, hg2, hcell⟩ := hto.read HNE.out
  have HCE : Hid (∀ i (hi : i < l.length), w1.cell? ⟨g, i * 4, none⟩ = some (.int .i64 l[i].kind) ∧ w1.cell? ⟨g, i * 4 + 1, none⟩ = some (.string ⟨l[i].text.toArray⟩) ∧ w1.cell? ⟨g, i * 4 + 2, none⟩ = some (.int .i64 l[i].num) ∧ w1.cell? ⟨g, i * 4 + 3, none⟩ = some (.int .i64 (l[i].pos : Int))) := hcell
  have HB1 : Hid (Below w.heap.size w w1) := hb1
  have hlen : l.length ≤ maxLen := by omega
  unfold maxLen at hlen hc2
  clear hto hb1 hcell
  go_wp2
  go_loopw [6, 7] (fun t i wr => ∃ (a k : Nat), k ≤ l.length ∧ a ≤ s.size ∧ t = .int .i64 (a : Int) ∧ i = .int .i64 (k : Int) ∧ Hid (placed s.data.toList a (l.drop k)) ∧ Hid (Below w1.heap.size w1 wr)) (fun _ i _ => l.length - (intOf i).toNat)
  case atStart => exact ⟨0, 0, Nat.zero_le _, Nat.zero_le _, rfl, rfl, HP, Below.refl _ _⟩
  case round =>
    obtain ⟨a, k, hk, ha, rfl, rfl, HPk, HBk⟩ := hrel
    by_cases hlt : k < l.length
    · obtain ⟨p1, p2, p3, p4, p5⟩ := placed_drop hlt HPk.out
      have hc := HCE.out k hlt
      obtain ⟨t, ht⟩ : ∃ t, l[k] = t := ⟨_, rfl⟩
      rw [ht] at p1 p2 p3 p4 p5 hc
      have HP5 : Hid (placed s.data.toList (t.pos + t.text.length) (l.drop (k + 1))) := p5
      obtain ⟨kd, tx, nm, ps⟩ := t
      dsimp only at p1 p2 p3 p4 hc
      obtain ⟨T, hT⟩ : ∃ T : ByteArray, (⟨tx.toArray⟩ : ByteArray) = T := ⟨_, rfl⟩
      have hTs : T.size = tx.length := by rw [← hT]; show tx.toArray.size = _; simp
      have hTl : T.toList = tx := by rw [← hT, ByteArray.toList_eq]
      rw [hT] at hc
      have k0 : wr.cell? ⟨g, k * 4, none⟩ = some (.int .i64 kd) := (HBk.out.cell (p := ⟨g, k * 4, none⟩) hg2).trans hc.1
      have k1 : wr.cell? ⟨g, k * 4 + 1, none⟩ = some (.string T) := (HBk.out.cell (p := ⟨g, k * 4 + 1, none⟩) hg2).trans hc.2.1
      have k2 : wr.cell? ⟨g, k * 4 + 2, none⟩ = some (.int .i64 nm) := (HBk.out.cell (p := ⟨g, k * 4 + 2, none⟩) hg2).trans hc.2.2.1
      have k3 : wr.cell? ⟨g, k * 4 + 3, none⟩ = some (.int .i64 (ps : Int)) := (HBk.out.cell (p := ⟨g, k * 4 + 3, none⟩) hg2).trans hc.2.2.2
      have HP6 : Hid (placed s.data.toList (ps + T.size) (l.drop (k + 1))) := by rw [hTs]; exact HP5
      have hx : s.extract ps (ps + T.size) = T := by
        apply ByteArray.ext
        apply Array.toList_inj.1
        rw [extract_list, hTs, p3, ← hT]
      have p2' : ps + T.size ≤ s.size := by rw [hTs]; omega
      obtain ⟨q, hq⟩ : ∃ q, ps + T.size = q := ⟨_, rfl⟩
      obtain ⟨k1, hk1⟩ : ∃ k1, k + 1 = k1 := ⟨_, rfl⟩
      have wq : IntKind.i64.wrap ((ps : Int) + (T.size : Int)) = (q : Int) := by rw [IntKind.wrap_i64]; omega
      have wk : IntKind.i64.wrap ((k : Int) + 1) = (k1 : Int) := by rw [IntKind.wrap_i64]; omega
      have f1 : decide (ps < a) = false := decide_eq_false (by omega)
      have f2 : decide (s.size < q) = false := decide_eq_false (by omega)
      have f2' : decide ((s.size : Int) < (q : Int)) = false := decide_eq_false (by omega)
      have f3 : (T.toList == T.toList) = true := by simp
      have f4 : (T.toList != T.toList) = false := by simp
      rw [hq] at hx HP6 p2'
      rw [hk1] at HP6
      have hpq : ps ≤ q := by omega
      have HQ : Hid (ps + T.size = q) := hq
      have HK1 : Hid (k + 1 = k1) := hk1
      clear hc p5 HPk hT hTs hTl p3 p2 HP5
      have hdn : ∀ (o : Obj) (n : Nat), Below w1.heap.size w1 ((wr.alloc o).drewN n) := by
        intro o n
        induction n with
        | zero => exact HBk.out.alloc HBk.out.size o
        | succ n ih => exact ih.drew
      have HDN : Hid (∀ (o : Obj) (n : Nat), Below w1.heap.size w1 ((wr.alloc o).drewN n)) := hdn
      clear hdn
      by_cases hlast : k1 = l.length
      · have hkd : kd = 0 := p4.2 (by omega)
        subst hkd
        have f5 : ((k1 : Int) == (l.length : Int)) = true := by simp; omega
        have f5' : (k1 == l.length) = true := by simp; omega
        clear p4 hk1 hq
        go_wp2
        go_quiet (fail)
        go_wp2
        go_roundw
        case rel => exact ⟨q, k1, by omega, by omega, rfl, by rw [hlast], HP6, HDN.out _ _⟩
        case measure => simp [intOf]; omega
      · have hkd : ¬ kd = 0 := fun e => hlast (hk1 ▸ p4.1 e)
        have f6 : (kd == 0) = false := by simpa using hkd
        have f5 : ((k1 : Int) == (l.length : Int)) = false := by simp; omega
        have f5' : (k1 == l.length) = false := by simp; omega
        clear p4 hk1 hq
        go_wp2
        go_quiet (fail)
        go_wp2
        go_roundw
        case rel => exact ⟨q, k1, by have := HK1.out; omega, by omega, rfl, rfl, HP6, HDN.out _ _⟩
        case measure => have := HK1.out; simp [intOf]; omega
    · have hk' : k = l.length := by omega
      have hpl := HPk.out
      rw [hk', List.drop_length] at hpl
      have hend : a = s.size := by rw [← hL]; exact hpl
      have hlp : 0 < l.length := List.length_pos_iff.2 HNE.out
      have f7 : ((a : Int) == (s.size : Int)) = true := by simp; omega
      subst hend
      subst hk'
      have HBW : Hid (Below w.heap.size w wr) := HB1.out.trans (HBk.out.mono HB1.out.size)
      clear hpl HPk HBk
      go_wp2_with fail
      refine (alive_any _).mono ?_
      rintro e w2 ⟨rfl, hb2⟩
      have HB2 : Hid (Below w.heap.size w w2) := HBW.out.trans (hb2.mono HBW.out.size)
      clear hb2
      go_wp2
      go_ret
      exact ⟨rfl, HB2.out⟩

theorem walk (a0 : ByteArray) (w0 : a0.size ≤ maxLen) (w : World) :
    Calls Try.prog 5 #[.string a0] w fun e w' => e = .returned (.bool true) ∧ Below w.heap.size w w' := by
  rcases e : cut a0.data.toList with l | ⟨k, er⟩
  · refine walk_ok a0 ?_ w l e
    rcases Nat.lt_or_ge 8192 a0.size with h | h
    · have hl : a0.data.toList.length = a0.size := by simp
      unfold cut at e
      rw [if_pos (by omega)] at e
      cases e
    · exact h
  · exact walk_err a0 w0 w k er e

/-! ### THE ROW's STEP: WRITTEN OUT -/
set_option maxRecDepth 100000 in
theorem lifted (os : Os) (started : os.Started) (H : Type) (enc : TypeId × Value → H) :
    ReturnsInHanded {} Try.checked os 5 .any (Rows.lexPlacesSpec.pre6 enc Try.prog Try.f5 Rows.lexPlacesRow.domain false) (Rows.lexPlacesSpec.post enc Try.prog Try.f5 false true false false) := by
  refine returnsInHanded_of_change (C := Try.checked) own started (by kernel_rfl) Try.func5
    (ChangeSpec.witness6 (enc := enc) (C := Try.checked) false ⟨#[], #[.string ByteArray.empty], []⟩ 8 (by kernel_rfl) (by kernel_rfl) (by kernel_rfl) (by kernel_rfl)) ?_
  intro W base args ds gs before hval0 hW hcnd _
  have hval : ∀ (j : Nat) t v, Try.f5.params[j]? = some t → args[j]? = some v → Value.okWide Try.prog W .any base t v := hval0
  have hW' := hW
  obtain ⟨p, q, hA0, hV, rfl, hfz, hnd⟩ := hW
  have hA : DataW.TrodAll enc Try.prog W 0 (fun _ => true) true Try.f5.params.toList args.toList ds p := hA0
  rw [Try.params5] at hA hval
  obtain ⟨v0, vs0, d0, ds0, p0, q0, hargs, rfl, rfl, h0, r0⟩ := trodAll_cons hA
  obtain ⟨rfl, rfl, rfl⟩ := trodAll_nil r0
  obtain rfl : args = #[v0] := by cases args; simp_all
  obtain ⟨rfl, rfl⟩ := trodVars_none hV
  obtain ⟨a0, rfl, rfl, rfl, w0⟩ := open_string Try.underlying9 (hval 0 9 v0 rfl rfl) h0
  clear hA0 hval0
  refine (walk a0 w0 W).mono fun e W' ⟨he, bel⟩ => ?_
  subst he
  exact ⟨_, rfl, _, _, _, [], _, [], hW', trodAll_mk1 (shut_bool Try.underlying4 _), (trodAll_cons_mk (shut_string Try.underlying9 w0) trodAll_mk0), rfl, bel.frame _, fun h => by cases h⟩

theorem over : Rows.lexPlacesRow.holds Try.pinned (OpenSpec.ofChange Rows.lexPlacesSpec) :=
  OpenClaim.holds_of_wide 5 Try.f5 rfl rfl rfl rfl rfl rfl rfl ⟨rfl, rfl, rfl, rfl, rfl⟩ rfl rfl rfl rfl rfl (by kernel_rfl) Try.func5 (by kernel_rfl)
    (of_decide_eq_true (by kernel_rfl)) (by unfold Func.isWrapper; first | (rw [if_pos (by decide +kernel)]; kernel_rfl) | (rw [if_neg (by decide +kernel)]; exact ⟨rfl, rfl⟩))
    (fun os started H enc _ => lifted os started H enc)

/-- ████ THE STATEMENT ████ -/
theorem proved : Rows.LexPlacesSaid := over
#print axioms proved
end Go.Proofs.Ytnofibjchhcmeaa.lexPlaces
